/-
  For every input the call of lavabolaw17.GiveAll returns true and leaves its arguments as they were; no condition.
-/
import Derived.Test.YtnecmjanmkmjpaaGvLay
import Derived.Deep.CutRange
import Derived.Deep.DeepCutAuto
import Derived.RegionTactic
import Derived.Test.YtnecmjanmkmjpaaRows
import Derived.WalkKit
import Derived.ProofKit
import Derived.OpenShut
import Derived.ShutString
import Derived.ChangeOld
import Derived.Below
namespace Go.Proofs.Ytnecmjanmkmjpaa.giveAll
open Go.ChangeShapes Go.WideShapes Go.ChangeAt Go.RowKit
open Go.ChangeMaps (open_string shut_string)
open Go.Proofs.Ytnecmjanmkmjpaa.Mem Go.Proofs.Ytnecmjanmkmjpaa.Blk Go.Proofs.Ytnecmjanmkmjpaa.Cells Go.Proofs.Ytnecmjanmkmjpaa.GsC Go.Proofs.Ytnecmjanmkmjpaa.GvM Go.Proofs.Ytnecmjanmkmjpaa.GvC Go.Proofs.Ytnecmjanmkmjpaa.GvI Go.Proofs.Ytnecmjanmkmjpaa.GvN Go.Proofs.Ytnecmjanmkmjpaa.GvL Go.Proofs.Ytnecmjanmkmjpaa.Told17 Go.Proofs.Ytnecmjanmkmjpaa.Stages Go.Proofs.Ytnecmjanmkmjpaa.Trees
set_option linter.unusedVariables false

theorem own : ownKnob Try.prog.godebug = none := by kernel_rfl
theorem laidOut : laidOutB Try.prog = true := by kernel_rfl

/-- WHAT THE WALK IS TOLD OF A SLICE OF INTEGERS THAT CAME IN: it is nil; or it leads to a row of 'cap' cells, the numbers 'zs' (the first 'len' are its elements, the rest its spare room), each fitting its kind. -/
def IsRow (k : IntKind) (w : World) (a : Option Addr) (len cap : Nat) (zs : List Int) : Prop :=
  (a = none ∧ len = 0 ∧ cap = 0 ∧ zs = []) ∨
  ∃ x, a = some x ∧ len ≤ cap ∧ cap ≤ maxLen ∧ zs.length = cap ∧ (∀ i, i < zs.length → w.cell? (x.add i) = some (.int k (zs.getD i 0))) ∧ ∀ n ∈ zs, (Lit.int k n).wf = true

/-! ### STEP 1: THE WALK: the Go text returns true, AND WRITES NOTHING THAT WAS THERE: 'Below w.heap.size w w'' (Derived/Below.lean: '.refl', '.alloc', '.drew', '.setCell' at a new block, '.trans'). Open each 'IsRow' by 'rcases' AHEAD of 'go_enter'; part every test ahead of the walk. -/
set_option maxHeartbeats 4000000 in
theorem walk (a0 : Option Addr) (len0 cap0 : Nat) (z0 : List Int) (a1 : Int) (w : World) (w0 : IsRow .i64 w a0 len0 cap0 z0) (w1 : (Lit.int .i64 a1).wf = true) :
    Calls Try.prog 3 #[.slice a0 len0 cap0, .int .i64 a1] w fun e w' => e = .returned (.bool true) ∧ Below w.heap.size w w' := by
  obtain ⟨hs, hle, hcap, hwf⟩ := Sl.of_isRow w0
  unfold maxLen at hcap
  have k1 := bounds_i64 w1
  generalize z0.take len0 = zs at hs hwf
  have HS := Lib.hid hs
  clear hs hwf w0
  obtain ⟨N, hN, hN4⟩ := tmod_nat a1 4 (by omega)
  simp only [Int.cast_ofNat_Int] at hN
  have hNz : (N : Int) < 4 := by omega
  have HN4 := Lib.hid hN4
  clear hN4
  by_cases h8 : len0 < 8
  · have h8z : (len0 : Int) < 8 := by omega
    clear h8
    go_enter Try.func3, Try.ntmps3
    go_wp2_with (go_at_call 5; (with_reducible refine (told_any _).mono ?_); rintro e w5 ⟨rfl, hge⟩; have HGE := Lib.hid hge; clear hge)
    go_ret
    exact ⟨rfl, Grow.below HGE.out⟩
  · have h8z : (8 : Int) ≤ (len0 : Int) := by omega
    have h8' : 8 ≤ len0 := by omega
    have hlz : (len0 : Int) ≤ 9223372036854775807 := by omega
    obtain ⟨b, o, rfl, hb, hc⟩ := HS.out.at_ (by omega)
    have HB := Lib.hid hb
    have HC : Hid (∀ t, t < 8 → w.cell? ⟨b, o + t, none⟩ = some (.int .i64 (zs.getD t 0))) := fun t ht => hc t (by omega)
    obtain ⟨fa, hfa⟩ : ∃ f : Nat → Int, f = fun t => (IntKind.u64.wrap (zs.getD t 0)).tmod 7 := ⟨_, rfl⟩
    obtain ⟨fb, hfb⟩ : ∃ f : Nat → Int, f = fun t => (IntKind.u64.wrap (zs.getD (4 + t) 0)).tmod 7 := ⟨_, rfl⟩
    have HFA : Hid (∀ t z, zs.getD t 0 = z → ∃ K : Nat, fa t = (K : Int) ∧ (IntKind.u64.wrap z).tmod 7 = (K : Int) ∧ K < 7) := fun t z e => by
      obtain ⟨K, h1, h2⟩ := tmod_nat z 7 (by omega)
      simp only [Int.cast_ofNat_Int] at h1
      exact ⟨K, by rw [hfa]; dsimp only; rw [e]; exact h1, h1, h2⟩
    have HFB : Hid (∀ t z, zs.getD (4 + t) 0 = z → ∃ K : Nat, fb t = (K : Int) ∧ (IntKind.u64.wrap z).tmod 7 = (K : Int) ∧ K < 7) := fun t z e => by
      obtain ⟨K, h1, h2⟩ := tmod_nat z 7 (by omega)
      simp only [Int.cast_ofNat_Int] at h1
      exact ⟨K, by rw [hfb]; dsimp only; rw [e]; exact h1, h1, h2⟩
    have HZ : Hid (∀ t, 0 ≤ fa t ∧ fa t < 7 ∧ 0 ≤ fb t ∧ fb t < 7) := fun t => by
      obtain ⟨K, h1, _, h2⟩ := HFA.out t _ rfl
      obtain ⟨L, h3, _, h4⟩ := HFB.out t _ rfl
      omega
    clear hfa hfb hc hb h8 h8' HS
    go_enter Try.func3, Try.ntmps3
    go_wp2
    go_loopg [6, 7, 8, 9] 4 (fun gx s6 s7 s8 s9 wr => ∃ (j : Nat) (A : Option Addr) (c : Nat) (B : Option Addr) (d : Nat), j + gx = 4 ∧ s9 = .int .i64 (j : Int) ∧ s8 = .int .i64 (lft N fa fb j) ∧ s6 = .slice A j c ∧ s7 = .slice B j d ∧ Two wr w.heap.size A c j (row fa j) B d j (row fb j) ∧ Grow w wr)
    case atStart => exact ⟨0, none, 0, none, 0, by omega, rfl, rfl, rfl, rfl, two_nil _ _, Kept.refl _ _⟩
    case round =>
    obtain ⟨j, A, c, B, d, hg, rfl, rfl, rfl, rfl, ht, hgr⟩ := hrel
    have HG := Lib.hid hg
    have HT := Lib.hid ht
    have HGR := Lib.hid hgr
    clear hg ht hgr
    by_cases hj : j < 4
    · have hjz : (j : Int) < 4 := by omega
      have HJ := Lib.hid hj
      have r1 := HGR.out.cellN (HC.out j (by omega)) id
      have r2 := HGR.out.cellN (HC.out (4 + j) (by omega)) id
      obtain ⟨z1, hz1⟩ : ∃ z, zs.getD j 0 = z := ⟨_, rfl⟩
      obtain ⟨z2, hz2⟩ : ∃ z, zs.getD (4 + j) 0 = z := ⟨_, rfl⟩
      rw [hz1] at r1
      rw [hz2] at r2
      obtain ⟨Y1, e1, t1, l1⟩ := HFA.out j z1 hz1
      obtain ⟨Y2, e2, t2, l2⟩ := HFB.out j z2 hz2
      have HK := Lib.hid (And.intro e1 e2)
      have l1z : (Y1 : Int) < 100 := by omega
      have l2z : (Y2 : Int) < 100 := by omega
      clear hz1 hz2 e1 e2 l1 l2
      have HBn : ¬ w.heap.size ≤ b := by have := HB.out; omega
      have q1 := up_cell (F := fun k => w.heap.size ≤ k) (w := wr.drew) (p := ⟨b, o + j, none⟩) r1 HBn
      have q2 := up_cell (F := fun k => w.heap.size ≤ k) (w := wr.drew) (p := ⟨b, o + (4 + j), none⟩) r2 HBn
      clear r1 r2 HBn
      have HE : Hid (∀ A c B d wx, Two wx w.heap.size A c (j + 1) (row fa j ++ [(Y1 : Int)]) B d (j + 1) (row fb j ++ [(Y2 : Int)]) → Two wx w.heap.size A c (j + 1) (row fa (j + 1)) B d (j + 1) (row fb (j + 1))) := fun A c B d wx h => by
        rw [row_succ HK.out.1, row_succ HK.out.2] at h
        exact h
      go_upto_region 9 with (fail)
      go_cut [6, 7] (fun s1 s2 wx => ∃ A c B d, s1 = .slice A (j + 1) c ∧ s2 = .slice B (j + 1) d ∧ Two wx w.heap.size A c (j + 1) (row fa (j + 1)) B d (j + 1) (row fb (j + 1)) ∧ Grow w wx)
      case first =>
        refine wp_region_tree (Kept (w.heap.size ≤ ·)) (Kept (w.heap.size ≤ ·)) (kept_refl _) (kept_trans _) (kept_refl _) (kept_trans _) (fun _ _ h => h) [] (.two true [0, 1, 2, 3, 4, 5, 6, 7, 10, 11, 12, 13, 14, 15, 16, 17, 18] 8 (.two true [] 9 (.one true [] 19 (.one true [] 20 (.last true [21, 22]))) 19 (.one true [] 9 (.one true [] 20 (.last true [21, 22])))) 19 (.one true [] 8 (.one true [] 9 (.one true [] 20 (.last true [21, 22]))))) (by kernel_rfl) (by kernel_rfl) ?_
        refine tr_twoE fun K1 hK1 K2 hK2 => ?_
        simp only [sel, List.map_cons, List.map_nil, List.getD_cons_succ, List.getD_cons_zero]
        repeat (go_big_quiet_step (fail))
        refine wpQuiet_nil ?_
        refine ⟨?_, ?_⟩
        · go_wp2
          refine norm_up (hK1 _ _ (Lr_early (by decide) (show Kept (w.heap.size ≤ ·) wr.drew (wr.alloc (.cells #[.int .i64 (Y1 : Int)] 3)).drew from (Kept.refl _ wr.drew).alloc (.cells #[.int .i64 (Y1 : Int)] 3))) ?_)
          clear hK1 hK2 K1 K2
          have HX1 : Hid ((wr.alloc (.cells #[.int .i64 (Y1 : Int)] 3)).drew.cell? ⟨wr.heap.size, 0, none⟩ = some (.int .i64 (Y1 : Int))) := cell_new1 wr _ _
          have HGa : Hid (Grow wr (wr.alloc (.cells #[.int .i64 (Y1 : Int)] 3)).drew) := ((Kept.refl _ wr).alloc _).drew
          generalize (wr.alloc (.cells #[.int .i64 (Y1 : Int)] 3)).drew = x1 at HX1 HGa ⊢
          have HTx1 := Lib.hid (HT.out.grow HGa.out)
          have HRx1 := Lib.hid (HGR.out.trans HGa.out)
          clear HGa
          refine tr_twoE fun K1 hK1 K2 hK2 => ?_
          simp only [sel, List.map_cons, List.map_nil, List.getD_cons_succ, List.getD_cons_zero]
          refine wpQuiet_nil ?_
          refine ⟨?_, ?_⟩
          · obtain ⟨A', c', x2, hr, ht, hk⟩ := Two.appA 22 HTx1.out (by omega) (show w.heap.size ≤ x1.heap.size from HRx1.out.size) HX1.out
            have HAx2 := Lib.hid hr
            have HTx2 := Lib.hid ht
            have HKx2 := Lib.hid hk
            clear hr ht hk
            go_wp2_with (at_builtin; refine Lib.wpList_append_run _ rfl _ _ _ _ rfl _ _ rfl rfl _ _ HAx2.out ?_)
            refine norm_up (hK1 _ _ (Lr_early (by decide) (HKx2.out.mono fun k _ e => HTx1.out.ha k e)) ?_)
            clear hK1 hK2 K1 K2
            have HRx2 := Lib.hid (HRx1.out.then HKx2.out fun k hk e => by have := HTx1.out.ha k e; omega)
            refine tr_oneE fun K hK => ?_
            simp only [sel, List.map_cons, List.map_nil, List.getD_cons_succ, List.getD_cons_zero]
            refine wpQuiet_nil ?_
            go_wp2
            refine norm_up (hK _ _ (Lr_early (by decide) ((Kept.refl _ _).alloc _)) ?_)
            clear hK K
            have HX2 : Hid ((x2.alloc (.cells #[.int .i64 (Y2 : Int)] 3)).cell? ⟨x2.heap.size, 0, none⟩ = some (.int .i64 (Y2 : Int))) := cell_new1 x2 _ _
            have HGa : Hid (Grow x2 (x2.alloc (.cells #[.int .i64 (Y2 : Int)] 3))) := (Kept.refl _ x2).alloc _
            generalize x2.alloc (.cells #[.int .i64 (Y2 : Int)] 3) = x3 at HX2 HGa ⊢
            have HTx3 := Lib.hid (HTx2.out.grow HGa.out)
            have HRx3 := Lib.hid (HRx2.out.trans HGa.out)
            clear HGa
            refine tr_oneE fun K hK => ?_
            simp only [sel, List.map_cons, List.map_nil, List.getD_cons_succ, List.getD_cons_zero]
            refine wpQuiet_nil ?_
            obtain ⟨B', d', x4, hr, ht, hk⟩ := Two.appB 22 HTx3.out (by omega) (show w.heap.size ≤ x3.heap.size from HRx3.out.size) HX2.out
            have HAx4 := Lib.hid hr
            have HTx4 := Lib.hid ht
            have HKx4 := Lib.hid hk
            clear hr ht hk
            go_wp2_with (at_builtin; refine Lib.wpList_append_run _ rfl _ _ _ _ rfl _ _ rfl rfl _ _ HAx4.out ?_)
            refine norm_up (hK _ _ (Lr_early (by decide) (HKx4.out.mono fun k _ e => HTx3.out.hb k e)) ?_)
            clear hK K
            have HRx4 := Lib.hid (HRx3.out.then HKx4.out fun k hk e => by have := HTx3.out.hb k e; omega)
            refine tr_last fun K hK => ?_
            simp only [sel, List.map_cons, List.map_nil, List.getD_cons_succ, List.getD_cons_zero]
            repeat (go_big_quiet_step (fail))
            refine wpQuiet_nil (hK _ ?_)
            clear hK K
            go_wp2
            go_meet
            exact ⟨_, _, _, _, rfl, rfl, HE.out _ _ _ _ _ HTx4.out, HRx4.out⟩
          · go_wp2
            refine norm_up (hK2 _ _ (Lr_early (by decide) ((Kept.refl _ _).alloc _)) ?_)
            clear hK1 hK2 K1 K2
            have HX2 : Hid ((x1.alloc (.cells #[.int .i64 (Y2 : Int)] 3)).cell? ⟨x1.heap.size, 0, none⟩ = some (.int .i64 (Y2 : Int))) := cell_new1 x1 _ _
            have HGa : Hid (Grow x1 (x1.alloc (.cells #[.int .i64 (Y2 : Int)] 3))) := (Kept.refl _ x1).alloc _
            have HV2 : Hid (¬ blk A c x1.heap.size) := fun hk => Nat.lt_irrefl _ (HTx1.out.a.lt hk)
            generalize x1.alloc (.cells #[.int .i64 (Y2 : Int)] 3) = x2 at HX2 HGa ⊢
            have HTx2 := Lib.hid (HTx1.out.grow HGa.out)
            have HRx2 := Lib.hid (HRx1.out.trans HGa.out)
            have HY1 := Lib.hid (HGa.out.cellN HX1.out id)
            clear HX1
            have HX1 := Lib.hid HY1.out
            clear HY1
            clear HGa
            refine tr_oneE fun K hK => ?_
            simp only [sel, List.map_cons, List.map_nil, List.getD_cons_succ, List.getD_cons_zero]
            refine wpQuiet_nil ?_
            obtain ⟨A', c', x3, hr, ht, hk⟩ := Two.appA 22 HTx2.out (by omega) (show w.heap.size ≤ x2.heap.size from HRx2.out.size) HX1.out
            have HAx3 := Lib.hid hr
            have HTx3 := Lib.hid ht
            have HKx3 := Lib.hid hk
            clear hr ht hk
            go_wp2_with (at_builtin; refine Lib.wpList_append_run _ rfl _ _ _ _ rfl _ _ rfl rfl _ _ HAx3.out ?_)
            refine norm_up (hK _ _ (Lr_early (by decide) (HKx3.out.mono fun k _ e => HTx2.out.ha k e)) ?_)
            clear hK K
            have HRx3 := Lib.hid (HRx2.out.then HKx3.out fun k hk e => by have := HTx2.out.ha k e; omega)
            have HY2 := Lib.hid (HKx3.out.cellN HX2.out HV2.out)
            clear HX2
            have HX2 := Lib.hid HY2.out
            clear HY2
            refine tr_oneE fun K hK => ?_
            simp only [sel, List.map_cons, List.map_nil, List.getD_cons_succ, List.getD_cons_zero]
            refine wpQuiet_nil ?_
            obtain ⟨B', d', x4, hr, ht, hk⟩ := Two.appB 22 HTx3.out (by omega) (show w.heap.size ≤ x3.heap.size from HRx3.out.size) HX2.out
            have HAx4 := Lib.hid hr
            have HTx4 := Lib.hid ht
            have HKx4 := Lib.hid hk
            clear hr ht hk
            go_wp2_with (at_builtin; refine Lib.wpList_append_run _ rfl _ _ _ _ rfl _ _ rfl rfl _ _ HAx4.out ?_)
            refine norm_up (hK _ _ (Lr_early (by decide) (HKx4.out.mono fun k _ e => HTx3.out.hb k e)) ?_)
            clear hK K
            have HRx4 := Lib.hid (HRx3.out.then HKx4.out fun k hk e => by have := HTx3.out.hb k e; omega)
            refine tr_last fun K hK => ?_
            simp only [sel, List.map_cons, List.map_nil, List.getD_cons_succ, List.getD_cons_zero]
            repeat (go_big_quiet_step (fail))
            refine wpQuiet_nil (hK _ ?_)
            clear hK K
            go_wp2
            go_meet
            exact ⟨_, _, _, _, rfl, rfl, HE.out _ _ _ _ _ HTx4.out, HRx4.out⟩
        · go_wp2
          refine norm_up (hK2 _ _ (Lr_early (by decide) (show Kept (w.heap.size ≤ ·) wr.drew (wr.alloc (.cells #[.int .i64 (Y2 : Int)] 3)).drew from (Kept.refl _ wr.drew).alloc (.cells #[.int .i64 (Y2 : Int)] 3))) ?_)
          clear hK1 hK2 K1 K2
          have HX2 : Hid ((wr.alloc (.cells #[.int .i64 (Y2 : Int)] 3)).drew.cell? ⟨wr.heap.size, 0, none⟩ = some (.int .i64 (Y2 : Int))) := cell_new1 wr _ _
          have HGa : Hid (Grow wr (wr.alloc (.cells #[.int .i64 (Y2 : Int)] 3)).drew) := ((Kept.refl _ wr).alloc _).drew
          have HV2 : Hid (¬ blk A c wr.heap.size) := fun hk => Nat.lt_irrefl _ (HT.out.a.lt hk)
          generalize (wr.alloc (.cells #[.int .i64 (Y2 : Int)] 3)).drew = x1 at HX2 HGa ⊢
          have HTx1 := Lib.hid (HT.out.grow HGa.out)
          have HRx1 := Lib.hid (HGR.out.trans HGa.out)
          clear HGa
          refine tr_oneE fun K hK => ?_
          simp only [sel, List.map_cons, List.map_nil, List.getD_cons_succ, List.getD_cons_zero]
          refine wpQuiet_nil ?_
          go_wp2
          refine norm_up (hK _ _ (Lr_early (by decide) ((Kept.refl _ _).alloc _)) ?_)
          clear hK K
          have HX1 : Hid ((x1.alloc (.cells #[.int .i64 (Y1 : Int)] 3)).cell? ⟨x1.heap.size, 0, none⟩ = some (.int .i64 (Y1 : Int))) := cell_new1 x1 _ _
          have HGa : Hid (Grow x1 (x1.alloc (.cells #[.int .i64 (Y1 : Int)] 3))) := (Kept.refl _ x1).alloc _
          generalize x1.alloc (.cells #[.int .i64 (Y1 : Int)] 3) = x2 at HX1 HGa ⊢
          have HTx2 := Lib.hid (HTx1.out.grow HGa.out)
          have HRx2 := Lib.hid (HRx1.out.trans HGa.out)
          have HY2 := Lib.hid (HGa.out.cellN HX2.out id)
          clear HX2
          have HX2 := Lib.hid HY2.out
          clear HY2
          clear HGa
          refine tr_oneE fun K hK => ?_
          simp only [sel, List.map_cons, List.map_nil, List.getD_cons_succ, List.getD_cons_zero]
          refine wpQuiet_nil ?_
          obtain ⟨A', c', x3, hr, ht, hk⟩ := Two.appA 22 HTx2.out (by omega) (show w.heap.size ≤ x2.heap.size from HRx2.out.size) HX1.out
          have HAx3 := Lib.hid hr
          have HTx3 := Lib.hid ht
          have HKx3 := Lib.hid hk
          clear hr ht hk
          go_wp2_with (at_builtin; refine Lib.wpList_append_run _ rfl _ _ _ _ rfl _ _ rfl rfl _ _ HAx3.out ?_)
          refine norm_up (hK _ _ (Lr_early (by decide) (HKx3.out.mono fun k _ e => HTx2.out.ha k e)) ?_)
          clear hK K
          have HRx3 := Lib.hid (HRx2.out.then HKx3.out fun k hk e => by have := HTx2.out.ha k e; omega)
          have HY2 := Lib.hid (HKx3.out.cellN HX2.out HV2.out)
          clear HX2
          have HX2 := Lib.hid HY2.out
          clear HY2
          refine tr_oneE fun K hK => ?_
          simp only [sel, List.map_cons, List.map_nil, List.getD_cons_succ, List.getD_cons_zero]
          refine wpQuiet_nil ?_
          obtain ⟨B', d', x4, hr, ht, hk⟩ := Two.appB 22 HTx3.out (by omega) (show w.heap.size ≤ x3.heap.size from HRx3.out.size) HX2.out
          have HAx4 := Lib.hid hr
          have HTx4 := Lib.hid ht
          have HKx4 := Lib.hid hk
          clear hr ht hk
          go_wp2_with (at_builtin; refine Lib.wpList_append_run _ rfl _ _ _ _ rfl _ _ rfl rfl _ _ HAx4.out ?_)
          refine norm_up (hK _ _ (Lr_early (by decide) (HKx4.out.mono fun k _ e => HTx3.out.hb k e)) ?_)
          clear hK K
          have HRx4 := Lib.hid (HRx3.out.then HKx4.out fun k hk e => by have := HTx3.out.hb k e; omega)
          refine tr_last fun K hK => ?_
          simp only [sel, List.map_cons, List.map_nil, List.getD_cons_succ, List.getD_cons_zero]
          repeat (go_big_quiet_step (fail))
          refine wpQuiet_nil (hK _ ?_)
          clear hK K
          go_wp2
          go_meet
          exact ⟨_, _, _, _, rfl, rfl, HE.out _ _ _ _ _ HTx4.out, HRx4.out⟩
      case rest =>
        obtain ⟨A2, c2, B2, d2, rfl, rfl, ht, hgr⟩ := hcut
        have HT2 := Lib.hid ht
        have HG2 := Lib.hid hgr
        clear ht hgr HT HGR HE q1 q2 t1 t2 l1z l2z HK
        by_cases e : j = N
        · have HS : Hid (lft N fa fb (j + 1) = lft N fa fb j) := lft_out e
          have e' : ((j : Int) != (N : Int)) = false := by rw [e]; exact bne_self_eq_false _
          clear e
          go_wp2
          go_roundg (gk - 1)
          case measure => have := HG.out; omega
          case rel => exact ⟨j + 1, A2, c2, B2, d2, by have := HG.out; omega, by go_num, by rw [HS.out], rfl, rfl, HT2.out, HG2.out⟩
        · have HS : Hid (lft N fa fb (j + 1) = lft N fa fb j + fa j + fb j) := lft_in e
          have e' : ((j : Int) != (N : Int)) = true := bne_iff_ne.2 fun h => e (by omega)
          obtain ⟨hl1, hl2⟩ := lft_le (k := N) (m := j) (I := fa) (J := fb) (c := 6) fun i _ => by have := HZ.out i; omega
          have hz := HZ.out j
          generalize lft N fa fb j = s at *
          have HSB : Hid (0 ≤ s ∧ s ≤ 48) := by show _ ∧ _; omega
          obtain ⟨ba, oa, rfl, ha⟩ := Gs.cell HT2.out.a (by omega)
          obtain ⟨bb, ob, rfl, hb2⟩ := Gs.cell HT2.out.b (by omega)
          have r1 := ha j (by omega)
          have r2 := hb2 j (by omega)
          generalize fa j = y1 at *
          generalize fb j = y2 at *
          have hs1 : s ≤ 48 := HSB.out.2
          have hs0 : 0 ≤ s := HSB.out.1
          obtain ⟨hz1, hz2, hz3, hz4⟩ := hz
          have q1 := up_cell (F := fun _ => False) (w := wc.drew) r1 id
          have q2 := up_cell (F := fun _ => False) (w := wc.drew) r2 id
          clear r1 r2 ha hb2 hl1 hl2 e
          go_upto_region 11 with (fail)
          refine wp_region_stages Grow (kept_refl _) (kept_trans _) [] [0, 1, 2, 3, 4, 5, 6, 7, 8, 9, 10, 11] (by kernel_rfl) (by kernel_rfl) ?_
          simp only [selSt, sel, List.map_cons, List.map_nil, List.getD_cons_succ, List.getD_cons_zero]
          refine st_nil fun K2 hK2 => ?_
          repeat (go_big_quiet_step (fail))
          refine wpQuiet_nil (hK2 _ ?_)
          clear hK2 K2 q1 q2
          go_wp2
          go_roundg (gk - 1)
          case measure => have := HG.out; omega
          case rel => exact ⟨j + 1, _, c2, _, d2, by have := HG.out; omega, by go_num, by rw [HS.out], rfl, rfl, HT2.out.grow (Kept.refl _ _).drew, HG2.out.drew⟩
    · obtain rfl : j = 4 := by have := HG.out; omega
      clear hj
      obtain ⟨ba, oa, rfl, ha, hba⟩ := Nums.of_gs HT.out.a
      obtain ⟨bb, ob, rfl, hb2, hbb⟩ := Nums.of_gs HT.out.b
      have HNE : Hid (w.heap.size ≤ ba ∧ w.heap.size ≤ bb ∧ ba ≠ bb) := ⟨HT.out.ha _ hba, HT.out.hb _ hbb, fun e => HT.out.apart _ hba (e ▸ hbb)⟩
      have HA0 := Lib.hid ha
      have HB0 := Lib.hid hb2
      clear ha hb2 hba hbb HT
      obtain ⟨hl1, hl2⟩ := lft_le (k := N) (m := 4) (I := fa) (J := fb) (c := 6) fun i _ => by have := HZ.out i; omega
      obtain ⟨S, hS⟩ : ∃ S, lft N fa fb 4 = S := ⟨_, rfl⟩
      rw [hS] at hl1 hl2
      have HSS := Lib.hid hS
      have hl2' : S ≤ 48 := by omega
      clear hS hl2
      rw [HSS.out]
      go_wp2
      go_loopg [10, 11] 50 (fun gx s10 s11 wx => ∃ (t : Nat) (F I : Nat → Int), t + gx = 50 ∧ s11 = .int .i64 (t : Int) ∧ s10 = .int .i64 (t : Int) ∧ lft N F I 4 + (t : Int) = S ∧ (∀ j, j < 4 → 0 ≤ F j ∧ F j ≤ 6 ∧ 0 ≤ I j ∧ I j ≤ 6) ∧ Nums wx ba oa F ∧ Nums wx bb ob I ∧ Grow w wx)
      case atStart => exact ⟨0, fa, fb, by omega, rfl, rfl, by rw [HSS.out]; omega, fun j _ => by have := HZ.out j; omega, HA0.out, HB0.out, HGR.out⟩
      case round =>
        obtain ⟨t, F, I, hg, rfl, rfl, hl, hbd, hna, hnb, hgr⟩ := hrel
        have HG1 := Lib.hid hg
        have HL1 := Lib.hid hl
        have HBD := Lib.hid hbd
        have HNA := Lib.hid hna
        have HNB := Lib.hid hnb
        have HGR1 := Lib.hid hgr
        obtain ⟨hl3, _⟩ := lft_le (k := N) (m := 4) (I := F) (J := I) (c := 6) hbd
        have htz : (t : Int) ≤ 48 := by omega
        have htz2 : (t : Int) < 50 := by omega
        clear hg hl hna hnb hgr HA0 HB0 HGR hl3
        have CF := Lib.hid fun (cc dd : Nat) => from_good (c := cc) (d := dd) (need := (N : Int)) HNA.out.has HNB.out.has (by omega) (by omega) (fun j hj => (hbd j hj).1) (fun j hj => (hbd j hj).2.2.1) (by omega) (by have := HN4.out; omega)
        have hfs := frm_spec (n := 4) (F := F) (I := I) (need := (N : Int)) (fun j hj => (hbd j hj).1) (fun j hj => (hbd j hj).2.2.1)
        clear hbd
        rcases hfs with ⟨q, hq4, hqf, hqn, hfI⟩ | ⟨hqf, hz⟩
        · rw [hqf] at CF
          have hq4z : (q : Int) < 4 := by omega
          have HQ4 := Lib.hid hq4
          have HQN : Hid (q ≠ N) := fun e => hqn (by omega)
          have hqn' : ((q : Int) == (N : Int)) = false := beq_eq_false_iff_ne.2 hqn
          clear hqf hq4
          rcases hfI with ⟨hf, hfI⟩ | hf
          · clear hqn
            have r0 := HNA.out.cell HQ4.out
            have f0 := HNA.out.frozen (oa + q)
            have c1 : 0 < F q := hf
            have hb0 := HBD.out q HQ4.out
            have HBL : Hid (∀ j, j < 4 → 0 ≤ less F q j ∧ less F q j ≤ 6 ∧ 0 ≤ I j ∧ I j ≤ 6) := fun j hj => by
              have h := HBD.out j hj
              by_cases e : j = q
              · subst e; rw [less_same]; omega
              · rw [less_other e]; exact h
            generalize hfq : F q = y at *
            have HFQ := Lib.hid hfq
            have hy6 : y ≤ 6 := by omega
            clear hfq hf hfI
            have HLE : Hid (lft N (less F q) I 4 = lft N F I 4 - 1) := by
              have := lft_less1 (k := N) (q := q) (I := F) (J := I) HQN.out 4
              rw [if_pos HQ4.out] at this; exact this
            go_upto_region 24 with (first | (go_at_call 6; (with_reducible refine (CF.out _ _).mono ?_); rintro e wf ⟨rfl, rfl⟩))
            have HNA2 : Hid (Nums (wr.setCell ⟨ba, oa + q, none⟩ (.int .i64 (y - 1))) ba oa (less F q)) := by rw [← HFQ.out]; exact HNA.out.less q
            have HNB2 : Hid (Nums (wr.setCell ⟨ba, oa + q, none⟩ (.int .i64 (y - 1))) bb ob I) := HNB.out.other (p := ⟨ba, oa + q, none⟩) (fun e => HNE.out.2.2 e.symm) _
            have HGR2 : Hid (Grow w (wr.setCell ⟨ba, oa + q, none⟩ (.int .i64 (y - 1)))) := HGR1.out.setCell (fun h => by have h : ba < w.heap.size := h; have := HNE.out.1; omega) _
            clear r0 f0
            generalize wr.setCell ⟨ba, oa + q, none⟩ (.int .i64 (y - 1)) = w2 at HNA2 HNB2 HGR2 ⊢
            have r2 := HNB2.out.cell HQ4.out
            have hi0 : 0 ≤ I q := by omega
            generalize I q = v at *
            go_wp2
            go_roundg (gk - 1)
            case measure => have := HG1.out; omega
            case rel => exact ⟨t + 1, less F q, I, by have := HG1.out; omega, by go_num, by go_num, by have h1 := HL1.out; have h2 := HLE.out; omega, HBL.out, HNA2.out, HNB2.out, HGR2.out⟩
          · have hfI : True := trivial
            have r0 := HNA.out.cell HQ4.out
            have r1 := HNB.out.cell HQ4.out
            have f1 := HNB.out.frozen (ob + q)
            have hf0 : F q = 0 := hf.1 q HQ4.out (by omega)
            have c1 : 0 < I q := hf.2.1
            have hb0 := HBD.out q HQ4.out
            rw [hf0] at r0
            have HBL : Hid (∀ j, j < 4 → 0 ≤ F j ∧ F j ≤ 6 ∧ 0 ≤ less I q j ∧ less I q j ≤ 6) := fun j hj => by
              have h := HBD.out j hj
              by_cases e : j = q
              · subst e; rw [less_same]; omega
              · rw [less_other e]; exact h
            generalize hfq : I q = y at *
            have HFQ := Lib.hid hfq
            have hy6 : y ≤ 6 := by omega
            have hy1 : 0 ≤ y - 1 := by omega
            clear hfq hf hfI hf0
            have HLE : Hid (lft N F (less I q) 4 = lft N F I 4 - 1) := by
              have := lft_less2 (k := N) (q := q) (I := F) (J := I) HQN.out 4
              rw [if_pos HQ4.out] at this; exact this
            go_upto_region 24 with (first | (go_at_call 6; (with_reducible refine (CF.out _ _).mono ?_); rintro e wf ⟨rfl, rfl⟩))
            have HNB2 : Hid (Nums (wr.setCell ⟨bb, ob + q, none⟩ (.int .i64 (y - 1))) bb ob (less I q)) := by rw [← HFQ.out]; exact HNB.out.less q
            have HNA2 : Hid (Nums (wr.setCell ⟨bb, ob + q, none⟩ (.int .i64 (y - 1))) ba oa F) := HNA.out.other (p := ⟨bb, ob + q, none⟩) (fun e => HNE.out.2.2 e) _
            have HGR2 : Hid (Grow w (wr.setCell ⟨bb, ob + q, none⟩ (.int .i64 (y - 1)))) := HGR1.out.setCell (fun h => by have h : bb < w.heap.size := h; have := HNE.out.2.1; omega) _
            clear r0 r1 f1
            generalize wr.setCell ⟨bb, ob + q, none⟩ (.int .i64 (y - 1)) = w2 at HNA2 HNB2 HGR2 ⊢
            have r2 := HNB2.out.cell HQ4.out
            rw [less_same, HFQ.out] at r2
            go_wp2
            go_roundg (gk - 1)
            case measure => have := HG1.out; omega
            case rel => exact ⟨t + 1, F, less I q, by have := HG1.out; omega, by go_num, by go_num, by have h1 := HL1.out; have h2 := HLE.out; omega, HBL.out, HNA2.out, HNB2.out, HGR2.out⟩
        · rw [hqf] at CF
          have HL0 : Hid (lft N F I 4 = 0) := lft_zero fun j hj hne => hz j hj fun e => hne (by omega)
          have hts : ((t : Int) == S) = true := beq_iff_eq.2 (by have h1 := HL1.out; have h2 := HL0.out; omega)
          clear hqf hz
          go_wp2_with (first
            | (go_at_call 6; (with_reducible refine (CF.out _ _).mono ?_); rintro e wf ⟨rfl, rfl⟩)
            | (go_at_call 5; (with_reducible refine (told_any _).mono ?_); rintro e w5 ⟨rfl, hge⟩; have HGE := Lib.hid hge; clear hge))
          go_ret
          exact ⟨rfl, Grow.below (HGR1.out.trans HGE.out)⟩

/-! ### THE ROW's STEP: WRITTEN OUT: LEAVE IT -/
set_option maxRecDepth 100000 in
theorem lifted (os : Os) (started : os.Started) (H : Type) (enc : TypeId × Value → H) :
    ReturnsInHanded {} Try.checked os 3 .any (Rows.giveAllSpec.pre6 enc Try.prog Try.f3 Rows.giveAllRow.domain false) (Rows.giveAllSpec.post enc Try.prog Try.f3 false true false false) := by
  refine returnsInHanded_of_change (C := Try.checked) own started (by kernel_rfl) Try.func3
    (ChangeSpec.witness6 (enc := enc) (C := Try.checked) false ⟨#[], #[.slice none 0 0, .int .i64 0], []⟩ 8 (by kernel_rfl) (by kernel_rfl) (by kernel_rfl) (by kernel_rfl)) ?_
  intro W base args ds gs before hval0 hW hcnd _
  have hval : ∀ (j : Nat) t v, Try.f3.params[j]? = some t → args[j]? = some v → Value.okWide Try.prog W .any base t v := hval0
  have hW' := hW
  obtain ⟨p, q, hA0, hV, rfl, hfz, hnd⟩ := hW
  have hA : DataW.TrodAll enc Try.prog W 0 (fun _ => true) true Try.f3.params.toList args.toList ds p := hA0
  rw [Try.params3] at hA hval
  obtain ⟨v0, vs0, d0, ds0, p0, q0, hargs, rfl, rfl, h0, r0⟩ := trodAll_cons hA
  obtain ⟨v1, vs1, d1, ds1, p1, q1, rfl, rfl, rfl, h1, r1⟩ := trodAll_cons r0
  obtain ⟨rfl, rfl, rfl⟩ := trodAll_nil r1
  obtain rfl : args = #[v0, v1] := by cases args; simp_all
  obtain ⟨rfl, rfl⟩ := trodVars_none hV
  obtain ⟨a0, len0, cap0, rfl⟩ := okWide_slice Try.underlying22 (hval 0 22 v0 rfl rfl)
  have k0 := h0
  have lt0 : ∀ x ∈ p0, x.block < W.heap.size := by obtain ⟨m, hm⟩ := k0; exact DataW.trod_lt m _ _ _ hm
  obtain ⟨z0, w0⟩ : ∃ zs, IsRow .i64 W a0 len0 cap0 zs := by
    obtain ⟨fuel, hf⟩ := h0
    rcases open_ints Try.underlying22 Try.underlying3 (by kernel_rfl) hf with ⟨hcs, _⟩ | ⟨x, l, c, zs, hcs, _, hl, hm, hz, _, hcell, hwz⟩
    · simp [Value.cells] at hcs
      obtain ⟨rfl, rfl, rfl⟩ := hcs
      exact ⟨[], .inl ⟨rfl, rfl, rfl, rfl⟩⟩
    · simp [Value.cells] at hcs
      obtain ⟨rfl, rfl, rfl⟩ := hcs
      exact ⟨zs, .inr ⟨_, rfl, hl, hm, by simpa using hz, hcell, hwz⟩⟩
  obtain ⟨a1, rfl, rfl, rfl, w1⟩ := open_int Try.underlying3 (hval 1 3 v1 rfl rfl) h1
  clear hA0 hval0
  refine (walk a0 len0 cap0 z0 a1 W w0 w1).mono fun e W' ⟨he, bel⟩ => ?_
  subst he
  exact ⟨_, rfl, _, _, _, [], _, [], hW', trodAll_mk1 (shut_bool Try.underlying4 _), (trodAll_cons_mk (Below.trod laidOut (by kernel_rfl) (of_decide_eq_true (by kernel_rfl)) k0 bel lt0) (trodAll_cons_mk (shut_int Try.underlying3 w1) trodAll_mk0)), rfl, bel.frame _, fun h => by cases h⟩

theorem over : Rows.giveAllRow.holds Try.pinned (OpenSpec.ofChange Rows.giveAllSpec) :=
  OpenClaim.holds_of_wide 3 Try.f3 rfl rfl rfl rfl rfl rfl rfl ⟨rfl, rfl, rfl, rfl, rfl⟩ rfl rfl rfl rfl rfl (by kernel_rfl) Try.func3 (by kernel_rfl)
    (of_decide_eq_true (by kernel_rfl)) (by unfold Func.isWrapper; first | (rw [if_pos (by decide +kernel)]; kernel_rfl) | (rw [if_neg (by decide +kernel)]; exact ⟨rfl, rfl⟩))
    (fun os started H enc _ => lifted os started H enc)

/-- ████ THE STATEMENT ████ -/
theorem proved : Rows.GiveAllSaid := over
#print axioms proved
end Go.Proofs.Ytnecmjanmkmjpaa.giveAll
