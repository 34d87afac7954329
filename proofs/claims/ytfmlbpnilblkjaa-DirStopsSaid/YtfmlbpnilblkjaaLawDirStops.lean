/-
  For every input the call of lavabolaw19.DirStops returns true and leaves its arguments as they were; no condition.
-/
import Derived.Test.YtfmlbpnilblkjaaTold19
import Derived.Test.YtfmlbpnilblkjaaRows
import Derived.WalkKit
import Derived.ProofKit
import Derived.OpenShut
import Derived.ShutString
import Derived.ChangeOld
import Derived.Below
namespace Go.Proofs.Ytfmlbpnilblkjaa.dirStops
open Go.ChangeShapes Go.WideShapes Go.ChangeAt Go.RowKit
open Go.ChangeMaps (open_string shut_string)
open Go.Proofs.Ytfmlbpnilblkjaa.Mem Go.Proofs.Ytfmlbpnilblkjaa.Blk Go.Proofs.Ytfmlbpnilblkjaa.Cells Go.Proofs.Ytfmlbpnilblkjaa.GsC Go.Proofs.Ytfmlbpnilblkjaa.HasC Go.Proofs.Ytfmlbpnilblkjaa.DrC Go.Proofs.Ytfmlbpnilblkjaa.DrY Go.Proofs.Ytfmlbpnilblkjaa.DrD Go.Proofs.Ytfmlbpnilblkjaa.DrN Go.Proofs.Ytfmlbpnilblkjaa.Told19 Go.Proofs.Ytfmlbpnilblkjaa.Stages Go.Proofs.Ytfmlbpnilblkjaa.Trees
set_option linter.unusedVariables false

theorem own : ownKnob Try.prog.godebug = none := by kernel_rfl
theorem laidOut : laidOutB Try.prog = true := by kernel_rfl

/-- WHAT THE WALK IS TOLD OF A SLICE OF INTEGERS THAT CAME IN: it is nil; or it leads to a row of 'cap' cells, the numbers 'zs' (the first 'len' are its elements, the rest its spare room), each fitting its kind. -/
def IsRow (k : IntKind) (w : World) (a : Option Addr) (len cap : Nat) (zs : List Int) : Prop :=
  (a = none ∧ len = 0 ∧ cap = 0 ∧ zs = []) ∨
  ∃ x, a = some x ∧ len ≤ cap ∧ cap ≤ maxLen ∧ zs.length = cap ∧ (∀ i, i < zs.length → w.cell? (x.add i) = some (.int k (zs.getD i 0))) ∧ ∀ n ∈ zs, (Lit.int k n).wf = true

theorem ok_go {n B t : Nat} {p : Int} (h1 : 1 ≤ n) (h4 : n ≤ 4) (hB : B < 16) (ht : t < n) (hne : B % n ≠ t) (hp : p = 1 ∨ p = 2) : Ok 4 ⟨1, turns n, (B : Int), (t : Int), p⟩ :=
  have h := (turns_ok h1).more (m := 4) (by omega)
  ⟨h.own, h.v1, h.v2, .inr ⟨B, hB, rfl, Int.natCast_nonneg _, (by omega : (t : Int) < 4), (fun e : (t : Int) = ((B % n : Nat) : Int) => hne (by omega)), hp⟩⟩
theorem db_lt {w : World} {g q o c : Nat} {v b t p : Int} {O : Nat → Int} (h : DB w g v (some ⟨q, o, none⟩) c b t p O) : q < w.heap.size := by
  obtain ⟨b', o', he, hc⟩ := h.h (by omega)
  injection he with he
  injection he with he1 he2
  subst he1 he2
  exact block_lt_of_cell (hc 0 (by omega))
theorem db_kept {w w' : World} {F : Nat → Prop} {g q o c : Nat} {v b t p : Int} {O : Nat → Int} (h : DB w g v (some ⟨q, o, none⟩) c b t p O) (hk : Kept F w w') (h1 : ¬ F g) (h2 : ¬ F q) : DB w' g v (some ⟨q, o, none⟩) c b t p O :=
  ⟨h.b.kept hk h1, Has.kept h.h hk fun a e => by cases e; exact h2⟩
/-! ### STEP 1: THE WALK: the Go text returns true, AND WRITES NOTHING THAT WAS THERE: 'Below w.heap.size w w'' (Derived/Below.lean: '.refl', '.alloc', '.drew', '.setCell' at a new block, '.trans'). Open each 'IsRow' by 'rcases' AHEAD of 'go_enter'; part every test ahead of the walk. -/
set_option maxHeartbeats 4000000 in
set_option maxRecDepth 100000 in
theorem walk (a0 : Int) (a1 : Int) (a2 : Int) (a3 : Int) (a4 : Bool) (w : World) (w0 : (Lit.int .i64 a0).wf = true) (w1 : (Lit.int .i64 a1).wf = true) (w2 : (Lit.int .i64 a2).wf = true) (w3 : (Lit.int .i64 a3).wf = true) :
    Calls Try.prog 6 #[.int .i64 a0, .int .i64 a1, .int .i64 a2, .int .i64 a3, .bool a4] w fun e w' => e = .returned (.bool true) ∧ Below w.heap.size w w' := by
  have k0 := bounds_i64 w0
  have k1 := bounds_i64 w1
  have k2 := bounds_i64 w2
  have k3 := bounds_i64 w3
  obtain ⟨N3, hN, hN3⟩ := tmod_nat a0 3 (by omega)
  obtain ⟨B, hB, hB16⟩ := tmod_nat a1 16 (by omega)
  obtain ⟨Y, hY, hY16⟩ := tmod_nat a2 16 (by omega)
  simp only [Int.cast_ofNat_Int] at hN hB hY
  obtain ⟨N, hNe⟩ : ∃ N : Nat, N = 2 + N3 := ⟨_, rfl⟩
  have hNz : (2 : Int) + (N3 : Int) = (N : Int) := by omega
  obtain ⟨T, hT, hTN⟩ := tmod_nat a3 N (by omega)
  have hN3z : (N3 : Int) < 3 := by omega
  have hBz : (B : Int) < 16 := by omega
  have hYz : (Y : Int) < 16 := by omega
  have hTz : (T : Int) < (N : Int) := by omega
  have hN2z : 2 ≤ (N : Int) := by omega
  have hN4z : (N : Int) ≤ 4 := by omega
  obtain ⟨R, hR⟩ : ∃ R : Nat, B % N = R := ⟨_, rfl⟩
  have hRz : (B : Int).tmod (N : Int) = (R : Int) := by rw [← hR, Int.tmod_eq_emod_of_nonneg (by omega)]; omega
  obtain ⟨U, hU⟩ : ∃ U : Nat, (T + 1) % N = U := ⟨_, rfl⟩
  have hUz : ((T : Int) + 1).tmod (N : Int) = (U : Int) := by rw [← hU, Int.tmod_eq_emod_of_nonneg (by omega), Int.natCast_emod]; rfl
  have HN2 := Lib.hid (show 2 ≤ N by omega)
  have HN4 := Lib.hid (show N ≤ 4 by omega)
  have HB16 := Lib.hid hB16
  have HTN := Lib.hid hTN
  have HR := Lib.hid hR
  clear hN3 hB16 hTN hNe hR hU hY16 w0 w1 w2 w3
  go_enter Try.func6, Try.ntmps6
  go_upto_region 2 with (fail)
  refine wp_region_stages Grow (kept_refl _) (kept_trans _) [] [0, 1, 2, 3, 4, 5, 6, 7, 8, 9, 10, 11, 12, 13, 14, 15, 16] (by kernel_rfl) (by kernel_rfl) ?_
  simp only [selSt, sel, List.map_cons, List.map_nil, List.getD_cons_succ, List.getD_cons_zero]
  refine st_nil fun K2 hK2 => ?_
  repeat (go_big_quiet_step (fail))
  refine wpQuiet_nil (hK2 _ ?_)
  clear hK2 K2
  have GD : Hid (Grow w w.drew) := Kept.drew' w
  generalize w.drew = w0 at GD ⊢
  have CN := Lib.hid fun (w : World) => new_good (w := w) (n := N) (by have := HN2.out; omega) HN4.out
  go_upto_region 4 with (go_at_call 7; (with_reducible refine (CN.out _).mono ?_); rintro e x1 ⟨q1, o1, c1, rfl, hn, _, hg⟩; have H1 := Lib.hid hn.has; have G1 := Lib.hid hg; clear hn hg)
  have D1 := Lib.hid (DB.new H1.out 1 c1 (-1) 0 0)
  have K1 := Lib.hid ((GD.out.trans G1.out).trans (grow_box x1 1 (some ⟨q1, o1, none⟩) c1 (-1) 0 0))
  generalize x1.alloc (.cells #[.int .i64 1, .slice (some ⟨q1, o1, none⟩) 16 c1, .int .i64 (-1), .int .i64 0, .int .i64 0] 25) = y1 at *
  generalize x1.heap.size = g1 at *
  clear H1 G1 GD hN hB hT hY hN3z hNz CN
  obtain ⟨k0, k1, k2, k3, k4⟩ := cells5 D1.out.b
  have HOR : Hid (Ok 4 ⟨1, turns N, -1, 0, 0⟩) := (turns_ok (by have := HN2.out; omega)).more (by have := HN4.out; omega)
  by_cases hRT : R = T
  · subst hRT
    have HTO : Hid ((R : Int) = turns N B) := congrArg (fun x : Nat => (x : Int)) HR.out.symm
    go_upto_region 5 with (go_at_call 9; (with_reducible refine (begin_same D1.out.h HOR.out HB16.out HTO.out).mono ?_); rintro e x2 ⟨q2, o2, c2, rfl, hn, _, hg⟩; have H2 := Lib.hid hn.has; have G2 := Lib.hid hg; clear hn hg)
    clear k0 k1 k2 k3 k4
    have D2 := Lib.hid (DB.new H2.out 1 c2 (-1) 0 0)
    have E2 := Lib.hid (G2.out.trans (grow_box x2 1 (some ⟨q2, o2, none⟩) c2 (-1) 0 0))
    generalize x2.alloc (.cells #[.int .i64 1, .slice (some ⟨q2, o2, none⟩) 16 c2, .int .i64 (-1), .int .i64 0, .int .i64 0] 25) = y2 at *
    generalize x2.heap.size = g2 at *
    have D12 := Lib.hid (D1.out.grow E2.out)
    clear H2 G2 D1
    have eR : ((R : Int) == (R : Int)) = true := beq_self_eq_true _
    go_wp2_with (first
      | (go_at_call 8; (with_reducible refine (told_any _).mono ?_); rintro e z1 ⟨rfl, hg⟩; have F1 := Lib.hid hg; clear hg; obtain ⟨a0, a1, a2, a3, a4⟩ := cells5 (D12.out.b.grow F1.out); obtain ⟨r0, r1, r2, r3, r4⟩ := cells5 (D2.out.b.grow F1.out))
      | (go_at_call 12; (with_reducible refine (same_any (D2.out.h.grow F1.out) (D12.out.h.grow F1.out)).mono ?_); rintro e z2 ⟨rfl, hg⟩; have F2 := Lib.hid hg; clear hg))
    go_ret
    exact ⟨rfl, Grow.below (((K1.out.trans E2.out).trans F1.out).trans F2.out)⟩
  · have eRT : ((R : Int) == (T : Int)) = false := beq_eq_false_iff_ne.2 (by omega)
    have HOK : Hid (∀ p : Int, p = 1 ∨ p = 2 → Ok 4 ⟨1, turns N, (B : Int), (T : Int), p⟩) := fun p hp => ok_go (by have := HN2.out; omega) HN4.out HB16.out HTN.out (by rw [HR.out]; exact hRT) hp
    have CH : Hid (∀ w A c x y, Has w A 16 (turns N) → Calls Try.prog 9 #[.agg #[.int .i64 1, .slice A 16 c, .int .i64 (B : Int), .int .i64 (T : Int), .int .i64 1], .int .i64 x, .int .i64 y] w (DrP 1 (turns N) (B : Int) (T : Int) 1 13 w)) := fun w A c x y h => begin_held h (HOK.out 1 (.inl rfl)) (by decide) x y
    clear hRT
    go_upto_region 5 with (go_at_call 9; (with_reducible refine (begin_good D1.out.h HOR.out (HOK.out 1 (.inl rfl))).mono ?_); rintro e x2 ⟨q2, o2, c2, rfl, hn, _, hg⟩; have H2 := Lib.hid hn.has; have G2 := Lib.hid hg; clear hn hg)
    clear k0 k1 k2 k3 k4
    have D2 := Lib.hid (DB.new H2.out 1 c2 (B : Int) (T : Int) 1)
    have E2 := Lib.hid (G2.out.trans (grow_box x2 1 (some ⟨q2, o2, none⟩) c2 (B : Int) (T : Int) 1))
    have HGG : Hid (g1 < x2.heap.size ∧ q1 < x2.heap.size ∧ w.heap.size ≤ x2.heap.size) := ⟨Nat.lt_of_lt_of_le D1.out.b.lt G2.out.size, Nat.lt_of_lt_of_le (db_lt D1.out) G2.out.size, Nat.le_trans K1.out.size G2.out.size⟩
    generalize x2.alloc (.cells #[.int .i64 1, .slice (some ⟨q2, o2, none⟩) 16 c2, .int .i64 (B : Int), .int .i64 (T : Int), .int .i64 1] 25) = y2 at *
    generalize x2.heap.size = g2 at *
    have D12 := Lib.hid (D1.out.grow E2.out)
    have K2 := Lib.hid (K1.out.trans E2.out)
    clear H2 G2 D1 K1 E2
    go_upto_region 7 with (fail)
    go_cut [19] (fun s wx => s = .int .i64 13 ∧ Grow y2 wx)
    case first =>
      obtain ⟨k0, k1, k2, k3, k4⟩ := cells5 D2.out.b
      have q0 := up_cell (F := fun _ => False) (w := y2.drew) k0 id
      have q1' := up_cell (F := fun _ => False) (w := y2.drew) k1 id
      have q2' := up_cell (F := fun _ => False) (w := y2.drew) k2 id
      have q3' := up_cell (F := fun _ => False) (w := y2.drew) k3 id
      have q4' := up_cell (F := fun _ => False) (w := y2.drew) k4 id
      clear k0 k1 k2 k3 k4
      obtain ⟨Z, hZ⟩ : ∃ Z, y2.heap.size = Z := ⟨_, rfl⟩
      have HZ := Lib.hid hZ
      clear hZ
      refine wp_region_tree Grow (Kept fun k => Z ≤ k) (kept_refl _) (kept_trans _) (kept_refl _) (kept_trans _) (fun _ _ h => h.mono fun _ _ x => x.elim) [11]
        (.two true [0, 1, 2, 3, 4, 5] 6 (.one false [7, 8, 9] 10 (.one false [] 11 (.last false [12]))) 10 (.one true [] 6 (.one false [7, 8, 9] 11 (.last false [12])))) (by kernel_rfl) (by kernel_rfl) ?_
      refine tr_twoE fun Ka hKa Kb hKb => ?_
      simp only [sel, List.map_cons, List.map_nil, List.getD_cons_succ, List.getD_cons_zero]
      repeat (go_big_quiet_step (fail))
      refine wpQuiet_nil ?_
      refine ⟨?_, ?_⟩
      · clear hKb Kb
        go_wp2_with (go_at_call 9; (with_reducible refine (CH.out _ _ _ _ _ (D2.out.h.grow (Kept.drew' _))).mono ?_); rintro e x3 ⟨q3, o3, c3, rfl, hn, _, hg⟩; have G3 := Lib.hid hg; clear hn hg)
        refine norm_up (hKa _ _ (Lr_early (by decide) G3.out) ?_)
        clear hKa Ka q0 q1' q2' q3' q4'
        refine tr_oneL fun K hK => ?_
        simp only [sel, List.map_cons, List.map_nil, List.getD_cons_succ, List.getD_cons_zero]
        repeat (go_big_quiet_step (fail))
        refine wpQuiet_nil ?_
        go_wp2
        refine norm_up (hK _ _ (Lr_early (by decide) ((Kept.refl _ _).alloc _)) ?_)
        clear hK K
        have B3 := Lib.hid (Blk.new x3 25 [.int .i64 0, .slice none 0 0, .int .i64 0, .int .i64 0, .int .i64 0])
        have G4 : Hid (Grow y2 (x3.alloc (.cells #[.int .i64 0, .slice none 0 0, .int .i64 0, .int .i64 0, .int .i64 0] 25))) := ((Kept.drew' y2).trans G3.out).alloc _
        have HX : Hid (Z ≤ x3.heap.size) := by rw [← HZ.out]; exact G3.out.size
        generalize x3.alloc (.cells #[.int .i64 0, .slice none 0 0, .int .i64 0, .int .i64 0, .int .i64 0] 25) = y3 at *
        generalize x3.heap.size = g3 at *
        obtain ⟨k0, k1, k2, k3, k4⟩ := cells5 B3.out
        have fz := B3.out.frozenAll
        refine tr_oneL fun K hK => ?_
        simp only [sel, List.map_cons, List.map_nil, List.getD_cons_succ, List.getD_cons_zero]
        refine wpQuiet_nil ?_
        go_wp2
        refine norm_up (hK _ _ (Lr_late (by decide) ((kept_set5 _ _ _ _ _ _ _).mono fun k _ e => by have := HX.out; omega)) ?_)
        clear hK K
        refine tr_lastL fun K hK => ?_
        simp only [sel, List.map_cons, List.map_nil, List.getD_cons_succ, List.getD_cons_zero]
        repeat (go_big_quiet_step (fail))
        refine wpQuiet_nil (hK _ ?_)
        clear hK K
        go_wp2
        go_meet
        exact ⟨rfl, G4.out.then (kept_set5 _ _ _ _ _ _ _) fun k h1 e => by have := HX.out; have := HZ.out; omega⟩
      · clear hKa Ka
        go_wp2
        refine norm_up (hKb _ _ (Lr_early (by decide) (show Grow y2.drew (y2.alloc (.cells #[.int .i64 0, .slice none 0 0, .int .i64 0, .int .i64 0, .int .i64 0] 25)).drew from (Kept.refl _ y2.drew).alloc (.cells #[.int .i64 0, .slice none 0 0, .int .i64 0, .int .i64 0, .int .i64 0] 25))) ?_)
        clear hKb Kb q0 q1' q2' q3' q4'
        have B3 := Lib.hid (Blk.new y2 25 [.int .i64 0, .slice none 0 0, .int .i64 0, .int .i64 0, .int .i64 0]).drew
        have G4 : Hid (Grow y2 (y2.alloc (.cells #[.int .i64 0, .slice none 0 0, .int .i64 0, .int .i64 0, .int .i64 0] 25)).drew) := ((Kept.refl _ y2).alloc _).drew
        have HX : Hid (y2.heap.size = Z) := HZ.out
        generalize (y2.alloc (.cells #[.int .i64 0, .slice none 0 0, .int .i64 0, .int .i64 0, .int .i64 0] 25)).drew = y3 at *
        refine tr_oneE fun K hK => ?_
        simp only [sel, List.map_cons, List.map_nil, List.getD_cons_succ, List.getD_cons_zero]
        refine wpQuiet_nil ?_
        go_wp2_with (go_at_call 9; (with_reducible refine (CH.out _ _ _ _ _ (D2.out.h.grow G4.out)).mono ?_); rintro e x3 ⟨q3, o3, c3, rfl, hn, _, hg⟩; have G3 := Lib.hid hg; clear hn hg)
        refine norm_up (hK _ _ (Lr_early (by decide) G3.out) ?_)
        clear hK K
        have B4 := Lib.hid (B3.out.grow G3.out)
        obtain ⟨k0, k1, k2, k3, k4⟩ := cells5 B4.out
        have fz := B4.out.frozenAll
        refine tr_oneL fun K hK => ?_
        simp only [sel, List.map_cons, List.map_nil, List.getD_cons_succ, List.getD_cons_zero]
        repeat (go_big_quiet_step (fail))
        refine wpQuiet_nil ?_
        go_wp2
        refine norm_up (hK _ _ (Lr_late (by decide) ((kept_set5 _ _ _ _ _ _ _).mono fun k _ e => by have := HX.out; omega)) ?_)
        clear hK K
        refine tr_lastL fun K hK => ?_
        simp only [sel, List.map_cons, List.map_nil, List.getD_cons_succ, List.getD_cons_zero]
        repeat (go_big_quiet_step (fail))
        refine wpQuiet_nil (hK _ ?_)
        clear hK K
        go_wp2
        go_meet
        exact ⟨rfl, (G4.out.trans G3.out).then (kept_set5 _ _ _ _ _ _ _) fun k h1 e => by have := HX.out; have := HZ.out; omega⟩
    case rest =>
      obtain ⟨rfl, hgc⟩ := hcut
      have D2c := Lib.hid (D2.out.grow hgc)
      have D1c := Lib.hid (D12.out.grow hgc)
      have KC := Lib.hid (K2.out.trans hgc)
      clear hgc K2 D2 D12
      go_upto_if 79 with (fail)
      have CC : Hid (∀ w A c, Has w A 16 (turns N) → Calls Try.prog 10 #[.agg #[.int .i64 1, .slice A 16 c, .int .i64 (B : Int), .int .i64 (T : Int), .int .i64 1]] w (DrP 1 (turns N) (B : Int) (T : Int) 2 0 w)) := fun w A c h => carry_good h (HOK.out 1 (.inl rfl))
      have CT : Hid (∀ w A c p, p = 1 ∨ p = 2 → Has w A 16 (turns N) → Calls Try.prog 14 #[.agg #[.int .i64 1, .slice A 16 c, .int .i64 (B : Int), .int .i64 (T : Int), .int .i64 p]] w (DrP 1 (turns N) (-1) 0 0 0 w)) := fun w A c p hp h => stop_way h (HOK.out p hp) (by rcases hp with rfl | rfl <;> decide)
      have CR : Hid (∀ w A c, Has w A 16 (turns N) → Calls Try.prog 14 #[.agg #[.int .i64 1, .slice A 16 c, .int .i64 (-1), .int .i64 0, .int .i64 0]] w (DrP 1 (turns N) (-1) 0 0 12 w)) := fun w A c h => stop_rest h HOR.out
      obtain ⟨v0, hv0⟩ : ∃ v0, v0 = wc := ⟨_, rfl⟩
      subst hv0
      go_cut [] (fun wx => ∃ q o c p, (p = 1 ∨ p = 2) ∧ DB wx g2 1 (some ⟨q, o, none⟩) c (B : Int) (T : Int) p (turns N) ∧ Kept (fun k => k = g2) v0 wx)
      case first =>
        cases a4 with
        | false =>
          go_wp2
          go_meet
          exact ⟨_, _, _, 1, .inl rfl, D2c.out, Kept.refl _ _⟩
        | true =>
          obtain ⟨k0, k1, k2, k3, k4⟩ := cells5 D2c.out.b
          go_upto_region 10 with (go_at_call 10; (with_reducible refine (CC.out _ _ _ D2c.out.h).mono ?_); rintro e x4 ⟨q4, o4, c4, rfl, hn, hq, hg⟩; have N4 := Lib.hid hn; have HQ4 := Lib.hid hq; have G4 := Lib.hid hg; clear hn hq hg)
          clear k0 k1 k2 k3 k4
          have D4 := Lib.hid (DB.new N4.out.has 1 c4 (B : Int) (T : Int) 2)
          have N5 := Lib.hid (N4.out.grow (grow_box x4 1 (some ⟨q4, o4, none⟩) c4 (B : Int) (T : Int) 2))
          have E4 := Lib.hid (G4.out.trans (grow_box x4 1 (some ⟨q4, o4, none⟩) c4 (B : Int) (T : Int) 2))
          have HNE : Hid (q4 ≠ g2) := by
            have h1 := HQ4.out
            have h2 := D2c.out.b.lt
            show _ ≠ _
            omega
          generalize x4.alloc (.cells #[.int .i64 1, .slice (some ⟨q4, o4, none⟩) 16 c4, .int .i64 (B : Int), .int .i64 (T : Int), .int .i64 2] 25) = y4 at *
          generalize x4.heap.size = g4 at *
          have D24 := Lib.hid (D2c.out.grow E4.out)
          obtain ⟨k0, k1, k2, k3, k4⟩ := cells5 D4.out.b
          obtain ⟨j0, j1, j2, j3, j4⟩ := cells5 D24.out.b
          have fz := D24.out.b.frozenAll
          go_wp2
          go_meet
          exact ⟨q4, o4, c4, 2, .inr rfl, ⟨blk_set5 D24.out.b, (N5.out.kept (kept_set5 _ _ _ _ _ _ _) HNE.out).has⟩, (Grow.kept E4.out).trans (kept_set5 _ _ _ _ _ _ _)⟩
      case rest =>
        obtain ⟨qm, om, cm, p, hp, hd, hk⟩ := hcut
        have HP := Lib.hid hp
        have D2d := Lib.hid hd
        have D1d := Lib.hid (db_kept D1c.out hk (by have := HGG.out; omega) (by have := HGG.out; omega))
        have KD : Hid (Grow w wc) := KC.out.then hk fun k h1 e => by have := HGG.out; omega
        clear hp hd hk D2c D1c KC
        obtain ⟨k0, k1, k2, k3, k4⟩ := cells5 D2d.out.b
        go_upto_region 14 with (go_at_call 14; (with_reducible refine (CT.out _ _ _ _ HP.out D2d.out.h).mono ?_); rintro e x5 ⟨q5, o5, c5, rfl, hn, hq, hg⟩; have H5 := Lib.hid hn.has; have G5 := Lib.hid hg; clear hn hq hg)
        clear k0 k1 k2 k3 k4
        have D5 := Lib.hid (DB.new H5.out 1 c5 (-1) 0 0)
        have E5 := Lib.hid (G5.out.trans (grow_box x5 1 (some ⟨q5, o5, none⟩) c5 (-1) 0 0))
        generalize x5.alloc (.cells #[.int .i64 1, .slice (some ⟨q5, o5, none⟩) 16 c5, .int .i64 (-1), .int .i64 0, .int .i64 0] 25) = y5 at *
        generalize x5.heap.size = g5 at *
        obtain ⟨k0, k1, k2, k3, k4⟩ := cells5 D5.out.b
        go_upto_region 15 with (go_at_call 14; (with_reducible refine (CR.out _ _ _ D5.out.h).mono ?_); rintro e x6 ⟨q6, o6, c6, rfl, hn, hq, hg⟩; have G6 := Lib.hid hg; clear hn hq hg)
        clear k0 k1 k2 k3 k4
        have E6 := Lib.hid (G6.out.trans (grow_box x6 1 (some ⟨q6, o6, none⟩) c6 (-1) 0 0))
        generalize x6.alloc (.cells #[.int .i64 1, .slice (some ⟨q6, o6, none⟩) 16 c6, .int .i64 (-1), .int .i64 0, .int .i64 0] 25) = y6 at *
        generalize x6.heap.size = g6 at *
        have D5e := Lib.hid (D5.out.grow E6.out)
        have D1e := Lib.hid (D1d.out.grow (E5.out.trans E6.out))
        have KE := Lib.hid ((KD.out.trans E5.out).trans E6.out)
        clear D5 D1d E5 E6 G5 G6 H5 KD
        go_wp2_with (first
          | (go_at_call 8; (with_reducible refine (told_any _).mono ?_); rintro e z1 ⟨rfl, hg⟩; have F1 := Lib.hid hg; clear hg; obtain ⟨a0, a1, a2, a3, a4⟩ := cells5 (D1e.out.b.grow F1.out); obtain ⟨r0, r1, r2, r3, r4⟩ := cells5 (D5e.out.b.grow F1.out))
          | (go_at_call 12; (with_reducible refine (same_any (D5e.out.h.grow F1.out) (D1e.out.h.grow F1.out)).mono ?_); rintro e z2 ⟨rfl, hg⟩; have F2 := Lib.hid hg; clear hg))
        go_ret
        exact ⟨rfl, Grow.below ((KE.out.trans F1.out).trans F2.out)⟩

/-! ### THE ROW's STEP: WRITTEN OUT: LEAVE IT -/
set_option maxRecDepth 100000 in
theorem lifted (os : Os) (started : os.Started) (H : Type) (enc : TypeId × Value → H) :
    ReturnsInHanded {} Try.checked os 6 .any (Rows.dirStopsSpec.pre6 enc Try.prog Try.f6 Rows.dirStopsRow.domain false) (Rows.dirStopsSpec.post enc Try.prog Try.f6 false true false false) := by
  refine returnsInHanded_of_change (C := Try.checked) own started (by kernel_rfl) Try.func6
    (ChangeSpec.witness6 (enc := enc) (C := Try.checked) false ⟨#[], #[.int .i64 0, .int .i64 0, .int .i64 0, .int .i64 0, .bool false], []⟩ 8 (by kernel_rfl) (by kernel_rfl) (by kernel_rfl) (by kernel_rfl)) ?_
  intro W base args ds gs before hval0 hW hcnd _
  have hval : ∀ (j : Nat) t v, Try.f6.params[j]? = some t → args[j]? = some v → Value.okWide Try.prog W .any base t v := hval0
  have hW' := hW
  obtain ⟨p, q, hA0, hV, rfl, hfz, hnd⟩ := hW
  have hA : DataW.TrodAll enc Try.prog W 0 (fun _ => true) true Try.f6.params.toList args.toList ds p := hA0
  rw [Try.params6] at hA hval
  obtain ⟨v0, vs0, d0, ds0, p0, q0, hargs, rfl, rfl, h0, r0⟩ := trodAll_cons hA
  obtain ⟨v1, vs1, d1, ds1, p1, q1, rfl, rfl, rfl, h1, r1⟩ := trodAll_cons r0
  obtain ⟨v2, vs2, d2, ds2, p2, q2, rfl, rfl, rfl, h2, r2⟩ := trodAll_cons r1
  obtain ⟨v3, vs3, d3, ds3, p3, q3, rfl, rfl, rfl, h3, r3⟩ := trodAll_cons r2
  obtain ⟨v4, vs4, d4, ds4, p4, q4, rfl, rfl, rfl, h4, r4⟩ := trodAll_cons r3
  obtain ⟨rfl, rfl, rfl⟩ := trodAll_nil r4
  obtain rfl : args = #[v0, v1, v2, v3, v4] := by cases args; simp_all
  obtain ⟨rfl, rfl⟩ := trodVars_none hV
  obtain ⟨a0, rfl, rfl, rfl, w0⟩ := open_int Try.underlying3 (hval 0 3 v0 rfl rfl) h0
  obtain ⟨a1, rfl, rfl, rfl, w1⟩ := open_int Try.underlying3 (hval 1 3 v1 rfl rfl) h1
  obtain ⟨a2, rfl, rfl, rfl, w2⟩ := open_int Try.underlying3 (hval 2 3 v2 rfl rfl) h2
  obtain ⟨a3, rfl, rfl, rfl, w3⟩ := open_int Try.underlying3 (hval 3 3 v3 rfl rfl) h3
  obtain ⟨a4, rfl, rfl, rfl⟩ := open_bool Try.underlying4 (hval 4 4 v4 rfl rfl) h4
  clear hA0 hval0
  refine (walk a0 a1 a2 a3 a4 W w0 w1 w2 w3).mono fun e W' ⟨he, bel⟩ => ?_
  subst he
  exact ⟨_, rfl, _, _, _, [], _, [], hW', trodAll_mk1 (shut_bool Try.underlying4 _), (trodAll_cons_mk (shut_int Try.underlying3 w0) (trodAll_cons_mk (shut_int Try.underlying3 w1) (trodAll_cons_mk (shut_int Try.underlying3 w2) (trodAll_cons_mk (shut_int Try.underlying3 w3) (trodAll_cons_mk (shut_bool Try.underlying4 _) trodAll_mk0))))), rfl, bel.frame _, fun h => by cases h⟩

theorem over : Rows.dirStopsRow.holds Try.pinned (OpenSpec.ofChange Rows.dirStopsSpec) :=
  OpenClaim.holds_of_wide 6 Try.f6 rfl rfl rfl rfl rfl rfl rfl ⟨rfl, rfl, rfl, rfl, rfl⟩ rfl rfl rfl rfl rfl (by kernel_rfl) Try.func6 (by kernel_rfl)
    (of_decide_eq_true (by kernel_rfl)) (by unfold Func.isWrapper; first | (rw [if_pos (by decide +kernel)]; kernel_rfl) | (rw [if_neg (by decide +kernel)]; exact ⟨rfl, rfl⟩))
    (fun os started H enc _ => lifted os started H enc)

/-- ████ THE STATEMENT ████ -/
theorem proved : Rows.DirStopsSaid := over
#print axioms proved
end Go.Proofs.Ytfmlbpnilblkjaa.dirStops
