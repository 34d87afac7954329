/-
  For every input the call of lavabolaw2.PageAsks returns true and leaves its arguments as they were; no condition.
-/
import Derived.Test.YtmdafgonnkppoaaTold2
import Derived.Deep.Cut
import Derived.Test.YtmdafgonnkppoaaRows
import Derived.WalkKit
import Derived.ProofKit
import Derived.OpenShut
import Derived.ShutString
import Derived.ChangeOld
import Derived.Below
namespace Go.Proofs.Ytmdafgonnkppoaa.pageAsks
open Go.ChangeShapes Go.WideShapes Go.ChangeAt Go.RowKit
open Go.ChangeMaps (open_string shut_string)
open Go.Proofs.Ytmdafgonnkppoaa.SumM Go.Proofs.Ytmdafgonnkppoaa.Mem Go.Proofs.Ytmdafgonnkppoaa.SumC Go.Proofs.Ytmdafgonnkppoaa.Blk Go.Proofs.Ytmdafgonnkppoaa.PageM Go.Proofs.Ytmdafgonnkppoaa.PageC Go.Proofs.Ytmdafgonnkppoaa.PageR Go.Proofs.Ytmdafgonnkppoaa.Told2 Go.Proofs.Ytmdafgonnkppoaa.Stages
set_option linter.unusedVariables false

theorem own : ownKnob Try.prog.godebug = none := by kernel_rfl
theorem laidOut : laidOutB Try.prog = true := by kernel_rfl

/-- WHAT THE WALK IS TOLD OF A SLICE OF INTEGERS THAT CAME IN: it is nil; or it leads to a row of 'cap' cells, the numbers 'zs' (the first 'len' are its elements, the rest its spare room), each fitting its kind. -/
def IsRow (k : IntKind) (w : World) (a : Option Addr) (len cap : Nat) (zs : List Int) : Prop :=
  (a = none ∧ len = 0 ∧ cap = 0 ∧ zs = []) ∨
  ∃ x, a = some x ∧ len ≤ cap ∧ cap ≤ maxLen ∧ zs.length = cap ∧ (∀ i, i < zs.length → w.cell? (x.add i) = some (.int k (zs.getD i 0))) ∧ ∀ n ∈ zs, (Lit.int k n).wf = true

/-! ### STEP 1: THE WALK: the Go text returns true, AND WRITES NOTHING THAT WAS THERE: 'Below w.heap.size w w'' (Derived/Below.lean: '.refl', '.alloc', '.drew', '.setCell' at a new block, '.trans'). Open each 'IsRow' by 'rcases' AHEAD of 'go_enter'; part every test ahead of the walk. -/
set_option maxHeartbeats 1000000 in
theorem walk (a0 : Int) (a1 : Option Addr) (len1 cap1 : Nat) (z1 : List Int) (a2 : Option Addr) (len2 cap2 : Nat) (z2 : List Int) (w : World) (w0 : (Lit.int .i64 a0).wf = true) (w1 : IsRow .u8 w a1 len1 cap1 z1) (w2 : IsRow .u8 w a2 len2 cap2 z2) :
    Calls Try.prog 3 #[.int .i64 a0, .slice a1 len1 cap1, .slice a2 len2 cap2] w fun e w' => e = .returned (.bool true) ∧ Below w.heap.size w w' := by
  obtain ⟨hs1, hle1, hcap1, hwf1⟩ := Sl.of_isRow w1
  have hz1 : Bytes (z1.take len1) := fun c hc => by have := bounds_u8 (hwf1 c hc); exact ⟨by omega, by omega⟩
  obtain ⟨hs2, hle2, hcap2, hwf2⟩ := Sl.of_isRow w2
  have hz2 : Bytes (z2.take len2) := fun c hc => by have := bounds_u8 (hwf2 c hc); exact ⟨by omega, by omega⟩
  clear w1 w2 hwf1 hwf2
  generalize z1.take len1 = zs at hs1 hz1
  generalize z2.take len2 = ys at hs2 hz2
  have k0 := bounds_i64 w0
  have kc1 := hcap1
  have kc2 := hcap2
  unfold maxLen at kc1 kc2
  by_cases h1 : 40 < len1
  · have h1' : (40 : Int) < (len1 : Int) := by omega
    go_enter Try.func3, Try.ntmps3
    go_wp2_with (go_at_call 8; (with_reducible refine (told_any _).mono ?_); rintro e w' ⟨rfl, hb⟩)
    go_ret
    exact ⟨rfl, Grow.below hb⟩
  · have h1' : (len1 : Int) ≤ 40 := by omega
    by_cases h2 : 60 < len2
    · have h2' : (60 : Int) < (len2 : Int) := by omega
      go_enter Try.func3, Try.ntmps3
      go_wp2_with (go_at_call 8; (with_reducible refine (told_any _).mono ?_); rintro e w' ⟨rfl, hb⟩)
      go_ret
      exact ⟨rfl, Grow.below hb⟩
    · have h2' : (len2 : Int) ≤ 60 := by omega
      have hl1 := hs1.len
      have hl2 := hs2.len
      have CS := Lib.hid fun (wx : World) (hk : Grow w wx) => seal_any a0 a1 len1 cap1 w.heap.size zs wx (by omega) (by omega) hz1 (by unfold maxLen; omega) (Sl.kept hs1 hk (Nat.le_refl _) fun _ _ x => x) hk.size
      have CR := Lib.hid fun (wx : World) => refSeal_any a0 zs wx (by omega) (by omega) hz1 (by unfold maxLen; omega)
      have CO := Lib.hid fun (wx : World) (hk : Grow w wx) => open_any a0 a2 len2 cap2 w.heap.size ys wx (by omega) (by omega) hz2 hle2 hcap2 (Sl.kept hs2 hk (Nat.le_refl _) fun _ _ x => x) hk.size
      have CP := Lib.hid fun (wx : World) => refOpen_any a0 ys wx (by omega) (by omega) hz2 (by unfold maxLen; omega)
      rw [hl1] at CR
      have v1 := fun (wx : World) (hk : Grow w wx) => (Sl.kept hs1 hk (Nat.le_refl _) fun _ _ x => x).str (P := Try.prog) 22 9 5 Try.underlying22 Try.underlying5 Try.underlying9 cap1
      have v2 := fun (wx : World) (hk : Grow w wx) => (Sl.kept hs2 hk (Nat.le_refl _) fun _ _ x => x).str (P := Try.prog) 22 9 5 Try.underlying22 Try.underlying5 Try.underlying9 cap2
      have V1 := Lib.hid v1
      have V2 := Lib.hid v2
      clear v1 v2 hl1 hl2
      generalize sealB a0 zs = sb at CS CR
      generalize sealC a0 len1 = sc at CS CR
      generalize openB a0 ys = ob at CO CP
      generalize openC a0 ys = oc at CO CP
      go_enter Try.func3, Try.ntmps3
      go_upto_region 4 with (go_at_call 9; (with_reducible refine (CS.out _ (Kept.refl _ _)).mono ?_); rintro e wa ⟨A1, n1, c1, rfl, hsa, hga⟩; have HSA := Lib.hid hsa; have HGA := Lib.hid hga; clear hsa hga)
      have v1 := V1.out _ HGA.out
      go_upto_region 5 with (go_at_call 10; (with_reducible refine (CR.out _).mono ?_); rintro e wb ⟨rfl, hgb⟩; have HGB := Lib.hid hgb; clear hgb)
      clear v1
      have HG2 : Hid (Grow w wb) := HGA.out.trans HGB.out
      go_upto_region 6 with (go_at_call 11; (with_reducible refine (CO.out _ HG2.out).mono ?_); rintro e wc ⟨A2, n2, c2, rfl, hsc, hgc⟩; have HSC := Lib.hid hsc; have HGC := Lib.hid hgc; clear hsc hgc)
      have HG3 : Hid (Grow w wc) := HG2.out.trans HGC.out
      have v2 := V2.out _ HG3.out
      go_upto_region 7 with (go_at_call 12; (with_reducible refine (CP.out _).mono ?_); rintro e wd ⟨rfl, hgd⟩; have HGD := Lib.hid hgd; clear hgd)
      clear v2
      refine wp_region_stages Grow (kept_refl _) (kept_trans _) [([], 0), ([1, 2, 3, 4, 5, 6, 7, 8, 9, 10, 11, 12, 13, 14, 15, 16, 17, 18, 19, 20, 21, 22, 23], 24), ([25], 26)] [27, 28, 29] (by kernel_rfl) (by kernel_rfl) ?_
      simp only [selSt, sel, List.map_cons, List.map_nil, List.getD_cons_succ, List.getD_cons_zero]
      refine st_cons fun K1 hK1 => wpQuiet_nil ?_
      go_wp2_with (go_at_call 8; (with_reducible refine (told_any _).mono ?_); rintro e we ⟨rfl, hge⟩; have HGE := Lib.hid hge; clear hge)
      refine norm_up (hK1 _ _ HGE.out ?_)
      clear hK1 K1
      have HG5 : Hid (Grow w we) := (HG3.out.trans (HGD.out.drew)).trans HGE.out
      have q1 := up_run (F := fun _ => False) (P := Try.prog) (w := we) fun w' hk => (Sl.kept HSA.out (((((HGB.out.trans HGC.out).trans HGD.out).drew).trans HGE.out).trans hk) (Nat.le_refl _) (fun _ _ x => x)).str 22 9 5 Try.underlying22 Try.underlying5 Try.underlying9 c1
      have q2 := up_run (F := fun _ => False) (P := Try.prog) (w := we) fun w' hk => (Sl.kept HSC.out ((HGD.out.drew.trans HGE.out).trans hk) (Nat.le_refl _) (fun _ _ x => x)).str 22 9 5 Try.underlying22 Try.underlying5 Try.underlying9 c2
      refine st_cons fun K1 hK1 => ?_
      repeat (go_big_quiet_step (fail))
      refine wpQuiet_nil ?_
      clear q1 q2
      go_wp2_with (go_at_call 13; (with_reducible refine (blank_any _).mono ?_); rintro e wf ⟨gf, rfl, hgf, hbf, hgrf⟩; have HBF := Lib.hid hbf; have HGF := Lib.hid hgrf; clear hbf hgrf)
      refine norm_up (hK1 _ _ HGF.out ?_)
      clear hK1 K1
      have q3 := up_run (F := fun _ => False) (P := Try.prog) (w := wf) fun w' hk => (Sl.of_blk0 (B := w'.heap.size) (Blk.grow HBF.out hk) (zeros_len 24) (Blk.lt (Blk.grow HBF.out hk))).str 22 9 5 Try.underlying22 Try.underlying5 Try.underlying9 24
      refine st_cons fun K1 hK1 => ?_
      repeat (go_big_quiet_step (fail))
      refine wpQuiet_nil ?_
      clear q3
      go_wp2_with (go_at_call 14; (with_reducible refine (refBlank_any _).mono ?_); rintro e wg ⟨rfl, hbg⟩; have HGG : Hid (Grow wf wg) := Kept.of_below hbg; clear hbg)
      refine norm_up (hK1 _ _ HGG.out (st_nil fun K2 hK2 => ?_))
      clear hK1 K1
      repeat (go_big_quiet_step (fail))
      refine wpQuiet_nil (hK2 _ ?_)
      go_wp2
      go_ret
      exact ⟨rfl, Grow.below ((HG5.out.trans HGF.out).trans HGG.out)⟩

/-! ### THE ROW's STEP: WRITTEN OUT: LEAVE IT -/
set_option maxRecDepth 100000 in
theorem lifted (os : Os) (started : os.Started) (H : Type) (enc : TypeId × Value → H) :
    ReturnsInHanded {} Try.checked os 3 .any (Rows.pageAsksSpec.pre6 enc Try.prog Try.f3 Rows.pageAsksRow.domain false) (Rows.pageAsksSpec.post enc Try.prog Try.f3 false true false false) := by
  refine returnsInHanded_of_change (C := Try.checked) own started (by kernel_rfl) Try.func3
    (ChangeSpec.witness6 (enc := enc) (C := Try.checked) false ⟨#[], #[.int .i64 0, .slice none 0 0, .slice none 0 0], []⟩ 8 (by kernel_rfl) (by kernel_rfl) (by kernel_rfl) (by kernel_rfl)) ?_
  intro W base args ds gs before hval0 hW hcnd _
  have hval : ∀ (j : Nat) t v, Try.f3.params[j]? = some t → args[j]? = some v → Value.okWide Try.prog W .any base t v := hval0
  have hW' := hW
  obtain ⟨p, q, hA0, hV, rfl, hfz, hnd⟩ := hW
  have hA : DataW.TrodAll enc Try.prog W 0 (fun _ => true) true Try.f3.params.toList args.toList ds p := hA0
  rw [Try.params3] at hA hval
  obtain ⟨v0, vs0, d0, ds0, p0, q0, hargs, rfl, rfl, h0, r0⟩ := trodAll_cons hA
  obtain ⟨v1, vs1, d1, ds1, p1, q1, rfl, rfl, rfl, h1, r1⟩ := trodAll_cons r0
  obtain ⟨v2, vs2, d2, ds2, p2, q2, rfl, rfl, rfl, h2, r2⟩ := trodAll_cons r1
  obtain ⟨rfl, rfl, rfl⟩ := trodAll_nil r2
  obtain rfl : args = #[v0, v1, v2] := by cases args; simp_all
  obtain ⟨rfl, rfl⟩ := trodVars_none hV
  obtain ⟨a0, rfl, rfl, rfl, w0⟩ := open_int Try.underlying3 (hval 0 3 v0 rfl rfl) h0
  obtain ⟨a1, len1, cap1, rfl⟩ := okWide_slice Try.underlying22 (hval 1 22 v1 rfl rfl)
  have k1 := h1
  have lt1 : ∀ x ∈ p1, x.block < W.heap.size := by obtain ⟨m, hm⟩ := k1; exact DataW.trod_lt m _ _ _ hm
  obtain ⟨z1, w1⟩ : ∃ zs, IsRow .u8 W a1 len1 cap1 zs := by
    obtain ⟨fuel, hf⟩ := h1
    rcases open_ints Try.underlying22 Try.underlying5 (by kernel_rfl) hf with ⟨hcs, _⟩ | ⟨x, l, c, zs, hcs, _, hl, hm, hz, _, hcell, hwz⟩
    · simp [Value.cells] at hcs
      obtain ⟨rfl, rfl, rfl⟩ := hcs
      exact ⟨[], .inl ⟨rfl, rfl, rfl, rfl⟩⟩
    · simp [Value.cells] at hcs
      obtain ⟨rfl, rfl, rfl⟩ := hcs
      exact ⟨zs, .inr ⟨_, rfl, hl, hm, by simpa using hz, hcell, hwz⟩⟩
  obtain ⟨a2, len2, cap2, rfl⟩ := okWide_slice Try.underlying22 (hval 2 22 v2 rfl rfl)
  have k2 := h2
  have lt2 : ∀ x ∈ p2, x.block < W.heap.size := by obtain ⟨m, hm⟩ := k2; exact DataW.trod_lt m _ _ _ hm
  obtain ⟨z2, w2⟩ : ∃ zs, IsRow .u8 W a2 len2 cap2 zs := by
    obtain ⟨fuel, hf⟩ := h2
    rcases open_ints Try.underlying22 Try.underlying5 (by kernel_rfl) hf with ⟨hcs, _⟩ | ⟨x, l, c, zs, hcs, _, hl, hm, hz, _, hcell, hwz⟩
    · simp [Value.cells] at hcs
      obtain ⟨rfl, rfl, rfl⟩ := hcs
      exact ⟨[], .inl ⟨rfl, rfl, rfl, rfl⟩⟩
    · simp [Value.cells] at hcs
      obtain ⟨rfl, rfl, rfl⟩ := hcs
      exact ⟨zs, .inr ⟨_, rfl, hl, hm, by simpa using hz, hcell, hwz⟩⟩
  clear hA0 hval0
  refine (walk a0 a1 len1 cap1 z1 a2 len2 cap2 z2 W w0 w1 w2).mono fun e W' ⟨he, bel⟩ => ?_
  subst he
  exact ⟨_, rfl, _, _, _, [], _, [], hW', trodAll_mk1 (shut_bool Try.underlying4 _), (trodAll_cons_mk (shut_int Try.underlying3 w0) (trodAll_cons_mk (Below.trod laidOut (by kernel_rfl) (of_decide_eq_true (by kernel_rfl)) k1 bel lt1) (trodAll_cons_mk (Below.trod laidOut (by kernel_rfl) (of_decide_eq_true (by kernel_rfl)) k2 bel lt2) trodAll_mk0))), rfl, bel.frame _, fun h => by cases h⟩

theorem over : Rows.pageAsksRow.holds Try.pinned (OpenSpec.ofChange Rows.pageAsksSpec) :=
  OpenClaim.holds_of_wide 3 Try.f3 rfl rfl rfl rfl rfl rfl rfl ⟨rfl, rfl, rfl, rfl, rfl⟩ rfl rfl rfl rfl rfl (by kernel_rfl) Try.func3 (by kernel_rfl)
    (of_decide_eq_true (by kernel_rfl)) (by unfold Func.isWrapper; first | (rw [if_pos (by decide +kernel)]; kernel_rfl) | (rw [if_neg (by decide +kernel)]; exact ⟨rfl, rfl⟩))
    (fun os started H enc _ => lifted os started H enc)

/-- ████ THE STATEMENT ████ -/
theorem proved : Rows.PageAsksSaid := over
#print axioms proved
end Go.Proofs.Ytmdafgonnkppoaa.pageAsks
