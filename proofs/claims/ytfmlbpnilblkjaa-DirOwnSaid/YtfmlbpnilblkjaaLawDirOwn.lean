/-
  For every input the call of lavabolaw19.DirOwn returns true and leaves its arguments as they were; no condition.
-/
import Derived.Test.YtfmlbpnilblkjaaTold19
import Derived.Test.YtfmlbpnilblkjaaRows
import Derived.WalkKit
import Derived.ProofKit
import Derived.OpenShut
import Derived.ShutString
import Derived.ChangeOld
import Derived.Below
namespace Go.Proofs.Ytfmlbpnilblkjaa.dirOwn
open Go.ChangeShapes Go.WideShapes Go.ChangeAt Go.RowKit
open Go.ChangeMaps (open_string shut_string)
open Go.Proofs.Ytfmlbpnilblkjaa.Mem Go.Proofs.Ytfmlbpnilblkjaa.Blk Go.Proofs.Ytfmlbpnilblkjaa.Cells Go.Proofs.Ytfmlbpnilblkjaa.GsC Go.Proofs.Ytfmlbpnilblkjaa.HasC Go.Proofs.Ytfmlbpnilblkjaa.DrC Go.Proofs.Ytfmlbpnilblkjaa.DrY Go.Proofs.Ytfmlbpnilblkjaa.DrD Go.Proofs.Ytfmlbpnilblkjaa.DrN Go.Proofs.Ytfmlbpnilblkjaa.Told19 Go.Proofs.Ytfmlbpnilblkjaa.Stages
set_option linter.unusedVariables false

theorem own : ownKnob Try.prog.godebug = none := by kernel_rfl
theorem laidOut : laidOutB Try.prog = true := by kernel_rfl

/-- WHAT THE WALK IS TOLD OF A SLICE OF INTEGERS THAT CAME IN: it is nil; or it leads to a row of 'cap' cells, the numbers 'zs' (the first 'len' are its elements, the rest its spare room), each fitting its kind. -/
def IsRow (k : IntKind) (w : World) (a : Option Addr) (len cap : Nat) (zs : List Int) : Prop :=
  (a = none ∧ len = 0 ∧ cap = 0 ∧ zs = []) ∨
  ∃ x, a = some x ∧ len ≤ cap ∧ cap ≤ maxLen ∧ zs.length = cap ∧ (∀ i, i < zs.length → w.cell? (x.add i) = some (.int k (zs.getD i 0))) ∧ ∀ n ∈ zs, (Lit.int k n).wf = true

theorem ok_go {n B t : Nat} {p : Int} (h1 : 1 ≤ n) (h4 : n ≤ 4) (hB : B < 16) (ht : t < n) (hne : B % n ≠ t) (hp : p = 1 ∨ p = 2) : Ok 4 ⟨1, turns n, (B : Int), (t : Int), p⟩ :=
  have h := (turns_ok h1).more (m := 4) (by omega)
  ⟨h.own, h.v1, h.v2, .inr ⟨B, hB, rfl, Int.natCast_nonneg _, (by omega : (t : Int) < 4), (fun e : (t : Int) = ((B % n : Nat) : Int) => hne (by omega)), hp⟩⟩
/-! ### STEP 1: THE WALK: the Go text returns true, AND WRITES NOTHING THAT WAS THERE: 'Below w.heap.size w w'' (Derived/Below.lean: '.refl', '.alloc', '.drew', '.setCell' at a new block, '.trans'). Open each 'IsRow' by 'rcases' AHEAD of 'go_enter'; part every test ahead of the walk. -/
set_option maxHeartbeats 4000000 in
theorem walk (a0 : Int) (a1 : Int) (a2 : Int) (w : World) (w0 : (Lit.int .i64 a0).wf = true) (w1 : (Lit.int .i64 a1).wf = true) (w2 : (Lit.int .i64 a2).wf = true) :
    Calls Try.prog 3 #[.int .i64 a0, .int .i64 a1, .int .i64 a2] w fun e w' => e = .returned (.bool true) ∧ Below w.heap.size w w' := by
  have k0 := bounds_i64 w0
  have k1 := bounds_i64 w1
  have k2 := bounds_i64 w2
  obtain ⟨N3, hN, hN3⟩ := tmod_nat a0 3 (by omega)
  obtain ⟨B, hB, hB16⟩ := tmod_nat a1 16 (by omega)
  simp only [Int.cast_ofNat_Int] at hN hB
  obtain ⟨N, hNe⟩ : ∃ N : Nat, N = 2 + N3 := ⟨_, rfl⟩
  have hNz : (2 : Int) + (N3 : Int) = (N : Int) := by omega
  obtain ⟨T, hT, hTN⟩ := tmod_nat a2 N (by omega)
  have hN3z : (N3 : Int) < 3 := by omega
  have hBz : (B : Int) < 16 := by omega
  have hTz : (T : Int) < (N : Int) := by omega
  have hN2z : 2 ≤ (N : Int) := by omega
  have hN4z : (N : Int) ≤ 4 := by omega
  obtain ⟨R, hR⟩ : ∃ R : Nat, B % N = R := ⟨_, rfl⟩
  have hRz : (B : Int).tmod (N : Int) = (R : Int) := by rw [← hR, Int.tmod_eq_emod_of_nonneg (by omega)]; omega
  have HN2 := Lib.hid (show 2 ≤ N by omega)
  have HN4 := Lib.hid (show N ≤ 4 by omega)
  have HB16 := Lib.hid hB16
  have HTN := Lib.hid hTN
  have HR := Lib.hid hR
  clear hN3 hB16 hTN hNe hR w0 w1 w2
  go_enter Try.func3, Try.ntmps3
  go_upto_region 2 with (fail)
  refine wp_region_stages Grow (kept_refl _) (kept_trans _) [] [0, 1, 2, 3, 4, 5, 6, 7, 8, 9, 10, 11] (by kernel_rfl) (by kernel_rfl) ?_
  simp only [selSt, sel, List.map_cons, List.map_nil, List.getD_cons_succ, List.getD_cons_zero]
  refine st_nil fun K2 hK2 => ?_
  repeat (go_big_quiet_step (fail))
  refine wpQuiet_nil (hK2 _ ?_)
  clear hK2 K2
  have GD : Hid (Grow w w.drew) := Kept.drew' w
  generalize w.drew = w0 at GD ⊢
  have CN := Lib.hid fun (w : World) => new_good (w := w) (n := N) (by have := HN2.out; omega) HN4.out
  go_upto_region 4 with (go_at_call 7; (with_reducible refine (CN.out _).mono ?_); rintro e x1 ⟨q1, o1, c1, rfl, hn, _, hg⟩; have H1 := Lib.hid hn.has; have G1 := Lib.hid hg; clear hn hg)
  have D1 := Lib.hid (DB.new H1.out 1 c1 (-1) 0 0)
  have K1 := Lib.hid ((GD.out.trans G1.out).trans (grow_box x1 1 (some ⟨q1, o1, none⟩) c1 (-1) 0 0))
  generalize x1.alloc (.cells #[.int .i64 1, .slice (some ⟨q1, o1, none⟩) 16 c1, .int .i64 (-1), .int .i64 0, .int .i64 0] 25) = y1 at *
  generalize x1.heap.size = g1 at *
  clear H1 G1 GD hN hB hT hN3z hNz
  obtain ⟨k0, k1, k2, k3, k4⟩ := cells5 D1.out.b
  by_cases hRT : R = T
  · subst hRT
    go_wp2_with (go_at_call 8; (with_reducible refine (told_any _).mono ?_); rintro e z1 ⟨rfl, hg⟩; have F1 := Lib.hid hg; clear hg k0 k1 k2 k3 k4; obtain ⟨k0, k1, k2, k3, k4⟩ := cells5 (D1.out.b.grow F1.out))
    go_ret
    exact ⟨rfl, Grow.below (K1.out.trans F1.out)⟩
  · have eRT : ((R : Int) == (T : Int)) = false := beq_eq_false_iff_ne.2 (by omega)
    have HOK : Hid (∀ p : Int, p = 1 ∨ p = 2 → Ok 4 ⟨1, turns N, (B : Int), (T : Int), p⟩) := fun p hp => ok_go (by have := HN2.out; omega) HN4.out HB16.out HTN.out (by rw [HR.out]; exact hRT) hp
    have HOR : Hid (Ok 4 ⟨1, turns N, -1, 0, 0⟩) := (turns_ok (by have := HN2.out; omega)).more (by have := HN4.out; omega)
    have CW : Hid (∀ w A c, Has w A 16 (turns N) → Calls Try.prog 11 #[.agg #[.int .i64 1, .slice A 16 c, .int .i64 (B : Int), .int .i64 (T : Int), .int .i64 2]] w (DrP 2 (went (turns N) B (T : Int)) (-1) 0 0 0 w)) := fun w A c h => switch_good (B := B) h (HOK.out 2 (.inr rfl)) HB16.out (by decide)
    clear hRT
    go_upto_region 7 with (go_at_call 9; (with_reducible refine (begin_good D1.out.h HOR.out (HOK.out 1 (.inl rfl))).mono ?_); rintro e x2 ⟨q2, o2, c2, rfl, hn, _, hg⟩; have H2 := Lib.hid hn.has; have G2 := Lib.hid hg; clear hn hg)
    clear k0 k1 k2 k3 k4
    have D2 := Lib.hid (DB.new H2.out 1 c2 (B : Int) (T : Int) 1)
    have E2 := Lib.hid (G2.out.trans (grow_box x2 1 (some ⟨q2, o2, none⟩) c2 (B : Int) (T : Int) 1))
    generalize x2.alloc (.cells #[.int .i64 1, .slice (some ⟨q2, o2, none⟩) 16 c2, .int .i64 (B : Int), .int .i64 (T : Int), .int .i64 1] 25) = y2 at *
    generalize x2.heap.size = g2 at *
    clear H2 G2
    obtain ⟨k0, k1, k2, k3, k4⟩ := cells5 D2.out.b
    go_upto_region 8 with (go_at_call 10; (with_reducible refine (carry_good D2.out.h (HOK.out 1 (.inl rfl))).mono ?_); rintro e x3 ⟨q3, o3, c3, rfl, hn, _, hg⟩; have H3 := Lib.hid hn.has; have G3 := Lib.hid hg; clear hn hg)
    clear k0 k1 k2 k3 k4
    have D3 := Lib.hid (DB.new H3.out 1 c3 (B : Int) (T : Int) 2)
    have E3 := Lib.hid (E2.out.trans (G3.out.trans (grow_box x3 1 (some ⟨q3, o3, none⟩) c3 (B : Int) (T : Int) 2)))
    generalize x3.alloc (.cells #[.int .i64 1, .slice (some ⟨q3, o3, none⟩) 16 c3, .int .i64 (B : Int), .int .i64 (T : Int), .int .i64 2] 25) = y3 at *
    generalize x3.heap.size = g3 at *
    clear H3 G3 D2 E2
    obtain ⟨k0, k1, k2, k3, k4⟩ := cells5 D3.out.b
    go_upto_region 9 with (go_at_call 11; (with_reducible refine (CW.out _ _ _ D3.out.h).mono ?_); rintro e x4 ⟨q4, o4, c4, rfl, hn, _, hg⟩; have H4 := Lib.hid hn.has; have G4 := Lib.hid hg; clear hn hg)
    clear k0 k1 k2 k3 k4
    have D4 := Lib.hid (DB.new H4.out 2 c4 (-1) 0 0)
    have E4 := Lib.hid (E3.out.trans (G4.out.trans (grow_box x4 2 (some ⟨q4, o4, none⟩) c4 (-1) 0 0)))
    generalize x4.alloc (.cells #[.int .i64 2, .slice (some ⟨q4, o4, none⟩) 16 c4, .int .i64 (-1), .int .i64 0, .int .i64 0] 25) = y4 at *
    generalize x4.heap.size = g4 at *
    have D14 := Lib.hid (D1.out.grow E4.out)
    have K4 := Lib.hid (K1.out.trans E4.out)
    clear H4 G4 D3 E3 D1 K1 E4 CW HOK HOR
    refine wp_region_stages Grow (kept_refl _) (kept_trans _) [([], 0), ([1, 2, 3, 4, 5, 6, 7, 8, 9, 10, 11, 12, 13, 14, 15, 16, 17, 18, 19, 20, 21, 22, 23, 24, 25, 26], 27), ([], 28)] [29, 30, 31, 32, 33, 34, 35, 36, 37, 38, 39, 40, 41, 42, 43, 44, 45] (by kernel_rfl) (by kernel_rfl) ?_
    simp only [selSt, sel, List.map_cons, List.map_nil, List.getD_cons_succ, List.getD_cons_zero]
    refine st_cons fun K1 hK1 => ?_
    refine wpQuiet_nil ?_
    go_wp2_with (go_at_call 8; (with_reducible refine (told_any _).mono ?_); rintro e z1 ⟨rfl, hg⟩; have F1 := Lib.hid hg; clear hg)
    refine norm_up (hK1 _ _ F1.out ?_)
    clear hK1 K1
    have F1' : Hid (Grow y4 z1) := (Kept.drew' y4).trans F1.out
    have D1z := Lib.hid (D14.out.grow F1'.out)
    obtain ⟨k0, k1, k2, k3, k4⟩ := cells5 D1z.out.b
    have q0 := up_cell (F := fun _ => False) (w := z1) k0 id
    have q1' := up_cell (F := fun _ => False) (w := z1) k1 id
    have q2' := up_cell (F := fun _ => False) (w := z1) k2 id
    have q3' := up_cell (F := fun _ => False) (w := z1) k3 id
    have q4' := up_cell (F := fun _ => False) (w := z1) k4 id
    obtain ⟨bb, oo, he, hc⟩ := D1z.out.h (by omega)
    injection he with he
    injection he with he1 he2
    subst he1 he2
    have r0 := hc B HB16.out
    rw [show turns N B = (R : Int) from congrArg (fun x : Nat => (x : Int)) HR.out] at r0
    have qr := up_cell (F := fun _ => False) (w := z1) r0 id
    clear k0 k1 k2 k3 k4 hc r0
    refine st_cons fun K1 hK1 => ?_
    repeat (go_big_quiet_step (fail))
    refine wpQuiet_nil ?_
    go_wp2_with (go_at_call 7; (with_reducible refine (CN.out _).mono ?_); rintro e z2 ⟨q5, o5, c5, rfl, hn, _, hg⟩; have H5 := Lib.hid hn.has; have F2 := Lib.hid hg; clear hn hg)
    refine norm_up (hK1 _ _ F2.out ?_)
    clear hK1 K1 q0 q1' q2' q3' q4' qr
    have CSM := Lib.hid (same_any (v := 1) (c := c1) (c' := c5) (b := -1) (t := 0) (p := 0) (b' := -1) (t' := 0) (p' := 0) (D1z.out.h.grow F2.out) H5.out)
    refine st_cons fun K1 hK1 => ?_
    refine wpQuiet_nil ?_
    go_wp2_with (go_at_call 12; (with_reducible refine CSM.out.mono ?_); rintro e z3 ⟨rfl, hg⟩; have F3 := Lib.hid hg; clear hg)
    refine norm_up (hK1 _ _ F3.out ?_)
    clear hK1 K1
    have D4z := Lib.hid (D4.out.grow ((F1'.out.trans F2.out).trans F3.out))
    obtain ⟨k0, k1, k2, k3, k4⟩ := cells5 D4z.out.b
    have q1' := up_cell (F := fun _ => False) (w := z3) k1 id
    obtain ⟨bb, oo, he, hc⟩ := D4z.out.h (by omega)
    injection he with he
    injection he with he1 he2
    subst he1 he2
    have r0 := hc B HB16.out
    rw [show went (turns N) B (T : Int) B = (T : Int) from if_pos rfl] at r0
    have qr := up_cell (F := fun _ => False) (w := z3) r0 id
    clear k0 k1 k2 k3 k4 hc r0
    refine st_nil fun K2 hK2 => ?_
    repeat (go_big_quiet_step (fail))
    refine wpQuiet_nil (hK2 _ ?_)
    clear hK2 K2
    go_wp2
    go_ret
    exact ⟨rfl, Grow.below (((K4.out.trans F1'.out).trans F2.out).trans F3.out)⟩

/-! ### THE ROW's STEP: WRITTEN OUT: LEAVE IT -/
set_option maxRecDepth 100000 in
theorem lifted (os : Os) (started : os.Started) (H : Type) (enc : TypeId × Value → H) :
    ReturnsInHanded {} Try.checked os 3 .any (Rows.dirOwnSpec.pre6 enc Try.prog Try.f3 Rows.dirOwnRow.domain false) (Rows.dirOwnSpec.post enc Try.prog Try.f3 false true false false) := by
  refine returnsInHanded_of_change (C := Try.checked) own started (by kernel_rfl) Try.func3
    (ChangeSpec.witness6 (enc := enc) (C := Try.checked) false ⟨#[], #[.int .i64 0, .int .i64 0, .int .i64 0], []⟩ 8 (by kernel_rfl) (by kernel_rfl) (by kernel_rfl) (by kernel_rfl)) ?_
  intro W base args ds gs before hval0 hW hcnd _
  have hval : ∀ (j : Nat) t v, Try.f3.params[j]? = some t → args[j]? = some v → Value.okWide Try.prog W .any base t v := hval0
  have hW' := hW
  obtain ⟨p, q, hA0, hV, rfl, hfz, hnd⟩ := hW
  have hA : DataW.TrodAll enc Try.prog W 0 (fun _ => true) true Try.f3.params.toList args.toList ds p := hA0
  rw [Try.params3] at hA hval
  obtain ⟨v0, vs0, d0, ds0, p0, q0, hargs, rfl, rfl, h0, r0⟩ := trodAll_cons hA
  obtain ⟨v1, vs1, d1, ds1, p1, q1, rfl, rfl, rfl, h1, r1⟩ := trodAll_cons r0
  obtain ⟨v2, vs2, d2, ds2, p2, q2, rfl, rfl, rfl, h2, r2⟩ := trodAll_cons r1
  obtain ⟨rfl, rfl, rfl⟩ := trodAll_nil r2
  obtain rfl : args = #[v0, v1, v2] := by cases args; simp_all
  obtain ⟨rfl, rfl⟩ := trodVars_none hV
  obtain ⟨a0, rfl, rfl, rfl, w0⟩ := open_int Try.underlying3 (hval 0 3 v0 rfl rfl) h0
  obtain ⟨a1, rfl, rfl, rfl, w1⟩ := open_int Try.underlying3 (hval 1 3 v1 rfl rfl) h1
  obtain ⟨a2, rfl, rfl, rfl, w2⟩ := open_int Try.underlying3 (hval 2 3 v2 rfl rfl) h2
  clear hA0 hval0
  refine (walk a0 a1 a2 W w0 w1 w2).mono fun e W' ⟨he, bel⟩ => ?_
  subst he
  exact ⟨_, rfl, _, _, _, [], _, [], hW', trodAll_mk1 (shut_bool Try.underlying4 _), (trodAll_cons_mk (shut_int Try.underlying3 w0) (trodAll_cons_mk (shut_int Try.underlying3 w1) (trodAll_cons_mk (shut_int Try.underlying3 w2) trodAll_mk0))), rfl, bel.frame _, fun h => by cases h⟩

theorem over : Rows.dirOwnRow.holds Try.pinned (OpenSpec.ofChange Rows.dirOwnSpec) :=
  OpenClaim.holds_of_wide 3 Try.f3 rfl rfl rfl rfl rfl rfl rfl ⟨rfl, rfl, rfl, rfl, rfl⟩ rfl rfl rfl rfl rfl (by kernel_rfl) Try.func3 (by kernel_rfl)
    (of_decide_eq_true (by kernel_rfl)) (by unfold Func.isWrapper; first | (rw [if_pos (by decide +kernel)]; kernel_rfl) | (rw [if_neg (by decide +kernel)]; exact ⟨rfl, rfl⟩))
    (fun os started H enc _ => lifted os started H enc)

/-- ████ THE STATEMENT ████ -/
theorem proved : Rows.DirOwnSaid := over
#print axioms proved
end Go.Proofs.Ytfmlbpnilblkjaa.dirOwn
