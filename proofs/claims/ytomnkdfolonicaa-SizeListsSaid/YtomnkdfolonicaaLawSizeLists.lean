/-
  For every input the call of lavabolaw18.SizeLists returns true and leaves its arguments as they were; no condition.
-/
import Derived.Test.YtomnkdfolonicaaSzLay
import Derived.Test.YtomnkdfolonicaaRows
import Derived.WalkKit
import Derived.ProofKit
import Derived.OpenShut
import Derived.ShutString
import Derived.ChangeOld
import Derived.Below
namespace Go.Proofs.Ytomnkdfolonicaa.sizeLists
open Go.ChangeShapes Go.WideShapes Go.ChangeAt Go.RowKit
open Go.ChangeMaps (open_string shut_string)
open Go.Proofs.Ytomnkdfolonicaa.Mem Go.Proofs.Ytomnkdfolonicaa.Blk Go.Proofs.Ytomnkdfolonicaa.Cells Go.Proofs.Ytomnkdfolonicaa.GsC Go.Proofs.Ytomnkdfolonicaa.SzM Go.Proofs.Ytomnkdfolonicaa.SzC Go.Proofs.Ytomnkdfolonicaa.SzN Go.Proofs.Ytomnkdfolonicaa.SzR Go.Proofs.Ytomnkdfolonicaa.SzL Go.Proofs.Ytomnkdfolonicaa.Told18 Go.Proofs.Ytomnkdfolonicaa.Stages
set_option linter.unusedVariables false

theorem own : ownKnob Try.prog.godebug = none := by kernel_rfl
theorem laidOut : laidOutB Try.prog = true := by kernel_rfl

/-- WHAT THE WALK IS TOLD OF A SLICE OF INTEGERS THAT CAME IN: it is nil; or it leads to a row of 'cap' cells, the numbers 'zs' (the first 'len' are its elements, the rest its spare room), each fitting its kind. -/
def IsRow (k : IntKind) (w : World) (a : Option Addr) (len cap : Nat) (zs : List Int) : Prop :=
  (a = none ∧ len = 0 ∧ cap = 0 ∧ zs = []) ∨
  ∃ x, a = some x ∧ len ≤ cap ∧ cap ≤ maxLen ∧ zs.length = cap ∧ (∀ i, i < zs.length → w.cell? (x.add i) = some (.int k (zs.getD i 0))) ∧ ∀ n ∈ zs, (Lit.int k n).wf = true

/-- What is next where place q has one too many. -/
theorem next_more {m n q : Nat} (h1 : 1 ≤ n) (h4 : n ≤ 4) (hq : q < n) : nx (stp m n (more (shr m n) q)) ((m : Int) - tot (more (shr m n) q) n) n = (q : Int) ∧ nb (stp m n (more (shr m n) q)) ((m : Int) - tot (more (shr m n) q) n) n = -1 := by
  have ht : (m : Int) - tot (more (shr m n) q) n = -1 := by
    rw [tot_put (more_same _ _) (fun j => more_other) n, if_pos hq, tot_shr h1 h4]; omega
  have hd : tot (stp m n (more (shr m n) q)) n = -1 := (tot_stp h1 h4).trans ht
  obtain ⟨j, j1, j2, j3, j4⟩ := nx_spec (S := stp m n (more (shr m n) q)) (n := n) (by rw [hd]; decide)
  rw [hd] at j2 j3 j4
  rw [ht]
  have hj : j = q := by
    refine Decidable.byContradiction fun e => ?_
    have h0 : stp m n (more (shr m n) q) j = 0 := by
      show shr m n j - more (shr m n) q j = 0
      rw [more_other e]; omega
    rw [h0] at j4
    exact absurd j4 (by decide)
  subst hj
  exact ⟨j2, j3⟩
/-! ### STEP 1: THE WALK: the Go text returns true, AND WRITES NOTHING THAT WAS THERE: 'Below w.heap.size w w'' (Derived/Below.lean: '.refl', '.alloc', '.drew', '.setCell' at a new block, '.trans'). Open each 'IsRow' by 'rcases' AHEAD of 'go_enter'; part every test ahead of the walk. -/
set_option maxHeartbeats 4000000 in
theorem walk (a0 : Int) (a1 : Int) (a2 : Int) (w : World) (w0 : (Lit.int .i64 a0).wf = true) (w1 : (Lit.int .i64 a1).wf = true) (w2 : (Lit.int .i64 a2).wf = true) :
    Calls Try.prog 6 #[.int .i64 a0, .int .i64 a1, .int .i64 a2] w fun e w' => e = .returned (.bool true) ∧ Below w.heap.size w w' := by
  have k0 := bounds_i64 w0
  have k1 := bounds_i64 w1
  have k2 := bounds_i64 w2
  obtain ⟨M, hM, hM33⟩ := tmod_nat a0 33 (by omega)
  obtain ⟨N, hN, hN4⟩ := tmod_nat a1 4 (by omega)
  simp only [Int.cast_ofNat_Int] at hM hN
  obtain ⟨K, hK⟩ : ∃ K : Nat, K = 1 + N := ⟨_, rfl⟩
  have hKz : (1 : Int) + (N : Int) = (K : Int) := by omega
  obtain ⟨W, hW, hWK⟩ := tmod_nat a2 K (by omega)
  have HM := Lib.hid (show M ≤ 32 by omega)
  have HK1 := Lib.hid (show 1 ≤ K by omega)
  have HK4 := Lib.hid (show K ≤ 4 by omega)
  have HWK := Lib.hid hWK
  have hMz : (M : Int) ≤ 32 := by omega
  have hNz : (N : Int) < 4 := by omega
  clear hM33 hN4 hK w0 w1 w2
  go_enter Try.func6, Try.ntmps6
  have hK1z : 1 ≤ (K : Int) := by have := HK1.out; omega
  have hK4z : (K : Int) ≤ 4 := by have := HK4.out; omega
  have hWz : (W : Int) < (K : Int) := by have := HWK.out; omega
  have CS := Lib.hid fun (w : World) => share_good (w := w) HK1.out HK4.out HM.out
  go_upto_region 3 with (go_at_call 11; (with_reducible refine (CS.out _).mono ?_); rintro e x1 ⟨b1, rfl, hr, _, hg⟩; have R1 := Lib.hid hr; have G1 := Lib.hid hg; clear hr hg)
  clear CS hKz hNz hN hM
  have HSB : Hid (∀ j, j < K → 0 ≤ shr M K j ∧ shr M K j ≤ 33) := fun j _ => ⟨shr_nonneg, shr_le HM.out⟩
  have CT := Lib.hid (steps_good (c := K) R1.out.has HK1.out HK4.out HM.out fun j hj => ⟨(HSB.out j hj).1, by have := HSB.out j hj; omega⟩)
  go_wp2_with (go_at_call 13; (with_reducible refine CT.out.mono ?_); rintro e x2 ⟨b2, rfl, hr, _, hg⟩; have R2 := Lib.hid (hr.same (K := fun _ => 0) fun j _ => (Int.sub_self _).symm); have G2 := Lib.hid (G1.out.trans hg); have R12 := Lib.hid (R1.out.grow hg); clear hr hg)
  clear CT R1 G1
  go_loopg [11] K (fun gx i wr => ∃ j : Nat, j + gx = K ∧ i = .int .i64 (j : Int) ∧ x2 = wr)
  case atStart => exact ⟨0, by omega, rfl, rfl⟩
  case round =>
    obtain ⟨j, hg, rfl, rfl⟩ := hrel
    have HG := Lib.hid hg
    clear hg
    by_cases hj : j < K
    · have hjz : (j : Int) < (K : Int) := by omega
      have r0 := R2.out.cell hj
      go_wp2
      go_roundg (gk - 1)
      case measure => have := HG.out; omega
      case rel => exact ⟨j + 1, by have := HG.out; omega, by go_num, rfl⟩
    · obtain rfl : j = K := by have := HG.out; omega
      have CN := Lib.hid fun (c : Nat) => next_good (c := c) R12.out.has HK1.out HK4.out HM.out fun q hq => ⟨(HSB.out q hq).1, by have := HSB.out q hq; omega⟩
      rw [tot_shr HK1.out HK4.out, Int.sub_self, nx_zero.1, nx_zero.2] at CN
      go_upto_region 13 with (go_at_call 8; (with_reducible refine (CN.out _).mono ?_); rintro e x3 ⟨rfl, hg⟩; have R3 := Lib.hid (R12.out.grow hg); have G3 := Lib.hid (G2.out.trans hg); clear hg)
      obtain ⟨A4, c4, x4, hap, hgs, hbk, hg4⟩ := copy_has R3.out.has HK1.out (by have := HK4.out; omega) j
      have HAP := Lib.hid hap
      obtain ⟨b4, o4, rfl, hn4, hb4⟩ := Nm.of_gs hgs HK1.out
      have N4 := Lib.hid hn4
      have HB4 : Hid (w.heap.size ≤ b4) := by have := hbk b4 hb4; have := G3.out.size; show _ ≤ _; omega
      have G4 := Lib.hid (G3.out.trans hg4)
      clear hap hgs hbk hg4 hn4 hb4 CN R12 R2 G2 hW
      go_upto_region 14 with (at_builtin; refine Lib.wpList_append_run _ rfl _ _ _ _ rfl _ _ rfl rfl _ _ (HAP.out _) ?_)
      have r0 := N4.out.cell HWK.out
      have f0 := N4.out.frozen (o4 + W)
      obtain ⟨s0, s1⟩ := HSB.out W HWK.out
      have N5 : Hid (Nm (x4.setCell ⟨b4, o4 + W, none⟩ (.int .i64 (shr M j W + 1))) b4 o4 j (more (shr M j) W)) := N4.out.set W _ fun q _ => by
        by_cases e : q = W
        · subst e; rw [more_same, if_pos rfl]
        · rw [more_other e, if_neg e]
      have G5 : Hid (Grow w (x4.setCell ⟨b4, o4 + W, none⟩ (.int .i64 (shr M j W + 1)))) := G4.out.setCell (fun h => by have h : b4 < w.heap.size := h; have := HB4.out; omega) _
      obtain ⟨z, hz⟩ : ∃ z, shr M j W = z := ⟨_, rfl⟩
      rw [hz] at r0 s0 s1 N5 G5
      clear hz
      go_upto_region 15 with (fail)
      clear r0 f0
      generalize x4.setCell ⟨b4, o4 + W, none⟩ (.int .i64 (z + 1)) = x5 at N5 G5 ⊢
      have hnm := next_more (m := M) HK1.out HK4.out HWK.out
      have CN := Lib.hid fun (c : Nat) => next_good (c := c) N5.out.has HK1.out HK4.out HM.out fun q hq => by
        have h1 := HSB.out q hq
        by_cases e : q = W
        · subst e; rw [more_same]; omega
        · rw [more_other e]; omega
      rw [hnm.1, hnm.2] at CN
      clear hnm
      have eW : ((W : Int) == (W : Int)) = true := beq_self_eq_true _
      go_wp2_with (first
        | (go_at_call 8; (with_reducible refine (CN.out _).mono ?_); rintro e x6 ⟨rfl, hg⟩; have G6 := Lib.hid (G5.out.trans hg); clear hg)
        | (go_at_call 7; (with_reducible refine (told_any _).mono ?_); rintro e x7 ⟨rfl, hge⟩; have G7 := Lib.hid (G6.out.trans hge); clear hge))
      go_ret
      exact ⟨rfl, Grow.below G7.out⟩

/-! ### THE ROW's STEP: WRITTEN OUT: LEAVE IT -/
set_option maxRecDepth 100000 in
theorem lifted (os : Os) (started : os.Started) (H : Type) (enc : TypeId × Value → H) :
    ReturnsInHanded {} Try.checked os 6 .any (Rows.sizeListsSpec.pre6 enc Try.prog Try.f6 Rows.sizeListsRow.domain false) (Rows.sizeListsSpec.post enc Try.prog Try.f6 false true false false) := by
  refine returnsInHanded_of_change (C := Try.checked) own started (by kernel_rfl) Try.func6
    (ChangeSpec.witness6 (enc := enc) (C := Try.checked) false ⟨#[], #[.int .i64 0, .int .i64 0, .int .i64 0], []⟩ 8 (by kernel_rfl) (by kernel_rfl) (by kernel_rfl) (by kernel_rfl)) ?_
  intro W base args ds gs before hval0 hW hcnd _
  have hval : ∀ (j : Nat) t v, Try.f6.params[j]? = some t → args[j]? = some v → Value.okWide Try.prog W .any base t v := hval0
  have hW' := hW
  obtain ⟨p, q, hA0, hV, rfl, hfz, hnd⟩ := hW
  have hA : DataW.TrodAll enc Try.prog W 0 (fun _ => true) true Try.f6.params.toList args.toList ds p := hA0
  rw [Try.params6] at hA hval
  obtain ⟨v0, vs0, d0, ds0, p0, q0, hargs, rfl, rfl, h0, r0⟩ := trodAll_cons hA
  obtain ⟨v1, vs1, d1, ds1, p1, q1, rfl, rfl, rfl, h1, r1⟩ := trodAll_cons r0
  obtain ⟨v2, vs2, d2, ds2, p2, q2, rfl, rfl, rfl, h2, r2⟩ := trodAll_cons r1
  obtain ⟨rfl, rfl, rfl⟩ := trodAll_nil r2
  obtain rfl : args = #[v0, v1, v2] := by cases args; simp_all
  obtain ⟨rfl, rfl⟩ := trodVars_none hV
  obtain ⟨a0, rfl, rfl, rfl, w0⟩ := open_int Try.underlying3 (hval 0 3 v0 rfl rfl) h0
  obtain ⟨a1, rfl, rfl, rfl, w1⟩ := open_int Try.underlying3 (hval 1 3 v1 rfl rfl) h1
  obtain ⟨a2, rfl, rfl, rfl, w2⟩ := open_int Try.underlying3 (hval 2 3 v2 rfl rfl) h2
  clear hA0 hval0
  refine (walk a0 a1 a2 W w0 w1 w2).mono fun e W' ⟨he, bel⟩ => ?_
  subst he
  exact ⟨_, rfl, _, _, _, [], _, [], hW', trodAll_mk1 (shut_bool Try.underlying4 _), (trodAll_cons_mk (shut_int Try.underlying3 w0) (trodAll_cons_mk (shut_int Try.underlying3 w1) (trodAll_cons_mk (shut_int Try.underlying3 w2) trodAll_mk0))), rfl, bel.frame _, fun h => by cases h⟩

theorem over : Rows.sizeListsRow.holds Try.pinned (OpenSpec.ofChange Rows.sizeListsSpec) :=
  OpenClaim.holds_of_wide 6 Try.f6 rfl rfl rfl rfl rfl rfl rfl ⟨rfl, rfl, rfl, rfl, rfl⟩ rfl rfl rfl rfl rfl (by kernel_rfl) Try.func6 (by kernel_rfl)
    (of_decide_eq_true (by kernel_rfl)) (by unfold Func.isWrapper; first | (rw [if_pos (by decide +kernel)]; kernel_rfl) | (rw [if_neg (by decide +kernel)]; exact ⟨rfl, rfl⟩))
    (fun os started H enc _ => lifted os started H enc)

/-- ████ THE STATEMENT ████ -/
theorem proved : Rows.SizeListsSaid := over
#print axioms proved
end Go.Proofs.Ytomnkdfolonicaa.sizeLists
