/-
  For any three numbers the call of lavabolaw20.MoveStill returns true, the program's two tables being what its text lays; no other condition.
-/
import Derived.Test.YtaehiglpoapkpaaDoorMvCalls
import Derived.Test.YtaehiglpoapkpaaDoorRows
import Derived.Test.YtaehiglpoapkpaaDoorCards
import Derived.Test.YtaehiglpoapkpaaDoorTie
import Derived.SevenTiedAt
import Derived.LaidMore
import Derived.WalkKit
import Derived.ProofKit
import Derived.OpenShut
import Derived.ShutString
import Derived.ChangeOld
import Derived.Below
namespace Go.Proofs.YtaehiglpoapkpaaDoor.moveStill
open Go.ChangeShapes Go.WideShapes Go.ChangeAt Go.RowKit
open Go.ChangeMaps (open_string shut_string)
open Go.Proofs.YtaehiglpoapkpaaDoor.Mem Go.Proofs.YtaehiglpoapkpaaDoor.Blk Go.Proofs.YtaehiglpoapkpaaDoor.Cells Go.Proofs.YtaehiglpoapkpaaDoor.Mv Go.Proofs.YtaehiglpoapkpaaDoor.Stages
set_option linter.unusedVariables false

theorem own : ownKnob Tryd.prog.godebug = none := by kernel_rfl
theorem laidOut : laidOutB Tryd.prog = true := by kernel_rfl

/-- The event that a phase awaits. -/
def own1 : List Int := [1, 2, 3, 4, 0, 0]
/-- What is not awaited leads nowhere. -/
theorem stay {K E : Nat} (hK : K < 6) (hE : E < 7) (h : ¬ (1 + (E : Int) = own1.getD K 0)) (h5 : 1 + (E : Int) = 5 → ¬ ((K : Int) = 1) ∧ ¬ ((K : Int) = 2)) : nxt (K : Int) (1 + (E : Int)) = (K : Int) := by
  rcases (by omega : K = 0 ∨ K = 1 ∨ K = 2 ∨ K = 3 ∨ K = 4 ∨ K = 5) with rfl | rfl | rfl | rfl | rfl | rfl <;>
  rcases (by omega : E = 0 ∨ E = 1 ∨ E = 2 ∨ E = 3 ∨ E = 4 ∨ E = 5 ∨ E = 6) with rfl | rfl | rfl | rfl | rfl | rfl | rfl <;>
  first
  | decide
  | exact absurd (by decide) h
  | exact absurd rfl (h5 (by decide)).1
  | exact absurd rfl (h5 (by decide)).2
set_option maxHeartbeats 4000000 in
set_option maxRecDepth 100000 in
theorem walk (a0 : Int) (a1 : Int) (a2 : Int) (w : World) (w0 : (Lit.int .i64 a0).wf = true) (w1 : (Lit.int .i64 a1).wf = true) (w2 : (Lit.int .i64 a2).wf = true) (hT : Go.Proofs.YtaehiglpoapkpaaDoor.MvL.Tabs w) :
    Calls Tryd.prog 6 #[.int .i64 a0, .int .i64 a1, .int .i64 a2] w fun e w' => e = .returned (.bool true) ∧ Below w.heap.size w w' := by
  have k0 := bounds_i64 w0
  have k1 := bounds_i64 w1
  have k2 := bounds_i64 w2
  obtain ⟨K, hK, hK6⟩ := tmod_nat a0 6 (by omega)
  obtain ⟨E, hE, hE7⟩ := tmod_nat a1 7 (by omega)
  obtain ⟨M, hM, hM5⟩ := tmod_nat a2 5 (by omega)
  simp only [Int.cast_ofNat_Int] at hK hE hM
  have hK6z : (K : Int) < 6 := by omega
  have hK0z : 0 ≤ (K : Int) := by omega
  have hE7z : (E : Int) < 7 := by omega
  have hM5z : (M : Int) < 5 := by omega
  have HT := Lib.hid hT
  have HST := Lib.hid fun h h5 => stay hK6 hE7 h h5
  have HK6 := Lib.hid hK6
  have HM5 := Lib.hid hM5
  clear hT hK6 hE7 hM5 w0 w1 w2 k0 k1 k2
  have CT := Lib.hid fun (v : World) (hv : Grow w v) => told_any (Tabs.grow HT.out hv)
  have CN := Lib.hid fun (v : World) (hv : Grow w v) => next_any (Tabs.grow HT.out hv) (K : Int) (1 + (E : Int))
  go_enter Tryd.func6, Tryd.ntmps6
  go_upto_region 2 with (fail)
  have hb : Blk (w.alloc (.cells #[.int .i64 1, .int .i64 2, .int .i64 3, .int .i64 4, .int .i64 0, .int .i64 0] 3)) w.heap.size 3 (own1.map (Value.int .i64)) := Blk.new w _ _
  have c0 := hb.cellD (j := K) (by have := HK6.out; simpa [own1] using this) (.int .i64 0)
  have e0 : (own1.map (Value.int .i64)).getD K (.int .i64 0) = .int .i64 (own1.getD K 0) := by
    rcases (by have := HK6.out; omega : K = 0 ∨ K = 1 ∨ K = 2 ∨ K = 3 ∨ K = 4 ∨ K = 5) with rfl | rfl | rfl | rfl | rfl | rfl <;> rfl
  rw [e0] at c0
  generalize own1.getD K 0 = z at *
  clear hb e0
  go_upto_region 3 with (fail)
  have hg0 : Grow w (w.alloc (.cells #[.int .i64 1, .int .i64 2, .int .i64 3, .int .i64 4, .int .i64 0, .int .i64 0] 3)) := (Kept.refl _ _).alloc _
  generalize w.alloc (.cells #[.int .i64 1, .int .i64 2, .int .i64 3, .int .i64 4, .int .i64 0, .int .i64 0] 3) = w1 at *
  generalize w.heap.size = g at *
  have HG := Lib.hid hg0
  clear hg0 c0
  by_cases e1 : 1 + (E : Int) = z
  · have b1 : (1 + (E : Int) == z) = true := by rw [e1]; exact beq_self_eq_true z
    clear e1
    clear HST CN
    go_wp2_with (go_at_call 9; (with_reducible refine (CT.out _ HG.out).mono ?_); rintro x g1 ⟨rfl, hg⟩; have G1 := Lib.hid (HG.out.trans hg); clear hg)
    go_ret
    exact ⟨rfl, Grow.below G1.out⟩
  · have b1 : (1 + (E : Int) == z) = false := beq_eq_false_iff_ne.2 e1
    by_cases e5 : 1 + (E : Int) = 5
    · have b5 : (1 + (E : Int) == 5) = true := by rw [e5]; rfl
      by_cases k1 : (K : Int) = 1
      · have bk1 : ((K : Int) == 1) = true := by rw [k1]; rfl
        clear e1 e5 k1
        clear HST CN
        go_wp2_with (go_at_call 9; (with_reducible refine (CT.out _ HG.out).mono ?_); rintro x g1 ⟨rfl, hg⟩; have G1 := Lib.hid (HG.out.trans hg); clear hg)
        go_ret
        exact ⟨rfl, Grow.below G1.out⟩
      · have bk1 : ((K : Int) == 1) = false := beq_eq_false_iff_ne.2 k1
        by_cases k2 : (K : Int) = 2
        · have bk2 : ((K : Int) == 2) = true := by rw [k2]; rfl
          clear e1 e5 k1 k2
          clear HST CN
          go_wp2_with (go_at_call 9; (with_reducible refine (CT.out _ HG.out).mono ?_); rintro x g1 ⟨rfl, hg⟩; have G1 := Lib.hid (HG.out.trans hg); clear hg)
          go_ret
          exact ⟨rfl, Grow.below G1.out⟩
        · have bk2 : ((K : Int) == 2) = false := beq_eq_false_iff_ne.2 k2
          have hst := HST.out e1 fun _ => ⟨k1, k2⟩
          rw [hst] at CN
          clear e1 e5 k1 k2 hst HST
          go_wp2
          go_loopg [10, 11] 6 (fun gx s10 s11 wr => ∃ j : Nat, j + gx = 6 ∧ j ≤ M + 1 ∧ s10 = .int .i64 (K : Int) ∧ s11 = .int .i64 (j : Int) ∧ Grow w wr)
          case atStart => exact ⟨0, by omega, by omega, rfl, rfl, HG.out⟩
          case round =>
            clear HG
            obtain ⟨j, hj, hjm, rfl, rfl, hg⟩ := hrel
            have HG := Lib.hid hg
            have HJ := Lib.hid hj
            have HJM := Lib.hid hjm
            have hM5 := HM5.out
            clear hg
            by_cases h1 : j ≤ M
            · have h1z : (j : Int) ≤ (M : Int) := by omega
              have hj5 : (j : Int) ≤ 5 := by omega
              clear hj hjm hM5
              go_wp2_with (go_at_call 10; (with_reducible refine (CN.out _ HG.out).mono ?_); rintro x g1 ⟨rfl, hg⟩; have G1 := Lib.hid (HG.out.trans hg); clear hg)
              go_roundg (gk - 1)
              case measure => have := HJ.out; omega
              case rel => exact ⟨j + 1, by have := HJ.out; omega, by omega, rfl, by go_num, G1.out⟩
            · have h1z : (M : Int) < (j : Int) := by omega
              have hkk : ((K : Int) == (K : Int)) = true := beq_self_eq_true _
              clear hj hjm hM5 h1
              go_wp2_with (go_at_call 9; (with_reducible refine (CT.out _ HG.out).mono ?_); rintro x g1 ⟨rfl, hg⟩; have G1 := Lib.hid (HG.out.trans hg); clear hg)
              go_ret
              exact ⟨rfl, Grow.below G1.out⟩
    · have b5 : (1 + (E : Int) == 5) = false := beq_eq_false_iff_ne.2 e5
      have hst := HST.out e1 fun h => absurd h e5
      rw [hst] at CN
      clear e1 e5 hst HST
      go_wp2
      go_loopg [10, 11] 6 (fun gx s10 s11 wr => ∃ j : Nat, j + gx = 6 ∧ j ≤ M + 1 ∧ s10 = .int .i64 (K : Int) ∧ s11 = .int .i64 (j : Int) ∧ Grow w wr)
      case atStart => exact ⟨0, by omega, by omega, rfl, rfl, HG.out⟩
      case round =>
        clear HG
        obtain ⟨j, hj, hjm, rfl, rfl, hg⟩ := hrel
        have HG := Lib.hid hg
        have HJ := Lib.hid hj
        have HJM := Lib.hid hjm
        have hM5 := HM5.out
        clear hg
        by_cases h1 : j ≤ M
        · have h1z : (j : Int) ≤ (M : Int) := by omega
          have hj5 : (j : Int) ≤ 5 := by omega
          clear hj hjm hM5
          go_wp2_with (go_at_call 10; (with_reducible refine (CN.out _ HG.out).mono ?_); rintro x g1 ⟨rfl, hg⟩; have G1 := Lib.hid (HG.out.trans hg); clear hg)
          go_roundg (gk - 1)
          case measure => have := HJ.out; omega
          case rel => exact ⟨j + 1, by have := HJ.out; omega, by omega, rfl, by go_num, G1.out⟩
        · have h1z : (M : Int) < (j : Int) := by omega
          have hkk : ((K : Int) == (K : Int)) = true := beq_self_eq_true _
          clear hj hjm hM5 h1
          go_wp2_with (go_at_call 9; (with_reducible refine (CT.out _ HG.out).mono ?_); rintro x g1 ⟨rfl, hg⟩; have G1 := Lib.hid (HG.out.trans hg); clear hg)
          go_ret
          exact ⟨rfl, Grow.below G1.out⟩

set_option maxRecDepth 100000 in
theorem lifted (os : Os) (started : os.Started) (H : Type) (enc : TypeId × Value → H) :
    ReturnsInHanded {} Tryd.checked os 6 .any (fun w args => (Rows.moveStillSpec.pre enc Tryd.prog Tryd.f6 [] false w args ∧ laidMetH Tryd.prog Go.Proofs.YtaehiglpoapkpaaDoor.MvL.laid w) ∧ sizedMet enc Tryd.prog Tryd.f6 (OpenSpec.ofChange Rows.moveStillSpec) false w args)
      (Rows.moveStillSpec.post enc Tryd.prog Tryd.f6 false true false false) := by
  refine returnsInHanded_of_change_and (C := Tryd.checked) (X := fun w _ => laidMetH Tryd.prog Go.Proofs.YtaehiglpoapkpaaDoor.MvL.laid w) (fun _ _ _ hh h => h.of_heap hh) own started (by kernel_rfl) Tryd.func6
    (ChangeSpec.witness_shaped (enc := enc) (C := Tryd.checked) (os := os) (X := fun w _ => laidMetH Tryd.prog Go.Proofs.YtaehiglpoapkpaaDoor.MvL.laid w) false (World.doorLaid Tryd.prog 31 os) #[.int .i64 0, .int .i64 0, .int .i64 0] 8 rfl (World.shaped_of_RefB (by kernel_rfl) (by kernel_rfl)) (by kernel_rfl) (by kernel_rfl) (by kernel_rfl) (Go.Proofs.YtaehiglpoapkpaaDoor.MvL.door_met os _)) ?_
  intro W base args ds gs before hval0 hW _ _ hL _
  have hval : ∀ (j : Nat) t v, Tryd.f6.params[j]? = some t → args[j]? = some v → Value.okWide Tryd.prog W .any base t v := hval0
  have hW' := hW
  obtain ⟨p, q, hA0, hV, rfl, hfz, hnd⟩ := hW
  have hA : DataW.TrodAll enc Tryd.prog W 0 (fun _ => true) true Tryd.f6.params.toList args.toList ds p := hA0
  rw [Tryd.params6] at hA hval
  obtain ⟨v0, vs0, d0, ds0, p0, q0, hargs, rfl, rfl, h0, r0⟩ := trodAll_cons hA
  obtain ⟨v1, vs1, d1, ds1, p1, q1, rfl, rfl, rfl, h1, r1⟩ := trodAll_cons r0
  obtain ⟨v2, vs2, d2, ds2, p2, q2, rfl, rfl, rfl, h2, r2⟩ := trodAll_cons r1
  obtain ⟨rfl, rfl, rfl⟩ := trodAll_nil r2
  obtain rfl : args = #[v0, v1, v2] := by cases args; simp_all
  obtain ⟨rfl, rfl⟩ := trodVars_none hV
  obtain ⟨a0, rfl, rfl, rfl, w0⟩ := open_int Tryd.underlying3 (hval 0 3 v0 rfl rfl) h0
  obtain ⟨a1, rfl, rfl, rfl, w1⟩ := open_int Tryd.underlying3 (hval 1 3 v1 rfl rfl) h1
  obtain ⟨a2, rfl, rfl, rfl, w2⟩ := open_int Tryd.underlying3 (hval 2 3 v2 rfl rfl) h2
  clear hA0 hval0
  refine (walk a0 a1 a2 W w0 w1 w2 (Go.Proofs.YtaehiglpoapkpaaDoor.MvL.tabs_of hL)).mono fun e W' ⟨he, bel⟩ => ?_
  subst he
  exact ⟨_, rfl, _, _, _, [], _, [], hW', trodAll_mk1 (shut_bool Tryd.underlying4 _), (trodAll_cons_mk (shut_int Tryd.underlying3 w0) (trodAll_cons_mk (shut_int Tryd.underlying3 w1) (trodAll_cons_mk (shut_int Tryd.underlying3 w2) trodAll_mk0))), rfl, bel.frame _, fun h => by cases h⟩

theorem over : Rows.moveStillRow.holds Tryd.pinned (OpenSpec.ofChange Rows.moveStillSpec) :=
  OpenClaim.holds_of_wide 6 Tryd.f6 rfl rfl rfl rfl rfl rfl rfl ⟨rfl, rfl, rfl, rfl, rfl⟩ rfl rfl rfl rfl rfl (by kernel_rfl) Tryd.func6 (by kernel_rfl)
    (of_decide_eq_true (by kernel_rfl)) (by unfold Func.isWrapper; first | (rw [if_pos (by decide +kernel)]; kernel_rfl) | (rw [if_neg (by decide +kernel)]; exact ⟨rfl, rfl⟩))
    (fun os started H enc _ => lifted os started H enc)

/-- ████ THE STATEMENT ████ -/
theorem proved : Rows.MoveStillCardSaid :=
  Claim7.holds_tied_plain_at .later [] [.data, .data] true (true, "f4dc9e1cca478e3e08ff1c22741c8ebc72f185c958f0af4d9b95219ec100b591") false
    over (fun _ h => by cases h) (by kernel_rfl) (fun _ h => by cases h) moveStill_row_tie rfl ⟨rfl, rfl⟩ (by kernel_rfl) rfl
    (fun f fn hf hfn => by
      obtain rfl : f = 6 := Option.some.inj ((show Tryd.prog.funcNamed "lavabo/lavabolaw20.MoveStill" = some 6 by kernel_rfl).symm.trans hf) |>.symm
      obtain rfl : fn = Tryd.f6 := (Option.some.inj (Tryd.func6.symm.trans hfn)).symm
      exact ⟨by kernel_rfl, fun j t ht => by
        rw [Tryd.params6] at ht
        have hm : t ∈ [3, 3, 3] := by simpa using Array.mem_of_getElem? ht
        have hall : ([3, 3, 3].all fun u => !Tryd.prog.wantsStandIn u) = true := by kernel_rfl
        exact (show Tryd.prog.wantsStandIn t = false by simpa using List.all_eq_true.1 hall t hm)⟩)
    (by kernel_rfl)
#print axioms proved
end Go.Proofs.YtaehiglpoapkpaaDoor.moveStill
