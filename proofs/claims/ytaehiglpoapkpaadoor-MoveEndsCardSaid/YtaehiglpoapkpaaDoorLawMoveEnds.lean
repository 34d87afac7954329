/-
  For any number the call of lavabolaw20.MoveEnds returns true, the program's two tables being what its text lays; no other condition.
-/
import Derived.Test.YtaehiglpoapkpaaDoorMvCalls
import Derived.Test.YtaehiglpoapkpaaDoorRows
import Derived.Test.YtaehiglpoapkpaaDoorCards
import Derived.Test.YtaehiglpoapkpaaDoorTie
import Derived.SevenTiedAt
import Derived.LaidMore
import Derived.WalkKit
import Derived.ProofKit
import Derived.OpenShut
import Derived.ShutString
import Derived.ChangeOld
import Derived.Below
namespace Go.Proofs.YtaehiglpoapkpaaDoor.moveEnds
open Go.ChangeShapes Go.WideShapes Go.ChangeAt Go.RowKit
open Go.ChangeMaps (open_string shut_string)
open Go.Proofs.YtaehiglpoapkpaaDoor.Mem Go.Proofs.YtaehiglpoapkpaaDoor.Blk Go.Proofs.YtaehiglpoapkpaaDoor.Cells Go.Proofs.YtaehiglpoapkpaaDoor.Mv Go.Proofs.YtaehiglpoapkpaaDoor.Stages
set_option linter.unusedVariables false

theorem own : ownKnob Tryd.prog.godebug = none := by kernel_rfl
theorem laidOut : laidOutB Tryd.prog = true := by kernel_rfl

/-- Where the move stands ahead of step j, if it is stopped at step k. -/
def St (k j p : Int) : Prop := (k = 1 ∨ k = 2) ∧ k < j ∧ p = 5 ∨ ¬ ((k = 1 ∨ k = 2) ∧ k < j) ∧ p = j
set_option maxHeartbeats 4000000 in
set_option maxRecDepth 100000 in
theorem walk (a0 : Int) (w : World) (w0 : (Lit.int .i64 a0).wf = true) (hT : Go.Proofs.YtaehiglpoapkpaaDoor.MvL.Tabs w) :
    Calls Tryd.prog 5 #[.int .i64 a0] w fun e w' => e = .returned (.bool true) ∧ Below w.heap.size w w' := by
  have k0 := bounds_i64 w0
  obtain ⟨K, hK, hK6⟩ := tmod_nat a0 6 (by omega)
  simp only [Int.cast_ofNat_Int] at hK
  have hK6z : (K : Int) < 6 := by omega
  have hK0z : 0 ≤ (K : Int) := by omega
  have HT := Lib.hid hT
  clear hT hK6
  generalize (K : Int) = kz at *
  have CT := Lib.hid fun (v : World) (hv : Grow w v) => told_any (Tabs.grow HT.out hv)
  have CN := Lib.hid fun (v : World) (hv : Grow w v) (p e : Int) => next_any (Tabs.grow HT.out hv) p e
  have CO := Lib.hid fun (v : World) (hv : Grow w v) (p : Int) => over_any (Tabs.grow HT.out hv) p
  have CS := Lib.hid fun (v : World) (hv : Grow w v) (p : Int) => serves_any (Tabs.grow HT.out hv) p
  go_enter Tryd.func5, Tryd.ntmps5
  go_upto_region 2 with (fail)
  have hb : Blk (w.alloc (.cells #[.int .i64 1, .int .i64 2, .int .i64 3, .int .i64 4] 3)) w.heap.size 3 [.int .i64 1, .int .i64 2, .int .i64 3, .int .i64 4] := Blk.new w _ _
  have hg0 : Grow w (w.alloc (.cells #[.int .i64 1, .int .i64 2, .int .i64 3, .int .i64 4] 3)) := (Kept.refl _ _).alloc _
  generalize w.alloc (.cells #[.int .i64 1, .int .i64 2, .int .i64 3, .int .i64 4] 3) = w1 at *
  generalize w.heap.size = g at *
  have HB := Lib.hid hb
  have HG0 := Lib.hid hg0
  clear hb hg0
  go_wp2
  go_loopg [5, 6] 4 (fun gx s5 s6 wr => ∃ (j p : Int), j + (gx : Int) = 4 ∧ 0 ≤ j ∧ s5 = .int .i64 p ∧ s6 = .int .i64 j ∧ St kz j p ∧ Grow w1 wr)
  case atStart => exact ⟨0, 0, by omega, by omega, rfl, rfl, .inr ⟨by omega, rfl⟩, Kept.refl _ _⟩
  case round =>
    obtain ⟨j, p, hj, hj0, rfl, rfl, hst, hg⟩ := hrel
    have HG := Lib.hid hg
    have HW := Lib.hid (HG0.out.trans hg)
    have HB2 := Lib.hid (HB.out.grow hg)
    clear hg
    unfold St at hst
    rcases (by omega : kz = 0 ∨ kz = 1 ∨ kz = 2 ∨ kz = 3 ∨ kz = 4 ∨ kz = 5) with rfl | rfl | rfl | rfl | rfl | rfl
    · rcases (by omega : j = 0 ∨ j = 1 ∨ j = 2 ∨ j = 3 ∨ j = 4) with rfl | rfl | rfl | rfl | rfl
      · obtain rfl : p = 0 := by omega
        clear hst
        have C0 := Lib.hid fun (v : World) (hv : Grow w v) => (show Calls Tryd.prog 13 #[.int .i64 0] v fun x w' => x = .returned (.bool false) ∧ Grow v w' from CO.out v hv 0)
        have C2 := Lib.hid fun (v : World) (hv : Grow w v) => (show Calls Tryd.prog 10 #[.int .i64 0, .int .i64 1] v fun x w' => x = .returned (.int .i64 1) ∧ Grow v w' from CN.out v hv 0 1)
        clear CN CO CS HB2
        go_wp2_with (first
          | (go_at_call 13; (with_reducible refine (C0.out _ HW.out).mono ?_); rintro x g0 ⟨rfl, hg⟩; have G0 := Lib.hid (HW.out.trans hg); have J0 := Lib.hid (HG.out.trans hg); clear hg; have k0 := (HB.out.grow J0.out).cell 0; dsimp only [List.getElem?_cons_zero, List.getElem?_cons_succ] at k0)
          | (go_at_call 10; (with_reducible refine (C2.out _ G0.out).mono ?_); rintro x g2 ⟨rfl, hg⟩; have G2 := Lib.hid (G0.out.trans hg); have J2 := Lib.hid (J0.out.trans hg); clear hg))
        go_roundg (gk - 1)
        case measure => omega
        case rel => exact ⟨1, 1, by omega, by omega, rfl, rfl, by unfold St; omega, J2.out⟩
      · obtain rfl : p = 1 := by omega
        clear hst
        have C0 := Lib.hid fun (v : World) (hv : Grow w v) => (show Calls Tryd.prog 13 #[.int .i64 1] v fun x w' => x = .returned (.bool false) ∧ Grow v w' from CO.out v hv 1)
        have C2 := Lib.hid fun (v : World) (hv : Grow w v) => (show Calls Tryd.prog 10 #[.int .i64 1, .int .i64 2] v fun x w' => x = .returned (.int .i64 2) ∧ Grow v w' from CN.out v hv 1 2)
        clear CN CO CS HB2
        go_wp2_with (first
          | (go_at_call 13; (with_reducible refine (C0.out _ HW.out).mono ?_); rintro x g0 ⟨rfl, hg⟩; have G0 := Lib.hid (HW.out.trans hg); have J0 := Lib.hid (HG.out.trans hg); clear hg; have k0 := (HB.out.grow J0.out).cell 1; dsimp only [List.getElem?_cons_zero, List.getElem?_cons_succ] at k0)
          | (go_at_call 10; (with_reducible refine (C2.out _ G0.out).mono ?_); rintro x g2 ⟨rfl, hg⟩; have G2 := Lib.hid (G0.out.trans hg); have J2 := Lib.hid (J0.out.trans hg); clear hg))
        go_roundg (gk - 1)
        case measure => omega
        case rel => exact ⟨2, 2, by omega, by omega, rfl, rfl, by unfold St; omega, J2.out⟩
      · obtain rfl : p = 2 := by omega
        clear hst
        have C0 := Lib.hid fun (v : World) (hv : Grow w v) => (show Calls Tryd.prog 13 #[.int .i64 2] v fun x w' => x = .returned (.bool false) ∧ Grow v w' from CO.out v hv 2)
        have C2 := Lib.hid fun (v : World) (hv : Grow w v) => (show Calls Tryd.prog 10 #[.int .i64 2, .int .i64 3] v fun x w' => x = .returned (.int .i64 3) ∧ Grow v w' from CN.out v hv 2 3)
        clear CN CO CS HB2
        go_wp2_with (first
          | (go_at_call 13; (with_reducible refine (C0.out _ HW.out).mono ?_); rintro x g0 ⟨rfl, hg⟩; have G0 := Lib.hid (HW.out.trans hg); have J0 := Lib.hid (HG.out.trans hg); clear hg; have k0 := (HB.out.grow J0.out).cell 2; dsimp only [List.getElem?_cons_zero, List.getElem?_cons_succ] at k0)
          | (go_at_call 10; (with_reducible refine (C2.out _ G0.out).mono ?_); rintro x g2 ⟨rfl, hg⟩; have G2 := Lib.hid (G0.out.trans hg); have J2 := Lib.hid (J0.out.trans hg); clear hg))
        go_roundg (gk - 1)
        case measure => omega
        case rel => exact ⟨3, 3, by omega, by omega, rfl, rfl, by unfold St; omega, J2.out⟩
      · obtain rfl : p = 3 := by omega
        clear hst
        have C0 := Lib.hid fun (v : World) (hv : Grow w v) => (show Calls Tryd.prog 13 #[.int .i64 3] v fun x w' => x = .returned (.bool false) ∧ Grow v w' from CO.out v hv 3)
        have C2 := Lib.hid fun (v : World) (hv : Grow w v) => (show Calls Tryd.prog 10 #[.int .i64 3, .int .i64 4] v fun x w' => x = .returned (.int .i64 4) ∧ Grow v w' from CN.out v hv 3 4)
        clear CN CO CS HB2
        go_wp2_with (first
          | (go_at_call 13; (with_reducible refine (C0.out _ HW.out).mono ?_); rintro x g0 ⟨rfl, hg⟩; have G0 := Lib.hid (HW.out.trans hg); have J0 := Lib.hid (HG.out.trans hg); clear hg; have k0 := (HB.out.grow J0.out).cell 3; dsimp only [List.getElem?_cons_zero, List.getElem?_cons_succ] at k0)
          | (go_at_call 10; (with_reducible refine (C2.out _ G0.out).mono ?_); rintro x g2 ⟨rfl, hg⟩; have G2 := Lib.hid (G0.out.trans hg); have J2 := Lib.hid (J0.out.trans hg); clear hg))
        go_roundg (gk - 1)
        case measure => omega
        case rel => exact ⟨4, 4, by omega, by omega, rfl, rfl, by unfold St; omega, J2.out⟩
      · obtain rfl : p = 4 := by omega
        clear hst
        have C1 := Lib.hid fun (v : World) (hv : Grow w v) => (show Calls Tryd.prog 7 #[.int .i64 4] v fun x w' => x = .returned (.tuple #[.bool false, .bool true]) ∧ Grow v w' from CS.out v hv 4)
        clear CN CO CS HB2 HG
        go_wp2_with (first
          | (go_at_call 7; (with_reducible refine (C1.out _ HW.out).mono ?_); rintro x g1 ⟨rfl, hg⟩; have G1 := Lib.hid (HW.out.trans hg); clear hg)
          | (go_at_call 9; (with_reducible refine (CT.out _ G1.out).mono ?_); rintro x g2 ⟨rfl, hg⟩; have G2 := Lib.hid (G1.out.trans hg); clear hg))
        go_ret
        exact ⟨rfl, Grow.below G2.out⟩
    · rcases (by omega : j = 0 ∨ j = 1 ∨ j = 2 ∨ j = 3 ∨ j = 4) with rfl | rfl | rfl | rfl | rfl
      · obtain rfl : p = 0 := by omega
        clear hst
        have C0 := Lib.hid fun (v : World) (hv : Grow w v) => (show Calls Tryd.prog 13 #[.int .i64 0] v fun x w' => x = .returned (.bool false) ∧ Grow v w' from CO.out v hv 0)
        have C2 := Lib.hid fun (v : World) (hv : Grow w v) => (show Calls Tryd.prog 10 #[.int .i64 0, .int .i64 1] v fun x w' => x = .returned (.int .i64 1) ∧ Grow v w' from CN.out v hv 0 1)
        clear CN CO CS HB2
        go_wp2_with (first
          | (go_at_call 13; (with_reducible refine (C0.out _ HW.out).mono ?_); rintro x g0 ⟨rfl, hg⟩; have G0 := Lib.hid (HW.out.trans hg); have J0 := Lib.hid (HG.out.trans hg); clear hg; have k0 := (HB.out.grow J0.out).cell 0; dsimp only [List.getElem?_cons_zero, List.getElem?_cons_succ] at k0)
          | (go_at_call 10; (with_reducible refine (C2.out _ G0.out).mono ?_); rintro x g2 ⟨rfl, hg⟩; have G2 := Lib.hid (G0.out.trans hg); have J2 := Lib.hid (J0.out.trans hg); clear hg))
        go_roundg (gk - 1)
        case measure => omega
        case rel => exact ⟨1, 1, by omega, by omega, rfl, rfl, by unfold St; omega, J2.out⟩
      · obtain rfl : p = 1 := by omega
        clear hst
        have C0 := Lib.hid fun (v : World) (hv : Grow w v) => (show Calls Tryd.prog 13 #[.int .i64 1] v fun x w' => x = .returned (.bool false) ∧ Grow v w' from CO.out v hv 1)
        have C1 := Lib.hid fun (v : World) (hv : Grow w v) => (show Calls Tryd.prog 10 #[.int .i64 1, .int .i64 5] v fun x w' => x = .returned (.int .i64 5) ∧ Grow v w' from CN.out v hv 1 5)
        have C2 := Lib.hid fun (v : World) (hv : Grow w v) => (show Calls Tryd.prog 10 #[.int .i64 5, .int .i64 2] v fun x w' => x = .returned (.int .i64 5) ∧ Grow v w' from CN.out v hv 5 2)
        clear CN CO CS HB2
        go_wp2_with (first
          | (go_at_call 13; (with_reducible refine (C0.out _ HW.out).mono ?_); rintro x g0 ⟨rfl, hg⟩; have G0 := Lib.hid (HW.out.trans hg); have J0 := Lib.hid (HG.out.trans hg); clear hg; have k0 := (HB.out.grow J0.out).cell 1; dsimp only [List.getElem?_cons_zero, List.getElem?_cons_succ] at k0)
          | (go_at_call 10; (with_reducible refine (C1.out _ G0.out).mono ?_); rintro x g1 ⟨rfl, hg⟩; have G1 := Lib.hid (G0.out.trans hg); have J1 := Lib.hid (J0.out.trans hg); clear hg; replace k0 := (HB.out.grow J1.out).cell 1; dsimp only [List.getElem?_cons_zero, List.getElem?_cons_succ] at k0)
          | (go_at_call 10; (with_reducible refine (C2.out _ G1.out).mono ?_); rintro x g2 ⟨rfl, hg⟩; have G2 := Lib.hid (G1.out.trans hg); have J2 := Lib.hid (J1.out.trans hg); clear hg))
        go_roundg (gk - 1)
        case measure => omega
        case rel => exact ⟨2, 5, by omega, by omega, rfl, rfl, by unfold St; omega, J2.out⟩
      · obtain rfl : p = 5 := by omega
        clear hst
        have C1 := Lib.hid fun (v : World) (hv : Grow w v) => (show Calls Tryd.prog 7 #[.int .i64 5] v fun x w' => x = .returned (.tuple #[.bool true, .bool false]) ∧ Grow v w' from CS.out v hv 5)
        have C0 := Lib.hid fun (v : World) (hv : Grow w v) => (show Calls Tryd.prog 13 #[.int .i64 5] v fun x w' => x = .returned (.bool true) ∧ Grow v w' from CO.out v hv 5)
        clear CN CO CS HB2 HG
        go_wp2_with (first
          | (go_at_call 13; (with_reducible refine (C0.out _ HW.out).mono ?_); rintro x g0 ⟨rfl, hg⟩; have G0 := Lib.hid (HW.out.trans hg); clear hg)
          | (go_at_call 7; (with_reducible refine (C1.out _ G0.out).mono ?_); rintro x g1 ⟨rfl, hg⟩; have G1 := Lib.hid (G0.out.trans hg); clear hg)
          | (go_at_call 9; (with_reducible refine (CT.out _ G1.out).mono ?_); rintro x g2 ⟨rfl, hg⟩; have G2 := Lib.hid (G1.out.trans hg); clear hg))
        go_ret
        exact ⟨rfl, Grow.below G2.out⟩
      · obtain rfl : p = 5 := by omega
        clear hst
        have C1 := Lib.hid fun (v : World) (hv : Grow w v) => (show Calls Tryd.prog 7 #[.int .i64 5] v fun x w' => x = .returned (.tuple #[.bool true, .bool false]) ∧ Grow v w' from CS.out v hv 5)
        have C0 := Lib.hid fun (v : World) (hv : Grow w v) => (show Calls Tryd.prog 13 #[.int .i64 5] v fun x w' => x = .returned (.bool true) ∧ Grow v w' from CO.out v hv 5)
        clear CN CO CS HB2 HG
        go_wp2_with (first
          | (go_at_call 13; (with_reducible refine (C0.out _ HW.out).mono ?_); rintro x g0 ⟨rfl, hg⟩; have G0 := Lib.hid (HW.out.trans hg); clear hg)
          | (go_at_call 7; (with_reducible refine (C1.out _ G0.out).mono ?_); rintro x g1 ⟨rfl, hg⟩; have G1 := Lib.hid (G0.out.trans hg); clear hg)
          | (go_at_call 9; (with_reducible refine (CT.out _ G1.out).mono ?_); rintro x g2 ⟨rfl, hg⟩; have G2 := Lib.hid (G1.out.trans hg); clear hg))
        go_ret
        exact ⟨rfl, Grow.below G2.out⟩
      · obtain rfl : p = 5 := by omega
        clear hst
        have C1 := Lib.hid fun (v : World) (hv : Grow w v) => (show Calls Tryd.prog 7 #[.int .i64 5] v fun x w' => x = .returned (.tuple #[.bool true, .bool false]) ∧ Grow v w' from CS.out v hv 5)
        clear CN CO CS HB2 HG
        go_wp2_with (first
          | (go_at_call 7; (with_reducible refine (C1.out _ HW.out).mono ?_); rintro x g1 ⟨rfl, hg⟩; have G1 := Lib.hid (HW.out.trans hg); clear hg)
          | (go_at_call 9; (with_reducible refine (CT.out _ G1.out).mono ?_); rintro x g2 ⟨rfl, hg⟩; have G2 := Lib.hid (G1.out.trans hg); clear hg))
        go_ret
        exact ⟨rfl, Grow.below G2.out⟩
    · rcases (by omega : j = 0 ∨ j = 1 ∨ j = 2 ∨ j = 3 ∨ j = 4) with rfl | rfl | rfl | rfl | rfl
      · obtain rfl : p = 0 := by omega
        clear hst
        have C0 := Lib.hid fun (v : World) (hv : Grow w v) => (show Calls Tryd.prog 13 #[.int .i64 0] v fun x w' => x = .returned (.bool false) ∧ Grow v w' from CO.out v hv 0)
        have C2 := Lib.hid fun (v : World) (hv : Grow w v) => (show Calls Tryd.prog 10 #[.int .i64 0, .int .i64 1] v fun x w' => x = .returned (.int .i64 1) ∧ Grow v w' from CN.out v hv 0 1)
        clear CN CO CS HB2
        go_wp2_with (first
          | (go_at_call 13; (with_reducible refine (C0.out _ HW.out).mono ?_); rintro x g0 ⟨rfl, hg⟩; have G0 := Lib.hid (HW.out.trans hg); have J0 := Lib.hid (HG.out.trans hg); clear hg; have k0 := (HB.out.grow J0.out).cell 0; dsimp only [List.getElem?_cons_zero, List.getElem?_cons_succ] at k0)
          | (go_at_call 10; (with_reducible refine (C2.out _ G0.out).mono ?_); rintro x g2 ⟨rfl, hg⟩; have G2 := Lib.hid (G0.out.trans hg); have J2 := Lib.hid (J0.out.trans hg); clear hg))
        go_roundg (gk - 1)
        case measure => omega
        case rel => exact ⟨1, 1, by omega, by omega, rfl, rfl, by unfold St; omega, J2.out⟩
      · obtain rfl : p = 1 := by omega
        clear hst
        have C0 := Lib.hid fun (v : World) (hv : Grow w v) => (show Calls Tryd.prog 13 #[.int .i64 1] v fun x w' => x = .returned (.bool false) ∧ Grow v w' from CO.out v hv 1)
        have C2 := Lib.hid fun (v : World) (hv : Grow w v) => (show Calls Tryd.prog 10 #[.int .i64 1, .int .i64 2] v fun x w' => x = .returned (.int .i64 2) ∧ Grow v w' from CN.out v hv 1 2)
        clear CN CO CS HB2
        go_wp2_with (first
          | (go_at_call 13; (with_reducible refine (C0.out _ HW.out).mono ?_); rintro x g0 ⟨rfl, hg⟩; have G0 := Lib.hid (HW.out.trans hg); have J0 := Lib.hid (HG.out.trans hg); clear hg; have k0 := (HB.out.grow J0.out).cell 1; dsimp only [List.getElem?_cons_zero, List.getElem?_cons_succ] at k0)
          | (go_at_call 10; (with_reducible refine (C2.out _ G0.out).mono ?_); rintro x g2 ⟨rfl, hg⟩; have G2 := Lib.hid (G0.out.trans hg); have J2 := Lib.hid (J0.out.trans hg); clear hg))
        go_roundg (gk - 1)
        case measure => omega
        case rel => exact ⟨2, 2, by omega, by omega, rfl, rfl, by unfold St; omega, J2.out⟩
      · obtain rfl : p = 2 := by omega
        clear hst
        have C0 := Lib.hid fun (v : World) (hv : Grow w v) => (show Calls Tryd.prog 13 #[.int .i64 2] v fun x w' => x = .returned (.bool false) ∧ Grow v w' from CO.out v hv 2)
        have C1 := Lib.hid fun (v : World) (hv : Grow w v) => (show Calls Tryd.prog 10 #[.int .i64 2, .int .i64 5] v fun x w' => x = .returned (.int .i64 5) ∧ Grow v w' from CN.out v hv 2 5)
        have C2 := Lib.hid fun (v : World) (hv : Grow w v) => (show Calls Tryd.prog 10 #[.int .i64 5, .int .i64 3] v fun x w' => x = .returned (.int .i64 5) ∧ Grow v w' from CN.out v hv 5 3)
        clear CN CO CS HB2
        go_wp2_with (first
          | (go_at_call 13; (with_reducible refine (C0.out _ HW.out).mono ?_); rintro x g0 ⟨rfl, hg⟩; have G0 := Lib.hid (HW.out.trans hg); have J0 := Lib.hid (HG.out.trans hg); clear hg; have k0 := (HB.out.grow J0.out).cell 2; dsimp only [List.getElem?_cons_zero, List.getElem?_cons_succ] at k0)
          | (go_at_call 10; (with_reducible refine (C1.out _ G0.out).mono ?_); rintro x g1 ⟨rfl, hg⟩; have G1 := Lib.hid (G0.out.trans hg); have J1 := Lib.hid (J0.out.trans hg); clear hg; replace k0 := (HB.out.grow J1.out).cell 2; dsimp only [List.getElem?_cons_zero, List.getElem?_cons_succ] at k0)
          | (go_at_call 10; (with_reducible refine (C2.out _ G1.out).mono ?_); rintro x g2 ⟨rfl, hg⟩; have G2 := Lib.hid (G1.out.trans hg); have J2 := Lib.hid (J1.out.trans hg); clear hg))
        go_roundg (gk - 1)
        case measure => omega
        case rel => exact ⟨3, 5, by omega, by omega, rfl, rfl, by unfold St; omega, J2.out⟩
      · obtain rfl : p = 5 := by omega
        clear hst
        have C1 := Lib.hid fun (v : World) (hv : Grow w v) => (show Calls Tryd.prog 7 #[.int .i64 5] v fun x w' => x = .returned (.tuple #[.bool true, .bool false]) ∧ Grow v w' from CS.out v hv 5)
        have C0 := Lib.hid fun (v : World) (hv : Grow w v) => (show Calls Tryd.prog 13 #[.int .i64 5] v fun x w' => x = .returned (.bool true) ∧ Grow v w' from CO.out v hv 5)
        clear CN CO CS HB2 HG
        go_wp2_with (first
          | (go_at_call 13; (with_reducible refine (C0.out _ HW.out).mono ?_); rintro x g0 ⟨rfl, hg⟩; have G0 := Lib.hid (HW.out.trans hg); clear hg)
          | (go_at_call 7; (with_reducible refine (C1.out _ G0.out).mono ?_); rintro x g1 ⟨rfl, hg⟩; have G1 := Lib.hid (G0.out.trans hg); clear hg)
          | (go_at_call 9; (with_reducible refine (CT.out _ G1.out).mono ?_); rintro x g2 ⟨rfl, hg⟩; have G2 := Lib.hid (G1.out.trans hg); clear hg))
        go_ret
        exact ⟨rfl, Grow.below G2.out⟩
      · obtain rfl : p = 5 := by omega
        clear hst
        have C1 := Lib.hid fun (v : World) (hv : Grow w v) => (show Calls Tryd.prog 7 #[.int .i64 5] v fun x w' => x = .returned (.tuple #[.bool true, .bool false]) ∧ Grow v w' from CS.out v hv 5)
        clear CN CO CS HB2 HG
        go_wp2_with (first
          | (go_at_call 7; (with_reducible refine (C1.out _ HW.out).mono ?_); rintro x g1 ⟨rfl, hg⟩; have G1 := Lib.hid (HW.out.trans hg); clear hg)
          | (go_at_call 9; (with_reducible refine (CT.out _ G1.out).mono ?_); rintro x g2 ⟨rfl, hg⟩; have G2 := Lib.hid (G1.out.trans hg); clear hg))
        go_ret
        exact ⟨rfl, Grow.below G2.out⟩
    · rcases (by omega : j = 0 ∨ j = 1 ∨ j = 2 ∨ j = 3 ∨ j = 4) with rfl | rfl | rfl | rfl | rfl
      · obtain rfl : p = 0 := by omega
        clear hst
        have C0 := Lib.hid fun (v : World) (hv : Grow w v) => (show Calls Tryd.prog 13 #[.int .i64 0] v fun x w' => x = .returned (.bool false) ∧ Grow v w' from CO.out v hv 0)
        have C2 := Lib.hid fun (v : World) (hv : Grow w v) => (show Calls Tryd.prog 10 #[.int .i64 0, .int .i64 1] v fun x w' => x = .returned (.int .i64 1) ∧ Grow v w' from CN.out v hv 0 1)
        clear CN CO CS HB2
        go_wp2_with (first
          | (go_at_call 13; (with_reducible refine (C0.out _ HW.out).mono ?_); rintro x g0 ⟨rfl, hg⟩; have G0 := Lib.hid (HW.out.trans hg); have J0 := Lib.hid (HG.out.trans hg); clear hg; have k0 := (HB.out.grow J0.out).cell 0; dsimp only [List.getElem?_cons_zero, List.getElem?_cons_succ] at k0)
          | (go_at_call 10; (with_reducible refine (C2.out _ G0.out).mono ?_); rintro x g2 ⟨rfl, hg⟩; have G2 := Lib.hid (G0.out.trans hg); have J2 := Lib.hid (J0.out.trans hg); clear hg))
        go_roundg (gk - 1)
        case measure => omega
        case rel => exact ⟨1, 1, by omega, by omega, rfl, rfl, by unfold St; omega, J2.out⟩
      · obtain rfl : p = 1 := by omega
        clear hst
        have C0 := Lib.hid fun (v : World) (hv : Grow w v) => (show Calls Tryd.prog 13 #[.int .i64 1] v fun x w' => x = .returned (.bool false) ∧ Grow v w' from CO.out v hv 1)
        have C2 := Lib.hid fun (v : World) (hv : Grow w v) => (show Calls Tryd.prog 10 #[.int .i64 1, .int .i64 2] v fun x w' => x = .returned (.int .i64 2) ∧ Grow v w' from CN.out v hv 1 2)
        clear CN CO CS HB2
        go_wp2_with (first
          | (go_at_call 13; (with_reducible refine (C0.out _ HW.out).mono ?_); rintro x g0 ⟨rfl, hg⟩; have G0 := Lib.hid (HW.out.trans hg); have J0 := Lib.hid (HG.out.trans hg); clear hg; have k0 := (HB.out.grow J0.out).cell 1; dsimp only [List.getElem?_cons_zero, List.getElem?_cons_succ] at k0)
          | (go_at_call 10; (with_reducible refine (C2.out _ G0.out).mono ?_); rintro x g2 ⟨rfl, hg⟩; have G2 := Lib.hid (G0.out.trans hg); have J2 := Lib.hid (J0.out.trans hg); clear hg))
        go_roundg (gk - 1)
        case measure => omega
        case rel => exact ⟨2, 2, by omega, by omega, rfl, rfl, by unfold St; omega, J2.out⟩
      · obtain rfl : p = 2 := by omega
        clear hst
        have C0 := Lib.hid fun (v : World) (hv : Grow w v) => (show Calls Tryd.prog 13 #[.int .i64 2] v fun x w' => x = .returned (.bool false) ∧ Grow v w' from CO.out v hv 2)
        have C2 := Lib.hid fun (v : World) (hv : Grow w v) => (show Calls Tryd.prog 10 #[.int .i64 2, .int .i64 3] v fun x w' => x = .returned (.int .i64 3) ∧ Grow v w' from CN.out v hv 2 3)
        clear CN CO CS HB2
        go_wp2_with (first
          | (go_at_call 13; (with_reducible refine (C0.out _ HW.out).mono ?_); rintro x g0 ⟨rfl, hg⟩; have G0 := Lib.hid (HW.out.trans hg); have J0 := Lib.hid (HG.out.trans hg); clear hg; have k0 := (HB.out.grow J0.out).cell 2; dsimp only [List.getElem?_cons_zero, List.getElem?_cons_succ] at k0)
          | (go_at_call 10; (with_reducible refine (C2.out _ G0.out).mono ?_); rintro x g2 ⟨rfl, hg⟩; have G2 := Lib.hid (G0.out.trans hg); have J2 := Lib.hid (J0.out.trans hg); clear hg))
        go_roundg (gk - 1)
        case measure => omega
        case rel => exact ⟨3, 3, by omega, by omega, rfl, rfl, by unfold St; omega, J2.out⟩
      · obtain rfl : p = 3 := by omega
        clear hst
        have C0 := Lib.hid fun (v : World) (hv : Grow w v) => (show Calls Tryd.prog 13 #[.int .i64 3] v fun x w' => x = .returned (.bool false) ∧ Grow v w' from CO.out v hv 3)
        have C1 := Lib.hid fun (v : World) (hv : Grow w v) => (show Calls Tryd.prog 10 #[.int .i64 3, .int .i64 5] v fun x w' => x = .returned (.int .i64 3) ∧ Grow v w' from CN.out v hv 3 5)
        have C2 := Lib.hid fun (v : World) (hv : Grow w v) => (show Calls Tryd.prog 10 #[.int .i64 3, .int .i64 4] v fun x w' => x = .returned (.int .i64 4) ∧ Grow v w' from CN.out v hv 3 4)
        clear CN CO CS HB2
        go_wp2_with (first
          | (go_at_call 13; (with_reducible refine (C0.out _ HW.out).mono ?_); rintro x g0 ⟨rfl, hg⟩; have G0 := Lib.hid (HW.out.trans hg); have J0 := Lib.hid (HG.out.trans hg); clear hg; have k0 := (HB.out.grow J0.out).cell 3; dsimp only [List.getElem?_cons_zero, List.getElem?_cons_succ] at k0)
          | (go_at_call 10; (with_reducible refine (C1.out _ G0.out).mono ?_); rintro x g1 ⟨rfl, hg⟩; have G1 := Lib.hid (G0.out.trans hg); have J1 := Lib.hid (J0.out.trans hg); clear hg; replace k0 := (HB.out.grow J1.out).cell 3; dsimp only [List.getElem?_cons_zero, List.getElem?_cons_succ] at k0)
          | (go_at_call 10; (with_reducible refine (C2.out _ G1.out).mono ?_); rintro x g2 ⟨rfl, hg⟩; have G2 := Lib.hid (G1.out.trans hg); have J2 := Lib.hid (J1.out.trans hg); clear hg))
        go_roundg (gk - 1)
        case measure => omega
        case rel => exact ⟨4, 4, by omega, by omega, rfl, rfl, by unfold St; omega, J2.out⟩
      · obtain rfl : p = 4 := by omega
        clear hst
        have C1 := Lib.hid fun (v : World) (hv : Grow w v) => (show Calls Tryd.prog 7 #[.int .i64 4] v fun x w' => x = .returned (.tuple #[.bool false, .bool true]) ∧ Grow v w' from CS.out v hv 4)
        clear CN CO CS HB2 HG
        go_wp2_with (first
          | (go_at_call 7; (with_reducible refine (C1.out _ HW.out).mono ?_); rintro x g1 ⟨rfl, hg⟩; have G1 := Lib.hid (HW.out.trans hg); clear hg)
          | (go_at_call 9; (with_reducible refine (CT.out _ G1.out).mono ?_); rintro x g2 ⟨rfl, hg⟩; have G2 := Lib.hid (G1.out.trans hg); clear hg))
        go_ret
        exact ⟨rfl, Grow.below G2.out⟩
    · rcases (by omega : j = 0 ∨ j = 1 ∨ j = 2 ∨ j = 3 ∨ j = 4) with rfl | rfl | rfl | rfl | rfl
      · obtain rfl : p = 0 := by omega
        clear hst
        have C0 := Lib.hid fun (v : World) (hv : Grow w v) => (show Calls Tryd.prog 13 #[.int .i64 0] v fun x w' => x = .returned (.bool false) ∧ Grow v w' from CO.out v hv 0)
        have C2 := Lib.hid fun (v : World) (hv : Grow w v) => (show Calls Tryd.prog 10 #[.int .i64 0, .int .i64 1] v fun x w' => x = .returned (.int .i64 1) ∧ Grow v w' from CN.out v hv 0 1)
        clear CN CO CS HB2
        go_wp2_with (first
          | (go_at_call 13; (with_reducible refine (C0.out _ HW.out).mono ?_); rintro x g0 ⟨rfl, hg⟩; have G0 := Lib.hid (HW.out.trans hg); have J0 := Lib.hid (HG.out.trans hg); clear hg; have k0 := (HB.out.grow J0.out).cell 0; dsimp only [List.getElem?_cons_zero, List.getElem?_cons_succ] at k0)
          | (go_at_call 10; (with_reducible refine (C2.out _ G0.out).mono ?_); rintro x g2 ⟨rfl, hg⟩; have G2 := Lib.hid (G0.out.trans hg); have J2 := Lib.hid (J0.out.trans hg); clear hg))
        go_roundg (gk - 1)
        case measure => omega
        case rel => exact ⟨1, 1, by omega, by omega, rfl, rfl, by unfold St; omega, J2.out⟩
      · obtain rfl : p = 1 := by omega
        clear hst
        have C0 := Lib.hid fun (v : World) (hv : Grow w v) => (show Calls Tryd.prog 13 #[.int .i64 1] v fun x w' => x = .returned (.bool false) ∧ Grow v w' from CO.out v hv 1)
        have C2 := Lib.hid fun (v : World) (hv : Grow w v) => (show Calls Tryd.prog 10 #[.int .i64 1, .int .i64 2] v fun x w' => x = .returned (.int .i64 2) ∧ Grow v w' from CN.out v hv 1 2)
        clear CN CO CS HB2
        go_wp2_with (first
          | (go_at_call 13; (with_reducible refine (C0.out _ HW.out).mono ?_); rintro x g0 ⟨rfl, hg⟩; have G0 := Lib.hid (HW.out.trans hg); have J0 := Lib.hid (HG.out.trans hg); clear hg; have k0 := (HB.out.grow J0.out).cell 1; dsimp only [List.getElem?_cons_zero, List.getElem?_cons_succ] at k0)
          | (go_at_call 10; (with_reducible refine (C2.out _ G0.out).mono ?_); rintro x g2 ⟨rfl, hg⟩; have G2 := Lib.hid (G0.out.trans hg); have J2 := Lib.hid (J0.out.trans hg); clear hg))
        go_roundg (gk - 1)
        case measure => omega
        case rel => exact ⟨2, 2, by omega, by omega, rfl, rfl, by unfold St; omega, J2.out⟩
      · obtain rfl : p = 2 := by omega
        clear hst
        have C0 := Lib.hid fun (v : World) (hv : Grow w v) => (show Calls Tryd.prog 13 #[.int .i64 2] v fun x w' => x = .returned (.bool false) ∧ Grow v w' from CO.out v hv 2)
        have C2 := Lib.hid fun (v : World) (hv : Grow w v) => (show Calls Tryd.prog 10 #[.int .i64 2, .int .i64 3] v fun x w' => x = .returned (.int .i64 3) ∧ Grow v w' from CN.out v hv 2 3)
        clear CN CO CS HB2
        go_wp2_with (first
          | (go_at_call 13; (with_reducible refine (C0.out _ HW.out).mono ?_); rintro x g0 ⟨rfl, hg⟩; have G0 := Lib.hid (HW.out.trans hg); have J0 := Lib.hid (HG.out.trans hg); clear hg; have k0 := (HB.out.grow J0.out).cell 2; dsimp only [List.getElem?_cons_zero, List.getElem?_cons_succ] at k0)
          | (go_at_call 10; (with_reducible refine (C2.out _ G0.out).mono ?_); rintro x g2 ⟨rfl, hg⟩; have G2 := Lib.hid (G0.out.trans hg); have J2 := Lib.hid (J0.out.trans hg); clear hg))
        go_roundg (gk - 1)
        case measure => omega
        case rel => exact ⟨3, 3, by omega, by omega, rfl, rfl, by unfold St; omega, J2.out⟩
      · obtain rfl : p = 3 := by omega
        clear hst
        have C0 := Lib.hid fun (v : World) (hv : Grow w v) => (show Calls Tryd.prog 13 #[.int .i64 3] v fun x w' => x = .returned (.bool false) ∧ Grow v w' from CO.out v hv 3)
        have C2 := Lib.hid fun (v : World) (hv : Grow w v) => (show Calls Tryd.prog 10 #[.int .i64 3, .int .i64 4] v fun x w' => x = .returned (.int .i64 4) ∧ Grow v w' from CN.out v hv 3 4)
        clear CN CO CS HB2
        go_wp2_with (first
          | (go_at_call 13; (with_reducible refine (C0.out _ HW.out).mono ?_); rintro x g0 ⟨rfl, hg⟩; have G0 := Lib.hid (HW.out.trans hg); have J0 := Lib.hid (HG.out.trans hg); clear hg; have k0 := (HB.out.grow J0.out).cell 3; dsimp only [List.getElem?_cons_zero, List.getElem?_cons_succ] at k0)
          | (go_at_call 10; (with_reducible refine (C2.out _ G0.out).mono ?_); rintro x g2 ⟨rfl, hg⟩; have G2 := Lib.hid (G0.out.trans hg); have J2 := Lib.hid (J0.out.trans hg); clear hg))
        go_roundg (gk - 1)
        case measure => omega
        case rel => exact ⟨4, 4, by omega, by omega, rfl, rfl, by unfold St; omega, J2.out⟩
      · obtain rfl : p = 4 := by omega
        clear hst
        have C1 := Lib.hid fun (v : World) (hv : Grow w v) => (show Calls Tryd.prog 7 #[.int .i64 4] v fun x w' => x = .returned (.tuple #[.bool false, .bool true]) ∧ Grow v w' from CS.out v hv 4)
        clear CN CO CS HB2 HG
        go_wp2_with (first
          | (go_at_call 7; (with_reducible refine (C1.out _ HW.out).mono ?_); rintro x g1 ⟨rfl, hg⟩; have G1 := Lib.hid (HW.out.trans hg); clear hg)
          | (go_at_call 9; (with_reducible refine (CT.out _ G1.out).mono ?_); rintro x g2 ⟨rfl, hg⟩; have G2 := Lib.hid (G1.out.trans hg); clear hg))
        go_ret
        exact ⟨rfl, Grow.below G2.out⟩
    · rcases (by omega : j = 0 ∨ j = 1 ∨ j = 2 ∨ j = 3 ∨ j = 4) with rfl | rfl | rfl | rfl | rfl
      · obtain rfl : p = 0 := by omega
        clear hst
        have C0 := Lib.hid fun (v : World) (hv : Grow w v) => (show Calls Tryd.prog 13 #[.int .i64 0] v fun x w' => x = .returned (.bool false) ∧ Grow v w' from CO.out v hv 0)
        have C2 := Lib.hid fun (v : World) (hv : Grow w v) => (show Calls Tryd.prog 10 #[.int .i64 0, .int .i64 1] v fun x w' => x = .returned (.int .i64 1) ∧ Grow v w' from CN.out v hv 0 1)
        clear CN CO CS HB2
        go_wp2_with (first
          | (go_at_call 13; (with_reducible refine (C0.out _ HW.out).mono ?_); rintro x g0 ⟨rfl, hg⟩; have G0 := Lib.hid (HW.out.trans hg); have J0 := Lib.hid (HG.out.trans hg); clear hg; have k0 := (HB.out.grow J0.out).cell 0; dsimp only [List.getElem?_cons_zero, List.getElem?_cons_succ] at k0)
          | (go_at_call 10; (with_reducible refine (C2.out _ G0.out).mono ?_); rintro x g2 ⟨rfl, hg⟩; have G2 := Lib.hid (G0.out.trans hg); have J2 := Lib.hid (J0.out.trans hg); clear hg))
        go_roundg (gk - 1)
        case measure => omega
        case rel => exact ⟨1, 1, by omega, by omega, rfl, rfl, by unfold St; omega, J2.out⟩
      · obtain rfl : p = 1 := by omega
        clear hst
        have C0 := Lib.hid fun (v : World) (hv : Grow w v) => (show Calls Tryd.prog 13 #[.int .i64 1] v fun x w' => x = .returned (.bool false) ∧ Grow v w' from CO.out v hv 1)
        have C2 := Lib.hid fun (v : World) (hv : Grow w v) => (show Calls Tryd.prog 10 #[.int .i64 1, .int .i64 2] v fun x w' => x = .returned (.int .i64 2) ∧ Grow v w' from CN.out v hv 1 2)
        clear CN CO CS HB2
        go_wp2_with (first
          | (go_at_call 13; (with_reducible refine (C0.out _ HW.out).mono ?_); rintro x g0 ⟨rfl, hg⟩; have G0 := Lib.hid (HW.out.trans hg); have J0 := Lib.hid (HG.out.trans hg); clear hg; have k0 := (HB.out.grow J0.out).cell 1; dsimp only [List.getElem?_cons_zero, List.getElem?_cons_succ] at k0)
          | (go_at_call 10; (with_reducible refine (C2.out _ G0.out).mono ?_); rintro x g2 ⟨rfl, hg⟩; have G2 := Lib.hid (G0.out.trans hg); have J2 := Lib.hid (J0.out.trans hg); clear hg))
        go_roundg (gk - 1)
        case measure => omega
        case rel => exact ⟨2, 2, by omega, by omega, rfl, rfl, by unfold St; omega, J2.out⟩
      · obtain rfl : p = 2 := by omega
        clear hst
        have C0 := Lib.hid fun (v : World) (hv : Grow w v) => (show Calls Tryd.prog 13 #[.int .i64 2] v fun x w' => x = .returned (.bool false) ∧ Grow v w' from CO.out v hv 2)
        have C2 := Lib.hid fun (v : World) (hv : Grow w v) => (show Calls Tryd.prog 10 #[.int .i64 2, .int .i64 3] v fun x w' => x = .returned (.int .i64 3) ∧ Grow v w' from CN.out v hv 2 3)
        clear CN CO CS HB2
        go_wp2_with (first
          | (go_at_call 13; (with_reducible refine (C0.out _ HW.out).mono ?_); rintro x g0 ⟨rfl, hg⟩; have G0 := Lib.hid (HW.out.trans hg); have J0 := Lib.hid (HG.out.trans hg); clear hg; have k0 := (HB.out.grow J0.out).cell 2; dsimp only [List.getElem?_cons_zero, List.getElem?_cons_succ] at k0)
          | (go_at_call 10; (with_reducible refine (C2.out _ G0.out).mono ?_); rintro x g2 ⟨rfl, hg⟩; have G2 := Lib.hid (G0.out.trans hg); have J2 := Lib.hid (J0.out.trans hg); clear hg))
        go_roundg (gk - 1)
        case measure => omega
        case rel => exact ⟨3, 3, by omega, by omega, rfl, rfl, by unfold St; omega, J2.out⟩
      · obtain rfl : p = 3 := by omega
        clear hst
        have C0 := Lib.hid fun (v : World) (hv : Grow w v) => (show Calls Tryd.prog 13 #[.int .i64 3] v fun x w' => x = .returned (.bool false) ∧ Grow v w' from CO.out v hv 3)
        have C2 := Lib.hid fun (v : World) (hv : Grow w v) => (show Calls Tryd.prog 10 #[.int .i64 3, .int .i64 4] v fun x w' => x = .returned (.int .i64 4) ∧ Grow v w' from CN.out v hv 3 4)
        clear CN CO CS HB2
        go_wp2_with (first
          | (go_at_call 13; (with_reducible refine (C0.out _ HW.out).mono ?_); rintro x g0 ⟨rfl, hg⟩; have G0 := Lib.hid (HW.out.trans hg); have J0 := Lib.hid (HG.out.trans hg); clear hg; have k0 := (HB.out.grow J0.out).cell 3; dsimp only [List.getElem?_cons_zero, List.getElem?_cons_succ] at k0)
          | (go_at_call 10; (with_reducible refine (C2.out _ G0.out).mono ?_); rintro x g2 ⟨rfl, hg⟩; have G2 := Lib.hid (G0.out.trans hg); have J2 := Lib.hid (J0.out.trans hg); clear hg))
        go_roundg (gk - 1)
        case measure => omega
        case rel => exact ⟨4, 4, by omega, by omega, rfl, rfl, by unfold St; omega, J2.out⟩
      · obtain rfl : p = 4 := by omega
        clear hst
        have C1 := Lib.hid fun (v : World) (hv : Grow w v) => (show Calls Tryd.prog 7 #[.int .i64 4] v fun x w' => x = .returned (.tuple #[.bool false, .bool true]) ∧ Grow v w' from CS.out v hv 4)
        clear CN CO CS HB2 HG
        go_wp2_with (first
          | (go_at_call 7; (with_reducible refine (C1.out _ HW.out).mono ?_); rintro x g1 ⟨rfl, hg⟩; have G1 := Lib.hid (HW.out.trans hg); clear hg)
          | (go_at_call 9; (with_reducible refine (CT.out _ G1.out).mono ?_); rintro x g2 ⟨rfl, hg⟩; have G2 := Lib.hid (G1.out.trans hg); clear hg))
        go_ret
        exact ⟨rfl, Grow.below G2.out⟩

set_option maxRecDepth 100000 in
theorem lifted (os : Os) (started : os.Started) (H : Type) (enc : TypeId × Value → H) :
    ReturnsInHanded {} Tryd.checked os 5 .any (fun w args => (Rows.moveEndsSpec.pre enc Tryd.prog Tryd.f5 [] false w args ∧ laidMetH Tryd.prog Go.Proofs.YtaehiglpoapkpaaDoor.MvL.laid w) ∧ sizedMet enc Tryd.prog Tryd.f5 (OpenSpec.ofChange Rows.moveEndsSpec) false w args)
      (Rows.moveEndsSpec.post enc Tryd.prog Tryd.f5 false true false false) := by
  refine returnsInHanded_of_change_and (C := Tryd.checked) (X := fun w _ => laidMetH Tryd.prog Go.Proofs.YtaehiglpoapkpaaDoor.MvL.laid w) (fun _ _ _ hh h => h.of_heap hh) own started (by kernel_rfl) Tryd.func5
    (ChangeSpec.witness_shaped (enc := enc) (C := Tryd.checked) (os := os) (X := fun w _ => laidMetH Tryd.prog Go.Proofs.YtaehiglpoapkpaaDoor.MvL.laid w) false (World.doorLaid Tryd.prog 31 os) #[.int .i64 0] 8 rfl (World.shaped_of_RefB (by kernel_rfl) (by kernel_rfl)) (by kernel_rfl) (by kernel_rfl) (by kernel_rfl) (Go.Proofs.YtaehiglpoapkpaaDoor.MvL.door_met os _)) ?_
  intro W base args ds gs before hval0 hW _ _ hL _
  have hval : ∀ (j : Nat) t v, Tryd.f5.params[j]? = some t → args[j]? = some v → Value.okWide Tryd.prog W .any base t v := hval0
  have hW' := hW
  obtain ⟨p, q, hA0, hV, rfl, hfz, hnd⟩ := hW
  have hA : DataW.TrodAll enc Tryd.prog W 0 (fun _ => true) true Tryd.f5.params.toList args.toList ds p := hA0
  rw [Tryd.params5] at hA hval
  obtain ⟨v0, vs0, d0, ds0, p0, q0, hargs, rfl, rfl, h0, r0⟩ := trodAll_cons hA
  obtain ⟨rfl, rfl, rfl⟩ := trodAll_nil r0
  obtain rfl : args = #[v0] := by cases args; simp_all
  obtain ⟨rfl, rfl⟩ := trodVars_none hV
  obtain ⟨a0, rfl, rfl, rfl, w0⟩ := open_int Tryd.underlying3 (hval 0 3 v0 rfl rfl) h0
  clear hA0 hval0
  refine (walk a0 W w0 (Go.Proofs.YtaehiglpoapkpaaDoor.MvL.tabs_of hL)).mono fun e W' ⟨he, bel⟩ => ?_
  subst he
  exact ⟨_, rfl, _, _, _, [], _, [], hW', trodAll_mk1 (shut_bool Tryd.underlying4 _), (trodAll_cons_mk (shut_int Tryd.underlying3 w0) trodAll_mk0), rfl, bel.frame _, fun h => by cases h⟩

theorem over : Rows.moveEndsRow.holds Tryd.pinned (OpenSpec.ofChange Rows.moveEndsSpec) :=
  OpenClaim.holds_of_wide 5 Tryd.f5 rfl rfl rfl rfl rfl rfl rfl ⟨rfl, rfl, rfl, rfl, rfl⟩ rfl rfl rfl rfl rfl (by kernel_rfl) Tryd.func5 (by kernel_rfl)
    (of_decide_eq_true (by kernel_rfl)) (by unfold Func.isWrapper; first | (rw [if_pos (by decide +kernel)]; kernel_rfl) | (rw [if_neg (by decide +kernel)]; exact ⟨rfl, rfl⟩))
    (fun os started H enc _ => lifted os started H enc)

/-- ████ THE STATEMENT ████ -/
theorem proved : Rows.MoveEndsCardSaid :=
  Claim7.holds_tied_plain_at .later [] [.data, .data] true (true, "f4dc9e1cca478e3e08ff1c22741c8ebc72f185c958f0af4d9b95219ec100b591") false
    over (fun _ h => by cases h) (by kernel_rfl) (fun _ h => by cases h) moveEnds_row_tie rfl ⟨rfl, rfl⟩ (by kernel_rfl) rfl
    (fun f fn hf hfn => by
      obtain rfl : f = 5 := Option.some.inj ((show Tryd.prog.funcNamed "lavabo/lavabolaw20.MoveEnds" = some 5 by kernel_rfl).symm.trans hf) |>.symm
      obtain rfl : fn = Tryd.f5 := (Option.some.inj (Tryd.func5.symm.trans hfn)).symm
      exact ⟨by kernel_rfl, fun j t ht => by
        rw [Tryd.params5] at ht
        have hm : t ∈ [3] := by simpa using Array.mem_of_getElem? ht
        have hall : ([3].all fun u => !Tryd.prog.wantsStandIn u) = true := by kernel_rfl
        exact (show Tryd.prog.wantsStandIn t = false by simpa using List.all_eq_true.1 hall t hm)⟩)
    (by kernel_rfl)
#print axioms proved
end Go.Proofs.YtaehiglpoapkpaaDoor.moveEnds
