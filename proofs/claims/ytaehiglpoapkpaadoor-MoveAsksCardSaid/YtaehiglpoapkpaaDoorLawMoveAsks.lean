/-
  For any two numbers the call of lavabolaw20.MoveAsks returns true, the program's two tables being what its text lays; no other condition.
-/
import Derived.Test.YtaehiglpoapkpaaDoorMvCalls
import Derived.Test.YtaehiglpoapkpaaDoorRows
import Derived.Test.YtaehiglpoapkpaaDoorCards
import Derived.Test.YtaehiglpoapkpaaDoorTie
import Derived.SevenTiedAt
import Derived.LaidMore
import Derived.WalkKit
import Derived.ProofKit
import Derived.OpenShut
import Derived.ShutString
import Derived.ChangeOld
import Derived.Below
namespace Go.Proofs.YtaehiglpoapkpaaDoor.moveAsks
open Go.ChangeShapes Go.WideShapes Go.ChangeAt Go.RowKit
open Go.ChangeMaps (open_string shut_string)
open Go.Proofs.YtaehiglpoapkpaaDoor.Mem Go.Proofs.YtaehiglpoapkpaaDoor.Blk Go.Proofs.YtaehiglpoapkpaaDoor.Cells Go.Proofs.YtaehiglpoapkpaaDoor.Mv Go.Proofs.YtaehiglpoapkpaaDoor.Stages
set_option linter.unusedVariables false

theorem own : ownKnob Tryd.prog.godebug = none := by kernel_rfl
theorem laidOut : laidOutB Tryd.prog = true := by kernel_rfl

set_option maxHeartbeats 4000000 in
theorem walk (a0 : Int) (a1 : Int) (w : World) (w0 : (Lit.int .i64 a0).wf = true) (w1 : (Lit.int .i64 a1).wf = true) (hT : Go.Proofs.YtaehiglpoapkpaaDoor.MvL.Tabs w) :
    Calls Tryd.prog 3 #[.int .i64 a0, .int .i64 a1] w fun e w' => e = .returned (.bool true) ∧ Below w.heap.size w w' := by
  rcases six a0 with rfl | rfl | rfl | rfl | rfl | rfl | hp
  · have CS := Lib.hid fun (v : World) (hv : Grow w v) => (serves_any (Tabs.grow hT hv) 0 : Calls Tryd.prog 7 #[.int .i64 0] v fun x w' => x = .returned (.tuple #[.bool true, .bool false]) ∧ Grow v w')
    have CR := Lib.hid fun (v : World) => (rserves_any 0 : Calls Tryd.prog 8 #[.int .i64 0] v fun x w' => x = .returned (.tuple #[.bool true, .bool false]) ∧ v = w')
    have CM := Lib.hid fun (v : World) (hv : Grow w v) => (may_any (Tabs.grow hT hv) 0 : Calls Tryd.prog 12 #[.int .i64 0] v fun x w' => x = .returned (.bool true) ∧ Grow v w')
    have CO := Lib.hid fun (v : World) (hv : Grow w v) => (over_any (Tabs.grow hT hv) 0 : Calls Tryd.prog 13 #[.int .i64 0] v fun x w' => x = .returned (.bool false) ∧ Grow v w')
    have CN := Lib.hid fun (v : World) (hv : Grow w v) => next_any (Tabs.grow hT hv) 0 a1
    have CV := Lib.hid fun (v : World) => rmove_any (w := v) 0 a1
    have CT := Lib.hid fun (v : World) (hv : Grow w v) => told_any (Tabs.grow hT hv)
    have eN : ∀ z : Int, (z == z) = true := fun z => beq_self_eq_true z
    generalize nxt 0 a1 = NX at *
    have EN := eN NX
    clear w0 w1 hT eN
    go_enter Tryd.func3, Tryd.ntmps3
    go_wp2_with (first
      | (go_at_call 7; (with_reducible refine (CS.out _ (Kept.refl _ _)).mono ?_); rintro x g1 ⟨rfl, hg⟩; have G1 := Lib.hid (hg); clear hg)
      | (go_at_call 8; (with_reducible refine (CR.out _).mono ?_); rintro x w9 ⟨rfl, rfl⟩)
      | (go_at_call 9; (with_reducible refine (CT.out _ G1.out).mono ?_); rintro x g2 ⟨rfl, hg⟩; have G2 := Lib.hid (G1.out.trans hg); clear hg)
      | (go_at_call 10; (with_reducible refine (CN.out _ G2.out).mono ?_); rintro x g3 ⟨rfl, hg⟩; have G3 := Lib.hid (G2.out.trans hg); clear hg)
      | (go_at_call 11; (with_reducible refine (CV.out _).mono ?_); rintro x w9 ⟨rfl, rfl⟩)
      | (go_at_call 12; (with_reducible refine (CM.out _ G3.out).mono ?_); rintro x g4 ⟨rfl, hg⟩; have G4 := Lib.hid (G3.out.trans hg); clear hg)
      | (go_at_call 13; (with_reducible refine (CO.out _ G4.out).mono ?_); rintro x g5 ⟨rfl, hg⟩; have G5 := Lib.hid (G4.out.trans hg); clear hg))
    go_ret
    exact ⟨rfl, Grow.below G5.out⟩
  · have CS := Lib.hid fun (v : World) (hv : Grow w v) => (serves_any (Tabs.grow hT hv) 1 : Calls Tryd.prog 7 #[.int .i64 1] v fun x w' => x = .returned (.tuple #[.bool true, .bool false]) ∧ Grow v w')
    have CR := Lib.hid fun (v : World) => (rserves_any 1 : Calls Tryd.prog 8 #[.int .i64 1] v fun x w' => x = .returned (.tuple #[.bool true, .bool false]) ∧ v = w')
    have CM := Lib.hid fun (v : World) (hv : Grow w v) => (may_any (Tabs.grow hT hv) 1 : Calls Tryd.prog 12 #[.int .i64 1] v fun x w' => x = .returned (.bool true) ∧ Grow v w')
    have CO := Lib.hid fun (v : World) (hv : Grow w v) => (over_any (Tabs.grow hT hv) 1 : Calls Tryd.prog 13 #[.int .i64 1] v fun x w' => x = .returned (.bool false) ∧ Grow v w')
    have CN := Lib.hid fun (v : World) (hv : Grow w v) => next_any (Tabs.grow hT hv) 1 a1
    have CV := Lib.hid fun (v : World) => rmove_any (w := v) 1 a1
    have CT := Lib.hid fun (v : World) (hv : Grow w v) => told_any (Tabs.grow hT hv)
    have eN : ∀ z : Int, (z == z) = true := fun z => beq_self_eq_true z
    generalize nxt 1 a1 = NX at *
    have EN := eN NX
    clear w0 w1 hT eN
    go_enter Tryd.func3, Tryd.ntmps3
    go_wp2_with (first
      | (go_at_call 7; (with_reducible refine (CS.out _ (Kept.refl _ _)).mono ?_); rintro x g1 ⟨rfl, hg⟩; have G1 := Lib.hid (hg); clear hg)
      | (go_at_call 8; (with_reducible refine (CR.out _).mono ?_); rintro x w9 ⟨rfl, rfl⟩)
      | (go_at_call 9; (with_reducible refine (CT.out _ G1.out).mono ?_); rintro x g2 ⟨rfl, hg⟩; have G2 := Lib.hid (G1.out.trans hg); clear hg)
      | (go_at_call 10; (with_reducible refine (CN.out _ G2.out).mono ?_); rintro x g3 ⟨rfl, hg⟩; have G3 := Lib.hid (G2.out.trans hg); clear hg)
      | (go_at_call 11; (with_reducible refine (CV.out _).mono ?_); rintro x w9 ⟨rfl, rfl⟩)
      | (go_at_call 12; (with_reducible refine (CM.out _ G3.out).mono ?_); rintro x g4 ⟨rfl, hg⟩; have G4 := Lib.hid (G3.out.trans hg); clear hg)
      | (go_at_call 13; (with_reducible refine (CO.out _ G4.out).mono ?_); rintro x g5 ⟨rfl, hg⟩; have G5 := Lib.hid (G4.out.trans hg); clear hg))
    go_ret
    exact ⟨rfl, Grow.below G5.out⟩
  · have CS := Lib.hid fun (v : World) (hv : Grow w v) => (serves_any (Tabs.grow hT hv) 2 : Calls Tryd.prog 7 #[.int .i64 2] v fun x w' => x = .returned (.tuple #[.bool false, .bool false]) ∧ Grow v w')
    have CR := Lib.hid fun (v : World) => (rserves_any 2 : Calls Tryd.prog 8 #[.int .i64 2] v fun x w' => x = .returned (.tuple #[.bool false, .bool false]) ∧ v = w')
    have CM := Lib.hid fun (v : World) (hv : Grow w v) => (may_any (Tabs.grow hT hv) 2 : Calls Tryd.prog 12 #[.int .i64 2] v fun x w' => x = .returned (.bool true) ∧ Grow v w')
    have CO := Lib.hid fun (v : World) (hv : Grow w v) => (over_any (Tabs.grow hT hv) 2 : Calls Tryd.prog 13 #[.int .i64 2] v fun x w' => x = .returned (.bool false) ∧ Grow v w')
    have CN := Lib.hid fun (v : World) (hv : Grow w v) => next_any (Tabs.grow hT hv) 2 a1
    have CV := Lib.hid fun (v : World) => rmove_any (w := v) 2 a1
    have CT := Lib.hid fun (v : World) (hv : Grow w v) => told_any (Tabs.grow hT hv)
    have eN : ∀ z : Int, (z == z) = true := fun z => beq_self_eq_true z
    generalize nxt 2 a1 = NX at *
    have EN := eN NX
    clear w0 w1 hT eN
    go_enter Tryd.func3, Tryd.ntmps3
    go_wp2_with (first
      | (go_at_call 7; (with_reducible refine (CS.out _ (Kept.refl _ _)).mono ?_); rintro x g1 ⟨rfl, hg⟩; have G1 := Lib.hid (hg); clear hg)
      | (go_at_call 8; (with_reducible refine (CR.out _).mono ?_); rintro x w9 ⟨rfl, rfl⟩)
      | (go_at_call 9; (with_reducible refine (CT.out _ G1.out).mono ?_); rintro x g2 ⟨rfl, hg⟩; have G2 := Lib.hid (G1.out.trans hg); clear hg)
      | (go_at_call 10; (with_reducible refine (CN.out _ G2.out).mono ?_); rintro x g3 ⟨rfl, hg⟩; have G3 := Lib.hid (G2.out.trans hg); clear hg)
      | (go_at_call 11; (with_reducible refine (CV.out _).mono ?_); rintro x w9 ⟨rfl, rfl⟩)
      | (go_at_call 12; (with_reducible refine (CM.out _ G3.out).mono ?_); rintro x g4 ⟨rfl, hg⟩; have G4 := Lib.hid (G3.out.trans hg); clear hg)
      | (go_at_call 13; (with_reducible refine (CO.out _ G4.out).mono ?_); rintro x g5 ⟨rfl, hg⟩; have G5 := Lib.hid (G4.out.trans hg); clear hg))
    go_ret
    exact ⟨rfl, Grow.below G5.out⟩
  · have CS := Lib.hid fun (v : World) (hv : Grow w v) => (serves_any (Tabs.grow hT hv) 3 : Calls Tryd.prog 7 #[.int .i64 3] v fun x w' => x = .returned (.tuple #[.bool false, .bool false]) ∧ Grow v w')
    have CR := Lib.hid fun (v : World) => (rserves_any 3 : Calls Tryd.prog 8 #[.int .i64 3] v fun x w' => x = .returned (.tuple #[.bool false, .bool false]) ∧ v = w')
    have CM := Lib.hid fun (v : World) (hv : Grow w v) => (may_any (Tabs.grow hT hv) 3 : Calls Tryd.prog 12 #[.int .i64 3] v fun x w' => x = .returned (.bool true) ∧ Grow v w')
    have CO := Lib.hid fun (v : World) (hv : Grow w v) => (over_any (Tabs.grow hT hv) 3 : Calls Tryd.prog 13 #[.int .i64 3] v fun x w' => x = .returned (.bool false) ∧ Grow v w')
    have CN := Lib.hid fun (v : World) (hv : Grow w v) => next_any (Tabs.grow hT hv) 3 a1
    have CV := Lib.hid fun (v : World) => rmove_any (w := v) 3 a1
    have CT := Lib.hid fun (v : World) (hv : Grow w v) => told_any (Tabs.grow hT hv)
    have eN : ∀ z : Int, (z == z) = true := fun z => beq_self_eq_true z
    generalize nxt 3 a1 = NX at *
    have EN := eN NX
    clear w0 w1 hT eN
    go_enter Tryd.func3, Tryd.ntmps3
    go_wp2_with (first
      | (go_at_call 7; (with_reducible refine (CS.out _ (Kept.refl _ _)).mono ?_); rintro x g1 ⟨rfl, hg⟩; have G1 := Lib.hid (hg); clear hg)
      | (go_at_call 8; (with_reducible refine (CR.out _).mono ?_); rintro x w9 ⟨rfl, rfl⟩)
      | (go_at_call 9; (with_reducible refine (CT.out _ G1.out).mono ?_); rintro x g2 ⟨rfl, hg⟩; have G2 := Lib.hid (G1.out.trans hg); clear hg)
      | (go_at_call 10; (with_reducible refine (CN.out _ G2.out).mono ?_); rintro x g3 ⟨rfl, hg⟩; have G3 := Lib.hid (G2.out.trans hg); clear hg)
      | (go_at_call 11; (with_reducible refine (CV.out _).mono ?_); rintro x w9 ⟨rfl, rfl⟩)
      | (go_at_call 12; (with_reducible refine (CM.out _ G3.out).mono ?_); rintro x g4 ⟨rfl, hg⟩; have G4 := Lib.hid (G3.out.trans hg); clear hg)
      | (go_at_call 13; (with_reducible refine (CO.out _ G4.out).mono ?_); rintro x g5 ⟨rfl, hg⟩; have G5 := Lib.hid (G4.out.trans hg); clear hg))
    go_ret
    exact ⟨rfl, Grow.below G5.out⟩
  · have CS := Lib.hid fun (v : World) (hv : Grow w v) => (serves_any (Tabs.grow hT hv) 4 : Calls Tryd.prog 7 #[.int .i64 4] v fun x w' => x = .returned (.tuple #[.bool false, .bool true]) ∧ Grow v w')
    have CR := Lib.hid fun (v : World) => (rserves_any 4 : Calls Tryd.prog 8 #[.int .i64 4] v fun x w' => x = .returned (.tuple #[.bool false, .bool true]) ∧ v = w')
    have CM := Lib.hid fun (v : World) (hv : Grow w v) => (may_any (Tabs.grow hT hv) 4 : Calls Tryd.prog 12 #[.int .i64 4] v fun x w' => x = .returned (.bool true) ∧ Grow v w')
    have CO := Lib.hid fun (v : World) (hv : Grow w v) => (over_any (Tabs.grow hT hv) 4 : Calls Tryd.prog 13 #[.int .i64 4] v fun x w' => x = .returned (.bool true) ∧ Grow v w')
    have CN := Lib.hid fun (v : World) (hv : Grow w v) => next_any (Tabs.grow hT hv) 4 a1
    have CV := Lib.hid fun (v : World) => rmove_any (w := v) 4 a1
    have CT := Lib.hid fun (v : World) (hv : Grow w v) => told_any (Tabs.grow hT hv)
    have eN : ∀ z : Int, (z == z) = true := fun z => beq_self_eq_true z
    generalize nxt 4 a1 = NX at *
    have EN := eN NX
    clear w0 w1 hT eN
    go_enter Tryd.func3, Tryd.ntmps3
    go_wp2_with (first
      | (go_at_call 7; (with_reducible refine (CS.out _ (Kept.refl _ _)).mono ?_); rintro x g1 ⟨rfl, hg⟩; have G1 := Lib.hid (hg); clear hg)
      | (go_at_call 8; (with_reducible refine (CR.out _).mono ?_); rintro x w9 ⟨rfl, rfl⟩)
      | (go_at_call 9; (with_reducible refine (CT.out _ G1.out).mono ?_); rintro x g2 ⟨rfl, hg⟩; have G2 := Lib.hid (G1.out.trans hg); clear hg)
      | (go_at_call 10; (with_reducible refine (CN.out _ G2.out).mono ?_); rintro x g3 ⟨rfl, hg⟩; have G3 := Lib.hid (G2.out.trans hg); clear hg)
      | (go_at_call 11; (with_reducible refine (CV.out _).mono ?_); rintro x w9 ⟨rfl, rfl⟩)
      | (go_at_call 12; (with_reducible refine (CM.out _ G3.out).mono ?_); rintro x g4 ⟨rfl, hg⟩; have G4 := Lib.hid (G3.out.trans hg); clear hg)
      | (go_at_call 13; (with_reducible refine (CO.out _ G4.out).mono ?_); rintro x g5 ⟨rfl, hg⟩; have G5 := Lib.hid (G4.out.trans hg); clear hg))
    go_ret
    exact ⟨rfl, Grow.below G5.out⟩
  · have CS := Lib.hid fun (v : World) (hv : Grow w v) => (serves_any (Tabs.grow hT hv) 5 : Calls Tryd.prog 7 #[.int .i64 5] v fun x w' => x = .returned (.tuple #[.bool true, .bool false]) ∧ Grow v w')
    have CR := Lib.hid fun (v : World) => (rserves_any 5 : Calls Tryd.prog 8 #[.int .i64 5] v fun x w' => x = .returned (.tuple #[.bool true, .bool false]) ∧ v = w')
    have CM := Lib.hid fun (v : World) (hv : Grow w v) => (may_any (Tabs.grow hT hv) 5 : Calls Tryd.prog 12 #[.int .i64 5] v fun x w' => x = .returned (.bool true) ∧ Grow v w')
    have CO := Lib.hid fun (v : World) (hv : Grow w v) => (over_any (Tabs.grow hT hv) 5 : Calls Tryd.prog 13 #[.int .i64 5] v fun x w' => x = .returned (.bool true) ∧ Grow v w')
    have CN := Lib.hid fun (v : World) (hv : Grow w v) => next_any (Tabs.grow hT hv) 5 a1
    have CV := Lib.hid fun (v : World) => rmove_any (w := v) 5 a1
    have CT := Lib.hid fun (v : World) (hv : Grow w v) => told_any (Tabs.grow hT hv)
    have eN : ∀ z : Int, (z == z) = true := fun z => beq_self_eq_true z
    generalize nxt 5 a1 = NX at *
    have EN := eN NX
    clear w0 w1 hT eN
    go_enter Tryd.func3, Tryd.ntmps3
    go_wp2_with (first
      | (go_at_call 7; (with_reducible refine (CS.out _ (Kept.refl _ _)).mono ?_); rintro x g1 ⟨rfl, hg⟩; have G1 := Lib.hid (hg); clear hg)
      | (go_at_call 8; (with_reducible refine (CR.out _).mono ?_); rintro x w9 ⟨rfl, rfl⟩)
      | (go_at_call 9; (with_reducible refine (CT.out _ G1.out).mono ?_); rintro x g2 ⟨rfl, hg⟩; have G2 := Lib.hid (G1.out.trans hg); clear hg)
      | (go_at_call 10; (with_reducible refine (CN.out _ G2.out).mono ?_); rintro x g3 ⟨rfl, hg⟩; have G3 := Lib.hid (G2.out.trans hg); clear hg)
      | (go_at_call 11; (with_reducible refine (CV.out _).mono ?_); rintro x w9 ⟨rfl, rfl⟩)
      | (go_at_call 12; (with_reducible refine (CM.out _ G3.out).mono ?_); rintro x g4 ⟨rfl, hg⟩; have G4 := Lib.hid (G3.out.trans hg); clear hg)
      | (go_at_call 13; (with_reducible refine (CO.out _ G4.out).mono ?_); rintro x g5 ⟨rfl, hg⟩; have G5 := Lib.hid (G4.out.trans hg); clear hg))
    go_ret
    exact ⟨rfl, Grow.below G5.out⟩
  · have E := fd_none hp
    have CS := Lib.hid fun (v : World) (hv : Grow w v) => (show Calls Tryd.prog 7 #[.int .i64 a0] v fun x w' => x = .returned (.tuple #[.bool false, .bool false]) ∧ Grow v w' from by have h := serves_any (Tabs.grow hT hv) a0; rwa [E] at h)
    have CR := Lib.hid fun (v : World) => (show Calls Tryd.prog 8 #[.int .i64 a0] v fun x w' => x = .returned (.tuple #[.bool false, .bool false]) ∧ v = w' from by have h := rserves_any (w := v) a0; rwa [E] at h)
    have CM := Lib.hid fun (v : World) (hv : Grow w v) => (show Calls Tryd.prog 12 #[.int .i64 a0] v fun x w' => x = .returned (.bool false) ∧ Grow v w' from by have h := may_any (Tabs.grow hT hv) a0; rwa [E] at h)
    have CO := Lib.hid fun (v : World) (hv : Grow w v) => (show Calls Tryd.prog 13 #[.int .i64 a0] v fun x w' => x = .returned (.bool false) ∧ Grow v w' from by have h := over_any (Tabs.grow hT hv) a0; rwa [E] at h)
    have CN := Lib.hid fun (v : World) (hv : Grow w v) => next_any (Tabs.grow hT hv) a0 a1
    have CV := Lib.hid fun (v : World) => rmove_any (w := v) a0 a1
    have CT := Lib.hid fun (v : World) (hv : Grow w v) => told_any (Tabs.grow hT hv)
    have eN : ∀ z : Int, (z == z) = true := fun z => beq_self_eq_true z
    generalize nxt a0 a1 = NX at *
    have b4 : (a0 == 4) = false := beq_eq_false_iff_ne.2 (by omega)
    have b5 : (a0 == 5) = false := beq_eq_false_iff_ne.2 (by omega)
    have EN := eN NX
    clear E
    clear w0 w1 hT eN
    rcases hp with hp | hp
    · have g0 : decide (0 ≤ a0) = false := decide_eq_false (by omega)
      go_enter Tryd.func3, Tryd.ntmps3
      go_wp2_with (first
        | (go_at_call 7; (with_reducible refine (CS.out _ (Kept.refl _ _)).mono ?_); rintro x g1 ⟨rfl, hg⟩; have G1 := Lib.hid (hg); clear hg)
        | (go_at_call 8; (with_reducible refine (CR.out _).mono ?_); rintro x w9 ⟨rfl, rfl⟩)
        | (go_at_call 9; (with_reducible refine (CT.out _ G1.out).mono ?_); rintro x g2 ⟨rfl, hg⟩; have G2 := Lib.hid (G1.out.trans hg); clear hg)
        | (go_at_call 10; (with_reducible refine (CN.out _ G2.out).mono ?_); rintro x g3 ⟨rfl, hg⟩; have G3 := Lib.hid (G2.out.trans hg); clear hg)
        | (go_at_call 11; (with_reducible refine (CV.out _).mono ?_); rintro x w9 ⟨rfl, rfl⟩)
        | (go_at_call 12; (with_reducible refine (CM.out _ G3.out).mono ?_); rintro x g4 ⟨rfl, hg⟩; have G4 := Lib.hid (G3.out.trans hg); clear hg)
        | (go_at_call 13; (with_reducible refine (CO.out _ G4.out).mono ?_); rintro x g5 ⟨rfl, hg⟩; have G5 := Lib.hid (G4.out.trans hg); clear hg))
      go_ret
      exact ⟨rfl, Grow.below G5.out⟩
    · have g0 : 0 ≤ a0 := by omega
      have g5 : decide (a0 ≤ 5) = false := decide_eq_false (by omega)
      go_enter Tryd.func3, Tryd.ntmps3
      go_wp2_with (first
        | (go_at_call 7; (with_reducible refine (CS.out _ (Kept.refl _ _)).mono ?_); rintro x g1 ⟨rfl, hg⟩; have G1 := Lib.hid (hg); clear hg)
        | (go_at_call 8; (with_reducible refine (CR.out _).mono ?_); rintro x w9 ⟨rfl, rfl⟩)
        | (go_at_call 9; (with_reducible refine (CT.out _ G1.out).mono ?_); rintro x g2 ⟨rfl, hg⟩; have G2 := Lib.hid (G1.out.trans hg); clear hg)
        | (go_at_call 10; (with_reducible refine (CN.out _ G2.out).mono ?_); rintro x g3 ⟨rfl, hg⟩; have G3 := Lib.hid (G2.out.trans hg); clear hg)
        | (go_at_call 11; (with_reducible refine (CV.out _).mono ?_); rintro x w9 ⟨rfl, rfl⟩)
        | (go_at_call 12; (with_reducible refine (CM.out _ G3.out).mono ?_); rintro x g4 ⟨rfl, hg⟩; have G4 := Lib.hid (G3.out.trans hg); clear hg)
        | (go_at_call 13; (with_reducible refine (CO.out _ G4.out).mono ?_); rintro x g5 ⟨rfl, hg⟩; have G5 := Lib.hid (G4.out.trans hg); clear hg))
      go_ret
      exact ⟨rfl, Grow.below G5.out⟩

set_option maxRecDepth 100000 in
theorem lifted (os : Os) (started : os.Started) (H : Type) (enc : TypeId × Value → H) :
    ReturnsInHanded {} Tryd.checked os 3 .any (fun w args => (Rows.moveAsksSpec.pre enc Tryd.prog Tryd.f3 [] false w args ∧ laidMetH Tryd.prog Go.Proofs.YtaehiglpoapkpaaDoor.MvL.laid w) ∧ sizedMet enc Tryd.prog Tryd.f3 (OpenSpec.ofChange Rows.moveAsksSpec) false w args)
      (Rows.moveAsksSpec.post enc Tryd.prog Tryd.f3 false true false false) := by
  refine returnsInHanded_of_change_and (C := Tryd.checked) (X := fun w _ => laidMetH Tryd.prog Go.Proofs.YtaehiglpoapkpaaDoor.MvL.laid w) (fun _ _ _ hh h => h.of_heap hh) own started (by kernel_rfl) Tryd.func3
    (ChangeSpec.witness_shaped (enc := enc) (C := Tryd.checked) (os := os) (X := fun w _ => laidMetH Tryd.prog Go.Proofs.YtaehiglpoapkpaaDoor.MvL.laid w) false (World.doorLaid Tryd.prog 31 os) #[.int .i64 0, .int .i64 0] 8 rfl (World.shaped_of_RefB (by kernel_rfl) (by kernel_rfl)) (by kernel_rfl) (by kernel_rfl) (by kernel_rfl) (Go.Proofs.YtaehiglpoapkpaaDoor.MvL.door_met os _)) ?_
  intro W base args ds gs before hval0 hW _ _ hL _
  have hval : ∀ (j : Nat) t v, Tryd.f3.params[j]? = some t → args[j]? = some v → Value.okWide Tryd.prog W .any base t v := hval0
  have hW' := hW
  obtain ⟨p, q, hA0, hV, rfl, hfz, hnd⟩ := hW
  have hA : DataW.TrodAll enc Tryd.prog W 0 (fun _ => true) true Tryd.f3.params.toList args.toList ds p := hA0
  rw [Tryd.params3] at hA hval
  obtain ⟨v0, vs0, d0, ds0, p0, q0, hargs, rfl, rfl, h0, r0⟩ := trodAll_cons hA
  obtain ⟨v1, vs1, d1, ds1, p1, q1, rfl, rfl, rfl, h1, r1⟩ := trodAll_cons r0
  obtain ⟨rfl, rfl, rfl⟩ := trodAll_nil r1
  obtain rfl : args = #[v0, v1] := by cases args; simp_all
  obtain ⟨rfl, rfl⟩ := trodVars_none hV
  obtain ⟨a0, rfl, rfl, rfl, w0⟩ := open_int Tryd.underlying3 (hval 0 3 v0 rfl rfl) h0
  obtain ⟨a1, rfl, rfl, rfl, w1⟩ := open_int Tryd.underlying3 (hval 1 3 v1 rfl rfl) h1
  clear hA0 hval0
  refine (walk a0 a1 W w0 w1 (Go.Proofs.YtaehiglpoapkpaaDoor.MvL.tabs_of hL)).mono fun e W' ⟨he, bel⟩ => ?_
  subst he
  exact ⟨_, rfl, _, _, _, [], _, [], hW', trodAll_mk1 (shut_bool Tryd.underlying4 _), (trodAll_cons_mk (shut_int Tryd.underlying3 w0) (trodAll_cons_mk (shut_int Tryd.underlying3 w1) trodAll_mk0)), rfl, bel.frame _, fun h => by cases h⟩

theorem over : Rows.moveAsksRow.holds Tryd.pinned (OpenSpec.ofChange Rows.moveAsksSpec) :=
  OpenClaim.holds_of_wide 3 Tryd.f3 rfl rfl rfl rfl rfl rfl rfl ⟨rfl, rfl, rfl, rfl, rfl⟩ rfl rfl rfl rfl rfl (by kernel_rfl) Tryd.func3 (by kernel_rfl)
    (of_decide_eq_true (by kernel_rfl)) (by unfold Func.isWrapper; first | (rw [if_pos (by decide +kernel)]; kernel_rfl) | (rw [if_neg (by decide +kernel)]; exact ⟨rfl, rfl⟩))
    (fun os started H enc _ => lifted os started H enc)

/-- ████ THE STATEMENT ████ -/
theorem proved : Rows.MoveAsksCardSaid :=
  Claim7.holds_tied_plain_at .later [] [.data, .data] true (true, "f4dc9e1cca478e3e08ff1c22741c8ebc72f185c958f0af4d9b95219ec100b591") false
    over (fun _ h => by cases h) (by kernel_rfl) (fun _ h => by cases h) moveAsks_row_tie rfl ⟨rfl, rfl⟩ (by kernel_rfl) rfl
    (fun f fn hf hfn => by
      obtain rfl : f = 3 := Option.some.inj ((show Tryd.prog.funcNamed "lavabo/lavabolaw20.MoveAsks" = some 3 by kernel_rfl).symm.trans hf) |>.symm
      obtain rfl : fn = Tryd.f3 := (Option.some.inj (Tryd.func3.symm.trans hfn)).symm
      exact ⟨by kernel_rfl, fun j t ht => by
        rw [Tryd.params3] at ht
        have hm : t ∈ [3, 3] := by simpa using Array.mem_of_getElem? ht
        have hall : ([3, 3].all fun u => !Tryd.prog.wantsStandIn u) = true := by kernel_rfl
        exact (show Tryd.prog.wantsStandIn t = false by simpa using List.all_eq_true.1 hall t hm)⟩)
    (by kernel_rfl)
#print axioms proved
end Go.Proofs.YtaehiglpoapkpaaDoor.moveAsks
