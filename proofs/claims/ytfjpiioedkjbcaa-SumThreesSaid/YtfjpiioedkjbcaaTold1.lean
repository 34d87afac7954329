/-
  The few answers that each statement of layer 1 asks for first are as they should be, and asking for them turns nothing that was there.
-/
import Derived.Test.YtfjpiioedkjbcaaSumCalls
import Derived.Lib.SlBytesConst
namespace Go.Proofs.Ytfjpiioedkjbcaa.Told1
open Go.ChangeShapes Go.WideShapes Go.ChangeAt Go.RowKit
open Go.Proofs.Ytfjpiioedkjbcaa.SumM Go.Proofs.Ytfjpiioedkjbcaa.Mem Go.Proofs.Ytfjpiioedkjbcaa.SumC

theorem told_any (w : World) : Calls Try.prog 8 #[] w fun e w' => e = .returned (.bool true) ∧ Below w.heap.size w w' := by
  have b1 : Bytes [] := fun c hc => by cases hc
  have b2 : Bytes [97] := fun c hc => by simp at hc; subst hc; exact ⟨by omega, by omega⟩
  have HT := turnI_u32 (s := 4294967295) (c := 97) ⟨by omega, by omega⟩ ⟨by omega, by omega⟩
  have HN := Lib.hid (u32_not _ HT)
  have H1 : Hid (ofI [97] = 4294967295 - turnI 4294967295 97) := rfl
  have H0 : ofI [] = 0 := rfl
  have H5 : moreI 5 [] = 5 := rfl
  have C0 := fun w1 => of_any none 0 0 0 [] w1 b1 (Nat.zero_le _) (Sl.nil _ _ _ _)
  have C5 := fun w1 => more_any 5 none 0 0 0 [] w1 ⟨by omega, by omega⟩ b1 (Nat.zero_le _) (Sl.nil _ _ _ _)
  have C1 := fun w1 (h : Sl w1 (w.heap.size + 1) .u8 (some ⟨w.heap.size, 0, none⟩) 1 [97]) => of_any (some ⟨w.heap.size, 0, none⟩) 1 1 _ [97] w1 b2 (by simp [maxLen]) h
  have CA := fun w1 => turn_any 1 0 ⟨by omega, by omega⟩ ⟨by omega, by omega⟩ w1
  have CB := fun w1 => refTurn_any 1 0 ⟨by omega, by omega⟩ ⟨by omega, by omega⟩ w1
  have CC := fun w1 => turn_any 4294967295 97 ⟨by omega, by omega⟩ ⟨by omega, by omega⟩ w1
  rw [H0] at C0
  rw [H5] at C5
  rw [H1.out, ← HN.out] at C1
  rw [show bits BinOp.xor IntKind.u32 4294967295 (turnI 4294967295 97) = bits BinOp.xor IntKind.u32 IntKind.u32.max (turnI 4294967295 97) from rfl] at C1
  clear H0 H5 HT HN H1 b1 b2
  generalize turnI 4294967295 97 = x at C1 CC
  generalize turnI 1 0 = y at CA CB
  have D0 := Lib.hid C0
  have D5 := Lib.hid C5
  have D1 := Lib.hid C1
  have DA := Lib.hid CA
  have DB := Lib.hid CB
  have DC := Lib.hid CC
  clear C0 C5 C1 CA CB CC
  have hcv := fun (w1 : World) C n c => Lib.run_convert_bytes_const w1 22 5 C n c Try.underlying22 Try.underlying5
  go_enter Try.func8, Try.ntmps8
  go_wp2_with (first
    | (go_at_call 9; (with_reducible refine (D0.out _).mono ?_); rintro e w' ⟨rfl, rfl⟩)
    | (go_at_call 9; (with_reducible refine (D1.out _ ?_).mono ?_); rotate_left; rintro e w' ⟨rfl, rfl⟩)
    | (go_at_call 11; (with_reducible refine (D5.out _).mono ?_); rintro e w' ⟨rfl, rfl⟩)
    | (go_at_call 13; (with_reducible refine (DA.out _).mono ?_); rintro e w' ⟨rfl, rfl⟩)
    | (go_at_call 13; (with_reducible refine (DC.out _).mono ?_); rintro e w' ⟨rfl, rfl⟩)
    | (go_at_call 14; (with_reducible refine (DB.out _).mono ?_); rintro e w' ⟨rfl, rfl⟩))
  · go_ret
    exact ⟨rfl, (Below.refl _ _).alloc (Nat.le_refl _) _⟩
  · exact Sl.new w .u8 _ _ [97]
end Go.Proofs.Ytfjpiioedkjbcaa.Told1
