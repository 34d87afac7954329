/-
  lavabolaw21.told tells true, in every world.
-/
import Derived.Test.YtabmefffeafifaaTdPick
import Derived.Test.YtabmefffeafifaaTdDue
import Derived.Deep.DeepCutAuto
namespace Go.Proofs.Ytabmefffeafifaa.Told21
open Go.ChangeShapes Go.WideShapes Go.ChangeAt Go.RowKit
open Go.Proofs.Ytabmefffeafifaa.Mem Go.Proofs.Ytabmefffeafifaa.Blk Go.Proofs.Ytabmefffeafifaa.Cells Go.Proofs.Ytabmefffeafifaa.GsC Go.Proofs.Ytabmefffeafifaa.FrmC Go.Proofs.Ytabmefffeafifaa.TdM Go.Proofs.Ytabmefffeafifaa.TdC Go.Proofs.Ytabmefffeafifaa.Stages

/-- The frames that are asked of. -/
def frs (j : Nat) : Fm := ([⟨1, 0, 0, 0, true⟩, ⟨1, 0, 0, 0, false⟩, ⟨1, 0, 1, 0, true⟩, ⟨1, 0, 0, 0, true⟩] : List Fm).getD j ⟨0, 0, 0, 0, false⟩
abbrev frz : List Value := [.int .i64 1, .int .i64 0, .int .i64 0, .int .i64 0, .bool true, .int .i64 1, .int .i64 0, .int .i64 0, .int .i64 0, .bool false, .int .i64 1, .int .i64 0, .int .i64 1, .int .i64 0, .bool true, .int .i64 1, .int .i64 0, .int .i64 0, .int .i64 0, .bool true]
section
variable {w w' : World} {g : Nat}
theorem frs_in (h : Blk w g 25 frz) : Fr w (some ⟨g, 0, none⟩) 4 frs ∧ Fr w (some ⟨g, 5, none⟩) 1 fun j => frs (j + 1) := by
  refine ⟨fun _ => ⟨g, 0, rfl, fun j hj => ?_⟩, fun _ => ⟨g, 5, rfl, fun j hj => ?_⟩⟩
  · have : j = 0 ∨ j = 1 ∨ j = 2 ∨ j = 3 := by omega
    rcases this with rfl | rfl | rfl | rfl <;> exact ⟨h.cell _, h.cell _, h.cell _, h.cell _, h.cell _⟩
  · obtain rfl : j = 0 := by omega
    exact ⟨h.cell _, h.cell _, h.cell _, h.cell _, h.cell _⟩
end
/-- What is told of the frames. -/
theorem told_math : pick frs 4 1 2 4 = [3, 0] ∧ pick frs 4 0 0 4 = [] ∧ dueT frs 4 = true ∧ dueT (fun j => frs (j + 1)) 1 = false := ⟨by decide, by decide, by decide, by decide⟩
set_option maxHeartbeats 4000000 in
theorem told_any (w : World) : Calls Try.prog 5 #[] w fun e w' => e = .returned (.bool true) ∧ Grow w w' := by
  go_enter Try.func5, Try.ntmps5
  go_upto_region 2 with (fail)
  have hb : Blk (w.alloc (.cells #[.int .i64 1, .int .i64 0, .int .i64 0, .int .i64 0, .bool true, .int .i64 1, .int .i64 0, .int .i64 0, .int .i64 0, .bool false, .int .i64 1, .int .i64 0, .int .i64 1, .int .i64 0, .bool true, .int .i64 1, .int .i64 0, .int .i64 0, .int .i64 0, .bool true] 25)) w.heap.size 25 frz := Blk.new w _ _
  have HG0 : Hid (Grow w (w.alloc (.cells #[.int .i64 1, .int .i64 0, .int .i64 0, .int .i64 0, .bool true, .int .i64 1, .int .i64 0, .int .i64 0, .int .i64 0, .bool false, .int .i64 1, .int .i64 0, .int .i64 1, .int .i64 0, .bool true, .int .i64 1, .int .i64 0, .int .i64 0, .int .i64 0, .bool true] 25))) := (Kept.refl _ w).alloc _
  generalize w.alloc (.cells #[.int .i64 1, .int .i64 0, .int .i64 0, .int .i64 0, .bool true, .int .i64 1, .int .i64 0, .int .i64 0, .int .i64 0, .bool false, .int .i64 1, .int .i64 0, .int .i64 1, .int .i64 0, .bool true, .int .i64 1, .int .i64 0, .int .i64 0, .int .i64 0, .bool true] 25) = w1 at hb HG0 ⊢
  generalize w.heap.size = g at hb ⊢
  obtain ⟨hf, hf2⟩ := frs_in hb
  have HF := Lib.hid hf
  have HF2 := Lib.hid hf2
  clear hb hf hf2
  obtain ⟨m1, m2, m3, m4⟩ := told_math
  have C1 := Lib.hid fun (wx : World) (hg : Grow w1 wx) (c : Nat) => pick_any (c := c) (a := 1) (k := 2) (HF.out.grow hg) (by omega) (by omega) (by omega)
  have C2 := Lib.hid fun (wx : World) (hg : Grow w1 wx) (c : Nat) => pick_any (c := c) (a := 0) (k := 0) (HF.out.grow hg) (by omega) (by omega) (by omega)
  have C3 := Lib.hid fun (wx : World) => pick_any (w := wx) (c := 0) (a := 3) (k := 3) (Fr.nil wx none frs) (by omega) (by omega) (by omega)
  have D1 := Lib.hid fun (wx : World) (hg : Grow w1 wx) (c : Nat) => due_any (c := c) (HF.out.grow hg) (by omega)
  have D2 := Lib.hid fun (wx : World) (hg : Grow w1 wx) (c : Nat) => due_any (c := c) (HF2.out.grow hg) (by omega)
  have D3 := Lib.hid fun (wx : World) => due_any (w := wx) (c := 0) (Fr.nil wx none frs) (by omega)
  rw [m1] at C1
  rw [m2] at C2
  rw [m3] at D1
  rw [m4] at D2
  have e3 : pick frs 0 3 3 0 = [] := rfl
  have e4 : dueT frs 0 = false := by decide
  rw [e3] at C3
  rw [e4] at D3
  clear m1 m2 m3 m4 e3 e4
  simp only [Int.cast_ofNat_Int] at C1 C2 C3
  have q1 : Hid (∀ w' A' c', Gs w' A' 2 c' (ints [3, 0]) → ∃ b o, A' = some ⟨b, o, none⟩ ∧ w'.cell? ⟨b, o, none⟩ = some (.int .i64 3) ∧ w'.cell? ⟨b, o + 1, none⟩ = some (.int .i64 0)) := fun w' A' c' h => by
    obtain ⟨b, o, rfl, _, hc⟩ := (h.sl (Nat.le_refl _)).at_ (by omega)
    exact ⟨b, o, rfl, hc 0 (by omega), hc 1 (by omega)⟩
  go_wp2_with (first
    | (go_at_call 4; (with_reducible refine (C1.out _ (Kept.refl _ _) _).mono ?_); rintro e w2 ⟨A', c', rfl, hgs, hg, -⟩; obtain ⟨b, o, rfl, c0, c1⟩ := q1.out _ _ _ hgs; have G2 := Lib.hid hg; clear hgs hg)
    | (go_at_call 6; (with_reducible refine (D1.out _ G2.out _).mono ?_); rintro e w3 ⟨rfl, hg⟩; have G3 := Lib.hid (G2.out.trans hg); clear hg)
    | (go_at_call 6; (with_reducible refine (D2.out _ G3.out _).mono ?_); rintro e w4 ⟨rfl, hg⟩; have G4 := Lib.hid (G3.out.trans hg); clear hg)
    | (go_at_call 4; (with_reducible refine (C2.out _ G4.out _).mono ?_); rintro e w5 ⟨A2, c2, rfl, -, hg, -⟩; have G5 := Lib.hid (G4.out.trans hg); clear hg)
    | (go_at_call 4; (with_reducible refine (C3.out _).mono ?_); rintro e w6 ⟨A3, c3, rfl, -, hg, -⟩; have G6 := Lib.hid (G5.out.trans hg); clear hg)
    | (go_at_call 6; (with_reducible refine (D3.out _).mono ?_); rintro e w7 ⟨rfl, hg⟩; have G7 := Lib.hid (G6.out.trans hg); clear hg))
  go_ret
  exact ⟨rfl, HG0.out.trans G7.out⟩
end Go.Proofs.Ytabmefffeafifaa.Told21
