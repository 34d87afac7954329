/-
  lavabolaw17.told tells true, in every world.
-/
import Derived.Test.YtnecmjanmkmjpaaGvCount
namespace Go.Proofs.Ytnecmjanmkmjpaa.Told17
open Go.ChangeShapes Go.WideShapes Go.ChangeAt Go.RowKit
open Go.Proofs.Ytnecmjanmkmjpaa.Mem Go.Proofs.Ytnecmjanmkmjpaa.Blk Go.Proofs.Ytnecmjanmkmjpaa.Cells Go.Proofs.Ytnecmjanmkmjpaa.GsC Go.Proofs.Ytnecmjanmkmjpaa.GvM Go.Proofs.Ytnecmjanmkmjpaa.GvC Go.Proofs.Ytnecmjanmkmjpaa.GvI Go.Proofs.Ytnecmjanmkmjpaa.GvN Go.Proofs.Ytnecmjanmkmjpaa.Stages

/-- The frames that are asked of. -/
def frs (j : Nat) : Fm := ([⟨0, -1, 0, 0, false⟩, ⟨1, 0, 0, 1, false⟩, ⟨1, 0, 1, 1, false⟩, ⟨4, 0, 0, 0, false⟩] : List Fm).getD j ⟨0, 0, 0, 0, false⟩
abbrev frz : List Value := [.int .i64 0, .int .i64 (-1), .int .i64 0, .int .i64 0, .bool false, .int .i64 1, .int .i64 0, .int .i64 0, .int .i64 1, .bool false, .int .i64 1, .int .i64 0, .int .i64 1, .int .i64 1, .bool false, .int .i64 4, .int .i64 0, .int .i64 0, .int .i64 0, .bool false]
section
variable {w w' : World} {g : Nat}
theorem frs_in (h : Blk w g 28 frz) : Fr w (some ⟨g, 0, none⟩) 4 frs ∧ Fr w (some ⟨g, 10, none⟩) 2 fun j => frs (j + 2) := by
  refine ⟨fun _ => ⟨g, 0, rfl, fun j hj => ?_⟩, fun _ => ⟨g, 10, rfl, fun j hj => ?_⟩⟩
  · have : j = 0 ∨ j = 1 ∨ j = 2 ∨ j = 3 := by omega
    rcases this with rfl | rfl | rfl | rfl <;> exact ⟨h.cell _, h.cell _, h.cell _, h.cell _, h.cell _⟩
  · have : j = 0 ∨ j = 1 := by omega
    rcases this with rfl | rfl <;> exact ⟨h.cell _, h.cell _, h.cell _, h.cell _, h.cell _⟩
theorem blk_has {n : Nat} {xs : List Int} (h : NBlk w g 3 .i64 xs) (hl : xs.length = n) : Has w (some ⟨g, 0, none⟩) n (fun j => xs.getD j 0) := fun _ => ⟨g, 0, rfl, fun j hj => by rw [Nat.zero_add]; exact NBlk.at_ h (by omega)⟩
/-- From of two literals. -/
theorem from_lits (w : World) (xs ys : List Int) (n : Nat) (r : Int) (hx : xs.length = n) (hy : ys.length = n) (h1 : 1 ≤ n) (h4 : n ≤ 4) (x0 : ∀ j, j < n → 0 ≤ xs.getD j 0) (y0 : ∀ j, j < n → 0 ≤ ys.getD j 0) (hr : frm n (fun j => xs.getD j 0) (fun j => ys.getD j 0) 0 = r) :
    Calls Try.prog 6 #[.slice (some ⟨w.heap.size, 0, none⟩) n n, .slice (some ⟨w.heap.size + 1, 0, none⟩) n n, .int .i64 0]
      ((w.alloc (.cells (xs.map (Value.int .i64)).toArray 3)).alloc (.cells (ys.map (Value.int .i64)).toArray 3)) fun e w' => e = .returned (.int .i64 r) ∧ Grow w w' := by
  have b0 : NBlk ((w.alloc (.cells (xs.map (Value.int .i64)).toArray 3)).alloc (.cells (ys.map (Value.int .i64)).toArray 3)) w.heap.size 3 .i64 xs := Blk.alloc (NBlk.new w _ _ _) _
  have b1 : NBlk ((w.alloc (.cells (xs.map (Value.int .i64)).toArray 3)).alloc (.cells (ys.map (Value.int .i64)).toArray 3)) (w.heap.size + 1) 3 .i64 ys := by
    have := NBlk.new (w.alloc (.cells (xs.map (Value.int .i64)).toArray 3)) 3 .i64 ys
    rwa [show (w.alloc (.cells (xs.map (Value.int .i64)).toArray 3)).heap.size = w.heap.size + 1 by simp] at this
  refine (from_good (need := 0) (c := n) (d := n) (blk_has b0 hx) (blk_has b1 hy) h1 h4 x0 y0 (by omega) (by omega)).mono ?_
  rintro e w' ⟨rfl, rfl⟩
  exact ⟨by rw [hr], ((Kept.refl _ _).alloc _).alloc _⟩
theorem lit_a (w : World) : Calls Try.prog 6 #[.slice (some ⟨w.heap.size, 0, none⟩) 2 2, .slice (some ⟨w.heap.size + 1, 0, none⟩) 2 2, .int .i64 0]
      ((w.alloc (.cells #[.int .i64 0, .int .i64 2] 3)).alloc (.cells #[.int .i64 1, .int .i64 1] 3)) fun e w' => e = .returned (.int .i64 1) ∧ Grow w w' :=
  from_lits w [0, 2] [1, 1] 2 1 rfl rfl (by omega) (by omega) (by decide) (by decide) (by decide)
theorem lit_b (w : World) : Calls Try.prog 6 #[.slice (some ⟨w.heap.size, 0, none⟩) 3 3, .slice (some ⟨w.heap.size + 1, 0, none⟩) 3 3, .int .i64 0]
      ((w.alloc (.cells #[.int .i64 0, .int .i64 0, .int .i64 0] 3)).alloc (.cells #[.int .i64 5, .int .i64 1, .int .i64 2] 3)) fun e w' => e = .returned (.int .i64 2) ∧ Grow w w' :=
  from_lits w [0, 0, 0] [5, 1, 2] 3 2 rfl rfl (by omega) (by omega) (by decide) (by decide) (by decide)
theorem lit_c (w : World) : Calls Try.prog 6 #[.slice (some ⟨w.heap.size, 0, none⟩) 1 1, .slice (some ⟨w.heap.size + 1, 0, none⟩) 1 1, .int .i64 0]
      ((w.alloc (.cells #[.int .i64 1] 3)).alloc (.cells #[.int .i64 1] 3)) fun e w' => e = .returned (.int .i64 (-1)) ∧ Grow w w' :=
  from_lits w [1] [1] 1 (-1) rfl rfl (by omega) (by omega) (by decide) (by decide) (by decide)
end
/-- What is told of the frames. -/
theorem told_math : cnt Fm.free frs 0 4 = 1 ∧ cnt Fm.idle frs 1 4 = 1 ∧ full 4 frs = false ∧ full 2 (fun j => frs (j + 2)) = true := ⟨by decide, by decide, by decide, by decide⟩
set_option maxHeartbeats 4000000 in
theorem told_any (w : World) : Calls Try.prog 5 #[] w fun e w' => e = .returned (.bool true) ∧ Grow w w' := by
  go_enter Try.func5, Try.ntmps5
  go_upto_region 2 with (fail)
  have hb : Blk (w.alloc (.cells #[.int .i64 0, .int .i64 (-1), .int .i64 0, .int .i64 0, .bool false, .int .i64 1, .int .i64 0, .int .i64 0, .int .i64 1, .bool false, .int .i64 1, .int .i64 0, .int .i64 1, .int .i64 1, .bool false, .int .i64 4, .int .i64 0, .int .i64 0, .int .i64 0, .bool false] 28)) w.heap.size 28 frz := Blk.new w _ _
  have HG0 : Hid (Grow w (w.alloc (.cells #[.int .i64 0, .int .i64 (-1), .int .i64 0, .int .i64 0, .bool false, .int .i64 1, .int .i64 0, .int .i64 0, .int .i64 1, .bool false, .int .i64 1, .int .i64 0, .int .i64 1, .int .i64 1, .bool false, .int .i64 4, .int .i64 0, .int .i64 0, .int .i64 0, .bool false] 28))) := (Kept.refl _ w).alloc _
  generalize w.alloc (.cells #[.int .i64 0, .int .i64 (-1), .int .i64 0, .int .i64 0, .bool false, .int .i64 1, .int .i64 0, .int .i64 0, .int .i64 1, .bool false, .int .i64 1, .int .i64 0, .int .i64 1, .int .i64 1, .bool false, .int .i64 4, .int .i64 0, .int .i64 0, .int .i64 0, .bool false] 28) = w1 at hb HG0 ⊢
  generalize w.heap.size = g at hb ⊢
  obtain ⟨hf, hf2⟩ := frs_in hb
  have HF := Lib.hid hf
  have HF2 := Lib.hid hf2
  clear hb hf hf2
  have CI := Lib.hid fun (c : Nat) => count_any (c := c) (m := 2) HF.out (by omega) (by omega) (by omega)
  simp only [Int.cast_ofNat_Int] at CI
  obtain ⟨m1, m2, m3, m4⟩ := told_math
  have M1 := Lib.hid m1
  have M2 := Lib.hid m2
  have M3 := Lib.hid m3
  have M4 := Lib.hid m4
  clear m1 m2 m3 m4
  go_upto_region 3 with (go_at_call 7; (with_reducible refine (CI.out _).mono ?_); rintro e w2 ⟨b, d, rfl, hb, hd, hg⟩; have HB := Lib.hid hb; have HD := Lib.hid hd; have HG1 := Lib.hid hg; clear hb hd hg)
  have c0 : w2.cell? ⟨b, 0, none⟩ = some (.int .i64 1) := by have := Row.cell HB.out (i := 0) (by omega); dsimp only at this; rw [M1.out] at this; exact this
  have c1 : w2.cell? ⟨d, 1, none⟩ = some (.int .i64 1) := by have := Row.cell HD.out (i := 1) (by omega); dsimp only at this; rw [M2.out] at this; exact this
  have C0 := Lib.hid c0
  have C1 := Lib.hid c1
  clear c0 c1 HB HD CI M1 M2
  have CU1 := Lib.hid fun (wx : World) (hg : Grow w2 wx) (c : Nat) => full_any (c := c) (HF.out.grow (HG1.out.trans hg)) (by omega)
  have CU2 := Lib.hid fun (wx : World) (hg : Grow w2 wx) (c : Nat) => full_any (c := c) (HF2.out.grow (HG1.out.trans hg)) (by omega)
  rw [M3.out] at CU1
  rw [M4.out] at CU2
  go_wp2_with (first
    | (go_at_call 6; (with_reducible refine (lit_a _).mono ?_); rintro e w3 ⟨rfl, hg⟩; have HG3 := Lib.hid hg; clear hg)
    | (go_at_call 6; (with_reducible refine (lit_b _).mono ?_); rintro e w4 ⟨rfl, hg⟩; have HG4 := Lib.hid (HG3.out.trans hg); clear hg)
    | (go_at_call 6; (with_reducible refine (lit_c _).mono ?_); rintro e w5 ⟨rfl, hg⟩; have HG5 := Lib.hid (HG4.out.trans hg); clear hg)
    | (go_at_call 6; (with_reducible refine from_zero.mono ?_); rintro e w' ⟨rfl, rfl⟩; have c0 := HG5.out.cellN C0.out id; have c1 := HG5.out.cellN C1.out id)
    | (go_at_call 8; (with_reducible refine (CU1.out _ HG5.out _).mono ?_); rintro e w6 ⟨rfl, hg⟩; have HG6 := Lib.hid (HG5.out.trans hg); clear hg)
    | (go_at_call 8; (with_reducible refine (CU2.out _ HG6.out _).mono ?_); rintro e w7 ⟨rfl, hg⟩; have HG7 := Lib.hid (HG6.out.trans hg); clear hg))
  go_ret
  exact ⟨rfl, (HG0.out.trans HG1.out).trans HG7.out⟩
end Go.Proofs.Ytnecmjanmkmjpaa.Told17
