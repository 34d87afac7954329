/-
  lavabolaw18.told tells true, in every world.
-/
import Derived.Test.YtomnkdfolonicaaSzNext
namespace Go.Proofs.Ytomnkdfolonicaa.Told18
open Go.ChangeShapes Go.WideShapes Go.ChangeAt Go.RowKit
open Go.Proofs.Ytomnkdfolonicaa.Mem Go.Proofs.Ytomnkdfolonicaa.Blk Go.Proofs.Ytomnkdfolonicaa.Cells Go.Proofs.Ytomnkdfolonicaa.GsC Go.Proofs.Ytomnkdfolonicaa.SzM Go.Proofs.Ytomnkdfolonicaa.SzC Go.Proofs.Ytomnkdfolonicaa.SzN Go.Proofs.Ytomnkdfolonicaa.Stages

section
variable {w w' : World} {g : Nat}
theorem blk_has {n : Nat} {xs : List Int} (h : NBlk w g 3 .i64 xs) (hl : xs.length = n) : Has w (some ⟨g, 0, none⟩) n (fun j => xs.getD j 0) := fun _ => ⟨g, 0, rfl, fun j hj => by rw [Nat.zero_add]; exact NBlk.at_ h (by omega)⟩
/-- Next of a literal. -/
theorem next_lit (w : World) (xs : List Int) (n m : Nat) (x y : Int) (hx : xs.length = n) (h1 : 1 ≤ n) (h4 : n ≤ 4) (hm : m ≤ 32) (h0 : ∀ j, j < n → 0 ≤ xs.getD j 0 ∧ xs.getD j 0 ≤ 9223372036854775807)
    (e1 : nx (stp m n fun j => xs.getD j 0) ((m : Int) - tot (fun j => xs.getD j 0) n) n = x) (e2 : nb (stp m n fun j => xs.getD j 0) ((m : Int) - tot (fun j => xs.getD j 0) n) n = y) :
    Calls Try.prog 8 #[.slice (some ⟨w.heap.size, 0, none⟩) n n, .int .i64 (m : Int)] (w.alloc (.cells (xs.map (Value.int .i64)).toArray 3)) fun e w' => e = .returned (.tuple #[.int .i64 x, .int .i64 y]) ∧ Grow w w' := by
  have b0 : NBlk (w.alloc (.cells (xs.map (Value.int .i64)).toArray 3)) w.heap.size 3 .i64 xs := NBlk.new w _ _ _
  refine (next_good (c := n) (blk_has b0 hx) h1 h4 hm h0).mono ?_
  rintro e w' ⟨rfl, hg⟩
  exact ⟨by rw [e1, e2], ((Kept.refl _ _).alloc _).trans hg⟩
theorem lit_a (w : World) : Calls Try.prog 8 #[.slice (some ⟨w.heap.size, 0, none⟩) 2 2, .int .i64 5] (w.alloc (.cells #[.int .i64 1, .int .i64 1] 3)) fun e w' => e = .returned (.tuple #[.int .i64 0, .int .i64 1]) ∧ Grow w w' :=
  next_lit w [1, 1] 2 5 0 1 rfl (by omega) (by omega) (by omega) (by decide) (by decide) (by decide)
theorem lit_b (w : World) : Calls Try.prog 8 #[.slice (some ⟨w.heap.size, 0, none⟩) 2 2, .int .i64 4] (w.alloc (.cells #[.int .i64 1, .int .i64 4] 3)) fun e w' => e = .returned (.tuple #[.int .i64 1, .int .i64 (-1)]) ∧ Grow w w' :=
  next_lit w [1, 4] 2 4 1 (-1) rfl (by omega) (by omega) (by omega) (by decide) (by decide) (by decide)
theorem lit_c (w : World) : Calls Try.prog 8 #[.slice (some ⟨w.heap.size, 0, none⟩) 2 2, .int .i64 5] (w.alloc (.cells #[.int .i64 1, .int .i64 4] 3)) fun e w' => e = .returned (.tuple #[.int .i64 (-1), .int .i64 0]) ∧ Grow w w' :=
  next_lit w [1, 4] 2 5 (-1) 0 rfl (by omega) (by omega) (by omega) (by decide) (by decide) (by decide)
theorem lit_s (w : World) : Calls Try.prog 13 #[.slice (some ⟨w.heap.size, 0, none⟩) 2 2, .int .i64 5] (w.alloc (.cells #[.int .i64 1, .int .i64 4] 3)) fun e w' => ∃ b, e = .returned (.slice (some ⟨b, 0, none⟩) 2 2) ∧ Nr w' b 2 (fun j => ([2, -2] : List Int).getD j 0) ∧ Grow w w' := by
  have b0 : NBlk (w.alloc (.cells #[.int .i64 1, .int .i64 4] 3)) w.heap.size 3 .i64 [1, 4] := NBlk.new w 3 .i64 [1, 4]
  refine (steps_good (n := 2) (c := 2) (m := 5) (H := fun j => ([1, 4] : List Int).getD j 0) (blk_has b0 rfl) (by omega) (by omega) (by omega) (by decide)).mono ?_
  rintro e w' ⟨b, rfl, hr, _, hg⟩
  exact ⟨b, rfl, hr.same (by decide), ((Kept.refl _ _).alloc _).trans hg⟩
theorem lit_h (w : World) : Calls Try.prog 11 #[.int .i64 5, .int .i64 2] w fun e w' => ∃ b, e = .returned (.slice (some ⟨b, 0, none⟩) 2 2) ∧ Nr w' b 2 (fun j => ([3, 2] : List Int).getD j 0) ∧ Grow w w' := by
  refine (share_good (n := 2) (m := 5) (by omega) (by omega) (by omega)).mono ?_
  rintro e w' ⟨b, rfl, hr, _, hg⟩
  exact ⟨b, rfl, hr.same (by decide), hg⟩
end
set_option maxHeartbeats 4000000 in
theorem told_any (w : World) : Calls Try.prog 7 #[] w fun e w' => e = .returned (.bool true) ∧ Grow w w' := by
  have CH := Lib.hid fun (w : World) => share_bad (w := w) (x := 1) (y := 0) (by decide)
  have CS := Lib.hid fun (w : World) => steps_not (w := w) (x := 1) (n := 0) (A := none) (c := 0) (by decide)
  go_enter Try.func7, Try.ntmps7
  go_upto_region 5 with (first
    | (go_at_call 11; (with_reducible refine (lit_h _).mono ?_); rintro e w1 ⟨b1, rfl, hr, hg⟩; have HR1 := Lib.hid hr; have HG1 := Lib.hid hg; clear hr hg)
    | (go_at_call 13; (with_reducible refine (lit_s _).mono ?_); rintro e w2 ⟨b2, rfl, hr, hg⟩; have HR2 := Lib.hid hr; have HG2 := Lib.hid hg; clear hr hg)
    | (go_at_call 8; (with_reducible refine (lit_a _).mono ?_); rintro e w3 ⟨rfl, hg⟩; have HG3 := Lib.hid hg; clear hg)
    | (go_at_call 8; (with_reducible refine (lit_b _).mono ?_); rintro e w4 ⟨rfl, hg⟩; have HG4 := Lib.hid hg; clear hg)
    | (go_at_call 8; (with_reducible refine (lit_c _).mono ?_); rintro e w5 ⟨rfl, hg⟩; have HG5 := Lib.hid hg; clear hg))
  have HGT := Lib.hid ((HG3.out.trans HG4.out).trans HG5.out)
  have HA := Lib.hid (HR1.out.grow (HG2.out.trans HGT.out))
  have HB := Lib.hid (HR2.out.grow HGT.out)
  have a0 : w5.cell? ⟨b1, 0, none⟩ = some (.int .i64 3) := HA.out.cell (j := 0) (by omega)
  have a1 : w5.cell? ⟨b1, 1, none⟩ = some (.int .i64 2) := HA.out.cell (j := 1) (by omega)
  have c0 : w5.cell? ⟨b2, 0, none⟩ = some (.int .i64 2) := HB.out.cell (j := 0) (by omega)
  have c1 : w5.cell? ⟨b2, 1, none⟩ = some (.int .i64 (-2)) := HB.out.cell (j := 1) (by omega)
  simp only [List.append]
  go_wp2_with (first
    | (go_at_call 11; (with_reducible refine (CH.out _).mono ?_); rintro e w' ⟨rfl, rfl⟩)
    | (go_at_call 13; (with_reducible refine (CS.out _).mono ?_); rintro e w6 ⟨rfl, hg⟩; have HG6 := Lib.hid hg; clear hg))
  go_ret
  exact ⟨rfl, ((HG1.out.trans HG2.out).trans HGT.out).trans HG6.out⟩
end Go.Proofs.Ytomnkdfolonicaa.Told18
