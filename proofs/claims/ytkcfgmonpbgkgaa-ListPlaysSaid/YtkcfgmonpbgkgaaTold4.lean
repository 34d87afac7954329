/-
  lavabolaw4.told tells true, in every world.
-/
import Derived.Test.YtkcfgmonpbgkgaaListMore
namespace Go.Proofs.Ytkcfgmonpbgkgaa.Told4
open Go.ChangeShapes Go.WideShapes Go.ChangeAt Go.RowKit
open Go.Proofs.Ytkcfgmonpbgkgaa.Mem Go.Proofs.Ytkcfgmonpbgkgaa.Blk Go.Proofs.Ytkcfgmonpbgkgaa.ListM Go.Proofs.Ytkcfgmonpbgkgaa.Rowed Go.Proofs.Ytkcfgmonpbgkgaa.ListC Go.Proofs.Ytkcfgmonpbgkgaa.ListD Go.Proofs.Ytkcfgmonpbgkgaa.Stages

section
variable {w : World} {d D : Nat}
theorem t_front {zs ys : List Nat} {b : Bool} (k : Int) (h : ListAt w d D 3 zs) (hb : okF 3 zs k = b) (hy : frontL 3 zs k = ys) : Calls Try.prog 9 #[.pointer (some ⟨d, 0, none⟩), .int .i64 k] w (ListPost d D 3 w (.bool b) ys) := by
  have := front_any h k
  rwa [hb, hy] at this
theorem t_back {zs ys : List Nat} {b : Bool} (k : Int) (h : ListAt w d D 3 zs) (hb : okF 3 zs k = b) (hy : backL 3 zs k = ys) : Calls Try.prog 11 #[.pointer (some ⟨d, 0, none⟩), .int .i64 k] w (ListPost d D 3 w (.bool b) ys) := by
  have := back_any h k
  rwa [hb, hy] at this
theorem t_out {zs ys : List Nat} {b : Bool} (k : Int) (h : ListAt w d D 3 zs) (hb : okO zs k = b) (hy : outL zs k = ys) : Calls Try.prog 13 #[.pointer (some ⟨d, 0, none⟩), .int .i64 k] w fun e w' => e = .returned (.bool b) ∧ ListAt w' d D 3 ys ∧ Kept (Own d D) w w' := by
  have := out_any h k
  rwa [hb, hy] at this
theorem t_next {zs : List Nat} (k z : Int) (h : ListAt w d D 3 zs) (hz : nxtI zs k = z) : Calls Try.prog 20 #[.pointer (some ⟨d, 0, none⟩), .int .i64 k] w fun e w' => e = .returned (.int .i64 z) ∧ w = w' := by
  have := next_any h k
  rwa [hz] at this
theorem t_first {zs : List Nat} (z : Int) (h : ListAt w d D 3 zs) (hz : first zs = z) : Calls Try.prog 16 #[.pointer (some ⟨d, 0, none⟩)] w fun e w' => e = .returned (.int .i64 z) ∧ w = w' := by
  have := first_any h
  rwa [hz] at this
theorem t_last {zs : List Nat} (z : Int) (h : ListAt w d D 3 zs) (hz : last zs = z) : Calls Try.prog 18 #[.pointer (some ⟨d, 0, none⟩)] w fun e w' => e = .returned (.int .i64 z) ∧ w = w' := by
  have := last_any h
  rwa [hz] at this
theorem t_len {zs : List Nat} (z : Int) (h : ListAt w d D 3 zs) (hz : (zs.length : Int) = z) : Calls Try.prog 15 #[.pointer (some ⟨d, 0, none⟩)] w fun e w' => e = .returned (.int .i64 z) ∧ w = w' := by
  have := len_any h
  rwa [hz] at this
theorem t_has {zs : List Nat} {b : Bool} (k : Int) (h : ListAt w d D 3 zs) (hb : okO zs k = b) : Calls Try.prog 22 #[.pointer (some ⟨d, 0, none⟩), .int .i64 k] w fun e w' => e = .returned (.bool b) ∧ w = w' := by
  have := has_any h k
  rwa [hb] at this
end

theorem far {w6 w7 w8 : World} {d D b o : Nat} (hl : d < w6.heap.size ∧ D < w6.heap.size) (hb : w6.heap.size ≤ b) (hc : ∀ j, j < [2, 1, 0].length → w7.cell? ⟨b, o + j, none⟩ = some (.int .i64 ((ints [2, 1, 0]).getD j 0))) (hk : Kept (Own d D) w7 w8) :
    w8.cell? ⟨b, o, none⟩ = some (.int .i64 2) ∧ w8.cell? ⟨b, o + 2, none⟩ = some (.int .i64 0) := by
  have hn : ¬ Own d D b := fun x => by rcases x with x | x <;> omega
  exact ⟨hk.cellN (hc 0 (by decide)) hn, hk.cellN (hc 2 (by decide)) hn⟩

set_option maxHeartbeats 2000000 in
theorem told_any (w : World) : Calls Try.prog 8 #[] w fun e w' => e = .returned (.bool true) ∧ Grow w w' := by
  have CN := Lib.hid fun (wx : World) => new_good (w := wx) 3 (by omega)
  simp only [Int.cast_ofNat_Int] at CN
  go_enter Try.func8, Try.ntmps8
  go_wp2_with (first
    | (go_at_call 7; (with_reducible refine (CN.out _).mono ?_); rintro e w1 ⟨d, D, rfl, hl, hd1, hd2, hg⟩; have H0 := Lib.hid hl; have HD := Lib.hid (And.intro hd1 hd2); have G0 := Lib.hid hg; clear hl hd1 hd2 hg)
    | (go_at_call 7; (with_reducible refine (new_bad (-1) (by omega)).mono ?_); rintro e w' ⟨rfl, rfl⟩)
    | (go_at_call 9; (with_reducible refine (t_front (ys := [1]) (b := true) 1 H0.out (by decide) (by decide)).mono ?_); rintro e w2 ⟨rfl, hl, hk, _⟩; have H1 := Lib.hid hl; have G1 := Lib.hid hk; clear hl hk)
    | (go_at_call 9; (with_reducible refine (t_front (ys := [2, 1]) (b := true) 2 H1.out (by decide) (by decide)).mono ?_); rintro e w3 ⟨rfl, hl, hk, _⟩; have H2 := Lib.hid hl; have G2 := Lib.hid hk; clear hl hk)
    | (go_at_call 11; (with_reducible refine (t_back (ys := [2, 1, 0]) (b := true) 0 H2.out (by decide) (by decide)).mono ?_); rintro e w4 ⟨rfl, hl, hk, _⟩; have H3 := Lib.hid hl; have G3 := Lib.hid hk; clear hl hk)
    | (go_at_call 9; (with_reducible refine (t_front (ys := [2, 1, 0]) (b := false) 2 H3.out (by decide) (by decide)).mono ?_); rintro e w5 ⟨rfl, hl, hk, _⟩; have H4 := Lib.hid hl; have G4 := Lib.hid hk; clear hl hk)
    | (go_at_call 9; (with_reducible refine (t_front (ys := [2, 1, 0]) (b := false) 3 H4.out (by decide) (by decide)).mono ?_); rintro e w6 ⟨rfl, hl, hk, _⟩; have H5 := Lib.hid hl; have G5 := Lib.hid hk; clear hl hk)
    | (go_at_call 24; (with_reducible refine (all_any H5.out).mono ?_); rintro e w7 ⟨A, c, rfl, hs, hn, hk⟩; obtain ⟨b, o, rfl, _, hc⟩ := hs.at_ (by decide); have H6 := Lib.hid (H5.out.grow hk); have HX := Lib.hid (hn _ rfl); have HC := Lib.hid hc; have G6 := Lib.hid hk; clear hs hn hk hc)
    | (go_at_call 13; (with_reducible refine (t_out (ys := [2, 0]) (b := true) 1 H6.out (by decide) (by decide)).mono ?_); rintro e w8 ⟨rfl, hl, hk⟩; have H7 := Lib.hid hl; have G7 := Lib.hid hk; obtain ⟨x0, x2⟩ := far H5.out.lt HX.out HC.out hk; clear hl hk)
    | (go_at_call 20; (with_reducible refine (t_next 2 0 H7.out (by decide)).mono ?_); rintro e w' ⟨rfl, rfl⟩)
    | (go_at_call 16; (with_reducible refine (t_first 2 H7.out (by decide)).mono ?_); rintro e w' ⟨rfl, rfl⟩)
    | (go_at_call 18; (with_reducible refine (t_last 0 H7.out (by decide)).mono ?_); rintro e w' ⟨rfl, rfl⟩)
    | (go_at_call 15; (with_reducible refine (t_len 2 H7.out (by decide)).mono ?_); rintro e w' ⟨rfl, rfl⟩)
    | (go_at_call 22; (with_reducible refine (t_has (b := false) 1 H7.out (by decide)).mono ?_); rintro e w' ⟨rfl, rfl⟩)
    | (go_at_call 13; (with_reducible refine (t_out (ys := [2, 0]) (b := false) 1 H7.out (by decide) (by decide)).mono ?_); rintro e w9 ⟨rfl, _, hk⟩; have G8 := Lib.hid hk; clear hk)
    | (go_at_call 9; (with_reducible refine (front_nil 0).mono ?_); rintro e w' ⟨rfl, rfl⟩)
    | (go_at_call 16; (with_reducible refine first_nil.mono ?_); rintro e w' ⟨rfl, rfl⟩)
    | (go_at_call 15; (with_reducible refine len_nil.mono ?_); rintro e w' ⟨rfl, rfl⟩))
  go_ret
  refine ⟨rfl, Kept.then G0.out (((((((G1.out.trans G2.out).trans G3.out).trans G4.out).trans G5.out).trans (Grow.kept G6.out)).trans G7.out).trans G8.out) fun k hk ho => ?_⟩
  have h1 := HD.out.1
  have h2 := HD.out.2
  rcases ho with h | h <;> omega
end Go.Proofs.Ytkcfgmonpbgkgaa.Told4
