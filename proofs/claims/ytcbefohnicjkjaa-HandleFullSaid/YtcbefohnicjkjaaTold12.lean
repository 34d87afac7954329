/-
  lavabolaw12.told answers true.
-/
import Derived.Test.YtcbefohnicjkjaaHdFresh
namespace Go.Proofs.Ytcbefohnicjkjaa.Told12
open Go.ChangeShapes Go.WideShapes Go.ChangeAt Go.RowKit
open Go.Proofs.Ytcbefohnicjkjaa.Mem Go.Proofs.Ytcbefohnicjkjaa.Blk Go.Proofs.Ytcbefohnicjkjaa.Cells Go.Proofs.Ytcbefohnicjkjaa.Orow Go.Proofs.Ytcbefohnicjkjaa.HdM Go.Proofs.Ytcbefohnicjkjaa.HdC Go.Proofs.Ytcbefohnicjkjaa.HdO Go.Proofs.Ytcbefohnicjkjaa.HdN Go.Proofs.Ytcbefohnicjkjaa.HdA Go.Proofs.Ytcbefohnicjkjaa.HdF Go.Proofs.Ytcbefohnicjkjaa.Stages

def s0 : Hs := fresh 2
def s1 : Hs := s0.gave 0 3
def s2 : Hs := s1.gave 0 3
def s3 : Hs := s2.gave 1 5
def s4 : Hs := s3.back 0 0
def s5 : Hs := s4.gave 0 9
theorem play : (s0.give 0 3 = 0 ∧ s1.give 0 3 = 1 ∧ s2.give 1 5 = 0 ∧ s3.page 0 0 = 3 ∧ s4.page 0 0 = -1 ∧ s4.back 0 0 = s4 ∧ s4.give 0 9 = 0) ∧ (s5.page 0 0 = 9 ∧ s5.page 1 3 = -1 ∧ s5.page 2 0 = -1 ∧ ((s5.pins 3 : Nat) : Int) = 1 ∧ s5.room 0 = true ∧ s5.room 7 = false ∧ s5.give 0 (-1) = -1 ∧ s5.gave 0 (-1) = s5 ∧ s5.n = 2) := by
  refine ⟨⟨by decide, by decide, by decide, by decide, by decide, rfl, by decide⟩, by decide, by decide, by decide, by decide, by decide, by decide, by decide, rfl, by decide⟩
theorem e1 : s0.gave 0 3 = s1 := rfl
theorem e2 : s1.gave 0 3 = s2 := rfl
theorem e3 : s2.gave 1 5 = s3 := rfl
theorem e4 : s3.back 0 0 = s4 := rfl
theorem e5 : s4.gave 0 9 = s5 := rfl
section
variable {w : World} {G : Nat → Prop} {d : Nat} {a U : Hs} {z : Int}
theorem t_give (h : HAt w G d a) (c p : Int) (hc : a.give c p = z) (hu : a.gave c p = U) : Calls Try.prog 8 #[.pointer (some ⟨d, 0, none⟩), .int .i64 c, .int .i64 p] w (HPost G d w (.int .i64 z) U) := by
  subst hc hu; exact give_any h c p
theorem t_back (h : HAt w G d a) (c p : Int) (hc : a.page c p = z) (hu : a.back c p = U) : Calls Try.prog 15 #[.pointer (some ⟨d, 0, none⟩), .int .i64 c, .int .i64 p] w (HPost G d w (.int .i64 z) U) := by
  subst hc hu; exact back_any h c p
theorem t_page (h : HAt w G d a) (c p : Int) (hc : a.page c p = z) : Calls Try.prog 11 #[.pointer (some ⟨d, 0, none⟩), .int .i64 c, .int .i64 p] w fun e w' => e = .returned (.int .i64 z) ∧ w = w' := by
  subst hc; exact page_any h c p
theorem t_pins (h : HAt w G d a) (p : Int) (hc : ((a.pins p : Nat) : Int) = z) : Calls Try.prog 12 #[.pointer (some ⟨d, 0, none⟩), .int .i64 p] w fun e w' => e = .returned (.int .i64 z) ∧ w = w' := by
  subst hc; exact pins_any h p
theorem t_room (h : HAt w G d a) (c : Int) {b : Bool} (hc : a.room c = b) : Calls Try.prog 19 #[.pointer (some ⟨d, 0, none⟩), .int .i64 c] w fun e w' => e = .returned (.bool b) ∧ w = w' := by
  subst hc; exact room_any h c
/-- All, where there are clients. -/
def LenPost (n : Nat) (w : World) (e : Ending) (w' : World) : Prop := ∃ g c, e = .returned (.slice (some ⟨g, 0, none⟩) n c) ∧ Grow w w'
theorem t_all (h : HAt w G d s5) : Calls Try.prog 9 #[.pointer (some ⟨d, 0, none⟩)] w (LenPost 2 w) := by
  refine (all_any h).mono fun e w' ⟨v, q, cp, he, hg, hk⟩ => ?_
  obtain ⟨g, c, rfl, _⟩ := hg.out.form (by decide)
  exact ⟨g, c, he, hk⟩
end
set_option maxHeartbeats 4000000 in
set_option maxRecDepth 100000 in
theorem told_any (w : World) : Calls Try.prog 10 #[] w fun e w' => e = .returned (.bool true) ∧ Grow w w' := by
  have CN := Lib.hid (new_good (w := w) 2 (by omega) (by omega))
  simp only [Int.cast_ofNat_Int] at CN
  have P := Lib.hid play
  obtain ⟨B, hB⟩ : ∃ B, B = w.heap.size := ⟨_, rfl⟩
  have HB := Lib.hid hB
  have CN2 : Hid (Calls Try.prog 7 #[.int .i64 2] w fun e w' => e = .returned (.pointer (some ⟨B, 0, none⟩)) ∧ HAt w' (B ≤ ·) B s0 ∧ Grow w w') := by rw [hB]; exact CN
  clear hB CN
  go_enter Try.func10, Try.ntmps10
  go_wp2_with (first
    | (go_at_call 7; (with_reducible refine CN2.out.mono ?_); rintro e w1 ⟨rfl, hr, hg⟩; have H0 := Lib.hid hr; have G0 := Lib.hid hg; clear hr hg)
    | (go_at_call 8; (with_reducible refine (t_give H0.out 0 3 P.out.1.1 e1).mono ?_); rintro e w2 ⟨rfl, hr, hk⟩; have H1 := Lib.hid hr; have K1 := Lib.hid hk; clear hr hk)
    | (go_at_call 8; (with_reducible refine (t_give H1.out 0 3 P.out.1.2.1 e2).mono ?_); rintro e w3 ⟨rfl, hr, hk⟩; have H2 := Lib.hid hr; have K2 := Lib.hid (K1.out.trans hk); clear hr hk)
    | (go_at_call 8; (with_reducible refine (t_give H2.out 1 5 P.out.1.2.2.1 e3).mono ?_); rintro e w4 ⟨rfl, hr, hk⟩; have H3 := Lib.hid hr; have K3 := Lib.hid (K2.out.trans hk); clear hr hk)
    | (go_at_call 15; (with_reducible refine (t_back H3.out 0 0 P.out.1.2.2.2.1 e4).mono ?_); rintro e w5 ⟨rfl, hr, hk⟩; have H4 := Lib.hid hr; have K4 := Lib.hid (K3.out.trans hk); clear hr hk)
    | (go_at_call 15; (with_reducible refine (t_back H4.out 0 0 P.out.1.2.2.2.2.1 P.out.1.2.2.2.2.2.1).mono ?_); rintro e w6 ⟨rfl, hr, hk⟩; have H5 := Lib.hid hr; have K5 := Lib.hid (K4.out.trans hk); clear hr hk)
    | (go_at_call 8; (with_reducible refine (t_give H5.out 0 9 P.out.1.2.2.2.2.2.2 e5).mono ?_); rintro e w7 ⟨rfl, hr, hk⟩; have H6 := Lib.hid hr; have K6 := Lib.hid (K5.out.trans hk); clear hr hk)
    | (go_at_call 11; (with_reducible refine (t_page H6.out 0 0 P.out.2.1).mono ?_); rintro e w' ⟨rfl, rfl⟩)
    | (go_at_call 11; (with_reducible refine (t_page H6.out 1 3 P.out.2.2.1).mono ?_); rintro e w' ⟨rfl, rfl⟩)
    | (go_at_call 11; (with_reducible refine (t_page H6.out 2 0 P.out.2.2.2.1).mono ?_); rintro e w' ⟨rfl, rfl⟩)
    | (go_at_call 12; (with_reducible refine (t_pins H6.out 3 P.out.2.2.2.2.1).mono ?_); rintro e w' ⟨rfl, rfl⟩)
    | (go_at_call 19; (with_reducible refine (t_room H6.out 0 P.out.2.2.2.2.2.1).mono ?_); rintro e w' ⟨rfl, rfl⟩)
    | (go_at_call 19; (with_reducible refine (t_room H6.out 7 P.out.2.2.2.2.2.2.1).mono ?_); rintro e w' ⟨rfl, rfl⟩)
    | (go_at_call 8; (with_reducible refine (t_give H6.out 0 (-1) P.out.2.2.2.2.2.2.2.1 P.out.2.2.2.2.2.2.2.2.1).mono ?_); rintro e w8 ⟨rfl, hr, hk⟩; have H7 := Lib.hid hr; have K7 := Lib.hid (K6.out.trans hk); clear hr hk)
    | (go_at_call 9; (with_reducible refine (t_all H7.out).mono ?_); rintro e w9 ⟨g, c, rfl, hk⟩; have K8 := Lib.hid (K7.out.trans hk.kept); clear hk)
    | (go_at_call 7; (with_reducible refine (new_bad 0 (by omega)).mono ?_); rintro e w' ⟨rfl, rfl⟩)
    | (go_at_call 8; (with_reducible refine (give_nil _ 0 0).mono ?_); rintro e w' ⟨rfl, rfl⟩)
    | (go_at_call 19; (with_reducible refine (room_nil _ 0).mono ?_); rintro e w' ⟨rfl, rfl⟩))
  go_ret
  exact ⟨rfl, G0.out.then K8.out fun k hk e => by have := HB.out; have e : B ≤ k := e; omega⟩
end Go.Proofs.Ytcbefohnicjkjaa.Told12
