/-
  lavabolaw11.told answers true; calls on cores that are tidy.
-/
import Derived.Test.YtcmhkknoffeebaaCoRoom
namespace Go.Proofs.Ytcmhkknoffeebaa.Told11
open Go.ChangeShapes Go.WideShapes Go.ChangeAt Go.RowKit
open Go.Proofs.Ytcmhkknoffeebaa.Mem Go.Proofs.Ytcmhkknoffeebaa.Blk Go.Proofs.Ytcmhkknoffeebaa.Cells Go.Proofs.Ytcmhkknoffeebaa.ArM Go.Proofs.Ytcmhkknoffeebaa.ArC Go.Proofs.Ytcmhkknoffeebaa.ArD Go.Proofs.Ytcmhkknoffeebaa.CoM Go.Proofs.Ytcmhkknoffeebaa.CoC Go.Proofs.Ytcmhkknoffeebaa.CoO Go.Proofs.Ytcmhkknoffeebaa.CoS Go.Proofs.Ytcmhkknoffeebaa.Stages

section
variable {w w' : World} {G : Nat → Prop} {B d da dl Dl dr : Nat} {c U : Co} {e f v r : Int}
theorem t_room (h : CoAt w G B d c) (ht : Tidy c) (p : Int) (hc : c.roomC p = ⟨e, f, v⟩) (hu : c.room p = U) : Calls Try.prog 11 #[.pointer (some ⟨d, 0, none⟩), .int .i64 p] w (CPost G B d w (.tuple #[.int .i64 e, .int .i64 f, .int .i64 v]) U) := by
  have := room_any h p
  rw [ht.settle, hc, hu] at this
  exact this
theorem t_hit (h : CoAt w G B d c) (ht : Tidy c) (p : Int) (hc : c.hitC p = r) (hu : c.hit p = U) : Calls Try.prog 10 #[.pointer (some ⟨d, 0, none⟩), .int .i64 p] w (CPost G B d w (.int .i64 r) U) := by
  have := hit_any h p
  rw [ht.settle, hc, hu] at this
  exact this
theorem t_let (h : CoAt w G B d c) (p : Int) (hc : c.a.unpinC p = r) (hu : c.unpin p = U) : Calls Try.prog 13 #[.pointer (some ⟨d, 0, none⟩), .int .i64 p] w (CPost G B d w (.int .i64 r) U) := by
  subst hc hu; exact let_any h p
theorem t_order (h : CoAt w G B d c) (ht : Tidy c) : Calls Try.prog 16 #[.pointer (some ⟨d, 0, none⟩)] w (OPost G B d w c) := by
  have := order_any h
  rw [ht.settle] at this
  exact this
theorem t_order_len {n : Nat} (h : CoAt w G B d c) (ht : Tidy c) (hn : c.L.length = n) : Calls Try.prog 16 #[.pointer (some ⟨d, 0, none⟩)] w fun e w' => (∃ A cp, e = .returned (.slice A n cp)) ∧ CoAt w' G B d c ∧ Kept (CF G B w) w w' := by
  subst hn
  exact (t_order h ht).mono fun e w' ⟨A, cp, h1, _, _, h2, h3⟩ => ⟨⟨A, cp, h1⟩, h2, h3⟩
theorem t_arena (h : CoAt w G B d c) : Calls Try.prog 8 #[.pointer (some ⟨d, 0, none⟩)] w fun x w' => (∃ da dl Dl dr, x = .returned (.pointer (some ⟨da, 0, none⟩)) ∧ Parts w G B d da dl Dl dr c) ∧ w = w' := by
  obtain ⟨da, dl, Dl, dr, h⟩ := h
  exact (arena_any h).mono fun x w' ⟨h1, h2⟩ => ⟨⟨da, dl, Dl, dr, h1, h⟩, h2⟩
theorem t_mark (h : Parts w G B d da dl Dl dr c) (p : Int) (q : Bool) (hc : c.a.markC p = r) (hu : c.mark p q = U) : Calls Try.prog 14 #[.pointer (some ⟨da, 0, none⟩), .int .i64 p, .bool q] w (CPost G B d w (.int .i64 r) U) := by
  subst hc hu
  exact (h.arena fun E hE => mark_any hE p q).mono fun x w' ⟨h1, h2, h3⟩ => ⟨h1, ⟨_, _, _, _, h2⟩, KF.cf h3⟩
end

theorem grow_cf {w w1 w2 : World} {B : Nat} (h : Grow w w1) (k : Kept (CF (B ≤ ·) B w1) w1 w2) (hB : B = w.heap.size) : Grow w w2 := h.then k fun i hi e => by
  rcases e with e | e
  · have := e.1; omega
  · have := e.1; omega
/-- All frames, where there are some. -/
theorem t_frames {w : World} {G : Nat → Prop} {d n : Nat} {a : Ar} (h : ArAt w G d a) (hn : a.n = n) (h0 : 0 < n) : Calls Try.prog 9 #[.pointer (some ⟨d, 0, none⟩)] w fun e w' => ∃ g c, e = .returned (.slice (some ⟨g, 0, none⟩) n c) ∧ FR w' g c n a.F ∧ w.heap.size ≤ g ∧ Grow w w' := by
  subst hn
  refine (ArB.frames_any h).mono fun e w' ⟨v, he, ho, hg⟩ => ?_
  obtain ⟨g, c, rfl, ho, hl⟩ := ho.form h0
  exact ⟨g, c, he, ho, hl, hg⟩
theorem pin_at {a : Ar} {f : Nat} (hf : f < a.n) (hs : (a.F f).st = 1) (hp : (a.F f).pn < 1000) : a.pinC (f : Int) = 0 ∧ a.pin (f : Int) = a.turn f ⟨(a.F f).st, (a.F f).pg, (a.F f).pn + 1, (a.F f).di⟩ := by
  have e1 : a.pinC (f : Int) = 0 := by unfold Ar.pinC; rw [if_pos (used_iff.2 ⟨f, rfl, hf, hs⟩), Int.toNat_natCast, if_neg (by omega)]
  exact ⟨e1, by unfold Ar.pin; rw [if_pos e1, Int.toNat_natCast]⟩
theorem unpin_at {a : Ar} {f : Nat} (hf : f < a.n) (hs : (a.F f).st = 1) (hp : (a.F f).pn ≠ 0) : a.unpinC (f : Int) = 0 ∧ a.unpin (f : Int) = a.turn f ⟨(a.F f).st, (a.F f).pg, (a.F f).pn - 1, (a.F f).di⟩ := by
  have e1 : a.unpinC (f : Int) = 0 := by unfold Ar.unpinC; rw [if_pos (used_iff.2 ⟨f, rfl, hf, hs⟩), Int.toNat_natCast, if_neg hp]
  exact ⟨e1, by unfold Ar.unpin; rw [if_pos e1, Int.toNat_natCast]⟩
theorem mark_at {a : Ar} {f : Nat} (hf : f < a.n) (hs : (a.F f).st = 1) (q : Bool) : a.markC (f : Int) = 0 ∧ a.mark (f : Int) q = a.turn f ⟨(a.F f).st, (a.F f).pg, (a.F f).pn, q⟩ := by
  have hu : a.used (f : Int) = true := used_iff.2 ⟨f, rfl, hf, hs⟩
  exact ⟨by unfold Ar.markC; rw [if_pos hu], by unfold Ar.mark; rw [if_pos hu, Int.toNat_natCast]⟩

def s0 : Co := CoM.fresh 1
def s1 : Co := s0.room 3
def s2 : Co := s1.unpin 0
def s3 : Co := s2.mark 0 true
def s4 : Co := s3.mark 0 false
def s5 : Co := s4.room 4
def s6 : Co := s5.hit 4
set_option maxRecDepth 10000 in
theorem play : (s0.roomC 3 = ⟨0, 0, -1⟩ ∧ s1.roomC 3 = ⟨13, -1, -1⟩ ∧ s1.room 3 = s1 ∧ s1.roomC 4 = ⟨8, -1, -1⟩ ∧ s1.room 4 = s1) ∧ (s1.a.unpinC 0 = 0 ∧ s2.a.markC 0 = 0 ∧ s3.roomC 4 = ⟨12, 0, 3⟩ ∧ s3.room 4 = s3 ∧ s3.a.markC 0 = 0 ∧ s4.roomC 4 = ⟨0, 0, 3⟩) ∧ (s5.hitC 3 = -1 ∧ s5.hit 3 = s5 ∧ s5.hitC 4 = 0 ∧ s6.L.length = 1) := by
  refine ⟨⟨rfl, rfl, rfl, rfl, rfl⟩, ⟨rfl, rfl, rfl, rfl, rfl, rfl⟩, ⟨rfl, rfl, rfl, rfl⟩⟩
theorem tidy0 : Tidy s0 := tidy_fresh (by omega)
theorem tidy1 : Tidy s1 := tidy0.room 3
theorem tidy2 : Tidy s2 := tidy1.unpin 0
theorem tidy3 : Tidy s3 := tidy2.mark 0 true
theorem tidy4 : Tidy s4 := tidy3.mark 0 false
theorem tidy5 : Tidy s5 := tidy4.room 4
theorem tidy6 : Tidy s6 := tidy5.hit 4
theorem e1 : s0.room 3 = s1 := rfl
theorem e2 : s1.unpin 0 = s2 := rfl
theorem e3 : s2.mark 0 true = s3 := rfl
theorem e4 : s3.mark 0 false = s4 := rfl
theorem e5 : s4.room 4 = s5 := rfl
theorem e6 : s5.hit 4 = s6 := rfl
set_option maxHeartbeats 4000000 in
set_option maxRecDepth 100000 in
theorem told_any (w : World) : Calls Try.prog 15 #[] w fun e w' => e = .returned (.bool true) ∧ Grow w w' := by
  have CN := Lib.hid (new_good (w := w) 1 (by omega))
  simp only [Int.cast_ofNat_Int] at CN
  have P := Lib.hid play
  go_enter Try.func15, Try.ntmps15
  go_wp2_with (first
    | (go_at_call 7; (with_reducible refine CN.out.mono ?_); rintro e w1 ⟨d, rfl, hr, hg⟩; have H0 : Hid (CoAt w1 (w.heap.size ≤ ·) w.heap.size d s0) := hr; have G0 := Lib.hid hg; clear hr hg)
    | (go_at_call 8; (with_reducible refine (t_arena H4.out).mono ?_); rintro e w' ⟨⟨da3, dl3, Dl3, dr3, rfl, hp⟩, rfl⟩; have HM2 := Lib.hid hp; clear hp)
    | (go_at_call 8; (with_reducible refine (t_arena H3a.out).mono ?_); rintro e w' ⟨⟨da2, dl2, Dl2, dr2, rfl, hp⟩, rfl⟩; have HM1 := Lib.hid hp; clear hp)
    | (go_at_call 8; (with_reducible refine (t_arena H0.out).mono ?_); rintro e w' ⟨⟨da1, dl1, Dl1, dr1, rfl, _⟩, rfl⟩)
    | (go_at_call 11; (with_reducible refine (t_room H0.out tidy0 3 P.out.1.1 e1).mono ?_); rintro e w2 ⟨rfl, hr, hk⟩; have H1 := Lib.hid hr; have K1 := Lib.hid hk; clear hr hk H0)
    | (go_at_call 11; (with_reducible refine (t_room H1.out tidy1 3 P.out.1.2.1 P.out.1.2.2.1).mono ?_); rintro e w3 ⟨rfl, hr, hk⟩; have H2 := Lib.hid hr; have K2 := Lib.hid (CF.trans K1.out hk); clear hr hk H1)
    | (go_at_call 11; (with_reducible refine (t_room H2.out tidy1 4 P.out.1.2.2.2.1 P.out.1.2.2.2.2).mono ?_); rintro e w4 ⟨rfl, hr, hk⟩; have H3 := Lib.hid hr; have K3 := Lib.hid (CF.trans K2.out hk); clear hr hk H2)
    | (go_at_call 13; (with_reducible refine (t_let H3.out 0 P.out.2.1.1 e2).mono ?_); rintro e w5 ⟨rfl, hr, hk⟩; have H3a := Lib.hid hr; have K3a := Lib.hid (CF.trans K3.out hk); clear hr hk H3)
    | (go_at_call 14; (with_reducible refine (t_mark HM1.out 0 true P.out.2.1.2.1 e3).mono ?_); rintro e w6 ⟨rfl, hr, hk⟩; have H3b := Lib.hid hr; have K3b := Lib.hid (CF.trans K3a.out hk); clear hr hk H3a HM1)
    | (go_at_call 11; (with_reducible refine (t_room H3b.out tidy3 4 P.out.2.1.2.2.1 P.out.2.1.2.2.2.1).mono ?_); rintro e w7 ⟨rfl, hr, hk⟩; have H4 := Lib.hid hr; have K4 := Lib.hid (CF.trans K3b.out hk); clear hr hk H3b)
    | (go_at_call 14; (with_reducible refine (t_mark HM2.out 0 false P.out.2.1.2.2.2.2.1 e4).mono ?_); rintro e w8 ⟨rfl, hr, hk⟩; have H5 := Lib.hid hr; have K5 := Lib.hid (CF.trans K4.out hk); clear hr hk H4 HM2)
    | (go_at_call 11; (with_reducible refine (t_room H5.out tidy4 4 P.out.2.1.2.2.2.2.2 e5).mono ?_); rintro e w9 ⟨rfl, hr, hk⟩; have H6 := Lib.hid hr; have K6 := Lib.hid (CF.trans K5.out hk); clear hr hk H5)
    | (go_at_call 11; (with_reducible refine (room_nil 1).mono ?_); rintro e w' ⟨rfl, rfl⟩)
    | (go_at_call 10; (with_reducible refine (t_hit H6.out tidy5 3 P.out.2.2.1 P.out.2.2.2.1).mono ?_); rintro e w10 ⟨rfl, hr, hk⟩; have H7 := Lib.hid hr; have K7 := Lib.hid (CF.trans K6.out hk); clear hr hk H6)
    | (go_at_call 10; (with_reducible refine (t_hit H7.out tidy5 4 P.out.2.2.2.2.1 e6).mono ?_); rintro e w11 ⟨rfl, hr, hk⟩; have H8 := Lib.hid hr; have K8 := Lib.hid (CF.trans K7.out hk); clear hr hk H7)
    | (go_at_call 16; (with_reducible refine (t_order_len H8.out tidy6 P.out.2.2.2.2.2).mono ?_); rintro e w12 ⟨⟨A, cp, rfl⟩, hr, hk⟩; have H9 := Lib.hid hr; have K9 := Lib.hid (CF.trans K8.out hk); clear hr hk H8)
    | (go_at_call 7; (with_reducible refine (new_bad (-1) (by omega)).mono ?_); rintro e w' ⟨rfl, rfl⟩)
    | (go_at_call 10; (with_reducible refine (hit_nil 1).mono ?_); rintro e w' ⟨rfl, rfl⟩)
    | (go_at_call 8; (with_reducible refine arena_nil.mono ?_); rintro e w' ⟨rfl, rfl⟩))
  go_ret
  exact ⟨rfl, G0.out.then K9.out fun k hk e => by
    rcases e with e | e
    · have := e.1; omega
    · have := e.1; omega⟩
end Go.Proofs.Ytcmhkknoffeebaa.Told11
