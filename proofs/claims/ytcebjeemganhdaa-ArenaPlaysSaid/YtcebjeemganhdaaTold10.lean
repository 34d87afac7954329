/-
  lavabolaw10.told answers true.
-/
import Derived.Test.YtcebjeemganhdaaArNew
namespace Go.Proofs.Ytcebjeemganhdaa.Told10
open Go.ChangeShapes Go.WideShapes Go.ChangeAt Go.RowKit
open Go.Proofs.Ytcebjeemganhdaa.Mem Go.Proofs.Ytcebjeemganhdaa.Blk Go.Proofs.Ytcebjeemganhdaa.Cells Go.Proofs.Ytcebjeemganhdaa.Orow Go.Proofs.Ytcebjeemganhdaa.GsC Go.Proofs.Ytcebjeemganhdaa.TabM Go.Proofs.Ytcebjeemganhdaa.ArM Go.Proofs.Ytcebjeemganhdaa.ArC Go.Proofs.Ytcebjeemganhdaa.ArD Go.Proofs.Ytcebjeemganhdaa.ArB Go.Proofs.Ytcebjeemganhdaa.ArA Go.Proofs.Ytcebjeemganhdaa.ArR Go.Proofs.Ytcebjeemganhdaa.ArT Go.Proofs.Ytcebjeemganhdaa.ArN Go.Proofs.Ytcebjeemganhdaa.Stages

def s0 : Ar := ArM.fresh 2
def s1 : Ar := s0.take 5
def s2 : Ar := s1.take 7
def ab : List Int := [97, 98]
def s3 : Ar := s2.set 0 14 ab
def s4 : Ar := s3.pin 0
def s5 : Ar := s4.unpin 0
def s6 : Ar := s5.drop 0
def s7 : Ar := s6.ret
def s8 : Ar := s7.add
set_option maxRecDepth 10000 in
theorem play : (s0.takeC 5 = 0 ∧ s1.takeC 5 = -1 ∧ s1.take 5 = s1 ∧ s1.takeC 7 = 1 ∧ s2.takeC 8 = -1 ∧ s2.take 8 = s2 ∧ s2.setC 0 14 ab = 0 ∧ s3.setC 0 15 ab = 6 ∧ s3.set 0 15 ab = s3) ∧ (s3.pinC 0 = 0 ∧ s4.dropC 0 = 7 ∧ s4.drop 0 = s4 ∧ s4.unpinC 0 = 0 ∧ s5.unpinC 0 = 12 ∧ s5.unpin 0 = s5 ∧ s5.dropC 0 = 0 ∧ ListM.first s6.Q = 0 ∧ s7.addC = 0) ∧ (s8.find 7 = 1 ∧ s8.find 5 = -1 ∧ s8.n = 2 ∧ s8.Q.length = 1 ∧ s8.used 1 = true ∧ s8.used 0 = false) := by
  refine ⟨⟨by decide, by decide, rfl, by decide, by decide, rfl, by decide, by decide, rfl⟩, ⟨by decide, by decide, rfl, by decide, by decide, rfl, by decide, by decide, by decide⟩, ⟨by decide, by decide, rfl, by decide, by decide, by decide⟩⟩
theorem play_frames : (s8.F 0).st = 0 ∧ (s8.F 0).pg = -1 ∧ (s8.F 0).pn = 0 ∧ (s8.F 0).di = false ∧ (s8.F 1).st = 1 ∧ (s8.F 1).pg = 7 ∧ (s8.F 1).pn = 0 ∧ (s8.F 1).di = false := by
  refine ⟨by decide, by decide, by decide, by decide, by decide, by decide, by decide, by decide⟩
theorem e0 : (s8.Q.length : Int) = 1 := by decide
theorem e1 : s0.take 5 = s1 := rfl
theorem e2 : s1.take 7 = s2 := rfl
theorem e3 : s2.set 0 14 ab = s3 := rfl
theorem e4 : s3.pin 0 = s4 := rfl
theorem e5 : s4.unpin 0 = s5 := rfl
theorem e6 : s5.drop 0 = s6 := rfl
theorem e7 : s6.ret = s7 := rfl
theorem e8 : s7.add = s8 := rfl
section
variable {w : World} {G : Nat → Prop} {d : Nat} {a U : Ar} {c : Int}
theorem t_take (h : ArAt w G d a) (p : Int) (hc : a.takeC p = c) (hu : a.take p = U) : Calls Try.prog 11 #[.pointer (some ⟨d, 0, none⟩), .int .i64 p] w (APost G d w (.int .i64 c) U) := by
  subst hc hu; exact take_any h p
theorem t_pin (h : ArAt w G d a) (p : Int) (hc : a.pinC p = c) (hu : a.pin p = U) : Calls Try.prog 13 #[.pointer (some ⟨d, 0, none⟩), .int .i64 p] w (APost G d w (.int .i64 c) U) := by
  subst hc hu; exact pin_any h p
theorem t_unpin (h : ArAt w G d a) (p : Int) (hc : a.unpinC p = c) (hu : a.unpin p = U) : Calls Try.prog 15 #[.pointer (some ⟨d, 0, none⟩), .int .i64 p] w (APost G d w (.int .i64 c) U) := by
  subst hc hu; exact unpin_any h p
theorem t_drop (h : ArAt w G d a) (p : Int) (hc : a.dropC p = c) (hu : a.drop p = U) : Calls Try.prog 21 #[.pointer (some ⟨d, 0, none⟩), .int .i64 p] w (APost G d w (.int .i64 c) U) := by
  subst hc hu; exact drop_any h p
theorem t_ret (h : ArAt w G d a) (hc : ListM.first a.Q = c) (hu : a.ret = U) : Calls Try.prog 25 #[.pointer (some ⟨d, 0, none⟩)] w (APost G d w (.int .i64 c) U) := by
  subst hc hu; exact retire_any h
theorem t_add (h : ArAt w G d a) (hn : ∀ k, w.heap.size ≤ k → G k) (hc : a.addC = c) (hu : a.add = U) : Calls Try.prog 23 #[.pointer (some ⟨d, 0, none⟩)] w (APost G d w (.int .i64 c) U) := by
  subst hc hu; exact add_any h hn
theorem t_find (h : ArAt w G d a) (p : Int) (hc : a.find p = c) : Calls Try.prog 27 #[.pointer (some ⟨d, 0, none⟩), .int .i64 p] w fun e w' => e = .returned (.int .i64 c) ∧ w = w' := by
  subst hc; exact find_any h p
theorem t_free (h : ArAt w G d a) (hc : (a.Q.length : Int) = c) : Calls Try.prog 30 #[.pointer (some ⟨d, 0, none⟩)] w fun e w' => e = .returned (.int .i64 c) ∧ w = w' := by
  subst hc; exact free_any h
/-- The two letters of the text. -/
abbrev lay (w : World) : World := w.alloc (.cells #[.int .u8 97, .int .u8 98] 5 (2, 3))
theorem t_set (h : ArAt w G d a) (f off : Int) (hc : a.setC f off ab = c) (hu : a.set f off ab = U) : Calls Try.prog 19 #[.pointer (some ⟨d, 0, none⟩), .int .i64 f, .int .i64 off, .slice (some ⟨w.heap.size, 0, none⟩) 2 2] (lay w) fun e w' => e = .returned (.int .i64 c) ∧ ArAt w' G d U ∧ Kept G w w' := by
  subst hc hu
  have hg : Grow w (lay w) := (Kept.refl _ _).alloc _
  refine (set_any (h.grow hg) f off _ 2 2 _ ab (Sl.new w .u8 5 (2, 3) ab) (by omega)).mono fun e w' ⟨h1, h2, h3⟩ => ⟨h1, h2, hg.kept.trans h3⟩
/-- What Frames answers at the end of the play. -/
def EndPost (w : World) (e : Ending) (w' : World) : Prop := ∃ g c, e = .returned (.slice (some ⟨g, 0, none⟩) 2 c) ∧
  ((w'.cell? ⟨g, 0, none⟩ = some (.int .i64 0) ∧ w'.cell? ⟨g, 1, none⟩ = some (.int .i64 (-1)) ∧ w'.cell? ⟨g, 2, none⟩ = some (.int .i64 0) ∧ w'.cell? ⟨g, 3, none⟩ = some (.int .i64 0) ∧ w'.cell? ⟨g, 4, none⟩ = some (.bool false)) ∧
  (w'.cell? ⟨g, 5, none⟩ = some (.int .i64 1) ∧ w'.cell? ⟨g, 6, none⟩ = some (.int .i64 7) ∧ w'.cell? ⟨g, 7, none⟩ = some (.int .i64 0) ∧ w'.cell? ⟨g, 8, none⟩ = some (.int .i64 0) ∧ w'.cell? ⟨g, 9, none⟩ = some (.bool false))) ∧ Grow w w'
theorem t_frames (h : ArAt w G d s8) : Calls Try.prog 31 #[.pointer (some ⟨d, 0, none⟩)] w (EndPost w) := by
  refine (frames_any h).mono fun e w' ⟨v, he, ho, hg⟩ => ?_
  obtain ⟨g, c, rfl, ho, _⟩ := ho.form (by decide)
  obtain ⟨p1, p2, p3, p4, p5, p6, p7, p8⟩ := play_frames
  have k0 := FR.c0 ho (f := 0) (by decide)
  have k1 := FR.c1 ho (f := 0) (by decide)
  have k2 := FR.c2 ho (f := 0) (by decide)
  have k3 := FR.c3 ho (f := 0) (by decide)
  have k4 := FR.c4 ho (f := 0) (by decide)
  have k5 := FR.c0 ho (f := 1) (by decide)
  have k6 := FR.c1 ho (f := 1) (by decide)
  have k7 := FR.c2 ho (f := 1) (by decide)
  have k8 := FR.c3 ho (f := 1) (by decide)
  have k9 := FR.c4 ho (f := 1) (by decide)
  rw [p1] at k0
  rw [p2] at k1
  rw [p3] at k2
  rw [p4] at k4
  rw [p5] at k5
  rw [p6] at k6
  rw [p7] at k7
  rw [p8] at k9
  exact ⟨g, c, he, ⟨⟨k0, k1, k2, k3, k4⟩, k5, k6, k7, k8, k9⟩, hg⟩
end
set_option maxHeartbeats 4000000 in
set_option maxRecDepth 100000 in
theorem told_any (w : World) : Calls Try.prog 10 #[] w fun e w' => e = .returned (.bool true) ∧ Grow w w' := by
  have CN := Lib.hid (new_good (w := w) 2 (by omega))
  simp only [Int.cast_ofNat_Int] at CN
  have P := Lib.hid play
  have PF := Lib.hid play_frames
  have hcv := fun (w1 : World) C n c => Lib.run_convert_bytes_const w1 28 5 C n c Try.underlying28 Try.underlying5
  obtain ⟨B, hB⟩ : ∃ B, B = w.heap.size := ⟨_, rfl⟩
  have HB := Lib.hid hB
  have CN2 : Hid (Calls Try.prog 8 #[.int .i64 2] w fun e w' => e = .returned (.pointer (some ⟨B, 0, none⟩)) ∧ ArAt w' (B ≤ ·) B s0 ∧ Grow w w') := by rw [hB]; exact CN
  clear hB CN
  go_enter Try.func10, Try.ntmps10
  go_wp2_with (first
    | (go_at_call 8; (with_reducible refine CN2.out.mono ?_); rintro e w1 ⟨rfl, hr, hg⟩; have H0 := Lib.hid hr; have G0 := Lib.hid hg; clear hr hg)
    | (go_at_call 11; (with_reducible refine (t_take H0.out 5 P.out.1.1 e1).mono ?_); rintro e w2 ⟨rfl, hr, hk⟩; have H1 := Lib.hid hr; have HSZ : Hid (B ≤ w1.heap.size) := (by show B ≤ _; rw [HB.out]; exact G0.out.size); have K1 := Lib.hid hk; clear hr hk)
    | (go_at_call 11; (with_reducible refine (t_take H1.out 5 P.out.1.2.1 P.out.1.2.2.1).mono ?_); rintro e w3 ⟨rfl, hr, hk⟩; have H2 := Lib.hid hr; have K2 := Lib.hid (K1.out.trans hk); clear hr hk)
    | (go_at_call 11; (with_reducible refine (t_take H2.out 7 P.out.1.2.2.2.1 e2).mono ?_); rintro e w4 ⟨rfl, hr, hk⟩; have H3 := Lib.hid hr; have K3 := Lib.hid (K2.out.trans hk); clear hr hk)
    | (go_at_call 11; (with_reducible refine (t_take H3.out 8 P.out.1.2.2.2.2.1 P.out.1.2.2.2.2.2.1).mono ?_); rintro e w5 ⟨rfl, hr, hk⟩; have H4 := Lib.hid hr; have K4 := Lib.hid (K3.out.trans hk); clear hr hk)
    | (go_at_call 19; (with_reducible refine (t_set H4.out 0 14 P.out.1.2.2.2.2.2.2.1 e3).mono ?_); rintro e w6 ⟨rfl, hr, hk⟩; have H5 := Lib.hid hr; have K5 := Lib.hid (K4.out.trans hk); clear hr hk)
    | (go_at_call 19; (with_reducible refine (t_set H5.out 0 15 P.out.1.2.2.2.2.2.2.2.1 P.out.1.2.2.2.2.2.2.2.2).mono ?_); rintro e w7 ⟨rfl, hr, hk⟩; have H6 := Lib.hid hr; have K6 := Lib.hid (K5.out.trans hk); clear hr hk)
    | (go_at_call 13; (with_reducible refine (t_pin H6.out 0 P.out.2.1.1 e4).mono ?_); rintro e w8 ⟨rfl, hr, hk⟩; have H7 := Lib.hid hr; have K7 := Lib.hid (K6.out.trans hk); clear hr hk)
    | (go_at_call 21; (with_reducible refine (t_drop H7.out 0 P.out.2.1.2.1 P.out.2.1.2.2.1).mono ?_); rintro e w9 ⟨rfl, hr, hk⟩; have H8 := Lib.hid hr; have K8 := Lib.hid (K7.out.trans hk); clear hr hk)
    | (go_at_call 15; (with_reducible refine (t_unpin H8.out 0 P.out.2.1.2.2.2.1 e5).mono ?_); rintro e w10 ⟨rfl, hr, hk⟩; have H9 := Lib.hid hr; have K9 := Lib.hid (K8.out.trans hk); clear hr hk)
    | (go_at_call 15; (with_reducible refine (t_unpin H9.out 0 P.out.2.1.2.2.2.2.1 P.out.2.1.2.2.2.2.2.1).mono ?_); rintro e w11 ⟨rfl, hr, hk⟩; have H10 := Lib.hid hr; have K10 := Lib.hid (K9.out.trans hk); clear hr hk)
    | (go_at_call 21; (with_reducible refine (t_drop H10.out 0 P.out.2.1.2.2.2.2.2.2.1 e6).mono ?_); rintro e w12 ⟨rfl, hr, hk⟩; have H11 := Lib.hid hr; have K11 := Lib.hid (K10.out.trans hk); clear hr hk)
    | (go_at_call 25; (with_reducible refine (t_ret H11.out P.out.2.1.2.2.2.2.2.2.2.1 e7).mono ?_); rintro e w13 ⟨rfl, hr, hk⟩; have H12 := Lib.hid hr; have K12 := Lib.hid (K11.out.trans hk); clear hr hk)
    | (go_at_call 23; (with_reducible refine (t_add H12.out (fun k hk => Nat.le_trans HSZ.out (Nat.le_trans K12.out.size hk)) P.out.2.1.2.2.2.2.2.2.2.2 e8).mono ?_); rintro e w14 ⟨rfl, hr, hk⟩; have H13 := Lib.hid hr; have K13 := Lib.hid (K12.out.trans hk); clear hr hk)
    | (go_at_call 31; (with_reducible refine (t_frames H13.out).mono ?_); rintro e w15 ⟨g, c, rfl, ⟨⟨k0, k1, k2, k3, k4⟩, k5, k6, k7, k8, k9⟩, hg⟩; have H14 := Lib.hid (H13.out.grow hg); have K14 := Lib.hid (K13.out.trans hg.kept); clear hg)
    | (go_at_call 27; (with_reducible refine (t_find H14.out 7 P.out.2.2.1).mono ?_); rintro e w' ⟨rfl, rfl⟩)
    | (go_at_call 27; (with_reducible refine (t_find H14.out 5 P.out.2.2.2.1).mono ?_); rintro e w' ⟨rfl, rfl⟩)
    | (go_at_call 30; (with_reducible refine (t_free H14.out e0).mono ?_); rintro e w' ⟨rfl, rfl⟩)
    | (go_at_call 32; (with_reducible refine (body_good H14.out 1 P.out.2.2.2.2.2.2.1).mono ?_); rintro e w16 ⟨g1, c1, rfl, hb, ho, hg⟩; have H15 := Lib.hid (H14.out.grow hg); have K15 := Lib.hid (K14.out.trans hg.kept); clear hb ho hg)
    | (go_at_call 32; (with_reducible refine (body_bad H15.out 0 P.out.2.2.2.2.2.2.2).mono ?_); rintro e w' ⟨rfl, rfl⟩)
    | (go_at_call 8; (with_reducible refine (new_bad (-1) (by omega)).mono ?_); rintro e w' ⟨rfl, rfl⟩)
    | (go_at_call 11; (with_reducible refine (take_nil 0).mono ?_); rintro e w' ⟨rfl, rfl⟩)
    | (go_at_call 13; (with_reducible refine (pin_nil 0).mono ?_); rintro e w' ⟨rfl, rfl⟩))
  go_ret
  exact ⟨rfl, G0.out.then K15.out fun k hk e => by have := HB.out; omega⟩
end Go.Proofs.Ytcebjeemganhdaa.Told10
