/-
  lavabolaw14.told answers true.
-/
import Derived.Test.YtjdlpknflhgkfaaHsTwo
namespace Go.Proofs.Ytjdlpknflhgkfaa.Told14
open Go.ChangeShapes Go.WideShapes Go.ChangeAt Go.RowKit
open Go.Proofs.Ytjdlpknflhgkfaa.Mem Go.Proofs.Ytjdlpknflhgkfaa.Blk Go.Proofs.Ytjdlpknflhgkfaa.Cells Go.Proofs.Ytjdlpknflhgkfaa.Orow Go.Proofs.Ytjdlpknflhgkfaa.MdM Go.Proofs.Ytjdlpknflhgkfaa.MdC Go.Proofs.Ytjdlpknflhgkfaa.HsM Go.Proofs.Ytjdlpknflhgkfaa.HsE Go.Proofs.Ytjdlpknflhgkfaa.HsB Go.Proofs.Ytjdlpknflhgkfaa.HsO Go.Proofs.Ytjdlpknflhgkfaa.HsW Go.Proofs.Ytjdlpknflhgkfaa.HsK Go.Proofs.Ytjdlpknflhgkfaa.HsT Go.Proofs.Ytjdlpknflhgkfaa.PmC Go.Proofs.Ytjdlpknflhgkfaa.PmM Go.Proofs.Ytjdlpknflhgkfaa.Stages

abbrev xa : Ev := ⟨0, ⟨1, 0, 0, 0, 0, []⟩, ⟨0, 0, 0, []⟩, 1, 2, 3⟩
theorem rng_a : Rng xa := by unfold Rng I64; simp
abbrev xb : Ev := ⟨1, ⟨2, 0, 0, 0, 0, []⟩, ⟨0, 0, 0, []⟩, 1, 2, 2⟩
theorem rng_b : Rng xb := by unfold Rng I64; simp
abbrev xc : Ev := ⟨1, ⟨2, 0, 0, 0, 0, []⟩, ⟨2, 0, 0, []⟩, 1, 1, 2⟩
theorem rng_c : Rng xc := by unfold Rng I64; simp
abbrev xd : Ev := ⟨0, ⟨1, 0, 0, 0, 0, []⟩, ⟨0, 0, 0, []⟩, 1, 5, 3⟩
theorem rng_d : Rng xd := by unfold Rng I64; simp
def s0 : Md := fresh 2 2
def s1 : Md := (s0.run 0 ⟨1, 0, 0, 0, 0, []⟩).2
theorem r_a : s0.run 0 ⟨1, 0, 0, 0, 0, []⟩ = (⟨0, 0, 0, []⟩, s1) := rfl
theorem r_b0 : s0.run 1 ⟨2, 0, 0, 0, 0, []⟩ = (⟨2, 0, 0, []⟩, s0) := rfl
def s2 : Md := (s1.run 1 ⟨2, 0, 0, 0, 0, []⟩).2
theorem r_b : s1.run 1 ⟨2, 0, 0, 0, 0, []⟩ = (⟨0, 0, 0, []⟩, s2) := rfl
theorem e_a (i : Nat) (L : Nat → Ev) (h : L i = xa) : evStep s0 (L i) = some s1 := by rw [h]; have := step_yes (a := s0) (x := xa) (.inr (by rw [r_a])); rw [r_a] at this; exact this
theorem e_b (i : Nat) (L : Nat → Ev) (h : L i = xb) : evStep s1 (L i) = some s2 := by rw [h]; have := step_yes (a := s1) (x := xb) (.inr (by rw [r_b])); rw [r_b] at this; exact this
theorem e_c (i : Nat) (L : Nat → Ev) (h : L i = xc) : evStep s0 (L i) = some s0 := by rw [h]; have := step_yes (a := s0) (x := xc) (.inr (by rw [r_b0])); rw [r_b0] at this; exact this
theorem e_b0 (i : Nat) (L : Nat → Ev) (h : L i = xb) : evStep s0 (L i) = none := by
  rw [h]
  refine step_no (fun h => ?_) (fun h => ?_)
  · rcases h with h | h
    · exact absurd h (by decide)
    · rw [r_b0] at h
      injection h with h
      exact absurd h (by decide)
  · have := h.1
    unfold badC at this
    simp at this
theorem in_a : inT xa := by unfold inT inTn; simp
theorem in_b : inT xb := by unfold inT inTn; simp
theorem in_c : inT xc := by unfold inT inTn; simp
theorem ok22 : okN 2 2 := by unfold okN; omega
theorem ok_a {L : Nat → Ev} (h : L 0 = xa) : okAt L 2 0 := ok_zero (by rw [h]; decide) (by rw [h]; decide) (by rw [h]; exact in_a)
theorem ok_b {L : Nat → Ev} (h : L 0 = xb) : okAt L 2 0 := ok_zero (by rw [h]; decide) (by rw [h]; decide) (by rw [h]; exact in_b)
theorem ok_ab {L : Nat → Ev} {y : Ev} (h : L 0 = xa) (h1 : L 1 = y) (hc : y.c = 1) (hb : y.b = 1) (ht : inT y) : okAt L 2 1 :=
  ok_one (by rw [h1, hc]; decide) (by rw [h1, hb]; decide) (by rw [h, h1, hb]; decide) (by rw [h1]; exact ht) (fun e => by rw [h, h1, hc] at e; exact absurd e (by decide))
theorem c_nil (L : Nat → Ev) : Chk L 0 2 2 0 := .inr ⟨ok22, .inr ⟨.inl ⟨rfl, fun i hi => by omega⟩, [], ord_nil _, rfl⟩⟩
theorem o_ac : Ord (f2 xa xc) 2 [1, 0] := ord_10 (by decide) (by decide)
theorem c_ab : Chk (f2 xa xb) 2 2 2 0 := .inr ⟨ok22, .inr ⟨fst_two (ok_a rfl) (ok_ab rfl rfl rfl rfl in_b), [0, 1], ord_01 (by decide) (by decide), by
  show 0 = (runL (f2 xa xb) [0, 1] s0).1
  rw [runL_some (e_a 0 _ rfl), runL_some (e_b 1 _ rfl), runL_nil]⟩⟩
theorem c_ac : Chk (f2 xa xc) 2 2 2 0 := .inr ⟨ok22, .inr ⟨fst_two (ok_a rfl) (ok_ab rfl rfl rfl rfl in_c), [1, 0], o_ac, by
  show 0 = (runL (f2 xa xc) [1, 0] s0).1
  rw [runL_some (e_c 1 _ rfl), runL_some (e_a 0 _ rfl), runL_nil]⟩⟩
theorem c_a0 : Chk (f1 xa) 1 0 2 (-1) := .inl ⟨by unfold okN; omega, rfl⟩
theorem c_d : Chk (f1 xd) 1 2 2 1 := .inr ⟨ok22, .inl ⟨fst_bad0 (by decide) fun h => by
  have := h.tm
  unfold inT inTn at this
  exact absurd this.2 (by decide), by decide⟩⟩
theorem c_b : Chk (f1 xb) 1 2 2 1 := .inr ⟨ok22, .inr ⟨fst_one (ok_b rfl), [0], ord_one (by decide), by
  show 1 = (runL (f1 xb) [0] s0).1
  rw [runL_stop (e_b0 0 _ rfl)]
  rfl⟩⟩
theorem f_a : Fin (f1 xa) 1 2 2 s1 := ⟨ok22, fst_one (ok_a rfl), [0], ord_one (by decide), by
  show runL (f1 xa) [0] s0 = (0, s1)
  rw [runL_some (e_a 0 _ rfl), runL_nil]⟩
def Told (v : Int) (w : World) (e : Ending) (w' : World) : Prop := e = .returned (.int .i64 v) ∧ Grow w w'

theorem t_nil (w : World) : Calls Try.prog 11 #[.slice none 0 0, .int .i64 2, .int .i64 2] w (Told (0) w) := t_check (evs_nil w (f1 xa)) (by decide) (c_nil _) 0
theorem t_ab (w : World) : Calls Try.prog 11 #[.slice (some ⟨w.heap.size, 0, none⟩) 2 2, .int .i64 2, .int .i64 2] (w.alloc (.cells #[.int .i64 0, .int .i64 1, .int .i64 0, .int .i64 0, .int .i64 0, .int .i64 0, .slice none 0 0, .int .i64 0, .int .i64 0, .int .i64 0, .slice none 0 0, .int .i64 1, .int .i64 2, .int .i64 3, .int .i64 1, .int .i64 2, .int .i64 0, .int .i64 0, .int .i64 0, .int .i64 0, .slice none 0 0, .int .i64 0, .int .i64 0, .int .i64 0, .slice none 0 0, .int .i64 1, .int .i64 2, .int .i64 2] 29)) (Told (0) (w.alloc (.cells #[.int .i64 0, .int .i64 1, .int .i64 0, .int .i64 0, .int .i64 0, .int .i64 0, .slice none 0 0, .int .i64 0, .int .i64 0, .int .i64 0, .slice none 0 0, .int .i64 1, .int .i64 2, .int .i64 3, .int .i64 1, .int .i64 2, .int .i64 0, .int .i64 0, .int .i64 0, .int .i64 0, .slice none 0 0, .int .i64 0, .int .i64 0, .int .i64 0, .slice none 0 0, .int .i64 1, .int .i64 2, .int .i64 2] 29))) := t_check (evs_two ⟨rfl, rfl⟩ rng_a ⟨rfl, rfl⟩ rng_b w) (by decide) c_ab 2
theorem t_ac (w : World) : Calls Try.prog 11 #[.slice (some ⟨w.heap.size, 0, none⟩) 2 2, .int .i64 2, .int .i64 2] (w.alloc (.cells #[.int .i64 0, .int .i64 1, .int .i64 0, .int .i64 0, .int .i64 0, .int .i64 0, .slice none 0 0, .int .i64 0, .int .i64 0, .int .i64 0, .slice none 0 0, .int .i64 1, .int .i64 2, .int .i64 3, .int .i64 1, .int .i64 2, .int .i64 0, .int .i64 0, .int .i64 0, .int .i64 0, .slice none 0 0, .int .i64 2, .int .i64 0, .int .i64 0, .slice none 0 0, .int .i64 1, .int .i64 1, .int .i64 2] 29)) (Told (0) (w.alloc (.cells #[.int .i64 0, .int .i64 1, .int .i64 0, .int .i64 0, .int .i64 0, .int .i64 0, .slice none 0 0, .int .i64 0, .int .i64 0, .int .i64 0, .slice none 0 0, .int .i64 1, .int .i64 2, .int .i64 3, .int .i64 1, .int .i64 2, .int .i64 0, .int .i64 0, .int .i64 0, .int .i64 0, .slice none 0 0, .int .i64 2, .int .i64 0, .int .i64 0, .slice none 0 0, .int .i64 1, .int .i64 1, .int .i64 2] 29))) := t_check (evs_two ⟨rfl, rfl⟩ rng_a ⟨rfl, rfl⟩ rng_c w) (by decide) c_ac 2
theorem t_a0 (w : World) : Calls Try.prog 11 #[.slice (some ⟨w.heap.size, 0, none⟩) 1 1, .int .i64 0, .int .i64 2] (w.alloc (.cells #[.int .i64 0, .int .i64 1, .int .i64 0, .int .i64 0, .int .i64 0, .int .i64 0, .slice none 0 0, .int .i64 0, .int .i64 0, .int .i64 0, .slice none 0 0, .int .i64 1, .int .i64 2, .int .i64 3] 29)) (Told (-1) (w.alloc (.cells #[.int .i64 0, .int .i64 1, .int .i64 0, .int .i64 0, .int .i64 0, .int .i64 0, .slice none 0 0, .int .i64 0, .int .i64 0, .int .i64 0, .slice none 0 0, .int .i64 1, .int .i64 2, .int .i64 3] 29))) := t_check (evs_one ⟨rfl, rfl⟩ rng_a w) (by decide) c_a0 1
theorem t_d (w : World) : Calls Try.prog 11 #[.slice (some ⟨w.heap.size, 0, none⟩) 1 1, .int .i64 2, .int .i64 2] (w.alloc (.cells #[.int .i64 0, .int .i64 1, .int .i64 0, .int .i64 0, .int .i64 0, .int .i64 0, .slice none 0 0, .int .i64 0, .int .i64 0, .int .i64 0, .slice none 0 0, .int .i64 1, .int .i64 5, .int .i64 3] 29)) (Told (1) (w.alloc (.cells #[.int .i64 0, .int .i64 1, .int .i64 0, .int .i64 0, .int .i64 0, .int .i64 0, .slice none 0 0, .int .i64 0, .int .i64 0, .int .i64 0, .slice none 0 0, .int .i64 1, .int .i64 5, .int .i64 3] 29))) := t_check (evs_one ⟨rfl, rfl⟩ rng_d w) (by decide) c_d 1
theorem t_b (w : World) : Calls Try.prog 11 #[.slice (some ⟨w.heap.size, 0, none⟩) 1 1, .int .i64 2, .int .i64 2] (w.alloc (.cells #[.int .i64 1, .int .i64 2, .int .i64 0, .int .i64 0, .int .i64 0, .int .i64 0, .slice none 0 0, .int .i64 0, .int .i64 0, .int .i64 0, .slice none 0 0, .int .i64 1, .int .i64 2, .int .i64 2] 29)) (Told (1) (w.alloc (.cells #[.int .i64 1, .int .i64 2, .int .i64 0, .int .i64 0, .int .i64 0, .int .i64 0, .slice none 0 0, .int .i64 0, .int .i64 0, .int .i64 0, .slice none 0 0, .int .i64 1, .int .i64 2, .int .i64 2] 29))) := t_check (evs_one ⟨rfl, rfl⟩ rng_b w) (by decide) c_b 1
def OrdQ (w : World) (e : Ending) (w' : World) : Prop := ∃ b off c, e = .returned (.slice (some ⟨b, off, none⟩) 2 c) ∧ w'.cell? ⟨b, off, none⟩ = some (.int .i64 1) ∧ Grow w w'
theorem t_ord (w : World) : Calls Try.prog 16 #[.slice (some ⟨w.heap.size, 0, none⟩) 2 2] (w.alloc (.cells #[.int .i64 0, .int .i64 1, .int .i64 0, .int .i64 0, .int .i64 0, .int .i64 0, .slice none 0 0, .int .i64 0, .int .i64 0, .int .i64 0, .slice none 0 0, .int .i64 1, .int .i64 2, .int .i64 3, .int .i64 1, .int .i64 2, .int .i64 0, .int .i64 0, .int .i64 0, .int .i64 0, .slice none 0 0, .int .i64 2, .int .i64 0, .int .i64 0, .slice none 0 0, .int .i64 1, .int .i64 1, .int .i64 2] 29)) (OrdQ (w.alloc (.cells #[.int .i64 0, .int .i64 1, .int .i64 0, .int .i64 0, .int .i64 0, .int .i64 0, .slice none 0 0, .int .i64 0, .int .i64 0, .int .i64 0, .slice none 0 0, .int .i64 1, .int .i64 2, .int .i64 3, .int .i64 1, .int .i64 2, .int .i64 0, .int .i64 0, .int .i64 0, .int .i64 0, .slice none 0 0, .int .i64 2, .int .i64 0, .int .i64 0, .slice none 0 0, .int .i64 1, .int .i64 1, .int .i64 2] 29))) := by
  refine Calls.mono (order_any (evs_two ⟨rfl, rfl⟩ rng_a ⟨rfl, rfl⟩ rng_c w) (by decide) 2) ?_
  rintro e w' ⟨l, A, c, he, ho, hs, _, hg⟩
  have hl := ord_unique ho o_ac
  subst hl
  obtain ⟨b, off, rfl, _, hc⟩ := hs.at_ (by decide)
  exact ⟨b, off, c, he, hc 0 (by decide), hg⟩
def FinQ (w : World) (e : Ending) (w' : World) : Prop := ∃ X1 n1 c1 X2 n2 c2 X3 n3 c3, e = .returned (.tuple #[.agg #[.slice X1 n1 c1, .slice X2 n2 c2, .slice X3 n3 c3], .bool true]) ∧ Grow w w'
theorem t_fin (w : World) : Calls Try.prog 13 #[.slice (some ⟨w.heap.size, 0, none⟩) 1 1, .int .i64 2, .int .i64 2] (w.alloc (.cells #[.int .i64 0, .int .i64 1, .int .i64 0, .int .i64 0, .int .i64 0, .int .i64 0, .slice none 0 0, .int .i64 0, .int .i64 0, .int .i64 0, .slice none 0 0, .int .i64 1, .int .i64 2, .int .i64 3] 29)) (FinQ (w.alloc (.cells #[.int .i64 0, .int .i64 1, .int .i64 0, .int .i64 0, .int .i64 0, .int .i64 0, .slice none 0 0, .int .i64 0, .int .i64 0, .int .i64 0, .slice none 0 0, .int .i64 1, .int .i64 2, .int .i64 3] 29))) := by
  refine Calls.mono (final_any (evs_one ⟨rfl, rfl⟩ rng_a w) (by decide) 2 2 1) ?_
  rintro e w' ⟨X1, n1, c1, X2, n2, c2, X3, n3, c3, b, he, hb, _, hg⟩
  obtain rfl : b = true := hb.2 ⟨_, f_a⟩
  exact ⟨X1, n1, c1, X2, n2, c2, X3, n3, c3, he, hg⟩
theorem t_bad (w : World) (c : Int) (b : Bool) (h : b = true ↔ badC 1 c) : Calls Try.prog 20 #[.agg #[.int .i64 1, .int .i64 0, .int .i64 0, .int .i64 0, .int .i64 0, .slice none 0 0], .int .i64 c] w fun e w' => e = .returned (.bool b) ∧ Grow w w' :=
  (bad_any 1 0 0 0 0 c none 0 0 w).mono fun _ _ ⟨⟨b', he, hb⟩, hg⟩ => ⟨by rw [he]; congr 2; rw [Bool.eq_iff_iff, hb, h], hg⟩
theorem badY : true = true ↔ badC 1 8 := ⟨fun _ => .inl ⟨rfl, .inl rfl⟩, fun _ => rfl⟩
theorem badN : false = true ↔ badC 1 10 := ⟨fun h => Bool.noConfusion h, fun h => by unfold badC at h; omega⟩
theorem boxes (w : World) : Grow w (((w.alloc (.cells #[.int .i64 0, .int .i64 1, .int .i64 0, .int .i64 0, .int .i64 0, .int .i64 0, .slice none 0 0, .int .i64 0, .int .i64 0, .int .i64 0, .slice none 0 0, .int .i64 1, .int .i64 2, .int .i64 3] 29)).alloc (.cells #[.int .i64 1, .int .i64 2, .int .i64 0, .int .i64 0, .int .i64 0, .int .i64 0, .slice none 0 0, .int .i64 0, .int .i64 0, .int .i64 0, .slice none 0 0, .int .i64 1, .int .i64 2, .int .i64 2] 29)).alloc (.cells #[.int .i64 1, .int .i64 2, .int .i64 0, .int .i64 0, .int .i64 0, .int .i64 0, .slice none 0 0, .int .i64 2, .int .i64 0, .int .i64 0, .slice none 0 0, .int .i64 1, .int .i64 1, .int .i64 2] 29)) ∧ Blk (((w.alloc (.cells #[.int .i64 0, .int .i64 1, .int .i64 0, .int .i64 0, .int .i64 0, .int .i64 0, .slice none 0 0, .int .i64 0, .int .i64 0, .int .i64 0, .slice none 0 0, .int .i64 1, .int .i64 2, .int .i64 3] 29)).alloc (.cells #[.int .i64 1, .int .i64 2, .int .i64 0, .int .i64 0, .int .i64 0, .int .i64 0, .slice none 0 0, .int .i64 0, .int .i64 0, .int .i64 0, .slice none 0 0, .int .i64 1, .int .i64 2, .int .i64 2] 29)).alloc (.cells #[.int .i64 1, .int .i64 2, .int .i64 0, .int .i64 0, .int .i64 0, .int .i64 0, .slice none 0 0, .int .i64 2, .int .i64 0, .int .i64 0, .slice none 0 0, .int .i64 1, .int .i64 1, .int .i64 2] 29)) w.heap.size 29 [.int .i64 0, .int .i64 1, .int .i64 0, .int .i64 0, .int .i64 0, .int .i64 0, .slice none 0 0, .int .i64 0, .int .i64 0, .int .i64 0, .slice none 0 0, .int .i64 1, .int .i64 2, .int .i64 3] ∧ Blk (((w.alloc (.cells #[.int .i64 0, .int .i64 1, .int .i64 0, .int .i64 0, .int .i64 0, .int .i64 0, .slice none 0 0, .int .i64 0, .int .i64 0, .int .i64 0, .slice none 0 0, .int .i64 1, .int .i64 2, .int .i64 3] 29)).alloc (.cells #[.int .i64 1, .int .i64 2, .int .i64 0, .int .i64 0, .int .i64 0, .int .i64 0, .slice none 0 0, .int .i64 0, .int .i64 0, .int .i64 0, .slice none 0 0, .int .i64 1, .int .i64 2, .int .i64 2] 29)).alloc (.cells #[.int .i64 1, .int .i64 2, .int .i64 0, .int .i64 0, .int .i64 0, .int .i64 0, .slice none 0 0, .int .i64 2, .int .i64 0, .int .i64 0, .slice none 0 0, .int .i64 1, .int .i64 1, .int .i64 2] 29)) (w.heap.size + 1) 29 [.int .i64 1, .int .i64 2, .int .i64 0, .int .i64 0, .int .i64 0, .int .i64 0, .slice none 0 0, .int .i64 0, .int .i64 0, .int .i64 0, .slice none 0 0, .int .i64 1, .int .i64 2, .int .i64 2] ∧ Blk (((w.alloc (.cells #[.int .i64 0, .int .i64 1, .int .i64 0, .int .i64 0, .int .i64 0, .int .i64 0, .slice none 0 0, .int .i64 0, .int .i64 0, .int .i64 0, .slice none 0 0, .int .i64 1, .int .i64 2, .int .i64 3] 29)).alloc (.cells #[.int .i64 1, .int .i64 2, .int .i64 0, .int .i64 0, .int .i64 0, .int .i64 0, .slice none 0 0, .int .i64 0, .int .i64 0, .int .i64 0, .slice none 0 0, .int .i64 1, .int .i64 2, .int .i64 2] 29)).alloc (.cells #[.int .i64 1, .int .i64 2, .int .i64 0, .int .i64 0, .int .i64 0, .int .i64 0, .slice none 0 0, .int .i64 2, .int .i64 0, .int .i64 0, .slice none 0 0, .int .i64 1, .int .i64 1, .int .i64 2] 29)) (w.heap.size + 1 + 1) 29 [.int .i64 1, .int .i64 2, .int .i64 0, .int .i64 0, .int .i64 0, .int .i64 0, .slice none 0 0, .int .i64 2, .int .i64 0, .int .i64 0, .slice none 0 0, .int .i64 1, .int .i64 1, .int .i64 2] := by
  have g1 : Grow w (w.alloc (.cells #[.int .i64 0, .int .i64 1, .int .i64 0, .int .i64 0, .int .i64 0, .int .i64 0, .slice none 0 0, .int .i64 0, .int .i64 0, .int .i64 0, .slice none 0 0, .int .i64 1, .int .i64 2, .int .i64 3] 29)) := (Kept.refl _ _).alloc _
  have b1 := Blk.new w 29 [.int .i64 0, .int .i64 1, .int .i64 0, .int .i64 0, .int .i64 0, .int .i64 0, .slice none 0 0, .int .i64 0, .int .i64 0, .int .i64 0, .slice none 0 0, .int .i64 1, .int .i64 2, .int .i64 3]
  have z1 : (w.alloc (.cells #[.int .i64 0, .int .i64 1, .int .i64 0, .int .i64 0, .int .i64 0, .int .i64 0, .slice none 0 0, .int .i64 0, .int .i64 0, .int .i64 0, .slice none 0 0, .int .i64 1, .int .i64 2, .int .i64 3] 29)).heap.size = w.heap.size + 1 := by simp
  generalize w.alloc (.cells #[.int .i64 0, .int .i64 1, .int .i64 0, .int .i64 0, .int .i64 0, .int .i64 0, .slice none 0 0, .int .i64 0, .int .i64 0, .int .i64 0, .slice none 0 0, .int .i64 1, .int .i64 2, .int .i64 3] 29) = u at *
  have g2 : Grow u (u.alloc (.cells #[.int .i64 1, .int .i64 2, .int .i64 0, .int .i64 0, .int .i64 0, .int .i64 0, .slice none 0 0, .int .i64 0, .int .i64 0, .int .i64 0, .slice none 0 0, .int .i64 1, .int .i64 2, .int .i64 2] 29)) := (Kept.refl _ _).alloc _
  have b2 := Blk.new u 29 [.int .i64 1, .int .i64 2, .int .i64 0, .int .i64 0, .int .i64 0, .int .i64 0, .slice none 0 0, .int .i64 0, .int .i64 0, .int .i64 0, .slice none 0 0, .int .i64 1, .int .i64 2, .int .i64 2]
  have z2 : (u.alloc (.cells #[.int .i64 1, .int .i64 2, .int .i64 0, .int .i64 0, .int .i64 0, .int .i64 0, .slice none 0 0, .int .i64 0, .int .i64 0, .int .i64 0, .slice none 0 0, .int .i64 1, .int .i64 2, .int .i64 2] 29)).heap.size = u.heap.size + 1 := by simp
  rw [z1] at b2 z2
  generalize u.alloc (.cells #[.int .i64 1, .int .i64 2, .int .i64 0, .int .i64 0, .int .i64 0, .int .i64 0, .slice none 0 0, .int .i64 0, .int .i64 0, .int .i64 0, .slice none 0 0, .int .i64 1, .int .i64 2, .int .i64 2] 29) = v at *
  have g3 : Grow v (v.alloc (.cells #[.int .i64 1, .int .i64 2, .int .i64 0, .int .i64 0, .int .i64 0, .int .i64 0, .slice none 0 0, .int .i64 2, .int .i64 0, .int .i64 0, .slice none 0 0, .int .i64 1, .int .i64 1, .int .i64 2] 29)) := (Kept.refl _ _).alloc _
  have b3 := Blk.new v 29 [.int .i64 1, .int .i64 2, .int .i64 0, .int .i64 0, .int .i64 0, .int .i64 0, .slice none 0 0, .int .i64 2, .int .i64 0, .int .i64 0, .slice none 0 0, .int .i64 1, .int .i64 1, .int .i64 2]
  rw [z2] at b3
  exact ⟨(g1.trans g2).trans g3, (b1.grow g2).grow g3, b2.grow g3, b3⟩
set_option maxHeartbeats 32000000 in
set_option maxRecDepth 100000 in
theorem told_any (w : World) : Calls Try.prog 10 #[] w fun e w' => e = .returned (.bool true) ∧ Grow w w' := by
  obtain ⟨hg, ha, hb, hc⟩ := boxes w
  go_enter Try.func10, Try.ntmps10
  go_upto_region 4 with (fail)
  generalize ((w.alloc (.cells #[.int .i64 0, .int .i64 1, .int .i64 0, .int .i64 0, .int .i64 0, .int .i64 0, .slice none 0 0, .int .i64 0, .int .i64 0, .int .i64 0, .slice none 0 0, .int .i64 1, .int .i64 2, .int .i64 3] 29)).alloc (.cells #[.int .i64 1, .int .i64 2, .int .i64 0, .int .i64 0, .int .i64 0, .int .i64 0, .slice none 0 0, .int .i64 0, .int .i64 0, .int .i64 0, .slice none 0 0, .int .i64 1, .int .i64 2, .int .i64 2] 29)).alloc (.cells #[.int .i64 1, .int .i64 2, .int .i64 0, .int .i64 0, .int .i64 0, .int .i64 0, .slice none 0 0, .int .i64 2, .int .i64 0, .int .i64 0, .slice none 0 0, .int .i64 1, .int .i64 1, .int .i64 2] 29) = w0 at *
  have HG := Lib.hid hg
  have HA := Lib.hid ha
  have HB := Lib.hid hb
  have HC := Lib.hid hc
  clear hg ha hb hc
  generalize w.heap.size = g at *
  have a0 := HA.out.cell 0
  have a1 := HA.out.cell 1
  have a2 := HA.out.cell 2
  have a3 := HA.out.cell 3
  have a4 := HA.out.cell 4
  have a5 := HA.out.cell 5
  have a6 := HA.out.cell 6
  have a7 := HA.out.cell 7
  have a8 := HA.out.cell 8
  have a9 := HA.out.cell 9
  have a10 := HA.out.cell 10
  have a11 := HA.out.cell 11
  have a12 := HA.out.cell 12
  have a13 := HA.out.cell 13
  simp only [List.getElem?_cons_zero, List.getElem?_cons_succ] at a0 a1 a2 a3 a4 a5 a6 a7 a8 a9 a10 a11 a12 a13
  have hal := (Kept.refl (fun _ => False) w0).alloc (.cells #[.int .i64 0, .int .i64 1, .int .i64 0, .int .i64 0, .int .i64 0, .int .i64 0, .slice none 0 0, .int .i64 0, .int .i64 0, .int .i64 0, .slice none 0 0, .int .i64 1, .int .i64 2, .int .i64 3] 29)
  have HAL := Lib.hid hal
  clear hal
  go_upto_region 5 with (go_at_call 13; (with_reducible refine (t_fin _).mono ?_); rintro e w1 ⟨X1, n1, c1, X2, n2, c2, X3, n3, c3, rfl, hg1⟩; have HG1 := Lib.hid (HAL.out.trans hg1); clear hg1)
  have hg2 := (st_box w1 (.slice X1 n1 c1) (.slice X2 n2 c2) (.slice X3 n3 c3)).2
  generalize w1.alloc (.cells #[.slice X1 n1 c1, .slice X2 n2 c2, .slice X3 n3 c3] 39) = w2 at hg2 ⊢
  generalize w1.heap.size = gs at *
  have HG2 : Hid (Grow w0 w2) := HG1.out.trans hg2
  clear hg2 HG1 HAL a0 a1 a2 a3 a4 a5 a6 a7 a8 a9 a10 a11 a12 a13
  go_wp2_with (first
    | (go_at_call 11; (with_reducible refine (t_nil _).mono ?_); rintro e w3 ⟨rfl, hg3⟩; have HG3 : Hid (Grow w0 w3) := (HG2.out).trans hg3; clear hg3; have ha3 := HA.out.grow HG3.out; have a0 := ha3.cell 0; have a1 := ha3.cell 1; have a2 := ha3.cell 2; have a3 := ha3.cell 3; have a4 := ha3.cell 4; have a5 := ha3.cell 5; have a6 := ha3.cell 6; have a7 := ha3.cell 7; have a8 := ha3.cell 8; have a9 := ha3.cell 9; have a10 := ha3.cell 10; have a11 := ha3.cell 11; have a12 := ha3.cell 12; have a13 := ha3.cell 13; simp only [List.getElem?_cons_zero, List.getElem?_cons_succ] at a0 a1 a2 a3 a4 a5 a6 a7 a8 a9 a10 a11 a12 a13; clear ha3; have hb3 := HB.out.grow HG3.out; have b0 := hb3.cell 0; have b1 := hb3.cell 1; have b2 := hb3.cell 2; have b3 := hb3.cell 3; have b4 := hb3.cell 4; have b5 := hb3.cell 5; have b6 := hb3.cell 6; have b7 := hb3.cell 7; have b8 := hb3.cell 8; have b9 := hb3.cell 9; have b10 := hb3.cell 10; have b11 := hb3.cell 11; have b12 := hb3.cell 12; have b13 := hb3.cell 13; simp only [List.getElem?_cons_zero, List.getElem?_cons_succ] at b0 b1 b2 b3 b4 b5 b6 b7 b8 b9 b10 b11 b12 b13; clear hb3)
    | (go_at_call 11; (with_reducible refine (t_ab _).mono ?_); rintro e w4 ⟨rfl, hg4⟩; have HG4 : Hid (Grow w0 w4) := (HG3.out.trans ((Kept.refl (fun _ => False) _).alloc (.cells #[.int .i64 0, .int .i64 1, .int .i64 0, .int .i64 0, .int .i64 0, .int .i64 0, .slice none 0 0, .int .i64 0, .int .i64 0, .int .i64 0, .slice none 0 0, .int .i64 1, .int .i64 2, .int .i64 3, .int .i64 1, .int .i64 2, .int .i64 0, .int .i64 0, .int .i64 0, .int .i64 0, .slice none 0 0, .int .i64 0, .int .i64 0, .int .i64 0, .slice none 0 0, .int .i64 1, .int .i64 2, .int .i64 2] 29))).trans hg4; clear hg4; clear a0 a1 a2 a3 a4 a5 a6 a7 a8 a9 a10 a11 a12 a13 b0 b1 b2 b3 b4 b5 b6 b7 b8 b9 b10 b11 b12 b13; have ha4 := HA.out.grow HG4.out; have a0 := ha4.cell 0; have a1 := ha4.cell 1; have a2 := ha4.cell 2; have a3 := ha4.cell 3; have a4 := ha4.cell 4; have a5 := ha4.cell 5; have a6 := ha4.cell 6; have a7 := ha4.cell 7; have a8 := ha4.cell 8; have a9 := ha4.cell 9; have a10 := ha4.cell 10; have a11 := ha4.cell 11; have a12 := ha4.cell 12; have a13 := ha4.cell 13; simp only [List.getElem?_cons_zero, List.getElem?_cons_succ] at a0 a1 a2 a3 a4 a5 a6 a7 a8 a9 a10 a11 a12 a13; clear ha4; have hc4 := HC.out.grow HG4.out; have c0 := hc4.cell 0; have c1 := hc4.cell 1; have c2 := hc4.cell 2; have c3 := hc4.cell 3; have c4 := hc4.cell 4; have c5 := hc4.cell 5; have c6 := hc4.cell 6; have c7 := hc4.cell 7; have c8 := hc4.cell 8; have c9 := hc4.cell 9; have c10 := hc4.cell 10; have c11 := hc4.cell 11; have c12 := hc4.cell 12; have c13 := hc4.cell 13; simp only [List.getElem?_cons_zero, List.getElem?_cons_succ] at c0 c1 c2 c3 c4 c5 c6 c7 c8 c9 c10 c11 c12 c13; clear hc4)
    | (go_at_call 11; (with_reducible refine (t_ac _).mono ?_); rintro e w5 ⟨rfl, hg5⟩; have HG5 : Hid (Grow w0 w5) := (HG4.out.trans ((Kept.refl (fun _ => False) _).alloc (.cells #[.int .i64 0, .int .i64 1, .int .i64 0, .int .i64 0, .int .i64 0, .int .i64 0, .slice none 0 0, .int .i64 0, .int .i64 0, .int .i64 0, .slice none 0 0, .int .i64 1, .int .i64 2, .int .i64 3, .int .i64 1, .int .i64 2, .int .i64 0, .int .i64 0, .int .i64 0, .int .i64 0, .slice none 0 0, .int .i64 2, .int .i64 0, .int .i64 0, .slice none 0 0, .int .i64 1, .int .i64 1, .int .i64 2] 29))).trans hg5; clear hg5; clear a0 a1 a2 a3 a4 a5 a6 a7 a8 a9 a10 a11 a12 a13 c0 c1 c2 c3 c4 c5 c6 c7 c8 c9 c10 c11 c12 c13; have ha5 := HA.out.grow HG5.out; have a0 := ha5.cell 0; have a1 := ha5.cell 1; have a2 := ha5.cell 2; have a3 := ha5.cell 3; have a4 := ha5.cell 4; have a5 := ha5.cell 5; have a6 := ha5.cell 6; have a7 := ha5.cell 7; have a8 := ha5.cell 8; have a9 := ha5.cell 9; have a10 := ha5.cell 10; have a11 := ha5.cell 11; have a12 := ha5.cell 12; have a13 := ha5.cell 13; simp only [List.getElem?_cons_zero, List.getElem?_cons_succ] at a0 a1 a2 a3 a4 a5 a6 a7 a8 a9 a10 a11 a12 a13; clear ha5)
    | (go_at_call 11; (with_reducible refine (t_a0 _).mono ?_); rintro e w6 ⟨rfl, hg6⟩; have HG6 : Hid (Grow w0 w6) := (HG5.out.trans ((Kept.refl (fun _ => False) _).alloc (.cells #[.int .i64 0, .int .i64 1, .int .i64 0, .int .i64 0, .int .i64 0, .int .i64 0, .slice none 0 0, .int .i64 0, .int .i64 0, .int .i64 0, .slice none 0 0, .int .i64 1, .int .i64 2, .int .i64 3] 29))).trans hg6; clear hg6; clear a0 a1 a2 a3 a4 a5 a6 a7 a8 a9 a10 a11 a12 a13; have ha6 := HA.out.grow HG6.out; have a0 := ha6.cell 0; have a1 := ha6.cell 1; have a2 := ha6.cell 2; have a3 := ha6.cell 3; have a4 := ha6.cell 4; have a5 := ha6.cell 5; have a6 := ha6.cell 6; have a7 := ha6.cell 7; have a8 := ha6.cell 8; have a9 := ha6.cell 9; have a10 := ha6.cell 10; have a11 := ha6.cell 11; have a12 := ha6.cell 12; have a13 := ha6.cell 13; simp only [List.getElem?_cons_zero, List.getElem?_cons_succ] at a0 a1 a2 a3 a4 a5 a6 a7 a8 a9 a10 a11 a12 a13; clear ha6)
    | (go_at_call 11; (with_reducible refine (t_d _).mono ?_); rintro e w7 ⟨rfl, hg7⟩; have HG7 : Hid (Grow w0 w7) := (HG6.out.trans ((Kept.refl (fun _ => False) _).alloc (.cells #[.int .i64 0, .int .i64 1, .int .i64 0, .int .i64 0, .int .i64 0, .int .i64 0, .slice none 0 0, .int .i64 0, .int .i64 0, .int .i64 0, .slice none 0 0, .int .i64 1, .int .i64 5, .int .i64 3] 29))).trans hg7; clear hg7; clear a0 a1 a2 a3 a4 a5 a6 a7 a8 a9 a10 a11 a12 a13; have hb7 := HB.out.grow HG7.out; have b0 := hb7.cell 0; have b1 := hb7.cell 1; have b2 := hb7.cell 2; have b3 := hb7.cell 3; have b4 := hb7.cell 4; have b5 := hb7.cell 5; have b6 := hb7.cell 6; have b7 := hb7.cell 7; have b8 := hb7.cell 8; have b9 := hb7.cell 9; have b10 := hb7.cell 10; have b11 := hb7.cell 11; have b12 := hb7.cell 12; have b13 := hb7.cell 13; simp only [List.getElem?_cons_zero, List.getElem?_cons_succ] at b0 b1 b2 b3 b4 b5 b6 b7 b8 b9 b10 b11 b12 b13; clear hb7)
    | (go_at_call 11; (with_reducible refine (t_b _).mono ?_); rintro e w8 ⟨rfl, hg8⟩; have HG8 : Hid (Grow w0 w8) := (HG7.out.trans ((Kept.refl (fun _ => False) _).alloc (.cells #[.int .i64 1, .int .i64 2, .int .i64 0, .int .i64 0, .int .i64 0, .int .i64 0, .slice none 0 0, .int .i64 0, .int .i64 0, .int .i64 0, .slice none 0 0, .int .i64 1, .int .i64 2, .int .i64 2] 29))).trans hg8; clear hg8; clear b0 b1 b2 b3 b4 b5 b6 b7 b8 b9 b10 b11 b12 b13; have ha8 := HA.out.grow HG8.out; have a0 := ha8.cell 0; have a1 := ha8.cell 1; have a2 := ha8.cell 2; have a3 := ha8.cell 3; have a4 := ha8.cell 4; have a5 := ha8.cell 5; have a6 := ha8.cell 6; have a7 := ha8.cell 7; have a8 := ha8.cell 8; have a9 := ha8.cell 9; have a10 := ha8.cell 10; have a11 := ha8.cell 11; have a12 := ha8.cell 12; have a13 := ha8.cell 13; simp only [List.getElem?_cons_zero, List.getElem?_cons_succ] at a0 a1 a2 a3 a4 a5 a6 a7 a8 a9 a10 a11 a12 a13; clear ha8; have hc8 := HC.out.grow HG8.out; have c0 := hc8.cell 0; have c1 := hc8.cell 1; have c2 := hc8.cell 2; have c3 := hc8.cell 3; have c4 := hc8.cell 4; have c5 := hc8.cell 5; have c6 := hc8.cell 6; have c7 := hc8.cell 7; have c8 := hc8.cell 8; have c9 := hc8.cell 9; have c10 := hc8.cell 10; have c11 := hc8.cell 11; have c12 := hc8.cell 12; have c13 := hc8.cell 13; simp only [List.getElem?_cons_zero, List.getElem?_cons_succ] at c0 c1 c2 c3 c4 c5 c6 c7 c8 c9 c10 c11 c12 c13; clear hc8)
    | (go_at_call 16; (with_reducible refine (t_ord _).mono ?_); rintro e w9 ⟨b9, o9, d9, rfl, hc9, hg9⟩; have HG9 : Hid (Grow w0 w9) := (HG8.out.trans ((Kept.refl (fun _ => False) _).alloc (.cells #[.int .i64 0, .int .i64 1, .int .i64 0, .int .i64 0, .int .i64 0, .int .i64 0, .slice none 0 0, .int .i64 0, .int .i64 0, .int .i64 0, .slice none 0 0, .int .i64 1, .int .i64 2, .int .i64 3, .int .i64 1, .int .i64 2, .int .i64 0, .int .i64 0, .int .i64 0, .int .i64 0, .slice none 0 0, .int .i64 2, .int .i64 0, .int .i64 0, .slice none 0 0, .int .i64 1, .int .i64 1, .int .i64 2] 29))).trans hg9; clear hg9; clear a0 a1 a2 a3 a4 a5 a6 a7 a8 a9 a10 a11 a12 a13 c0 c1 c2 c3 c4 c5 c6 c7 c8 c9 c10 c11 c12 c13; have ha9 := HA.out.grow HG9.out; have a0 := ha9.cell 0; have a1 := ha9.cell 1; have a2 := ha9.cell 2; have a3 := ha9.cell 3; have a4 := ha9.cell 4; have a5 := ha9.cell 5; have a6 := ha9.cell 6; have a7 := ha9.cell 7; have a8 := ha9.cell 8; have a9 := ha9.cell 9; have a10 := ha9.cell 10; have a11 := ha9.cell 11; have a12 := ha9.cell 12; have a13 := ha9.cell 13; simp only [List.getElem?_cons_zero, List.getElem?_cons_succ] at a0 a1 a2 a3 a4 a5 a6 a7 a8 a9 a10 a11 a12 a13; clear ha9; have hc9 := HC.out.grow HG9.out; have c0 := hc9.cell 0; have c1 := hc9.cell 1; have c2 := hc9.cell 2; have c3 := hc9.cell 3; have c4 := hc9.cell 4; have c5 := hc9.cell 5; have c6 := hc9.cell 6; have c7 := hc9.cell 7; have c8 := hc9.cell 8; have c9 := hc9.cell 9; have c10 := hc9.cell 10; have c11 := hc9.cell 11; have c12 := hc9.cell 12; have c13 := hc9.cell 13; simp only [List.getElem?_cons_zero, List.getElem?_cons_succ] at c0 c1 c2 c3 c4 c5 c6 c7 c8 c9 c10 c11 c12 c13; clear hc9)
    | (go_at_call 16; (with_reducible refine (t_ord _).mono ?_); rintro e w10 ⟨b10, o10, d10, rfl, hc10, hg10⟩; have HG10 : Hid (Grow w0 w10) := (HG9.out.trans ((Kept.refl (fun _ => False) _).alloc (.cells #[.int .i64 0, .int .i64 1, .int .i64 0, .int .i64 0, .int .i64 0, .int .i64 0, .slice none 0 0, .int .i64 0, .int .i64 0, .int .i64 0, .slice none 0 0, .int .i64 1, .int .i64 2, .int .i64 3, .int .i64 1, .int .i64 2, .int .i64 0, .int .i64 0, .int .i64 0, .int .i64 0, .slice none 0 0, .int .i64 2, .int .i64 0, .int .i64 0, .slice none 0 0, .int .i64 1, .int .i64 1, .int .i64 2] 29))).trans hg10; clear hg10; clear a0 a1 a2 a3 a4 a5 a6 a7 a8 a9 a10 a11 a12 a13 c0 c1 c2 c3 c4 c5 c6 c7 c8 c9 c10 c11 c12 c13; have ha10 := HA.out.grow HG10.out; have a0 := ha10.cell 0; have a1 := ha10.cell 1; have a2 := ha10.cell 2; have a3 := ha10.cell 3; have a4 := ha10.cell 4; have a5 := ha10.cell 5; have a6 := ha10.cell 6; have a7 := ha10.cell 7; have a8 := ha10.cell 8; have a9 := ha10.cell 9; have a10 := ha10.cell 10; have a11 := ha10.cell 11; have a12 := ha10.cell 12; have a13 := ha10.cell 13; simp only [List.getElem?_cons_zero, List.getElem?_cons_succ] at a0 a1 a2 a3 a4 a5 a6 a7 a8 a9 a10 a11 a12 a13; clear ha10)
    | (go_at_call 20; (with_reducible refine (t_bad _ 8 true badY).mono ?_); rintro e w11 ⟨rfl, hg11⟩; have HG11 : Hid (Grow w0 w11) := HG10.out.trans hg11; clear hg11; clear a0 a1 a2 a3 a4 a5 a6 a7 a8 a9 a10 a11 a12 a13; have ha11 := HA.out.grow HG11.out; have a0 := ha11.cell 0; have a1 := ha11.cell 1; have a2 := ha11.cell 2; have a3 := ha11.cell 3; have a4 := ha11.cell 4; have a5 := ha11.cell 5; have a6 := ha11.cell 6; have a7 := ha11.cell 7; have a8 := ha11.cell 8; have a9 := ha11.cell 9; have a10 := ha11.cell 10; have a11 := ha11.cell 11; have a12 := ha11.cell 12; have a13 := ha11.cell 13; simp only [List.getElem?_cons_zero, List.getElem?_cons_succ] at a0 a1 a2 a3 a4 a5 a6 a7 a8 a9 a10 a11 a12 a13; clear ha11)
    | (go_at_call 20; (with_reducible refine (t_bad _ 10 false badN).mono ?_); rintro e w12 ⟨rfl, hg12⟩; have HG12 : Hid (Grow w0 w12) := HG11.out.trans hg12; clear hg12))
  go_ret
  exact ⟨rfl, HG.out.trans HG12.out⟩
#print axioms told_any
end Go.Proofs.Ytjdlpknflhgkfaa.Told14
