/-
  States that the laws of stage 13 come to, as mathematics.
-/
import Derived.Test.YteiodnclpbjbbaaTold13
namespace Go.Proofs.Yteiodnclpbjbbaa.Law13
open Go.Proofs.Yteiodnclpbjbbaa.MdM Go.Proofs.Yteiodnclpbjbbaa.PmW
open Go.Proofs.Yteiodnclpbjbbaa.HdM (lst hnd cnt sum lst_eq hnd_at hnd_none hnd_cases cnt_yes cnt_no cnt_le sum_le lst_at lst_le)

/-- So many pages, one client; the first i pages are there, no handle has one. -/
def Ns (n i : Nat) : Md := ⟨n, 1, fun p => decide (p < i), fun _ => zeros, fun _ _ => -1⟩
/-- The next one has been made. -/
def Nh (n i : Nat) : Md := ((Ns n i).putT i true).putH 0 0 (i : Int)
theorem ns_zero (n : Nat) : fresh n 1 = Ns n 0 := by
  unfold fresh Ns
  congr 1
theorem md_ext {a b : Md} (h1 : a.n = b.n) (h2 : a.N = b.N) (h3 : ∀ i, a.T i = b.T i) (h4 : ∀ i, a.B i = b.B i) (h5 : ∀ c j, a.H c j = b.H c j) : a = b := by
  obtain ⟨n, N, T, B, H⟩ := a
  obtain ⟨n', N', T', B', H'⟩ := b
  simp only at h1 h2 h3 h4 h5
  subst h1 h2
  obtain rfl : T = T' := funext h3
  obtain rfl : B = B' := funext h4
  obtain rfl : H = H' := funext fun c => funext (h5 c)
  rfl
theorem free_none {a : Md} {c : Nat} (h : ∀ j, a.H c j = -1) : a.free c = 0 := hnd_at (k := 0) (fun j hj => absurd hj (Nat.not_lt_zero j)) (by omega) (h 0)
theorem gap_eq {a : Md} {i : Nat} (h : ∀ p, p < i → a.T p = true) (hi : i = a.n ∨ (i < a.n ∧ a.T i = false)) : a.gap = i :=
  lst_eq (fun p hp => by rw [h p hp]; decide) (hi.imp id fun ⟨x, y⟩ => ⟨x, by rw [y]; rfl⟩)
theorem new_at {a : Md} {i : Nat} (hN : 0 < a.N) (hf : ∀ j, a.H 0 j = -1) (hg : a.gap = i) (hi : i < a.n) : a.run 0 ⟨1, 0, 0, 0, 0, []⟩ = (⟨0, (i : Int), 0, []⟩, (a.putT i true).putH 0 0 (i : Int)) := by
  have e := run_1 (a := a) (k := 0) (o := ⟨1, 0, 0, 0, 0, []⟩) hN rfl
  rw [show ((0 : Nat) : Int) = 0 from rfl] at e
  rw [e]
  unfold Md.new
  rw [free_none hf, hg, if_neg (by decide), if_neg (by omega)]
  rfl
theorem new_full {a : Md} (hN : 0 < a.N) (hf : ∀ j, a.H 0 j = -1) (hg : a.gap = a.n) : a.run 0 ⟨1, 0, 0, 0, 0, []⟩ = (⟨3, 0, 0, []⟩, a) := by
  have e := run_1 (a := a) (k := 0) (o := ⟨1, 0, 0, 0, 0, []⟩) hN rfl
  rw [show ((0 : Nat) : Int) = 0 from rfl] at e
  rw [e]
  unfold Md.new
  rw [free_none hf, if_neg (by decide), if_pos hg]
  rfl
theorem ns_gap (n i : Nat) (h : i ≤ n) : (Ns n i).gap = i := gap_eq (fun p hp => decide_eq_true hp) (by
  by_cases e : i = n
  · exact .inl e
  · exact .inr ⟨by show i < n; omega, decide_eq_false (by omega)⟩)
theorem ns_new {n i : Nat} (h : i < n) : (Ns n i).run 0 ⟨1, 0, 0, 0, 0, []⟩ = (⟨0, (i : Int), 0, []⟩, Nh n i) := new_at (by show 0 < 1; omega) (fun _ => rfl) (ns_gap n i (by omega)) h
theorem ns_unpin {n i : Nat} (h : i < n) : (Nh n i).run 0 ⟨5, 0, 0, 0, 0, []⟩ = (⟨0, 0, 0, []⟩, Ns n (i + 1)) := by
  have e := run_5 (a := Nh n i) (k := 0) (o := ⟨5, 0, 0, 0, 0, []⟩) (by show 0 < 1; omega) rfl
  have hh : (Nh n i).held ((0 : Nat) : Int) 0 = (i : Int) := by
    have := held_in (a := Nh n i) (k := 0) (j := 0) (by show 0 < 1; omega) (by omega)
    exact this
  rw [PmU.onHand_good hh] at e
  refine e.trans ?_
  refine Prod.ext rfl (md_ext rfl rfl (fun p => ?_) (fun p => ?_) (fun c j => ?_))
  · show upd (fun p => decide (p < i)) i true p = decide (p < i + 1)
    unfold upd
    by_cases e : p = i
    · rw [if_pos e, decide_eq_true (by omega)]
    · rw [if_neg e]
      show decide (p < i) = decide (p < i + 1)
      by_cases e2 : p < i
      · rw [decide_eq_true e2, decide_eq_true (by omega)]
      · rw [decide_eq_false e2, decide_eq_false (by omega)]
  · show upd (fun _ => zeros) i zeros p = zeros
    unfold upd
    split <;> rfl
  · show (if c = 0 ∧ j = 0 then (-1 : Int) else if c = 0 ∧ j = 0 then (i : Int) else -1) = -1
    by_cases e : c = 0 ∧ j = 0
    · rw [if_pos e]
    · rw [if_neg e, if_neg e]
theorem ns_full (n : Nat) : (Ns n n).run 0 ⟨1, 0, 0, 0, 0, []⟩ = (⟨3, 0, 0, []⟩, Ns n n) := new_full (by show 0 < 1; omega) (fun _ => rfl) (ns_gap n n (Nat.le_refl n))
theorem sum_none {g : Nat → Nat} (h : ∀ i, g i = 0) : ∀ m, sum g m = 0
  | 0 => rfl
  | m + 1 => by show sum g m + g m = 0; rw [sum_none h m, h m]
theorem cnt_none {f : Nat → Int} {p : Int} (h : ∀ i, f i ≠ p) : ∀ m, cnt f p m = 0
  | 0 => rfl
  | m + 1 => by show cnt f p m + (if f m = p then 1 else 0) = 0; rw [cnt_none h m, if_neg (h m)]
theorem ns_del {n W : Nat} (h : W < n) : (Ns n n).run 0 ⟨8, (W : Int), 0, 0, 0, []⟩ = (⟨0, 0, 0, []⟩, (Ns n n).putT W false) := by
  have e := run_8 (a := Ns n n) (k := 0) (o := ⟨8, (W : Int), 0, 0, 0, []⟩) (by show 0 < 1; omega) rfl
  refine e.trans ((PmU.onPage_good (a := Ns n n) h (decide_eq_true h)).trans ?_)
  unfold Md.del
  have hp : (Ns n n).pins (W : Int) = 0 := by
    unfold Md.pins
    rw [if_neg (by omega)]
    exact sum_none (fun c => cnt_none (fun j => by show (-1 : Int) ≠ _; omega) 6) _
  rw [if_neg (by omega)]
  rfl
theorem ns_again {n W : Nat} (h : W < n) : ∃ U, ((Ns n n).putT W false).run 0 ⟨1, 0, 0, 0, 0, []⟩ = (⟨0, (W : Int), 0, []⟩, U) :=
  ⟨_, new_at (by show 0 < 1; omega) (fun _ => rfl) (gap_eq (fun p hp => by
    show upd (fun p => decide (p < n)) W false p = true
    rw [upd_other _ _ (by omega)]
    exact decide_eq_true (by omega)) (.inr ⟨h, upd_same _ _ _⟩)) h⟩

/-! ### Two pages, two clients; page 0 is there, and pinned by turns -/
/-- The handles from the lo-th to the hi-th (turn by turn of both clients) have page 0. -/
def PQ (lo hi : Nat) : Md := ⟨2, 2, fun p => decide (p = 0), fun _ => zeros, fun c j => if c < 2 ∧ lo ≤ 2 * j + c ∧ 2 * j + c < hi then 0 else -1⟩
def V0 : Md := ((fresh 2 2).run 0 ⟨1, 0, 0, 0, 0, []⟩).2
theorem pq_new : (fresh 2 2).run 0 ⟨1, 0, 0, 0, 0, []⟩ = (⟨0, 0, 0, []⟩, V0) := rfl
theorem pq_back : V0.run 0 ⟨5, 0, 0, 0, 0, []⟩ = (⟨0, 0, 0, []⟩, PQ 0 0) := by
  refine Prod.ext rfl (md_ext rfl rfl (fun p => ?_) (fun p => ?_) (fun c j => ?_))
  · show upd (fun _ => false) 0 true p = decide (p = 0)
    unfold upd
    by_cases e : p = 0
    · rw [if_pos e, decide_eq_true e]
    · rw [if_neg e, decide_eq_false e]
  · show upd (fun _ => zeros) 0 zeros p = zeros
    unfold upd
    split <;> rfl
  · show (if c = 0 ∧ j = 0 then (-1 : Int) else if c = 0 ∧ j = 0 then (0 : Int) else -1) = if c < 2 ∧ 0 ≤ 2 * j + c ∧ 2 * j + c < 0 then 0 else -1
    rw [if_neg (show ¬ (c < 2 ∧ 0 ≤ 2 * j + c ∧ 2 * j + c < 0) by omega)]
    by_cases e : c = 0 ∧ j = 0
    · rw [if_pos e]
    · rw [if_neg e, if_neg e]
theorem pq_in {lo hi c j : Nat} (h : c < 2 ∧ lo ≤ 2 * j + c ∧ 2 * j + c < hi) : (PQ lo hi).H c j = 0 := if_pos h
theorem pq_out {lo hi c j : Nat} (h : ¬ (c < 2 ∧ lo ≤ 2 * j + c ∧ 2 * j + c < hi)) : (PQ lo hi).H c j = -1 := if_neg h
theorem fetch_at {a : Md} {c j : Nat} (hc : c < a.N) (h0 : 0 < a.n) (hT : a.T 0 = true) (hf : a.free c = (j : Int)) : a.run (c : Int) ⟨2, 0, 0, 0, 0, []⟩ = (⟨0, 0, (j : Int), []⟩, a.putH c j 0) := by
  have e := run_2 (a := a) (k := c) (o := ⟨2, 0, 0, 0, 0, []⟩) hc rfl
  have h := PmU.onPage_good (a := a) (f := a.fetch c) (p := 0) h0 hT
  refine e.trans (h.trans ?_)
  unfold Md.fetch
  rw [hf, if_neg (by omega), Int.toNat_natCast]
  rfl
theorem fetch_none {a : Md} {c : Nat} (hc : c < a.N) (h0 : 0 < a.n) (hT : a.T 0 = true) (hf : a.free c = -1) : a.run (c : Int) ⟨2, 0, 0, 0, 0, []⟩ = (⟨4, 0, 0, []⟩, a) := by
  have e := run_2 (a := a) (k := c) (o := ⟨2, 0, 0, 0, 0, []⟩) hc rfl
  have h := PmU.onPage_good (a := a) (f := a.fetch c) (p := 0) h0 hT
  refine e.trans (h.trans ?_)
  unfold Md.fetch
  rw [if_pos hf]
  rfl
theorem pq_free {hi c q : Nat} (hc : c < 2) (hq : q < 6) (h1 : hi ≤ 2 * q + c) (h2 : 2 * q + c < hi + 2) : (PQ 0 hi).free c = (q : Int) :=
  hnd_at (fun j hj => by rw [pq_in ⟨hc, by omega, by omega⟩]; decide) hq (pq_out (by omega))
theorem pq_fetch {i c q : Nat} (hc : c = i % 2) (hq : q = i / 2) (hi : i < 12) : (PQ 0 i).run (c : Int) ⟨2, 0, 0, 0, 0, []⟩ = (⟨0, 0, (q : Int), []⟩, PQ 0 (i + 1)) := by
  refine (fetch_at (a := PQ 0 i) (c := c) (j := q) (by show c < 2; omega) (by show 0 < 2; omega) rfl (pq_free (by omega) (by omega) (by omega) (by omega))).trans ?_
  refine Prod.ext rfl (md_ext rfl rfl (fun p => rfl) (fun p => rfl) (fun x y => ?_))
  show (if x = c ∧ y = q then (0 : Int) else (PQ 0 i).H x y) = (PQ 0 (i + 1)).H x y
  by_cases e : x = c ∧ y = q
  · rw [if_pos e, pq_in (by omega)]
  · rw [if_neg e]
    by_cases e2 : x < 2 ∧ 0 ≤ 2 * y + x ∧ 2 * y + x < i
    · rw [pq_in e2, pq_in (by omega)]
    · rw [pq_out e2, pq_out (by omega)]
theorem pq_full {k : Nat} (hk : k ≤ 12) : ∃ (c h : Int) (U : Md), (PQ 0 k).run 0 ⟨2, 0, 0, 0, 0, []⟩ = (⟨c, 0, h, []⟩, U) ∧ ((c = 4 ∧ 10 < k) ∨ (c = 0 ∧ k ≤ 10)) := by
  by_cases h : 10 < k
  · exact ⟨4, 0, _, fetch_none (a := PQ 0 k) (c := 0) (by show 0 < 2; omega) (by show 0 < 2; omega) rfl (hnd_none fun j hj => by rw [pq_in (by omega)]; decide), .inl ⟨rfl, h⟩⟩
  · exact ⟨0, _, _, fetch_at (a := PQ 0 k) (c := 0) (j := (k + 1) / 2) (by show 0 < 2; omega) (by show 0 < 2; omega) rfl (pq_free (by omega) (by omega) (by omega) (by omega)), .inr ⟨rfl, by omega⟩⟩
theorem pq_unpin {i k c q : Nat} (hc : c = i % 2) (hq : q = i / 2) (hi : i < k) (hk : k ≤ 12) : (PQ i k).run (c : Int) ⟨5, 0, (q : Int), 0, 0, []⟩ = (⟨0, 0, 0, []⟩, PQ (i + 1) k) := by
  have e := run_5 (a := PQ i k) (k := c) (o := ⟨5, 0, (q : Int), 0, 0, []⟩) (by show c < 2; omega) rfl
  have hh : (PQ i k).held (c : Int) (q : Int) = ((0 : Nat) : Int) := (held_in (a := PQ i k) (k := c) (j := q) (by show c < 2; omega) (by omega)).trans (pq_in (by omega))
  rw [PmU.onHand_good hh] at e
  refine e.trans ?_
  rw [Int.toNat_natCast]
  refine Prod.ext rfl (md_ext rfl rfl (fun p => rfl) (fun p => rfl) (fun x y => ?_))
  show (if x = c ∧ y = ((q : Int)).toNat then (-1 : Int) else (PQ i k).H x y) = (PQ (i + 1) k).H x y
  rw [Int.toNat_natCast]
  by_cases e : x = c ∧ y = q
  · rw [if_pos e, pq_out (by omega)]
  · rw [if_neg e]
    by_cases e2 : x < 2 ∧ i ≤ 2 * y + x ∧ 2 * y + x < k
    · rw [pq_in e2, pq_in (by omega)]
    · rw [pq_out e2, pq_out (by omega)]
theorem pq_pins_all : ∀ k, k < 13 → ∀ m, m < 13 → m ≤ k → (PQ m k).pins 0 = k - m := by decide
theorem pq_pins {m k : Nat} (hk : k ≤ 12) (hm : m ≤ k) : (PQ m k).pins 0 = k - m := pq_pins_all k (by omega) m (by omega) hm
theorem pq_del {m k : Nat} (hk : k ≤ 12) (hm : m ≤ k) : ∃ (c : Int) (U : Md), (PQ m k).run 1 ⟨8, 0, 0, 0, 0, []⟩ = (⟨c, 0, 0, []⟩, U) ∧ ((c = 0 ∧ k = m) ∨ (c = 7 ∧ k ≠ m)) := by
  have e := run_8 (a := PQ m k) (k := 1) (o := ⟨8, 0, 0, 0, 0, []⟩) (by show 1 < 2; omega) rfl
  have h := PmU.onPage_good (a := PQ m k) (f := (PQ m k).del) (p := 0) (by show 0 < 2; omega) rfl
  have hp := pq_pins hk hm
  by_cases hkm : k = m
  · refine ⟨0, (PQ m k).putT 0 false, e.trans (h.trans ?_), .inl ⟨rfl, hkm⟩⟩
    exact if_neg (by show ¬ 0 < (PQ m k).pins ((0 : Nat) : Int); rw [show (((0 : Nat) : Int)) = 0 from rfl, hp]; omega)
  · refine ⟨7, PQ m k, e.trans (h.trans ?_), .inr ⟨rfl, hkm⟩⟩
    exact if_pos (by show 0 < (PQ m k).pins ((0 : Nat) : Int); rw [show (((0 : Nat) : Int)) = 0 from rfl, hp]; omega)
end Go.Proofs.Yteiodnclpbjbbaa.Law13
