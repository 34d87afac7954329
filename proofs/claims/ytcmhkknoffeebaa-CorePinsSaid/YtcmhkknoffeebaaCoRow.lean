/-
  Cores in whose order the pages 0, 1, .. came one behind the other, each let go at once.
-/
import Derived.Test.YtcmhkknoffeebaaTold11
namespace Go.Proofs.Ytcmhkknoffeebaa.CoW
open Go.Proofs.Ytcmhkknoffeebaa.TabM Go.Proofs.Ytcmhkknoffeebaa.ArM Go.Proofs.Ytcmhkknoffeebaa.ListM Go.Proofs.Ytcmhkknoffeebaa.RingA Go.Proofs.Ytcmhkknoffeebaa.RingT Go.Proofs.Ytcmhkknoffeebaa.CoM Go.Proofs.Ytcmhkknoffeebaa.Told11

/-- j of k frames have the pages 0 to j - 1, let go; which are dirty. -/
structure CI (bit : Nat → Bool) (k j : Nat) (c : Co) : Prop where
  t : Tidy c
  n : c.a.n = k
  L : c.L = (List.range j).reverse
  T : c.T = []
  f : ∀ x, x < j → c.a.F x = ⟨1, (x : Int), 0, bit x⟩
  q : c.a.Q = (List.range k).drop j
theorem ci_zero (bit : Nat → Bool) {k : Nat} (hk : k ≤ 32) : CI bit k 0 (CoM.fresh k) := ⟨tidy_fresh hk, rfl, rfl, rfl, fun x hx => by omega, rfl⟩
/-- A free frame that is taken, as it stands then. -/
theorem takeF_at {c : Co} {p : Int} {f : Nat} {q : List Nat} (g : ArM.Good c.a) (hc : c.a.can p = true) (hq : c.a.Q = f :: q) : (c.takeF p f).a.n = c.a.n ∧ (c.takeF p f).a.Q = q ∧ ∀ x, (c.takeF p f).a.F x = if x = f then ⟨1, p, 1, false⟩ else c.a.F x := by
  obtain ⟨h1, _⟩ := g.head hq
  have e := take_eq hc hq
  have eF : (c.a.take p).F f = fUsed p := by rw [e]; exact TabM.upd_same _ _ _
  have e3 := pin_at (a := c.a.take p) (f := f) (by rw [e]; exact h1) (by rw [eF]; rfl) (by rw [eF]; show (0 : Int) < 1000; omega)
  have ea : (c.takeF p f).a = _ := e3.2
  rw [ea, e]
  refine ⟨rfl, rfl, fun x => ?_⟩
  show TabM.upd (TabM.upd c.a.F f (fUsed p)) f ⟨(TabM.upd c.a.F f (fUsed p) f).st, (TabM.upd c.a.F f (fUsed p) f).pg, (TabM.upd c.a.F f (fUsed p) f).pn + 1, (TabM.upd c.a.F f (fUsed p) f).di⟩ x = _
  rw [TabM.upd_same]
  by_cases ex : x = f
  · subst ex; rw [TabM.upd_same, if_pos rfl]; rfl
  · rw [TabM.upd_other _ _ ex, TabM.upd_other _ _ ex, if_neg ex]
theorem turn_at (a : Ar) (f : Nat) (v : Fr) (x : Nat) : (a.turn f v).F x = if x = f then v else a.F x := rfl
section
variable {bit : Nat → Bool} {k j : Nat} {c : Co}
theorem ci_none (h : CI bit k j c) {p : Int} (hp : ∀ x : Nat, x < j → p ≠ (x : Int)) : c.a.find p = -1 := find_none fun x hx hs e => by
  have hm := (h.t.m x).2 ⟨hx, hs⟩
  rw [h.L, List.mem_reverse, List.mem_range] at hm
  rw [h.f x hm] at e
  exact hp x hm e.symm
/-- A page comes, and is let go. -/
theorem ci_come (h : CI bit k j c) (hj : j < k) (hk : k ≤ 32) : (c.roomC (j : Int) = ⟨0, (j : Int), -1⟩ ∧ (c.room (j : Int)).a.unpinC (j : Int) = 0) ∧ Tidy ((c.room (j : Int)).unpin (j : Int)) ∧ CI (TabM.upd bit j false) k (j + 1) ((c.room (j : Int)).unpin (j : Int)) := by
  have ef := ci_none h (p := (j : Int)) fun x hx => by omega
  have hq : c.a.Q = j :: (List.range k).drop (j + 1) := by
    rw [h.q, List.drop_eq_getElem_cons (by simpa using hj), List.getElem_range]
  have hc := can_of (p := (j : Int)) (by omega) (by omega) ef
  have hr : c.roomC (j : Int) = ⟨0, (j : Int), -1⟩ ∧ c.room (j : Int) = c.takeF (j : Int) j := by
    unfold Co.roomC Co.room
    rw [if_neg (by omega), if_neg (by omega), if_neg (by omega), if_neg (by omega), hq]
    exact ⟨rfl, rfl⟩
  have ht : Tidy (c.takeF (j : Int) j) := h.t.takeF hc hq
  obtain ⟨a1, a2, a3⟩ := takeF_at h.t.g hc hq
  have h4 : (c.takeF (j : Int) j).a.F j = ⟨1, (j : Int), 1, false⟩ := by rw [a3, if_pos rfl]
  have e3 := unpin_at (a := (c.takeF (j : Int) j).a) (f := j) (by rw [a1, h.n]; exact hj) (by rw [h4]) (by rw [h4]; show (1 : Int) ≠ 0; omega)
  have hz : j ∉ c.L := by rw [h.L, List.mem_reverse, List.mem_range]; omega
  rw [hr.2]
  refine ⟨⟨hr.1, e3.1⟩, ht.unpin _, ht.unpin _, ?_, ?_, h.T, fun x hx => ?_, ?_⟩
  · show ((c.takeF (j : Int) j).a.unpin (j : Int)).n = k
    rw [e3.2]
    exact a1.trans h.n
  · show frontL 32 c.L (j : Int) = _
    rw [front_eq (by omega) hz, h.L, List.range_succ, List.reverse_append]
    rfl
  · show ((c.takeF (j : Int) j).a.unpin (j : Int)).F x = _
    rw [e3.2, turn_at, h4]
    by_cases ex : x = j
    · subst ex
      rw [if_pos rfl, TabM.upd_same]
      rfl
    · rw [if_neg ex, a3, if_neg ex, h.f x (by omega), TabM.upd_other _ _ ex]
  · show ((c.takeF (j : Int) j).a.unpin (j : Int)).Q = _
    rw [e3.2]
    exact a2
theorem ci_bit (h : CI bit k j c) {bit' : Nat → Bool} (hb : ∀ x, x < j → bit x = bit' x) : CI bit' k j c := ⟨h.t, h.n, h.L, h.T, fun x hx => by rw [h.f x hx, hb x hx], h.q⟩
theorem ci_used (h : CI bit k j c) {x : Nat} (hx : x < j) : x < c.a.n ∧ (c.a.F x).st = 1 := (h.t.m x).1 (by rw [h.L, List.mem_reverse, List.mem_range]; exact hx)
theorem ci_mark (h : CI bit k j c) {x : Nat} (hx : x < j) (b : Bool) : c.a.markC (x : Int) = 0 ∧ CI (TabM.upd bit x b) k j (c.mark (x : Int) b) := by
  obtain ⟨h1, h2⟩ := ci_used h hx
  have e3 := mark_at h1 h2 b
  refine ⟨e3.1, h.t.mark _ _, ?_, h.L, h.T, fun y hy => ?_, ?_⟩
  · show (c.a.mark (x : Int) b).n = k
    rw [e3.2]
    exact h.n
  · show (c.a.mark (x : Int) b).F y = _
    rw [e3.2, turn_at]
    by_cases ey : y = x
    · subst ey
      rw [if_pos rfl, TabM.upd_same, h.f y hy]
    · rw [if_neg ey, TabM.upd_other _ _ ey, h.f y hy]
  · show (c.a.mark (x : Int) b).Q = _
    rw [e3.2]
    exact h.q
theorem drain_none (h : c.T = []) : c.drain = c := by
  obtain ⟨a, L, T, P⟩ := c
  have h : T = [] := h
  subst h
  rfl
theorem ci_q (h : CI bit k k c) : c.a.Q = [] := by rw [h.q]; exact List.drop_of_length_le (by simp)
/-- When all frames have pages, the page 0 goes first. -/
theorem ci_victim (h : CI bit k k c) (hk : 1 ≤ k) : c.victim = some 0 := by
  unfold Co.victim
  rw [h.L, List.reverse_reverse]
  obtain ⟨m, rfl⟩ : ∃ m, k = m + 1 := ⟨k - 1, by omega⟩
  rw [List.range_succ_eq_map]
  refine List.find?_cons_of_pos ?_
  unfold free
  rw [h.f 0 (by omega)]
  rfl
theorem ci_room (h : CI bit k k c) (hk : 1 ≤ k) {p : Int} (hp : (k : Int) ≤ p) (hp2 : p < 48) : c.roomC p = (if bit 0 = true then ⟨12, 0, 0⟩ else ⟨0, 0, 0⟩) ∧ c.room p = if bit 0 = true then c else (c.drop 0).takeF p 0 := by
  have ef := ci_none h (p := p) fun x hx => by omega
  have hd := drain_none h.T
  have hv := ci_victim h hk
  have h1 : ¬ (c.a.find p ≠ -1) := by omega
  have h2 : ¬ (p < 0 ∨ 48 ≤ p) := by omega
  unfold Co.roomC Co.room
  rw [if_neg h1, if_neg h1, if_neg h2, if_neg h2, ci_q h]
  dsimp only
  rw [hd]
  unfold Co.replC Co.repl
  rw [hv]
  dsimp only
  rw [h.f 0 (by omega)]
  exact ⟨rfl, rfl⟩
theorem ci_last (h : CI bit k k c) (hk : 1 ≤ k) {p : Int} (hp : (k : Int) ≤ p) (hp2 : p < 48) (hb : bit 0 = false) : c.roomC p = ⟨0, 0, 0⟩ ∧ (c.room p).hitC 0 = -1 ∧ (c.room p).hit 0 = c.room p ∧ (c.room p).hitC p = 0 ∧ Tidy (c.room p) := by
  obtain ⟨r1, r2⟩ := ci_room h hk hp hp2
  rw [if_neg (by rw [hb]; simp)] at r1 r2
  have ht := h.t.room p
  have ef := ci_none h (p := p) fun x hx => by omega
  have hm : (0 : Nat) ∈ c.L := by rw [h.L, List.mem_reverse, List.mem_range]; omega
  have hpn : (c.a.F 0).pn ≤ 0 := by rw [h.f 0 (by omega)]; exact Int.le_refl 0
  obtain ⟨d1, d2, d3⟩ := h.t.freed (ci_q h) hm hpn (can_of (by omega) hp2 ef)
  obtain ⟨_, d4, _⟩ := h.t.drop hm hpn
  obtain ⟨a1, _, a3⟩ := takeF_at d1.g d2 d3
  have hn : ((c.drop 0).takeF p 0).a.n = k := by rw [a1, d4]; exact h.n
  have hF : ∀ x, ((c.drop 0).takeF p 0).a.F x = if x = 0 then ⟨1, p, 1, false⟩ else c.a.F x := fun x => by
    rw [a3]
    by_cases ex : x = 0
    · rw [if_pos ex, if_pos ex]
    · rw [if_neg ex, if_neg ex, d4]
      exact TabM.upd_other _ _ ex
  have hF0 : ((c.drop 0).takeF p 0).a.F 0 = ⟨1, p, 1, false⟩ := by rw [hF, if_pos rfl]
  have f0 : (c.room p).a.find 0 = -1 := by
    rw [r2]
    refine find_none fun x hx hs e => ?_
    rw [hn] at hx
    rw [hF] at e
    by_cases ex : x = 0
    · rw [if_pos ex] at e
      have e : p = 0 := e
      omega
    · rw [if_neg ex, h.f x hx] at e
      have e : (x : Int) = 0 := e
      omega
  have fp : (c.room p).a.find p = ((0 : Nat) : Int) := by
    refine find_at ht.g ?_ ?_ ?_
    · rw [r2, hn]; omega
    · rw [r2, hF0]
    · rw [r2, hF0]
  have hu : (c.room p).a.pinC (-1) = 2 := by unfold Ar.pinC; rw [used_neg]; rfl
  have e3 := pin_at (a := (c.room p).a) (f := 0) (by rw [r2, hn]; omega) (by rw [r2, hF0]) (by rw [r2, hF0]; show (1 : Int) < 1000; omega)
  refine ⟨r1, ?_, ?_, ?_, ht⟩
  · unfold Co.hitC
    rw [f0, hu]
    rfl
  · unfold Co.hit
    rw [f0, hu]
    rfl
  · unfold Co.hitC
    rw [fp, if_pos e3.1]
    rfl
end
#print axioms ci_last
end Go.Proofs.Ytcmhkknoffeebaa.CoW
