/-
  What Room does, way by way, on a core none of whose frames is retired.
-/
import Derived.Test.YtcmhkknoffeebaaCoRow
namespace Go.Proofs.Ytcmhkknoffeebaa.CoV
open Go.Proofs.Ytcmhkknoffeebaa.TabM Go.Proofs.Ytcmhkknoffeebaa.ArM Go.Proofs.Ytcmhkknoffeebaa.ListM Go.Proofs.Ytcmhkknoffeebaa.RingA Go.Proofs.Ytcmhkknoffeebaa.RingT Go.Proofs.Ytcmhkknoffeebaa.CoM Go.Proofs.Ytcmhkknoffeebaa.CoW Go.Proofs.Ytcmhkknoffeebaa.Told11

def isF (a : Ar) (x : Nat) : Bool := decide ((a.F x).st = 0)
def pinF (a : Ar) (x : Nat) : Bool := decide (0 < (a.F x).pn)
/-- k frames, each free or used. -/
structure PT (k : Nat) (c : Co) : Prop where
  t : Tidy c
  n : c.a.n = k
  s : ∀ x, x < k → (c.a.F x).st = 0 ∨ (c.a.F x).st = 1
section
variable {k : Nat} {c : Co} {p : Int}
theorem pt_zero (hk : k ≤ 32) : PT k (CoM.fresh k) := ⟨tidy_fresh hk, rfl, fun _ _ => .inl rfl⟩
theorem pt_like (h : PT k c) {c' : Co} (ht : Tidy c') (hl : Like c.a c'.a) : PT k c' := ⟨ht, by rw [hl.1, h.n], fun x hx => by rw [(hl.2.2 x).1]; exact h.s x hx⟩
theorem pt_hit (h : PT k c) (p : Int) : PT k (c.hit p) := pt_like h (h.t.hit p) (by
  unfold Co.hit
  split
  · exact like_pin _ _
  · exact like_refl _)
theorem pt_unpin (h : PT k c) (f : Int) : PT k (c.unpin f) := pt_like h (h.t.unpin f) (like_unpin _ _)
theorem pt_mark (h : PT k c) (f : Int) (d : Bool) : PT k (c.mark f d) := pt_like h (h.t.mark f d) (like_mark _ _ _)
/-- Frames but for one that is used now by page p. -/
theorem pt_one (h : PT k c) {c' : Co} {f : Nat} (ht : Tidy c') (hn : c'.a.n = k) (hF : ∀ x, c'.a.F x = if x = f then ⟨1, p, 1, false⟩ else c.a.F x) : PT k c' := ⟨ht, hn, fun x hx => by
  rw [hF]
  by_cases ex : x = f
  · rw [if_pos ex]; exact .inr rfl
  · rw [if_neg ex]; exact h.s x hx⟩
/-- What Room answers, and what stands behind it. -/
inductive Way (k : Nat) (c : Co) (p : Int) : Prop where
  | held (hc : c.roomC p = ⟨13, -1, -1⟩) (hf : 0 ≤ (c.room p).a.find p)
  | new (f : Nat) (hf : f < k) (hc : c.roomC p = ⟨0, (f : Int), -1⟩) (hF : (c.room p).a.F f = ⟨1, p, 1, false⟩)
  | full (hc : c.roomC p = ⟨8, -1, -1⟩) (h0 : cnt (isF c.a) k = 0) (hp : cnt (pinF c.a) k = k)
  | dirty (f : Nat) (hf : f < k) (hc : c.roomC p = ⟨12, (f : Int), (c.a.F f).pg⟩) (hd : (c.a.F f).di = true) (hp : (c.a.F f).pn ≤ 0) (h0 : cnt (isF c.a) k = 0)
  | old (f : Nat) (hf : f < k) (hc : c.roomC p = ⟨0, (f : Int), (c.a.F f).pg⟩) (hg : 0 ≤ (c.a.F f).pg) (hd : (c.a.F f).di = false) (hp : (c.a.F f).pn ≤ 0) (h0 : cnt (isF c.a) k = 0) (hF : (c.room p).a.F f = ⟨1, p, 1, false⟩)
theorem ways (h : PT k c) (p0 : 0 ≤ p) (p1 : p < 48) : PT k (c.room p) ∧ (∀ x, x < k → 0 < (c.a.F x).pn → (c.room p).a.F x = c.a.F x) ∧ Way k c p := by
  have hgd := h.t.g
  by_cases h1 : c.a.find p ≠ -1
  · have e : c.roomC p = ⟨13, -1, -1⟩ ∧ c.room p = c := by
      unfold Co.roomC Co.room
      rw [if_pos h1, if_pos h1]
      exact ⟨rfl, rfl⟩
    rw [e.2]
    refine ⟨h, fun _ _ _ => rfl, .held e.1 ?_⟩
    rw [e.2]
    obtain ⟨f, e2, _⟩ := find_neg h1
    omega
  · have h2 : ¬ (p < 0 ∨ 48 ≤ p) := by omega
    have hcan : c.a.can p = true := can_of p0 p1 (by omega)
    cases hq : c.a.Q with
    | cons f q =>
      have e : c.roomC p = ⟨0, (f : Int), -1⟩ ∧ c.room p = c.takeF p f := by
        unfold Co.roomC Co.room
        rw [if_neg h1, if_neg h1, if_neg h2, if_neg h2, hq]
        exact ⟨rfl, rfl⟩
      obtain ⟨hf, hs, _⟩ := hgd.head hq
      obtain ⟨a1, _, a3⟩ := takeF_at hgd hcan hq
      have hfk : f < k := by rw [← h.n]; exact hf
      rw [e.2]
      refine ⟨pt_one h (h.t.takeF hcan hq) (by rw [a1, h.n]) a3, fun x hx hp => ?_, .new f hfk e.1 (by rw [e.2, a3, if_pos rfl])⟩
      rw [a3, if_neg]
      intro ex
      subst ex
      have := (hgd.rest x hf (by omega)).2.1
      omega
    | nil =>
      have e : c.roomC p = c.drain.replC ∧ c.room p = c.drain.repl p := by
        unfold Co.roomC Co.room
        rw [if_neg h1, if_neg h1, if_neg h2, if_neg h2, hq]
        exact ⟨rfl, rfl⟩
      have h0 : cnt (isF c.a) k = 0 := by
        have := hgd.free
        rw [hq, h.n] at this
        exact this.symm
      have hd : PT k c.drain := ⟨h.t.drain, h.n, h.s⟩
      have hst : ∀ x, x < k → (c.a.F x).st = 1 := fun x hx => by
        rcases h.s x hx with e | e
        · have := cnt_zero h0 hx
          unfold isF at this
          rw [decide_eq_true e] at this
          cases this
        · exact e
      cases hv : c.drain.victim with
      | none =>
        have e2 : c.drain.replC = ⟨8, -1, -1⟩ ∧ c.drain.repl p = c.drain := by
          unfold Co.replC Co.repl
          rw [hv]
          exact ⟨rfl, rfl⟩
        rw [e2.1, e2.2] at e
        rw [e.2]
        refine ⟨hd, fun _ _ _ => rfl, .full e.1 h0 (cnt_all fun x hx => ?_)⟩
        unfold pinF
        exact decide_eq_true (victim_none (c := c.drain) hv ((hd.t.m x).2 ⟨by rw [hd.n]; exact hx, hst x hx⟩))
      | some f =>
        obtain ⟨hfm, hfp⟩ := victim_some hv
        obtain ⟨hfn, hfs⟩ := (hd.t.m f).1 hfm
        have hfk : f < k := by rw [← hd.n]; exact hfn
        have hfp : (c.a.F f).pn ≤ 0 := hfp
        have hfn : f < c.a.n := hfn
        have hfs : (c.a.F f).st = 1 := hfs
        have e2 : c.drain.replC = (if (c.a.F f).di = true then ⟨12, (f : Int), (c.a.F f).pg⟩ else ⟨0, (f : Int), (c.a.F f).pg⟩) ∧ c.drain.repl p = if (c.a.F f).di = true then c.drain else (c.drain.drop f).takeF p f := by
          unfold Co.replC Co.repl
          rw [hv]
          exact ⟨rfl, rfl⟩
        cases hdi : (c.a.F f).di with
        | true =>
          rw [if_pos hdi, if_pos hdi] at e2
          rw [e2.1, e2.2] at e
          rw [e.2]
          exact ⟨hd, fun _ _ _ => rfl, .dirty f hfk e.1 hdi hfp h0⟩
        | false =>
          rw [if_neg (by rw [hdi]; simp), if_neg (by rw [hdi]; simp)] at e2
          rw [e2.1, e2.2] at e
          obtain ⟨d1, d2, d3⟩ := hd.t.freed (p := p) hq hfm hfp hcan
          obtain ⟨_, d4, _⟩ := hd.t.drop hfm hfp
          obtain ⟨a1, _, a3⟩ := takeF_at d1.g d2 d3
          have hF : ∀ x, ((c.drain.drop f).takeF p f).a.F x = if x = f then ⟨1, p, 1, false⟩ else c.a.F x := fun x => by
            rw [a3]
            by_cases ex : x = f
            · rw [if_pos ex, if_pos ex]
            · rw [if_neg ex, if_neg ex, d4]
              exact TabM.upd_other _ _ ex
          rw [e.2]
          refine ⟨pt_one h (d1.takeF d2 d3) (by rw [a1, d4]; exact h.n) hF, fun x hx hp => ?_, .old f hfk e.1 (hgd.use f hfn hfs).1 hdi hfp h0 (by rw [e.2, hF, if_pos rfl])⟩
          rw [hF, if_neg]
          intro ex
          subst ex
          omega
end
#print axioms ways
end Go.Proofs.Ytcmhkknoffeebaa.CoV
