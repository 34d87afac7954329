/-
  Frames as mathematics (chapter 10): states, pages, pins, bodies, the queue of who is free; what Take, Drop, Add, Retire and the like make of them; no program is named here.
-/
import Derived.Test.YtcmhkknoffeebaaTabMath
import Derived.Test.YtcmhkknoffeebaaListMath
namespace Go.Proofs.Ytcmhkknoffeebaa.ArM
open Go.Proofs.Ytcmhkknoffeebaa.TabM

/-! ### The first place that has a property -/
def seek (p : Nat → Bool) : Nat → Nat → Nat
  | 0, i => i
  | g + 1, i => if p i = true then i else seek p g (i + 1)
def least (p : Nat → Bool) (n : Nat) : Nat := seek p n 0
section
variable {p q : Nat → Bool} {g i j n : Nat}
theorem seek_le : seek p g i ≤ i + g := by
  induction g generalizing i with
  | zero => exact Nat.le_refl _
  | succ g ih =>
    unfold seek
    split
    · omega
    · have := ih (i := i + 1); omega
theorem seek_hit (h : seek p g i < i + g) : p (seek p g i) = true := by
  induction g generalizing i with
  | zero => exact absurd h (by unfold seek; omega)
  | succ g ih =>
    unfold seek at h ⊢
    split
    · next e => exact e
    · next e => rw [if_neg e] at h; exact ih (by omega)
theorem seek_eq (hi : i ≤ j) (hj : j < i + g) (hp : p j = true) (hn : ∀ k, i ≤ k → k < j → p k = false) : seek p g i = j := by
  induction g generalizing i with
  | zero => omega
  | succ g ih =>
    unfold seek
    by_cases e : i = j
    · subst e; rw [if_pos hp]
    · rw [if_neg (by rw [hn i (Nat.le_refl _) (by omega)]; simp)]
      exact ih (by omega) (by omega) fun k h1 h2 => hn k (by omega) h2
theorem seek_all (hn : ∀ k, i ≤ k → k < i + g → p k = false) : seek p g i = i + g := by
  induction g generalizing i with
  | zero => rfl
  | succ g ih =>
    unfold seek
    rw [if_neg (by rw [hn i (Nat.le_refl _) (by omega)]; simp), ih fun k h1 h2 => hn k (by omega) (by omega)]
    omega
theorem least_le : least p n ≤ n := by have := seek_le (p := p) (g := n) (i := 0); unfold least; omega
theorem least_hit (h : least p n < n) : p (least p n) = true := seek_hit (by unfold least at h; omega)
theorem least_eq (hj : j < n) (hp : p j = true) (hn : ∀ k, k < j → p k = false) : least p n = j := seek_eq (Nat.zero_le _) (by omega) hp fun k _ h => hn k h
theorem least_all (hn : ∀ k, k < n → p k = false) : least p n = n := by
  have := seek_all (p := p) (g := n) (i := 0) fun k _ h => hn k (by omega)
  unfold least; omega
theorem len_cnt : ∀ {Q : List Nat} {p : Nat → Bool}, Q.Nodup → (∀ x, x ∈ Q ↔ x < n ∧ p x = true) → Q.length = cnt p n
  | [], p, _, h => by
    rw [cnt_none fun j hj => ?_]; rfl
    cases e : p j with
    | false => rfl
    | true => exact absurd ((h j).2 ⟨hj, e⟩) (by simp)
  | x :: q, p, hn, h => by
    have hx := (h x).1 (by simp)
    have hn' := List.nodup_cons.1 hn
    have h1 := cnt_off (f := p) hx.1 hx.2
    have h2 := len_cnt (Q := q) (p := upd p x false) hn'.2 fun y => by
      by_cases e : y = x
      · subst e
        rw [upd_same]
        exact ⟨fun hy => absurd hy hn'.1, fun hy => by cases hy.2⟩
      · rw [upd_other _ _ e, ← h y]
        simp [e]
    rw [List.length_cons, h2]
    exact h1
end

/-! ### Frames -/
structure Fr where
  st : Int
  pg : Int
  pn : Int
  di : Bool
def fFree : Fr := ⟨0, -1, 0, false⟩
def fGone : Fr := ⟨4, -1, 0, false⟩
def fUsed (p : Int) : Fr := ⟨1, p, 0, false⟩
def zeros : List Int := List.replicate 16 0
/-- n frames; as they stand; their bodies; who is free, the one that was free longest first. -/
structure Ar where
  n : Nat
  F : Nat → Fr
  B : Nat → List Int
  Q : List Nat
def fresh (n : Nat) : Ar := ⟨n, fun _ => fFree, fun _ => zeros, List.range n⟩
def isU (a : Ar) (i : Nat) : Bool := decide ((a.F i).st = 1)
def isP (a : Ar) (p : Int) (i : Nat) : Bool := decide ((a.F i).st = 1) && decide ((a.F i).pg = p)
def isG (a : Ar) (i : Nat) : Bool := decide ((a.F i).st = 4)
def Ar.find (a : Ar) (p : Int) : Int := if least (isP a p) a.n < a.n then ((least (isP a p) a.n : Nat) : Int) else -1
def Ar.used (a : Ar) (f : Int) : Bool := decide (0 ≤ f) && decide (f < (a.n : Int)) && decide ((a.F f.toNat).st = 1)
def Ar.spare (a : Ar) : Nat := least (isG a) a.n
def Ar.turn (a : Ar) (f : Nat) (v : Fr) : Ar := ⟨a.n, upd a.F f v, a.B, a.Q⟩
def Ar.can (a : Ar) (p : Int) : Bool := decide (0 ≤ p) && decide (p < 48) && decide (a.find p < 0)
def Ar.takeC (a : Ar) (p : Int) : Int := if a.can p = true then ListM.first a.Q else -1
def Ar.takeF (a : Ar) (p : Int) : List Nat → Ar
  | [] => a
  | f :: q => ⟨a.n, upd a.F f (fUsed p), upd a.B f zeros, q⟩
def Ar.take (a : Ar) (p : Int) : Ar := if a.can p = true then a.takeF p a.Q else a
def Ar.pinC (a : Ar) (f : Int) : Int := if a.used f = true then (if 1000 ≤ (a.F f.toNat).pn then 12 else 0) else 2
def Ar.pin (a : Ar) (f : Int) : Ar := if a.pinC f = 0 then a.turn f.toNat ⟨(a.F f.toNat).st, (a.F f.toNat).pg, (a.F f.toNat).pn + 1, (a.F f.toNat).di⟩ else a
def Ar.unpinC (a : Ar) (f : Int) : Int := if a.used f = true then (if (a.F f.toNat).pn = 0 then 12 else 0) else 2
def Ar.unpin (a : Ar) (f : Int) : Ar := if a.unpinC f = 0 then a.turn f.toNat ⟨(a.F f.toNat).st, (a.F f.toNat).pg, (a.F f.toNat).pn - 1, (a.F f.toNat).di⟩ else a
def Ar.markC (a : Ar) (f : Int) : Int := if a.used f = true then 0 else 2
def Ar.mark (a : Ar) (f : Int) (d : Bool) : Ar := if a.used f = true then a.turn f.toNat ⟨(a.F f.toNat).st, (a.F f.toNat).pg, (a.F f.toNat).pn, d⟩ else a
def splice (b : List Int) (o : Nat) (zs : List Int) : List Int := b.take o ++ (zs ++ b.drop (o + zs.length))
def Ar.setC (a : Ar) (f off : Int) (zs : List Int) : Int := if a.used f = true then (if 0 ≤ off ∧ off + (zs.length : Int) ≤ 16 then 0 else 6) else 2
def Ar.set (a : Ar) (f off : Int) (zs : List Int) : Ar := if a.setC f off zs = 0 then ⟨a.n, upd a.F f.toNat ⟨(a.F f.toNat).st, (a.F f.toNat).pg, (a.F f.toNat).pn, true⟩, upd a.B f.toNat (splice (a.B f.toNat) off.toNat zs), a.Q⟩ else a
def Ar.dropC (a : Ar) (f : Int) : Int := if a.used f = true then (if 0 < (a.F f.toNat).pn then 7 else 0) else 2
def Ar.dropF (a : Ar) (f : Nat) : Ar := ⟨a.n, upd a.F f fFree, a.B, a.Q ++ [f]⟩
def Ar.drop (a : Ar) (f : Int) : Ar := if a.dropC f = 0 then a.dropF f.toNat else a
def Ar.addC (a : Ar) : Int := if a.spare < 32 then (a.spare : Int) else -1
def Ar.addF (a : Ar) (f : Nat) : Ar := ⟨if f < a.n then a.n else f + 1, upd a.F f fFree, a.B, a.Q ++ [f]⟩
def Ar.add (a : Ar) : Ar := if a.spare < 32 then a.addF a.spare else a
def Ar.retF (a : Ar) : List Nat → Ar
  | [] => a
  | f :: q => ⟨a.n, upd a.F f fGone, a.B, q⟩
def Ar.ret (a : Ar) : Ar := a.retF a.Q

structure Good (a : Ar) : Prop where
  n : a.n ≤ 32
  nd : a.Q.Nodup
  q : ∀ x, x ∈ a.Q ↔ x < a.n ∧ (a.F x).st = 0
  st : ∀ x, x < a.n → (a.F x).st = 0 ∨ (a.F x).st = 1 ∨ (a.F x).st = 4
  rest : ∀ x, x < a.n → (a.F x).st ≠ 1 → (a.F x).pg = -1 ∧ (a.F x).pn = 0 ∧ (a.F x).di = false
  use : ∀ x, x < a.n → (a.F x).st = 1 → 0 ≤ (a.F x).pg ∧ (a.F x).pg < 48 ∧ 0 ≤ (a.F x).pn ∧ (a.F x).pn ≤ 1000
  uq : ∀ i j, i < a.n → j < a.n → (a.F i).st = 1 → (a.F j).st = 1 → (a.F i).pg = (a.F j).pg → i = j
  b : ∀ x, (a.B x).length = 16

def OkF (a : Ar) (f : Nat) (v : Fr) : Prop :=
  (v.st = 1 ∧ 0 ≤ v.pg ∧ v.pg < 48 ∧ 0 ≤ v.pn ∧ v.pn ≤ 1000 ∧ ∀ i, i < a.n → i ≠ f → (a.F i).st = 1 → (a.F i).pg ≠ v.pg) ∨ ((v.st = 0 ∨ v.st = 4) ∧ v.pg = -1 ∧ v.pn = 0 ∧ v.di = false)

section
variable {a : Ar} {f x : Nat} {p k : Int} {q : List Nat} {v : Fr}
theorem Good.put (h : Good a) (hf : f < a.n) {Q' : List Nat} {B' : Nat → List Int} (hv : OkF a f v) (hq : Q'.Nodup) (hm : ∀ x, x ∈ Q' ↔ x < a.n ∧ (upd a.F f v x).st = 0) (hb : ∀ x, (B' x).length = 16) : Good ⟨a.n, upd a.F f v, B', Q'⟩ := by
  refine ⟨h.n, hq, hm, fun x hx => ?_, fun x hx hs => ?_, fun x hx hs => ?_, fun i j hi hj si sj e => ?_, hb⟩
  · change (upd a.F f v x).st = 0 ∨ (upd a.F f v x).st = 1 ∨ (upd a.F f v x).st = 4
    by_cases e : x = f
    · subst e
      rw [upd_same]
      rcases hv with hv | ⟨hv | hv, _⟩
      · exact .inr (.inl hv.1)
      · exact .inl hv
      · exact .inr (.inr hv)
    · rw [upd_other _ _ e]; exact h.st x hx
  · change (upd a.F f v x).st ≠ 1 at hs
    change (upd a.F f v x).pg = -1 ∧ (upd a.F f v x).pn = 0 ∧ (upd a.F f v x).di = false
    by_cases e : x = f
    · subst e
      rw [upd_same] at hs ⊢
      rcases hv with hv | hv
      · exact absurd hv.1 hs
      · exact hv.2
    · rw [upd_other _ _ e] at hs ⊢; exact h.rest x hx hs
  · change (upd a.F f v x).st = 1 at hs
    change 0 ≤ (upd a.F f v x).pg ∧ (upd a.F f v x).pg < 48 ∧ 0 ≤ (upd a.F f v x).pn ∧ (upd a.F f v x).pn ≤ 1000
    by_cases e : x = f
    · subst e
      rw [upd_same] at hs ⊢
      rcases hv with hv | hv
      · exact ⟨hv.2.1, hv.2.2.1, hv.2.2.2.1, hv.2.2.2.2.1⟩
      · omega
    · rw [upd_other _ _ e] at hs ⊢; exact h.use x hx hs
  · change (upd a.F f v i).st = 1 at si
    change (upd a.F f v j).st = 1 at sj
    change (upd a.F f v i).pg = (upd a.F f v j).pg at e
    by_cases ei : i = f
    · by_cases ej : j = f
      · omega
      · subst ei
        rw [upd_same] at si e
        rw [upd_other _ _ ej] at sj e
        rcases hv with hv | hv
        · exact absurd e.symm (hv.2.2.2.2.2 j hj ej sj)
        · omega
    · by_cases ej : j = f
      · subst ej
        rw [upd_same] at sj e
        rw [upd_other _ _ ei] at si e
        rcases hv with hv | hv
        · exact absurd e (hv.2.2.2.2.2 i hi ei si)
        · omega
      · rw [upd_other _ _ ei] at si e
        rw [upd_other _ _ ej] at sj e
        exact h.uq i j hi hj si sj e

/-! what is found -/
theorem isP_iff {i : Nat} : isP a p i = true ↔ (a.F i).st = 1 ∧ (a.F i).pg = p := by simp [isP]
theorem find_at (h : Good a) (hx : x < a.n) (hs : (a.F x).st = 1) (hp : (a.F x).pg = p) : a.find p = (x : Int) := by
  have e : least (isP a p) a.n = x := least_eq hx (isP_iff.2 ⟨hs, hp⟩) fun k hk => by
    cases e : isP a p k with
    | false => rfl
    | true =>
      have := isP_iff.1 e
      have := h.uq k x (by omega) hx this.1 hs (by omega)
      omega
  unfold Ar.find
  rw [e, if_pos hx]
theorem find_none (hx : ∀ x, x < a.n → (a.F x).st = 1 → (a.F x).pg ≠ p) : a.find p = -1 := by
  have e : least (isP a p) a.n = a.n := least_all fun k hk => by
    cases e : isP a p k with
    | false => rfl
    | true =>
      have := isP_iff.1 e
      exact absurd this.2 (hx k hk this.1)
  unfold Ar.find
  rw [e, if_neg (by omega)]
theorem find_cases (a : Ar) (p : Int) : (a.find p = -1 ∧ ∀ x, x < a.n → (a.F x).st = 1 → (a.F x).pg ≠ p) ∨ ∃ x, x < a.n ∧ (a.F x).st = 1 ∧ (a.F x).pg = p ∧ a.find p = (x : Int) := by
  by_cases h : least (isP a p) a.n < a.n
  · have := isP_iff.1 (least_hit h)
    refine .inr ⟨_, h, this.1, this.2, ?_⟩
    unfold Ar.find
    rw [if_pos h]
  · refine .inl ⟨?_, fun x hx hs hp => h ?_⟩
    · unfold Ar.find
      rw [if_neg h]
    · have h2 : least (isP a p) a.n = a.n := by have := least_le (p := isP a p) (n := a.n); omega
      rcases Nat.lt_or_ge (least (isP a p) a.n) a.n with h3 | h3
      · exact h3
      · exfalso
        have key : ∀ g i, i ≤ x → x < i + g → seek (isP a p) g i ≤ x := by
          intro g
          induction g with
          | zero => intro i h1 h2; omega
          | succ g ih =>
            intro i h1 h2
            unfold seek
            split
            · exact h1
            · next e =>
              have : i ≠ x := fun e' => by subst e'; exact e (isP_iff.2 ⟨hs, hp⟩)
              exact ih (i + 1) (by omega) (by omega)
        have := key a.n 0 (Nat.zero_le _) (by omega)
        unfold least at h3
        omega
theorem used_iff : a.used k = true ↔ ∃ f : Nat, k = (f : Int) ∧ f < a.n ∧ (a.F f).st = 1 := by
  unfold Ar.used
  simp only [Bool.and_eq_true, decide_eq_true_eq]
  constructor
  · rintro ⟨⟨h0, h1⟩, h2⟩
    exact ⟨k.toNat, by omega, by omega, h2⟩
  · rintro ⟨f, rfl, h1, h2⟩
    exact ⟨⟨by omega, by omega⟩, by rw [Int.toNat_natCast]; exact h2⟩
theorem Good.empty (h : Good a) (h0 : a.n = 0) : a.Q = [] := by
  cases e : a.Q with
  | nil => rfl
  | cons x q => have := (h.q x).1 (by rw [e]; simp); omega
theorem Good.free (h : Good a) : a.Q.length = cnt (fun i => decide ((a.F i).st = 0)) a.n := len_cnt h.nd fun x => by rw [h.q x]; simp
theorem Good.head (h : Good a) (e : a.Q = f :: q) : f < a.n ∧ (a.F f).st = 0 ∧ f ∉ q ∧ q.Nodup := by
  have h1 := (h.q f).1 (by rw [e]; simp)
  have h2 := h.nd
  rw [e] at h2
  exact ⟨h1.1, h1.2, List.nodup_cons.1 h2⟩

/-! ### What stays good -/
theorem good_fresh {n : Nat} (h : n ≤ 32) : Good (fresh n) :=
  ⟨h, List.nodup_range, fun x => by simp [fresh, fFree], fun _ _ => .inl rfl, fun _ _ _ => ⟨rfl, rfl, rfl⟩, fun _ _ h => by have h : (0 : Int) = 1 := h; omega, fun _ _ _ _ h => by have h : (0 : Int) = 1 := h; omega, fun _ => rfl⟩
/-- A frame whose state is as it was. -/
theorem Good.turn (h : Good a) (hf : f < a.n) {B' : Nat → List Int} (hs : (a.F f).st = 1) (hv : v.st = 1) (hp : v.pg = (a.F f).pg) (hn : 0 ≤ v.pn ∧ v.pn ≤ 1000) (hb : ∀ x, (B' x).length = 16) : Good ⟨a.n, upd a.F f v, B', a.Q⟩ := by
  have hu := h.use f hf hs
  refine h.put hf (.inl ⟨hv, by omega, by omega, hn.1, hn.2, fun i hi hne si e => hne (h.uq i f hi hf si hs (by omega))⟩) h.nd (fun x => ?_) hb
  rw [h.q x]
  by_cases e : x = f
  · subst e; rw [upd_same, hs, hv]
  · rw [upd_other _ _ e]
theorem Good.takeF (h : Good a) (hc : a.can p = true) (e : a.Q = f :: q) : Good ⟨a.n, upd a.F f (fUsed p), upd a.B f zeros, q⟩ := by
  obtain ⟨h1, h2, h3, h4⟩ := h.head e
  simp only [Ar.can, Bool.and_eq_true, decide_eq_true_eq] at hc
  refine h.put h1 (.inl ⟨rfl, hc.1.1, hc.1.2, Int.le_refl _, by show (0 : Int) ≤ 1000; omega, fun i hi hne si e => ?_⟩) h4 (fun x => ?_) (fun x => ?_)
  · have e : (a.F i).pg = p := e
    have := find_at h hi si e
    omega
  · by_cases ex : x = f
    · subst ex
      rw [upd_same]
      exact ⟨fun hx => absurd hx h3, fun hx => by have : (1 : Int) = 0 := hx.2; omega⟩
    · rw [upd_other _ _ ex, ← h.q x, e]
      simp [ex]
  · by_cases ex : x = f
    · subst ex; rw [upd_same]; rfl
    · rw [upd_other _ _ ex]; exact h.b x
theorem Good.take (h : Good a) (p : Int) : Good (a.take p) := by
  unfold Ar.take
  split
  · next hc =>
    cases e : a.Q with
    | nil => exact h
    | cons f q => exact h.takeF hc e
  · exact h
theorem Good.pin (h : Good a) (k : Int) : Good (a.pin k) := by
  unfold Ar.pin
  split
  · next hc =>
    unfold Ar.pinC at hc
    by_cases hu : a.used k = true
    · rw [if_pos hu] at hc
      obtain ⟨f, rfl, hf, hs⟩ := used_iff.1 hu
      rw [Int.toNat_natCast] at hc ⊢
      have := h.use f hf hs
      split at hc
      · omega
      · exact h.turn hf hs hs rfl ⟨by show 0 ≤ (a.F f).pn + 1; omega, by show (a.F f).pn + 1 ≤ 1000; omega⟩ h.b
    · rw [if_neg hu] at hc; omega
  · exact h
theorem Good.unpin (h : Good a) (k : Int) : Good (a.unpin k) := by
  unfold Ar.unpin
  split
  · next hc =>
    unfold Ar.unpinC at hc
    by_cases hu : a.used k = true
    · rw [if_pos hu] at hc
      obtain ⟨f, rfl, hf, hs⟩ := used_iff.1 hu
      rw [Int.toNat_natCast] at hc ⊢
      have := h.use f hf hs
      split at hc
      · omega
      · exact h.turn hf hs hs rfl ⟨by show 0 ≤ (a.F f).pn - 1; omega, by show (a.F f).pn - 1 ≤ 1000; omega⟩ h.b
    · rw [if_neg hu] at hc; omega
  · exact h
theorem Good.mark (h : Good a) (k : Int) (d : Bool) : Good (a.mark k d) := by
  unfold Ar.mark
  split
  · next hu =>
    obtain ⟨f, rfl, hf, hs⟩ := used_iff.1 hu
    rw [Int.toNat_natCast]
    have := h.use f hf hs
    exact h.turn hf hs hs rfl ⟨this.2.2.1, this.2.2.2⟩ h.b
  · exact h
theorem splice_len {b : List Int} {o : Nat} {zs : List Int} (hb : b.length = 16) (ho : o + zs.length ≤ 16) : (splice b o zs).length = 16 := by
  unfold splice
  simp only [List.length_append, List.length_take, List.length_drop]
  omega
theorem Good.set (h : Good a) (k off : Int) (zs : List Int) : Good (a.set k off zs) := by
  unfold Ar.set
  split
  · next hc =>
    unfold Ar.setC at hc
    by_cases hu : a.used k = true
    · rw [if_pos hu] at hc
      obtain ⟨f, rfl, hf, hs⟩ := used_iff.1 hu
      rw [Int.toNat_natCast]
      have := h.use f hf hs
      split at hc
      · refine h.turn hf hs hs rfl ⟨this.2.2.1, this.2.2.2⟩ fun x => ?_
        by_cases e : x = f
        · subst e; rw [upd_same]; exact splice_len (h.b x) (by omega)
        · rw [upd_other _ _ e]; exact h.b x
      · omega
    · rw [if_neg hu] at hc; omega
  · exact h
/-- A frame that is not free is so again, behind the others. -/
theorem Good.release (h : Good a) (hf : f < a.n) (hs : (a.F f).st ≠ 0) : Good (a.dropF f) := by
  have hq : f ∉ a.Q := fun hm => hs ((h.q f).1 hm).2
  refine h.put hf (.inr ⟨.inl rfl, rfl, rfl, rfl⟩) (List.nodup_append.2 ⟨h.nd, by simp, fun x hx y hy => by simp at hy; subst hy; exact fun e => hq (e ▸ hx)⟩) (fun x => ?_) h.b
  by_cases e : x = f
  · subst e; rw [upd_same]; simp [hf, fFree]
  · rw [upd_other _ _ e, List.mem_append, h.q x]; simp [e]
theorem Good.drop (h : Good a) (k : Int) : Good (a.drop k) := by
  unfold Ar.drop
  split
  · next hc =>
    unfold Ar.dropC at hc
    by_cases hu : a.used k = true
    · obtain ⟨f, rfl, hf, hs⟩ := used_iff.1 hu
      rw [Int.toNat_natCast]
      exact h.release hf (by omega)
    · rw [if_neg hu] at hc; omega
  · exact h
theorem Good.ret (h : Good a) : Good a.ret := by
  unfold Ar.ret
  cases e : a.Q with
  | nil => exact h
  | cons f q =>
    obtain ⟨h1, h2, h3, h4⟩ := h.head e
    refine h.put h1 (.inr ⟨.inr rfl, rfl, rfl, rfl⟩) h4 (fun x => ?_) h.b
    by_cases ex : x = f
    · subst ex
      rw [upd_same]
      exact ⟨fun hx => absurd hx h3, fun hx => by have : (4 : Int) = 0 := hx.2; omega⟩
    · rw [upd_other _ _ ex, ← h.q x, e]
      simp [ex]
theorem spare_le : a.spare ≤ a.n := least_le
theorem spare_gone (h : a.spare < a.n) : (a.F a.spare).st = 4 := by
  have := least_hit h
  exact of_decide_eq_true this
/-- One frame more, as if it had been retired. -/
def Ar.more (a : Ar) : Ar := ⟨a.n + 1, upd a.F a.n fGone, a.B, a.Q⟩
theorem Good.more (h : Good a) (hn : a.n < 32) : Good a.more := by
  have hl : ∀ x, x < a.n + 1 → x ≠ a.n → x < a.n := fun x h1 h2 => by omega
  refine ⟨hn, h.nd, fun x => ?_, fun x hx => ?_, fun x hx hs => ?_, fun x hx hs => ?_, fun i j hi hj si sj e => ?_, h.b⟩
  · change x ∈ a.Q ↔ x < a.n + 1 ∧ (upd a.F a.n fGone x).st = 0
    rw [h.q x]
    by_cases e : x = a.n
    · subst e
      rw [upd_same]
      exact ⟨fun hx => by omega, fun hx => by have : (4 : Int) = 0 := hx.2; omega⟩
    · rw [upd_other _ _ e]
      exact ⟨fun hx => ⟨by omega, hx.2⟩, fun hx => ⟨by omega, hx.2⟩⟩
  · change (upd a.F a.n fGone x).st = 0 ∨ (upd a.F a.n fGone x).st = 1 ∨ (upd a.F a.n fGone x).st = 4
    by_cases e : x = a.n
    · subst e; rw [upd_same]; exact .inr (.inr rfl)
    · rw [upd_other _ _ e]; exact h.st x (hl x hx e)
  · change (upd a.F a.n fGone x).st ≠ 1 at hs
    change (upd a.F a.n fGone x).pg = -1 ∧ (upd a.F a.n fGone x).pn = 0 ∧ (upd a.F a.n fGone x).di = false
    by_cases e : x = a.n
    · subst e; rw [upd_same]; exact ⟨rfl, rfl, rfl⟩
    · rw [upd_other _ _ e] at hs ⊢; exact h.rest x (hl x hx e) hs
  · change (upd a.F a.n fGone x).st = 1 at hs
    change 0 ≤ (upd a.F a.n fGone x).pg ∧ (upd a.F a.n fGone x).pg < 48 ∧ 0 ≤ (upd a.F a.n fGone x).pn ∧ (upd a.F a.n fGone x).pn ≤ 1000
    by_cases e : x = a.n
    · subst e; rw [upd_same] at hs; have : (4 : Int) = 1 := hs; omega
    · rw [upd_other _ _ e] at hs ⊢; exact h.use x (hl x hx e) hs
  · change (upd a.F a.n fGone i).st = 1 at si
    change (upd a.F a.n fGone j).st = 1 at sj
    change (upd a.F a.n fGone i).pg = (upd a.F a.n fGone j).pg at e
    have ei : i ≠ a.n := fun e => by subst e; rw [upd_same] at si; have : (4 : Int) = 1 := si; omega
    have ej : j ≠ a.n := fun e => by subst e; rw [upd_same] at sj; have : (4 : Int) = 1 := sj; omega
    rw [upd_other _ _ ei] at si e
    rw [upd_other _ _ ej] at sj e
    exact h.uq i j (hl i hi ei) (hl j hj ej) si sj e
theorem addF_more (a : Ar) : a.addF a.n = a.more.dropF a.n := by
  unfold Ar.addF Ar.more Ar.dropF
  rw [if_neg (by omega)]
  congr 1
  funext x
  unfold upd
  dsimp only
  split <;> rfl
theorem addF_old (h : f < a.n) : a.addF f = a.dropF f := by
  unfold Ar.addF Ar.dropF
  rw [if_pos h]
theorem Good.addF (h : Good a) (h32 : a.spare < 32) : Good (a.addF a.spare) := by
  by_cases e : a.spare < a.n
  · rw [addF_old e]
    exact h.release e (by rw [spare_gone e]; omega)
  · have hn : a.spare = a.n := by have := spare_le (a := a); omega
    rw [hn, addF_more]
    exact (h.more (by omega)).release (f := a.n) (Nat.lt_succ_self _) (by show (upd a.F a.n fGone a.n).st ≠ 0; rw [upd_same]; show (4 : Int) ≠ 0; omega)
theorem Good.add (h : Good a) : Good a.add := by
  unfold Ar.add
  split
  · next h32 => exact h.addF h32
  · exact h
theorem fresh_add {n : Nat} (h : n < 32) : (fresh n).addC = (n : Int) ∧ (fresh n).add = fresh (n + 1) := by
  have e : (fresh n).spare = n := least_all fun _ _ => rfl
  unfold Ar.addC Ar.add
  rw [e, if_pos h, if_pos h]
  refine ⟨rfl, ?_⟩
  unfold Ar.addF fresh
  rw [if_neg (by dsimp only; omega), List.range_succ]
  congr 1
  funext x
  unfold upd
  split <;> rfl
end

/-! ### The table of pages -/
structure Tabs (T : Tb) (a : Ar) : Prop where
  ab : ∃ I W, Abs T I W ∧ (∀ k : Nat, I k = true ↔ ∃ x, x < a.n ∧ (a.F x).st = 1 ∧ (a.F x).pg = (k : Int)) ∧ ∀ x, x < a.n → (a.F x).st = 1 → ∀ k : Nat, (a.F x).pg = (k : Int) → W k = (x : Int)
  n : T.n = 64
  c : T.cnt = cnt (isU a) a.n

section
variable {a a' : Ar} {f : Nat} {p : Int} {v : Fr} {T : Tb} {B' : Nat → List Int} {Q' : List Nat}
theorem Tabs.get (h : Tabs T a) (g : Good a) (p : Int) : T.get p = a.find p := by
  obtain ⟨I, W, h1, h2, h3⟩ := h.ab
  by_cases h0 : p < 0
  · rw [find_none fun x hx hs => by have := g.use x hx hs; omega]
    unfold Tb.get Tb.find
    rw [if_pos h0]
    rfl
  · obtain ⟨k, rfl⟩ := Int.eq_ofNat_of_zero_le (show 0 ≤ p by omega)
    rw [h1.get k]
    cases e : I k with
    | true =>
      obtain ⟨x, hx, hs, hp⟩ := (h2 k).1 e
      rw [find_at g hx hs hp, h3 x hx hs k hp]
      rfl
    | false =>
      rw [find_none fun x hx hs hp => by rw [(h2 k).2 ⟨x, hx, hs, hp⟩] at e; cases e]
      rfl
theorem Tabs.none (h : 1 ≤ 64) (hs : ∀ x, x < a.n → (a.F x).st ≠ 1) : Tabs (TabM.fresh 64) a :=
  ⟨⟨_, fun _ => 0, abs_fresh h _, fun k => ⟨fun e => (by cases e), fun ⟨x, hx, e, _⟩ => absurd e (hs x hx)⟩, fun x hx e => absurd e (hs x hx)⟩, rfl, by
    rw [cnt_fresh, cnt_none (f := isU a) fun j hj => decide_eq_false (hs j hj)]⟩
theorem Tabs.same (h : Tabs T a) (h1 : ∀ x, (x < a'.n ∧ (a'.F x).st = 1) ↔ (x < a.n ∧ (a.F x).st = 1)) (h2 : ∀ x, x < a.n → (a.F x).st = 1 → (a'.F x).pg = (a.F x).pg) (h3 : cnt (isU a') a'.n = cnt (isU a) a.n) : Tabs T a' := by
  obtain ⟨I, W, k1, k2, k3⟩ := h.ab
  refine ⟨⟨I, W, k1, fun k => ?_, fun x hx hs k hp => ?_⟩, h.n, by rw [h3, h.c]⟩
  · rw [k2 k]
    constructor
    · rintro ⟨x, hx, hs, hp⟩
      obtain ⟨hx', hs'⟩ := (h1 x).2 ⟨hx, hs⟩
      exact ⟨x, hx', hs', by rw [h2 x hx hs, hp]⟩
    · rintro ⟨x, hx', hs', hp⟩
      obtain ⟨hx, hs⟩ := (h1 x).1 ⟨hx', hs'⟩
      exact ⟨x, hx, hs, by rw [← h2 x hx hs, hp]⟩
  · obtain ⟨hx', hs'⟩ := (h1 x).1 ⟨hx, hs⟩
    exact k3 x hx' hs' k (by rw [← h2 x hx' hs', hp])
theorem Tabs.turn (h : Tabs T a) (hf : f < a.n) (hv : v.st = 1 ↔ (a.F f).st = 1) (hp : (a.F f).st = 1 → v.pg = (a.F f).pg) : Tabs T ⟨a.n, upd a.F f v, B', Q'⟩ := by
  have key : ∀ x, (upd a.F f v x).st = 1 ↔ (a.F x).st = 1 := fun x => by
    by_cases e : x = f
    · subst e; rw [upd_same]; exact hv
    · rw [upd_other _ _ e]
  refine h.same (fun x => ?_) (fun x hx hs => ?_) (cnt_congr fun x hx => ?_)
  · show (x < a.n ∧ (upd a.F f v x).st = 1) ↔ _
    rw [key x]
  · show (upd a.F f v x).pg = _
    by_cases e : x = f
    · subst e; rw [upd_same]; exact hp hs
    · rw [upd_other _ _ e]
  · show decide ((upd a.F f v x).st = 1) = decide ((a.F x).st = 1)
    exact decide_eq_decide.2 (key x)
theorem Tabs.addF (h : Tabs T a) (hf : f ≤ a.n) (hs : f < a.n → (a.F f).st ≠ 1) : Tabs T (a.addF f) := by
  by_cases e : f < a.n
  · rw [addF_old e]
    exact h.turn e ⟨fun x => by have : (0 : Int) = 1 := x; omega, fun x => absurd x (hs e)⟩ fun x => absurd x (hs e)
  · obtain rfl : f = a.n := by omega
    rw [addF_more]
    have k1 : ∀ x, x ≠ a.n → (a.more.dropF a.n).F x = a.F x := fun x e => by
      show upd (upd a.F a.n fGone) a.n fFree x = _
      rw [upd_other _ _ e, upd_other _ _ e]
    have k2 : (a.more.dropF a.n).F a.n = fFree := upd_same _ _ _
    refine h.same (fun x => ?_) (fun x hx _ => ?_) ?_
    · by_cases e : x = a.n
      · subst e
        rw [k2]
        exact ⟨fun hx => by have : (0 : Int) = 1 := hx.2; omega, fun hx => by omega⟩
      · rw [k1 x e]
        show (x < a.n + 1 ∧ _) ↔ _
        constructor
        · rintro ⟨h1, h2⟩; exact ⟨by omega, h2⟩
        · rintro ⟨h1, h2⟩; exact ⟨by omega, h2⟩
    · rw [k1 x (by omega)]
    · show cnt (isU (a.more.dropF a.n)) (a.n + 1) = _
      have e1 : cnt (isU (a.more.dropF a.n)) (a.n + 1) = cnt (isU (a.more.dropF a.n)) a.n + if isU (a.more.dropF a.n) a.n = true then 1 else 0 := rfl
      have e2 : isU (a.more.dropF a.n) a.n = false := by unfold isU; rw [k2]; rfl
      rw [e1, e2, cnt_congr (f := isU (a.more.dropF a.n)) (g := isU a) fun x hx => by unfold isU; rw [k1 x (by omega)]]
      rfl
theorem Tabs.put (h : Tabs T a) (g : Good a) (hf : f < a.n) (hs : (a.F f).st ≠ 1) (hc : a.can p = true) : T.putC p = 0 ∧ Tabs (T.put p (f : Int)) ⟨a.n, upd a.F f (fUsed p), B', Q'⟩ := by
  simp only [Ar.can, Bool.and_eq_true, decide_eq_true_eq] at hc
  obtain ⟨⟨c1, c2⟩, c3⟩ := hc
  obtain ⟨k, rfl⟩ := Int.eq_ofNat_of_zero_le c1
  have hno : ∀ x, x < a.n → (a.F x).st = 1 → (a.F x).pg ≠ (k : Int) := fun x hx sx e => by have := find_at g hx sx e; omega
  obtain ⟨I, W, k1, k2, k3⟩ := h.ab
  have hI : I k = false := by
    cases e : I k with
    | false => rfl
    | true => obtain ⟨x, hx, sx, px⟩ := (k2 k).1 e; exact absurd px (hno x hx sx)
  have hcl := cnt_le (isU a) a.n
  have hn := g.n
  obtain ⟨p1, p2, p3⟩ := k1.put_new hI (by rw [h.c, h.n]; omega) (f : Int)
  have hu : ∀ x, (upd a.F f (fUsed (k : Int)) x).st = 1 ↔ x = f ∨ (a.F x).st = 1 := fun x => by
    by_cases e : x = f
    · subst e; rw [upd_same]; exact ⟨fun _ => .inl rfl, fun _ => rfl⟩
    · rw [upd_other _ _ e]; simp [e]
  refine ⟨p1, ⟨_, _, p2, fun m => ?_, fun x hx sx m px => ?_⟩, by rw [put_n, h.n], ?_⟩
  · show upd I k true m = true ↔ ∃ x, x < a.n ∧ (upd a.F f (fUsed (k : Int)) x).st = 1 ∧ (upd a.F f (fUsed (k : Int)) x).pg = (m : Int)
    by_cases e : m = k
    · subst e
      rw [upd_same]
      exact ⟨fun _ => ⟨f, hf, by rw [upd_same]; exact ⟨rfl, rfl⟩⟩, fun _ => rfl⟩
    · rw [upd_other _ _ e, k2 m]
      constructor
      · rintro ⟨x, hx, sx, px⟩
        have ex : x ≠ f := fun e => by subst e; exact hs sx
        exact ⟨x, hx, by rw [upd_other _ _ ex]; exact ⟨sx, px⟩⟩
      · rintro ⟨x, hx, sx, px⟩
        by_cases ex : x = f
        · subst ex
          rw [upd_same] at px
          have : (k : Int) = (m : Int) := px
          omega
        · rw [upd_other _ _ ex] at sx px
          exact ⟨x, hx, sx, px⟩
  · change (upd a.F f (fUsed (k : Int)) x).st = 1 at sx
    change (upd a.F f (fUsed (k : Int)) x).pg = (m : Int) at px
    by_cases ex : x = f
    · subst ex
      rw [upd_same] at px
      have : (k : Int) = (m : Int) := px
      obtain rfl : k = m := by omega
      rw [upd_same]
    · rw [upd_other _ _ ex] at sx px
      have : m ≠ k := fun e => by subst e; exact hno x hx sx px
      rw [upd_other _ _ this]
      exact k3 x hx sx m px
  · rw [p3, h.c, ← cnt_on hf (decide_eq_false hs : isU a f = false)]
    refine cnt_congr fun x hx => ?_
    show upd (isU a) f true x = decide ((upd a.F f (fUsed (k : Int)) x).st = 1)
    by_cases e : x = f
    · subst e; rw [upd_same, upd_same]; rfl
    · rw [upd_other _ _ e, upd_other _ _ e]; rfl
theorem Tabs.out (h : Tabs T a) (g : Good a) (hf : f < a.n) (hs : (a.F f).st = 1) (hv : v.st ≠ 1) : Tabs (T.out (a.F f).pg) ⟨a.n, upd a.F f v, B', Q'⟩ := by
  have hu := g.use f hf hs
  obtain ⟨k, hk⟩ := Int.eq_ofNat_of_zero_le hu.1
  obtain ⟨I, W, k1, k2, k3⟩ := h.ab
  have hI : I k = true := (k2 k).2 ⟨f, hf, hs, hk⟩
  obtain ⟨_, p2, p3, _⟩ := k1.out_some hI
  rw [hk]
  refine ⟨⟨_, _, p2, fun m => ?_, fun x hx sx m px => ?_⟩, by rw [out_n, h.n], ?_⟩
  · show upd I k false m = true ↔ ∃ x, x < a.n ∧ (upd a.F f v x).st = 1 ∧ (upd a.F f v x).pg = (m : Int)
    by_cases e : m = k
    · subst e
      rw [upd_same]
      refine ⟨fun e => (by cases e), fun ⟨x, hx, sx, px⟩ => ?_⟩
      by_cases ex : x = f
      · subst ex; rw [upd_same] at sx; exact absurd sx hv
      · rw [upd_other _ _ ex] at sx px
        exact absurd (g.uq x f hx hf sx hs (by omega)) ex
    · rw [upd_other _ _ e, k2 m]
      constructor
      · rintro ⟨x, hx, sx, px⟩
        have ex : x ≠ f := fun e' => by subst e'; omega
        exact ⟨x, hx, by rw [upd_other _ _ ex]; exact ⟨sx, px⟩⟩
      · rintro ⟨x, hx, sx, px⟩
        by_cases ex : x = f
        · subst ex; rw [upd_same] at sx; exact absurd sx hv
        · rw [upd_other _ _ ex] at sx px
          exact ⟨x, hx, sx, px⟩
  · change (upd a.F f v x).st = 1 at sx
    change (upd a.F f v x).pg = (m : Int) at px
    by_cases ex : x = f
    · subst ex; rw [upd_same] at sx; exact absurd sx hv
    · rw [upd_other _ _ ex] at sx px
      exact k3 x hx sx m px
  · have hc := cnt_off (f := isU a) hf (decide_eq_true hs)
    have e : cnt (isU ⟨a.n, upd a.F f v, B', Q'⟩) a.n = cnt (upd (isU a) f false) a.n := by
      refine cnt_congr fun x hx => ?_
      show decide ((upd a.F f v x).st = 1) = upd (isU a) f false x
      by_cases e : x = f
      · subst e; rw [upd_same, upd_same]; exact decide_eq_false hv
      · rw [upd_other _ _ e, upd_other _ _ e]; rfl
    show _ = cnt (isU ⟨a.n, upd a.F f v, B', Q'⟩) a.n
    have := h.c
    omega
end
#print axioms Tabs.out
end Go.Proofs.Ytcmhkknoffeebaa.ArM
