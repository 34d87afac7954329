/-
  A list of chapter 4 as numbers: the order of who is in, and a ring of links ('Ring') that keeps it; no program is named here.
-/
import Derived.Handy
namespace Go.Proofs.Ytcmhkknoffeebaa.ListM

/-! ### Chains of links -/
/-- f, but v at p. -/
def upd {α : Type} (f : Nat → α) (p : Nat) (v : α) : Nat → α := fun q => if q = p then v else f q
theorem upd_same {α : Type} (f : Nat → α) (p : Nat) (v : α) : upd f p v p = v := if_pos rfl
theorem upd_other {α : Type} (f : Nat → α) {p q : Nat} (v : α) (h : q ≠ p) : upd f p v q = f q := if_neg h

/-- From place p by the places of the numbers l to place q: the links behind (B) and ahead (A). Number x has place x + 1. -/
def Ch (A B : Nat → Nat) : Nat → List Nat → Nat → Prop
  | p, [], q => B p = q ∧ A q = p
  | p, x :: l, q => (B p = x + 1 ∧ A (x + 1) = p) ∧ Ch A B (x + 1) l q

section
variable {A B A' B' : Nat → Nat} {I : Nat → Bool}
theorem Ch.app {x q : Nat} {r : List Nat} : ∀ {l : List Nat} {p : Nat}, Ch A B p (l ++ x :: r) q ↔ Ch A B p l (x + 1) ∧ Ch A B (x + 1) r q
  | [], p => Iff.rfl
  | y :: l, p => by
    show (_ ∧ Ch A B (y + 1) (l ++ x :: r) q) ↔ (_ ∧ Ch A B (y + 1) l (x + 1)) ∧ _
    rw [Ch.app (l := l) (p := y + 1)]
    simp only [and_assoc]
theorem Ch.congr {q : Nat} : ∀ {l : List Nat} {p : Nat}, Ch A B p l q → B' p = B p → (∀ x ∈ l, B' (x + 1) = B (x + 1)) → (∀ x ∈ l, A' (x + 1) = A (x + 1)) → A' q = A q → Ch A' B' p l q
  | [], p, h, hp, _, _, hq => ⟨hp.trans h.1, hq.trans h.2⟩
  | x :: l, p, h, hp, hB, hA, hq => ⟨⟨hp.trans h.1.1, (hA x (by simp)).trans h.1.2⟩, Ch.congr h.2 (hB x (by simp)) (fun y hy => hB y (by simp [hy])) (fun y hy => hA y (by simp [hy])) hq⟩
/-- The last link of a chain led elsewhere. -/
theorem Ch.redirect {p q q' : Nat} {l : List Nat} (h : Ch A B p l q) (hn : l.Nodup) (hp : ∀ x ∈ l, p ≠ x + 1) (hB : ∀ y, (y = p ∨ ∃ x ∈ l, y = x + 1) → y ≠ A q → B' y = B y) (hA : ∀ x ∈ l, A' (x + 1) = A (x + 1)) (hb : B' (A q) = q') (ha : A' q' = A q) : Ch A' B' p l q' := by
  rcases List.eq_nil_or_concat l with rfl | ⟨l', x, rfl⟩
  · have h' : B p = q ∧ A q = p := h
    rw [h'.2] at hb ha
    exact ⟨hb, ha⟩
  · rw [List.concat_eq_append] at *
    obtain ⟨h1, h2⟩ := Ch.app.1 h
    have h2' : B (x + 1) = q ∧ A q = x + 1 := h2
    rw [h2'.2] at hb ha hB
    rw [List.nodup_append] at hn
    have hx : ∀ y ∈ l', y ≠ x := fun y hy => hn.2.2 y hy x (by simp)
    refine Ch.app.2 ⟨Ch.congr h1 (hB p (.inl rfl) (hp x (by simp))) (fun y hy => hB _ (.inr ⟨y, by simp [hy], rfl⟩) (by have := hx y hy; omega)) (fun y hy => hA y (by simp [hy])) (hA x (by simp)), hb, ha⟩
/-- Whom a place leads to. -/
theorem Ch.next {q : Nat} : ∀ {l : List Nat} {p : Nat}, Ch A B p l q → ∀ y, (y = p ∨ ∃ x ∈ l, y = x + 1) → B y = q ∨ ∃ z ∈ l, B y = z + 1
  | [], p, h, y, hy => by
    rcases hy with rfl | ⟨x, hx, _⟩
    · exact .inl h.1
    · cases hx
  | x :: l, p, h, y, hy => by
    rcases hy with rfl | ⟨z, hz, rfl⟩
    · exact .inr ⟨x, by simp, h.1.1⟩
    · have : z + 1 = x + 1 ∨ ∃ u ∈ l, z + 1 = u + 1 := by
        rcases List.mem_cons.1 hz with rfl | hz
        · exact .inl rfl
        · exact .inr ⟨z, hz, rfl⟩
      rcases Ch.next h.2 _ this with e | ⟨u, hu, e⟩
      · exact .inl e
      · exact .inr ⟨u, by simp [hu], e⟩
theorem Ch.prev {q : Nat} : ∀ {l : List Nat} {p : Nat}, Ch A B p l q → ∀ y, (y = q ∨ ∃ x ∈ l, y = x + 1) → A y = p ∨ ∃ z ∈ l, A y = z + 1
  | [], p, h, y, hy => by
    rcases hy with rfl | ⟨x, hx, _⟩
    · exact .inl h.2
    · cases hx
  | x :: l, p, h, y, hy => by
    have key : ∀ y, (y = q ∨ ∃ u ∈ l, y = u + 1) → A y = p ∨ ∃ z ∈ x :: l, A y = z + 1 := fun y hy => by
      rcases Ch.prev h.2 y hy with e | ⟨u, hu, e⟩
      · exact .inr ⟨x, by simp, e⟩
      · exact .inr ⟨u, by simp [hu], e⟩
    rcases hy with rfl | ⟨z, hz, rfl⟩
    · exact key _ (.inl rfl)
    · rcases List.mem_cons.1 hz with rfl | hz
      · exact .inl h.1.2
      · exact key _ (.inr ⟨z, hz, rfl⟩)

/-! ### The ring of a list -/
/-- The links of the numbers 0 to n - 1, of which zs are in, in their order. -/
structure Ring (n : Nat) (A B : Nat → Nat) (I : Nat → Bool) (zs : List Nat) : Prop where
  ch : Ch A B 0 zs 0
  nd : zs.Nodup
  lt : ∀ x ∈ zs, x < n
  inn : ∀ x, x < n → I (x + 1) = decide (x ∈ zs)
  out : ∀ x, x < n → x ∉ zs → A (x + 1) = 0 ∧ B (x + 1) = 0
variable {n k : Nat} {zs : List Nat}
theorem Ring.next (h : Ring n A B I zs) (y : Nat) (hy : y = 0 ∨ ∃ x ∈ zs, y = x + 1) : B y = 0 ∨ ∃ z ∈ zs, B y = z + 1 := h.ch.next y hy
theorem Ring.prev (h : Ring n A B I zs) (y : Nat) (hy : y = 0 ∨ ∃ x ∈ zs, y = x + 1) : A y = 0 ∨ ∃ z ∈ zs, A y = z + 1 := h.ch.prev y hy
theorem Ring.nextLe (h : Ring n A B I zs) (y : Nat) (hy : y ≤ n) : B y ≤ n := by
  rcases Nat.eq_zero_or_pos y with rfl | h0
  · rcases h.next 0 (.inl rfl) with e | ⟨z, hz, e⟩
    · omega
    · have := h.lt z hz; omega
  · obtain ⟨x, rfl⟩ : ∃ x, y = x + 1 := ⟨y - 1, by omega⟩
    by_cases hx : x ∈ zs
    · rcases h.next (x + 1) (.inr ⟨x, hx, rfl⟩) with e | ⟨z, hz, e⟩
      · omega
      · have := h.lt z hz; omega
    · rw [(h.out x (by omega) hx).2]; omega
theorem Ring.prevLe (h : Ring n A B I zs) (y : Nat) (hy : y ≤ n) : A y ≤ n := by
  rcases Nat.eq_zero_or_pos y with rfl | h0
  · rcases h.prev 0 (.inl rfl) with e | ⟨z, hz, e⟩
    · omega
    · have := h.lt z hz; omega
  · obtain ⟨x, rfl⟩ : ∃ x, y = x + 1 := ⟨y - 1, by omega⟩
    by_cases hx : x ∈ zs
    · rcases h.prev (x + 1) (.inr ⟨x, hx, rfl⟩) with e | ⟨z, hz, e⟩
      · omega
      · have := h.lt z hz; omega
    · rw [(h.out x (by omega) hx).1]; omega
theorem len_le : ∀ (n : Nat) (zs : List Nat), zs.Nodup → (∀ x ∈ zs, x < n) → zs.length ≤ n
  | 0, [], _, _ => Nat.le_refl _
  | 0, x :: _, _, h => absurd (h x (by simp)) (by omega)
  | n + 1, zs, hn, h => by
    have := len_le n (zs.erase n) (hn.erase n) fun x hx => by
      have := (hn.mem_erase_iff).1 hx
      have := h x this.2
      omega
    rw [List.length_erase] at this
    split at this <;> omega
theorem Ring.len (h : Ring n A B I zs) : zs.length ≤ n := len_le n zs h.nd h.lt
theorem Ring.zero (n : Nat) : Ring n (fun _ => 0) (fun _ => 0) (fun _ => false) [] :=
  ⟨⟨rfl, rfl⟩, List.nodup_nil, fun x hx => absurd hx (by simp), fun x _ => by simp, fun _ _ _ => ⟨rfl, rfl⟩⟩

theorem Ring.front (h : Ring n A B I zs) (hk : k < n) (hz : k ∉ zs) :
    Ring n (upd (upd A (k + 1) 0) (B 0) (k + 1)) (upd (upd B (k + 1) (B 0)) 0 (k + 1)) (upd I (k + 1) true) (k :: zs) := by
  have hb : B 0 ≠ k + 1 := by
    rcases h.next 0 (.inl rfl) with e | ⟨z, hz', e⟩
    · omega
    · intro e'; have : z = k := by omega
      exact hz (this ▸ hz')
  have nk : ∀ x ∈ zs, x ≠ k := fun x hx e => hz (e ▸ hx)
  refine ⟨?_, List.nodup_cons.2 ⟨hz, h.nd⟩, fun x hx => ?_, fun x hx => ?_, fun x hx hxz => ?_⟩
  · cases zs with
    | nil =>
      have hc : B 0 = 0 ∧ A 0 = 0 := h.ch
      refine ⟨⟨upd_same _ _ _, ?_⟩, ?_, ?_⟩
      · rw [hc.1, upd_other _ _ (by omega), upd_same]
      · rw [upd_other _ _ (by omega), upd_same, hc.1]
      · rw [hc.1, upd_same]
    | cons x l =>
      obtain ⟨⟨h1, h2⟩, h3⟩ := h.ch
      have hx := nk x (by simp)
      have hnd := List.nodup_cons.1 h.nd
      refine ⟨⟨upd_same _ _ _, ?_⟩, ⟨?_, ?_⟩, ?_⟩
      · rw [h1, upd_other _ _ (by omega), upd_same]
      · rw [upd_other _ _ (by omega), upd_same, h1]
      · rw [h1, upd_same]
      · refine h3.congr ?_ (fun y hy => ?_) (fun y hy => ?_) ?_
        · rw [upd_other _ _ (by omega), upd_other _ _ (by omega)]
        · have := nk y (by simp [hy])
          rw [upd_other _ _ (by omega), upd_other _ _ (by omega)]
        · have e1 := nk y (by simp [hy])
          have e2 : y ≠ x := fun e => hnd.1 (e ▸ hy)
          rw [h1, upd_other _ _ (by omega), upd_other _ _ (by omega)]
        · rw [h1, upd_other _ _ (by omega), upd_other _ _ (by omega)]
  · rcases List.mem_cons.1 hx with rfl | hx
    · exact hk
    · exact h.lt x hx
  · by_cases e : x = k
    · subst e; rw [upd_same]; simp
    · rw [upd_other _ _ (by omega), h.inn x hx]; simp [e]
  · rw [List.mem_cons, not_or] at hxz
    obtain ⟨h1, h2⟩ := h.out x hx hxz.2
    have hb' : B 0 ≠ x + 1 := by
      rcases h.next 0 (.inl rfl) with e | ⟨z, hz', e⟩
      · omega
      · intro e'; have : z = x := by omega
        exact hxz.2 (this ▸ hz')
    exact ⟨by rw [upd_other _ _ (by omega), upd_other _ _ (by omega), h1], by rw [upd_other _ _ (by omega), upd_other _ _ (by omega), h2]⟩

theorem Ring.back (h : Ring n A B I zs) (hk : k < n) (hz : k ∉ zs) :
    Ring n (upd (upd A (k + 1) (A 0)) 0 (k + 1)) (upd (upd B (k + 1) 0) (A 0) (k + 1)) (upd I (k + 1) true) (zs ++ [k]) := by
  have hb : A 0 ≠ k + 1 := by
    rcases h.prev 0 (.inl rfl) with e | ⟨z, hz', e⟩
    · omega
    · intro e'; have : z = k := by omega
      exact hz (this ▸ hz')
  have nk : ∀ x ∈ zs, x ≠ k := fun x hx e => hz (e ▸ hx)
  refine ⟨?_, ?_, fun x hx => ?_, fun x hx => ?_, fun x hx hxz => ?_⟩
  · refine Ch.app.2 ⟨Ch.redirect h.ch h.nd (fun x _ => by omega) (fun y hy hyA => ?_) (fun x hx => ?_) (by rw [upd_same]) ?_, ?_, upd_same _ _ _⟩
    · rw [upd_other _ _ hyA, upd_other]
      rcases hy with rfl | ⟨x, hx, rfl⟩
      · omega
      · have := nk x hx; omega
    · have := nk x hx
      rw [upd_other _ _ (by omega), upd_other _ _ (by omega)]
    · rw [upd_other _ _ (by omega), upd_same]
    · rw [upd_other _ _ (fun e => hb e.symm), upd_same]
  · rw [List.nodup_append]
    exact ⟨h.nd, by simp, fun x hx y hy => by simp at hy; subst hy; exact nk x hx⟩
  · rcases List.mem_append.1 hx with hx | hx
    · exact h.lt x hx
    · simp at hx; subst hx; exact hk
  · by_cases e : x = k
    · subst e; rw [upd_same]; simp
    · rw [upd_other _ _ (by omega), h.inn x hx]; simp [e]
  · rw [List.mem_append, not_or] at hxz
    have hxk : x ≠ k := by simpa using hxz.2
    obtain ⟨h1, h2⟩ := h.out x hx hxz.1
    have hb' : A 0 ≠ x + 1 := by
      rcases h.prev 0 (.inl rfl) with e | ⟨z, hz', e⟩
      · omega
      · intro e'; have : z = x := by omega
        exact hxz.1 (this ▸ hz')
    exact ⟨by rw [upd_other _ _ (by omega), upd_other _ _ (by omega), h1], by rw [upd_other _ _ (by omega), upd_other _ _ (by omega), h2]⟩

theorem Ring.del (h : Ring n A B I zs) (hk : k ∈ zs) :
    Ring n (upd (upd A (B (k + 1)) (A (k + 1))) (k + 1) 0) (upd (upd B (A (k + 1)) (B (k + 1))) (k + 1) 0) (upd I (k + 1) false) (zs.erase k) := by
  have hme : ∀ x, x ∈ zs.erase k ↔ x ≠ k ∧ x ∈ zs := fun x => h.nd.mem_erase_iff
  obtain ⟨l, r, e⟩ := List.append_of_mem hk
  subst e
  have hkl : k ∉ l := fun hkl => (List.nodup_append.1 h.nd).2.2 k hkl k (by simp) rfl
  obtain ⟨hl, hr⟩ := Ch.app.1 h.ch
  have hnd := List.nodup_append.1 h.nd
  have hndr := List.nodup_cons.1 hnd.2.1
  have nkl : ∀ x ∈ l, x ≠ k := fun x hx e => hkl (e ▸ hx)
  have nkr : ∀ x ∈ r, x ≠ k := fun x hx e => hndr.1 (e ▸ hx)
  have hlr : ∀ x ∈ l, ∀ y ∈ r, x ≠ y := fun x hx y hy => hnd.2.2 x hx y (by simp [hy])
  have ha : A (k + 1) = 0 ∨ ∃ z ∈ l, A (k + 1) = z + 1 := hl.prev _ (.inl rfl)
  have hb : B (k + 1) = 0 ∨ ∃ z ∈ r, B (k + 1) = z + 1 := hr.next _ (.inl rfl)
  have hak : A (k + 1) ≠ k + 1 := by
    rcases ha with e | ⟨z, hz, e⟩
    · omega
    · have := nkl z hz; omega
  have hbk : B (k + 1) ≠ k + 1 := by
    rcases hb with e | ⟨z, hz, e⟩
    · omega
    · have := nkr z hz; omega
  have he : (l ++ k :: r).erase k = l ++ r := by
    rw [List.erase_append_right _ hkl, List.erase_cons_head]
  have hne : (l ++ r).Nodup := List.nodup_append.2 ⟨hnd.1, hndr.2, hlr⟩
  refine ⟨?_, ?_, fun x hx => h.lt x ((hme x).1 hx).2, fun x hx => ?_, fun x hx hxz => ?_⟩
  · rw [he]
    have hB' : ∀ y, (y = 0 ∨ ∃ x ∈ l, y = x + 1) → y ≠ A (k + 1) → upd (upd B (A (k + 1)) (B (k + 1))) (k + 1) 0 y = B y := fun y hy hyA => by
      rw [upd_other, upd_other _ _ hyA]
      rcases hy with rfl | ⟨x, hx, rfl⟩
      · omega
      · have := nkl x hx; omega
    have hb' : upd (upd B (A (k + 1)) (B (k + 1))) (k + 1) 0 (A (k + 1)) = B (k + 1) := by rw [upd_other _ _ hak, upd_same]
    have ha' : ∀ q, B (k + 1) = q → upd (upd A (B (k + 1)) (A (k + 1))) (k + 1) 0 q = A (k + 1) := fun q e => by rw [← e, upd_other _ _ hbk, upd_same]
    have hA' : ∀ x ∈ l, upd (upd A (B (k + 1)) (A (k + 1))) (k + 1) 0 (x + 1) = A (x + 1) := fun x hx => by
      have := nkl x hx
      rw [upd_other _ _ (by omega), upd_other]
      rcases hb with e | ⟨z, hz, e⟩
      · omega
      · have := hlr x hx z hz; omega
    cases r with
    | nil =>
      rw [List.append_nil]
      have hr' : B (k + 1) = 0 ∧ A 0 = k + 1 := hr
      exact Ch.redirect hl hnd.1 (fun x _ => by omega) hB' hA' (hb'.trans hr'.1) (ha' _ hr'.1)
    | cons y r' =>
      obtain ⟨⟨h1, h2⟩, h3⟩ := hr
      have hy := nkr y (by simp)
      have hndr' := List.nodup_cons.1 hndr.2
      have hay : A (k + 1) ≠ y + 1 := by
        rcases ha with e | ⟨z, hz, e⟩
        · omega
        · have := hlr z hz y (by simp); omega
      refine Ch.app.2 ⟨Ch.redirect hl hnd.1 (fun x _ => by omega) hB' hA' (hb'.trans h1) (ha' _ h1), h3.congr ?_ (fun x hx => ?_) (fun x hx => ?_) ?_⟩
      · rw [upd_other _ _ (by omega), upd_other _ _ (fun e => hay e.symm)]
      · have e1 := nkr x (by simp [hx])
        have e2 : x + 1 ≠ A (k + 1) := by
          rcases ha with e | ⟨z, hz, e⟩
          · omega
          · have := hlr z hz x (by simp [hx]); omega
        rw [upd_other _ _ (by omega), upd_other _ _ e2]
      · have e1 := nkr x (by simp [hx])
        have e2 : x ≠ y := fun e => hndr'.1 (e ▸ hx)
        rw [upd_other _ _ (by omega), upd_other _ _ (by omega)]
      · rw [upd_other _ _ (by omega), upd_other _ _ (by omega)]
  · rw [he]; exact hne
  · by_cases e : x = k
    · subst e; rw [upd_same]
      simp [hme]
    · rw [upd_other _ _ (by omega), h.inn x hx]
      simp only [hme, e, ne_eq, not_false_eq_true, true_and]
  · by_cases e : x = k
    · subst e; rw [upd_same, upd_same]; exact ⟨rfl, rfl⟩
    · have hxz' : x ∉ l ++ k :: r := fun hx' => hxz ((hme x).2 ⟨e, hx'⟩)
      obtain ⟨h1, h2⟩ := h.out x hx hxz'
      have e1 : x + 1 ≠ B (k + 1) := by
        rcases hb with e' | ⟨z, hz, e'⟩
        · omega
        · intro e2; have : z = x := by omega
          exact hxz' (by simp [← this, hz])
      have e2 : x + 1 ≠ A (k + 1) := by
        rcases ha with e' | ⟨z, hz, e'⟩
        · omega
        · intro e2; have : z = x := by omega
          exact hxz' (by simp [← this, hz])
      exact ⟨by rw [upd_other _ _ (by omega), upd_other _ _ e1, h1], by rw [upd_other _ _ (by omega), upd_other _ _ e2, h2]⟩

/-! ### What is asked of a list -/
/-- Who is at the front; who is at the back; who is behind k: -1, if there is none. -/
def first : List Nat → Int
  | [] => -1
  | x :: _ => (x : Int)
def last (zs : List Nat) : Int := match zs.getLast? with
  | none => -1
  | some x => (x : Int)
def nxt (zs : List Nat) (k : Nat) : Int := if zs.idxOf k + 1 < zs.length then ((zs.getD (zs.idxOf k + 1) 0 : Nat) : Int) else -1
/-- The place from which step i of a walk goes. -/
def pl (zs : List Nat) : Nat → Nat
  | 0 => 0
  | i + 1 => zs.getD i 0 + 1
theorem Ch.at_ {q : Nat} : ∀ {l : List Nat} {p : Nat}, Ch A B p l q → ∀ i, (i = 0 → B p = if 0 < l.length then l.getD 0 0 + 1 else q) ∧ (i < l.length → B (l.getD i 0 + 1) = if i + 1 < l.length then l.getD (i + 1) 0 + 1 else q)
  | [], p, h, i => ⟨fun _ => h.1, fun hi => absurd hi (by simp)⟩
  | x :: l, p, h, i => by
    refine ⟨fun _ => h.1.1, fun hi => ?_⟩
    cases i with
    | zero =>
      have := (Ch.at_ h.2 0).1 rfl
      simp only [List.getD_cons_zero, List.length_cons, List.getD_cons_succ] at this ⊢
      rw [this]
      by_cases hl : 0 < l.length
      · rw [if_pos hl, if_pos (by omega)]
      · rw [if_neg hl, if_neg (by omega)]
    | succ i =>
      have := (Ch.at_ h.2 i).2 (by simp only [List.length_cons] at hi; omega)
      simp only [List.length_cons, List.getD_cons_succ] at this ⊢
      rw [this]
      by_cases hl : i + 1 < l.length
      · rw [if_pos hl, if_pos (by omega)]
      · rw [if_neg hl, if_neg (by omega)]
theorem Ring.step (h : Ring n A B I zs) {i : Nat} (hi : i ≤ zs.length) : B (pl zs i) = if i < zs.length then pl zs (i + 1) else 0 := by
  cases i with
  | zero => exact (h.ch.at_ 0).1 rfl
  | succ i => exact (h.ch.at_ i).2 (by omega)
theorem pl_le (h : ∀ x ∈ zs, x < n) : ∀ i, i ≤ zs.length → pl zs i ≤ n
  | 0, _ => Nat.zero_le _
  | i + 1, hi => by
    have := h (zs.getD i 0) (by rw [List.getD_eq_getElem?_getD, List.getElem?_eq_getElem (by omega)]; exact List.getElem_mem _)
    show zs.getD i 0 + 1 ≤ n
    omega
theorem Ring.first (h : Ring n A B I zs) : (B 0 : Int) - 1 = first zs := by
  cases zs with
  | nil =>
    have hc : B 0 = 0 ∧ A 0 = 0 := h.ch
    rw [hc.1]; rfl
  | cons x l =>
    rw [h.ch.1.1]
    show ((x + 1 : Nat) : Int) - 1 = (x : Int)
    omega
theorem Ring.last (h : Ring n A B I zs) : (A 0 : Int) - 1 = last zs := by
  rcases List.eq_nil_or_concat zs with rfl | ⟨l, x, rfl⟩
  · have hc : B 0 = 0 ∧ A 0 = 0 := h.ch
    rw [hc.2]; rfl
  · rw [List.concat_eq_append] at *
    have hc : B (x + 1) = 0 ∧ A 0 = x + 1 := (Ch.app.1 h.ch).2
    rw [hc.2, ListM.last, List.getLast?_append]
    simp only [List.getLast?_singleton, Option.or_some, Option.some_or]
    omega
theorem Ring.nxt (h : Ring n A B I zs) (hk : k < n) : (B (k + 1) : Int) - 1 = nxt zs k := by
  unfold ListM.nxt
  by_cases hm : k ∈ zs
  · have hi : zs.idxOf k < zs.length := List.idxOf_lt_length_iff.2 hm
    have e : pl zs (zs.idxOf k + 1) = k + 1 := by
      show zs.getD (zs.idxOf k) 0 + 1 = k + 1
      rw [List.getD_eq_getElem?_getD, List.getElem?_eq_getElem hi, List.getElem_idxOf]; rfl
    have := h.step (i := zs.idxOf k + 1) (by omega)
    rw [e] at this
    rw [this]
    by_cases hl : zs.idxOf k + 1 < zs.length
    · rw [if_pos hl, if_pos hl]
      show ((zs.getD (zs.idxOf k + 1) 0 + 1 : Nat) : Int) - 1 = _
      omega
    · rw [if_neg hl, if_neg hl]; rfl
  · rw [(h.out k hk hm).2, List.idxOf_eq_length hm, if_neg (by omega)]; rfl
/-- As integers. -/
def ints (zs : List Nat) : List Int := zs.map fun (x : Nat) => (x : Int)
theorem ints_len (zs : List Nat) : (ints zs).length = zs.length := by simp [ints]
theorem ints_get (zs : List Nat) (i : Nat) : (ints zs).getD i 0 = ((zs.getD i 0 : Nat) : Int) := by
  unfold ints
  by_cases h : i < zs.length
  · simp [List.getD_eq_getElem?_getD, List.getElem?_eq_getElem h]
  · simp [List.getD_eq_getElem?_getD, List.getElem?_eq_none (show zs.length ≤ i by omega)]

/-! ### The steps, at every number -/
def okF (n : Nat) (zs : List Nat) (k : Int) : Bool := decide (0 ≤ k) && decide (k < (n : Int)) && !decide (k.toNat ∈ zs)
def okO (zs : List Nat) (k : Int) : Bool := decide (0 ≤ k) && decide (k.toNat ∈ zs)
def frontL (n : Nat) (zs : List Nat) (k : Int) : List Nat := if okF n zs k then k.toNat :: zs else zs
def backL (n : Nat) (zs : List Nat) (k : Int) : List Nat := if okF n zs k then zs ++ [k.toNat] else zs
def outL (zs : List Nat) (k : Int) : List Nat := if okO zs k then zs.erase k.toNat else zs
def nxtI (zs : List Nat) (k : Int) : Int := if 0 ≤ k then nxt zs k.toNat else -1
end
end Go.Proofs.Ytcmhkknoffeebaa.ListM
