/-
  A table of keys as functions of a slot: places, ways, what a search finds, what Put and Out make (chapter 5), and what stands in it whatever came before; no program is named here.
-/
import Derived.Handy
import Derived.IntWalk
import Derived.RowKit
namespace Go.Proofs.Ytcmhkknoffeebaa.TabM
open Go.RowKit

def upd {α : Type} (f : Nat → α) (p : Nat) (v : α) : Nat → α := fun j => if j = p then v else f j
theorem upd_same {α : Type} (f : Nat → α) (p : Nat) (v : α) : upd f p v p = v := if_pos rfl
theorem upd_other {α : Type} (f : Nat → α) {p j : Nat} (v : α) (h : j ≠ p) : upd f p v j = f j := if_neg h

/-! ### Places -/
def placeI (key : Int) (n : Nat) : Int := key % 4294967296 * 2654435761 % 4294967296 / 65536 % (n : Int)
theorem place_ex (key : Int) (n : Nat) : ∃ j : Nat, 1 ≤ n → (j : Int) = placeI key n ∧ j < n := by
  refine ⟨(placeI key n).toNat, fun h => ?_⟩
  have h1 : (((placeI key n).toNat : Nat) : Int) = placeI key n := Int.toNat_of_nonneg (Int.emod_nonneg _ (by omega))
  have h2 : placeI key n < (n : Int) := Int.emod_lt_of_pos _ (by omega)
  exact ⟨h1, by omega⟩
/-- The place of a key among n slots (a number below n). -/
noncomputable def place (key : Int) (n : Nat) : Nat := (place_ex key n).choose
section
variable {key : Int} {n : Nat}
theorem place_int (h : 1 ≤ n) : ((place key n : Nat) : Int) = placeI key n := ((place_ex key n).choose_spec h).1
theorem place_lt (h : 1 ≤ n) : place key n < n := ((place_ex key n).choose_spec h).2
theorem place_wrap (h : 1 ≤ n) (h2 : n ≤ 1024) : wrap64 (key % 4294967296 * 2654435761 % 4294967296 / 65536 % (n : Int)) = ((place key n : Nat) : Int) := by
  have h1 := place_int (key := key) h
  have h3 := place_lt (key := key) h
  rw [← placeI.eq_def, ← h1]
  exact Go.IntWalk.wrap64_in _ (by omega)
end

/-! ### How many -/
def cnt (f : Nat → Bool) : Nat → Nat
  | 0 => 0
  | n + 1 => cnt f n + if f n = true then 1 else 0
section
variable {f g : Nat → Bool} {n p : Nat}
theorem cnt_le (f : Nat → Bool) (n : Nat) : cnt f n ≤ n := by
  induction n with
  | zero => exact Nat.le_refl _
  | succ n ih => unfold cnt; split <;> omega
theorem cnt_congr (h : ∀ j, j < n → f j = g j) : cnt f n = cnt g n := by
  induction n with
  | zero => rfl
  | succ n ih => unfold cnt; rw [ih fun j hj => h j (by omega), h n (by omega)]
theorem cnt_none (h : ∀ j, j < n → f j = false) : cnt f n = 0 := by
  induction n with
  | zero => rfl
  | succ n ih => unfold cnt; rw [ih fun j hj => h j (by omega), h n (by omega)]; rfl
theorem cnt_all (h : ∀ j, j < n → f j = true) : cnt f n = n := by
  induction n with
  | zero => rfl
  | succ n ih => unfold cnt; rw [ih fun j hj => h j (by omega), h n (by omega)]; rfl
theorem cnt_on (hp : p < n) (hf : f p = false) : cnt (upd f p true) n = cnt f n + 1 := by
  induction n with
  | zero => omega
  | succ n ih =>
    unfold cnt
    by_cases e : p = n
    · subst e
      rw [upd_same, cnt_congr (g := f) fun j hj => upd_other _ _ (by omega), hf]
      simp
    · rw [upd_other _ _ (Ne.symm e), ih (by omega)]
      omega
theorem cnt_off (hp : p < n) (hf : f p = true) : cnt (upd f p false) n + 1 = cnt f n := by
  induction n with
  | zero => omega
  | succ n ih =>
    unfold cnt
    by_cases e : p = n
    · subst e
      rw [upd_same, cnt_congr (g := f) fun j hj => upd_other _ _ (by omega), hf]
      simp
    · rw [upd_other _ _ (Ne.symm e)]
      have := ih (by omega)
      omega
theorem cnt_lt (hp : p < n) (hf : f p = false) : cnt f n < n := by
  have := cnt_on hp hf
  have := cnt_le (upd f p true) n
  omega
theorem cnt_pos (hp : p < n) (hf : f p = true) : 0 < cnt f n := by
  have := cnt_off hp hf
  omega
theorem cnt_full (h : cnt f n = n) {j : Nat} (hj : j < n) : f j = true := by
  cases e : f j with
  | true => rfl
  | false => have := cnt_lt hj e; omega
theorem cnt_zero (h : cnt f n = 0) {j : Nat} (hj : j < n) : f j = false := by
  cases e : f j with
  | false => rfl
  | true => have := cnt_pos hj e; omega
end

/-! ### Tables -/
structure Tb where
  n : Nat
  K : Nat → Int
  V : Nat → Int
def used (T : Tb) : Nat → Bool := fun j => decide (0 ≤ T.K j)
def Tb.cnt (T : Tb) : Nat := TabM.cnt (used T) T.n
def fresh (n : Nat) : Tb := ⟨n, fun _ => -1, fun _ => 0⟩
def Tb.set (T : Tb) (j : Nat) (k v : Int) : Tb := ⟨T.n, upd T.K j k, upd T.V j v⟩

/-- The way from its slot i on: the slot that has the key, the slot that Put may take. -/
def scan (K : Nat → Int) (n p : Nat) (key : Int) : Nat → Nat → Int → Int × Int
  | 0, _, free => (-1, free)
  | g + 1, i, free =>
    if K ((p + i) % n) = key then ((((p + i) % n : Nat) : Int), -1)
    else if K ((p + i) % n) = -1 then (-1, if free < 0 then (((p + i) % n : Nat) : Int) else free)
    else if K ((p + i) % n) = -2 then scan K n p key g (i + 1) (if free < 0 then (((p + i) % n : Nat) : Int) else free)
    else scan K n p key g (i + 1) free
noncomputable def Tb.search (T : Tb) (key : Int) : Int × Int := scan T.K T.n (place key T.n) key T.n 0 (-1)
noncomputable def Tb.find (T : Tb) (key : Int) : Int := if key < 0 then -1 else (T.search key).1
noncomputable def Tb.get (T : Tb) (key : Int) : Int := if T.find key < 0 then -1 else T.V (T.find key).toNat
noncomputable def Tb.putC (T : Tb) (key : Int) : Int := if key < 0 then 1 else if 0 ≤ (T.search key).1 then 13 else if (T.search key).2 < 0 then 8 else 0
noncomputable def Tb.put (T : Tb) (key v : Int) : Tb := if T.putC key = 0 then T.set (T.search key).2.toNat key v else T
noncomputable def Tb.out (T : Tb) (key : Int) : Tb := if T.find key < 0 then T else if (T.set (T.find key).toNat (-2) 0).cnt = 0 then fresh T.n else T.set (T.find key).toNat (-2) 0

section
variable {T : Tb} {K : Nat → Int} {n p g i j : Nat} {key f : Int}
theorem scan_has (hn : 1 ≤ n) : (scan K n p key g i f).1 = -1 ∨ ∃ j, j < n ∧ scan K n p key g i f = ((j : Int), -1) ∧ K j = key := by
  induction g generalizing i f with
  | zero => exact .inl rfl
  | succ g ih =>
    unfold scan
    split
    · next h => exact .inr ⟨_, Nat.mod_lt _ hn, rfl, h⟩
    · split
      · exact .inl rfl
      · split
        · exact ih
        · exact ih
theorem scan_free (hn : 1 ≤ n) (hf : f = -1 ∨ ∃ j : Nat, j < n ∧ f = (j : Int) ∧ K j < 0) :
    (scan K n p key g i f).2 = -1 ∨ ∃ j : Nat, j < n ∧ (scan K n p key g i f).2 = (j : Int) ∧ K j < 0 := by
  induction g generalizing i f with
  | zero => exact hf
  | succ g ih =>
    have hm := Nat.mod_lt (p + i) hn
    unfold scan
    split
    · exact .inl rfl
    · split
      · next h =>
        show (if f < 0 then _ else f) = -1 ∨ _
        split
        · exact .inr ⟨_, hm, rfl, by omega⟩
        · exact hf
      · split
        · next h =>
          refine ih ?_
          split
          · exact .inr ⟨_, hm, rfl, by omega⟩
          · exact hf
        · exact ih hf
theorem search_has (hn : 1 ≤ T.n) : (T.search key).1 = -1 ∨ ∃ j, j < T.n ∧ T.search key = ((j : Int), -1) ∧ T.K j = key := scan_has hn
theorem search_free (hn : 1 ≤ T.n) : (T.search key).2 = -1 ∨ ∃ j : Nat, j < T.n ∧ (T.search key).2 = (j : Int) ∧ T.K j < 0 := scan_free hn (.inl rfl)
theorem find_has (hn : 1 ≤ T.n) : T.find key = -1 ∨ ∃ j, j < T.n ∧ T.find key = (j : Int) ∧ T.K j = key ∧ 0 ≤ key := by
  unfold Tb.find
  split
  · exact .inl rfl
  · next h =>
    rcases search_has (key := key) hn with e | ⟨j, hj, e, hk⟩
    · exact .inl e
    · exact .inr ⟨j, hj, by rw [e], hk, by omega⟩

/-! how many are in -/
theorem set_used (T : Tb) (j : Nat) (k v : Int) : used (T.set j k v) = upd (used T) j (decide (0 ≤ k)) := by
  funext i
  unfold used Tb.set upd
  dsimp only
  split <;> rfl
theorem cnt_set_on (hj : j < T.n) (h : T.K j < 0) {k v : Int} (hk : 0 ≤ k) : (T.set j k v).cnt = T.cnt + 1 := by
  show TabM.cnt (used (T.set j k v)) T.n = _
  rw [set_used, decide_eq_true hk]
  exact cnt_on hj (decide_eq_false (by omega))
theorem cnt_set_off (hj : j < T.n) (h : 0 ≤ T.K j) {k v : Int} (hk : k < 0) : (T.set j k v).cnt + 1 = T.cnt := by
  show TabM.cnt (used (T.set j k v)) T.n + 1 = _
  rw [set_used, decide_eq_false (show ¬ 0 ≤ k by omega)]
  exact cnt_off hj (decide_eq_true h)
theorem cnt_fresh (n : Nat) : (fresh n).cnt = 0 := cnt_none fun _ _ => rfl
theorem put_n (v : Int) : (T.put key v).n = T.n := by unfold Tb.put; split <;> rfl
theorem out_n : (T.out key).n = T.n := by
  unfold Tb.out
  split
  · rfl
  · split <;> rfl
end

/-! ### What stands in a table, whatever came before -/
structure Good (T : Tb) : Prop where
  pos : 1 ≤ T.n
  lo : ∀ j, j < T.n → -2 ≤ T.K j
  way : ∀ j, j < T.n → 0 ≤ T.K j → ∃ d, d < T.n ∧ (place (T.K j) T.n + d) % T.n = j ∧ ∀ e, e < d → T.K ((place (T.K j) T.n + e) % T.n) ≠ -1
  uniq : ∀ i j, i < T.n → j < T.n → 0 ≤ T.K i → T.K i = T.K j → i = j
theorem good_fresh {n : Nat} (h : 1 ≤ n) : Good (fresh n) :=
  ⟨h, fun _ _ => by show (-2 : Int) ≤ -1; omega, fun _ _ h => by have h : (0 : Int) ≤ -1 := h; omega, fun _ _ _ _ h => by have h : (0 : Int) ≤ -1 := h; omega⟩

section
variable {T : Tb} {K : Nat → Int} {n p g i j : Nat} {key f : Int}
theorem scan_found (hn : 1 ≤ n) (hg : i + g = n) (h : ∃ d, i ≤ d ∧ d < n ∧ K ((p + d) % n) = key ∧ ∀ e, i ≤ e → e < d → K ((p + e) % n) ≠ -1) :
    ∃ j, j < n ∧ scan K n p key g i f = ((j : Int), -1) ∧ K j = key := by
  induction g generalizing i f with
  | zero => obtain ⟨d, h1, h2, _⟩ := h; omega
  | succ g ih =>
    unfold scan
    split
    · next h => exact ⟨_, Nat.mod_lt _ hn, rfl, h⟩
    · next h1 =>
      obtain ⟨d, hd1, hd2, hd3, hd4⟩ := h
      have hid : i ≠ d := fun e => by subst e; exact h1 hd3
      rw [if_neg (hd4 i (Nat.le_refl _) (by omega))]
      have hx : ∃ d, i + 1 ≤ d ∧ d < n ∧ K ((p + d) % n) = key ∧ ∀ e, i + 1 ≤ e → e < d → K ((p + e) % n) ≠ -1 := ⟨d, by omega, hd2, hd3, fun e he => hd4 e (by omega)⟩
      split
      · exact ih (by omega) hx
      · exact ih (by omega) hx
theorem scan_none (hn : 1 ≤ n) (hg : i + g = n) (hlo : ∀ j, j < n → -2 ≤ K j) (h : ∀ j, j < n → K j ≠ key) :
    (scan K n p key g i f).1 = -1 ∧ (0 ≤ f → (scan K n p key g i f).2 = f) ∧
      (f < 0 → ((scan K n p key g i f).2 < 0 ∧ ∀ e, i ≤ e → e < n → 0 ≤ K ((p + e) % n)) ∨
        ∃ d, i ≤ d ∧ d < n ∧ (scan K n p key g i f).2 = (((p + d) % n : Nat) : Int) ∧ K ((p + d) % n) < 0 ∧ ∀ e, i ≤ e → e < d → K ((p + e) % n) ≠ -1) := by
  induction g generalizing i f with
  | zero => exact ⟨rfl, fun _ => rfl, fun hf => .inl ⟨hf, fun e h1 h2 => by omega⟩⟩
  | succ g ih =>
    have hm := Nat.mod_lt (p + i) hn
    unfold scan
    rw [if_neg (h _ hm)]
    split
    · next h1 =>
      refine ⟨rfl, fun hf => if_neg (by omega), fun hf => .inr ⟨i, Nat.le_refl _, by omega, if_pos hf, by omega, fun e h1 h2 => by omega⟩⟩
    · next h1 =>
      split
      · next h2 =>
        obtain ⟨a1, a2, a3⟩ := ih (i := i + 1) (f := if f < 0 then (((p + i) % n : Nat) : Int) else f) (by omega)
        refine ⟨a1, fun hf => ?_, fun hf => .inr ⟨i, Nat.le_refl _, by omega, ?_, by omega, fun e h1 h2 => by omega⟩⟩
        · rw [if_neg (show ¬ f < 0 by omega)] at a2 ⊢
          exact a2 hf
        · rw [if_pos hf] at a2 ⊢
          exact a2 (by omega)
      · next h2 =>
        obtain ⟨a1, a2, a3⟩ := ih (i := i + 1) (f := f) (by omega)
        refine ⟨a1, a2, fun hf => ?_⟩
        rcases a3 hf with ⟨b1, b2⟩ | ⟨d, b1, b2, b3, b4, b5⟩
        · refine .inl ⟨b1, fun e h3 h4 => ?_⟩
          by_cases he : e = i
          · subst he
            have := hlo _ hm
            omega
          · exact b2 e (by omega) h4
        · refine .inr ⟨d, by omega, b2, b3, b4, fun e h3 h4 => ?_⟩
          by_cases he : e = i
          · subst he; exact h1
          · exact b5 e (by omega) h4
theorem onto (hp : p < n) (hj : j < n) : ∃ e, e < n ∧ (p + e) % n = j := by
  by_cases h : p ≤ j
  · exact ⟨j - p, by omega, by rw [show p + (j - p) = j by omega]; exact Nat.mod_eq_of_lt hj⟩
  · exact ⟨n + j - p, by omega, by rw [show p + (n + j - p) = j + n by omega, Nat.add_mod_right]; exact Nat.mod_eq_of_lt hj⟩

theorem Good.search_in (h : Good T) (hk : 0 ≤ key) (hj : j < T.n) (hK : T.K j = key) : T.search key = ((j : Int), -1) := by
  obtain ⟨d, h1, h2, h3⟩ := h.way j hj (by omega)
  rw [hK] at h2 h3
  obtain ⟨i, hi, e, hKi⟩ := scan_found (K := T.K) (p := place key T.n) (key := key) (g := T.n) (i := 0) (f := -1) h.pos (by omega) ⟨d, by omega, h1, by rw [h2]; exact hK, fun e _ he => h3 e he⟩
  have : i = j := h.uniq i j hi hj (by omega) (by omega)
  subst this
  exact e
theorem Good.search_out (h : Good T) (hK : ∀ j, j < T.n → T.K j ≠ key) :
    (T.search key).1 = -1 ∧ (((T.search key).2 < 0 ∧ T.cnt = T.n) ∨
      ∃ d, d < T.n ∧ (T.search key).2 = (((place key T.n + d) % T.n : Nat) : Int) ∧ T.K ((place key T.n + d) % T.n) < 0 ∧ ∀ e, e < d → T.K ((place key T.n + e) % T.n) ≠ -1) := by
  obtain ⟨a1, _, a3⟩ := scan_none (K := T.K) (p := place key T.n) (key := key) (g := T.n) (i := 0) (f := -1) h.pos (by omega) h.lo hK
  refine ⟨a1, ?_⟩
  rcases a3 (by omega) with ⟨b1, b2⟩ | ⟨d, b1, b2, b3, b4, b5⟩
  · refine .inl ⟨b1, cnt_all fun j hj => decide_eq_true ?_⟩
    obtain ⟨e, he, rfl⟩ := onto (place_lt (key := key) h.pos) hj
    exact b2 e (by omega) he
  · exact .inr ⟨d, b2, b3, b4, fun e he => b5 e (by omega) he⟩

/-- Who is in (I), with what value (W). -/
structure Abs (T : Tb) (I : Nat → Bool) (W : Nat → Int) : Prop where
  good : Good T
  inn : ∀ k : Nat, I k = true ↔ ∃ j, j < T.n ∧ T.K j = (k : Int)
  val : ∀ j, j < T.n → ∀ k : Nat, T.K j = (k : Int) → T.V j = W k
theorem abs_fresh (h : 1 ≤ n) (W : Nat → Int) : Abs (fresh n) (fun _ => false) W :=
  ⟨good_fresh h, fun k => ⟨fun x => (by cases x), fun ⟨j, _, x⟩ => by have x : (-1 : Int) = (k : Int) := x; omega⟩, fun j _ k x => by have x : (-1 : Int) = (k : Int) := x; omega⟩
variable {I : Nat → Bool} {W : Nat → Int} {k : Nat}
theorem Abs.find_in (h : Abs T I W) (hk : I k = true) : ∃ j, j < T.n ∧ T.find (k : Int) = (j : Int) ∧ T.search (k : Int) = ((j : Int), -1) ∧ T.K j = (k : Int) := by
  obtain ⟨j, hj, e⟩ := (h.inn k).1 hk
  have hs := h.good.search_in (by omega) hj e
  refine ⟨j, hj, ?_, hs, e⟩
  unfold Tb.find
  rw [if_neg (by omega), hs]
theorem Abs.absent (h : Abs T I W) (hk : I k = false) : ∀ j, j < T.n → T.K j ≠ (k : Int) := fun j hj e => by
  rw [(h.inn k).2 ⟨j, hj, e⟩] at hk
  cases hk
theorem Abs.find_out (h : Abs T I W) (hk : I k = false) : T.find (k : Int) = -1 := by
  unfold Tb.find
  rw [if_neg (by omega)]
  exact (h.good.search_out (h.absent hk)).1
theorem Abs.get (h : Abs T I W) (k : Nat) : T.get (k : Int) = if I k = true then W k else -1 := by
  cases hk : I k with
  | true =>
    obtain ⟨j, hj, e, _, eK⟩ := h.find_in hk
    unfold Tb.get
    rw [e, if_neg (by omega), Int.toNat_natCast, h.val j hj k eK]
    rfl
  | false =>
    unfold Tb.get
    rw [h.find_out hk]
    rfl
theorem Abs.put_in (h : Abs T I W) (hk : I k = true) (v : Int) : T.putC (k : Int) = 13 ∧ T.put (k : Int) v = T := by
  obtain ⟨j, hj, _, e, _⟩ := h.find_in hk
  have h1 : T.putC (k : Int) = 13 := by
    unfold Tb.putC
    rw [e, if_neg (by omega), if_pos (by simp)]
  refine ⟨h1, ?_⟩
  unfold Tb.put
  rw [h1]
  rfl
theorem Abs.put_full (h : Abs T I W) (hk : I k = false) (hc : T.cnt = T.n) (v : Int) : T.putC (k : Int) = 8 ∧ T.put (k : Int) v = T := by
  obtain ⟨e1, e2⟩ := h.good.search_out (h.absent hk)
  have h1 : T.putC (k : Int) = 8 := by
    unfold Tb.putC
    rw [if_neg (by omega), e1, if_neg (by omega)]
    rcases e2 with ⟨e2, _⟩ | ⟨d, hd, e2, e3, _⟩
    · rw [if_pos e2]
    · have := cnt_full hc (j := (place (k : Int) T.n + d) % T.n) (Nat.mod_lt _ h.good.pos)
      have := of_decide_eq_true this
      omega
  refine ⟨h1, ?_⟩
  unfold Tb.put
  rw [h1]
  rfl
theorem Abs.put_new (h : Abs T I W) (hk : I k = false) (hc : T.cnt < T.n) (v : Int) :
    T.putC (k : Int) = 0 ∧ Abs (T.put (k : Int) v) (upd I k true) (upd W k v) ∧ (T.put (k : Int) v).cnt = T.cnt + 1 := by
  have hab := h.absent hk
  obtain ⟨e1, e2⟩ := h.good.search_out hab
  rcases e2 with ⟨_, e2⟩ | ⟨d, hd, e2, e3, e4⟩
  · omega
  have hp := h.good.pos
  have hm : (place (k : Int) T.n + d) % T.n < T.n := Nat.mod_lt _ hp
  generalize hJ : (place (k : Int) T.n + d) % T.n = J at *
  have h1 : T.putC (k : Int) = 0 := by
    unfold Tb.putC
    rw [if_neg (by omega), e1, if_neg (by omega), e2, if_neg (by omega)]
  have h2 : T.put (k : Int) v = T.set J (k : Int) v := by
    unfold Tb.put
    rw [h1, e2]
    rfl
  rw [h2]
  have hne : ∀ x : Nat, T.K x ≠ -1 → upd T.K J (k : Int) x ≠ -1 := fun x hx => by
    by_cases e : x = J
    · subst e; rw [upd_same]; omega
    · rw [upd_other _ _ e]; exact hx
  refine ⟨h1, ⟨⟨hp, fun j hj => ?_, fun j hj hK => ?_, fun i j hi hj h0 hK => ?_⟩, fun m => ?_, fun j hj m hK => ?_⟩, cnt_set_on hm e3 (by omega)⟩
  · show -2 ≤ upd T.K J (k : Int) j
    by_cases e : j = J
    · subst e; rw [upd_same]; omega
    · rw [upd_other _ _ e]; exact h.good.lo j hj
  · change 0 ≤ upd T.K J (k : Int) j at hK
    show ∃ d, d < T.n ∧ (place (upd T.K J (k : Int) j) T.n + d) % T.n = j ∧ ∀ e, e < d → upd T.K J (k : Int) ((place (upd T.K J (k : Int) j) T.n + e) % T.n) ≠ -1
    by_cases e : j = J
    · subst e
      rw [upd_same]
      exact ⟨d, hd, hJ, fun e he => hne _ (e4 e he)⟩
    · rw [upd_other _ _ e] at hK ⊢
      obtain ⟨d', a1, a2, a3⟩ := h.good.way j hj hK
      exact ⟨d', a1, a2, fun e he => hne _ (a3 e he)⟩
  · change 0 ≤ upd T.K J (k : Int) i at h0
    change upd T.K J (k : Int) i = upd T.K J (k : Int) j at hK
    by_cases ei : i = J
    · by_cases ej : j = J
      · omega
      · subst ei
        rw [upd_same, upd_other _ _ ej] at hK
        exact absurd hK.symm (hab j hj)
    · by_cases ej : j = J
      · subst ej
        rw [upd_same, upd_other _ _ ei] at hK
        exact absurd hK (hab i hi)
      · rw [upd_other _ _ ei] at h0 hK
        rw [upd_other _ _ ej] at hK
        exact h.good.uniq i j hi hj h0 hK
  · show upd I k true m = true ↔ ∃ j, j < T.n ∧ upd T.K J (k : Int) j = (m : Int)
    by_cases em : m = k
    · subst em
      rw [upd_same]
      exact ⟨fun _ => ⟨J, hm, upd_same _ _ _⟩, fun _ => rfl⟩
    · rw [upd_other _ _ em, h.inn m]
      constructor
      · rintro ⟨j, hj, e⟩
        refine ⟨j, hj, ?_⟩
        rw [upd_other _ _ (fun x => by subst x; omega)]
        exact e
      · rintro ⟨j, hj, e⟩
        by_cases ej : j = J
        · subst ej; rw [upd_same] at e; omega
        · rw [upd_other _ _ ej] at e; exact ⟨j, hj, e⟩
  · change upd T.K J (k : Int) j = (m : Int) at hK
    show upd T.V J v j = upd W k v m
    by_cases ej : j = J
    · subst ej
      rw [upd_same] at hK ⊢
      have : m = k := by omega
      subst this
      rw [upd_same]
    · rw [upd_other _ _ ej] at hK ⊢
      have : m ≠ k := fun x => by subst x; exact hab j hj hK
      rw [upd_other _ _ this]
      exact h.val j hj m hK
theorem Abs.out_none (h : Abs T I W) (hk : I k = false) : T.get (k : Int) = -1 ∧ T.out (k : Int) = T := by
  have := h.find_out hk
  constructor
  · unfold Tb.get; rw [this]; rfl
  · unfold Tb.out; rw [this]; rfl
theorem Abs.out_some (h : Abs T I W) (hk : I k = true) :
    T.get (k : Int) = W k ∧ Abs (T.out (k : Int)) (upd I k false) W ∧ (T.out (k : Int)).cnt + 1 = T.cnt ∧ ((T.out (k : Int)).cnt = 0 → T.out (k : Int) = fresh T.n) := by
  obtain ⟨J, hJ, e1, _, e2⟩ := h.find_in hk
  have hg := h.get k
  rw [hk] at hg
  refine ⟨hg, ?_⟩
  have hc := cnt_set_off (T := T) hJ (by omega) (k := -2) (v := 0) (by omega)
  have hne : ∀ x : Nat, T.K x ≠ -1 → upd T.K J (-2) x ≠ -1 := fun x hx => by
    by_cases e : x = J
    · subst e; rw [upd_same]; omega
    · rw [upd_other _ _ e]; exact hx
  have ha : Abs (T.set J (-2) 0) (upd I k false) W := by
    refine ⟨⟨h.good.pos, fun j hj => ?_, fun j hj hK => ?_, fun i j hi hj h0 hK => ?_⟩, fun m => ?_, fun j hj m hK => ?_⟩
    · show -2 ≤ upd T.K J (-2) j
      by_cases e : j = J
      · subst e; rw [upd_same]; omega
      · rw [upd_other _ _ e]; exact h.good.lo j hj
    · change 0 ≤ upd T.K J (-2) j at hK
      show ∃ d, d < T.n ∧ (place (upd T.K J (-2) j) T.n + d) % T.n = j ∧ ∀ e, e < d → upd T.K J (-2) ((place (upd T.K J (-2) j) T.n + e) % T.n) ≠ -1
      by_cases e : j = J
      · subst e; rw [upd_same] at hK; omega
      · rw [upd_other _ _ e] at hK ⊢
        obtain ⟨d', a1, a2, a3⟩ := h.good.way j hj hK
        exact ⟨d', a1, a2, fun e he => hne _ (a3 e he)⟩
    · change 0 ≤ upd T.K J (-2) i at h0
      change upd T.K J (-2) i = upd T.K J (-2) j at hK
      by_cases ei : i = J
      · subst ei; rw [upd_same] at h0; omega
      · by_cases ej : j = J
        · subst ej; rw [upd_same] at hK; omega
        · rw [upd_other _ _ ei] at h0 hK
          rw [upd_other _ _ ej] at hK
          exact h.good.uniq i j hi hj h0 hK
    · show upd I k false m = true ↔ ∃ j, j < T.n ∧ upd T.K J (-2) j = (m : Int)
      by_cases em : m = k
      · subst em
        rw [upd_same]
        refine ⟨fun x => (by cases x), fun ⟨j, hj, e⟩ => ?_⟩
        by_cases ej : j = J
        · subst ej; rw [upd_same] at e; omega
        · rw [upd_other _ _ ej] at e
          exact absurd (h.good.uniq j J hj hJ (by omega) (by omega)) ej
      · rw [upd_other _ _ em, h.inn m]
        constructor
        · rintro ⟨j, hj, e⟩
          refine ⟨j, hj, ?_⟩
          rw [upd_other _ _ (fun x => by subst x; omega)]
          exact e
        · rintro ⟨j, hj, e⟩
          by_cases ej : j = J
          · subst ej; rw [upd_same] at e; omega
          · rw [upd_other _ _ ej] at e; exact ⟨j, hj, e⟩
    · change upd T.K J (-2) j = (m : Int) at hK
      show upd T.V J 0 j = W m
      by_cases ej : j = J
      · subst ej; rw [upd_same] at hK; omega
      · rw [upd_other _ _ ej] at hK ⊢
        exact h.val j hj m hK
  by_cases hz : (T.set J (-2) 0).cnt = 0
  · have ho : T.out (k : Int) = fresh T.n := by
      unfold Tb.out
      rw [e1, if_neg (by omega), Int.toNat_natCast, if_pos hz]
    rw [ho, cnt_fresh]
    refine ⟨?_, by omega, fun _ => rfl⟩
    have hI : upd I k false = fun _ => false := by
      funext m
      cases hm : upd I k false m with
      | false => rfl
      | true =>
        obtain ⟨j, hj, e⟩ := (ha.inn m).1 hm
        have := cnt_zero hz (j := j) hj
        have := of_decide_eq_false this
        omega
    rw [hI]
    exact abs_fresh h.good.pos W
  · have ho : T.out (k : Int) = T.set J (-2) 0 := by
      unfold Tb.out
      rw [e1, if_neg (by omega), Int.toNat_natCast, if_neg hz]
    rw [ho]
    exact ⟨ha, hc, fun x => absurd x hz⟩
end
#print axioms Abs.out_some
end Go.Proofs.Ytcmhkknoffeebaa.TabM
