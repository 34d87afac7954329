/-
  Histories as mathematics (chapter 14): events, the first look, the order of stamps, what the model makes of them; no function is named here.
-/
import Derived.Test.YtjdlpknflhgkfaaMdMath
namespace Go.Proofs.Ytjdlpknflhgkfaa.HsM
open Go.Proofs.Ytjdlpknflhgkfaa.MdM

/-- An event: client, call, what came of it, when it began, took effect, ended. -/
structure Ev where
  c : Int
  o : MdOp
  r : Re
  b : Int
  s : Int
  e : Int
/-- Began, took effect and ended in turn. -/
def inTn (b s e : Int) : Prop := if 0 < e then b ≤ s ∧ s ≤ e else e = 0 ∧ (s = 0 ∨ b ≤ s)
def inT (x : Ev) : Prop := inTn x.b x.s x.e
/-- The first look at one event. -/
structure okAt (L : Nat → Ev) (N : Int) (i : Nat) : Prop where
  cl : 0 ≤ (L i).c ∧ (L i).c < N
  bg : 0 < (L i).b
  mono : ∀ k, k + 1 = i → (L k).b ≤ (L i).b
  tm : inT (L i)
  busy : ∀ k, k < i → (L k).c = (L i).c → 0 < (L k).e ∧ (L k).e < (L i).b
/-- r is 0 if all is right by itself, else the number of the first that is not. -/
def Fst (L : Nat → Ev) (N : Int) (n : Nat) (r : Int) : Prop := (r = 0 ∧ ∀ i, i < n → okAt L N i) ∨ ∃ i, i < n ∧ r = (i : Int) + 1 ∧ ¬ okAt L N i ∧ ∀ k, k < i → okAt L N k
/-- One event took effect ahead of another one. -/
def lt (L : Nat → Ev) (i j : Nat) : Prop := (L i).s < (L j).s ∨ (L i).s = (L j).s ∧ i < j
/-- l: the places of those that took effect, in turn. -/
def Ord (L : Nat → Ev) (n : Nat) (l : List Nat) : Prop := (∀ i, i ∈ l ↔ i < n ∧ 0 < (L i).s) ∧ l.Pairwise (lt L)
/-- May a call of this kind tell this code though the model would not. -/
def badC (k c : Int) : Prop := (c = 8 ∧ (k = 1 ∨ k = 2)) ∨ (c = 9 ∧ (k = 1 ∨ k = 2 ∨ k = 6 ∨ k = 7)) ∨ (c = 10 ∧ k = 2)
def badE (x : Ev) : Prop := badC x.o.k x.r.c ∧ x.r.p = 0 ∧ x.r.h = 0 ∧ x.r.d = []
open Classical in
/-- What the model makes of an event; none: it is wrong. -/
noncomputable def evStep (a : Md) (x : Ev) : Option Md := if x.e = 0 ∨ x.r = (a.run x.c x.o).1 then some (a.run x.c x.o).2 else if badE x then some a else none
/-- All events of an order: 0 and the state behind them, or the number of the first wrong one. -/
noncomputable def runL (L : Nat → Ev) : List Nat → Md → Int × Md
  | [], a => (0, a)
  | i :: l, a => match evStep a (L i) with
    | some a' => runL L l a'
    | none => ((i : Int) + 1, a)
def okN (p N : Int) : Prop := (1 ≤ p ∧ p ≤ 48) ∧ 1 ≤ N ∧ N ≤ 6
def fresh' (p N : Int) : Md := fresh p.toNat N.toNat
/-- What is told of a history. -/
def Chk (L : Nat → Ev) (n : Nat) (p N r : Int) : Prop :=
  (¬ okN p N ∧ r = -1) ∨ (okN p N ∧ ((Fst L N n r ∧ r ≠ 0) ∨ (Fst L N n 0 ∧ ∃ l, Ord L n l ∧ r = (runL L l (fresh' p N)).1)))
/-- The history is right, and a is the state behind it. -/
def Fin (L : Nat → Ev) (n : Nat) (p N : Int) (a : Md) : Prop := okN p N ∧ Fst L N n 0 ∧ ∃ l, Ord L n l ∧ runL L l (fresh' p N) = (0, a)

section
variable {L M : Nat → Ev} {N p r r' : Int} {n : Nat} {l l' : List Nat} {a a' : Md}
theorem fst_unique (h : Fst L N n r) (h' : Fst L N n r') : r = r' := by
  rcases h with ⟨rfl, h⟩ | ⟨i, hi, rfl, hn, hb⟩
  · rcases h' with ⟨rfl, _⟩ | ⟨i, hi, _, hn, _⟩
    · rfl
    · exact absurd (h i hi) hn
  · rcases h' with ⟨_, h'⟩ | ⟨j, hj, rfl, hn', hb'⟩
    · exact absurd (h' i hi) hn
    · have : i = j := by
        rcases Nat.lt_trichotomy i j with e | e | e
        · exact absurd (hb' i e) hn
        · exact e
        · exact absurd (hb j e) hn'
      rw [this]
theorem lt_irr (i : Nat) : ¬ lt L i i := by unfold lt; omega
theorem lt_tr {i j k : Nat} (h : lt L i j) (h' : lt L j k) : lt L i k := by unfold lt at *; omega
theorem lt_tot {i j : Nat} (h : i ≠ j) : lt L i j ∨ lt L j i := by unfold lt; omega
theorem ord_unique_aux : ∀ (l l' : List Nat), (∀ i, i ∈ l ↔ i ∈ l') → l.Pairwise (lt L) → l'.Pairwise (lt L) → l = l'
  | [], [], _, _, _ => rfl
  | [], y :: _, h, _, _ => by have := (h y).2 (List.mem_cons_self ..); cases this
  | x :: _, [], h, _, _ => by have := (h x).1 (List.mem_cons_self ..); cases this
  | x :: l, y :: l', h, p1, p2 => by
    rw [List.pairwise_cons] at p1 p2
    have e : x = y := by
      rcases List.mem_cons.1 ((h x).1 (List.mem_cons_self ..)) with e | e
      · exact e
      · rcases List.mem_cons.1 ((h y).2 (List.mem_cons_self ..)) with e' | e'
        · exact e'.symm
        · exact absurd (lt_tr (p1.1 y e') (p2.1 x e)) (lt_irr x)
    subst e
    have : l = l' := ord_unique_aux l l' (fun i => by
      constructor
      · intro hi
        rcases List.mem_cons.1 ((h i).1 (List.mem_cons_of_mem _ hi)) with e | e
        · subst e; exact absurd (p1.1 i hi) (lt_irr i)
        · exact e
      · intro hi
        rcases List.mem_cons.1 ((h i).2 (List.mem_cons_of_mem _ hi)) with e | e
        · subst e; exact absurd (p2.1 i hi) (lt_irr i)
        · exact e) p1.2 p2.2
    rw [this]
theorem ord_unique (h : Ord L n l) (h' : Ord L n l') : l = l' := ord_unique_aux l l' (fun i => (h.1 i).trans (h'.1 i).symm) h.2 h'.2
theorem ord_nodup (h : Ord L n l) : l.Nodup := h.2.imp fun {i j} hij e => by subst e; exact lt_irr i hij
theorem ord_lt (h : Ord L n l) {i : Nat} (hi : i ∈ l) : i < n ∧ 0 < (L i).s := (h.1 i).1 hi
/-- The order looks at stamps alone. -/
theorem ord_congr (h : Ord L n l) (e : ∀ i, i < n → (M i).s = (L i).s) : Ord M n l := by
  refine ⟨fun i => ?_, ?_⟩
  · rw [h.1 i]
    constructor
    · rintro ⟨hi, hs⟩
      exact ⟨hi, by rw [e i hi]; exact hs⟩
    · rintro ⟨hi, hs⟩
      exact ⟨hi, by rw [← e i hi]; exact hs⟩
  · refine List.Pairwise.imp_of_mem (fun {i j} hi hj hij => ?_) h.2
    have h1 := (ord_lt h hi).1
    have h2 := (ord_lt h hj).1
    unfold lt at *
    rw [e i h1, e j h2]
    exact hij
theorem chk_unique (h : Chk L n p N r) (h' : Chk L n p N r') : r = r' := by
  rcases h with ⟨h, rfl⟩ | ⟨h, h1⟩
  · rcases h' with ⟨_, rfl⟩ | ⟨h', _⟩
    · rfl
    · exact absurd h' h
  · rcases h' with ⟨h', _⟩ | ⟨_, h2⟩
    · exact absurd h h'
    · rcases h1 with ⟨h1, h0⟩ | ⟨h1, l, hl, rfl⟩
      · rcases h2 with ⟨h2, _⟩ | ⟨h2, _⟩
        · exact fst_unique h1 h2
        · exact absurd (fst_unique h1 h2) h0
      · rcases h2 with ⟨h2, h0⟩ | ⟨h2, l', hl', rfl⟩
        · exact absurd (fst_unique h2 h1) h0
        · rw [ord_unique hl hl']
theorem fin_unique (h : Fin L n p N a) (h' : Fin L n p N a') : a = a' := by
  obtain ⟨_, _, l, hl, e⟩ := h
  obtain ⟨_, _, l', hl', e'⟩ := h'
  rw [ord_unique hl hl', e'] at e
  injection e with _ e
  exact e.symm
theorem runL_none : ∀ (l : List Nat) (a : Md), (runL L l a).1 ≠ 0 → 0 < (runL L l a).1
  | [], a, h => absurd rfl h
  | i :: l, a, h => by
    unfold runL at *
    split
    · rename_i a' he
      rw [he] at h
      exact runL_none l a' h
    · show 0 < (i : Int) + 1
      omega
theorem chk_fin (h : Chk L n p N 0) : ∃ a, Fin L n p N a := by
  rcases h with ⟨_, e⟩ | ⟨h, ⟨_, e⟩ | ⟨h1, l, hl, e⟩⟩
  · omega
  · exact absurd rfl e
  · exact ⟨(runL L l (fresh' p N)).2, h, h1, l, hl, Prod.ext e.symm rfl⟩
theorem fin_chk (h : Fin L n p N a) : Chk L n p N 0 := by
  obtain ⟨h, h1, l, hl, e⟩ := h
  exact .inr ⟨h, .inr ⟨h1, l, hl, by rw [e]⟩⟩
theorem fin_iff (h : Chk L n p N r) : r = 0 ↔ ∃ a, Fin L n p N a :=
  ⟨fun e => chk_fin (e ▸ h), fun ⟨_, ha⟩ => chk_unique h (fin_chk ha)⟩
/-- The model tells no code that Bad lets pass. -/
theorem run_code (a : Md) (c : Int) (o : MdOp) : (a.run c o).1.c ≤ 7 := by
  have he : ∀ k : Int, k ≤ 7 → ((err k, a) : Re × Md).1.c ≤ 7 := fun k h => h
  have hp : ∀ (p : Int) (f : Nat → Re × Md), (∀ q, (f q).1.c ≤ 7) → (a.onPage p f).1.c ≤ 7 := fun p f h => by
    unfold Md.onPage
    split
    · exact he _ (by omega)
    · split
      · exact he _ (by omega)
      · exact h _
  have hh : ∀ (c h : Int) (f : Nat → Re × Md), (∀ q, (f q).1.c ≤ 7) → (a.onHand c h f).1.c ≤ 7 := fun c h f hf => by
    unfold Md.onHand
    split
    · exact he _ (by omega)
    · exact hf _
  have z7 : (0 : Int) ≤ 7 := by omega
  unfold Md.run
  split
  · exact he _ (by omega)
  split
  · unfold Md.new
    split
    · exact he _ (by omega)
    · split
      · exact he _ (by omega)
      · exact z7
  split
  · exact hp _ _ fun q => by
      unfold Md.fetch
      split
      · exact he _ (by omega)
      · exact z7
  split
  · exact hh _ _ _ fun q => by
      unfold Md.read
      split
      · exact he _ (by omega)
      · exact z7
  split
  · exact hh _ _ _ fun q => by
      unfold Md.write
      split
      · exact he _ (by omega)
      · exact z7
  split
  · exact hh _ _ _ fun q => z7
  split
  · exact hp _ _ fun q => z7
  split
  · exact z7
  · exact hp _ _ fun q => by
      unfold Md.del
      split
      · exact he _ (by omega)
      · exact z7
theorem badC_code {k c : Int} (h : badC k c) : 8 ≤ c := by unfold badC at h; omega
/-- What is let pass is not what the model tells. -/
theorem bad_run {x : Ev} (h : badC x.o.k x.r.c) : x.r ≠ (a.run x.c x.o).1 := fun e => by
  have h1 := badC_code h
  have h2 := run_code a x.c x.o
  rw [← e] at h2
  omega
theorem step_yes {x : Ev} (h : x.e = 0 ∨ x.r = (a.run x.c x.o).1) : evStep a x = some (a.run x.c x.o).2 := if_pos h
theorem step_bad {x : Ev} (h0 : x.e ≠ 0) (hb : badE x) : evStep a x = some a := by
  unfold evStep
  rw [if_neg (fun h => h.elim h0 (bad_run hb.1)), if_pos hb]
theorem step_no {x : Ev} (h0 : ¬ (x.e = 0 ∨ x.r = (a.run x.c x.o).1)) (hb : ¬ badE x) : evStep a x = none := by
  unfold evStep
  rw [if_neg h0, if_neg hb]
theorem runL_nil (a : Md) : runL L [] a = (0, a) := rfl
theorem runL_some {i : Nat} {l : List Nat} (h : evStep a (L i) = some a') : runL L (i :: l) a = runL L l a' := by
  show (match evStep a (L i) with | some a' => runL L l a' | none => ((i : Int) + 1, a)) = _
  rw [h]
theorem runL_stop {i : Nat} {l : List Nat} (h : evStep a (L i) = none) : runL L (i :: l) a = ((i : Int) + 1, a) := by
  show (match evStep a (L i) with | some a' => runL L l a' | none => ((i : Int) + 1, a)) = _
  rw [h]
/-- A run of two parts. -/
theorem runL_append : ∀ (l l' : List Nat) (a a' : Md), runL L l a = (0, a') → runL L (l ++ l') a = runL L l' a'
  | [], l', a, a', h => by
    rw [runL_nil] at h
    injection h with _ h
    rw [h]; rfl
  | i :: l, l', a, a', h => by
    cases he : evStep a (L i) with
    | some b =>
      rw [runL_some he] at h
      rw [List.cons_append, runL_some he]
      exact runL_append l l' b a' h
    | none =>
      rw [runL_stop he] at h
      injection h with h _
      omega
theorem runL_congr {M : Nat → Ev} : ∀ (l : List Nat) (a : Md), (∀ i, i ∈ l → M i = L i) → runL M l a = runL L l a
  | [], a, _ => rfl
  | i :: l, a, h => by
    have e := h i (List.mem_cons_self ..)
    have ih := fun a' => runL_congr l a' fun j hj => h j (List.mem_cons_of_mem _ hj)
    cases he : evStep a (L i) with
    | some b => rw [runL_some he, runL_some (L := M) (by rw [e]; exact he)]; exact ih b
    | none => rw [runL_stop he, runL_stop (L := M) (by rw [e]; exact he)]
/-- The first look speaks of an event and those ahead of it. -/
theorem ok_congr {i : Nat} (h : okAt L N i) (e : ∀ k, k ≤ i → (M k).c = (L k).c ∧ (M k).b = (L k).b ∧ (M k).s = (L k).s ∧ (M k).e = (L k).e) : okAt M N i := by
  obtain ⟨e1, e2, e3, e4⟩ := e i (Nat.le_refl i)
  refine ⟨by rw [e1]; exact h.cl, by rw [e2]; exact h.bg, fun k hk => ?_, ?_, fun k hk hc => ?_⟩
  · rw [e2, (e k (by omega)).2.1]; exact h.mono k hk
  · have := h.tm
    unfold inT at *
    rw [e2, e3, e4]
    exact this
  · rw [e1, (e k (by omega)).1] at hc
    rw [e2, (e k (by omega)).2.2.2]
    exact h.busy k hk hc
theorem fst_congr {r : Int} (h : Fst L N n r) (e : ∀ k, k < n → (M k).c = (L k).c ∧ (M k).b = (L k).b ∧ (M k).s = (L k).s ∧ (M k).e = (L k).e) : Fst M N n r := by
  rcases h with ⟨h0, h⟩ | ⟨i, hi, hr, hn, hb⟩
  · exact .inl ⟨h0, fun i hi => ok_congr (h i hi) fun k hk => e k (by omega)⟩
  · refine .inr ⟨i, hi, hr, fun h => hn (ok_congr (L := M) h fun k hk => ?_), fun k hk => ok_congr (hb k hk) fun j hj => e j (by omega)⟩
    obtain ⟨e1, e2, e3, e4⟩ := e k (by omega)
    exact ⟨e1.symm, e2.symm, e3.symm, e4.symm⟩
theorem ok_end {i : Nat} (h : okAt L N i) : 0 ≤ (L i).e := by
  have := h.tm
  unfold inT inTn at this
  split at this <;> omega
end
/-- What a call tells is bytes. -/
def Byt (x : Re × Md) : Prop := Bytes x.1.d
theorem run_bytes {a : Md} (g : MdM.Good a) (c : Int) (o : MdOp) : Byt (a.run c o) := by
  have he : ∀ k, Byt (err k, a) := fun k c h => by cases h
  have hz : ∀ c p h m, Byt (⟨c, p, h, []⟩, m) := fun c p h m x hx => by cases hx
  have hp : ∀ (p : Int) (f : Nat → Re × Md), (∀ q, Byt (f q)) → Byt (a.onPage p f) := fun p f h => by
    unfold Md.onPage
    split
    · exact he _
    · split
      · exact he _
      · exact h _
  have hh : ∀ (c h : Int) (f : Nat → Re × Md), (∀ q, Byt (f q)) → Byt (a.onHand c h f) := fun c h f hf => by
    unfold Md.onHand
    split
    · exact he _
    · exact hf _
  unfold Md.run
  split
  · exact he _
  split
  · unfold Md.new
    split
    · exact he _
    · split
      · exact he _
      · exact hz _ _ _ _
  split
  · exact hp _ _ fun q => by
      unfold Md.fetch
      split
      · exact he _
      · exact hz _ _ _ _
  split
  · exact hh _ _ _ fun q => by
      unfold Md.read
      split
      · exact he _
      · exact fun x hx => g.byt q x (List.mem_of_mem_drop (List.mem_of_mem_take hx))
  split
  · exact hh _ _ _ fun q => by
      unfold Md.write
      split
      · exact he _
      · exact hz _ _ _ _
  split
  · exact hh _ _ _ fun q => hz _ _ _ _
  split
  · exact hp _ _ fun q => hz _ _ _ _
  split
  · exact hz _ _ _ _
  · exact hp _ _ fun q => by
      unfold Md.del
      split
      · exact he _
      · exact hz _ _ _ _
/-- What a call tells is at most a page. -/
theorem run_dlen {a : Md} (g : MdM.Good a) (c : Int) (o : MdOp) : (a.run c o).1.d.length ≤ 16 := by
  have he : ∀ k, ((err k, a) : Re × Md).1.d.length ≤ 16 := fun k => Nat.zero_le _
  have hz : ∀ c p h m, ((⟨c, p, h, []⟩, m) : Re × Md).1.d.length ≤ 16 := fun c p h m => Nat.zero_le _
  have hp : ∀ (p : Int) (f : Nat → Re × Md), (∀ q, (f q).1.d.length ≤ 16) → (a.onPage p f).1.d.length ≤ 16 := fun p f h => by
    unfold Md.onPage
    split
    · exact he _
    · split
      · exact he _
      · exact h _
  have hh : ∀ (c h : Int) (f : Nat → Re × Md), (∀ q, (f q).1.d.length ≤ 16) → (a.onHand c h f).1.d.length ≤ 16 := fun c h f hf => by
    unfold Md.onHand
    split
    · exact he _
    · exact hf _
  unfold Md.run
  split
  · exact he _
  split
  · unfold Md.new
    split
    · exact he _
    · split
      · exact he _
      · exact hz _ _ _ _
  split
  · exact hp _ _ fun q => by
      unfold Md.fetch
      split
      · exact he _
      · exact hz _ _ _ _
  split
  · exact hh _ _ _ fun q => by
      unfold Md.read
      split
      · exact he _
      · show (((a.B q).drop o.o.toNat).take o.n.toNat).length ≤ 16
        rw [List.length_take, List.length_drop, g.len q]
        omega
  split
  · exact hh _ _ _ fun q => by
      unfold Md.write
      split
      · exact he _
      · exact he _
  split
  · exact hh _ _ _ fun q => he _
  split
  · exact hp _ _ fun q => he _
  split
  · exact he _
  · exact hp _ _ fun q => by
      unfold Md.del
      split
      · exact he _
      · exact he _
#print axioms chk_unique
end Go.Proofs.Ytjdlpknflhgkfaa.HsM
