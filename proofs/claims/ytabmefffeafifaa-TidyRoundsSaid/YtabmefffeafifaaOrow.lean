/-
  A block of the call's own that holds elements of some cells each ('OR'), all its room there: stores, append of one element; a slice that is nil or such a block ('OS'). No function is named here.
-/
import Derived.Test.YtabmefffeafifaaCells
import Derived.Deep.AppendLies
namespace Go.Proofs.Ytabmefffeafifaa.Orow
open Go.RowKit
open Go.Proofs.Ytabmefffeafifaa.Mem Go.Proofs.Ytabmefffeafifaa.Blk Go.Proofs.Ytabmefffeafifaa.Cells

/-- Block g: room for cap elements of s cells; the first n of them hold the values 'f i'. -/
def OR (w : World) (g : Nat) (t : TypeId) (s cap n : Nat) (f : Nat → Value) : Prop :=
  ∃ cur, w.heap[g]? = some (.cells cur t (0, 0)) ∧ cur.size = cap * s ∧ n ≤ cap ∧ cap ≤ maxLen ∧ ∀ i, i < n * s → cur[i]? = some (f i)

section
variable {w w' : World} {g s cap n : Nat} {t : TypeId} {f f' : Nat → Value} {F : Nat → Prop}
theorem OR.row (h : OR w g t s cap n f) : Row w g (n * s) f := by
  obtain ⟨cur, hb, hs, hn, _, hc⟩ := h
  exact ⟨cur, t, hb, by rw [hs]; exact Nat.mul_le_mul_right s hn, hc⟩
theorem OR.lt (h : OR w g t s cap n f) : g < w.heap.size := h.row.lt
theorem OR.cell (h : OR w g t s cap n f) {i : Nat} (hi : i < n * s) : w.cell? ⟨g, i, none⟩ = some (f i) := h.row.cell hi
theorem OR.frozen (h : OR w g t s cap n f) (i : Nat) : w.frozen? ⟨g, i, none⟩ = false := h.row.frozen i
theorem OR.le (h : OR w g t s cap n f) : n ≤ cap ∧ cap ≤ maxLen := by
  obtain ⟨cur, _, _, h1, h2, _⟩ := h
  exact ⟨h1, h2⟩
theorem OR.congr (h : OR w g t s cap n f) (e : ∀ i, i < n * s → f i = f' i) : OR w g t s cap n f' := by
  obtain ⟨cur, hb, hs, hn, hm, hc⟩ := h
  exact ⟨cur, hb, hs, hn, hm, fun i hi => by rw [hc i hi, e i hi]⟩
theorem OR.kept (h : OR w g t s cap n f) (hk : Kept F w w') (hf : ¬ F g) : OR w' g t s cap n f := by
  have hl := h.lt
  obtain ⟨cur, hb, hr⟩ := h
  exact ⟨cur, (hk.block g hl hf).trans hb, hr⟩
theorem OR.set (h : OR w g t s cap n f) (i : Nat) (v : Value) : OR (w.setCell ⟨g, i, none⟩ v) g t s cap n (fun j => if j = i then v else f j) := by
  obtain ⟨cur, hb, hs, hn, hm, hc⟩ := h
  have hle : n * s ≤ cap * s := Nat.mul_le_mul_right s hn
  refine ⟨cur.setIfInBounds i v, ?_, by simpa using hs, hn, hm, fun j hj => ?_⟩
  · simp [World.setCell, Array.getElem?_modify, hb]
  · rw [Array.getElem?_setIfInBounds]
    by_cases e : j = i
    · subst e
      simp [show j < cur.size by omega]
    · rw [if_neg (fun h => e h.symm)]
      show cur[j]? = some (if j = i then v else f j)
      rw [if_neg e]
      exact hc j hj
theorem OR.other (h : OR w g t s cap n f) {p : Addr} (hp : g ≠ p.block) (v : Value) : OR (w.setCell p v) g t s cap n f := by
  obtain ⟨cur, hb, hr⟩ := h
  exact ⟨cur, (heap_setCell_other w p g v hp).trans hb, hr⟩
theorem list_of (cur : Array Value) (m : Nat) (h : ∀ i, i < m → cur[i]? = some (f i)) : cur.toList.take m = (List.range m).map f := by
  apply List.ext_getElem?
  intro i
  rw [List.getElem?_take]
  by_cases hi : i < m
  · rw [if_pos hi, Array.getElem?_toList, h i hi]
    simp [hi]
  · rw [if_neg hi]
    simp [Nat.le_of_not_lt hi]
theorem OR.own (h : OR w g t s cap n f) (base : Nat) (hb : base ≤ g) : w.ownsRow base t s (.slice (some ⟨g, 0, none⟩) n cap) n ((List.range (n * s)).map f) := by
  obtain ⟨cur, hg, hs, hn, hm, hc⟩ := h
  exact ⟨by simp, .inr ⟨g, cap, cur, rfl, hb, hg, hn, hm, hs, list_of cur _ hc⟩⟩
theorem OR.of_own {base : Nat} {xs : List Value} (h : w.ownsRow base t s (.slice (some ⟨g, 0, none⟩) n cap) n xs) (hf : ∀ i, i < n * s → xs[i]? = some (f i)) : OR w g t s cap n f ∧ base ≤ g := by
  rcases h.2 with ⟨e, _⟩ | ⟨g', cap', cur, e, hb, hg, h1, h2, h3, h4⟩
  · cases e
  · injection e with e1 e2 e3
    injection e1 with e1
    injection e1 with e1
    subst e1 e3
    refine ⟨⟨cur, hg, h3, h1, h2, fun i hi => ?_⟩, hb⟩
    have := hf i hi
    rw [← h4, List.getElem?_take, if_pos hi] at this
    simpa using this
theorem OR.grow (h : OR w g t s cap n f) (hk : Grow w w') : OR w' g t s cap n f := h.kept hk id
end

/-- Nil, or a block of the call's own; the block lies in G. -/
def OS (w : World) (G : Nat → Prop) (v : Value) (t : TypeId) (s n : Nat) (f : Nat → Value) : Prop :=
  (v = .slice none 0 0 ∧ n = 0) ∨ ∃ g cap, v = .slice (some ⟨g, 0, none⟩) n cap ∧ OR w g t s cap n f ∧ G g

section
variable {w w' : World} {s n : Nat} {v : Value} {t : TypeId} {f u : Nat → Value} {F G : Nat → Prop}
theorem OS.form (h : OS w G v t s n f) (hn : 0 < n) : ∃ g cap, v = .slice (some ⟨g, 0, none⟩) n cap ∧ OR w g t s cap n f ∧ G g := by
  rcases h with ⟨_, e⟩ | h
  · omega
  · exact h
theorem OS.kept (h : OS w G v t s n f) (hk : Kept F w w') (hF : ∀ k, G k → ¬ F k) : OS w' G v t s n f := by
  rcases h with h | ⟨g, cap, e, ho, hg⟩
  · exact .inl h
  · exact .inr ⟨g, cap, e, ho.kept hk (hF g hg), hg⟩
theorem OS.own (h : OS w G v t s n f) : w.ownsRow 0 t s v n ((List.range (n * s)).map f) ∧ ∀ k, v.ownBlock = some k → G k ∧ k < w.heap.size := by
  rcases h with ⟨rfl, rfl⟩ | ⟨g, cap, rfl, ho, hg⟩
  · refine ⟨?_, fun k e => by cases e⟩
    rw [Nat.zero_mul]
    exact World.ownsRow_nil _ _ _ _
  · refine ⟨ho.own 0 (Nat.zero_le _), fun k e => ?_⟩
    injection e with e
    subst e
    exact ⟨hg, ho.lt⟩
/-- What a row becomes behind an append. -/
def joined (f u : Nat → Value) (m i : Nat) : Value := if i < m then f i else u (i - m)
/-- 'append(s, x)', x an element of s cells at an address. -/
theorem append_or {P : Program} (T ty : TypeId) (i : TypeInfo) (z : Value) (bytes : Nat) (hT : P.underlying T = some (.slice t)) (hi : P.info? t = some i) (hz : i.zero = some z) (hs : i.size = s) (hby : i.bytes = bytes) (hzs : z.cells.size = s) (hpos : 0 < s)
    (h : OS w G v t s n f) (hn : n ≤ 100000) (hbb : bytes ≤ 1000000) (vb : Nat) (c : Nat) (hx : ∀ j, j < s → w.cell? ⟨vb, j, none⟩ = some (u j)) (hu : ∀ j, j < s → (u j).oneCell' = true) :
    ∃ g cap w', (Builtin.append_ #[T, T] ty #[v, .slice (some ⟨vb, 0, none⟩) 1 c]).run P w = .ok (.slice (some ⟨g, 0, none⟩) (n + 1) cap) w' ∧ OR w' g t s cap (n + 1) (joined f u (n * s)) ∧ Kept (fun k => v.ownBlock = some k) w w' ∧ (v.ownBlock = some g ∨ g = w.heap.size) := by
  obtain ⟨hown, _⟩ := h.own
  have hl : (List.map u (List.range s)).length = 1 * s := by simp
  obtain ⟨g, cap, w', hr, h2, h3, h4, h5⟩ := run_append_lies (P := P) w T ty 0 t i z s bytes hT hi hz hs hby hzs hpos v n _ hown ⟨vb, 0, none⟩ 1 c ((List.range s).map u) hl
    (fun j x hj => by
      have hjs : j < s := by
        have := (List.getElem?_eq_some_iff.1 hj).1
        simpa using this
      have e : (⟨vb, 0, none⟩ : Addr).add j = ⟨vb, j, none⟩ := by unfold Addr.add; split <;> simp_all
      rw [e, hx j hjs, ← hj]
      simp [hjs])
    (fun x hx => by
      obtain ⟨j, hj, rfl⟩ := List.mem_map.1 hx
      exact hu j (List.mem_range.1 hj)) (by omega) (by unfold maxLen; omega) (by
        have : (n + 1) * bytes ≤ 100001 * 1000000 := Nat.mul_le_mul (by omega) hbb
        omega) (Nat.zero_le _) _ rfl
  refine ⟨g, cap, w', hr, (OR.of_own h2 fun i hi => ?_).1, (Kept.refl _ w).grown h3 fun k hk _ => hk, h4⟩
  have hi' : i < n * s + s := by rw [Nat.add_mul, Nat.one_mul] at hi; exact hi
  unfold joined
  by_cases e : i < n * s
  · rw [if_pos e, List.getElem?_append_left (by simpa using e)]
    simp [e]
  · rw [if_neg e, List.getElem?_append_right (by simpa using Nat.le_of_not_lt e)]
    simp [show i - n * s < s by omega]
end
#print axioms append_or
end Go.Proofs.Ytabmefffeafifaa.Orow
