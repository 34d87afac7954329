/-
  A block whose cells are told by a function ('Row'); no function is named here.
-/
import Derived.Test.YtabmefffeafifaaBlk
namespace Go.Proofs.Ytabmefffeafifaa.Cells
open Go.RowKit
open Go.Proofs.Ytabmefffeafifaa.Mem Go.Proofs.Ytabmefffeafifaa.Blk

/-- Block b holds in its first n cells the values 'f i', and may be written. -/
def Row (w : World) (b n : Nat) (f : Nat → Value) : Prop := ∃ cur t, w.heap[b]? = some (.cells cur t (0, 0)) ∧ n ≤ cur.size ∧ ∀ i, i < n → cur[i]? = some (f i)

section
variable {w w' : World} {b n : Nat} {f g : Nat → Value} {F : Nat → Prop}
theorem Row.lt (h : Row w b n f) : b < w.heap.size := by
  obtain ⟨c, t, hb, _, _⟩ := h
  exact (Array.getElem?_eq_some_iff.1 hb).1
theorem Row.cell (h : Row w b n f) {i : Nat} (hi : i < n) : w.cell? ⟨b, i, none⟩ = some (f i) := by
  obtain ⟨c, t, hb, _, hc⟩ := h
  simp [World.cell?, hb, hc i hi]
theorem Row.frozen (h : Row w b n f) (i : Nat) : w.frozen? ⟨b, i, none⟩ = false := by
  obtain ⟨c, t, hb, _, _⟩ := h
  simp [World.frozen?, hb]
theorem Row.congr (h : Row w b n f) (e : ∀ i, i < n → f i = g i) : Row w b n g := by
  obtain ⟨c, t, hb, hn, hc⟩ := h
  exact ⟨c, t, hb, hn, fun i hi => by rw [hc i hi, e i hi]⟩
theorem Row.of_block (h : Row w b n f) (e : w'.heap[b]? = w.heap[b]?) : Row w' b n f := by
  obtain ⟨c, t, hb, hn, hc⟩ := h
  exact ⟨c, t, e.trans hb, hn, hc⟩
theorem Row.kept (h : Row w b n f) (hk : Kept F w w') (hf : ¬ F b) : Row w' b n f := h.of_block (hk.block b h.lt hf)
theorem Row.set (h : Row w b n f) (i : Nat) (v : Value) : Row (w.setCell ⟨b, i, none⟩ v) b n (fun j => if j = i then v else f j) := by
  obtain ⟨c, t, hb, hn, hc⟩ := h
  refine ⟨c.setIfInBounds i v, t, ?_, by simpa using hn, fun j hj => ?_⟩
  · simp [World.setCell, Array.getElem?_modify, hb]
  · rw [Array.getElem?_setIfInBounds]
    by_cases e : j = i
    · subst e
      simp [show j < c.size by omega]
    · rw [if_neg (fun h => e h.symm)]
      show c[j]? = some (if j = i then v else f j)
      rw [if_neg e]
      exact hc j hj
theorem Row.other (h : Row w b n f) {p : Addr} (hp : b ≠ p.block) (v : Value) : Row (w.setCell p v) b n f := h.of_block (heap_setCell_other w p b v hp)
theorem Row.of_blk {t : TypeId} {cs : List Value} (h : Blk w b t cs) (hn : cs.length = n) (hf : ∀ i, i < n → cs[i]? = some (f i)) : Row w b n f :=
  ⟨cs.toArray, t, h, by simp [hn], fun i hi => by simpa using hf i hi⟩
end

theorem kept_set (w : World) (b i : Nat) (v : Value) : Kept (fun x => x = b) w (w.setCell ⟨b, i, none⟩ v) := (Kept.refl (fun x => x = b) w).setCell (p := ⟨b, i, none⟩) (fun _ => rfl) v
end Go.Proofs.Ytabmefffeafifaa.Cells
