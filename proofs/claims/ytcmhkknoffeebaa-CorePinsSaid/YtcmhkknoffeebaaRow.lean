/-
  A block whose cells are told by a function ('Row'), and the links of a list as such a block; no function is named here.
-/
import Derived.Test.YtcmhkknoffeebaaBlk
import Derived.Test.YtcmhkknoffeebaaListMath
namespace Go.Proofs.Ytcmhkknoffeebaa.Rowed
open Go.RowKit
open Go.Proofs.Ytcmhkknoffeebaa.Mem Go.Proofs.Ytcmhkknoffeebaa.Blk Go.Proofs.Ytcmhkknoffeebaa.ListM

/-- Block b holds in its first n cells the values 'f i', and may be written. -/
def Row (w : World) (b n : Nat) (f : Nat → Value) : Prop := ∃ cur t, w.heap[b]? = some (.cells cur t (0, 0)) ∧ n ≤ cur.size ∧ ∀ i, i < n → cur[i]? = some (f i)

section
variable {w w' : World} {b n : Nat} {f g : Nat → Value} {F : Nat → Prop}
theorem Row.lt (h : Row w b n f) : b < w.heap.size := by
  obtain ⟨c, t, hb, _, _⟩ := h
  exact (Array.getElem?_eq_some_iff.1 hb).1
theorem Row.cell (h : Row w b n f) {i : Nat} (hi : i < n) : w.cell? ⟨b, i, none⟩ = some (f i) := by
  obtain ⟨c, t, hb, _, hc⟩ := h
  simp [World.cell?, hb, hc i hi]
theorem Row.frozen (h : Row w b n f) (i : Nat) : w.frozen? ⟨b, i, none⟩ = false := by
  obtain ⟨c, t, hb, _, _⟩ := h
  simp [World.frozen?, hb]
theorem Row.congr (h : Row w b n f) (e : ∀ i, i < n → f i = g i) : Row w b n g := by
  obtain ⟨c, t, hb, hn, hc⟩ := h
  exact ⟨c, t, hb, hn, fun i hi => by rw [hc i hi, e i hi]⟩
theorem Row.of_block (h : Row w b n f) (e : w'.heap[b]? = w.heap[b]?) : Row w' b n f := by
  obtain ⟨c, t, hb, hn, hc⟩ := h
  exact ⟨c, t, e.trans hb, hn, hc⟩
theorem Row.kept (h : Row w b n f) (hk : Kept F w w') (hf : ¬ F b) : Row w' b n f := h.of_block (hk.block b h.lt hf)
theorem Row.set (h : Row w b n f) (i : Nat) (v : Value) : Row (w.setCell ⟨b, i, none⟩ v) b n (fun j => if j = i then v else f j) := by
  obtain ⟨c, t, hb, hn, hc⟩ := h
  refine ⟨c.setIfInBounds i v, t, ?_, by simpa using hn, fun j hj => ?_⟩
  · simp [World.setCell, Array.getElem?_modify, hb]
  · rw [Array.getElem?_setIfInBounds]
    by_cases e : j = i
    · subst e
      simp [show j < c.size by omega]
    · rw [if_neg (fun h => e h.symm)]
      show c[j]? = some (if j = i then v else f j)
      rw [if_neg e]
      exact hc j hj
theorem Row.other (h : Row w b n f) {p : Addr} (hp : b ≠ p.block) (v : Value) : Row (w.setCell p v) b n f := h.of_block (heap_setCell_other w p b v hp)
theorem Row.of_blk {t : TypeId} {cs : List Value} (h : Blk w b t cs) (hn : cs.length = n) (hf : ∀ i, i < n → cs[i]? = some (f i)) : Row w b n f :=
  ⟨cs.toArray, t, h, by simp [hn], fun i hi => by simpa using hf i hi⟩
end

/-! ### A list in memory -/
/-- The cell j of links. -/
def lcell (A B : Nat → Nat) (I : Nat → Bool) (j : Nat) : Value := if j % 3 = 0 then .int .i64 (A (j / 3) : Int) else if j % 3 = 1 then .int .i64 (B (j / 3) : Int) else .bool (I (j / 3))
theorem lcell0 (A B : Nat → Nat) (I : Nat → Bool) (p : Nat) : lcell A B I (p * 3) = .int .i64 (A p : Int) := by
  unfold lcell; rw [if_pos (by omega), show p * 3 / 3 = p by omega]
theorem lcell1 (A B : Nat → Nat) (I : Nat → Bool) (p : Nat) : lcell A B I (p * 3 + 1) = .int .i64 (B p : Int) := by
  unfold lcell; rw [if_neg (by omega), if_pos (by omega), show (p * 3 + 1) / 3 = p by omega]
theorem lcell2 (A B : Nat → Nat) (I : Nat → Bool) (p : Nat) : lcell A B I (p * 3 + 2) = .bool (I p) := by
  unfold lcell; rw [if_neg (by omega), if_neg (by omega), show (p * 3 + 2) / 3 = p by omega]

/-- The list at block d, its links at block D: places 0 to n, c are in. -/
structure Lnk (w : World) (d D n : Nat) (c : Int) (A B : Nat → Nat) (I : Nat → Bool) : Prop where
  hd : Row w d 2 fun j => if j = 0 then .slice (some ⟨D, 0, none⟩) (n + 1) (n + 1) else .int .i64 c
  ln : Row w D ((n + 1) * 3) (lcell A B I)
  ne : d ≠ D

/-- The blocks of a list. -/
def Own (d D k : Nat) : Prop := k = d ∨ k = D

section
variable {w w' : World} {d D n : Nat} {c : Int} {A B : Nat → Nat} {I : Nat → Bool} {F : Nat → Prop}
theorem Lnk.c0 (h : Lnk w d D n c A B I) : w.cell? ⟨d, 0, none⟩ = some (.slice (some ⟨D, 0, none⟩) (n + 1) (n + 1)) := h.hd.cell (i := 0) (by omega)
theorem Lnk.c1 (h : Lnk w d D n c A B I) : w.cell? ⟨d, 1, none⟩ = some (.int .i64 c) := h.hd.cell (i := 1) (by omega)
theorem Lnk.f0 (h : Lnk w d D n c A B I) (j : Nat) : w.frozen? ⟨d, j, none⟩ = false := h.hd.frozen j
theorem Lnk.f1 (h : Lnk w d D n c A B I) (j : Nat) : w.frozen? ⟨D, j, none⟩ = false := h.ln.frozen j
theorem Lnk.a (h : Lnk w d D n c A B I) {p : Nat} (hp : p ≤ n) : w.cell? ⟨D, p * 3, none⟩ = some (.int .i64 (A p : Int)) := by rw [h.ln.cell (by omega), lcell0]
theorem Lnk.b (h : Lnk w d D n c A B I) {p : Nat} (hp : p ≤ n) : w.cell? ⟨D, p * 3 + 1, none⟩ = some (.int .i64 (B p : Int)) := by rw [h.ln.cell (by omega), lcell1]
theorem Lnk.i (h : Lnk w d D n c A B I) {p : Nat} (hp : p ≤ n) : w.cell? ⟨D, p * 3 + 2, none⟩ = some (.bool (I p)) := by rw [h.ln.cell (by omega), lcell2]
theorem Lnk.kept (h : Lnk w d D n c A B I) (hk : Kept F w w') (hF : ∀ k, F k → ¬ Own d D k) : Lnk w' d D n c A B I :=
  ⟨h.hd.kept hk fun x => hF _ x (.inl rfl), h.ln.kept hk fun x => hF _ x (.inr rfl), h.ne⟩
theorem Lnk.lt (h : Lnk w d D n c A B I) : d < w.heap.size ∧ D < w.heap.size := ⟨h.hd.lt, h.ln.lt⟩
theorem Lnk.count (h : Lnk w d D n c A B I) (c' : Int) : Lnk (w.setCell ⟨d, 1, none⟩ (.int .i64 c')) d D n c' A B I :=
  ⟨(h.hd.set 1 _).congr fun i hi => by
    by_cases e : i = 1
    · subst e; rfl
    · have : i = 0 := by omega
      subst this; rfl, h.ln.other h.ne.symm _, h.ne⟩
theorem Lnk.setA (h : Lnk w d D n c A B I) (p v : Nat) : Lnk (w.setCell ⟨D, p * 3, none⟩ (.int .i64 (v : Int))) d D n c (upd A p v) B I :=
  ⟨h.hd.other h.ne _, (h.ln.set (p * 3) _).congr fun i hi => by
    by_cases e : i = p * 3
    · rw [if_pos e, e, lcell0, upd_same]
    · rw [if_neg e]
      unfold lcell
      by_cases e3 : i % 3 = 0
      · rw [if_pos e3, if_pos e3, upd_other _ _ (by omega)]
      · rw [if_neg e3, if_neg e3], h.ne⟩
theorem Lnk.setB (h : Lnk w d D n c A B I) (p v : Nat) : Lnk (w.setCell ⟨D, p * 3 + 1, none⟩ (.int .i64 (v : Int))) d D n c A (upd B p v) I :=
  ⟨h.hd.other h.ne _, (h.ln.set (p * 3 + 1) _).congr fun i hi => by
    by_cases e : i = p * 3 + 1
    · rw [if_pos e, e, lcell1, upd_same]
    · rw [if_neg e]
      unfold lcell
      by_cases e3 : i % 3 = 0
      · rw [if_pos e3, if_pos e3]
      · rw [if_neg e3, if_neg e3]
        by_cases e1 : i % 3 = 1
        · rw [if_pos e1, if_pos e1, upd_other _ _ (by omega)]
        · rw [if_neg e1, if_neg e1], h.ne⟩
theorem Lnk.setI (h : Lnk w d D n c A B I) (p : Nat) (v : Bool) : Lnk (w.setCell ⟨D, p * 3 + 2, none⟩ (.bool v)) d D n c A B (upd I p v) :=
  ⟨h.hd.other h.ne _, (h.ln.set (p * 3 + 2) _).congr fun i hi => by
    by_cases e : i = p * 3 + 2
    · rw [if_pos e, e, lcell2, upd_same]
    · rw [if_neg e]
      unfold lcell
      by_cases e3 : i % 3 = 0
      · rw [if_pos e3, if_pos e3]
      · rw [if_neg e3, if_neg e3]
        by_cases e1 : i % 3 = 1
        · rw [if_pos e1, if_pos e1]
        · rw [if_neg e1, if_neg e1, upd_other _ _ (by omega)], h.ne⟩
end
theorem kept_set (w : World) (b i : Nat) (v : Value) : Kept (fun x => x = b) w (w.setCell ⟨b, i, none⟩ v) := (Kept.refl (fun x => x = b) w).setCell (p := ⟨b, i, none⟩) (fun _ => rfl) v

/-- A list of the numbers 0 to n - 1; who is in: zs. -/
structure ListAt (w : World) (d D n : Nat) (zs : List Nat) : Prop where
  lnk : ∃ A B I, Lnk w d D n (zs.length : Int) A B I ∧ Ring n A B I zs
  size : n ≤ 1024
section
variable {w w' : World} {d D n : Nat} {zs : List Nat} {F : Nat → Prop}
theorem ListAt.kept (h : ListAt w d D n zs) (hk : Kept F w w') (hF : ∀ k, F k → ¬ Own d D k) : ListAt w' d D n zs := by
  obtain ⟨A, B, I, h1, h2⟩ := h.lnk
  exact ⟨⟨A, B, I, h1.kept hk hF, h2⟩, h.size⟩
theorem ListAt.grow (h : ListAt w d D n zs) (hk : Grow w w') : ListAt w' d D n zs := h.kept hk fun _ x => x.elim
theorem ListAt.lt (h : ListAt w d D n zs) : d < w.heap.size ∧ D < w.heap.size := by
  obtain ⟨A, B, I, h1, _⟩ := h.lnk
  exact h1.lt
theorem ListAt.ring (h : ListAt w d D n zs) : zs.Nodup ∧ (∀ x ∈ zs, x < n) ∧ zs.length ≤ n := by
  obtain ⟨A, B, I, _, h2⟩ := h.lnk
  exact ⟨h2.nd, h2.lt, h2.len⟩
end
#print axioms ListAt.kept
end Go.Proofs.Ytcmhkknoffeebaa.Rowed
