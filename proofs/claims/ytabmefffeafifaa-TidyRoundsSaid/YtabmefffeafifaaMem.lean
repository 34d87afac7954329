/-
  Words for memory: a slice of integers that reads as a list, nil and empty ones let in, and how it is kept; no program is named here.
-/
import Derived.Handy
import Derived.Below
import Derived.Lib.Hide
import Derived.Deep.LoopGhost
import Derived.Deep.Draws
import Derived.Deep.AppendLies
import Derived.Laws.Rows
import Derived.Laws.BytesArg
import Derived.Lib.QuietBelow
import Derived.BigQuiet
import Derived.Laws.OwnMore
namespace Go.Proofs.Ytabmefffeafifaa.Mem
open Go.RowKit

/-- The slice value '.slice A n c' holds the numbers zs (of kind k) and lies below block B. -/
def Sl (w : World) (B : Nat) (k : IntKind) (A : Option Addr) (n : Nat) (zs : List Int) : Prop :=
  zs.length = n ∧ (0 < n → ∃ b off, A = some ⟨b, off, none⟩ ∧ b < B ∧ ∀ j, j < n → w.cell? ⟨b, off + j, none⟩ = some (.int k (zs.getD j 0)))

section
variable {w w' : World} {B B' n : Nat} {k : IntKind} {A : Option Addr} {zs : List Int}
theorem Sl.len (h : Sl w B k A n zs) : zs.length = n := h.1
theorem Sl.nil (w : World) (B : Nat) (k : IntKind) (A : Option Addr) : Sl w B k A 0 [] := ⟨rfl, fun h => absurd h (by omega)⟩
theorem Sl.at_ (h : Sl w B k A n zs) (hn : 0 < n) : ∃ b off, A = some ⟨b, off, none⟩ ∧ b < B ∧ ∀ j, j < n → w.cell? ⟨b, off + j, none⟩ = some (.int k (zs.getD j 0)) := h.2 hn
theorem Sl.keep (h : Sl w B k A n zs) (hk : ∀ b o, b < B → w'.cell? ⟨b, o, none⟩ = w.cell? ⟨b, o, none⟩) : Sl w' B k A n zs :=
  ⟨h.1, fun hn => by
    obtain ⟨b, off, e, hb, hc⟩ := h.2 hn
    exact ⟨b, off, e, hb, fun j hj => (hk b _ hb).trans (hc j hj)⟩⟩
theorem Sl.more (h : Sl w B k A n zs) (hB : B ≤ B') : Sl w B' k A n zs :=
  ⟨h.1, fun hn => by
    obtain ⟨b, off, e, hb, hc⟩ := h.2 hn
    exact ⟨b, off, e, by omega, hc⟩⟩
theorem Sl.below (h : Sl w B k A n zs) (hb : Below B w w') : Sl w' B k A n zs := h.keep fun _ _ hp => hb.cell hp
theorem Sl.grown (h : Sl w B k A n zs) {row : Option Nat} (hg : w.grownBy w' row) (hB : B ≤ w.heap.size) (hr : ∀ g, row = some g → B ≤ g) : Sl w' B k A n zs :=
  h.keep fun p o hp => World.cell?_of_block (hg.block p (by omega) (fun e => by have := hr _ e.symm; omega))
theorem Sl.take (h : Sl w B k A n zs) {m : Nat} (hm : m ≤ n) : Sl w B k A m (zs.take m) := by
  refine ⟨by rw [List.length_take, h.1]; omega, fun hn => ?_⟩
  obtain ⟨b, off, e, hb, hc⟩ := h.2 (by omega)
  refine ⟨b, off, e, hb, fun j hj => ?_⟩
  rw [hc j (by omega)]
  simp [List.getD_eq_getElem?_getD, hj]
theorem Sl.cut (h : Sl w B k A n zs) {m cap : Nat} (hm : m ≤ n) (hc : n ≤ cap) :
    Sl w B k (if cap = m then A else A.map (·.add m)) (n - m) (zs.drop m) := by
  refine ⟨by rw [List.length_drop, h.1], fun hn => ?_⟩
  obtain ⟨b, off, rfl, hb, hcell⟩ := h.2 (by omega)
  rw [if_neg (by omega)]
  refine ⟨b, off + m, ?_, hb, fun j hj => ?_⟩
  · simp only [Option.map_some, Addr.add]
    by_cases h0 : m = 0
    · simp [h0]
    · simp [h0]
  · rw [show off + m + j = off + (m + j) by omega, hcell _ (by omega)]
    simp [List.getD_eq_getElem?_getD]
theorem Sl.of_own {base : Nat} {e : TypeId} {c : Nat} (h : w.ownsRow base e 1 (.slice A n c) n (zs.map fun z => .int k z)) : Sl w w.heap.size k A n zs := by
  have hl : zs.length = n := by have := h.1; simpa using this
  refine ⟨hl, fun hn => ?_⟩
  obtain ⟨g, cap, hv, _, hlt⟩ := h.form hn
  have hA : A = some ⟨g, 0, none⟩ := by injection hv
  subst hA
  refine ⟨g, 0, rfl, hlt, fun j hj => ?_⟩
  have := h.cells (g := g) rfl j (.int k (zs.getD j 0)) (by simp [List.getD_eq_getElem?_getD, List.getElem?_eq_getElem (show j < zs.length by omega)])
  simp only [Addr.add] at this
  by_cases h0 : j = 0
  · subst h0; simpa using this
  · simpa [h0] using this

/-- A block that the call has just laid, of numbers. -/
theorem Sl.new (w : World) (k : IntKind) (t : TypeId) (fr : Nat × Nat) (zs : List Int) : Sl (w.alloc (.cells (zs.map fun z => Value.int k z).toArray t fr)) (w.heap.size + 1) k (some ⟨w.heap.size, 0, none⟩) zs.length zs := by
  refine ⟨rfl, fun _ => ⟨w.heap.size, 0, rfl, by omega, fun j hj => ?_⟩⟩
  rw [cell_of_row _ w.heap.size (0 + j) _ t fr (heap_alloc_new w _)]
  simp [List.getD_eq_getElem?_getD, List.getElem?_eq_getElem hj]

/-- A row of cells at an address, as 'Sl'. -/
theorem Sl.of_row (h : (A = none ∧ n = 0 ∧ zs = []) ∨ ∃ x : Addr, A = some x ∧ x.block < B ∧ n ≤ zs.length ∧ ∀ i, i < zs.length → w.cell? (x.add i) = some (.int k (zs.getD i 0))) :
    Sl w B k A n (zs.take n) := by
  rcases h with ⟨rfl, rfl, rfl⟩ | ⟨x, rfl, hb, hl, hc⟩
  · exact Sl.nil _ _ _ _
  · refine ⟨by rw [List.length_take]; omega, fun hn => ?_⟩
    obtain ⟨b, off, spot⟩ := x
    have h0 := hc 0 (by omega)
    have hspot : spot = none := by simpa [Addr.add] using World.cell?_spot h0
    subst hspot
    refine ⟨b, off, rfl, hb, fun j hj => ?_⟩
    have := hc j (by omega)
    have e : (zs.take n).getD j 0 = zs.getD j 0 := by simp [List.getD_eq_getElem?_getD, hj]
    rw [e, ← this]
    simp only [Addr.add]
    by_cases h1 : j = 0
    · simp [h1]
    · simp [h1]
/-- Of what the frame of a proof tells of a slice that came in. -/
theorem Sl.of_isRow {len cap : Nat} (h : (A = none ∧ len = 0 ∧ cap = 0 ∧ zs = []) ∨
      ∃ x : Addr, A = some x ∧ len ≤ cap ∧ cap ≤ maxLen ∧ zs.length = cap ∧ (∀ i, i < zs.length → w.cell? (x.add i) = some (.int k (zs.getD i 0))) ∧ ∀ n ∈ zs, (Lit.int k n).wf = true) :
    Sl w w.heap.size k A len (zs.take len) ∧ len ≤ cap ∧ cap ≤ maxLen ∧ ∀ n ∈ zs.take len, (Lit.int k n).wf = true := by
  rcases h with ⟨rfl, rfl, rfl, rfl⟩ | ⟨x, rfl, h1, h2, h3, h4, h5⟩
  · exact ⟨Sl.nil _ _ _ _, Nat.le_refl _, Nat.zero_le _, fun n hn => by cases hn⟩
  · refine ⟨?_, h1, h2, fun n hn => h5 n (List.mem_of_mem_take hn)⟩
    by_cases h0 : 0 < zs.length
    · refine Sl.of_row (.inr ⟨x, rfl, ?_, by omega, h4⟩)
      have := block_lt_of_cell (h4 0 h0)
      simpa [Addr.add] using this
    · have hz : zs = [] := List.eq_nil_of_length_eq_zero (by omega)
      subst hz
      have : len = 0 := by simp at h3; omega
      subst this
      exact Sl.nil _ _ _ _

/-- 'string(b)', b nil or not. -/
theorem Sl.str {P : Program} (src dst e : TypeId) (hs : P.underlying src = some (.slice e)) (he : P.underlying e = some (.int .u8)) (hd : P.underlying dst = some .string) (cap : Nat) (h : Sl w B .u8 A n zs) :
    (convert src dst (.slice A n cap)).run P w = .ok (.string (strOfNums zs)) w := by
  rcases Nat.eq_zero_or_pos n with h0 | h0
  · subst h0
    have hz : zs = [] := List.eq_nil_of_length_eq_zero h.len
    subst hz
    cases A with
    | none => exact run_convert_bytes_nil w src e hs he 0 cap dst hd
    | some x =>
      rw [run_convert_bytes_string w src dst e _ 0 cap hs he hd, run_bytesToString w _ 0 cap [] (run_loadCells_list (P := P) w x [] (fun j v hj => by simp at hj))]
      rfl
  · obtain ⟨b, off, rfl, _, hc⟩ := h.at_ h0
    exact run_convert_bytes_arg w src e hs he b off n cap zs h.len hc dst hd
end

/-! ### Regions that draw their order: what is quiet in the class 'below the first block nothing has turned' -/
section
variable {P : Program} {f : FuncId} {args : Array Value} {v : Value} {w : World}
theorem quiet_same (h : ∀ w1, Below w.heap.size w w1 → Calls P f args w1 fun e w' => e = .returned v ∧ w1 = w') (d : Nat) (os : Array Obj) :
    Calls P f args (Sort.grow (redrawn w d) os) fun e w'' => e = .returned v ∧ ∃ p : Regrown, w'' = Sort.grow (redrawn w p.d) p.os :=
  (h _ (below_regrown w d os)).mono fun _ _ ⟨he, hw⟩ => ⟨he, ⟨d, os⟩, hw.symm⟩
theorem quiet_below (h : ∀ w1, Below w.heap.size w w1 → Calls P f args w1 fun e w' => e = .returned v ∧ Below w1.heap.size w1 w') (d : Nat) (os : Array Obj) :
    Calls P f args (Sort.grow (redrawn w d) os) fun e w'' => e = .returned v ∧ ∃ p : Regrown, w'' = Sort.grow (redrawn w p.d) p.os :=
  Calls.regrown_of (h _ (below_regrown w d os))
theorem quiet_run {α : Type} {m : Sem α} {x : α} (h : ∀ w1, Below w.heap.size w w1 → m.run P w1 = .ok x w1) (d : Nat) (os : Array Obj) :
    m.run P (Sort.grow (redrawn w d) os) = .ok x (Sort.grow (redrawn w d) os) := h _ (below_regrown w d os)
end
end Go.Proofs.Ytabmefffeafifaa.Mem
