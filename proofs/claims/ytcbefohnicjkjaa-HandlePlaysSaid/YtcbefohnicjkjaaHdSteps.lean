/-
  The steps of handles that come in (a slice of 'Op'): what stands in its cells.
-/
import Derived.Test.YtcbefohnicjkjaaRows
import Derived.Test.YtcbefohnicjkjaaBlk
import Derived.Deep.Slices
import Derived.Deep.Fields
import Derived.ChangeSame
import Derived.ProofKit
namespace Go.Proofs.Ytcbefohnicjkjaa.Ops12
open Go.ChangeShapes Go.WideShapes Go.ChangeAt Go.RowKit Go.Deep
open Go.Proofs.Ytcbefohnicjkjaa.Mem Go.Proofs.Ytcbefohnicjkjaa.Blk

/-- A step: its kind, its client, its page, its handle. -/
structure OpV where
  k : Int
  c : Int
  p : Int
  h : Int

/-- The four cells of a step, from offset o of block b on. -/
structure OpAt (w : World) (b o : Nat) (x : OpV) : Prop where
  k : w.cell? ⟨b, o, none⟩ = some (.int .i64 x.k)
  c : w.cell? ⟨b, o + 1, none⟩ = some (.int .i64 x.c)
  p : w.cell? ⟨b, o + 2, none⟩ = some (.int .i64 x.p)
  h : w.cell? ⟨b, o + 3, none⟩ = some (.int .i64 x.h)
  kB : -9223372036854775808 ≤ x.k ∧ x.k ≤ 9223372036854775807
  cB : -9223372036854775808 ≤ x.c ∧ x.c ≤ 9223372036854775807
  pB : -9223372036854775808 ≤ x.p ∧ x.p ≤ 9223372036854775807
  hB : -9223372036854775808 ≤ x.h ∧ x.h ≤ 9223372036854775807

/-- The steps. -/
def OpsAt (w : World) (A : Option Addr) (len cap : Nat) : Prop :=
  len ≤ cap ∧ cap ≤ maxLen ∧ (0 < len → ∃ b off, A = some ⟨b, off, none⟩ ∧ b < w.heap.size ∧ ∀ i, i < len → ∃ x, OpAt w b (off + i * 4) x)

section
variable {H : Type} {enc : TypeId × Value → H} {w : World} {base : Nat} {spare : Nat → Bool} {held : Bool}
theorem ops_open {A : Option Addr} {len cap fuel : Nat} {x : DataW H × List MemPlace} (h : DataW.trod enc Try.prog w base spare held fuel 32 [.slice A len cap] = some x) : OpsAt w A len cap := by
  rcases open_slice Try.underlying32 h with ⟨h0, _⟩ | ⟨a, l, c, m, n, D, Pl, hcs, _, hl, hm, hmm, _, hi⟩
  · simp at h0
    obtain ⟨rfl, rfl, rfl⟩ := h0
    exact ⟨Nat.le_refl _, Nat.zero_le _, fun h => absurd h (by omega)⟩
  · simp at hcs
    obtain ⟨rfl, rfl, rfl⟩ := hcs
    have hlm : len ≤ m := by rw [hmm]; split <;> omega
    have hc5 : Try.prog.cellsOf 36 = 4 := by kernel_rfl
    refine ⟨hl, hm, fun h0 => ?_⟩
    obtain ⟨b, off, spot⟩ := a
    have hspot : spot = none := by
      obtain ⟨cs', hc, _⟩ := hi 0 (by omega)
      rw [hc5] at hc
      obtain ⟨_, hcl, hat⟩ := World.cells?_some hc
      have a0 := hat 0 (by omega)
      rw [List.getElem?_eq_getElem (by omega)] at a0
      simpa [Addr.add] using World.cell?_spot a0
    subst hspot
    have key : ∀ i, i < len → b < w.heap.size ∧ ∃ x, OpAt w b (off + i * 4) x := by
      intro i hil
      obtain ⟨cs', hc, ht⟩ := hi i (by omega)
      rw [hc5] at hc
      obtain ⟨_, hcl, hat⟩ := World.cells?_some hc
      obtain ⟨ys, n', _, _, _, hyl, hf⟩ := DataW.trod_struct Try.underlying36 ht
      have ci : Try.prog.cellsOf 3 = 1 := by kernel_rfl
      match cs', hcl, ys, hyl with
      | [v0, v1, v2, v3], _, [y0, y1, y2, y3], _ =>
        have q0 : DataW.trod enc Try.prog w base spare held n' 3 (([v0, v1, v2, v3].drop 0).take (Try.prog.cellsOf 3)) = some y0 := hf 0 _ rfl
        have q1 : DataW.trod enc Try.prog w base spare held n' 3 (([v0, v1, v2, v3].drop 1).take (Try.prog.cellsOf 3)) = some y1 := hf 1 _ rfl
        have q2 : DataW.trod enc Try.prog w base spare held n' 3 (([v0, v1, v2, v3].drop 2).take (Try.prog.cellsOf 3)) = some y2 := hf 2 _ rfl
        have q3 : DataW.trod enc Try.prog w base spare held n' 3 (([v0, v1, v2, v3].drop 3).take (Try.prog.cellsOf 3)) = some y3 := hf 3 _ rfl
        rw [ci] at q0 q1 q2 q3
        simp only [List.drop_zero, List.drop_succ_cons, List.take_succ_cons, List.take_zero] at q0 q1 q2 q3
        obtain ⟨z0, e0, _, w0⟩ := DataW.trod_int Try.underlying3 q0
        obtain ⟨z1, e1, _, w1⟩ := DataW.trod_int Try.underlying3 q1
        obtain ⟨z2, e2, _, w2⟩ := DataW.trod_int Try.underlying3 q2
        obtain ⟨z3, e3, _, w3⟩ := DataW.trod_int Try.underlying3 q3
        have b0 := bounds_i64 w0
        have b1 := bounds_i64 w1
        have b2 := bounds_i64 w2
        have b3 := bounds_i64 w3
        simp at e0 e1 e2 e3
        subst e0 e1 e2 e3
        have a0 := hat 0 (by omega)
        have a1 := hat 1 (by omega)
        have a2 := hat 2 (by omega)
        have a3 := hat 3 (by omega)
        simp only [List.getElem?_cons_zero, List.getElem?_cons_succ, add_add] at a0 a1 a2 a3
        have hbl := block_lt_of_cell a0
        have ea : ∀ q, (⟨b, off, none⟩ : Addr).add q = ⟨b, off + q, none⟩ := fun q => by unfold Addr.add; split <;> simp_all
        rw [ea] at a0 a1 a2 a3 hbl
        refine ⟨hbl, ⟨z0, z1, z2, z3⟩, ?_⟩
        exact { k := by simpa using a0, c := by simpa [Nat.add_assoc] using a1, p := by simpa [Nat.add_assoc] using a2, h := by simpa [Nat.add_assoc] using a3, kB := b0, cB := b1, pB := b2, hB := b3 }
    exact ⟨b, off, rfl, (key 0 h0).1, fun i hi => (key i hi).2⟩
end
end Go.Proofs.Ytcbefohnicjkjaa.Ops12
