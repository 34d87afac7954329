/-
  A slice of ints as it comes in: what stands in its cells.
-/
import Derived.Test.YtaehiglpoapkpaaDoorRows
import Derived.Test.YtaehiglpoapkpaaDoorMem
import Derived.OpenShut
import Derived.ChangeArms
import Derived.Deep.Slices
import Derived.Deep.Fields
import Derived.ChangeSame
import Derived.ProofKit
namespace Go.Proofs.YtaehiglpoapkpaaDoor.IntsI
open Go.ChangeShapes Go.WideShapes Go.ChangeAt Go.RowKit Go.Deep
open Go.Proofs.YtaehiglpoapkpaaDoor.Mem

/-- The slice reads as d, its numbers fit. -/
def IntsAt (w : World) (A : Option Addr) (len cap : Nat) : Prop := len ≤ cap ∧ cap ≤ maxLen ∧ ∃ d, Sl w w.heap.size .i64 A len d ∧ ∀ z ∈ d, -9223372036854775808 ≤ z ∧ z ≤ 9223372036854775807
/-- The number in a cell. -/
def num : Value → Int
  | .int _ z => z
  | _ => 0
section
variable {H : Type} {enc : TypeId × Value → H} {w : World} {base : Nat} {spare : Nat → Bool} {held : Bool}
theorem plain_spot {a : Addr} {v : Value} (h : w.cell? a = some v) : ∃ b off, a = ⟨b, off, none⟩ := by
  obtain ⟨b, off, spot⟩ := a
  have hspot : spot = none := by simpa [Addr.add] using World.cell?_spot h
  subst hspot
  exact ⟨b, off, rfl⟩
theorem add_plain (b off q : Nat) : (⟨b, off, none⟩ : Addr).add q = ⟨b, off + q, none⟩ := by unfold Addr.add; split <;> simp_all
theorem add_zero (a : Addr) : a.add 0 = a := by unfold Addr.add; simp
theorem ints_open {A : Option Addr} {len cap fuel : Nat} {x : DataW H × List MemPlace} (h : DataW.trod enc Tryd.prog w base spare held fuel 28 [.slice A len cap] = some x) : IntsAt w A len cap := by
  have hc1 : Tryd.prog.cellsOf 3 = 1 := by kernel_rfl
  rcases open_slice1 Tryd.underlying28 hc1 h with ⟨h0, _⟩ | ⟨a, l, c, m, n, V, D, Pl, hcs, _, hl, hm, hmm, _, hi⟩
  · simp at h0
    obtain ⟨rfl, rfl, rfl⟩ := h0
    exact ⟨Nat.le_refl _, Nat.zero_le _, [], Sl.nil _ _ _ _, fun z hz => by cases hz⟩
  · simp at hcs
    obtain ⟨rfl, rfl, rfl⟩ := hcs
    have hlm : len ≤ m := by rw [hmm]; split <;> omega
    have key : ∀ i, i < len → ∃ z, V i = .int .i64 z ∧ -9223372036854775808 ≤ z ∧ z ≤ 9223372036854775807 := fun i hil => by
      obtain ⟨_, ht⟩ := hi i (by omega)
      obtain ⟨z, e, _, hw⟩ := DataW.trod_int Tryd.underlying3 ht
      simp at e
      exact ⟨z, e, bounds_i64 hw⟩
    have key2 : ∀ i, i < len → V i = .int .i64 (num (V i)) := fun i hil => by
      obtain ⟨z, e, _⟩ := key i hil
      rw [e]
      rfl
    refine ⟨hl, hm, (List.range len).map fun i => num (V i), ⟨by simp, fun h0 => ?_⟩, fun z hz => ?_⟩
    · have a0 := (hi 0 (by omega)).1
      rw [add_zero] at a0
      obtain ⟨b, off, rfl⟩ := plain_spot a0
      refine ⟨b, off, rfl, block_lt_of_cell a0, fun j hj => ?_⟩
      have aj := (hi j (by omega)).1
      rw [add_plain] at aj
      rw [aj, key2 j hj]
      simp [List.getD_eq_getElem?_getD, hj]
    · obtain ⟨i, hi', rfl⟩ := List.mem_map.1 hz
      obtain ⟨z, e, hb⟩ := key i (List.mem_range.1 hi')
      rw [e]
      exact hb
end
end Go.Proofs.YtaehiglpoapkpaaDoor.IntsI
