/-
  What comes in: a slice of bytes; a pool (api.Conf).
-/
import Derived.Test.YtigcjcgdakoonaaRows
import Derived.Test.YtigcjcgdakoonaaScMath
import Derived.Test.YtigcjcgdakoonaaSc
import Derived.Deep.Slices
import Derived.Deep.Fields
import Derived.ChangeSame
import Derived.ProofKit
import Derived.ChangeArms
namespace Go.Proofs.Ytigcjcgdakoonaa.ScI
open Go.ChangeShapes Go.WideShapes Go.ChangeAt Go.RowKit Go.Deep
open Go.Proofs.Ytigcjcgdakoonaa.Mem Go.Proofs.Ytigcjcgdakoonaa.Blk Go.Proofs.Ytigcjcgdakoonaa.MdM Go.Proofs.Ytigcjcgdakoonaa.ScM Go.Proofs.Ytigcjcgdakoonaa.ScC

def num : Value → Int
  | .int _ z => z
  | _ => 0
/-- A slice of bytes as it comes in. -/
def BytesAt (w : World) (A : Option Addr) (len cap : Nat) : Prop := ∃ d, Sl w w.heap.size .u8 A len d ∧ Bytes d ∧ len ≤ cap ∧ cap ≤ maxLen
/-- A pool as it comes in. -/
def ConfArg (_ : World) (v : Value) : Prop := ∃ c : Cf, v = cfv c
section
variable {H : Type} {enc : TypeId × Value → H} {w : World} {base : Nat} {spare : Nat → Bool} {held : Bool}
theorem bytes_open {A : Option Addr} {len cap fuel : Nat} {x : DataW H × List MemPlace} (h : DataW.trod enc Try.prog w base spare held fuel 22 [.slice A len cap] = some x) : BytesAt w A len cap := by
  have hc1 : Try.prog.cellsOf 5 = 1 := by kernel_rfl
  rcases open_slice1 Try.underlying22 hc1 h with ⟨h0, _⟩ | ⟨a, l, c, m, n, V, D, Pl, hcs, _, hl, hm, hmm, _, hi⟩
  · simp at h0
    obtain ⟨rfl, rfl, rfl⟩ := h0
    exact ⟨[], Sl.nil _ _ _ _, (fun _ h => by cases h), Nat.le_refl _, Nat.zero_le _⟩
  · simp at hcs
    obtain ⟨rfl, rfl, rfl⟩ := hcs
    have hlm : len ≤ m := by rw [hmm]; split <;> omega
    have key : ∀ i, i < len → ∃ z : Int, V i = .int .u8 z ∧ 0 ≤ z ∧ z < 256 := fun i hil => by
      obtain ⟨_, ht⟩ := hi i (by omega)
      obtain ⟨z, e, _, wz⟩ := DataW.trod_int Try.underlying5 ht
      have bz := bounds_u8 wz
      simp at e
      exact ⟨z, e, by omega, by omega⟩
    obtain ⟨f, hf⟩ : ∃ f : Nat → Int, ∀ i, i < len → V i = .int .u8 (f i) ∧ 0 ≤ f i ∧ f i < 256 := by
      refine ⟨fun i => num (V i), fun i hil => ?_⟩
      obtain ⟨z, e, h1, h2⟩ := key i hil
      show V i = .int .u8 (num (V i)) ∧ 0 ≤ num (V i) ∧ num (V i) < 256
      rw [e]
      exact ⟨rfl, h1, h2⟩
    refine ⟨(List.range len).map f, ⟨by simp, fun h0 => ?_⟩, fun z hz => ?_, hl, hm⟩
    · obtain ⟨b, off, spot⟩ := a
      have a0 := (hi 0 (by omega)).1
      have hspot : spot = none := by simpa [Addr.add] using World.cell?_spot a0
      subst hspot
      have ea : ∀ q, (⟨b, off, none⟩ : Addr).add q = ⟨b, off + q, none⟩ := fun q => by unfold Addr.add; split <;> simp_all
      rw [ea] at a0
      refine ⟨b, off, rfl, block_lt_of_cell a0, fun j hj => ?_⟩
      have aj := (hi j (by omega)).1
      rw [ea] at aj
      rw [aj, (hf j hj).1]
      simp [List.getD_eq_getElem?_getD, hj]
    · obtain ⟨i, hi', rfl⟩ := List.mem_map.1 hz
      have := hf i (List.mem_range.1 hi')
      exact ⟨this.2.1, this.2.2⟩
set_option maxRecDepth 4000 in
set_option maxRecDepth 4000 in
theorem conf_open {cs : List Value} {fuel : Nat} {x : DataW H × List MemPlace} (hl : cs.length = 4) (h : DataW.trod enc Try.prog w base spare held fuel 24 cs = some x) : ConfArg w (.agg cs.toArray) := by
  obtain ⟨zs, n'', _, _, _, hzl, hg⟩ := DataW.trod_struct Try.underlying24 h
  have ci : Try.prog.cellsOf 3 = 1 := by kernel_rfl
  match cs, hl, zs, hzl with
  | [v1, v2, v3, v4], _, [u1, u2, u3, u4], _ =>
    have p1 : DataW.trod enc Try.prog w base spare held n'' 3 (([v1, v2, v3, v4].drop 0).take (Try.prog.cellsOf 3)) = some u1 := hg 0 _ rfl
    have p2 : DataW.trod enc Try.prog w base spare held n'' 3 (([v1, v2, v3, v4].drop 1).take (Try.prog.cellsOf 3)) = some u2 := hg 1 _ rfl
    have p3 : DataW.trod enc Try.prog w base spare held n'' 3 (([v1, v2, v3, v4].drop 2).take (Try.prog.cellsOf 3)) = some u3 := hg 2 _ rfl
    have p4 : DataW.trod enc Try.prog w base spare held n'' 3 (([v1, v2, v3, v4].drop 3).take (Try.prog.cellsOf 3)) = some u4 := hg 3 _ rfl
    rw [ci] at p1 p2 p3 p4
    simp only [List.drop_zero, List.drop_succ_cons, List.take_succ_cons, List.take_zero] at p1 p2 p3 p4
    obtain ⟨z1, e1, _, _⟩ := DataW.trod_int Try.underlying3 p1
    obtain ⟨z2, e2, _, _⟩ := DataW.trod_int Try.underlying3 p2
    obtain ⟨z3, e3, _, _⟩ := DataW.trod_int Try.underlying3 p3
    obtain ⟨z4, e4, _, _⟩ := DataW.trod_int Try.underlying3 p4
    simp at e1 e2 e3 e4
    subst e1 e2 e3 e4
    exact ⟨⟨z1, z2, z3, z4⟩, rfl⟩
end
#print axioms conf_open
end Go.Proofs.Ytigcjcgdakoonaa.ScI
