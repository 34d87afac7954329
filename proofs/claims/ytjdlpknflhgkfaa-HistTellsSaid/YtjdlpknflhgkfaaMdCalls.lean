/-
  Calls that come in (lavabolaw13.Call: a client and an api.Op): what stands in their cells.
-/
import Derived.Test.YtjdlpknflhgkfaaRows
import Derived.Test.YtjdlpknflhgkfaaBlk
import Derived.Test.YtjdlpknflhgkfaaMdMath
import Derived.Deep.Slices
import Derived.Deep.Fields
import Derived.ChangeSame
import Derived.ProofKit
namespace Go.Proofs.Ytjdlpknflhgkfaa.Calls13
open Go.ChangeShapes Go.WideShapes Go.ChangeAt Go.RowKit Go.Deep
open Go.Proofs.Ytjdlpknflhgkfaa.Mem Go.Proofs.Ytjdlpknflhgkfaa.Blk Go.Proofs.Ytjdlpknflhgkfaa.MdM

def num : Value → Int
  | .int _ z => z
  | _ => 0
/-- A slice of bytes as it comes in. -/
def BytesAt (w : World) (A : Option Addr) (len cap : Nat) : Prop := ∃ d, Sl w w.heap.size .u8 A len d ∧ Bytes d ∧ len ≤ cap ∧ cap ≤ maxLen
/-- A call: its client, its parts; its data is A, len, cap. -/
structure CallV where
  c : Int
  k : Int
  p : Int
  h : Int
  o : Int
  n : Int
  A : Option Addr
  len : Nat
  cap : Nat
/-- The seven cells of a call, from offset q of block b on. -/
structure CallAt (w : World) (b q : Nat) (x : CallV) : Prop where
  c : w.cell? ⟨b, q, none⟩ = some (.int .i64 x.c)
  k : w.cell? ⟨b, q + 1, none⟩ = some (.int .i64 x.k)
  p : w.cell? ⟨b, q + 2, none⟩ = some (.int .i64 x.p)
  h : w.cell? ⟨b, q + 3, none⟩ = some (.int .i64 x.h)
  o : w.cell? ⟨b, q + 4, none⟩ = some (.int .i64 x.o)
  n : w.cell? ⟨b, q + 5, none⟩ = some (.int .i64 x.n)
  d : w.cell? ⟨b, q + 6, none⟩ = some (.slice x.A x.len x.cap)
  da : BytesAt w x.A x.len x.cap
  oB : -9223372036854775808 ≤ x.o ∧ x.o ≤ 9223372036854775807
/-- The calls. -/
def CallsAt (w : World) (A : Option Addr) (len cap : Nat) : Prop :=
  len ≤ cap ∧ cap ≤ maxLen ∧ (0 < len → ∃ b off, A = some ⟨b, off, none⟩ ∧ b < w.heap.size ∧ ∀ i, i < len → ∃ x, CallAt w b (off + i * 7) x)

section
variable {H : Type} {enc : TypeId × Value → H} {w : World} {base : Nat} {spare : Nat → Bool} {held : Bool}
theorem bytes_open {A : Option Addr} {len cap fuel : Nat} {x : DataW H × List MemPlace} (h : DataW.trod enc Try.prog w base spare held fuel 23 [.slice A len cap] = some x) : BytesAt w A len cap := by
  have hc1 : Try.prog.cellsOf 5 = 1 := by kernel_rfl
  rcases open_slice1 Try.underlying23 hc1 h with ⟨h0, _⟩ | ⟨a, l, c, m, n, V, D, Pl, hcs, _, hl, hm, hmm, _, hi⟩
  · simp at h0
    obtain ⟨rfl, rfl, rfl⟩ := h0
    exact ⟨[], Sl.nil _ _ _ _, (fun _ h => by cases h), Nat.le_refl _, Nat.zero_le _⟩
  · simp at hcs
    obtain ⟨rfl, rfl, rfl⟩ := hcs
    have hlm : len ≤ m := by rw [hmm]; split <;> omega
    have key : ∀ i, i < len → ∃ z : Int, V i = .int .u8 z ∧ 0 ≤ z ∧ z < 256 := fun i hil => by
      obtain ⟨_, ht⟩ := hi i (by omega)
      obtain ⟨z, e, _, wz⟩ := DataW.trod_int Try.underlying5 ht
      have bz := bounds_u8 wz
      simp at e
      exact ⟨z, e, by omega, by omega⟩
    obtain ⟨f, hf⟩ : ∃ f : Nat → Int, ∀ i, i < len → V i = .int .u8 (f i) ∧ 0 ≤ f i ∧ f i < 256 := by
      refine ⟨fun i => num (V i), fun i hil => ?_⟩
      obtain ⟨z, e, h1, h2⟩ := key i hil
      show V i = .int .u8 (num (V i)) ∧ 0 ≤ num (V i) ∧ num (V i) < 256
      rw [e]
      exact ⟨rfl, h1, h2⟩
    refine ⟨(List.range len).map f, ⟨by simp, fun h0 => ?_⟩, fun z hz => ?_, hl, hm⟩
    · obtain ⟨b, off, spot⟩ := a
      have a0 := (hi 0 (by omega)).1
      have hspot : spot = none := by simpa [Addr.add] using World.cell?_spot a0
      subst hspot
      have ea : ∀ q, (⟨b, off, none⟩ : Addr).add q = ⟨b, off + q, none⟩ := fun q => by unfold Addr.add; split <;> simp_all
      rw [ea] at a0
      refine ⟨b, off, rfl, block_lt_of_cell a0, fun j hj => ?_⟩
      have aj := (hi j (by omega)).1
      rw [ea] at aj
      rw [aj, (hf j hj).1]
      simp [List.getD_eq_getElem?_getD, hj]
    · obtain ⟨i, hi', rfl⟩ := List.mem_map.1 hz
      have := hf i (List.mem_range.1 hi')
      exact ⟨this.2.1, this.2.2⟩
set_option maxRecDepth 4000 in
theorem calls_open {A : Option Addr} {len cap fuel : Nat} {x : DataW H × List MemPlace} (h : DataW.trod enc Try.prog w base spare held fuel 53 [.slice A len cap] = some x) : CallsAt w A len cap := by
  rcases open_slice Try.underlying53 h with ⟨h0, _⟩ | ⟨a, l, c, m, n, D, Pl, hcs, _, hl, hm, hmm, _, hi⟩
  · simp at h0
    obtain ⟨rfl, rfl, rfl⟩ := h0
    exact ⟨Nat.le_refl _, Nat.zero_le _, fun h => absurd h (by omega)⟩
  · simp at hcs
    obtain ⟨rfl, rfl, rfl⟩ := hcs
    have hlm : len ≤ m := by rw [hmm]; split <;> omega
    have hc5 : Try.prog.cellsOf 55 = 7 := by kernel_rfl
    refine ⟨hl, hm, fun h0 => ?_⟩
    obtain ⟨b, off, spot⟩ := a
    have hspot : spot = none := by
      obtain ⟨cs', hc, _⟩ := hi 0 (by omega)
      rw [hc5] at hc
      obtain ⟨_, hcl, hat⟩ := World.cells?_some hc
      have a0 := hat 0 (by omega)
      rw [List.getElem?_eq_getElem (by omega)] at a0
      simpa [Addr.add] using World.cell?_spot a0
    subst hspot
    have key : ∀ i, i < len → b < w.heap.size ∧ ∃ x, CallAt w b (off + i * 7) x := by
      intro i hil
      obtain ⟨cs', hc, ht⟩ := hi i (by omega)
      rw [hc5] at hc
      obtain ⟨_, hcl, hat⟩ := World.cells?_some hc
      obtain ⟨ys, n', _, _, _, hyl, hf⟩ := DataW.trod_struct Try.underlying55 ht
      have ci : Try.prog.cellsOf 3 = 1 := by kernel_rfl
      have co : Try.prog.cellsOf 25 = 6 := by kernel_rfl
      have cb : Try.prog.cellsOf 23 = 1 := by kernel_rfl
      match cs', hcl, ys, hyl with
      | [v0, v1, v2, v3, v4, v5, v6], _, [y0, y1], _ =>
        have q0 : DataW.trod enc Try.prog w base spare held n' 3 (([v0, v1, v2, v3, v4, v5, v6].drop 0).take (Try.prog.cellsOf 3)) = some y0 := hf 0 _ rfl
        have q1 : DataW.trod enc Try.prog w base spare held n' 25 (([v0, v1, v2, v3, v4, v5, v6].drop 1).take (Try.prog.cellsOf 25)) = some y1 := hf 1 _ rfl
        rw [ci] at q0
        rw [co] at q1
        simp only [List.drop_zero, List.drop_succ_cons, List.take_succ_cons, List.take_zero] at q0 q1
        obtain ⟨zs, n'', _, _, _, hzl, hg⟩ := DataW.trod_struct Try.underlying25 q1
        match zs, hzl with
        | [u1, u2, u3, u4, u5, u6], _ =>
          have p1 : DataW.trod enc Try.prog w base spare held n'' 3 (([v1, v2, v3, v4, v5, v6].drop 0).take (Try.prog.cellsOf 3)) = some u1 := hg 0 _ rfl
          have p2 : DataW.trod enc Try.prog w base spare held n'' 3 (([v1, v2, v3, v4, v5, v6].drop 1).take (Try.prog.cellsOf 3)) = some u2 := hg 1 _ rfl
          have p3 : DataW.trod enc Try.prog w base spare held n'' 3 (([v1, v2, v3, v4, v5, v6].drop 2).take (Try.prog.cellsOf 3)) = some u3 := hg 2 _ rfl
          have p4 : DataW.trod enc Try.prog w base spare held n'' 3 (([v1, v2, v3, v4, v5, v6].drop 3).take (Try.prog.cellsOf 3)) = some u4 := hg 3 _ rfl
          have p5 : DataW.trod enc Try.prog w base spare held n'' 3 (([v1, v2, v3, v4, v5, v6].drop 4).take (Try.prog.cellsOf 3)) = some u5 := hg 4 _ rfl
          have p6 : DataW.trod enc Try.prog w base spare held n'' 23 (([v1, v2, v3, v4, v5, v6].drop 5).take (Try.prog.cellsOf 23)) = some u6 := hg 5 _ rfl
          rw [ci] at p1 p2 p3 p4 p5
          rw [cb] at p6
          simp only [List.drop_zero, List.drop_succ_cons, List.take_succ_cons, List.take_zero] at p1 p2 p3 p4 p5 p6
          obtain ⟨z0, e0, _, w0⟩ := DataW.trod_int Try.underlying3 q0
          obtain ⟨z1, e1, _, w1⟩ := DataW.trod_int Try.underlying3 p1
          obtain ⟨z2, e2, _, w2⟩ := DataW.trod_int Try.underlying3 p2
          obtain ⟨z3, e3, _, w3⟩ := DataW.trod_int Try.underlying3 p3
          obtain ⟨z4, e4, _, w4⟩ := DataW.trod_int Try.underlying3 p4
          obtain ⟨z5, e5, _, w5⟩ := DataW.trod_int Try.underlying3 p5
          have b4 := bounds_i64 w4
          have hsl : ∃ A' l' c', v6 = .slice A' l' c' := by
            rcases open_slice Try.underlying23 p6 with ⟨h0, _⟩ | ⟨a, l, c, m, n, D, Pl, hcs, _⟩
            · simp at h0; exact ⟨_, _, _, h0⟩
            · simp at hcs; exact ⟨_, _, _, hcs⟩
          obtain ⟨A', l', c', rfl⟩ := hsl
          have hda := bytes_open p6
          simp at e0 e1 e2 e3 e4 e5
          subst e0 e1 e2 e3 e4 e5
          have a0 := hat 0 (by omega)
          have a1 := hat 1 (by omega)
          have a2 := hat 2 (by omega)
          have a3 := hat 3 (by omega)
          have a4 := hat 4 (by omega)
          have a5 := hat 5 (by omega)
          have a6 := hat 6 (by omega)
          simp only [List.getElem?_cons_zero, List.getElem?_cons_succ, add_add] at a0 a1 a2 a3 a4 a5 a6
          have hbl := block_lt_of_cell a0
          have ea : ∀ q, (⟨b, off, none⟩ : Addr).add q = ⟨b, off + q, none⟩ := fun q => by unfold Addr.add; split <;> simp_all
          rw [ea] at a0 a1 a2 a3 a4 a5 a6 hbl
          refine ⟨hbl, ⟨z0, z1, z2, z3, z4, z5, A', l', c'⟩, ?_⟩
          exact { c := by simpa using a0, k := by simpa [Nat.add_assoc] using a1, p := by simpa [Nat.add_assoc] using a2, h := by simpa [Nat.add_assoc] using a3, o := by simpa [Nat.add_assoc] using a4, n := by simpa [Nat.add_assoc] using a5, d := by simpa [Nat.add_assoc] using a6, da := hda, oB := b4 }
    exact ⟨b, off, rfl, (key 0 h0).1, fun i hi => (key i hi).2⟩
end
end Go.Proofs.Ytjdlpknflhgkfaa.Calls13
