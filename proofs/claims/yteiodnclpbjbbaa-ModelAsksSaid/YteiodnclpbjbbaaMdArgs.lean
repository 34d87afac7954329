/-
  A state, a call and its parts as they come in (api.State, lavabolaw13.Call, api.Op): what stands in their cells.
-/
import Derived.Test.YteiodnclpbjbbaaMdCalls
import Derived.Test.YteiodnclpbjbbaaPm
import Derived.ChangeArms
namespace Go.Proofs.Yteiodnclpbjbbaa.Args13
open Go.ChangeShapes Go.WideShapes Go.ChangeAt Go.RowKit Go.Deep
open Go.Proofs.Yteiodnclpbjbbaa.Mem Go.Proofs.Yteiodnclpbjbbaa.Blk Go.Proofs.Yteiodnclpbjbbaa.MdM Go.Proofs.Yteiodnclpbjbbaa.PmC Go.Proofs.Yteiodnclpbjbbaa.Calls13

section
variable {H : Type} {enc : TypeId × Value → H} {w : World} {base : Nat} {spare : Nat → Bool} {held : Bool}
theorem plain_spot {a : Addr} {v : Value} (h : w.cell? a = some v) : ∃ b off, a = ⟨b, off, none⟩ := by
  obtain ⟨b, off, spot⟩ := a
  have hspot : spot = none := by simpa [Addr.add] using World.cell?_spot h
  subst hspot
  exact ⟨b, off, rfl⟩
theorem add_plain (b off q : Nat) : (⟨b, off, none⟩ : Addr).add q = ⟨b, off + q, none⟩ := by unfold Addr.add; split <;> simp_all
theorem add_zero (a : Addr) : a.add 0 = a := by unfold Addr.add; simp
theorem ints_open {A : Option Addr} {len cap fuel : Nat} {x : DataW H × List MemPlace} (h : DataW.trod enc Try.prog w base spare held fuel 36 [.slice A len cap] = some x) : ∃ d, Sl w w.heap.size .i64 A len d := by
  have hc1 : Try.prog.cellsOf 3 = 1 := by kernel_rfl
  rcases open_slice1 Try.underlying36 hc1 h with ⟨h0, _⟩ | ⟨a, l, c, m, n, V, D, Pl, hcs, _, hl, hm, hmm, _, hi⟩
  · simp at h0
    obtain ⟨rfl, rfl, rfl⟩ := h0
    exact ⟨[], Sl.nil _ _ _ _⟩
  · simp at hcs
    obtain ⟨rfl, rfl, rfl⟩ := hcs
    have hlm : len ≤ m := by rw [hmm]; split <;> omega
    have key : ∀ i, i < len → V i = .int .i64 (num (V i)) := fun i hil => by
      obtain ⟨_, ht⟩ := hi i (by omega)
      obtain ⟨z, e, _, _⟩ := DataW.trod_int Try.underlying3 ht
      simp at e
      rw [e]
      rfl
    refine ⟨(List.range len).map fun i => num (V i), ⟨by simp, fun h0 => ?_⟩⟩
    have a0 := (hi 0 (by omega)).1
    rw [add_zero] at a0
    obtain ⟨b, off, rfl⟩ := plain_spot a0
    refine ⟨b, off, rfl, block_lt_of_cell a0, fun j hj => ?_⟩
    have aj := (hi j (by omega)).1
    rw [add_plain] at aj
    rw [aj, key j hj]
    simp [List.getD_eq_getElem?_getD, hj]
theorem slice_form {t e : TypeId} {v : Value} {fuel : Nat} {x : DataW H × List MemPlace} (ht : Try.prog.underlying t = some (.slice e)) (h : DataW.trod enc Try.prog w base spare held fuel t [v] = some x) : ∃ A l c, v = .slice A l c := by
  rcases open_slice ht h with ⟨h0, _⟩ | ⟨a, l, c, m, n, D, Pl, hcs, _⟩
  · simp at h0; exact ⟨_, _, _, h0⟩
  · simp at hcs; exact ⟨_, _, _, hcs⟩
theorem flags_open {v : Value} {fuel : Nat} {x : DataW H × List MemPlace} (h : DataW.trod enc Try.prog w base spare held fuel 24 [v] = some x) : ∃ A len cap T, v = .slice A len cap ∧ Flags w A len T := by
  have hc1 : Try.prog.cellsOf 4 = 1 := by kernel_rfl
  rcases open_slice1 Try.underlying24 hc1 h with ⟨h0, _⟩ | ⟨a, l, c, m, n, V, D, Pl, hcs, _, hl, hm, hmm, _, hi⟩
  · simp at h0
    exact ⟨none, 0, 0, fun _ => false, h0, fun h => absurd h (Nat.lt_irrefl 0)⟩
  · simp at hcs
    have hlm : l ≤ m := by rw [hmm]; split <;> omega
    obtain ⟨T, hT⟩ := choose_lt (α := Bool) (n := l) (p := fun i b => V i = .bool b) (fun i hil => by
      obtain ⟨_, ht⟩ := hi i (by omega)
      obtain ⟨b, e, _⟩ := DataW.trod_bool Try.underlying4 ht
      simp at e
      exact ⟨b, e⟩)
    refine ⟨some a, l, c, T, hcs, fun h0 => ?_⟩
    have a0 := (hi 0 (by omega)).1
    rw [add_zero] at a0
    obtain ⟨b, off, rfl⟩ := plain_spot a0
    refine ⟨b, off, rfl, fun j hj => ?_⟩
    have aj := (hi j (by omega)).1
    rw [add_plain] at aj
    rw [aj, hT j hj]
theorem bytess_open {v : Value} {fuel : Nat} {x : DataW H × List MemPlace} (h : DataW.trod enc Try.prog w base spare held fuel 25 [v] = some x) : ∃ A len cap L, v = .slice A len cap ∧ Lists w .u8 A len L ∧ ∀ i, i < len → Bytes (L i) := by
  have hc1 : Try.prog.cellsOf 22 = 1 := by kernel_rfl
  rcases open_slice1 Try.underlying25 hc1 h with ⟨h0, _⟩ | ⟨a, l, c, m, n, V, D, Pl, hcs, _, hl, hm, hmm, _, hi⟩
  · simp at h0
    exact ⟨none, 0, 0, fun _ => [], h0, fun h => absurd h (Nat.lt_irrefl 0), fun i hi => absurd hi (Nat.not_lt_zero i)⟩
  · simp at hcs
    have hlm : l ≤ m := by rw [hmm]; split <;> omega
    obtain ⟨L, hL⟩ := choose_lt (α := List Int) (n := l) (p := fun i d => (∃ A' c', V i = .slice A' d.length c' ∧ Sl w w.heap.size .u8 A' d.length d) ∧ Bytes d) (fun i hil => by
      obtain ⟨_, ht⟩ := hi i (by omega)
      obtain ⟨A', l', c', e⟩ := slice_form Try.underlying22 ht
      rw [e] at ht
      obtain ⟨d, hd, hb, _, _⟩ := bytes_open ht
      have hdl := hd.len
      subst hdl
      exact ⟨d, ⟨A', c', e, hd⟩, hb⟩)
    refine ⟨some a, l, c, L, hcs, fun h0 => ?_, fun i hi => (hL i hi).2⟩
    have a0 := (hi 0 (by omega)).1
    rw [add_zero] at a0
    obtain ⟨b, off, rfl⟩ := plain_spot a0
    refine ⟨b, off, rfl, fun j hj => ?_⟩
    have aj := (hi j (by omega)).1
    rw [add_plain] at aj
    obtain ⟨⟨A', c', e, hs⟩, _⟩ := hL j hj
    rw [e] at aj
    exact ⟨A', c', aj, hs⟩
theorem intss_open {v : Value} {fuel : Nat} {x : DataW H × List MemPlace} (h : DataW.trod enc Try.prog w base spare held fuel 26 [v] = some x) : ∃ A len cap L, v = .slice A len cap ∧ Lists w .i64 A len L := by
  have hc1 : Try.prog.cellsOf 36 = 1 := by kernel_rfl
  rcases open_slice1 Try.underlying26 hc1 h with ⟨h0, _⟩ | ⟨a, l, c, m, n, V, D, Pl, hcs, _, hl, hm, hmm, _, hi⟩
  · simp at h0
    exact ⟨none, 0, 0, fun _ => [], h0, fun h => absurd h (Nat.lt_irrefl 0)⟩
  · simp at hcs
    have hlm : l ≤ m := by rw [hmm]; split <;> omega
    obtain ⟨L, hL⟩ := choose_lt (α := List Int) (n := l) (p := fun i d => ∃ A' c', V i = .slice A' d.length c' ∧ Sl w w.heap.size .i64 A' d.length d) (fun i hil => by
      obtain ⟨_, ht⟩ := hi i (by omega)
      obtain ⟨A', l', c', e⟩ := slice_form Try.underlying36 ht
      rw [e] at ht
      obtain ⟨d, hd⟩ := ints_open ht
      have hdl := hd.len
      subst hdl
      exact ⟨d, A', c', e, hd⟩)
    refine ⟨some a, l, c, L, hcs, fun h0 => ?_⟩
    have a0 := (hi 0 (by omega)).1
    rw [add_zero] at a0
    obtain ⟨b, off, rfl⟩ := plain_spot a0
    refine ⟨b, off, rfl, fun j hj => ?_⟩
    have aj := (hi j (by omega)).1
    rw [add_plain] at aj
    obtain ⟨A', c', e, hs⟩ := hL j hj
    rw [e] at aj
    exact ⟨A', c', aj, hs⟩
/-- A state that comes in. -/
def StArg (w : World) (v : Value) : Prop := ∃ s AT cT AB cB AH cH, v = .agg #[.slice AT s.nT cT, .slice AB s.nB cB, .slice AH s.nH cH] ∧ Parts w AT cT AB cB AH cH s
theorem state_open {cs : List Value} {fuel : Nat} {x : DataW H × List MemPlace} (hl : cs.length = 3) (h : DataW.trod enc Try.prog w base spare held fuel 28 cs = some x) : StArg w (.agg cs.toArray) := by
  obtain ⟨ys, n', _, _, _, hyl, hf⟩ := DataW.trod_struct Try.underlying28 h
  have c1 : Try.prog.cellsOf 24 = 1 := by kernel_rfl
  have c2 : Try.prog.cellsOf 25 = 1 := by kernel_rfl
  have c3 : Try.prog.cellsOf 26 = 1 := by kernel_rfl
  match cs, hl, ys, hyl with
  | [v0, v1, v2], _, [y0, y1, y2], _ =>
    have q0 : DataW.trod enc Try.prog w base spare held n' 24 (([v0, v1, v2].drop 0).take (Try.prog.cellsOf 24)) = some y0 := hf 0 _ rfl
    have q1 : DataW.trod enc Try.prog w base spare held n' 25 (([v0, v1, v2].drop 1).take (Try.prog.cellsOf 25)) = some y1 := hf 1 _ rfl
    have q2 : DataW.trod enc Try.prog w base spare held n' 26 (([v0, v1, v2].drop 2).take (Try.prog.cellsOf 26)) = some y2 := hf 2 _ rfl
    rw [c1] at q0
    rw [c2] at q1
    rw [c3] at q2
    simp only [List.drop_zero, List.drop_succ_cons, List.take_succ_cons, List.take_zero] at q0 q1 q2
    obtain ⟨AT, nT, cT, T, rfl, hT⟩ := flags_open q0
    obtain ⟨AB, nB, cB, L, rfl, hB, hby⟩ := bytess_open q1
    obtain ⟨AH, nH, cH, L', rfl, hH⟩ := intss_open q2
    exact ⟨⟨nT, nB, nH, T, L, L'⟩, AT, cT, AB, cB, AH, cH, rfl, hT, hB, hH, hby⟩
/-- The parts of a call that comes in. -/
def OpArg (w : World) (v : Value) : Prop := ∃ k p h o n A len cap, v = .agg #[.int .i64 k, .int .i64 p, .int .i64 h, .int .i64 o, .int .i64 n, .slice A len cap] ∧ BytesAt w A len cap ∧ -9223372036854775808 ≤ o ∧ o ≤ 9223372036854775807
theorem op_open {cs : List Value} {fuel : Nat} {x : DataW H × List MemPlace} (hl : cs.length = 6) (h : DataW.trod enc Try.prog w base spare held fuel 35 cs = some x) : OpArg w (.agg cs.toArray) := by
  obtain ⟨zs, n'', _, _, _, hzl, hg⟩ := DataW.trod_struct Try.underlying35 h
  have ci : Try.prog.cellsOf 3 = 1 := by kernel_rfl
  have cb : Try.prog.cellsOf 22 = 1 := by kernel_rfl
  match cs, hl, zs, hzl with
  | [v1, v2, v3, v4, v5, v6], _, [u1, u2, u3, u4, u5, u6], _ =>
    have p1 : DataW.trod enc Try.prog w base spare held n'' 3 (([v1, v2, v3, v4, v5, v6].drop 0).take (Try.prog.cellsOf 3)) = some u1 := hg 0 _ rfl
    have p2 : DataW.trod enc Try.prog w base spare held n'' 3 (([v1, v2, v3, v4, v5, v6].drop 1).take (Try.prog.cellsOf 3)) = some u2 := hg 1 _ rfl
    have p3 : DataW.trod enc Try.prog w base spare held n'' 3 (([v1, v2, v3, v4, v5, v6].drop 2).take (Try.prog.cellsOf 3)) = some u3 := hg 2 _ rfl
    have p4 : DataW.trod enc Try.prog w base spare held n'' 3 (([v1, v2, v3, v4, v5, v6].drop 3).take (Try.prog.cellsOf 3)) = some u4 := hg 3 _ rfl
    have p5 : DataW.trod enc Try.prog w base spare held n'' 3 (([v1, v2, v3, v4, v5, v6].drop 4).take (Try.prog.cellsOf 3)) = some u5 := hg 4 _ rfl
    have p6 : DataW.trod enc Try.prog w base spare held n'' 22 (([v1, v2, v3, v4, v5, v6].drop 5).take (Try.prog.cellsOf 22)) = some u6 := hg 5 _ rfl
    rw [ci] at p1 p2 p3 p4 p5
    rw [cb] at p6
    simp only [List.drop_zero, List.drop_succ_cons, List.take_succ_cons, List.take_zero] at p1 p2 p3 p4 p5 p6
    obtain ⟨z1, e1, _, w1⟩ := DataW.trod_int Try.underlying3 p1
    obtain ⟨z2, e2, _, w2⟩ := DataW.trod_int Try.underlying3 p2
    obtain ⟨z3, e3, _, w3⟩ := DataW.trod_int Try.underlying3 p3
    obtain ⟨z4, e4, _, w4⟩ := DataW.trod_int Try.underlying3 p4
    obtain ⟨z5, e5, _, w5⟩ := DataW.trod_int Try.underlying3 p5
    have b4 := bounds_i64 w4
    obtain ⟨A', l', c', rfl⟩ := slice_form Try.underlying22 p6
    have hda := bytes_open p6
    simp at e1 e2 e3 e4 e5
    subst e1 e2 e3 e4 e5
    exact ⟨z1, z2, z3, z4, z5, A', l', c', rfl, hda, b4⟩
/-- A call that comes in. -/
def CallArg (w : World) (v : Value) : Prop := ∃ y : CallV, v = .agg #[.int .i64 y.c, .int .i64 y.k, .int .i64 y.p, .int .i64 y.h, .int .i64 y.o, .int .i64 y.n, .slice y.A y.len y.cap] ∧ BytesAt w y.A y.len y.cap ∧ -9223372036854775808 ≤ y.o ∧ y.o ≤ 9223372036854775807
theorem call_open {cs : List Value} {fuel : Nat} {x : DataW H × List MemPlace} (hl : cs.length = 7) (h : DataW.trod enc Try.prog w base spare held fuel 54 cs = some x) : CallArg w (.agg cs.toArray) := by
  obtain ⟨ys, n', _, _, _, hyl, hf⟩ := DataW.trod_struct Try.underlying54 h
  have ci : Try.prog.cellsOf 3 = 1 := by kernel_rfl
  have co : Try.prog.cellsOf 35 = 6 := by kernel_rfl
  match cs, hl, ys, hyl with
  | [v0, v1, v2, v3, v4, v5, v6], _, [y0, y1], _ =>
    have q0 : DataW.trod enc Try.prog w base spare held n' 3 (([v0, v1, v2, v3, v4, v5, v6].drop 0).take (Try.prog.cellsOf 3)) = some y0 := hf 0 _ rfl
    have q1 : DataW.trod enc Try.prog w base spare held n' 35 (([v0, v1, v2, v3, v4, v5, v6].drop 1).take (Try.prog.cellsOf 35)) = some y1 := hf 1 _ rfl
    rw [ci] at q0
    rw [co] at q1
    simp only [List.drop_zero, List.drop_succ_cons, List.take_succ_cons, List.take_zero] at q0 q1
    obtain ⟨z0, e0, _, _⟩ := DataW.trod_int Try.underlying3 q0
    simp at e0
    subst e0
    obtain ⟨k, p, hh, o, n, A, len, cap, e, hby, hb⟩ := op_open rfl q1
    obtain ⟨rfl, rfl, rfl, rfl, rfl, rfl⟩ : v1 = .int .i64 k ∧ v2 = .int .i64 p ∧ v3 = .int .i64 hh ∧ v4 = .int .i64 o ∧ v5 = .int .i64 n ∧ v6 = .slice A len cap := by simpa using e
    exact ⟨⟨z0, k, p, hh, o, n, A, len, cap⟩, rfl, hby, hb⟩
end
end Go.Proofs.Yteiodnclpbjbbaa.Args13
