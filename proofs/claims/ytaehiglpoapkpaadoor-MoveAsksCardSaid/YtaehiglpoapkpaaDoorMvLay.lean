/-
  Package move (chapter 20): its two tables in memory: what the row's condition on them gives.
-/
import Derived.Test.YtaehiglpoapkpaaDoorRows
import Derived.Test.YtaehiglpoapkpaaDoorCells
import Derived.ProofKit
import Derived.LaidMore
import Derived.OpenShut
import Derived.Deep.Strs
import Derived.Stop.Joined
namespace Go.Proofs.YtaehiglpoapkpaaDoor.MvL
open Go.ChangeShapes Go.WideShapes Go.ChangeAt Go.RowKit Go.Deep
open Go.Proofs.YtaehiglpoapkpaaDoor.Mem Go.Proofs.YtaehiglpoapkpaaDoor.Blk Go.Proofs.YtaehiglpoapkpaaDoor.Cells

/-- What the four rows list. -/
def laid : List (String × DataW Unit) := [("lavabo/move.phases", Rows.laid_lavabo_move_phases), ("lavabo/move.ways", Rows.laid_lavabo_move_ways)]
/-- The cells of the table of ways, and of that of phases. -/
def waysC : List Value := [.int .i64 0, .int .i64 1, .int .i64 1, .int .i64 1, .int .i64 2, .int .i64 2, .int .i64 1, .int .i64 5, .int .i64 5, .int .i64 2, .int .i64 3, .int .i64 3, .int .i64 2, .int .i64 5, .int .i64 5, .int .i64 3, .int .i64 4, .int .i64 4]
def phasesC : List Value := [.int .i64 0, .int .i64 1, .bool false, .int .i64 1, .int .i64 1, .bool false, .int .i64 2, .int .i64 0, .bool false, .int .i64 3, .int .i64 0, .bool false, .int .i64 4, .int .i64 2, .bool true, .int .i64 5, .int .i64 1, .bool true]
/-- The tables stand in memory. -/
def Tabs (w : World) : Prop := (∃ t fr, w.heap[0]? = some (.cells waysC.toArray t fr)) ∧ ∃ t fr, w.heap[1]? = some (.cells phasesC.toArray t fr)

theorem door_met (os : Os) (args : Array Value) : laidMetH Tryd.prog laid ((World.doorLaid Tryd.prog 31 os).forCall (fun _ _ => 0) ⟨#[], args, []⟩).memory :=
  laidMetH_of_parts3 (fuel := 8) (laidMet_of_run' 8 (by kernel_rfl) (by kernel_rfl)) (by kernel_rfl) (by kernel_rfl)

section
variable {H : Type} {enc : TypeId × Value → H} {w : World} {base : Nat} {spare : Nat → Bool} {held : Bool}
theorem row_way {fuel : Nat} {c0 c1 c2 : Value} {x : DataW H × List MemPlace} {a b c : Int} (h : DataW.trod enc Tryd.prog w base spare held fuel 37 [c0, c1, c2] = some x) (hx : x.1 = .agg [.lit (.int .i64 a), .lit (.int .i64 b), .lit (.int .i64 c)]) :
    c0 = .int .i64 a ∧ c1 = .int .i64 b ∧ c2 = .int .i64 c := by
  obtain ⟨y0, y1, y2, n, rfl, _, k0, k1, k2⟩ := trod_struct3 Tryd.underlying37 h
  have c3 : Tryd.prog.cellsOf 3 = 1 := by kernel_rfl
  simp only [c3] at k0 k1 k2
  obtain ⟨z0, a0, b0, _⟩ := DataW.trod_int Tryd.underlying3 k0
  obtain ⟨z1, a1, b1, _⟩ := DataW.trod_int Tryd.underlying3 k1
  obtain ⟨z2, a2, b2, _⟩ := DataW.trod_int Tryd.underlying3 k2
  simp_all
theorem row_phase {fuel : Nat} {c0 c1 c2 : Value} {x : DataW H × List MemPlace} {a b : Int} {c : Bool} (h : DataW.trod enc Tryd.prog w base spare held fuel 33 [c0, c1, c2] = some x) (hx : x.1 = .agg [.lit (.int .i64 a), .lit (.int .i64 b), .lit (.bool c)]) :
    c0 = .int .i64 a ∧ c1 = .int .i64 b ∧ c2 = .bool c := by
  obtain ⟨y0, y1, y2, n, rfl, _, k0, k1, k2⟩ := trod_struct3 Tryd.underlying33 h
  have c3 : Tryd.prog.cellsOf 3 = 1 := by kernel_rfl
  have c4 : Tryd.prog.cellsOf 4 = 1 := by kernel_rfl
  simp only [c3, c4] at k0 k1 k2
  obtain ⟨z0, a0, b0, _⟩ := DataW.trod_int Tryd.underlying3 k0
  obtain ⟨z1, a1, b1, _⟩ := DataW.trod_int Tryd.underlying3 k1
  obtain ⟨z2, a2, b2⟩ := DataW.trod_bool Tryd.underlying4 k2
  simp_all
theorem tab_ways {fuel : Nat} {l : List Value} {x : DataW H × List MemPlace} (h : DataW.trod enc Tryd.prog w base spare held fuel 38 l = some x) (hx : x.1 = Rows.laid_lavabo_move_ways) : l = waysC := by
  obtain ⟨xs, m, _, rfl, hlen, hl, hel⟩ := DataW.trod_array Tryd.underlying38 h
  have c18 : Tryd.prog.cellsOf 38 = 18 := by kernel_rfl
  have c3 : Tryd.prog.cellsOf 37 = 3 := by kernel_rfl
  rw [c18] at hlen
  match l, hlen with
  | [c0, c1, c2, c3', c4, c5, c6, c7, c8, c9, c10, c11, c12, c13, c14, c15, c16, c17], _ =>
    match xs, hl with
    | [x0, x1, x2, x3, x4, x5], _ =>
      simp only [Rows.laid_lavabo_move_ways, List.map_cons, List.map_nil, DataW.agg.injEq, List.cons.injEq, and_true] at hx
      obtain ⟨e0, e1, e2, e3, e4, e5⟩ := hx
      have k0 := hel 0 (by omega); have k1 := hel 1 (by omega); have k2 := hel 2 (by omega); have k3 := hel 3 (by omega); have k4 := hel 4 (by omega); have k5 := hel 5 (by omega)
      rw [c3] at k0 k1 k2 k3 k4 k5
      obtain ⟨rfl, rfl, rfl⟩ := row_way k0 e0
      obtain ⟨rfl, rfl, rfl⟩ := row_way k1 e1
      obtain ⟨rfl, rfl, rfl⟩ := row_way k2 e2
      obtain ⟨rfl, rfl, rfl⟩ := row_way k3 e3
      obtain ⟨rfl, rfl, rfl⟩ := row_way k4 e4
      obtain ⟨rfl, rfl, rfl⟩ := row_way k5 e5
      rfl
theorem tab_phases {fuel : Nat} {l : List Value} {x : DataW H × List MemPlace} (h : DataW.trod enc Tryd.prog w base spare held fuel 39 l = some x) (hx : x.1 = Rows.laid_lavabo_move_phases) : l = phasesC := by
  obtain ⟨xs, m, _, rfl, hlen, hl, hel⟩ := DataW.trod_array Tryd.underlying39 h
  have c18 : Tryd.prog.cellsOf 39 = 18 := by kernel_rfl
  have c3 : Tryd.prog.cellsOf 33 = 3 := by kernel_rfl
  rw [c18] at hlen
  match l, hlen with
  | [c0, c1, c2, c3', c4, c5, c6, c7, c8, c9, c10, c11, c12, c13, c14, c15, c16, c17], _ =>
    match xs, hl with
    | [x0, x1, x2, x3, x4, x5], _ =>
      simp only [Rows.laid_lavabo_move_phases, List.map_cons, List.map_nil, DataW.agg.injEq, List.cons.injEq, and_true] at hx
      obtain ⟨e0, e1, e2, e3, e4, e5⟩ := hx
      have k0 := hel 0 (by omega); have k1 := hel 1 (by omega); have k2 := hel 2 (by omega); have k3 := hel 3 (by omega); have k4 := hel 4 (by omega); have k5 := hel 5 (by omega)
      rw [c3] at k0 k1 k2 k3 k4 k5
      obtain ⟨rfl, rfl, rfl⟩ := row_phase k0 e0
      obtain ⟨rfl, rfl, rfl⟩ := row_phase k1 e1
      obtain ⟨rfl, rfl, rfl⟩ := row_phase k2 e2
      obtain ⟨rfl, rfl, rfl⟩ := row_phase k3 e3
      obtain ⟨rfl, rfl, rfl⟩ := row_phase k4 e4
      obtain ⟨rfl, rfl, rfl⟩ := row_phase k5 e5
      rfl
end
theorem row_of_var {W : World} {n : String} {g : Nat} {cs : Array Value} {P : Program} (hg : P.globalNamed n = some g) (h : W.var? P n = some cs) : ∃ t fr, W.heap[g]? = some (.cells cs t fr) := by
  simp only [World.var?, hg, Option.bind_some] at h
  split at h
  · rename_i cs' t fr he
    cases h
    exact ⟨t, fr, he⟩
  · cases h
theorem tabs_of {W : World} (h : laidMetH Tryd.prog laid W) : Tabs W := by
  rw [MakeChecks.laidMetH_plain _ _ _ (by kernel_rfl)] at h
  obtain ⟨ps, ⟨g0, t0, cs0, f0, p0, q0, hg0, ht0, hv0, hd0, ⟨g1, t1, cs1, f1, p1, q1, hg1, ht1, hv1, hd1, _, _⟩, _⟩, _, _⟩ := h
  obtain rfl := Option.some.inj ((show Tryd.prog.globalNamed "lavabo/move.phases" = some 1 by kernel_rfl).symm.trans hg0)
  obtain rfl := Option.some.inj ((show Tryd.prog.globalNamed "lavabo/move.ways" = some 0 by kernel_rfl).symm.trans hg1)
  obtain rfl := Option.some.inj ((show (Tryd.prog.globals[1]?).map (·.type) = some 39 by kernel_rfl).symm.trans ht0)
  obtain rfl := Option.some.inj ((show (Tryd.prog.globals[0]?).map (·.type) = some 38 by kernel_rfl).symm.trans ht1)
  have e0 := tab_phases hd0 rfl
  have e1 := tab_ways hd1 rfl
  refine ⟨?_, ?_⟩
  · obtain ⟨t, fr, hh⟩ := row_of_var hg1 hv1
    exact ⟨t, fr, by rw [hh, ← e1]⟩
  · obtain ⟨t, fr, hh⟩ := row_of_var hg0 hv0
    exact ⟨t, fr, by rw [hh, ← e0]⟩
end Go.Proofs.YtaehiglpoapkpaaDoor.MvL
