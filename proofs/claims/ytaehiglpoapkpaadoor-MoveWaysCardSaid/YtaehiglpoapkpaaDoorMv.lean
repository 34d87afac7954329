/-
  Package move (chapter 20): Next and ask, Serves, May, Over.
-/
import Derived.Test.YtaehiglpoapkpaaDoorMvLay
import Derived.Test.YtaehiglpoapkpaaDoorTrees
import Derived.Laws.ResultCell
namespace Go.Proofs.YtaehiglpoapkpaaDoor.Mv
open Go.ChangeShapes Go.WideShapes Go.ChangeAt Go.RowKit
open Go.Proofs.YtaehiglpoapkpaaDoor.Mem Go.Proofs.YtaehiglpoapkpaaDoor.Blk Go.Proofs.YtaehiglpoapkpaaDoor.Cells Go.Proofs.YtaehiglpoapkpaaDoor.MvL Go.Proofs.YtaehiglpoapkpaaDoor.Stages Go.Proofs.YtaehiglpoapkpaaDoor.Trees

/-- Where an event leads to, by a table of ways. -/
def scn (p e : Int) : List (Int × Int × Int) → Int
  | [] => p
  | (a, b, c) :: l => if a = p then (if b = e then c else scn p e l) else scn p e l
def ways : List (Int × Int × Int) := [(0, 1, 1), (1, 2, 2), (1, 5, 5), (2, 3, 3), (2, 5, 5), (3, 4, 4)]
/-- The phase that an event leads to. -/
def nxt (p e : Int) : Int := scn p e ways
/-- What holds in a phase, by a table of phases. -/
def fnd (p : Int) : List (Int × Int × Bool) → (Int × Int × Bool) × Bool
  | [] => ((0, 0, false), false)
  | (a, b, c) :: l => if a = p then ((a, b, c), true) else fnd p l
def phs : List (Int × Int × Bool) := [(0, 1, false), (1, 1, false), (2, 0, false), (3, 0, false), (4, 2, true), (5, 1, true)]
def fd (p : Int) : (Int × Int × Bool) × Bool := fnd p phs

section
variable {w w' : World}
theorem Tabs.grow (h : Tabs w) (hk : Grow w w') : Tabs w' := by
  obtain ⟨⟨t, fr, h0⟩, t', fr', h1⟩ := h
  exact ⟨⟨t, fr, by rw [hk.block 0 (Array.getElem?_eq_some_iff.1 h0).1 id]; exact h0⟩, t', fr', by rw [hk.block 1 (Array.getElem?_eq_some_iff.1 h1).1 id]; exact h1⟩
theorem cells_of {g : Nat} {t : TypeId} {fr : Nat × Nat} {cs : List Value} (h : w.heap[g]? = some (.cells cs.toArray t fr)) (j : Nat) : w.cell? ⟨g, j, none⟩ = cs[j]? := by
  rw [cell_of_row w g j _ t _ h]; simp
theorem cells_ways (h : Tabs w) : w.cell? ⟨0, 0, none⟩ = some (.int .i64 0) ∧ w.cell? ⟨0, 1, none⟩ = some (.int .i64 1) ∧ w.cell? ⟨0, 2, none⟩ = some (.int .i64 1) ∧ w.cell? ⟨0, 3, none⟩ = some (.int .i64 1) ∧ w.cell? ⟨0, 4, none⟩ = some (.int .i64 2) ∧ w.cell? ⟨0, 5, none⟩ = some (.int .i64 2) ∧ w.cell? ⟨0, 6, none⟩ = some (.int .i64 1) ∧ w.cell? ⟨0, 7, none⟩ = some (.int .i64 5) ∧ w.cell? ⟨0, 8, none⟩ = some (.int .i64 5) ∧ w.cell? ⟨0, 9, none⟩ = some (.int .i64 2) ∧ w.cell? ⟨0, 10, none⟩ = some (.int .i64 3) ∧ w.cell? ⟨0, 11, none⟩ = some (.int .i64 3) ∧ w.cell? ⟨0, 12, none⟩ = some (.int .i64 2) ∧ w.cell? ⟨0, 13, none⟩ = some (.int .i64 5) ∧ w.cell? ⟨0, 14, none⟩ = some (.int .i64 5) ∧ w.cell? ⟨0, 15, none⟩ = some (.int .i64 3) ∧ w.cell? ⟨0, 16, none⟩ = some (.int .i64 4) ∧ w.cell? ⟨0, 17, none⟩ = some (.int .i64 4) := by
  obtain ⟨⟨t, fr, h0⟩, _⟩ := h
  exact ⟨cells_of h0 0, cells_of h0 1, cells_of h0 2, cells_of h0 3, cells_of h0 4, cells_of h0 5, cells_of h0 6, cells_of h0 7, cells_of h0 8, cells_of h0 9, cells_of h0 10, cells_of h0 11, cells_of h0 12, cells_of h0 13, cells_of h0 14, cells_of h0 15, cells_of h0 16, cells_of h0 17⟩
theorem cells_phases (h : Tabs w) : w.cell? ⟨1, 0, none⟩ = some (.int .i64 0) ∧ w.cell? ⟨1, 1, none⟩ = some (.int .i64 1) ∧ w.cell? ⟨1, 2, none⟩ = some (.bool false) ∧ w.cell? ⟨1, 3, none⟩ = some (.int .i64 1) ∧ w.cell? ⟨1, 4, none⟩ = some (.int .i64 1) ∧ w.cell? ⟨1, 5, none⟩ = some (.bool false) ∧ w.cell? ⟨1, 6, none⟩ = some (.int .i64 2) ∧ w.cell? ⟨1, 7, none⟩ = some (.int .i64 0) ∧ w.cell? ⟨1, 8, none⟩ = some (.bool false) ∧ w.cell? ⟨1, 9, none⟩ = some (.int .i64 3) ∧ w.cell? ⟨1, 10, none⟩ = some (.int .i64 0) ∧ w.cell? ⟨1, 11, none⟩ = some (.bool false) ∧ w.cell? ⟨1, 12, none⟩ = some (.int .i64 4) ∧ w.cell? ⟨1, 13, none⟩ = some (.int .i64 2) ∧ w.cell? ⟨1, 14, none⟩ = some (.bool true) ∧ w.cell? ⟨1, 15, none⟩ = some (.int .i64 5) ∧ w.cell? ⟨1, 16, none⟩ = some (.int .i64 1) ∧ w.cell? ⟨1, 17, none⟩ = some (.bool true) := by
  obtain ⟨_, t, fr, h0⟩ := h
  exact ⟨cells_of h0 0, cells_of h0 1, cells_of h0 2, cells_of h0 3, cells_of h0 4, cells_of h0 5, cells_of h0 6, cells_of h0 7, cells_of h0 8, cells_of h0 9, cells_of h0 10, cells_of h0 11, cells_of h0 12, cells_of h0 13, cells_of h0 14, cells_of h0 15, cells_of h0 16, cells_of h0 17⟩
theorem index_ways (w : World) : (Instr.index 38 (.agg waysC.toArray) (.int .i64 0)).run Tryd.prog w = .ok (.agg #[.int .i64 0, .int .i64 1, .int .i64 1]) w ∧ (Instr.index 38 (.agg waysC.toArray) (.int .i64 1)).run Tryd.prog w = .ok (.agg #[.int .i64 1, .int .i64 2, .int .i64 2]) w ∧ (Instr.index 38 (.agg waysC.toArray) (.int .i64 2)).run Tryd.prog w = .ok (.agg #[.int .i64 1, .int .i64 5, .int .i64 5]) w ∧ (Instr.index 38 (.agg waysC.toArray) (.int .i64 3)).run Tryd.prog w = .ok (.agg #[.int .i64 2, .int .i64 3, .int .i64 3]) w ∧ (Instr.index 38 (.agg waysC.toArray) (.int .i64 4)).run Tryd.prog w = .ok (.agg #[.int .i64 2, .int .i64 5, .int .i64 5]) w ∧ (Instr.index 38 (.agg waysC.toArray) (.int .i64 5)).run Tryd.prog w = .ok (.agg #[.int .i64 3, .int .i64 4, .int .i64 4]) w := by
  refine ⟨?_, ?_, ?_, ?_, ?_, ?_⟩ <;> kernel_rfl
theorem index_phases (w : World) : (Instr.index 39 (.agg phasesC.toArray) (.int .i64 0)).run Tryd.prog w = .ok (.agg #[.int .i64 0, .int .i64 1, .bool false]) w ∧ (Instr.index 39 (.agg phasesC.toArray) (.int .i64 1)).run Tryd.prog w = .ok (.agg #[.int .i64 1, .int .i64 1, .bool false]) w ∧ (Instr.index 39 (.agg phasesC.toArray) (.int .i64 2)).run Tryd.prog w = .ok (.agg #[.int .i64 2, .int .i64 0, .bool false]) w ∧ (Instr.index 39 (.agg phasesC.toArray) (.int .i64 3)).run Tryd.prog w = .ok (.agg #[.int .i64 3, .int .i64 0, .bool false]) w ∧ (Instr.index 39 (.agg phasesC.toArray) (.int .i64 4)).run Tryd.prog w = .ok (.agg #[.int .i64 4, .int .i64 2, .bool true]) w ∧ (Instr.index 39 (.agg phasesC.toArray) (.int .i64 5)).run Tryd.prog w = .ok (.agg #[.int .i64 5, .int .i64 1, .bool true]) w := by
  refine ⟨?_, ?_, ?_, ?_, ?_, ?_⟩ <;> kernel_rfl

theorem next_any (h : Tabs w) (p e : Int) : Calls Tryd.prog 10 #[.int .i64 p, .int .i64 e] w fun x w' => x = .returned (.int .i64 (nxt p e)) ∧ Grow w w' := by
  obtain ⟨k0, k1, k2, k3, k4, k5, k6, k7, k8, k9, k10, k11, k12, k13, k14, k15, k16, k17⟩ := cells_ways h
  have hi := index_ways
  simp only [waysC] at hi
  have HR : Hid (nxt p e = scn p e ways) := rfl
  unfold ways at HR
  generalize nxt p e = R at *
  clear h
  go_enter Tryd.func10, Tryd.ntmps10
  go_wp2
  go_step3
  go_wp2
  go_step3
  go_wp2
  clear k0 k1 k2 k3 k4 k5 k6 k7 k8 k9 k10 k11 k12 k13 k14 k15 k16 k17
  generalize Value.agg #[.int .i64 0, .int .i64 1, .int .i64 1, .int .i64 1, .int .i64 2, .int .i64 2, .int .i64 1, .int .i64 5, .int .i64 5, .int .i64 2, .int .i64 3, .int .i64 3, .int .i64 2, .int .i64 5, .int .i64 5, .int .i64 3, .int .i64 4, .int .i64 4] = T at *
  have HI := Lib.hid hi
  clear hi
  go_loopg [8] 6 (fun gx i wr => (gx = 6 ∧ i = .int .i64 0 ∧ R = scn p e [(0, 1, 1), (1, 2, 2), (1, 5, 5), (2, 3, 3), (2, 5, 5), (3, 4, 4)] ∧ Grow w wr) ∨ (gx = 5 ∧ i = .int .i64 1 ∧ R = scn p e [(1, 2, 2), (1, 5, 5), (2, 3, 3), (2, 5, 5), (3, 4, 4)] ∧ Grow w wr) ∨ (gx = 4 ∧ i = .int .i64 2 ∧ R = scn p e [(1, 5, 5), (2, 3, 3), (2, 5, 5), (3, 4, 4)] ∧ Grow w wr) ∨ (gx = 3 ∧ i = .int .i64 3 ∧ R = scn p e [(2, 3, 3), (2, 5, 5), (3, 4, 4)] ∧ Grow w wr) ∨ (gx = 2 ∧ i = .int .i64 4 ∧ R = scn p e [(2, 5, 5), (3, 4, 4)] ∧ Grow w wr) ∨ (gx = 1 ∧ i = .int .i64 5 ∧ R = scn p e [(3, 4, 4)] ∧ Grow w wr) ∨ (gx = 0 ∧ i = .int .i64 6 ∧ R = scn p e [] ∧ Grow w wr))
  case atStart => exact .inl ⟨rfl, rfl, HR.out, Kept.refl _ _⟩
  case round =>
    clear HR
    rcases hrel with ⟨rfl, rfl, hR, hg⟩ | ⟨rfl, rfl, hR, hg⟩ | ⟨rfl, rfl, hR, hg⟩ | ⟨rfl, rfl, hR, hg⟩ | ⟨rfl, rfl, hR, hg⟩ | ⟨rfl, rfl, hR, hg⟩ | ⟨rfl, rfl, hR, hg⟩
    · have HG := Lib.hid hg
      have ix := fun w => (HI.out w).1
      clear hg
      dsimp only [scn] at hR
      by_cases h1 : (0 : Int) = p
      · rw [if_pos h1] at hR
        subst h1
        by_cases h2 : (1 : Int) = e
        · rw [if_pos h2] at hR
          subst h2 hR
          go_wp2
          try rw [Exit.noGoto_ret]
          go_ret
          exact ⟨rfl, HG.out.alloc _⟩
        · rw [if_neg h2] at hR
          have HR := Lib.hid hR
          clear hR
          go_wp2
          go_roundg 5
          case measure => omega
          case rel => exact .inr (.inl ⟨rfl, rfl, HR.out, HG.out.alloc _⟩)
      · rw [if_neg h1] at hR
        have HR := Lib.hid hR
        clear hR
        go_wp2
        go_roundg 5
        case measure => omega
        case rel => exact .inr (.inl ⟨rfl, rfl, HR.out, HG.out.alloc _⟩)
    · have HG := Lib.hid hg
      have ix := fun w => (HI.out w).2.1
      clear hg
      dsimp only [scn] at hR
      by_cases h1 : (1 : Int) = p
      · rw [if_pos h1] at hR
        subst h1
        by_cases h2 : (2 : Int) = e
        · rw [if_pos h2] at hR
          subst h2 hR
          go_wp2
          try rw [Exit.noGoto_ret]
          go_ret
          exact ⟨rfl, HG.out.alloc _⟩
        · rw [if_neg h2] at hR
          have HR := Lib.hid hR
          clear hR
          go_wp2
          go_roundg 4
          case measure => omega
          case rel => exact .inr (.inr (.inl ⟨rfl, rfl, HR.out, HG.out.alloc _⟩))
      · rw [if_neg h1] at hR
        have HR := Lib.hid hR
        clear hR
        go_wp2
        go_roundg 4
        case measure => omega
        case rel => exact .inr (.inr (.inl ⟨rfl, rfl, HR.out, HG.out.alloc _⟩))
    · have HG := Lib.hid hg
      have ix := fun w => (HI.out w).2.2.1
      clear hg
      dsimp only [scn] at hR
      by_cases h1 : (1 : Int) = p
      · rw [if_pos h1] at hR
        subst h1
        by_cases h2 : (5 : Int) = e
        · rw [if_pos h2] at hR
          subst h2 hR
          go_wp2
          try rw [Exit.noGoto_ret]
          go_ret
          exact ⟨rfl, HG.out.alloc _⟩
        · rw [if_neg h2] at hR
          have HR := Lib.hid hR
          clear hR
          go_wp2
          go_roundg 3
          case measure => omega
          case rel => exact .inr (.inr (.inr (.inl ⟨rfl, rfl, HR.out, HG.out.alloc _⟩)))
      · rw [if_neg h1] at hR
        have HR := Lib.hid hR
        clear hR
        go_wp2
        go_roundg 3
        case measure => omega
        case rel => exact .inr (.inr (.inr (.inl ⟨rfl, rfl, HR.out, HG.out.alloc _⟩)))
    · have HG := Lib.hid hg
      have ix := fun w => (HI.out w).2.2.2.1
      clear hg
      dsimp only [scn] at hR
      by_cases h1 : (2 : Int) = p
      · rw [if_pos h1] at hR
        subst h1
        by_cases h2 : (3 : Int) = e
        · rw [if_pos h2] at hR
          subst h2 hR
          go_wp2
          try rw [Exit.noGoto_ret]
          go_ret
          exact ⟨rfl, HG.out.alloc _⟩
        · rw [if_neg h2] at hR
          have HR := Lib.hid hR
          clear hR
          go_wp2
          go_roundg 2
          case measure => omega
          case rel => exact .inr (.inr (.inr (.inr (.inl ⟨rfl, rfl, HR.out, HG.out.alloc _⟩))))
      · rw [if_neg h1] at hR
        have HR := Lib.hid hR
        clear hR
        go_wp2
        go_roundg 2
        case measure => omega
        case rel => exact .inr (.inr (.inr (.inr (.inl ⟨rfl, rfl, HR.out, HG.out.alloc _⟩))))
    · have HG := Lib.hid hg
      have ix := fun w => (HI.out w).2.2.2.2.1
      clear hg
      dsimp only [scn] at hR
      by_cases h1 : (2 : Int) = p
      · rw [if_pos h1] at hR
        subst h1
        by_cases h2 : (5 : Int) = e
        · rw [if_pos h2] at hR
          subst h2 hR
          go_wp2
          try rw [Exit.noGoto_ret]
          go_ret
          exact ⟨rfl, HG.out.alloc _⟩
        · rw [if_neg h2] at hR
          have HR := Lib.hid hR
          clear hR
          go_wp2
          go_roundg 1
          case measure => omega
          case rel => exact .inr (.inr (.inr (.inr (.inr (.inl ⟨rfl, rfl, HR.out, HG.out.alloc _⟩)))))
      · rw [if_neg h1] at hR
        have HR := Lib.hid hR
        clear hR
        go_wp2
        go_roundg 1
        case measure => omega
        case rel => exact .inr (.inr (.inr (.inr (.inr (.inl ⟨rfl, rfl, HR.out, HG.out.alloc _⟩)))))
    · have HG := Lib.hid hg
      have ix := fun w => (HI.out w).2.2.2.2.2
      clear hg
      dsimp only [scn] at hR
      by_cases h1 : (3 : Int) = p
      · rw [if_pos h1] at hR
        subst h1
        by_cases h2 : (4 : Int) = e
        · rw [if_pos h2] at hR
          subst h2 hR
          go_wp2
          try rw [Exit.noGoto_ret]
          go_ret
          exact ⟨rfl, HG.out.alloc _⟩
        · rw [if_neg h2] at hR
          have HR := Lib.hid hR
          clear hR
          go_wp2
          go_roundg 0
          case measure => omega
          case rel => exact .inr (.inr (.inr (.inr (.inr (.inr (⟨rfl, rfl, HR.out, HG.out.alloc _⟩))))))
      · rw [if_neg h1] at hR
        have HR := Lib.hid hR
        clear hR
        go_wp2
        go_roundg 0
        case measure => omega
        case rel => exact .inr (.inr (.inr (.inr (.inr (.inr (⟨rfl, rfl, HR.out, HG.out.alloc _⟩))))))
    · have HG := Lib.hid hg
      clear hg
      dsimp only [scn] at hR
      subst hR
      go_wp2
      try rw [Exit.noGoto_ret]
      go_ret
      exact ⟨rfl, HG.out⟩
end
end Go.Proofs.YtaehiglpoapkpaaDoor.Mv
