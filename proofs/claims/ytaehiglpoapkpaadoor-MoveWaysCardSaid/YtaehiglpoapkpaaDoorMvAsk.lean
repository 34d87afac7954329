/-
  Package move (chapter 20): ask, what holds in a phase.
-/
import Derived.Test.YtaehiglpoapkpaaDoorMv
namespace Go.Proofs.YtaehiglpoapkpaaDoor.Mv
open Go.ChangeShapes Go.WideShapes Go.ChangeAt Go.RowKit
open Go.Proofs.YtaehiglpoapkpaaDoor.Mem Go.Proofs.YtaehiglpoapkpaaDoor.Blk Go.Proofs.YtaehiglpoapkpaaDoor.Cells Go.Proofs.YtaehiglpoapkpaaDoor.MvL Go.Proofs.YtaehiglpoapkpaaDoor.Stages Go.Proofs.YtaehiglpoapkpaaDoor.Trees

section
variable {w w' : World} {g : Nat}
theorem phase_size : (Tryd.prog.info? 33).map (·.size) = some 3 := by kernel_rfl
theorem load_phase {ty : TypeId} {x0 x1 x2 : Value} (hg : Blk w g ty [x0, x1, x2]) : (loadVar 33 ⟨g, 0, none⟩).run Tryd.prog w = .ok (.agg #[x0, x1, x2]) w :=
  run_loadVar_row w g ty 33 #[x0, x1, x2] (0, 0) _ hg Tryd.underlying33 rfl phase_size
theorem ret_phase {fn : Func} {R : Ending → World → Prop} {a : Act} {ty : TypeId} {q u : Nat} {x0 x1 x2 : Value} (h : fn.results = #[.cell q 33, .tmp u]) (hp : a.tmps.getD q undef = .pointer (some ⟨g, 0, none⟩)) (hg : Blk w g ty [x0, x1, x2]) (hd : a.defers = []) (hR : R (.returned (.tuple #[.agg #[x0, x1, x2], a.tmps.getD u undef])) w) : bodyPost Tryd.prog fn R .ret a w := by
  refine bodyPost_ret ?_ hd hR
  have hp' : a.tmps[q]?.getD undef = .pointer (some ⟨g, 0, none⟩) := by simpa using hp
  simp [results, h, hp', asAddr, load_phase hg]
theorem cells3 {x0 x1 x2 : Value} {ty : TypeId} (h : Blk w g ty [x0, x1, x2]) : w.cell? ⟨g, 0, none⟩ = some x0 ∧ w.cell? ⟨g, 1, none⟩ = some x1 ∧ w.cell? ⟨g, 2, none⟩ = some x2 :=
  ⟨h.cell 0, h.cell 1, h.cell 2⟩
theorem blk_set3 {y0 y1 y2 x0 x1 x2 : Value} {ty : TypeId} (h : Blk w g ty [y0, y1, y2]) :
    Blk (((w.setCell ⟨g, 0, none⟩ x0).setCell ⟨g, 1, none⟩ x1).setCell ⟨g, 2, none⟩ x2) g ty [x0, x1, x2] := ((h.set 0 _).set 1 _).set 2 _
theorem kept_set3 (w : World) (g : Nat) (x0 x1 x2 : Value) :
    Kept (fun k => k = g) w (((w.setCell ⟨g, 0, none⟩ x0).setCell ⟨g, 1, none⟩ x1).setCell ⟨g, 2, none⟩ x2) :=
  ((kept_set _ _ _ _).trans (kept_set _ _ _ _)).trans (kept_set _ _ _ _)
/-- A call's answer: a phase and whether there is one. -/
def AskP (r : (Int × Int × Bool) × Bool) (w : World) (x : Ending) (w' : World) : Prop := x = .returned (.tuple #[.agg #[.int .i64 r.1.1, .int .i64 r.1.2.1, .bool r.1.2.2], .bool r.2]) ∧ Grow w w'
theorem box_new (w : World) : Blk (w.alloc (.cells #[.int .i64 0, .int .i64 0, .bool false] 33)) w.heap.size 33 [.int .i64 0, .int .i64 0, .bool false] := Blk.new w _ _

theorem ask_any (h : Tabs w) (p : Int) : Calls Tryd.prog 14 #[.int .i64 p] w (AskP (fd p) w) := by
  have hb := box_new w
  have hg0 : Grow w (w.alloc (.cells #[.int .i64 0, .int .i64 0, .bool false] 33)) := (Kept.refl _ _).alloc _
  obtain ⟨k0, k1, k2, k3, k4, k5, k6, k7, k8, k9, k10, k11, k12, k13, k14, k15, k16, k17⟩ := cells_phases (Tabs.grow h hg0)
  have HI := Lib.hid index_phases
  have HR : Hid (fd p = fnd p phs) := rfl
  unfold phs at HR
  generalize fd p = R at *
  generalize hP : AskP R w = POST
  have HP := Lib.hid hP
  have HB := Lib.hid hb
  have HG0 := Lib.hid hg0
  clear h hP hb hg0
  go_enter Tryd.func14, Tryd.ntmps14
  go_wp2
  go_step3
  go_wp2
  generalize w.alloc (.cells #[.int .i64 0, .int .i64 0, .bool false] 33) = w0 at *
  go_step3
  go_wp2
  clear k0 k1 k2 k3 k4 k5 k6 k7 k8 k9 k10 k11 k12 k13 k14 k15 k16 k17
  have hi := HI.out
  clear HI
  simp only [phasesC] at hi
  generalize Value.agg #[.int .i64 0, .int .i64 1, .bool false, .int .i64 1, .int .i64 1, .bool false, .int .i64 2, .int .i64 0, .bool false, .int .i64 3, .int .i64 0, .bool false, .int .i64 4, .int .i64 2, .bool true, .int .i64 5, .int .i64 1, .bool true] = T at *
  have HI := Lib.hid hi
  clear hi
  go_loopg [7] 6 (fun gx i wr => (gx = 6 ∧ i = .int .i64 0 ∧ R = fnd p [(0, 1, false), (1, 1, false), (2, 0, false), (3, 0, false), (4, 2, true), (5, 1, true)] ∧ Grow w wr ∧ Blk wr w.heap.size 33 [.int .i64 0, .int .i64 0, .bool false]) ∨ (gx = 5 ∧ i = .int .i64 1 ∧ R = fnd p [(1, 1, false), (2, 0, false), (3, 0, false), (4, 2, true), (5, 1, true)] ∧ Grow w wr ∧ Blk wr w.heap.size 33 [.int .i64 0, .int .i64 0, .bool false]) ∨ (gx = 4 ∧ i = .int .i64 2 ∧ R = fnd p [(2, 0, false), (3, 0, false), (4, 2, true), (5, 1, true)] ∧ Grow w wr ∧ Blk wr w.heap.size 33 [.int .i64 0, .int .i64 0, .bool false]) ∨ (gx = 3 ∧ i = .int .i64 3 ∧ R = fnd p [(3, 0, false), (4, 2, true), (5, 1, true)] ∧ Grow w wr ∧ Blk wr w.heap.size 33 [.int .i64 0, .int .i64 0, .bool false]) ∨ (gx = 2 ∧ i = .int .i64 4 ∧ R = fnd p [(4, 2, true), (5, 1, true)] ∧ Grow w wr ∧ Blk wr w.heap.size 33 [.int .i64 0, .int .i64 0, .bool false]) ∨ (gx = 1 ∧ i = .int .i64 5 ∧ R = fnd p [(5, 1, true)] ∧ Grow w wr ∧ Blk wr w.heap.size 33 [.int .i64 0, .int .i64 0, .bool false]) ∨ (gx = 0 ∧ i = .int .i64 6 ∧ R = fnd p [] ∧ Grow w wr ∧ Blk wr w.heap.size 33 [.int .i64 0, .int .i64 0, .bool false]))
  case atStart => exact .inl ⟨rfl, rfl, HR.out, HG0.out, HB.out⟩
  case round =>
    clear HR HB HG0
    rcases hrel with ⟨rfl, rfl, hR, hg, hb⟩ | ⟨rfl, rfl, hR, hg, hb⟩ | ⟨rfl, rfl, hR, hg, hb⟩ | ⟨rfl, rfl, hR, hg, hb⟩ | ⟨rfl, rfl, hR, hg, hb⟩ | ⟨rfl, rfl, hR, hg, hb⟩ | ⟨rfl, rfl, hR, hg, hb⟩
    · have HG := Lib.hid hg
      have HB := Lib.hid hb
      have ix := fun w => (HI.out w).1
      clear hg hb
      dsimp only [fnd] at hR
      by_cases h1 : (0 : Int) = p
      · rw [if_pos h1] at hR
        subst h1 hR
        obtain ⟨c0, c1, c2⟩ := cells3 (HB.out.alloc (.cells #[.int .i64 0, .int .i64 1, .bool false] 33))
        have fz := (HB.out.alloc (.cells #[.int .i64 0, .int .i64 1, .bool false] 33)).frozenAll
        go_wp2
        try rw [Exit.noGoto_ret]
        refine ret_phase rfl rfl (blk_set3 (HB.out.alloc _)) rfl ?_
        rw [← HP.out]
        exact ⟨rfl, (HG.out.alloc _).then (kept_set3 _ _ _ _ _) fun k h1 e => by omega⟩
      · rw [if_neg h1] at hR
        have HR := Lib.hid hR
        clear hR
        go_wp2
        go_roundg 5
        case measure => omega
        case rel => exact .inr (.inl ⟨rfl, rfl, HR.out, HG.out.alloc _, HB.out.alloc _⟩)
    · have HG := Lib.hid hg
      have HB := Lib.hid hb
      have ix := fun w => (HI.out w).2.1
      clear hg hb
      dsimp only [fnd] at hR
      by_cases h1 : (1 : Int) = p
      · rw [if_pos h1] at hR
        subst h1 hR
        obtain ⟨c0, c1, c2⟩ := cells3 (HB.out.alloc (.cells #[.int .i64 1, .int .i64 1, .bool false] 33))
        have fz := (HB.out.alloc (.cells #[.int .i64 1, .int .i64 1, .bool false] 33)).frozenAll
        go_wp2
        try rw [Exit.noGoto_ret]
        refine ret_phase rfl rfl (blk_set3 (HB.out.alloc _)) rfl ?_
        rw [← HP.out]
        exact ⟨rfl, (HG.out.alloc _).then (kept_set3 _ _ _ _ _) fun k h1 e => by omega⟩
      · rw [if_neg h1] at hR
        have HR := Lib.hid hR
        clear hR
        go_wp2
        go_roundg 4
        case measure => omega
        case rel => exact .inr (.inr (.inl ⟨rfl, rfl, HR.out, HG.out.alloc _, HB.out.alloc _⟩))
    · have HG := Lib.hid hg
      have HB := Lib.hid hb
      have ix := fun w => (HI.out w).2.2.1
      clear hg hb
      dsimp only [fnd] at hR
      by_cases h1 : (2 : Int) = p
      · rw [if_pos h1] at hR
        subst h1 hR
        obtain ⟨c0, c1, c2⟩ := cells3 (HB.out.alloc (.cells #[.int .i64 2, .int .i64 0, .bool false] 33))
        have fz := (HB.out.alloc (.cells #[.int .i64 2, .int .i64 0, .bool false] 33)).frozenAll
        go_wp2
        try rw [Exit.noGoto_ret]
        refine ret_phase rfl rfl (blk_set3 (HB.out.alloc _)) rfl ?_
        rw [← HP.out]
        exact ⟨rfl, (HG.out.alloc _).then (kept_set3 _ _ _ _ _) fun k h1 e => by omega⟩
      · rw [if_neg h1] at hR
        have HR := Lib.hid hR
        clear hR
        go_wp2
        go_roundg 3
        case measure => omega
        case rel => exact .inr (.inr (.inr (.inl ⟨rfl, rfl, HR.out, HG.out.alloc _, HB.out.alloc _⟩)))
    · have HG := Lib.hid hg
      have HB := Lib.hid hb
      have ix := fun w => (HI.out w).2.2.2.1
      clear hg hb
      dsimp only [fnd] at hR
      by_cases h1 : (3 : Int) = p
      · rw [if_pos h1] at hR
        subst h1 hR
        obtain ⟨c0, c1, c2⟩ := cells3 (HB.out.alloc (.cells #[.int .i64 3, .int .i64 0, .bool false] 33))
        have fz := (HB.out.alloc (.cells #[.int .i64 3, .int .i64 0, .bool false] 33)).frozenAll
        go_wp2
        try rw [Exit.noGoto_ret]
        refine ret_phase rfl rfl (blk_set3 (HB.out.alloc _)) rfl ?_
        rw [← HP.out]
        exact ⟨rfl, (HG.out.alloc _).then (kept_set3 _ _ _ _ _) fun k h1 e => by omega⟩
      · rw [if_neg h1] at hR
        have HR := Lib.hid hR
        clear hR
        go_wp2
        go_roundg 2
        case measure => omega
        case rel => exact .inr (.inr (.inr (.inr (.inl ⟨rfl, rfl, HR.out, HG.out.alloc _, HB.out.alloc _⟩))))
    · have HG := Lib.hid hg
      have HB := Lib.hid hb
      have ix := fun w => (HI.out w).2.2.2.2.1
      clear hg hb
      dsimp only [fnd] at hR
      by_cases h1 : (4 : Int) = p
      · rw [if_pos h1] at hR
        subst h1 hR
        obtain ⟨c0, c1, c2⟩ := cells3 (HB.out.alloc (.cells #[.int .i64 4, .int .i64 2, .bool true] 33))
        have fz := (HB.out.alloc (.cells #[.int .i64 4, .int .i64 2, .bool true] 33)).frozenAll
        go_wp2
        try rw [Exit.noGoto_ret]
        refine ret_phase rfl rfl (blk_set3 (HB.out.alloc _)) rfl ?_
        rw [← HP.out]
        exact ⟨rfl, (HG.out.alloc _).then (kept_set3 _ _ _ _ _) fun k h1 e => by omega⟩
      · rw [if_neg h1] at hR
        have HR := Lib.hid hR
        clear hR
        go_wp2
        go_roundg 1
        case measure => omega
        case rel => exact .inr (.inr (.inr (.inr (.inr (.inl ⟨rfl, rfl, HR.out, HG.out.alloc _, HB.out.alloc _⟩)))))
    · have HG := Lib.hid hg
      have HB := Lib.hid hb
      have ix := fun w => (HI.out w).2.2.2.2.2
      clear hg hb
      dsimp only [fnd] at hR
      by_cases h1 : (5 : Int) = p
      · rw [if_pos h1] at hR
        subst h1 hR
        obtain ⟨c0, c1, c2⟩ := cells3 (HB.out.alloc (.cells #[.int .i64 5, .int .i64 1, .bool true] 33))
        have fz := (HB.out.alloc (.cells #[.int .i64 5, .int .i64 1, .bool true] 33)).frozenAll
        go_wp2
        try rw [Exit.noGoto_ret]
        refine ret_phase rfl rfl (blk_set3 (HB.out.alloc _)) rfl ?_
        rw [← HP.out]
        exact ⟨rfl, (HG.out.alloc _).then (kept_set3 _ _ _ _ _) fun k h1 e => by omega⟩
      · rw [if_neg h1] at hR
        have HR := Lib.hid hR
        clear hR
        go_wp2
        go_roundg 0
        case measure => omega
        case rel => exact .inr (.inr (.inr (.inr (.inr (.inr (⟨rfl, rfl, HR.out, HG.out.alloc _, HB.out.alloc _⟩))))))
    · have HG := Lib.hid hg
      have HB := Lib.hid hb
      obtain ⟨c0, c1, c2⟩ := cells3 hb
      have fz := hb.frozenAll
      clear hg hb
      dsimp only [fnd] at hR
      subst hR
      go_wp2
      try rw [Exit.noGoto_ret]
      refine ret_phase rfl rfl (blk_set3 HB.out) rfl ?_
      rw [← HP.out]
      exact ⟨rfl, HG.out.then (kept_set3 _ _ _ _ _) fun k h1 e => by omega⟩
end
end Go.Proofs.YtaehiglpoapkpaaDoor.Mv
