/-
  Package move (chapter 20): Serves, May, Over by ask; the document's; told.
-/
import Derived.Test.YtaehiglpoapkpaaDoorMvAsk
import Derived.Deep.Cut
import Derived.Deep.DeepCutAuto
import Derived.Deep.CutBlock
import Derived.Deep.QuietTactic
import Derived.BigQuiet
namespace Go.Proofs.YtaehiglpoapkpaaDoor.Mv
open Go.ChangeShapes Go.WideShapes Go.ChangeAt Go.RowKit
open Go.Proofs.YtaehiglpoapkpaaDoor.Mem Go.Proofs.YtaehiglpoapkpaaDoor.Blk Go.Proofs.YtaehiglpoapkpaaDoor.Cells Go.Proofs.YtaehiglpoapkpaaDoor.MvL Go.Proofs.YtaehiglpoapkpaaDoor.Stages Go.Proofs.YtaehiglpoapkpaaDoor.Trees

section
variable {w w' : World}
theorem serves_any (h : Tabs w) (p : Int) : Calls Tryd.prog 7 #[.int .i64 p] w fun x w' => x = .returned (.tuple #[.bool ((fd p).1.2.1 == 1), .bool ((fd p).1.2.1 == 2)]) ∧ Grow w w' := by
  have HC := Lib.hid (ask_any h p)
  generalize fd p = R at *
  obtain ⟨⟨a, b, c⟩, d⟩ := R
  clear h
  dsimp only
  go_enter Tryd.func7, Tryd.ntmps7
  go_upto_region 2 with (go_at_call 14; (with_reducible refine HC.out.mono ?_); rintro x w1 ⟨rfl, hg⟩; have HG := Lib.hid hg; clear hg)
  have hb : Blk (w1.alloc (.cells #[.int .i64 a, .int .i64 b, .bool c] 33)) w1.heap.size 33 [.int .i64 a, .int .i64 b, .bool c] := Blk.new w1 _ _
  have HG2 := Lib.hid (HG.out.alloc (.cells #[.int .i64 a, .int .i64 b, .bool c] 33))
  generalize w1.alloc (.cells #[.int .i64 a, .int .i64 b, .bool c] 33) = w2 at *
  generalize w1.heap.size = g at *
  obtain ⟨k0, k1, k2⟩ := cells3 hb
  clear hb
  go_quiet (fail)
  go_wp2
  go_ret2
  exact ⟨rfl, HG2.out.drewN _⟩
theorem may_any (h : Tabs w) (p : Int) : Calls Tryd.prog 12 #[.int .i64 p] w fun x w' => x = .returned (.bool (fd p).2) ∧ Grow w w' := by
  have HC := Lib.hid (ask_any h p)
  generalize fd p = R at *
  obtain ⟨⟨a, b, c⟩, d⟩ := R
  clear h
  dsimp only
  go_enter Tryd.func12, Tryd.ntmps12
  go_wp2_with (go_at_call 14; (with_reducible refine HC.out.mono ?_); rintro x w1 ⟨rfl, hg⟩; have HG := Lib.hid hg; clear hg)
  go_ret
  exact ⟨rfl, HG.out.alloc _⟩
theorem over_any (h : Tabs w) (p : Int) : Calls Tryd.prog 13 #[.int .i64 p] w fun x w' => x = .returned (.bool (fd p).1.2.2) ∧ Grow w w' := by
  have HC := Lib.hid (ask_any h p)
  generalize fd p = R at *
  obtain ⟨⟨a, b, c⟩, d⟩ := R
  clear h
  dsimp only
  go_enter Tryd.func13, Tryd.ntmps13
  go_upto_region 2 with (go_at_call 14; (with_reducible refine HC.out.mono ?_); rintro x w1 ⟨rfl, hg⟩; have HG := Lib.hid hg; clear hg)
  have hb : Blk (w1.alloc (.cells #[.int .i64 a, .int .i64 b, .bool c] 33)) w1.heap.size 33 [.int .i64 a, .int .i64 b, .bool c] := Blk.new w1 _ _
  have HG2 := Lib.hid (HG.out.alloc (.cells #[.int .i64 a, .int .i64 b, .bool c] 33))
  generalize w1.alloc (.cells #[.int .i64 a, .int .i64 b, .bool c] 33) = w2 at *
  generalize w1.heap.size = g at *
  obtain ⟨k0, k1, k2⟩ := cells3 hb
  clear hb
  go_wp2
  go_ret
  exact ⟨rfl, HG2.out⟩

/-- What is told by the tables of a number that is no phase. -/
theorem fd_none {p : Int} (h : p < 0 ∨ 5 < p) : fd p = ((0, 0, false), false) := by
  unfold fd phs
  simp only [fnd]
  rw [if_neg (by omega), if_neg (by omega), if_neg (by omega), if_neg (by omega), if_neg (by omega), if_neg (by omega)]
theorem six (p : Int) : p = 0 ∨ p = 1 ∨ p = 2 ∨ p = 3 ∨ p = 4 ∨ p = 5 ∨ p < 0 ∨ 5 < p := by omega

theorem rmove_any (p e : Int) : Calls Tryd.prog 11 #[.int .i64 p, .int .i64 e] w fun x w' => x = .returned (.int .i64 (nxt p e)) ∧ w = w' := by
  by_cases hp : p = 0 ∨ p = 1 ∨ p = 2 ∨ p = 3
  · rcases hp with rfl | rfl | rfl | rfl
    · rcases (show e = 1 ∨ (e ≠ 1) by omega) with rfl | n1
      · rw [show nxt 0 1 = 1 from rfl]
        go_enter Tryd.func11, Tryd.ntmps11
        go_wp2
        go_ret
        exact ⟨rfl, rfl⟩
      · rw [show nxt 0 e = 0 by unfold nxt ways; simp [scn, Ne.symm n1]]
        have b1 : (e == 1) = false := beq_eq_false_iff_ne.2 n1
        clear n1
        go_enter Tryd.func11, Tryd.ntmps11
        go_wp2
        go_ret
        exact ⟨rfl, rfl⟩
    · rcases (show e = 2 ∨ e = 5 ∨ (e ≠ 2 ∧ e ≠ 5) by omega) with rfl | rfl | ⟨n2, n5⟩
      · rw [show nxt 1 2 = 2 from rfl]
        go_enter Tryd.func11, Tryd.ntmps11
        go_wp2
        go_ret
        exact ⟨rfl, rfl⟩
      · rw [show nxt 1 5 = 5 from rfl]
        go_enter Tryd.func11, Tryd.ntmps11
        go_wp2
        go_ret
        exact ⟨rfl, rfl⟩
      · rw [show nxt 1 e = 1 by unfold nxt ways; simp [scn, Ne.symm n2, Ne.symm n5]]
        have b2 : (e == 2) = false := beq_eq_false_iff_ne.2 n2
        have b5 : (e == 5) = false := beq_eq_false_iff_ne.2 n5
        clear n2 n5
        go_enter Tryd.func11, Tryd.ntmps11
        go_wp2
        go_ret
        exact ⟨rfl, rfl⟩
    · rcases (show e = 3 ∨ e = 5 ∨ (e ≠ 3 ∧ e ≠ 5) by omega) with rfl | rfl | ⟨n3, n5⟩
      · rw [show nxt 2 3 = 3 from rfl]
        go_enter Tryd.func11, Tryd.ntmps11
        go_wp2
        go_ret
        exact ⟨rfl, rfl⟩
      · rw [show nxt 2 5 = 5 from rfl]
        go_enter Tryd.func11, Tryd.ntmps11
        go_wp2
        go_ret
        exact ⟨rfl, rfl⟩
      · rw [show nxt 2 e = 2 by unfold nxt ways; simp [scn, Ne.symm n3, Ne.symm n5]]
        have b3 : (e == 3) = false := beq_eq_false_iff_ne.2 n3
        have b5 : (e == 5) = false := beq_eq_false_iff_ne.2 n5
        clear n3 n5
        go_enter Tryd.func11, Tryd.ntmps11
        go_wp2
        go_ret
        exact ⟨rfl, rfl⟩
    · rcases (show e = 4 ∨ (e ≠ 4) by omega) with rfl | n4
      · rw [show nxt 3 4 = 4 from rfl]
        go_enter Tryd.func11, Tryd.ntmps11
        go_wp2
        go_ret
        exact ⟨rfl, rfl⟩
      · rw [show nxt 3 e = 3 by unfold nxt ways; simp [scn, Ne.symm n4]]
        have b4 : (e == 4) = false := beq_eq_false_iff_ne.2 n4
        clear n4
        go_enter Tryd.func11, Tryd.ntmps11
        go_wp2
        go_ret
        exact ⟨rfl, rfl⟩
  · have n0 : p ≠ 0 := by omega
    have n1 : p ≠ 1 := by omega
    have n2 : p ≠ 2 := by omega
    have n3 : p ≠ 3 := by omega
    rw [show nxt p e = p by unfold nxt ways; simp [scn, Ne.symm n0, Ne.symm n1, Ne.symm n2, Ne.symm n3]]
    have b0 : (p == 0) = false := beq_eq_false_iff_ne.2 n0
    have b1 : (p == 1) = false := beq_eq_false_iff_ne.2 n1
    have b2 : (p == 2) = false := beq_eq_false_iff_ne.2 n2
    have b3 : (p == 3) = false := beq_eq_false_iff_ne.2 n3
    clear hp n0 n1 n2 n3
    go_enter Tryd.func11, Tryd.ntmps11
    go_wp2
    go_ret
    exact ⟨rfl, rfl⟩
theorem rserves_any (p : Int) : Calls Tryd.prog 8 #[.int .i64 p] w fun x w' => x = .returned (.tuple #[.bool ((fd p).1.2.1 == 1), .bool ((fd p).1.2.1 == 2)]) ∧ w = w' := by
  rcases six p with rfl | rfl | rfl | rfl | rfl | rfl | hp
  · rw [show fd 0 = ((0, 1, false), true) from rfl]
    go_enter Tryd.func8, Tryd.ntmps8
    go_wp2
    go_ret2
    exact ⟨rfl, rfl⟩
  · rw [show fd 1 = ((1, 1, false), true) from rfl]
    go_enter Tryd.func8, Tryd.ntmps8
    go_wp2
    go_ret2
    exact ⟨rfl, rfl⟩
  · rw [show fd 2 = ((2, 0, false), true) from rfl]
    go_enter Tryd.func8, Tryd.ntmps8
    go_wp2
    go_ret2
    exact ⟨rfl, rfl⟩
  · rw [show fd 3 = ((3, 0, false), true) from rfl]
    go_enter Tryd.func8, Tryd.ntmps8
    go_wp2
    go_ret2
    exact ⟨rfl, rfl⟩
  · rw [show fd 4 = ((4, 2, true), true) from rfl]
    go_enter Tryd.func8, Tryd.ntmps8
    go_wp2
    go_ret2
    exact ⟨rfl, rfl⟩
  · rw [show fd 5 = ((5, 1, true), true) from rfl]
    go_enter Tryd.func8, Tryd.ntmps8
    go_wp2
    go_ret2
    exact ⟨rfl, rfl⟩
  · rw [fd_none hp]
    have b0 : (p == 0) = false := beq_eq_false_iff_ne.2 (by omega)
    have b1 : (p == 1) = false := beq_eq_false_iff_ne.2 (by omega)
    have b4 : (p == 4) = false := beq_eq_false_iff_ne.2 (by omega)
    have b5 : (p == 5) = false := beq_eq_false_iff_ne.2 (by omega)
    clear hp
    go_enter Tryd.func8, Tryd.ntmps8
    go_wp2
    go_ret2
    exact ⟨rfl, rfl⟩

theorem told_any (h : Tabs w) : Calls Tryd.prog 9 #[] w fun x w' => x = .returned (.bool true) ∧ Grow w w' := by
  have S1 := Lib.hid fun (v : World) (hv : Grow w v) => (serves_any (Tabs.grow h hv) 1 : Calls Tryd.prog 7 #[.int .i64 1] v fun x w' => x = .returned (.tuple #[.bool true, .bool false]) ∧ Grow v w')
  have S2 := Lib.hid fun (v : World) (hv : Grow w v) => (serves_any (Tabs.grow h hv) 2 : Calls Tryd.prog 7 #[.int .i64 2] v fun x w' => x = .returned (.tuple #[.bool false, .bool false]) ∧ Grow v w')
  have N1 := Lib.hid fun (v : World) (hv : Grow w v) => (next_any (Tabs.grow h hv) 0 1 : Calls Tryd.prog 10 #[.int .i64 0, .int .i64 1] v fun x w' => x = .returned (.int .i64 1) ∧ Grow v w')
  have N2 := Lib.hid fun (v : World) (hv : Grow w v) => (next_any (Tabs.grow h hv) 3 5 : Calls Tryd.prog 10 #[.int .i64 3, .int .i64 5] v fun x w' => x = .returned (.int .i64 3) ∧ Grow v w')
  have O1 := Lib.hid fun (v : World) (hv : Grow w v) => (over_any (Tabs.grow h hv) 5 : Calls Tryd.prog 13 #[.int .i64 5] v fun x w' => x = .returned (.bool true) ∧ Grow v w')
  have O2 := Lib.hid fun (v : World) (hv : Grow w v) => (over_any (Tabs.grow h hv) 0 : Calls Tryd.prog 13 #[.int .i64 0] v fun x w' => x = .returned (.bool false) ∧ Grow v w')
  have M1 := Lib.hid fun (v : World) (hv : Grow w v) => (may_any (Tabs.grow h hv) 0 : Calls Tryd.prog 12 #[.int .i64 0] v fun x w' => x = .returned (.bool true) ∧ Grow v w')
  have M2 := Lib.hid fun (v : World) (hv : Grow w v) => (may_any (Tabs.grow h hv) 6 : Calls Tryd.prog 12 #[.int .i64 6] v fun x w' => x = .returned (.bool false) ∧ Grow v w')
  clear h
  go_enter Tryd.func9, Tryd.ntmps9
  go_wp2_with (first
    | (go_at_call 7; (with_reducible refine (S1.out _ (Kept.refl _ _)).mono ?_); rintro e g1 ⟨rfl, hg⟩; have G1 := Lib.hid (hg); clear hg)
    | (go_at_call 7; (with_reducible refine (S2.out _ G1.out).mono ?_); rintro e g2 ⟨rfl, hg⟩; have G2 := Lib.hid (G1.out.trans hg); clear hg)
    | (go_at_call 10; (with_reducible refine (N1.out _ G2.out).mono ?_); rintro e g3 ⟨rfl, hg⟩; have G3 := Lib.hid (G2.out.trans hg); clear hg)
    | (go_at_call 10; (with_reducible refine (N2.out _ G3.out).mono ?_); rintro e g4 ⟨rfl, hg⟩; have G4 := Lib.hid (G3.out.trans hg); clear hg)
    | (go_at_call 13; (with_reducible refine (O1.out _ G4.out).mono ?_); rintro e g5 ⟨rfl, hg⟩; have G5 := Lib.hid (G4.out.trans hg); clear hg)
    | (go_at_call 13; (with_reducible refine (O2.out _ G5.out).mono ?_); rintro e g6 ⟨rfl, hg⟩; have G6 := Lib.hid (G5.out.trans hg); clear hg)
    | (go_at_call 12; (with_reducible refine (M1.out _ G6.out).mono ?_); rintro e g7 ⟨rfl, hg⟩; have G7 := Lib.hid (G6.out.trans hg); clear hg)
    | (go_at_call 12; (with_reducible refine (M2.out _ G7.out).mono ?_); rintro e g8 ⟨rfl, hg⟩; have G8 := Lib.hid (G7.out.trans hg); clear hg))
  go_ret
  exact ⟨rfl, G8.out⟩
end
end Go.Proofs.YtaehiglpoapkpaaDoor.Mv
