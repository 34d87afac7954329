/-
  For any slice of ints the call of lavabolaw20.MoveWays returns true and leaves the slice as it was, the program's two tables being what its text lays; no other condition.
-/
import Derived.Test.YtaehiglpoapkpaaDoorMvCalls
import Derived.Test.YtaehiglpoapkpaaDoorIntsIn
import Derived.Test.YtaehiglpoapkpaaDoorRows
import Derived.Test.YtaehiglpoapkpaaDoorCards
import Derived.Test.YtaehiglpoapkpaaDoorTie
import Derived.SevenTiedAt
import Derived.LaidMore
import Derived.WalkKit
import Derived.ProofKit
import Derived.OpenShut
import Derived.ShutString
import Derived.ChangeOld
import Derived.Below
namespace Go.Proofs.YtaehiglpoapkpaaDoor.moveWays
open Go.ChangeShapes Go.WideShapes Go.ChangeAt Go.RowKit
open Go.ChangeMaps (open_string shut_string)
open Go.Proofs.YtaehiglpoapkpaaDoor.Mem Go.Proofs.YtaehiglpoapkpaaDoor.Blk Go.Proofs.YtaehiglpoapkpaaDoor.Cells Go.Proofs.YtaehiglpoapkpaaDoor.Mv Go.Proofs.YtaehiglpoapkpaaDoor.Stages Go.Proofs.YtaehiglpoapkpaaDoor.IntsI
set_option linter.unusedVariables false

theorem own : ownKnob Tryd.prog.godebug = none := by kernel_rfl
theorem laidOut : laidOutB Tryd.prog = true := by kernel_rfl

/-- What one event makes of a phase. -/
theorem one_step {p : Int} {E : Nat} (hp : 0 ≤ p ∧ p ≤ 5) (hE : E < 5) : (0 ≤ nxt p (1 + (E : Int)) ∧ nxt p (1 + (E : Int)) ≤ 5) ∧ (fd (nxt p (1 + (E : Int)))).2 = true ∧ ((fd (nxt p (1 + (E : Int)))).1.2.1 = 0 ∨ (fd (nxt p (1 + (E : Int)))).1.2.1 = 1 ∨ (fd (nxt p (1 + (E : Int)))).1.2.1 = 2) ∧
    ((fd p).1.2.2 = true → nxt p (1 + (E : Int)) = p) ∧ (p = 3 ∨ p = 4 → nxt p (1 + (E : Int)) = 3 ∨ nxt p (1 + (E : Int)) = 4) := by
  rcases (by omega : p = 0 ∨ p = 1 ∨ p = 2 ∨ p = 3 ∨ p = 4 ∨ p = 5) with rfl | rfl | rfl | rfl | rfl | rfl <;>
  rcases (by omega : E = 0 ∨ E = 1 ∨ E = 2 ∨ E = 3 ∨ E = 4) with rfl | rfl | rfl | rfl | rfl <;> decide
set_option maxHeartbeats 4000000 in
set_option maxRecDepth 100000 in
theorem walk (a0 : Option Addr) (len0 cap0 : Nat) (w : World) (w0 : IntsAt w a0 len0 cap0) (hT : Go.Proofs.YtaehiglpoapkpaaDoor.MvL.Tabs w) :
    Calls Tryd.prog 4 #[.slice a0 len0 cap0] w fun e w' => e = .returned (.bool true) ∧ Below w.heap.size w w' := by
  obtain ⟨hle, hcap, d, hs, hd⟩ := w0
  unfold maxLen at hcap
  have hlz : (len0 : Int) ≤ 9223372036854775807 := by omega
  have HS := Lib.hid hs
  have HD := Lib.hid hd
  have HT := Lib.hid hT
  clear hs hd hT hcap
  have CT := Lib.hid fun (v : World) (hv : Grow w v) => told_any (Tabs.grow HT.out hv)
  go_enter Tryd.func4, Tryd.ntmps4
  go_wp2
  go_loopg [3, 4, 5] 60 (fun gx s3 s4 s5 wr => ∃ (j : Nat) (p : Int) (s : Bool), j + gx = 60 ∧ j ≤ len0 ∧ s3 = .int .i64 p ∧ s4 = .bool s ∧ s5 = .int .i64 (j : Int) ∧ 0 ≤ p ∧ p ≤ 5 ∧ (s = true → p = 3 ∨ p = 4) ∧ Grow w wr)
  case atStart => exact ⟨0, 0, false, by omega, by omega, rfl, rfl, rfl, by omega, by omega, (fun h => by cases h), Kept.refl _ _⟩
  case round =>
    obtain ⟨j, p, s, hj, hjl, rfl, rfl, rfl, hp0, hp5, hsp, hg⟩ := hrel
    have HG := Lib.hid hg
    have HJ := Lib.hid hj
    have HJL := Lib.hid hjl
    have HP := Lib.hid (And.intro hp0 hp5)
    have HSP := Lib.hid hsp
    clear hg hj hjl hp0 hp5 hsp
    by_cases h1 : j < len0
    · have h1z : (j : Int) < (len0 : Int) := by omega
      by_cases h2 : j < 60
      · have h2z : (j : Int) < 60 := by omega
        obtain ⟨b, off, rfl, hb, hc⟩ := HS.out.2 (by omega)
        have c0 := HG.out.cellN (hc j h1) id
        have hz := HD.out (d.getD j 0) (by rw [List.getD_eq_getElem?_getD, List.getElem?_eq_getElem (by rw [HS.out.1]; exact h1)]; exact List.getElem_mem _)
        generalize d.getD j 0 = z at *
        obtain ⟨E, hE, hE5⟩ := tmod_nat z 5 (by omega)
        simp only [Int.cast_ofNat_Int] at hE
        have hEz : (E : Int) < 5 := by omega
        have H1 := Lib.hid (one_step HP.out hE5)
        have CN := Lib.hid fun (v : World) (hv : Grow w v) => next_any (Tabs.grow HT.out hv) p (1 + (E : Int))
        have CO := Lib.hid fun (v : World) (hv : Grow w v) => over_any (Tabs.grow HT.out hv) p
        generalize hq : nxt p (1 + (E : Int)) = q at *
        have CS := Lib.hid fun (v : World) (hv : Grow w v) => serves_any (Tabs.grow HT.out hv) q
        have CM := Lib.hid fun (v : World) (hv : Grow w v) => may_any (Tabs.grow HT.out hv) q
        obtain ⟨hq5, hm, hsv, hov, hsw⟩ := H1.out
        rw [hm] at CM
        have HQ5 := Lib.hid hq5
        have HSW := Lib.hid hsw
        clear H1 hc hb hE5 hq hm hq5 hsw h1 h2 hz
        generalize (fd q).1.2.1 = sv at *
        generalize (fd p).1.2.2 = ov at *
        rcases hsv with rfl | rfl | rfl
        · have CS' := Lib.hid fun (v : World) (hv : Grow w v) => (CS.out v hv : Calls Tryd.prog 7 #[.int .i64 q] v fun x w' => x = .returned (.tuple #[.bool false, .bool false]) ∧ Grow v w')
          clear CS
          cases ov
          · clear hov
            cases s
            · skip
              go_wp2_with (first
                | (go_at_call 10; (with_reducible refine (CN.out _ HG.out).mono ?_); rintro x g1 ⟨rfl, hg⟩; have G1 := Lib.hid (HG.out.trans hg); clear hg)
                | (go_at_call 7; (with_reducible refine (CS'.out _ G1.out).mono ?_); rintro x g2 ⟨rfl, hg⟩; have G2 := Lib.hid (G1.out.trans hg); clear hg)
                | (go_at_call 12; (with_reducible refine (CM.out _ G2.out).mono ?_); rintro x g3 ⟨rfl, hg⟩; have G3 := Lib.hid (G2.out.trans hg); clear hg)
                | (go_at_call 13; (with_reducible refine (CO.out _ G3.out).mono ?_); rintro x g4 ⟨rfl, hg⟩; have G4 := Lib.hid (G3.out.trans hg); clear hg))
              go_roundg (gk - 1)
              case measure => have := HJ.out; omega
              case rel => exact ⟨j + 1, q, _, by have := HJ.out; omega, by omega, rfl, rfl, by go_num, HQ5.out.1, HQ5.out.2, (fun h => .inl (eq_of_beq h)), G4.out⟩
            · have hq := HSW.out (HSP.out rfl)
              have n5 : (q == 5) = false := beq_eq_false_iff_ne.2 (by omega)
              have HQ := Lib.hid hq
              clear hq
              go_wp2_with (first
                | (go_at_call 10; (with_reducible refine (CN.out _ HG.out).mono ?_); rintro x g1 ⟨rfl, hg⟩; have G1 := Lib.hid (HG.out.trans hg); clear hg)
                | (go_at_call 7; (with_reducible refine (CS'.out _ G1.out).mono ?_); rintro x g2 ⟨rfl, hg⟩; have G2 := Lib.hid (G1.out.trans hg); clear hg)
                | (go_at_call 12; (with_reducible refine (CM.out _ G2.out).mono ?_); rintro x g3 ⟨rfl, hg⟩; have G3 := Lib.hid (G2.out.trans hg); clear hg)
                | (go_at_call 13; (with_reducible refine (CO.out _ G3.out).mono ?_); rintro x g4 ⟨rfl, hg⟩; have G4 := Lib.hid (G3.out.trans hg); clear hg))
              go_roundg (gk - 1)
              case measure => have := HJ.out; omega
              case rel => exact ⟨j + 1, q, _, by have := HJ.out; omega, by omega, rfl, rfl, by go_num, HQ5.out.1, HQ5.out.2, (fun _ => HQ.out), G4.out⟩
          · obtain rfl : q = p := hov rfl
            have eq1 : (q == q) = true := beq_self_eq_true q
            clear hov
            cases s
            · skip
              go_wp2_with (first
                | (go_at_call 10; (with_reducible refine (CN.out _ HG.out).mono ?_); rintro x g1 ⟨rfl, hg⟩; have G1 := Lib.hid (HG.out.trans hg); clear hg)
                | (go_at_call 7; (with_reducible refine (CS'.out _ G1.out).mono ?_); rintro x g2 ⟨rfl, hg⟩; have G2 := Lib.hid (G1.out.trans hg); clear hg)
                | (go_at_call 12; (with_reducible refine (CM.out _ G2.out).mono ?_); rintro x g3 ⟨rfl, hg⟩; have G3 := Lib.hid (G2.out.trans hg); clear hg)
                | (go_at_call 13; (with_reducible refine (CO.out _ G3.out).mono ?_); rintro x g4 ⟨rfl, hg⟩; have G4 := Lib.hid (G3.out.trans hg); clear hg))
              go_roundg (gk - 1)
              case measure => have := HJ.out; omega
              case rel => exact ⟨j + 1, q, _, by have := HJ.out; omega, by omega, rfl, rfl, by go_num, HQ5.out.1, HQ5.out.2, (fun h => .inl (eq_of_beq h)), G4.out⟩
            · have hq := HSW.out (HSP.out rfl)
              have n5 : (q == 5) = false := beq_eq_false_iff_ne.2 (by omega)
              have HQ := Lib.hid hq
              clear hq
              go_wp2_with (first
                | (go_at_call 10; (with_reducible refine (CN.out _ HG.out).mono ?_); rintro x g1 ⟨rfl, hg⟩; have G1 := Lib.hid (HG.out.trans hg); clear hg)
                | (go_at_call 7; (with_reducible refine (CS'.out _ G1.out).mono ?_); rintro x g2 ⟨rfl, hg⟩; have G2 := Lib.hid (G1.out.trans hg); clear hg)
                | (go_at_call 12; (with_reducible refine (CM.out _ G2.out).mono ?_); rintro x g3 ⟨rfl, hg⟩; have G3 := Lib.hid (G2.out.trans hg); clear hg)
                | (go_at_call 13; (with_reducible refine (CO.out _ G3.out).mono ?_); rintro x g4 ⟨rfl, hg⟩; have G4 := Lib.hid (G3.out.trans hg); clear hg))
              go_roundg (gk - 1)
              case measure => have := HJ.out; omega
              case rel => exact ⟨j + 1, q, _, by have := HJ.out; omega, by omega, rfl, rfl, by go_num, HQ5.out.1, HQ5.out.2, (fun _ => HQ.out), G4.out⟩
        · have CS' := Lib.hid fun (v : World) (hv : Grow w v) => (CS.out v hv : Calls Tryd.prog 7 #[.int .i64 q] v fun x w' => x = .returned (.tuple #[.bool true, .bool false]) ∧ Grow v w')
          clear CS
          cases ov
          · clear hov
            cases s
            · skip
              go_wp2_with (first
                | (go_at_call 10; (with_reducible refine (CN.out _ HG.out).mono ?_); rintro x g1 ⟨rfl, hg⟩; have G1 := Lib.hid (HG.out.trans hg); clear hg)
                | (go_at_call 7; (with_reducible refine (CS'.out _ G1.out).mono ?_); rintro x g2 ⟨rfl, hg⟩; have G2 := Lib.hid (G1.out.trans hg); clear hg)
                | (go_at_call 12; (with_reducible refine (CM.out _ G2.out).mono ?_); rintro x g3 ⟨rfl, hg⟩; have G3 := Lib.hid (G2.out.trans hg); clear hg)
                | (go_at_call 13; (with_reducible refine (CO.out _ G3.out).mono ?_); rintro x g4 ⟨rfl, hg⟩; have G4 := Lib.hid (G3.out.trans hg); clear hg))
              go_roundg (gk - 1)
              case measure => have := HJ.out; omega
              case rel => exact ⟨j + 1, q, _, by have := HJ.out; omega, by omega, rfl, rfl, by go_num, HQ5.out.1, HQ5.out.2, (fun h => .inl (eq_of_beq h)), G4.out⟩
            · have hq := HSW.out (HSP.out rfl)
              have n5 : (q == 5) = false := beq_eq_false_iff_ne.2 (by omega)
              have HQ := Lib.hid hq
              clear hq
              go_wp2_with (first
                | (go_at_call 10; (with_reducible refine (CN.out _ HG.out).mono ?_); rintro x g1 ⟨rfl, hg⟩; have G1 := Lib.hid (HG.out.trans hg); clear hg)
                | (go_at_call 7; (with_reducible refine (CS'.out _ G1.out).mono ?_); rintro x g2 ⟨rfl, hg⟩; have G2 := Lib.hid (G1.out.trans hg); clear hg)
                | (go_at_call 12; (with_reducible refine (CM.out _ G2.out).mono ?_); rintro x g3 ⟨rfl, hg⟩; have G3 := Lib.hid (G2.out.trans hg); clear hg)
                | (go_at_call 13; (with_reducible refine (CO.out _ G3.out).mono ?_); rintro x g4 ⟨rfl, hg⟩; have G4 := Lib.hid (G3.out.trans hg); clear hg))
              go_roundg (gk - 1)
              case measure => have := HJ.out; omega
              case rel => exact ⟨j + 1, q, _, by have := HJ.out; omega, by omega, rfl, rfl, by go_num, HQ5.out.1, HQ5.out.2, (fun _ => HQ.out), G4.out⟩
          · obtain rfl : q = p := hov rfl
            have eq1 : (q == q) = true := beq_self_eq_true q
            clear hov
            cases s
            · skip
              go_wp2_with (first
                | (go_at_call 10; (with_reducible refine (CN.out _ HG.out).mono ?_); rintro x g1 ⟨rfl, hg⟩; have G1 := Lib.hid (HG.out.trans hg); clear hg)
                | (go_at_call 7; (with_reducible refine (CS'.out _ G1.out).mono ?_); rintro x g2 ⟨rfl, hg⟩; have G2 := Lib.hid (G1.out.trans hg); clear hg)
                | (go_at_call 12; (with_reducible refine (CM.out _ G2.out).mono ?_); rintro x g3 ⟨rfl, hg⟩; have G3 := Lib.hid (G2.out.trans hg); clear hg)
                | (go_at_call 13; (with_reducible refine (CO.out _ G3.out).mono ?_); rintro x g4 ⟨rfl, hg⟩; have G4 := Lib.hid (G3.out.trans hg); clear hg))
              go_roundg (gk - 1)
              case measure => have := HJ.out; omega
              case rel => exact ⟨j + 1, q, _, by have := HJ.out; omega, by omega, rfl, rfl, by go_num, HQ5.out.1, HQ5.out.2, (fun h => .inl (eq_of_beq h)), G4.out⟩
            · have hq := HSW.out (HSP.out rfl)
              have n5 : (q == 5) = false := beq_eq_false_iff_ne.2 (by omega)
              have HQ := Lib.hid hq
              clear hq
              go_wp2_with (first
                | (go_at_call 10; (with_reducible refine (CN.out _ HG.out).mono ?_); rintro x g1 ⟨rfl, hg⟩; have G1 := Lib.hid (HG.out.trans hg); clear hg)
                | (go_at_call 7; (with_reducible refine (CS'.out _ G1.out).mono ?_); rintro x g2 ⟨rfl, hg⟩; have G2 := Lib.hid (G1.out.trans hg); clear hg)
                | (go_at_call 12; (with_reducible refine (CM.out _ G2.out).mono ?_); rintro x g3 ⟨rfl, hg⟩; have G3 := Lib.hid (G2.out.trans hg); clear hg)
                | (go_at_call 13; (with_reducible refine (CO.out _ G3.out).mono ?_); rintro x g4 ⟨rfl, hg⟩; have G4 := Lib.hid (G3.out.trans hg); clear hg))
              go_roundg (gk - 1)
              case measure => have := HJ.out; omega
              case rel => exact ⟨j + 1, q, _, by have := HJ.out; omega, by omega, rfl, rfl, by go_num, HQ5.out.1, HQ5.out.2, (fun _ => HQ.out), G4.out⟩
        · have CS' := Lib.hid fun (v : World) (hv : Grow w v) => (CS.out v hv : Calls Tryd.prog 7 #[.int .i64 q] v fun x w' => x = .returned (.tuple #[.bool false, .bool true]) ∧ Grow v w')
          clear CS
          cases ov
          · clear hov
            cases s
            · skip
              go_wp2_with (first
                | (go_at_call 10; (with_reducible refine (CN.out _ HG.out).mono ?_); rintro x g1 ⟨rfl, hg⟩; have G1 := Lib.hid (HG.out.trans hg); clear hg)
                | (go_at_call 7; (with_reducible refine (CS'.out _ G1.out).mono ?_); rintro x g2 ⟨rfl, hg⟩; have G2 := Lib.hid (G1.out.trans hg); clear hg)
                | (go_at_call 12; (with_reducible refine (CM.out _ G2.out).mono ?_); rintro x g3 ⟨rfl, hg⟩; have G3 := Lib.hid (G2.out.trans hg); clear hg)
                | (go_at_call 13; (with_reducible refine (CO.out _ G3.out).mono ?_); rintro x g4 ⟨rfl, hg⟩; have G4 := Lib.hid (G3.out.trans hg); clear hg))
              go_roundg (gk - 1)
              case measure => have := HJ.out; omega
              case rel => exact ⟨j + 1, q, _, by have := HJ.out; omega, by omega, rfl, rfl, by go_num, HQ5.out.1, HQ5.out.2, (fun h => .inl (eq_of_beq h)), G4.out⟩
            · have hq := HSW.out (HSP.out rfl)
              have n5 : (q == 5) = false := beq_eq_false_iff_ne.2 (by omega)
              have HQ := Lib.hid hq
              clear hq
              go_wp2_with (first
                | (go_at_call 10; (with_reducible refine (CN.out _ HG.out).mono ?_); rintro x g1 ⟨rfl, hg⟩; have G1 := Lib.hid (HG.out.trans hg); clear hg)
                | (go_at_call 7; (with_reducible refine (CS'.out _ G1.out).mono ?_); rintro x g2 ⟨rfl, hg⟩; have G2 := Lib.hid (G1.out.trans hg); clear hg)
                | (go_at_call 12; (with_reducible refine (CM.out _ G2.out).mono ?_); rintro x g3 ⟨rfl, hg⟩; have G3 := Lib.hid (G2.out.trans hg); clear hg)
                | (go_at_call 13; (with_reducible refine (CO.out _ G3.out).mono ?_); rintro x g4 ⟨rfl, hg⟩; have G4 := Lib.hid (G3.out.trans hg); clear hg))
              go_roundg (gk - 1)
              case measure => have := HJ.out; omega
              case rel => exact ⟨j + 1, q, _, by have := HJ.out; omega, by omega, rfl, rfl, by go_num, HQ5.out.1, HQ5.out.2, (fun _ => HQ.out), G4.out⟩
          · obtain rfl : q = p := hov rfl
            have eq1 : (q == q) = true := beq_self_eq_true q
            clear hov
            cases s
            · skip
              go_wp2_with (first
                | (go_at_call 10; (with_reducible refine (CN.out _ HG.out).mono ?_); rintro x g1 ⟨rfl, hg⟩; have G1 := Lib.hid (HG.out.trans hg); clear hg)
                | (go_at_call 7; (with_reducible refine (CS'.out _ G1.out).mono ?_); rintro x g2 ⟨rfl, hg⟩; have G2 := Lib.hid (G1.out.trans hg); clear hg)
                | (go_at_call 12; (with_reducible refine (CM.out _ G2.out).mono ?_); rintro x g3 ⟨rfl, hg⟩; have G3 := Lib.hid (G2.out.trans hg); clear hg)
                | (go_at_call 13; (with_reducible refine (CO.out _ G3.out).mono ?_); rintro x g4 ⟨rfl, hg⟩; have G4 := Lib.hid (G3.out.trans hg); clear hg))
              go_roundg (gk - 1)
              case measure => have := HJ.out; omega
              case rel => exact ⟨j + 1, q, _, by have := HJ.out; omega, by omega, rfl, rfl, by go_num, HQ5.out.1, HQ5.out.2, (fun h => .inl (eq_of_beq h)), G4.out⟩
            · have hq := HSW.out (HSP.out rfl)
              have n5 : (q == 5) = false := beq_eq_false_iff_ne.2 (by omega)
              have HQ := Lib.hid hq
              clear hq
              go_wp2_with (first
                | (go_at_call 10; (with_reducible refine (CN.out _ HG.out).mono ?_); rintro x g1 ⟨rfl, hg⟩; have G1 := Lib.hid (HG.out.trans hg); clear hg)
                | (go_at_call 7; (with_reducible refine (CS'.out _ G1.out).mono ?_); rintro x g2 ⟨rfl, hg⟩; have G2 := Lib.hid (G1.out.trans hg); clear hg)
                | (go_at_call 12; (with_reducible refine (CM.out _ G2.out).mono ?_); rintro x g3 ⟨rfl, hg⟩; have G3 := Lib.hid (G2.out.trans hg); clear hg)
                | (go_at_call 13; (with_reducible refine (CO.out _ G3.out).mono ?_); rintro x g4 ⟨rfl, hg⟩; have G4 := Lib.hid (G3.out.trans hg); clear hg))
              go_roundg (gk - 1)
              case measure => have := HJ.out; omega
              case rel => exact ⟨j + 1, q, _, by have := HJ.out; omega, by omega, rfl, rfl, by go_num, HQ5.out.1, HQ5.out.2, (fun _ => HQ.out), G4.out⟩
      · have h2z : (60 : Int) ≤ (j : Int) := by omega
        clear h2
        go_wp2_with (go_at_call 9; (with_reducible refine (CT.out _ HG.out).mono ?_); rintro x g1 ⟨rfl, hg⟩; have G1 := Lib.hid (HG.out.trans hg); clear hg)
        go_ret
        exact ⟨rfl, Grow.below G1.out⟩
    · have h1z : (len0 : Int) ≤ (j : Int) := by omega
      clear h1
      go_wp2_with (go_at_call 9; (with_reducible refine (CT.out _ HG.out).mono ?_); rintro x g1 ⟨rfl, hg⟩; have G1 := Lib.hid (HG.out.trans hg); clear hg)
      go_ret
      exact ⟨rfl, Grow.below G1.out⟩

set_option maxRecDepth 100000 in
theorem lifted (os : Os) (started : os.Started) (H : Type) (enc : TypeId × Value → H) :
    ReturnsInHanded {} Tryd.checked os 4 .any (fun w args => (Rows.moveWaysSpec.pre enc Tryd.prog Tryd.f4 [] false w args ∧ laidMetH Tryd.prog Go.Proofs.YtaehiglpoapkpaaDoor.MvL.laid w) ∧ sizedMet enc Tryd.prog Tryd.f4 (OpenSpec.ofChange Rows.moveWaysSpec) false w args)
      (Rows.moveWaysSpec.post enc Tryd.prog Tryd.f4 false true false false) := by
  refine returnsInHanded_of_change_and (C := Tryd.checked) (X := fun w _ => laidMetH Tryd.prog Go.Proofs.YtaehiglpoapkpaaDoor.MvL.laid w) (fun _ _ _ hh h => h.of_heap hh) own started (by kernel_rfl) Tryd.func4
    (ChangeSpec.witness_shaped (enc := enc) (C := Tryd.checked) (os := os) (X := fun w _ => laidMetH Tryd.prog Go.Proofs.YtaehiglpoapkpaaDoor.MvL.laid w) false (World.doorLaid Tryd.prog 31 os) #[.slice none 0 0] 8 rfl (World.shaped_of_RefB (by kernel_rfl) (by kernel_rfl)) (by kernel_rfl) (by kernel_rfl) (by kernel_rfl) (Go.Proofs.YtaehiglpoapkpaaDoor.MvL.door_met os _)) ?_
  intro W base args ds gs before hval0 hW _ _ hL _
  have hval : ∀ (j : Nat) t v, Tryd.f4.params[j]? = some t → args[j]? = some v → Value.okWide Tryd.prog W .any base t v := hval0
  have hW' := hW
  obtain ⟨p, q, hA0, hV, rfl, hfz, hnd⟩ := hW
  have hA : DataW.TrodAll enc Tryd.prog W 0 (fun _ => true) true Tryd.f4.params.toList args.toList ds p := hA0
  rw [Tryd.params4] at hA hval
  obtain ⟨v0, vs0, d0, ds0, p0, q0, hargs, rfl, rfl, h0, r0⟩ := trodAll_cons hA
  obtain ⟨rfl, rfl, rfl⟩ := trodAll_nil r0
  obtain rfl : args = #[v0] := by cases args; simp_all
  obtain ⟨rfl, rfl⟩ := trodVars_none hV
  obtain ⟨a0, len0, cap0, rfl⟩ := okWide_slice Tryd.underlying28 (hval 0 28 v0 rfl rfl)
  have k0 := h0
  have lt0 : ∀ x ∈ p0, x.block < W.heap.size := by obtain ⟨m, hm⟩ := k0; exact DataW.trod_lt m _ _ _ hm
  have w0 : IntsAt W a0 len0 cap0 := by obtain ⟨fuel, hf⟩ := h0; exact ints_open hf
  clear hA0 hval0
  refine (walk a0 len0 cap0 W w0 (Go.Proofs.YtaehiglpoapkpaaDoor.MvL.tabs_of hL)).mono fun e W' ⟨he, bel⟩ => ?_
  subst he
  exact ⟨_, rfl, _, _, _, [], _, [], hW', trodAll_mk1 (shut_bool Tryd.underlying4 _), (trodAll_cons_mk (Below.trod laidOut (by kernel_rfl) (of_decide_eq_true (by kernel_rfl)) k0 bel lt0) trodAll_mk0), rfl, bel.frame _, fun h => by cases h⟩

theorem over : Rows.moveWaysRow.holds Tryd.pinned (OpenSpec.ofChange Rows.moveWaysSpec) :=
  OpenClaim.holds_of_wide 4 Tryd.f4 rfl rfl rfl rfl rfl rfl rfl ⟨rfl, rfl, rfl, rfl, rfl⟩ rfl rfl rfl rfl rfl (by kernel_rfl) Tryd.func4 (by kernel_rfl)
    (of_decide_eq_true (by kernel_rfl)) (by unfold Func.isWrapper; first | (rw [if_pos (by decide +kernel)]; kernel_rfl) | (rw [if_neg (by decide +kernel)]; exact ⟨rfl, rfl⟩))
    (fun os started H enc _ => lifted os started H enc)

/-- ████ THE STATEMENT ████ -/
theorem proved : Rows.MoveWaysCardSaid :=
  Claim7.holds_tied_plain_at .later [] [.data, .data] true (true, "f4dc9e1cca478e3e08ff1c22741c8ebc72f185c958f0af4d9b95219ec100b591") false
    over (fun _ h => by cases h) (by kernel_rfl) (fun _ h => by cases h) moveWays_row_tie rfl ⟨rfl, rfl⟩ (by kernel_rfl) rfl
    (fun f fn hf hfn => by
      obtain rfl : f = 4 := Option.some.inj ((show Tryd.prog.funcNamed "lavabo/lavabolaw20.MoveWays" = some 4 by kernel_rfl).symm.trans hf) |>.symm
      obtain rfl : fn = Tryd.f4 := (Option.some.inj (Tryd.func4.symm.trans hfn)).symm
      exact ⟨by kernel_rfl, fun j t ht => by
        rw [Tryd.params4] at ht
        have hm : t ∈ [28] := by simpa using Array.mem_of_getElem? ht
        have hall : ([28].all fun u => !Tryd.prog.wantsStandIn u) = true := by kernel_rfl
        exact (show Tryd.prog.wantsStandIn t = false by simpa using List.all_eq_true.1 hall t hm)⟩)
    (by kernel_rfl)
#print axioms proved
end Go.Proofs.YtaehiglpoapkpaaDoor.moveWays
