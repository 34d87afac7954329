/-
  Package tidy (chapter 21): Due, at every slice of frames.
-/
import Derived.Test.YtabmefffeafifaaTd
import Derived.RegionTactic
import Derived.WalkSpells
namespace Go.Proofs.Ytabmefffeafifaa.TdC
open Go.ChangeShapes Go.WideShapes Go.ChangeAt Go.RowKit
open Go.Proofs.Ytabmefffeafifaa.Mem Go.Proofs.Ytabmefffeafifaa.Blk Go.Proofs.Ytabmefffeafifaa.Cells Go.Proofs.Ytabmefffeafifaa.GsC Go.Proofs.Ytabmefffeafifaa.FrmC Go.Proofs.Ytabmefffeafifaa.TdM Go.Proofs.Ytabmefffeafifaa.Stages

section
variable {w w' : World} {A : Option Addr} {n m c : Nat} {f : Nat → Fm}
theorem due_any (h : Fr w A n f) (hn : n ≤ 1000) : Calls Try.prog 6 #[.slice A n c] w fun e w' => e = .returned (.bool (dueT f n)) ∧ Grow w w' := by
  have HF := Lib.hid h
  have hnz : (n : Int) ≤ 1000 := by omega
  have HN := Lib.hid hn
  generalize hD : dueT f n = D
  have HD := Lib.hid hD
  clear h hn hD
  go_enter Try.func6, Try.ntmps6
  go_wp2
  go_step3
  go_wp2
  go_step3
  go_wp2
  go_loopg [3, 4, 9] n (fun gx u d i wr => ∃ (j U S : Nat), j + gx = n ∧ i = .int .i64 (j : Int) ∧ u = .int .i64 (U : Int) ∧ d = .int .i64 (S : Int) ∧ U = cnt (fun q => used (f q)) j ∧ S = cnt (fun q => soiled (f q)) j ∧ Grow w wr)
  case atStart => exact ⟨0, 0, 0, by omega, rfl, rfl, rfl, rfl, rfl, Kept.refl _ _⟩
  case round =>
    obtain ⟨j, U, S, hg, rfl, rfl, rfl, hU, hS, hgr⟩ := hrel
    have HG := Lib.hid hg
    have HU := Lib.hid hU
    have HS := Lib.hid hS
    have HGR := Lib.hid hgr
    have hU1 : (U : Int) ≤ 1000 := by have := cnt_le (g := fun q => used (f q)) (j := j); have := HN.out; omega
    have hS1 : (S : Int) ≤ 1000 := by have := cnt_le (g := fun q => soiled (f q)) (j := j); have := HN.out; omega
    clear hg hgr hU hS
    by_cases hj : j < n
    · have hjz : (j : Int) < (n : Int) := by omega
      obtain ⟨b, o, rfl, hc⟩ := (HF.out.grow HGR.out) (by omega)
      obtain ⟨r0, r1, r2, r3, r4⟩ := hc j hj
      have HUI : Hid (used (f j) = true → cnt (fun q => used (f q)) (j + 1) = cnt (fun q => used (f q)) j + 1) := fun h => cnt_in h
      have HUO : Hid (used (f j) = false → cnt (fun q => used (f q)) (j + 1) = cnt (fun q => used (f q)) j) := fun h => cnt_out h
      have HSI : Hid (soiled (f j) = true → cnt (fun q => soiled (f q)) (j + 1) = cnt (fun q => soiled (f q)) j + 1) := fun h => cnt_in h
      have HSO : Hid (soiled (f j) = false → cnt (fun q => soiled (f q)) (j + 1) = cnt (fun q => soiled (f q)) j) := fun h => cnt_out h
      clear hc
      generalize f j = x at *
      obtain ⟨st, pg, pins, sh, dt⟩ := x
      dsimp only at r0 r1 r2 r3 r4
      have HJ := Lib.hid hj
      clear hj
      by_cases e : st = 1
      · subst e
        have HU2 := Lib.hid (HUI.out rfl)
        cases dt with
        | true =>
          have HS2 := Lib.hid (HSI.out rfl)
          clear HUI HUO HSI HSO
          go_wp2
          go_roundg (gk - 1)
          case measure => have := HG.out; have := HJ.out; omega
          case rel => exact ⟨j + 1, U + 1, S + 1, by have := HG.out; have := HJ.out; omega, by go_num, by go_num, by go_num, by rw [HU2.out, HU.out], by rw [HS2.out, HS.out], (HGR.out.alloc _)⟩
        | false =>
          have HS2 := Lib.hid (HSO.out rfl)
          clear HUI HUO HSI HSO
          go_wp2
          go_roundg (gk - 1)
          case measure => have := HG.out; have := HJ.out; omega
          case rel => exact ⟨j + 1, U + 1, S, by have := HG.out; have := HJ.out; omega, by go_num, by go_num, rfl, by rw [HU2.out, HU.out], by rw [HS2.out, HS.out], (HGR.out.alloc _)⟩
      · have e' : (st == 1) = false := beq_eq_false_iff_ne.2 e
        have HU2 := Lib.hid (HUO.out (by show (st == 1) = false; exact e'))
        have HS2 := Lib.hid (HSO.out (by show (st == 1 && dt) = false; rw [e']; rfl))
        clear HUI HUO HSI HSO e'
        go_wp2
        go_roundg (gk - 1)
        case measure => have := HG.out; have := HJ.out; omega
        case rel => exact ⟨j + 1, U, S, by have := HG.out; have := HJ.out; omega, by go_num, rfl, rfl, by rw [HU2.out, HU.out], by rw [HS2.out, HS.out], (HGR.out.alloc _)⟩
    · obtain rfl : j = n := by have := HG.out; omega
      have HD2 : Hid (D = (decide (0 < S) && decide (U ≤ 2 * S))) := by rw [← HD.out, HU.out, HS.out]; rfl
      by_cases e0 : 0 < S
      · have e0z : (0 : Int) < (S : Int) := by omega
        by_cases e1 : U ≤ 2 * S
        · have e1z : (U : Int) - (S : Int) ≤ (S : Int) := by omega
          have HE : Hid (D = true) := Lib.hid (HD2.out.trans (by simp [e0, e1]))
          clear e0 e1
          go_wp2
          try rw [Exit.noGoto_ret]
          go_ret
          exact ⟨by rw [HE.out]; rfl, HGR.out⟩
        · have e1z : (S : Int) < (U : Int) - (S : Int) := by omega
          have HE : Hid (D = false) := Lib.hid (HD2.out.trans (by simp [e0, e1]))
          have e1d : decide ((U : Int) - (S : Int) ≤ (S : Int)) = false := decide_eq_false (by omega)
          clear e0 e1
          go_wp2
          try rw [Exit.noGoto_ret]
          go_ret
          exact ⟨by rw [HE.out]; rfl, HGR.out⟩
      · obtain rfl : S = 0 := by omega
        have HE : Hid (D = false) := Lib.hid (HD2.out.trans (by simp))
        clear e0
        go_wp2
        try rw [Exit.noGoto_ret]
        go_ret
        exact ⟨by rw [HE.out]; rfl, HGR.out⟩
end
end Go.Proofs.Ytabmefffeafifaa.TdC
