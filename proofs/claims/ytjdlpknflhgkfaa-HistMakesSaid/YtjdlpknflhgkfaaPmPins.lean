/-
  Package model: Pins.
-/
import Derived.Test.YtjdlpknflhgkfaaPmMay
import Derived.Test.YtjdlpknflhgkfaaMdRef
namespace Go.Proofs.Ytjdlpknflhgkfaa.PmP
open Go.ChangeShapes Go.WideShapes Go.ChangeAt Go.RowKit
open Go.Proofs.Ytjdlpknflhgkfaa.Mem Go.Proofs.Ytjdlpknflhgkfaa.Blk Go.Proofs.Ytjdlpknflhgkfaa.Cells Go.Proofs.Ytjdlpknflhgkfaa.Orow Go.Proofs.Ytjdlpknflhgkfaa.GrC Go.Proofs.Ytjdlpknflhgkfaa.MdM Go.Proofs.Ytjdlpknflhgkfaa.MdC Go.Proofs.Ytjdlpknflhgkfaa.MdR Go.Proofs.Ytjdlpknflhgkfaa.PmC Go.Proofs.Ytjdlpknflhgkfaa.PmI Go.Proofs.Ytjdlpknflhgkfaa.PmM Go.Proofs.Ytjdlpknflhgkfaa.Stages
open Go.Proofs.Ytjdlpknflhgkfaa.HdM (lst hnd cnt sum lst_eq hnd_at hnd_none hnd_cases cnt_yes cnt_no cnt_le sum_le)

section
variable {w w' : World} {AT AB AH : Option Addr} {cT cB cH : Nat} {a : Md}
set_option maxHeartbeats 4000000 in
theorem ppins_any (hp : Parts w AT cT AB cB AH cH (stOf a)) (hg : MdM.Good a) (p : Int) : Calls Try.prog 96 #[.agg #[.slice AT a.n cT, .slice AB a.n cB, .slice AH a.N cH], .int .i64 p] w fun e w' => e = .returned (.int .i64 (a.pins p : Int)) ∧ Grow w w' := by
  have HG0 : Hid (Grow w (w.alloc (.cells #[.slice AT a.n cT, .slice AB a.n cB, .slice AH a.N cH] 39))) := (Kept.refl _ _).alloc _
  have hb := Blk.new w 39 [.slice AT a.n cT, .slice AB a.n cB, .slice AH a.N cH]
  have s2 := hb.cell 2
  simp only [List.getElem?_cons_zero, List.getElem?_cons_succ] at s2
  obtain ⟨rb, ro, re, hr⟩ := lists_form (hp.H.grow HG0.out)
  have hN0 := hg.N
  obtain rfl := re (by show 0 < a.N; omega)
  have hro : ∀ i, i < a.N → ∃ bb oo c, (w.alloc (.cells #[.slice AT a.n cT, .slice AB a.n cB, .slice (some ⟨rb, ro, none⟩) a.N cH] 39)).cell? ⟨rb, ro + i, none⟩ = some (.slice (some ⟨bb, oo, none⟩) 6 c) ∧ ∀ t, t < 6 → (w.alloc (.cells #[.slice AT a.n cT, .slice AB a.n cB, .slice (some ⟨rb, ro, none⟩) a.N cH] 39)).cell? ⟨bb, oo + t, none⟩ = some (.int .i64 (a.H i t)) := fun i hi => by
    obtain ⟨A', c, h1, h2⟩ := hr i hi
    have e6 : ((stOf a).H i).length = 6 := six_len _
    rw [e6] at h1 h2
    obtain ⟨bb, oo, rfl, _, hc⟩ := h2.at_ (by omega)
    refine ⟨bb, oo, c, h1, fun t ht => ?_⟩
    rw [hc t ht]
    show some (Value.int .i64 ((six (a.H i)).getD t 0)) = _
    rw [six_get _ ht]
  have HRO := Lib.hid hro
  have HGD := Lib.hid hg
  have hnz : (a.N : Int) ≤ 6 := by omega
  have HEND : Hid (pinsTo a p a.N = a.pins p) := rfl
  have HOUT : Hid (p < 0 → a.pins p = 0) := fun h => if_pos h
  clear hb hp hg hr hro re hN0
  by_cases hp0 : p < 0
  · rw [HOUT.out hp0]
    go_enter Try.func96, Try.ntmps96
    go_wp2
    go_ret
    exact ⟨rfl, HG0.out⟩
  have hp1 : 0 ≤ p := by omega
  have HP1 := Lib.hid hp1
  clear hp0
  go_enter Try.func96, Try.ntmps96
  go_upto_region 1 with (fail)
  generalize w.alloc (.cells #[.slice AT a.n cT, .slice AB a.n cB, .slice (some ⟨rb, ro, none⟩) a.N cH] 39) = w0 at *
  go_wp2
  go_loopg [5, 15] a.N (fun gx s i wr => ∃ j : Nat, j + gx = a.N ∧ i = .int .i64 (j : Int) ∧ s = .int .i64 ((pinsTo a p j : Nat) : Int) ∧ w0 = wr)
  case atStart => exact ⟨0, by omega, rfl, by unfold pinsTo; split <;> rfl, rfl⟩
  case round =>
    obtain ⟨j, hg, rfl, rfl, rfl⟩ := hrel
    have HG := Lib.hid hg
    clear hg
    by_cases hj : j < a.N
    · have hjz : (j : Int) < (a.N : Int) := by omega
      obtain ⟨bb, oo, c, c1, hrow⟩ := HRO.out j hj
      have HROW := Lib.hid hrow
      have HJ := Lib.hid hj
      clear hj hrow
      go_wp2
      go_loopg [5, 21] 6 (fun gx s i wr => ∃ t : Nat, t + gx = 6 ∧ i = .int .i64 (t : Int) ∧ s = .int .i64 ((pinsAt a p j t : Nat) : Int) ∧ w0 = wr)
      case atStart => exact ⟨0, by omega, rfl, by rw [pinsAt_zero], rfl⟩
      case round =>
        obtain ⟨t, hg, rfl, rfl, rfl⟩ := hrel
        have HT := Lib.hid hg
        clear hg
        by_cases ht : t < 6
        · have htz : (t : Int) < 6 := by omega
          have r1 := HROW.out t ht
          have hs42 : ((pinsAt a p j t : Nat) : Int) ≤ 42 := by have := pinsAt_le HGD.out p HJ.out (show t ≤ 6 by omega); omega
          have HY := Lib.hid fun h => pinsAt_yes (a := a) (p := p) (m := j) (t := t) h
          have HX := Lib.hid fun h => pinsAt_no (a := a) (p := p) (m := j) (t := t) h
          generalize a.H j t = x at r1 HY HX
          by_cases hx : x = p
          · have hc := HY.out hx HP1.out
            have HC := Lib.hid hc
            clear hc HY HX
            subst hx
            go_wp2
            go_roundg (gk - 1)
            case measure => have := HT.out; omega
            case rel => exact ⟨t + 1, by have := HT.out; omega, by go_num, by rw [HC.out]; go_num, rfl⟩
          · have hc := HX.out (.inl hx)
            have HC := Lib.hid hc
            have hx' : (x == p) = false := by simpa using hx
            clear hc HY HX hx
            go_wp2
            go_roundg (gk - 1)
            case measure => have := HT.out; omega
            case rel => exact ⟨t + 1, by have := HT.out; omega, by go_num, by rw [HC.out], rfl⟩
        · obtain rfl : t = 6 := by have := HT.out; omega
          have hsix := Lib.hid (pinsAt_six a p j)
          clear ht
          go_wp2
          go_roundg (a.N - (j + 1))
          case measure => have := HG.out; have := HJ.out; omega
          case rel => exact ⟨j + 1, by have := HG.out; have := HJ.out; omega, by go_num, by rw [hsix.out], rfl⟩
    · obtain rfl : j = a.N := by have := HG.out; omega
      rw [HEND.out]
      go_wp2
      go_ret
      exact ⟨rfl, HG0.out⟩
end
end Go.Proofs.Ytjdlpknflhgkfaa.PmP
