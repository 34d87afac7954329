/-
  The document's state (lavaboref13.S): give, Pins.
-/
import Derived.Test.YtjdlpknflhgkfaaMd
namespace Go.Proofs.Ytjdlpknflhgkfaa.MdR
open Go.ChangeShapes Go.WideShapes Go.ChangeAt Go.RowKit
open Go.Proofs.Ytjdlpknflhgkfaa.Mem Go.Proofs.Ytjdlpknflhgkfaa.Blk Go.Proofs.Ytjdlpknflhgkfaa.Cells Go.Proofs.Ytjdlpknflhgkfaa.Orow Go.Proofs.Ytjdlpknflhgkfaa.GrC Go.Proofs.Ytjdlpknflhgkfaa.Txt Go.Proofs.Ytjdlpknflhgkfaa.MdM Go.Proofs.Ytjdlpknflhgkfaa.MdC Go.Proofs.Ytjdlpknflhgkfaa.Stages
open Go.Proofs.Ytjdlpknflhgkfaa.HdM (lst hnd cnt sum lst_eq hnd_at hnd_none hnd_cases cnt_yes cnt_no cnt_le sum_le)

section
variable {w w' : World} {G F X : Nat → Prop} {v : Value} {gT cT gB cB gH cH : Nat} {q cp : Nat → Nat} {a : Md}
theorem free_cases (a : Md) (k : Nat) : a.free k = -1 ∨ ∃ j : Nat, j < 6 ∧ a.free k = (j : Int) := by
  rcases hnd_cases (a.H k) 6 with ⟨e, _⟩ | ⟨j, hj, e, _⟩
  · exact .inl e
  · exact .inr ⟨j, hj, e⟩
theorem give_any (h : SAt w G v a) {k j p : Nat} (hk : k < a.N) (hf : a.free k = (j : Int)) (hp : p < a.n) (hT : a.T p = true) : Calls Try.prog 59 #[v, .int .i64 (k : Int), .int .i64 (p : Int)] w fun e w' => e = .returned (.int .i64 (j : Int)) ∧ SAt w' G v (a.putH k j p) ∧ Kept G w w' := by
  obtain ⟨gT, cT, gB, cB, gH, cH, q, cp, rfl, hm⟩ := h.mem
  have HGD := Lib.hid (h.good.putH k j (p := (p : Int)) (.inr ⟨p, rfl, hp, hT⟩))
  unfold sval
  have HC := Lib.hid (hm.client hk)
  have HG0 : Hid (Grow w (w.alloc (.cells #[.slice (some ⟨gT, 0, none⟩) a.n cT, .slice (some ⟨gB, 0, none⟩) a.n cB, .slice (some ⟨gH, 0, none⟩) a.N cH] 44))) := (Kept.refl _ _).alloc _
  have HM := Lib.hid (hm.kept HG0.out fun _ _ x => x)
  have HLO := Lib.hid fun (j : Nat) (hj : j < 6) => h.good.lo hk hj
  have HK := Lib.hid hk
  have HF := Lib.hid hf
  have hkz : (k : Int) < (a.N : Int) := by omega
  clear hm h hk hf hp hT
  go_enter Try.func59, Try.ntmps59
  go_upto_region 1 with (fail)
  generalize w.alloc (.cells #[.slice (some ⟨gT, 0, none⟩) a.n cT, .slice (some ⟨gB, 0, none⟩) a.n cB, .slice (some ⟨gH, 0, none⟩) a.N cH] 44) = w0 at HC HG0 HM ⊢
  generalize w.heap.size = s at HC ⊢
  have s2 := HC.out.s2
  have sl := HC.out.sl
  go_wp2
  go_loopg [7] 6 (fun gx i wr => ∃ t : Nat, t + gx = 6 ∧ i = .int .i64 (t : Int) ∧ w0 = wr ∧ ∀ x, x < t → a.H k x ≠ -1)
  case atStart => exact ⟨0, by omega, rfl, rfl, fun t h => absurd h (Nat.not_lt_zero t)⟩
  case round =>
    obtain ⟨t, hg, rfl, rfl, hno⟩ := hrel
    have HG := Lib.hid hg
    have HNO := Lib.hid hno
    clear hg hno
    by_cases ht : t < 6
    · have htz : (t : Int) < 6 := by omega
      have r1 := hcell_get HC.out.row ht
      have rf := HC.out.row.frozen t
      have hlo := HLO.out t ht
      by_cases hx : a.H k t = -1
      · have e1 : (t : Int) = (j : Int) := (hnd_at HNO.out ht hx).symm.trans HF.out
        have e2 : t = j := by omega
        subst e2
        rw [hx] at r1
        have HS : Hid (SM (w0.setCell ⟨q k, t, none⟩ (.int .i64 (p : Int))) G gT cT gB cB gH cH q cp (a.putH k t p)) := HM.out.putH HK.out t p
        have HQ := Lib.hid (HM.out.qG k HK.out)
        clear hx hlo ht e1
        go_wp2
        go_ret
        exact ⟨rfl, ⟨HGD.out, gT, cT, gB, cB, gH, cH, q, cp, rfl, HS.out⟩, HG0.out.kept.trans ((kept_set w0 (q k) t _).mono fun x _ e => by rw [e]; exact HQ.out)⟩
      · have hx0 : 0 ≤ a.H k t := by omega
        have HX := Lib.hid hx
        clear hx hlo ht
        generalize a.H k t = x at r1 hx0
        go_wp2
        go_roundg (gk - 1)
        case measure => have := HG.out; omega
        case rel => exact ⟨t + 1, by have := HG.out; omega, by go_num, rfl, fun y hy => by
          by_cases e : y = t
          · subst e; exact HX.out
          · exact HNO.out y (by omega)⟩
    · have ht6 : t = 6 := by have := HG.out; omega
      subst ht6
      have e1 : hnd (a.H k) 6 = -1 := hnd_none HNO.out
      have e2 : a.free k = -1 := e1
      have := HF.out
      omega
/-- The pins of the first m clients. -/
def pinsTo (a : Md) (p : Int) (m : Nat) : Nat := if p < 0 then 0 else sum (a.has p) m
def pinsAt (a : Md) (p : Int) (m t : Nat) : Nat := if p < 0 then 0 else sum (a.has p) m + cnt (a.H m) p t
theorem pinsAt_zero (a : Md) (p : Int) (m : Nat) : pinsAt a p m 0 = pinsTo a p m := by unfold pinsAt pinsTo; split <;> rfl
theorem pinsAt_six (a : Md) (p : Int) (m : Nat) : pinsAt a p m 6 = pinsTo a p (m + 1) := by unfold pinsAt pinsTo; split <;> rfl
theorem pinsAt_yes {a : Md} {p : Int} {m t : Nat} (h : a.H m t = p) (h0 : 0 ≤ p) : pinsAt a p m (t + 1) = pinsAt a p m t + 1 := by
  unfold pinsAt
  rw [if_neg (by omega), if_neg (by omega), cnt_yes h]
  omega
theorem pinsAt_no {a : Md} {p : Int} {m t : Nat} (h : a.H m t ≠ p ∨ p < 0) : pinsAt a p m (t + 1) = pinsAt a p m t := by
  unfold pinsAt
  by_cases h0 : p < 0
  · rw [if_pos h0, if_pos h0]
  · rw [if_neg h0, if_neg h0, cnt_no (h.resolve_right h0)]
theorem pinsAt_le {a : Md} (g : MdM.Good a) (p : Int) {m t : Nat} (hm : m < a.N) (ht : t ≤ 6) : pinsAt a p m t ≤ 42 := by
  unfold pinsAt
  have e1 := sum_le (g := a.has p) (b := 6) (fun i => cnt_le _ _ _) m
  have e2 := cnt_le (a.H m) p t
  have := g.N
  split <;> omega
set_option maxHeartbeats 2000000 in
theorem pins_any (h : SAt w G v a) (p : Int) : Calls Try.prog 60 #[v, .int .i64 p] w fun e w' => e = .returned (.int .i64 (a.pins p : Int)) ∧ Grow w w' := by
  obtain ⟨gT, cT, gB, cB, gH, cH, q, cp, rfl, hm⟩ := h.mem
  unfold sval
  have HG0 : Hid (Grow w (w.alloc (.cells #[.slice (some ⟨gT, 0, none⟩) a.n cT, .slice (some ⟨gB, 0, none⟩) a.n cB, .slice (some ⟨gH, 0, none⟩) a.N cH] 44))) := (Kept.refl _ _).alloc _
  have HCL := Lib.hid fun (k : Nat) (hk : k < a.N) => hm.client hk
  have HGD := Lib.hid h.good
  have hnz : (a.N : Int) ≤ 6 := by have := HGD.out.N; omega
  have HEND : Hid (pinsTo a p a.N = a.pins p) := rfl
  have hN0 := HGD.out.N.1
  have s2 := (hm.client (k := 0) (by omega)).s2
  clear h hm hN0
  go_enter Try.func60, Try.ntmps60
  go_upto_region 1 with (fail)
  generalize w.alloc (.cells #[.slice (some ⟨gT, 0, none⟩) a.n cT, .slice (some ⟨gB, 0, none⟩) a.n cB, .slice (some ⟨gH, 0, none⟩) a.N cH] 44) = w0 at HCL HG0 s2 ⊢
  generalize w.heap.size = s at HCL s2 ⊢
  go_wp2
  go_loopg [5, 6] a.N (fun gx s i wr => ∃ j : Nat, j + gx = a.N ∧ i = .int .i64 (j : Int) ∧ s = .int .i64 ((pinsTo a p j : Nat) : Int) ∧ w0 = wr)
  case atStart => exact ⟨0, by omega, rfl, by unfold pinsTo; split <;> rfl, rfl⟩
  case round =>
    obtain ⟨j, hg, rfl, rfl, rfl⟩ := hrel
    have HG := Lib.hid hg
    clear hg
    by_cases hj : j < a.N
    · have hjz : (j : Int) < (a.N : Int) := by omega
      have c1 := (HCL.out j hj).sl
      have HROW := Lib.hid (HCL.out j hj).row
      have HJ := Lib.hid hj
      clear hj
      generalize q j = b at c1 HROW
      generalize cp j = c at c1 HROW
      go_wp2
      go_loopg [5, 7] 6 (fun gx s i wr => ∃ t : Nat, t + gx = 6 ∧ i = .int .i64 (t : Int) ∧ s = .int .i64 ((pinsAt a p j t : Nat) : Int) ∧ w0 = wr)
      case atStart => exact ⟨0, by omega, rfl, by rw [pinsAt_zero], rfl⟩
      case round =>
        obtain ⟨t, hg, rfl, rfl, rfl⟩ := hrel
        have HT := Lib.hid hg
        clear hg
        by_cases ht : t < 6
        · have htz : (t : Int) < 6 := by omega
          have r1 := hcell_get HROW.out ht
          have hs42 : ((pinsAt a p j t : Nat) : Int) ≤ 42 := by have := pinsAt_le HGD.out p HJ.out (show t ≤ 6 by omega); omega
          have HY := Lib.hid fun h => pinsAt_yes (a := a) (p := p) (m := j) (t := t) h
          have HX := Lib.hid fun h => pinsAt_no (a := a) (p := p) (m := j) (t := t) h
          generalize a.H j t = x at r1 HY HX
          by_cases hx : x = p
          · by_cases h0 : p < 0
            · have hc := HX.out (.inr h0)
              have HC := Lib.hid hc
              clear hc HY HX
              subst hx
              go_wp2
              go_roundg (gk - 1)
              case measure => have := HT.out; omega
              case rel => exact ⟨t + 1, by have := HT.out; omega, by go_num, by rw [HC.out], rfl⟩
            · have h1 : 0 ≤ p := by omega
              have hc := HY.out hx h1
              have HC := Lib.hid hc
              clear hc HY HX h0
              subst hx
              go_wp2
              go_roundg (gk - 1)
              case measure => have := HT.out; omega
              case rel => exact ⟨t + 1, by have := HT.out; omega, by go_num, by rw [HC.out]; go_num, rfl⟩
          · have hc := HX.out (.inl hx)
            have HC := Lib.hid hc
            have hx' : (x == p) = false := by simpa using hx
            clear hc HY HX hx
            go_wp2
            go_roundg (gk - 1)
            case measure => have := HT.out; omega
            case rel => exact ⟨t + 1, by have := HT.out; omega, by go_num, by rw [HC.out], rfl⟩
        · obtain rfl : t = 6 := by have := HT.out; omega
          have hsix := Lib.hid (pinsAt_six a p j)
          clear ht
          go_wp2
          go_roundg (a.N - (j + 1))
          case measure => have := HG.out; have := HJ.out; omega
          case rel => exact ⟨j + 1, by have := HG.out; have := HJ.out; omega, by go_num, by rw [hsix.out], rfl⟩
    · obtain rfl : j = a.N := by have := HG.out; omega
      rw [HEND.out]
      go_wp2
      go_ret
      exact ⟨rfl, HG0.out⟩
end
end Go.Proofs.Ytjdlpknflhgkfaa.MdR
