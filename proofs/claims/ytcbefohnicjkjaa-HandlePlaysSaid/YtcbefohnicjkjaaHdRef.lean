/-
  The document's handles (lavaboref10.Handles): NewHandles, Give, Page, Back, Pins, Room.
-/
import Derived.Test.YtcbefohnicjkjaaHdFresh
namespace Go.Proofs.Ytcbefohnicjkjaa.HdR
open Go.ChangeShapes Go.WideShapes Go.ChangeAt Go.RowKit
open Go.Proofs.Ytcbefohnicjkjaa.Mem Go.Proofs.Ytcbefohnicjkjaa.Blk Go.Proofs.Ytcbefohnicjkjaa.Cells Go.Proofs.Ytcbefohnicjkjaa.Orow Go.Proofs.Ytcbefohnicjkjaa.HdM Go.Proofs.Ytcbefohnicjkjaa.HdC Go.Proofs.Ytcbefohnicjkjaa.HdO Go.Proofs.Ytcbefohnicjkjaa.HdN Go.Proofs.Ytcbefohnicjkjaa.HdA Go.Proofs.Ytcbefohnicjkjaa.HdF Go.Proofs.Ytcbefohnicjkjaa.Stages

section
variable {w w' : World} {G F X : Nat → Prop} {v : Value} {n d : Nat} {a : Hs}
set_option maxHeartbeats 1000000 in
theorem rpage_any (h : HAt w G d a) (c j : Int) : Calls Try.prog 17 #[.pointer (some ⟨d, 0, none⟩), .int .i64 c, .int .i64 j] w fun e w' => e = .returned (.int .i64 (a.page c j)) ∧ w = w' := by
  rcases client_cases a c with hc | ⟨k, rfl, hk⟩
  · rw [page_out hc]
    obtain ⟨A, cap, c0⟩ := h.head
    clear h
    by_cases h0 : c < 0
    · clear hc
      go_enter Try.func17, Try.ntmps17
      go_wp2
      go_ret
      exact ⟨rfl, rfl⟩
    · have h1 : (a.n : Int) ≤ c := by omega
      have h2 : 0 ≤ c := by omega
      clear hc h0
      go_enter Try.func17, Try.ntmps17
      go_wp2
      go_ret
      exact ⟨rfl, rfl⟩
  · obtain ⟨g, cap, b, c, ho⟩ := h.own hk
    have HO := Lib.hid ho
    have c0 := ho.hd
    have c1 := ho.sl
    have hkz : (k : Int) < (a.n : Int) := by omega
    clear h ho
    by_cases hj : 0 ≤ j ∧ j < 6
    · obtain ⟨h0, h6⟩ := hj
      obtain ⟨i, rfl⟩ := Int.eq_ofNat_of_zero_le h0
      have hi : i < 6 := by omega
      rw [page_in hk hi]
      have r1 := hcell_get HO.out.row hi
      clear hk h0 hi
      go_enter Try.func17, Try.ntmps17
      go_wp2
      go_ret
      exact ⟨rfl, rfl⟩
    · rw [page_off hk hj]
      clear hk
      by_cases h0 : j < 0
      · clear hj
        go_enter Try.func17, Try.ntmps17
        go_wp2
        go_ret
        exact ⟨rfl, rfl⟩
      · have h1 : 0 ≤ j := by omega
        have h6 : 6 ≤ j := by omega
        clear h0 hj
        go_enter Try.func17, Try.ntmps17
        go_wp2
        go_ret
        exact ⟨rfl, rfl⟩
set_option maxHeartbeats 1000000 in
theorem rback_any (h : HAt w G d a) (c j : Int) : Calls Try.prog 16 #[.pointer (some ⟨d, 0, none⟩), .int .i64 c, .int .i64 j] w (HPost G d w (.int .i64 (a.page c j)) (a.back c j)) := by
  have HG := Lib.hid (rpage_any h c j)
  by_cases hp : a.page c j = -1
  · rw [back_not hp, hp]
    rw [hp] at HG
    have HA := Lib.hid h
    clear h hp
    go_enter Try.func16, Try.ntmps16
    go_wp2_with (go_at_call 17; (with_reducible refine HG.out.mono ?_); rintro e w' ⟨rfl, rfl⟩)
    go_ret
    exact ⟨rfl, HA.out, Kept.refl _ _⟩
  · rcases client_cases a c with hc | ⟨k, rfl, hk⟩
    · exact absurd (page_out hc j) hp
    · by_cases hj : 0 ≤ j ∧ j < 6
      · obtain ⟨h0, h6⟩ := hj
        obtain ⟨i, rfl⟩ := Int.eq_ofNat_of_zero_le h0
        have hi : i < 6 := by omega
        obtain ⟨g, cap, b, c, ho⟩ := h.own hk
        have c0 := ho.hd
        have c1 := ho.sl
        have hkz : (k : Int) < (a.n : Int) := by omega
        have r1 := hcell_get ho.row hi
        have rf := ho.row.frozen i
        have HP : Hid (HAt (w.setCell ⟨b, i, none⟩ (.int .i64 (-1))) G d (a.put k i (-1))) := ho.put i (-1) (by omega)
        have HI := Lib.hid ho.inG
        have hlo := h.good.h k i
        rw [back_at hp]
        have hpz : 0 ≤ a.page (k : Int) (i : Int) := by
          have e := page_in hk hi
          omega
        generalize a.page (k : Int) (i : Int) = z at HG hpz ⊢
        clear h ho hp hk hi h0 hlo
        go_enter Try.func16, Try.ntmps16
        go_wp2_with (go_at_call 17; (with_reducible refine HG.out.mono ?_); rintro e w' ⟨rfl, rfl⟩)
        go_ret
        exact ⟨rfl, HP.out, (kept_set w b i _).mono fun x _ e => by rw [e]; exact HI.out⟩
      · exact absurd (page_off hk hj) hp
set_option maxHeartbeats 1000000 in
theorem rgive_any (h : HAt w G d a) (c p : Int) : Calls Try.prog 14 #[.pointer (some ⟨d, 0, none⟩), .int .i64 c, .int .i64 p] w (HPost G d w (.int .i64 (a.give c p)) (a.gave c p)) := by
  rcases client_cases a c with hc | ⟨k, rfl, hk⟩
  · rw [gave_not (give_out hc p), give_out hc p]
    obtain ⟨A, cap, c0⟩ := h.head
    have HA := Lib.hid h
    clear h
    by_cases h0 : c < 0
    · clear hc
      go_enter Try.func14, Try.ntmps14
      go_wp2
      go_ret
      exact ⟨rfl, HA.out, Kept.refl _ _⟩
    · have h1 : (a.n : Int) ≤ c := by omega
      have h2 : 0 ≤ c := by omega
      clear hc h0
      go_enter Try.func14, Try.ntmps14
      go_wp2
      go_ret
      exact ⟨rfl, HA.out, Kept.refl _ _⟩
  · obtain ⟨g, cap, b, c, ho⟩ := h.own hk
    have c0 := ho.hd
    have c1 := ho.sl
    have hkz : (k : Int) < (a.n : Int) := by omega
    have HA := Lib.hid h
    have HO := Lib.hid ho
    have HLO := Lib.hid h.good.h
    clear h ho
    by_cases h0 : p < 0
    · rw [gave_not (give_low h0 _), give_low h0]
      clear hk
      go_enter Try.func14, Try.ntmps14
      go_wp2
      go_ret
      exact ⟨rfl, HA.out, Kept.refl _ _⟩
    · have h1 : 0 ≤ p := by omega
      have hgi := Lib.hid (give_in hk h0)
      clear h0 hk
      go_enter Try.func14, Try.ntmps14
      go_wp2
      go_loopg [7] 6 (fun gx i wr => ∃ j : Nat, j + gx = 6 ∧ i = .int .i64 (j : Int) ∧ w = wr ∧ ∀ t, t < j → a.H k t ≠ -1)
      case atStart => exact ⟨0, by omega, rfl, rfl, fun t h => absurd h (Nat.not_lt_zero t)⟩
      case round =>
        obtain ⟨j, hg, rfl, rfl, hno⟩ := hrel
        have HG := Lib.hid hg
        have HNO := Lib.hid hno
        clear hg hno
        by_cases hj : j < 6
        · have hjz : (j : Int) < 6 := by omega
          have r1 := hcell_get HO.out.row hj
          have rf := HO.out.row.frozen j
          have hlo := HLO.out k j
          by_cases hx : a.H k j = -1
          · have e1 := hgi.out.trans (hnd_at HNO.out hj hx)
            have HE := Lib.hid e1
            rw [hx] at r1
            have HP : Hid (HAt (w.setCell ⟨b, j, none⟩ (.int .i64 p)) G d (a.put k j p)) := HO.out.put j p (by omega)
            clear e1 hx hlo hj
            go_wp2
            go_ret
            refine ⟨by rw [HE.out]; rfl, by rw [gave_at HE.out]; exact HP.out, (kept_set w b j _).mono fun x _ e => by rw [e]; exact HO.out.inG⟩
          · have hx0 : 0 ≤ a.H k j := by omega
            have HX := Lib.hid hx
            clear hx hlo hj
            generalize a.H k j = x at r1 hx0
            go_wp2
            go_roundg (gk - 1)
            case measure => have := HG.out; omega
            case rel => exact ⟨j + 1, by have := HG.out; omega, by go_num, rfl, fun t ht => by
              by_cases e : t = j
              · subst e; exact HX.out
              · exact HNO.out t (by omega)⟩
        · have hj6 : j = 6 := by have := HG.out; omega
          subst hj6
          have e1 := hgi.out.trans (hnd_none HNO.out)
          have HE := Lib.hid e1
          clear e1 hj
          go_wp2
          go_ret
          exact ⟨by rw [HE.out]; rfl, by rw [gave_not HE.out]; exact HA.out, Kept.refl _ _⟩
set_option maxHeartbeats 1000000 in
theorem rroom_any (h : HAt w G d a) (c : Int) : Calls Try.prog 20 #[.pointer (some ⟨d, 0, none⟩), .int .i64 c] w fun e w' => e = .returned (.bool (a.room c)) ∧ w = w' := by
  rcases client_cases a c with hc | ⟨k, rfl, hk⟩
  · rw [room_out hc]
    obtain ⟨A, cap, c0⟩ := h.head
    clear h
    by_cases h0 : c < 0
    · clear hc
      go_enter Try.func20, Try.ntmps20
      go_wp2
      go_ret
      exact ⟨rfl, rfl⟩
    · have h1 : (a.n : Int) ≤ c := by omega
      have h2 : 0 ≤ c := by omega
      clear hc h0
      go_enter Try.func20, Try.ntmps20
      go_wp2
      go_ret
      exact ⟨rfl, rfl⟩
  · obtain ⟨g, cap, b, c, ho⟩ := h.own hk
    have c0 := ho.hd
    have c1 := ho.sl
    have hkz : (k : Int) < (a.n : Int) := by omega
    have HO := Lib.hid ho
    have HLO := Lib.hid h.good.h
    have HRI := Lib.hid (room_in hk)
    clear h ho hk
    go_enter Try.func20, Try.ntmps20
    go_wp2
    go_loopg [5] 6 (fun gx i wr => ∃ j : Nat, j + gx = 6 ∧ i = .int .i64 (j : Int) ∧ w = wr ∧ ∀ t, t < j → a.H k t ≠ -1)
    case atStart => exact ⟨0, by omega, rfl, rfl, fun t h => absurd h (Nat.not_lt_zero t)⟩
    case round =>
      obtain ⟨j, hg, rfl, rfl, hno⟩ := hrel
      have HG := Lib.hid hg
      have HNO := Lib.hid hno
      clear hg hno
      by_cases hj : j < 6
      · have hjz : (j : Int) < 6 := by omega
        have r1 := hcell_get HO.out.row hj
        have hlo := HLO.out k j
        by_cases hx : a.H k j = -1
        · have e1 := hnd_at HNO.out hj hx
          have HE : Hid (a.room (k : Int) = true) := by show a.room (k : Int) = true; rw [HRI.out, e1]; simp
          rw [hx] at r1
          clear e1 hx hlo hj
          go_wp2
          go_ret
          exact ⟨by rw [HE.out]; rfl, rfl⟩
        · have hx0 : 0 ≤ a.H k j := by omega
          have HX := Lib.hid hx
          clear hx hlo hj
          generalize a.H k j = x at r1 hx0
          go_wp2
          go_roundg (gk - 1)
          case measure => have := HG.out; omega
          case rel => exact ⟨j + 1, by have := HG.out; omega, by go_num, rfl, fun t ht => by
            by_cases e : t = j
            · subst e; exact HX.out
            · exact HNO.out t (by omega)⟩
      · have hj6 : j = 6 := by have := HG.out; omega
        subst hj6
        have e1 := hnd_none HNO.out
        have HE : Hid (a.room (k : Int) = false) := by show a.room (k : Int) = false; rw [HRI.out, e1]; rfl
        clear e1 hj
        go_wp2
        go_ret
        exact ⟨by rw [HE.out]; rfl, rfl⟩
/-- The pins of the first m clients. -/
def pinsTo (a : Hs) (p : Int) (m : Nat) : Nat := if p < 0 then 0 else sum (a.has p) m
def pinsAt (a : Hs) (p : Int) (m t : Nat) : Nat := if p < 0 then 0 else sum (a.has p) m + cnt (a.H m) p t
theorem pinsAt_zero (a : Hs) (p : Int) (m : Nat) : pinsAt a p m 0 = pinsTo a p m := by unfold pinsAt pinsTo; split <;> rfl
theorem pinsAt_six (a : Hs) (p : Int) (m : Nat) : pinsAt a p m 6 = pinsTo a p (m + 1) := by unfold pinsAt pinsTo; split <;> rfl
theorem pinsAt_yes {a : Hs} {p : Int} {m t : Nat} (h : a.H m t = p) (h0 : 0 ≤ p) : pinsAt a p m (t + 1) = pinsAt a p m t + 1 := by
  unfold pinsAt
  rw [if_neg (by omega), if_neg (by omega), cnt_yes h]
  omega
theorem pinsAt_no {a : Hs} {p : Int} {m t : Nat} (h : a.H m t ≠ p ∨ p < 0) : pinsAt a p m (t + 1) = pinsAt a p m t := by
  unfold pinsAt
  by_cases h0 : p < 0
  · rw [if_pos h0, if_pos h0]
  · rw [if_neg h0, if_neg h0, cnt_no (h.resolve_right h0)]
theorem pinsAt_le {a : Hs} (g : HdM.Good a) (p : Int) {m t : Nat} (hm : m < a.n) (ht : t ≤ 6) : pinsAt a p m t ≤ 42 := by
  unfold pinsAt
  have e1 := sum_le (g := a.has p) (b := 6) (fun i => cnt_le _ _ _) m
  have e2 := cnt_le (a.H m) p t
  have := g.n
  split <;> omega
set_option maxHeartbeats 2000000 in
theorem rpins_any (h : HAt w G d a) (p : Int) : Calls Try.prog 18 #[.pointer (some ⟨d, 0, none⟩), .int .i64 p] w fun e w' => e = .returned (.int .i64 (a.pins p : Int)) ∧ w = w' := by
  obtain ⟨A, cap, c0, hr⟩ := HAt.rows h
  have HR := Lib.hid hr
  have HGD := Lib.hid h.good
  have hnz : (a.n : Int) ≤ 6 := by have := HGD.out.n; omega
  have HEND : Hid (pinsTo a p a.n = a.pins p) := rfl
  clear h hr
  go_enter Try.func18, Try.ntmps18
  go_wp2
  go_loopg [5, 6] a.n (fun gx s i wr => ∃ j : Nat, j + gx = a.n ∧ i = .int .i64 (j : Int) ∧ s = .int .i64 ((pinsTo a p j : Nat) : Int) ∧ w = wr)
  case atStart => exact ⟨0, by omega, rfl, by unfold pinsTo; split <;> rfl, rfl⟩
  case round =>
    obtain ⟨j, hg, rfl, rfl, rfl⟩ := hrel
    have HG := Lib.hid hg
    clear hg
    by_cases hj : j < a.n
    · have hjz : (j : Int) < (a.n : Int) := by omega
      obtain ⟨g, b, c, rfl, c1, hrow⟩ := HR.out.get j hj
      have HROW := Lib.hid hrow
      have HJ := Lib.hid hj
      clear hrow hj
      go_wp2
      go_loopg [5, 7] 6 (fun gx s i wr => ∃ t : Nat, t + gx = 6 ∧ i = .int .i64 (t : Int) ∧ s = .int .i64 ((pinsAt a p j t : Nat) : Int) ∧ w = wr)
      case atStart => exact ⟨0, by omega, rfl, by rw [pinsAt_zero], rfl⟩
      case round =>
        obtain ⟨t, hg, rfl, rfl, rfl⟩ := hrel
        have HT := Lib.hid hg
        clear hg
        by_cases ht : t < 6
        · have htz : (t : Int) < 6 := by omega
          have r1 := hcell_get HROW.out ht
          have hs42 : ((pinsAt a p j t : Nat) : Int) ≤ 42 := by have := pinsAt_le HGD.out p HJ.out (show t ≤ 6 by omega); omega
          have HY := Lib.hid fun h => pinsAt_yes (a := a) (p := p) (m := j) (t := t) h
          have HX := Lib.hid fun h => pinsAt_no (a := a) (p := p) (m := j) (t := t) h
          generalize a.H j t = x at r1 HY HX
          by_cases hx : x = p
          · by_cases h0 : p < 0
            · have hc := HX.out (.inr h0)
              have HC := Lib.hid hc
              clear hc HY HX
              subst hx
              go_wp2
              go_roundg (gk - 1)
              case measure => have := HT.out; omega
              case rel => exact ⟨t + 1, by have := HT.out; omega, by go_num, by rw [HC.out], rfl⟩
            · have h1 : 0 ≤ p := by omega
              have hc := HY.out hx h1
              have HC := Lib.hid hc
              clear hc HY HX h0
              subst hx
              go_wp2
              go_roundg (gk - 1)
              case measure => have := HT.out; omega
              case rel => exact ⟨t + 1, by have := HT.out; omega, by go_num, by rw [HC.out]; go_num, rfl⟩
          · have hc := HX.out (.inl hx)
            have HC := Lib.hid hc
            have hx' : (x == p) = false := by simpa using hx
            clear hc HY HX hx
            go_wp2
            go_roundg (gk - 1)
            case measure => have := HT.out; omega
            case rel => exact ⟨t + 1, by have := HT.out; omega, by go_num, by rw [HC.out], rfl⟩
        · obtain rfl : t = 6 := by have := HT.out; omega
          have hsix := Lib.hid (pinsAt_six a p j)
          clear ht
          go_wp2
          go_roundg (a.n - (j + 1))
          case measure => have := HG.out; have := HJ.out; omega
          case rel => exact ⟨j + 1, by have := HG.out; have := HJ.out; omega, by go_num, by rw [hsix.out], rfl⟩
    · obtain rfl : j = a.n := by have := HG.out; omega
      rw [HEND.out]
      go_wp2
      go_ret
      exact ⟨rfl, rfl⟩
end
end Go.Proofs.Ytcbefohnicjkjaa.HdR
