/-
  Package handle (chapter 12): Page, Give, Back, Room, Pins.
-/
import Derived.Test.YtcbefohnicjkjaaHd
namespace Go.Proofs.Ytcbefohnicjkjaa.HdO
open Go.ChangeShapes Go.WideShapes Go.ChangeAt Go.RowKit
open Go.Proofs.Ytcbefohnicjkjaa.Mem Go.Proofs.Ytcbefohnicjkjaa.Blk Go.Proofs.Ytcbefohnicjkjaa.Cells Go.Proofs.Ytcbefohnicjkjaa.Orow Go.Proofs.Ytcbefohnicjkjaa.HdM Go.Proofs.Ytcbefohnicjkjaa.HdC Go.Proofs.Ytcbefohnicjkjaa.Stages

section
variable {w w' : World} {G F X : Nat → Prop} {v : Value} {n d : Nat} {a : Hs}
theorem client_cases (a : Hs) (c : Int) : (¬ (0 ≤ c ∧ c < (a.n : Int))) ∨ ∃ k : Nat, c = (k : Int) ∧ k < a.n := by
  by_cases h : 0 ≤ c ∧ c < (a.n : Int)
  · obtain ⟨k, rfl⟩ := Int.eq_ofNat_of_zero_le h.1
    exact .inr ⟨k, rfl, by omega⟩
  · exact .inl h
theorem page_any (h : HAt w G d a) (c j : Int) : Calls Try.prog 11 #[.pointer (some ⟨d, 0, none⟩), .int .i64 c, .int .i64 j] w fun e w' => e = .returned (.int .i64 (a.page c j)) ∧ w = w' := by
  rcases client_cases a c with hc | ⟨k, rfl, hk⟩
  · rw [page_out hc]
    have HF := Lib.hid (of_bad h c hc)
    clear h hc
    by_cases h0 : j < 0
    · go_enter Try.func11, Try.ntmps11
      go_wp2_with (go_at_call 23; (with_reducible refine HF.out.mono ?_); rintro e w' ⟨rfl, rfl⟩)
      go_ret
      exact ⟨rfl, rfl⟩
    · have h1 : 0 ≤ j := by omega
      clear h0
      go_enter Try.func11, Try.ntmps11
      go_wp2_with (go_at_call 23; (with_reducible refine HF.out.mono ?_); rintro e w' ⟨rfl, rfl⟩)
      go_ret
      exact ⟨rfl, rfl⟩
  · obtain ⟨g, cap, b, c, ho⟩ := h.own hk
    have HF := Lib.hid (of_good ho hk)
    have HR := Lib.hid ho.row
    clear h ho
    by_cases hj : 0 ≤ j ∧ j < 6
    · obtain ⟨h0, h6⟩ := hj
      obtain ⟨i, rfl⟩ := Int.eq_ofNat_of_zero_le h0
      have hi : i < 6 := by omega
      rw [page_in hk hi]
      have r1 := hcell_get HR.out hi
      clear hk h0 hi
      go_enter Try.func11, Try.ntmps11
      go_wp2_with (go_at_call 23; (with_reducible refine HF.out.mono ?_); rintro e w' ⟨rfl, rfl⟩)
      go_ret
      exact ⟨rfl, rfl⟩
    · rw [page_off hk hj]
      clear hk
      by_cases h0 : j < 0
      · clear hj
        go_enter Try.func11, Try.ntmps11
        go_wp2_with (go_at_call 23; (with_reducible refine HF.out.mono ?_); rintro e w' ⟨rfl, rfl⟩)
        go_ret
        exact ⟨rfl, rfl⟩
      · have h1 : 0 ≤ j := by omega
        have h6 : 6 ≤ j := by omega
        clear h0 hj
        go_enter Try.func11, Try.ntmps11
        go_wp2_with (go_at_call 23; (with_reducible refine HF.out.mono ?_); rintro e w' ⟨rfl, rfl⟩)
        go_ret
        exact ⟨rfl, rfl⟩
theorem give_nil (w : World) (c p : Int) : Calls Try.prog 8 #[.pointer none, .int .i64 c, .int .i64 p] w fun e w' => e = .returned (.int .i64 (-1)) ∧ w = w' := by
  have HF := Lib.hid (of_nil w c)
  have HL := Lib.hid (least_nil w none 0)
  by_cases h0 : p < 0
  · go_enter Try.func8, Try.ntmps8
    go_wp2_with (first
      | (go_at_call 23; (with_reducible refine HF.out.mono ?_); rintro e w' ⟨rfl, rfl⟩)
      | (go_at_call 24; (with_reducible refine HL.out.mono ?_); rintro e w' ⟨rfl, rfl⟩))
    go_ret
    exact ⟨rfl, rfl⟩
  · have h1 : 0 ≤ p := by omega
    clear h0
    go_enter Try.func8, Try.ntmps8
    go_wp2_with (first
      | (go_at_call 23; (with_reducible refine HF.out.mono ?_); rintro e w' ⟨rfl, rfl⟩)
      | (go_at_call 24; (with_reducible refine HL.out.mono ?_); rintro e w' ⟨rfl, rfl⟩))
    go_ret
    exact ⟨rfl, rfl⟩
theorem give_any (h : HAt w G d a) (c p : Int) : Calls Try.prog 8 #[.pointer (some ⟨d, 0, none⟩), .int .i64 c, .int .i64 p] w (HPost G d w (.int .i64 (a.give c p)) (a.gave c p)) := by
  rcases client_cases a c with hc | ⟨k, rfl, hk⟩
  · rw [gave_not (give_out hc p), give_out hc p]
    have HF := Lib.hid (of_bad h c hc)
    have HL := Lib.hid (least_nil w none 0)
    have HA := Lib.hid h
    clear h hc
    by_cases h0 : p < 0
    · go_enter Try.func8, Try.ntmps8
      go_wp2_with (first
        | (go_at_call 23; (with_reducible refine HF.out.mono ?_); rintro e w' ⟨rfl, rfl⟩)
        | (go_at_call 24; (with_reducible refine HL.out.mono ?_); rintro e w' ⟨rfl, rfl⟩))
      go_ret
      exact ⟨rfl, HA.out, Kept.refl _ _⟩
    · have h1 : 0 ≤ p := by omega
      clear h0
      go_enter Try.func8, Try.ntmps8
      go_wp2_with (first
        | (go_at_call 23; (with_reducible refine HF.out.mono ?_); rintro e w' ⟨rfl, rfl⟩)
        | (go_at_call 24; (with_reducible refine HL.out.mono ?_); rintro e w' ⟨rfl, rfl⟩))
      go_ret
      exact ⟨rfl, HA.out, Kept.refl _ _⟩
  · obtain ⟨g, cap, b, c, ho⟩ := h.own hk
    have HF := Lib.hid (of_good ho hk)
    have HL := Lib.hid (least_six (c := c) ho.row)
    have HA := Lib.hid h
    have HO := Lib.hid ho
    clear h ho
    by_cases h0 : p < 0
    · rw [gave_not (give_low h0 _), give_low h0]
      generalize hnd (a.H k) 6 = z at HL
      clear hk
      go_enter Try.func8, Try.ntmps8
      go_wp2_with (first
        | (go_at_call 23; (with_reducible refine HF.out.mono ?_); rintro e w' ⟨rfl, rfl⟩)
        | (go_at_call 24; (with_reducible refine HL.out.mono ?_); rintro e w' ⟨rfl, rfl⟩))
      go_ret
      exact ⟨rfl, HA.out, Kept.refl _ _⟩
    · have h1 : 0 ≤ p := by omega
      have hgi := give_in hk h0
      clear h0 hk
      rcases hnd_cases (a.H k) 6 with ⟨e1, _⟩ | ⟨j, hj, e1, e2, _⟩
      · rw [e1] at HL hgi
        rw [gave_not hgi, hgi]
        clear e1 hgi
        go_enter Try.func8, Try.ntmps8
        go_wp2_with (first
          | (go_at_call 23; (with_reducible refine HF.out.mono ?_); rintro e w' ⟨rfl, rfl⟩)
          | (go_at_call 24; (with_reducible refine HL.out.mono ?_); rintro e w' ⟨rfl, rfl⟩))
        go_ret
        exact ⟨rfl, HA.out, Kept.refl _ _⟩
      · rw [e1] at HL hgi
        rw [gave_at hgi, hgi]
        have r1 := hcell_get HO.out.row hj
        have rf := HO.out.row.frozen j
        have hjz : (j : Int) < 6 := by omega
        have hjn : ((j : Int) == -1) = false := by simp
        have HP : Hid (HAt (w.setCell ⟨b, j, none⟩ (.int .i64 p)) G d (a.put k j p)) := HO.out.put j p (by omega)
        have HI := Lib.hid HO.out.inG
        clear e1 e2 hgi hj HO HA
        go_enter Try.func8, Try.ntmps8
        go_wp2_with (first
          | (go_at_call 23; (with_reducible refine HF.out.mono ?_); rintro e w' ⟨rfl, rfl⟩)
          | (go_at_call 24; (with_reducible refine HL.out.mono ?_); rintro e w' ⟨rfl, rfl⟩))
        go_ret
        exact ⟨rfl, HP.out, (kept_set w b j _).mono fun x _ e => by rw [e]; exact HI.out⟩
theorem back_any (h : HAt w G d a) (c j : Int) : Calls Try.prog 15 #[.pointer (some ⟨d, 0, none⟩), .int .i64 c, .int .i64 j] w (HPost G d w (.int .i64 (a.page c j)) (a.back c j)) := by
  have HG := Lib.hid (page_any h c j)
  by_cases hp : a.page c j = -1
  · rw [back_not hp, hp]
    rw [hp] at HG
    have HA := Lib.hid h
    clear h hp
    go_enter Try.func15, Try.ntmps15
    go_wp2_with (go_at_call 11; (with_reducible refine HG.out.mono ?_); rintro e w' ⟨rfl, rfl⟩)
    go_ret
    exact ⟨rfl, HA.out, Kept.refl _ _⟩
  · rcases client_cases a c with hc | ⟨k, rfl, hk⟩
    · exact absurd (page_out hc j) hp
    · by_cases hj : 0 ≤ j ∧ j < 6
      · obtain ⟨h0, h6⟩ := hj
        obtain ⟨i, rfl⟩ := Int.eq_ofNat_of_zero_le h0
        have hi : i < 6 := by omega
        obtain ⟨g, cap, b, c, ho⟩ := h.own hk
        have HF := Lib.hid (of_good ho hk)
        have r1 := hcell_get ho.row hi
        have rf := ho.row.frozen i
        have HP : Hid (HAt (w.setCell ⟨b, i, none⟩ (.int .i64 (-1))) G d (a.put k i (-1))) := ho.put i (-1) (by omega)
        have HI := Lib.hid ho.inG
        rw [back_at hp]
        have hp' : (a.page (k : Int) (i : Int) != -1) = true := by simpa using hp
        generalize a.page (k : Int) (i : Int) = z at HG hp' ⊢
        clear h ho hp hk hi h0
        go_enter Try.func15, Try.ntmps15
        go_wp2_with (first
          | (go_at_call 11; (with_reducible refine HG.out.mono ?_); rintro e w' ⟨rfl, rfl⟩)
          | (go_at_call 23; (with_reducible refine HF.out.mono ?_); rintro e w' ⟨rfl, rfl⟩))
        go_ret
        exact ⟨rfl, HP.out, (kept_set w b i _).mono fun x _ e => by rw [e]; exact HI.out⟩
      · exact absurd (page_off hk hj) hp
theorem room_nil (w : World) (c : Int) : Calls Try.prog 19 #[.pointer none, .int .i64 c] w fun e w' => e = .returned (.bool false) ∧ w = w' := by
  have HF := Lib.hid (of_nil w c)
  have HL := Lib.hid (least_nil w none 0)
  go_enter Try.func19, Try.ntmps19
  go_wp2_with (first
    | (go_at_call 23; (with_reducible refine HF.out.mono ?_); rintro e w' ⟨rfl, rfl⟩)
    | (go_at_call 24; (with_reducible refine HL.out.mono ?_); rintro e w' ⟨rfl, rfl⟩))
  go_ret
  exact ⟨rfl, rfl⟩
theorem room_any (h : HAt w G d a) (c : Int) : Calls Try.prog 19 #[.pointer (some ⟨d, 0, none⟩), .int .i64 c] w fun e w' => e = .returned (.bool (a.room c)) ∧ w = w' := by
  rcases client_cases a c with hc | ⟨k, rfl, hk⟩
  · rw [room_out hc]
    have HF := Lib.hid (of_bad h c hc)
    have HL := Lib.hid (least_nil w none 0)
    clear h hc
    go_enter Try.func19, Try.ntmps19
    go_wp2_with (first
      | (go_at_call 23; (with_reducible refine HF.out.mono ?_); rintro e w' ⟨rfl, rfl⟩)
      | (go_at_call 24; (with_reducible refine HL.out.mono ?_); rintro e w' ⟨rfl, rfl⟩))
    go_ret
    exact ⟨rfl, rfl⟩
  · obtain ⟨g, cap, b, c, ho⟩ := h.own hk
    have HF := Lib.hid (of_good ho hk)
    have HL := Lib.hid (least_six (c := c) ho.row)
    rw [room_in hk]
    clear h ho hk
    rcases hnd_cases (a.H k) 6 with ⟨e1, _⟩ | ⟨j, hj, e1, e2, _⟩
    · rw [e1] at HL ⊢
      clear e1
      go_enter Try.func19, Try.ntmps19
      go_wp2_with (first
        | (go_at_call 23; (with_reducible refine HF.out.mono ?_); rintro e w' ⟨rfl, rfl⟩)
        | (go_at_call 24; (with_reducible refine HL.out.mono ?_); rintro e w' ⟨rfl, rfl⟩))
      go_ret
      exact ⟨rfl, rfl⟩
    · rw [e1] at HL ⊢
      have hjn : ((j : Int) != -1) = true := by simp
      have hjd : (!decide ((j : Int) = -1)) = true := by simp
      rw [hjd]
      clear e1 e2 hj hjd
      go_enter Try.func19, Try.ntmps19
      go_wp2_with (first
        | (go_at_call 23; (with_reducible refine HF.out.mono ?_); rintro e w' ⟨rfl, rfl⟩)
        | (go_at_call 24; (with_reducible refine HL.out.mono ?_); rintro e w' ⟨rfl, rfl⟩))
      go_ret
      exact ⟨rfl, rfl⟩
/-- The rows, as a walk over all of them wants them. -/
structure Rows6 (w : World) (A : Option Addr) (d : Nat) (a : Hs) : Prop where
  get : ∀ i, i < a.n → ∃ g b c, A = some ⟨g, 0, none⟩ ∧ w.cell? ⟨g, i, none⟩ = some (.slice (some ⟨b, 0, none⟩) 6 c) ∧ OR w b 3 1 c 6 (hcell (a.H i))
theorem HAt.rows (h : HAt w G d a) : ∃ A cap, w.cell? ⟨d, 0, none⟩ = some (.slice A a.n cap) ∧ Rows6 w A d a := by
  obtain ⟨v, q, cp, h0, h1, _⟩ := h.mem
  have c0 := h0.cell (i := 0) (by omega)
  rcases h1.out with ⟨rfl, e⟩ | ⟨g, cap, rfl, hr⟩
  · exact ⟨none, 0, by rw [c0, e], ⟨fun i hi => by omega⟩⟩
  · refine ⟨_, _, c0, ⟨fun i hi => ?_⟩⟩
    obtain ⟨g', cap', e, hs, ho⟩ := h1.get hi
    injection e with e _ _
    injection e with e
    injection e with e
    subst e
    exact ⟨g, q i, cp i, rfl, hs, ho⟩
set_option maxHeartbeats 1000000 in
theorem pins_any (h : HAt w G d a) (p : Int) : Calls Try.prog 12 #[.pointer (some ⟨d, 0, none⟩), .int .i64 p] w fun e w' => e = .returned (.int .i64 (a.pins p : Int)) ∧ w = w' := by
  by_cases hp : p < 0
  · rw [pins_low hp]
    clear h
    go_enter Try.func12, Try.ntmps12
    go_wp2
    go_ret
    exact ⟨rfl, rfl⟩
  · have h1 : 0 ≤ p := by omega
    obtain ⟨A, cap, c0, hr⟩ := HAt.rows h
    have HR := Lib.hid hr
    have HN := Lib.hid h.good.n
    have HSU : Hid (∀ i j, i < a.n → j ≤ 6 → sum (a.has p) i + cnt (a.H i) p j ≤ 42) := fun i j hi hj => by
      have e1 := sum_le (g := a.has p) (b := 6) (fun i => cnt_le _ _ _) i
      have e2 := cnt_le (a.H i) p j
      have := HN.out
      omega
    rw [pins_up hp]
    clear h hr hp
    have hnz : (a.n : Int) ≤ 6 := by have := HN.out; omega
    go_enter Try.func12, Try.ntmps12
    go_wp2
    go_loopg [5, 21] a.n (fun gx s i wr => ∃ j : Nat, j + gx = a.n ∧ i = .int .i64 (j : Int) ∧ s = .int .i64 (sum (a.has p) j : Int) ∧ w = wr)
    case atStart => exact ⟨0, by omega, rfl, rfl, rfl⟩
    case round =>
      obtain ⟨j, hg, rfl, rfl, rfl⟩ := hrel
      have HG := Lib.hid hg
      clear hg
      by_cases hj : j < a.n
      · have hjz : (j : Int) < (a.n : Int) := by omega
        obtain ⟨g, b, c, rfl, c1, hrow⟩ := HR.out.get j hj
        have HROW := Lib.hid hrow
        have HJ := Lib.hid hj
        clear hrow hj
        go_wp2
        go_step3
        go_wp2
        go_step3
        go_wp2
        go_loopg [5, 27] 6 (fun gx s i wr => ∃ t : Nat, t + gx = 6 ∧ i = .int .i64 (t : Int) ∧ s = .int .i64 ((sum (a.has p) j + cnt (a.H j) p t : Nat) : Int) ∧ w = wr)
        case atStart => exact ⟨0, by omega, rfl, rfl, rfl⟩
        case round =>
          obtain ⟨t, hg, rfl, rfl, rfl⟩ := hrel
          have HT := Lib.hid hg
          clear hg
          by_cases ht : t < 6
          · have htz : (t : Int) < 6 := by omega
            have r1 := hcell_get HROW.out ht
            have hs42 : ((sum (a.has p) j + cnt (a.H j) p t : Nat) : Int) ≤ 42 := by have := HSU.out j t HJ.out (by omega); omega
            have HY := Lib.hid fun h => cnt_yes (f := a.H j) (p := p) (m := t) h
            have HX := Lib.hid fun h => cnt_no (f := a.H j) (p := p) (m := t) h
            generalize a.H j t = x at r1 HY HX
            by_cases hx : x = p
            · have hc := HY.out hx
              have HC := Lib.hid hc
              clear hc HY HX
              subst hx
              go_wp2
              go_roundg (gk - 1)
              case measure => have := HT.out; omega
              case rel => exact ⟨t + 1, by have := HT.out; omega, by go_num, by rw [HC.out]; go_num, rfl⟩
            · have hc := HX.out hx
              have HC := Lib.hid hc
              have hx' : (x != p) = true := by simpa using hx
              clear hc HY HX hx
              go_wp2
              go_roundg (gk - 1)
              case measure => have := HT.out; omega
              case rel => exact ⟨t + 1, by have := HT.out; omega, by go_num, by rw [HC.out], rfl⟩
          · obtain rfl : t = 6 := by have := HT.out; omega
            clear ht
            go_wp2
            rw [Exit.noGoto_normal]
            go_wp2
            go_roundg (a.n - (j + 1))
            case measure => have := HG.out; have := HJ.out; omega
            case rel => exact ⟨j + 1, by have := HG.out; have := HJ.out; omega, by go_num, rfl, rfl⟩
      · obtain rfl : j = a.n := by have := HG.out; omega
        go_wp2
        go_ret
        exact ⟨rfl, rfl⟩
end
end Go.Proofs.Ytcbefohnicjkjaa.HdO
