/-
  What the functions of package mail compute (chapter 9): Answer, Hear.
-/
import Derived.Test.YtmealcbcphfpdaaMailTake
namespace Go.Proofs.Ytmealcbcphfpdaa.MailH
open Go.ChangeShapes Go.WideShapes Go.ChangeAt Go.RowKit Go.Conc
open Go.Proofs.Ytmealcbcphfpdaa.Mem Go.Proofs.Ytmealcbcphfpdaa.Blk Go.Proofs.Ytmealcbcphfpdaa.Cells Go.Proofs.Ytmealcbcphfpdaa.Chan Go.Proofs.Ytmealcbcphfpdaa.Prs Go.Proofs.Ytmealcbcphfpdaa.MailM Go.Proofs.Ytmealcbcphfpdaa.MailC Go.Proofs.Ytmealcbcphfpdaa.MailT Go.Proofs.Ytmealcbcphfpdaa.MailP Go.Proofs.Ytmealcbcphfpdaa.MailK Go.Proofs.Ytmealcbcphfpdaa.Stages

section
variable {w w' w2 : World} {B d c c0 c1 cap : Nat} {C0 C1 : Option Nat} {b b' : Bx} {zs us ys : List P2} {F : Nat → Prop}

/-! ### Answer -/
theorem answer_nil (t x : Int) : Calls Try.prog 13 #[.pointer none, .int .i64 t, .int .i64 x] w fun e w' => e = .returned (.int .i64 12) ∧ w = w' := by
  go_enter Try.func13, Try.ntmps13
  go_wp2
  go_ret
  exact ⟨rfl, rfl⟩
theorem in_range (h : Fit b) {k : Int} (hk : b.st k ≠ 0) : 0 ≤ k ∧ k < 64 := h.rng k (Classical.byContradiction fun e => hk (st_zero.2 e))
theorem answer_no (h : BoxC w B d C0 C1 b) (t x : Int) (ht : b.st t ≠ 2) : Calls Try.prog 13 #[.pointer (some ⟨d, 0, none⟩), .int .i64 t, .int .i64 x] w fun e w' => e = .returned (.int .i64 2) ∧ w = w' := by
  have HA := Lib.hid (at_any h t)
  have hr := st_range (b := b) (k := t)
  obtain ⟨s, hs⟩ : ∃ s, (if isT t then b.st t else 4) = s := ⟨_, rfl⟩
  rw [hs] at HA
  have hc : s = 0 ∨ s = 1 ∨ s = 3 ∨ s = 4 := by
    rw [← hs]
    split <;> omega
  clear h hr ht hs
  rcases hc with rfl | rfl | rfl | rfl
  all_goals
    go_enter Try.func13, Try.ntmps13
    go_wp2_with (go_at_call 18; (with_reducible refine HA.out.mono ?_); rintro e w' ⟨rfl, rfl⟩)
    go_ret
    exact ⟨rfl, rfl⟩
/-- Who has a word, open or not, or an answer, has channels. -/
theorem has_chans (h : BoxC w B d C0 C1 b) {k : Int} (hk : b.st k ≠ 0) : ∃ c0 c1, C0 = some c0 ∧ C1 = some c1 := by
  rcases h.ch with ⟨_, _, rfl⟩ | ⟨c0, c1, e0, e1, _⟩
  · exact absurd (st_new k) hk
  · exact ⟨c0, c1, e0, e1⟩
theorem answer_yes (h : BoxC w B d (some c0) (some c1) b) (t x : Int) (ht : b.st t = 2) : Calls Try.prog 13 #[.pointer (some ⟨d, 0, none⟩), .int .i64 t, .int .i64 x] w (RPost B d w (.int .i64 0) (b.ansB t x)) := by
  have HA := Lib.hid (at_any h t)
  have hg := ansB_good h.good t x
  unfold Bx.ansB at hg ⊢
  rw [if_pos ht] at hg ⊢
  obtain ⟨hf0, hf1⟩ := in_range h.good (k := t) (by omega)
  simp only [isT_iff.2 ⟨hf0, hf1⟩, if_true, ht] at HA
  have r1 := Row.c1 h.row
  rcases h.ch with ⟨e, _⟩ | ⟨_, _, e0, e1, ne, h0, h1, a0, a1⟩
  · cases e
  injection e0 with e0
  injection e1 with e1
  subst e0 e1
  have hl : b.A.length < 64 := by
    have h1 := hg.lens
    simp only [List.length_append, List.length_cons, List.length_nil] at h1
    omega
  have HP := Lib.hid (put_room a1 hl t x)
  have HR : Hid (∀ w1, ChP w1 c1 64 (b.A ++ [(t, x)]) → Kept (· = c1) w w1 → (w1.cell? ⟨d, 2 + t.toNat, none⟩ = some (.int .i64 (b.st t)) ∧ w1.frozen? ⟨d, 2 + t.toNat, none⟩ = false) ∧ RPost B d w (.int .i64 0) ⟨b.W, b.O.filter (fun k => !decide (k = t)), b.A ++ [(t, x)]⟩ (.returned (.int .i64 0)) (w1.setCell ⟨d, 2 + t.toNat, none⟩ (.int .i64 3))) := fun w1 hc hk => by
    have hd : d ≠ c1 := fun e => row_notChan h.row (e ▸ a1.is)
    have hrow : Row w1 d 66 (bcell (some c0) (some c1) b.st) := h.row.kept hk hd
    obtain ⟨q1, q2⟩ := box_store (b := ⟨b.W, b.O.filter (fun k => !decide (k = t)), b.A ++ [(t, x)]⟩) hrow h.low ne h0 h1 (a0.kept hk fun e => ne e) hc hg (k := t) 3 hf0 hf1 (fun i => ans_st h.good ht x)
    exact ⟨⟨Row.stand hrow hf0 hf1, hrow.frozen _⟩, rfl, q1, BF.trans (BF.chan hk a1.is h1) (BF.own q2)⟩
  clear h hg hl a0 a1 ne h0 h1 ht
  go_enter Try.func13, Try.ntmps13
  go_wp2_with (first
    | (go_at_call 18; (with_reducible refine HA.out.mono ?_); rintro e w' ⟨rfl, rfl⟩)
    | (go_at_call 19; (with_reducible refine HP.out.mono ?_); rintro e w1 ⟨rfl, hc, hk⟩; obtain ⟨⟨q1, q2⟩, q3⟩ := HR.out w1 hc hk; have HF := Lib.hid q3; clear hc hk q3))
  go_ret
  exact HF.out
theorem answer_any (h : BoxAt w B d b) (t x : Int) : Calls Try.prog 13 #[.pointer (some ⟨d, 0, none⟩), .int .i64 t, .int .i64 x] w (RPost B d w (.int .i64 (b.ansE t)) (b.ansB t x)) := by
  obtain ⟨C0, C1, h⟩ := h
  by_cases ht : b.st t = 2
  · obtain ⟨c0, c1, rfl, rfl⟩ := has_chans h (k := t) (by omega)
    have := answer_yes h t x ht
    unfold Bx.ansE
    rwa [if_pos ht]
  · refine (answer_no h t x ht).mono ?_
    rintro e w' ⟨rfl, rfl⟩
    unfold Bx.ansE Bx.ansB
    rw [if_neg ht, if_neg ht]
    exact ⟨rfl, ⟨C0, C1, h⟩, Kept.refl _ _⟩

/-! ### Hear -/
theorem hear_nil (m : Int) : Calls Try.prog 15 #[.pointer none, .int .i64 m] w fun e w' => e = .returned (.tuple #[.int .i64 0, .bool false]) ∧ w = w' := by
  go_enter Try.func15, Try.ntmps15
  go_wp2
  go_ret2
  exact ⟨rfl, rfl⟩
theorem hear_no (h : BoxC w B d C0 C1 b) (m : Int) (hm : b.st m ≠ 3) : Calls Try.prog 15 #[.pointer (some ⟨d, 0, none⟩), .int .i64 m] w fun e w' => e = .returned (.tuple #[.int .i64 0, .bool false]) ∧ w = w' := by
  have HA := Lib.hid (at_any h m)
  have hr := st_range (b := b) (k := m)
  obtain ⟨s, hs⟩ : ∃ s, (if isT m then b.st m else 4) = s := ⟨_, rfl⟩
  rw [hs] at HA
  have hc : s = 0 ∨ s = 1 ∨ s = 2 ∨ s = 4 := by
    rw [← hs]
    split <;> omega
  clear h hr hm hs
  rcases hc with rfl | rfl | rfl | rfl
  all_goals
    go_enter Try.func15, Try.ntmps15
    go_wp2_with (go_at_call 18; (with_reducible refine HA.out.mono ?_); rintro e w' ⟨rfl, rfl⟩)
    go_ret2
    exact ⟨rfl, rfl⟩

set_option maxHeartbeats 2000000 in
theorem hear_yes (h : BoxC w B d (some c0) (some c1) b) (m : Int) (hm : b.st m = 3) : Calls Try.prog 15 #[.pointer (some ⟨d, 0, none⟩), .int .i64 m] w (RPost B d w (.tuple #[.int .i64 (lookA b.A m), .bool true]) (b.hearB m)) := by
  have HA := Lib.hid (at_any h m)
  have hg := hearB_good h.good m
  unfold Bx.hearB at hg ⊢
  rw [if_pos hm] at hg ⊢
  obtain ⟨hf0, hf1⟩ := in_range h.good (k := m) (by omega)
  simp only [isT_iff.2 ⟨hf0, hf1⟩, if_true, hm] at HA
  have r1 := Row.c1 h.row
  rcases h.ch with ⟨e, _⟩ | ⟨_, _, e0, e1, ne, h0, h1, a0, a1⟩
  · cases e
  injection e0 with e0
  injection e1 with e1
  subst e0 e1
  have hl : b.A.length ≤ 64 := by have := h.good.lens; omega
  have HT : Hid (Calls Try.prog 23 #[.chan (some c1), .int .i64 64] w (TPost c1 64 w b.A [])) := by
    have := taken_some a1 64 hl
    rw [show min (64 : Int).toNat b.A.length = b.A.length by simp; omega, List.take_length, List.drop_length] at this
    exact this
  have HND := Lib.hid h.good.parts.2.2.1
  have HGD := Lib.hid hg
  have H := Lib.hid h
  have HNE := Lib.hid ne
  have HCH := Lib.hid (And.intro a0 a1)
  have HB0 := Lib.hid (And.intro h0 h1)
  have HM := Lib.hid hm
  clear h hg a0 a1 ne h0 h1 hm
  go_enter Try.func15, Try.ntmps15
  go_wp2_with (first
    | (go_at_call 18; (with_reducible refine HA.out.mono ?_); rintro e w' ⟨rfl, rfl⟩)
    | (go_at_call 23; (with_reducible refine HT.out.mono ?_); rintro e w1 ⟨A, k, rfl, hs, hn, hc, hk⟩; have HS := Lib.hid hs; have HX := Lib.hid hn; have HC := Lib.hid hc; have HK := Lib.hid hk; clear hs hn hc hk))
  have HD : Hid (d ≠ c1) := fun e => row_notChan H.out.row (by rw [e]; exact HCH.out.2.is)
  have HR1 : Hid (Row w1 d 66 (bcell (some c0) (some c1) b.st)) := H.out.row.kept HK.out HD.out
  go_loopg [6, 23] b.A.length (fun gx v i wr => ∃ j : Nat, j + gx = b.A.length ∧ i = .int .i64 (j : Int) ∧ v = .int .i64 (lookA (b.A.take j) m) ∧ ChP wr c1 64 (without (b.A.take j) m) ∧ Kept (· = c1) w1 wr)
  case atStart => exact ⟨0, by omega, rfl, rfl, HC.out, Kept.refl _ _⟩
  case round =>
    obtain ⟨j, hg, rfl, rfl, hc, hk⟩ := hrel
    have HGJ := Lib.hid hg
    have HCR := Lib.hid hc
    have HKR := Lib.hid hk
    clear hg hc hk
    by_cases hj : j < b.A.length
    · have hjz : (j : Int) < (b.A.length : Int) := by omega
      have hn8 : (b.A.length : Int) ≤ 64 := by omega
      obtain ⟨b1, o1, rfl, hb1, hc⟩ := HS.out.at_ (by omega)
      have hbc : b1 ≠ c1 := fun e => by have h1 := HX.out _ rfl; have h2 := HCH.out.2.lt; simp only at h1; omega
      have q1 := HKR.out.cellN (hc j hj).1 hbc
      have q2 := HKR.out.cellN (hc j hj).2 hbc
      have HHIT := Lib.hid (look_hit (m := m) HND.out hj)
      have HMISS := Lib.hid (look_miss (m := m) hj)
      clear hc
      generalize b.A.getD j (0, 0) = p at *
      obtain ⟨x, y⟩ := p
      simp only at *
      by_cases hx : x = m
      · subst hx
        have HE := Lib.hid (HHIT.out rfl)
        clear HHIT HMISS
        go_wp2
        go_roundg (gk - 1)
        case measure => have := HGJ.out; omega
        case rel =>
          refine ⟨j + 1, by have := HGJ.out; omega, by go_num, ?_, ?_, HKR.out.alloc _⟩
          · rw [HE.out.1]
          · rw [HE.out.2]
            exact HCR.out.kept ((Kept.refl (fun _ => False) _).alloc _) id
      · have HE := Lib.hid (HMISS.out hx)
        have hx' : (x == m) = false := by simpa using hx
        clear HHIT HMISS
        go_upto_region 9 with (fail)
        have HCA : Hid (ChP (wr.alloc (.cells #[.int .i64 x, .int .i64 y] 42)) c1 64 (without (b.A.take j) m)) := HCR.out.kept ((Kept.refl (fun _ => False) _).alloc _) id
        have HKA : Hid (Kept (· = c1) w1 (wr.alloc (.cells #[.int .i64 x, .int .i64 y] 42))) := HKR.out.alloc _
        have HRA : Hid (Row (wr.alloc (.cells #[.int .i64 x, .int .i64 y] 42)) d 66 (bcell (some c0) (some c1) b.st)) := HR1.out.kept HKA.out HD.out
        have c7 := (Blk.new wr 42 [.int .i64 x, .int .i64 y]).cell 0
        have c8 := (Blk.new wr 42 [.int .i64 x, .int .i64 y]).cell 1
        simp only [List.getElem?_cons_zero, List.getElem?_cons_succ] at c7 c8
        have hne : wr.heap.size ≠ c1 := by have := HCR.out.lt; omega
        generalize wr.heap.size = s7 at c7 c8 hne ⊢
        generalize wr.alloc (.cells #[.int .i64 x, .int .i64 y] 42) = wa at HCA HKA HRA c7 c8 ⊢
        have hc7 : wa.drew.cell? ⟨s7, 0, none⟩ = some (.int .i64 x) := c7
        have hc8 : wa.drew.cell? ⟨s7, 1, none⟩ = some (.int .i64 y) := c8
        have hcd : wa.drew.cell? ⟨d, 1, none⟩ = some (.chan (some c1)) := Row.c1 HRA.out
        have hdc : d ≠ c1 := HD.out
        have hlw : (without (b.A.take j) m).length < 64 := by
          have h1 := without_len (b.A.take j) m
          rw [List.length_take] at h1
          omega
        have HP := Lib.hid (put_room (w := wa.drew) (HCA.out.kept (Kept.drew' (F := fun _ => False) wa) id) hlw x y)
        clear q1 q2 c7 c8
        refine wp_region_stages (Kept (· = c1)) (kept_refl _) (kept_trans _) [([0, 1, 2, 3, 4], 5)] [] (by kernel_rfl) (by kernel_rfl) ?_
        simp only [selSt, sel, List.map_cons, List.map_nil, List.getD_cons_succ, List.getD_cons_zero]
        refine st_cons fun K1 hK1 => ?_
        have u0 := up_cell (F := (· = c1)) (w := wa.drew) (p := ⟨s7, 0, none⟩) hc7 hne
        have u1 := up_cell (F := (· = c1)) (w := wa.drew) (p := ⟨s7, 1, none⟩) hc8 hne
        have u2 := up_cell (F := (· = c1)) (w := wa.drew) (p := ⟨d, 1, none⟩) hcd hdc
        repeat (go_big_quiet_step (fail))
        refine wpQuiet_nil ?_
        clear u0 u1 u2
        go_wp2_with (go_at_call 19; (with_reducible refine HP.out.mono ?_); rintro e w2 ⟨rfl, hc, hk⟩; have HC2 := Lib.hid hc; have HK2 := Lib.hid hk; clear hc hk)
        refine norm_up (hK1 _ _ HK2.out (st_nil fun K2 hK2 => wpQuiet_nil (hK2 _ ?_)))
        clear hK1 K1 hK2 K2 hcd hc7 hc8
        go_wp2
        go_roundg (gk - 1)
        case measure => have := HGJ.out; omega
        case rel =>
          refine ⟨j + 1, by have := HGJ.out; omega, by go_num, ?_, ?_, HKA.out.trans ((Kept.drew' wa).trans HK2.out)⟩
          · rw [HE.out.1]
          · rw [HE.out.2]
            exact HC2.out
    · obtain rfl : j = b.A.length := by have := HGJ.out; omega
      rw [List.take_length] at HCR ⊢
      have hrow := HR1.out.kept HKR.out HD.out
      have c1 := Row.stand hrow hf0 hf1
      have f1 := hrow.frozen (2 + m.toNat)
      go_wp2
      go_ret2
      obtain ⟨q1, q2⟩ := box_store (b := ⟨b.W, b.O, without b.A m⟩) hrow H.out.low HNE.out HB0.out.1 HB0.out.2 ((HCH.out.1.kept HK.out fun e => HNE.out e).kept HKR.out fun e => HNE.out e) HCR.out HGD.out (k := m) 0 hf0 hf1 (fun i => hear_st H.out.good HM.out)
      exact ⟨rfl, q1, BF.trans (BF.chan (HK.out.trans HKR.out) HCH.out.2.is HB0.out.2) (BF.own q2)⟩
theorem hear_any (h : BoxAt w B d b) (m : Int) : Calls Try.prog 15 #[.pointer (some ⟨d, 0, none⟩), .int .i64 m] w (RPost B d w (.tuple #[.int .i64 (b.hearV m), .bool (decide (b.st m = 3))]) (b.hearB m)) := by
  obtain ⟨C0, C1, h⟩ := h
  by_cases hm : b.st m = 3
  · obtain ⟨c0, c1, rfl, rfl⟩ := has_chans h (k := m) (by omega)
    have := hear_yes h m hm
    unfold Bx.hearV
    rw [if_pos hm, decide_eq_true hm]
    exact this
  · refine (hear_no h m hm).mono ?_
    rintro e w' ⟨rfl, rfl⟩
    unfold Bx.hearV Bx.hearB
    rw [if_neg hm, if_neg hm, decide_eq_false hm]
    exact ⟨rfl, ⟨C0, C1, h⟩, Kept.refl _ _⟩
end
end Go.Proofs.Ytmealcbcphfpdaa.MailH
