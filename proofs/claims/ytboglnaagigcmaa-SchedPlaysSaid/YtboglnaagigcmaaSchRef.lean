/-
  The document's schedule (chapter 7, lavaboref4): is, Wake, Go, Block, Done, Ready, Free, Mod, Pick, Stuck, NewSched.
-/
import Derived.Test.YtboglnaagigcmaaSchFree
import Derived.Deep.AppendSrc
namespace Go.Proofs.Ytboglnaagigcmaa.SchR
open Go.ChangeShapes Go.WideShapes Go.ChangeAt Go.RowKit
open Go.Proofs.Ytboglnaagigcmaa.Mem Go.Proofs.Ytboglnaagigcmaa.Blk Go.Proofs.Ytboglnaagigcmaa.Cells Go.Proofs.Ytboglnaagigcmaa.SchM Go.Proofs.Ytboglnaagigcmaa.SchC Go.Proofs.Ytboglnaagigcmaa.SchD Go.Proofs.Ytboglnaagigcmaa.SchE Go.Proofs.Ytboglnaagigcmaa.Stages

section
variable {w w' : World} {d D c p : Nat} {T U : Sc} {F : Nat → Prop}
theorem is_any (h : Raw w d D c T) (t s : Int) : Calls Try.prog 29 #[.pointer (some ⟨d, 0, none⟩), .int .i64 t, .int .i64 s] w fun e w' => e = .returned (.bool (T.has t && decide (T.S t.toNat = s))) ∧ w = w' := by
  have c0 := h.c0
  have hsz := h.size
  have hszi : (T.n : Int) ≤ 64 := by omega
  rcases has_cases T t with ht | ⟨k, rfl, hk⟩
  · rw [ht]
    unfold Sc.has at ht
    rw [decide_eq_false_iff_not] at ht
    clear h
    by_cases h0 : t < 0
    · clear ht
      go_enter Try.func29, Try.ntmps29
      go_wp2
      go_ret
      exact ⟨rfl, rfl⟩
    · have h0' : 0 ≤ t := by omega
      have h1 : (T.n : Int) ≤ t := by omega
      clear h0 ht
      go_enter Try.func29, Try.ntmps29
      go_wp2
      go_ret
      exact ⟨rfl, rfl⟩
  · rw [has_nat T hk, Int.toNat_natCast, Bool.true_and]
    have r0 := h.sl.s hk
    have hkz : (k : Int) < (T.n : Int) := by omega
    clear h
    generalize T.S k = x at *
    by_cases hx : x = s
    · subst hx
      go_enter Try.func29, Try.ntmps29
      go_wp2
      go_ret
      exact ⟨by simp, rfl⟩
    · have hx' : (x == s) = false := beq_eq_false_iff_ne.2 hx
      have HX := Lib.hid (decide_eq_false hx)
      clear hx
      go_enter Try.func29, Try.ntmps29
      go_wp2
      go_ret
      exact ⟨by rw [HX.out]; rfl, rfl⟩
theorem is_with {b : Bool} {t s : Int} (h : Raw w d D c T) (hb : (T.has t && decide (T.S t.toNat = s)) = b) : Calls Try.prog 29 #[.pointer (some ⟨d, 0, none⟩), .int .i64 t, .int .i64 s] w fun e w' => e = .returned (.bool b) ∧ w = w' := by
  have := is_any h t s
  rwa [hb] at this

theorem rwake_any (h : SchAt w d D c T) (t pc : Int) : Calls Try.prog 11 #[.pointer (some ⟨d, 0, none⟩), .int .i64 t, .int .i64 pc] w (BPost d D c w (T.wakeB t pc) (T.wake t pc)) := by
  have H := Lib.hid h
  by_cases hp : pc < 0
  · have hE : T.wakeB t pc = false := wakeB_neg hp
    rw [wake_off hE, hE]
    clear h hE
    go_enter Try.func11, Try.ntmps11
    go_wp2
    go_ret
    exact ⟨rfl, H.out, Kept.refl _ _⟩
  have hp' : 0 ≤ pc := by omega
  by_cases hw : T.wakeB t pc = true
  · rcases has_cases T t with ht | ⟨k, rfl, hk⟩
    · rw [wakeB_none ht] at hw; cases hw
    · rw [wake_on hw, hw, Int.toNat_natCast]
      have c0 := h.r.c0
      have r0 := h.r.sl.s hk
      have r1 := h.r.sl.q hk
      have r2 := h.r.sl.o hk
      have f1 := h.r.f1
      have hkz : (k : Int) < (T.n : Int) := by omega
      have HN : Hid (SchAt (((w.setCell ⟨D, k * 3, none⟩ (.int .i64 1)).setCell ⟨D, k * 3 + 1, none⟩ (.int .i64 pc)).setCell ⟨D, k * 3 + 2, none⟩ (.int .i64 (-1))) d D c (T.set k 1 pc (-1))) := ⟨h.r.set k 1 pc (-1), sane_set h.ok k (by omega) (fun _ => rfl)⟩
      have h03 : T.S k = 0 ∨ (T.S k ≠ 0 ∧ T.S k = 3) := by
        unfold Sc.wakeB at hw
        rw [Int.toNat_natCast] at hw
        simp at hw
        omega
      rcases h03 with e | ⟨e, e'⟩
      · have C0 := Lib.hid (is_with (t := (k : Int)) (s := 0) (b := true) h.r (by rw [has_nat T hk, Int.toNat_natCast, e]; rfl))
        clear h hw hp e hk
        go_enter Try.func11, Try.ntmps11
        go_wp2_with (go_at_call 29; (with_reducible refine C0.out.mono ?_); rintro e w' ⟨rfl, rfl⟩)
        go_ret
        exact ⟨rfl, HN.out, (kept2 _ _ _ _ _ _).trans (kept1 _ _ _ _)⟩
      · have C0 := Lib.hid (is_with (t := (k : Int)) (s := 0) (b := false) h.r (by rw [has_nat T hk, Int.toNat_natCast, decide_eq_false e]; rfl))
        have C3 := Lib.hid (is_with (t := (k : Int)) (s := 3) (b := true) h.r (by rw [has_nat T hk, Int.toNat_natCast, e']; rfl))
        clear h hw hp e e' hk
        go_enter Try.func11, Try.ntmps11
        go_wp2_with (first
          | (go_at_call 29; (with_reducible refine C0.out.mono ?_); rintro e w' ⟨rfl, rfl⟩)
          | (go_at_call 29; (with_reducible refine C3.out.mono ?_); rintro e w' ⟨rfl, rfl⟩))
        go_ret
        exact ⟨rfl, HN.out, (kept2 _ _ _ _ _ _).trans (kept1 _ _ _ _)⟩
  · have hw : T.wakeB t pc = false := by simpa using hw
    rw [wake_off hw, hw]
    have hh : (T.has t && decide (T.S t.toNat = 0)) = false ∧ (T.has t && decide (T.S t.toNat = 3)) = false := by
      unfold Sc.wakeB at hw
      rw [decide_eq_true hp', Bool.and_true] at hw
      cases hT : T.has t with
      | false => exact ⟨rfl, rfl⟩
      | true =>
        rw [hT, Bool.true_and, Bool.or_eq_false_iff] at hw
        rw [Bool.true_and, Bool.true_and]
        exact hw
    have C0 := Lib.hid (is_with h.r hh.1)
    have C3 := Lib.hid (is_with h.r hh.2)
    clear h hw hp hh
    go_enter Try.func11, Try.ntmps11
    go_wp2_with (first
      | (go_at_call 29; (with_reducible refine C0.out.mono ?_); rintro e w' ⟨rfl, rfl⟩)
      | (go_at_call 29; (with_reducible refine C3.out.mono ?_); rintro e w' ⟨rfl, rfl⟩))
    go_ret
    exact ⟨rfl, H.out, Kept.refl _ _⟩
theorem goB_is {t pc : Int} (hp : 0 ≤ pc) : (T.has t && decide (T.S t.toNat = 1)) = T.goB t pc := by
  unfold Sc.goB
  rw [decide_eq_true hp, Bool.and_true]
theorem rgo_any (h : SchAt w d D c T) (t pc : Int) : Calls Try.prog 13 #[.pointer (some ⟨d, 0, none⟩), .int .i64 t, .int .i64 pc] w (BPost d D c w (T.goB t pc) (T.go t pc)) := by
  have H := Lib.hid h
  by_cases hp : pc < 0
  · have hE : T.goB t pc = false := goB_neg hp
    rw [go_off hE, hE]
    clear h hE
    go_enter Try.func13, Try.ntmps13
    go_wp2
    go_ret
    exact ⟨rfl, H.out, Kept.refl _ _⟩
  have hp' : 0 ≤ pc := by omega
  have C1 := Lib.hid (is_with h.r (goB_is (T := T) (t := t) hp'))
  by_cases hw : T.goB t pc = true
  · rcases has_cases T t with ht | ⟨k, rfl, hk⟩
    · rw [goB_none ht] at hw; cases hw
    · rw [hw] at C1
      have hs : T.S k = 1 := by
        unfold Sc.goB at hw
        rw [Int.toNat_natCast] at hw
        simp at hw
        exact hw.2
      rw [go_on hw, hw, Int.toNat_natCast]
      have c0 := h.r.c0
      have r1 := h.r.sl.q hk
      have f1 := h.r.f1
      have hkz : (k : Int) < (T.n : Int) := by omega
      have HO : Hid (T.O k = -1) := h.ok.f k hk (by omega)
      have HS := Lib.hid hs
      clear h hw hp hk hs
      go_enter Try.func13, Try.ntmps13
      go_wp2_with (go_at_call 29; (with_reducible refine C1.out.mono ?_); rintro e w' ⟨rfl, rfl⟩)
      go_ret
      refine ⟨rfl, ⟨?_, sane_set H.out.ok k (by omega) (fun _ => rfl)⟩, kept1 _ _ _ _⟩
      have := H.out.r.setP' k pc
      rwa [HO.out, HS.out] at this
  · have hw : T.goB t pc = false := by simpa using hw
    rw [go_off hw, hw]
    rw [hw] at C1
    clear h hw hp
    go_enter Try.func13, Try.ntmps13
    go_wp2_with (go_at_call 29; (with_reducible refine C1.out.mono ?_); rintro e w' ⟨rfl, rfl⟩)
    go_ret
    exact ⟨rfl, H.out, Kept.refl _ _⟩
theorem rblock_any (h : SchAt w d D c T) (t on : Int) : Calls Try.prog 15 #[.pointer (some ⟨d, 0, none⟩), .int .i64 t, .int .i64 on] w (BPost d D c w (T.goB t on) (T.block t on)) := by
  have H := Lib.hid h
  by_cases hp : on < 0
  · have hE : T.goB t on = false := goB_neg hp
    rw [block_off hE, hE]
    clear h hE
    go_enter Try.func15, Try.ntmps15
    go_wp2
    go_ret
    exact ⟨rfl, H.out, Kept.refl _ _⟩
  have hp' : 0 ≤ on := by omega
  have C1 := Lib.hid (is_with h.r (goB_is (T := T) (t := t) hp'))
  by_cases hw : T.goB t on = true
  · rcases has_cases T t with ht | ⟨k, rfl, hk⟩
    · rw [goB_none ht] at hw; cases hw
    · rw [hw] at C1
      rw [block_on hw, hw, Int.toNat_natCast]
      have c0 := h.r.c0
      have r0 := h.r.sl.s hk
      have r2 := h.r.sl.o hk
      have f1 := h.r.f1
      have HK := Lib.hid hk
      have hkz : (k : Int) < (T.n : Int) := by omega
      clear h hw hp hk
      go_enter Try.func15, Try.ntmps15
      go_upto_region 3 with (go_at_call 29; (with_reducible refine C1.out.mono ?_); rintro e w' ⟨rfl, rfl⟩)
      have d0 : w.drew.cell? ⟨D, k * 3, none⟩ = some (.int .i64 (T.S k)) := r0
      have fd : ∀ q, w.drew.frozen? ⟨D, q, none⟩ = false := f1
      refine wp_region_stages (Kept (At D)) (kept_refl _) (kept_trans _) [([0, 1, 2, 3, 4, 5, 6, 7, 8, 9, 10, 11, 12], 13), ([14, 15], 16)] [] (by kernel_rfl) (by kernel_rfl) ?_
      simp only [selSt, sel, List.map_cons, List.map_nil, List.getD_cons_succ, List.getD_cons_zero]
      refine st_cons fun K1 hK1 => ?_
      have u0 := up_cell (F := At D) (w := w.drew) (p := ⟨d, 0, none⟩) c0 H.out.r.ne
      repeat (go_big_quiet_step (fail))
      refine wpQuiet_nil ?_
      clear u0
      go_wp2
      have HR1 := Lib.hid (H.out.r.setS k 2)
      have HKA := Lib.hid (kept_drews (kept1 w D (k * 3) (.int .i64 2)))
      have HKB := Lib.hid (kept1 w D (k * 3) (.int .i64 2))
      clear d0 fd r0 r2 f1 c0
      generalize w.setCell ⟨D, k * 3, none⟩ (.int .i64 2) = w2 at HR1 HKA HKB ⊢
      have r2 := HR1.out.sl.o (p := k) HK.out
      have d2 : w2.drew.cell? ⟨D, k * 3 + 2, none⟩ = some (.int .i64 (T.O k)) := r2
      have fd : ∀ q, w2.drew.frozen? ⟨D, q, none⟩ = false := HR1.out.f1
      refine norm_up (hK1 _ _ HKA.out (st_cons fun K2 hK2 => ?_))
      clear hK1 K1
      repeat (go_big_quiet_step (fail))
      refine wpQuiet_nil ?_
      go_wp2
      have HR2 : Hid (Raw (w2.setCell ⟨D, k * 3 + 2, none⟩ (.int .i64 on)) d D c (T.set k 2 (T.P k) on)) := by
        have := HR1.out.setO k on
        show Raw _ _ _ _ _
        unfold Sc.set
        rwa [upd_id T.P rfl]
      have HKC := Lib.hid (kept_drews (kept1 w2 D (k * 3 + 2) (.int .i64 on)))
      have HKD := Lib.hid (HKB.out.trans (kept1 w2 D (k * 3 + 2) (.int .i64 on)))
      clear d2 fd r2
      generalize w2.setCell ⟨D, k * 3 + 2, none⟩ (.int .i64 on) = w3 at HR2 HKC HKD ⊢
      refine norm_up (hK2 _ _ HKC.out (st_nil fun K3 hK3 => ?_))
      clear hK2 K2
      refine wpQuiet_nil (hK3 _ ?_)
      clear hK3 K3
      go_wp2
      go_ret
      exact ⟨rfl, ⟨HR2.out.grow (Kept.drew' _), sane_set H.out.ok k (fun _ => hp') (fun x => absurd rfl x)⟩, HKD.out.drew⟩
  · have hw : T.goB t on = false := by simpa using hw
    rw [block_off hw, hw]
    rw [hw] at C1
    clear h hw hp
    go_enter Try.func15, Try.ntmps15
    go_wp2_with (go_at_call 29; (with_reducible refine C1.out.mono ?_); rintro e w' ⟨rfl, rfl⟩)
    go_ret
    exact ⟨rfl, H.out, Kept.refl _ _⟩
theorem rdone_any (h : SchAt w d D c T) (t : Int) : Calls Try.prog 17 #[.pointer (some ⟨d, 0, none⟩), .int .i64 t] w (BPost d D c w (T.doneB t) (T.done t)) := by
  have H := Lib.hid h
  have C1 := Lib.hid (is_with (b := T.doneB t) h.r rfl)
  by_cases hw : T.doneB t = true
  · rcases has_cases T t with ht | ⟨k, rfl, hk⟩
    · rw [doneB_none ht] at hw; cases hw
    · rw [hw] at C1
      have hs : T.S k = 1 := by
        unfold Sc.doneB at hw
        rw [Int.toNat_natCast] at hw
        simp at hw
        exact hw.2
      rw [done_on hw, hw, Int.toNat_natCast]
      have c0 := h.r.c0
      have r0 := h.r.sl.s hk
      have f1 := h.r.f1
      have hkz : (k : Int) < (T.n : Int) := by omega
      have HO : Hid (T.O k = -1) := h.ok.f k hk (by omega)
      clear h hw hk hs
      go_enter Try.func17, Try.ntmps17
      go_wp2_with (go_at_call 29; (with_reducible refine C1.out.mono ?_); rintro e w' ⟨rfl, rfl⟩)
      go_ret
      refine ⟨rfl, ⟨?_, sane_set H.out.ok k (by omega) (fun _ => rfl)⟩, kept1 _ _ _ _⟩
      have := H.out.r.setS' k 3
      rwa [HO.out] at this
  · have hw : T.doneB t = false := by simpa using hw
    rw [done_off hw, hw]
    rw [hw] at C1
    clear h hw
    go_enter Try.func17, Try.ntmps17
    go_wp2_with (go_at_call 29; (with_reducible refine C1.out.mono ?_); rintro e w' ⟨rfl, rfl⟩)
    go_ret
    exact ⟨rfl, H.out, Kept.refl _ _⟩
end
end Go.Proofs.Ytboglnaagigcmaa.SchR
