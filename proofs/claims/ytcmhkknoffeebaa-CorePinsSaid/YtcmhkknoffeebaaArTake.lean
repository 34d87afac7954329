/-
  Package arena (chapter 10): Take, at every arena and page.
-/
import Derived.Test.YtcmhkknoffeebaaArBody
namespace Go.Proofs.Ytcmhkknoffeebaa.ArT
open Go.ChangeShapes Go.WideShapes Go.ChangeAt Go.RowKit
open Go.Proofs.Ytcmhkknoffeebaa.Mem Go.Proofs.Ytcmhkknoffeebaa.Blk Go.Proofs.Ytcmhkknoffeebaa.Cells Go.Proofs.Ytcmhkknoffeebaa.Orow Go.Proofs.Ytcmhkknoffeebaa.GsC Go.Proofs.Ytcmhkknoffeebaa.TabM Go.Proofs.Ytcmhkknoffeebaa.ArM Go.Proofs.Ytcmhkknoffeebaa.ArC Go.Proofs.Ytcmhkknoffeebaa.ArD Go.Proofs.Ytcmhkknoffeebaa.ArB Go.Proofs.Ytcmhkknoffeebaa.Stages

section
variable {w w' : World} {G H F : Nat → Prop} {d g cap dl Dl dt Dt : Nat} {T : Tb} {a : Ar}
theorem take_nil (p : Int) : Calls Try.prog 38 #[.pointer none, .int .i64 p] w fun e w' => e = .returned (.int .i64 (-1)) ∧ w = w' := by
  go_enter Try.func38, Try.ntmps38
  go_wp2
  go_ret
  exact ⟨rfl, rfl⟩
theorem take_bad (h : ArAt w G d a) (p : Int) (hc : a.can p = false) : Calls Try.prog 38 #[.pointer (some ⟨d, 0, none⟩), .int .i64 p] w fun e w' => e = .returned (.int .i64 (-1)) ∧ w = w' := by
  have HF := Lib.hid (find_any h p)
  by_cases h0 : p < 0
  · clear h hc
    go_enter Try.func38, Try.ntmps38
    go_wp2
    go_ret
    exact ⟨rfl, rfl⟩
  · have h0' : 0 ≤ p := by omega
    by_cases h1 : 48 ≤ p
    · clear h hc h0
      go_enter Try.func38, Try.ntmps38
      go_wp2
      go_ret
      exact ⟨rfl, rfl⟩
    · have h1' : p < 48 := by omega
      have h2 : 0 ≤ a.find p := by
        have : ¬ a.find p < 0 := fun x => by
          unfold Ar.can at hc
          rw [decide_eq_true h0', decide_eq_true h1', decide_eq_true x] at hc
          cases hc
        omega
      have h3 : (a.find p != -1) = true := by
        have : (a.find p == -1) = false := by rw [beq_eq_false_iff_ne]; omega
        unfold bne; rw [this]; rfl
      clear h hc h0 h1
      generalize a.find p = q at *
      go_enter Try.func38, Try.ntmps38
      go_wp2_with (go_at_call 12; (with_reducible refine HF.out.mono ?_); rintro e w' ⟨rfl, rfl⟩)
      go_ret
      exact ⟨rfl, rfl⟩
theorem can_find {p : Int} (h : a.can p = true) : 0 ≤ p ∧ p < 48 ∧ a.find p = -1 := by
  simp only [Ar.can, Bool.and_eq_true, decide_eq_true_eq] at h
  refine ⟨h.1.1, h.1.2, ?_⟩
  rcases find_cases a p with h' | ⟨x, _, _, _, e⟩
  · exact h'.1
  · omega
theorem take_none (h : ArAt w G d a) (p : Int) (hc : a.can p = true) (hq : a.Q = []) : Calls Try.prog 38 #[.pointer (some ⟨d, 0, none⟩), .int .i64 p] w fun e w' => e = .returned (.int .i64 (-1)) ∧ w = w' := by
  have HF := Lib.hid (find_any h p)
  obtain ⟨h0, h1, h2⟩ := can_find hc
  rw [h2] at HF
  rcases h.mem with h' | ⟨g, cap, dl, Dl, dt, Dt, T, hb⟩
  · have c1 := h'.h1
    clear h hc h' h2
    go_enter Try.func38, Try.ntmps38
    go_wp2_with (first
      | (go_at_call 12; (with_reducible refine HF.out.mono ?_); rintro e w' ⟨rfl, rfl⟩)
      | (go_at_call 48; (with_reducible refine ListC.first_nil.mono ?_); rintro e w' ⟨rfl, rfl⟩))
    go_ret
    exact ⟨rfl, rfl⟩
  · have c1 := hb.h1
    have HL := Lib.hid (ListC.first_any hb.li)
    rw [hq] at HL
    clear h hc hb h2
    go_enter Try.func38, Try.ntmps38
    go_wp2_with (first
      | (go_at_call 12; (with_reducible refine HF.out.mono ?_); rintro e w' ⟨rfl, rfl⟩)
      | (go_at_call 48; (with_reducible refine HL.out.mono ?_); rintro e w' ⟨rfl, rfl⟩))
    go_ret
    exact ⟨rfl, rfl⟩
set_option maxHeartbeats 2000000 in
theorem take_good (h : ArAt w G d a) (p : Int) (hc : a.can p = true) (f : Nat) (q : List Nat) (hq : a.Q = f :: q) : Calls Try.prog 38 #[.pointer (some ⟨d, 0, none⟩), .int .i64 p] w (APost G d w (.int .i64 (f : Int)) ⟨a.n, upd a.F f (fUsed p), upd a.B f zeros, q⟩) := by
  obtain ⟨hf, hs, _, _⟩ := h.good.head hq
  have HG := Lib.hid (h.good.takeF hc hq)
  have HF := Lib.hid (find_any h p)
  have hn32 := h.good.n
  obtain ⟨g, cap, dl, Dl, dt, Dt, T, hb⟩ := ArAt.big h (by omega)
  obtain ⟨h0, h1, h2⟩ := can_find hc
  rw [h2] at HF
  have HFI := Lib.hid (ListC.first_any hb.li)
  have HO := Lib.hid (ListD.out_good hb.li f (by rw [hq]; simp))
  rw [show a.Q.erase f = q by rw [hq, List.erase_cons_head]] at HO
  obtain ⟨t1, t2⟩ := hb.ts.put (B' := upd a.B f zeros) (Q' := q) h.good hf (by omega) hc
  have HT := Lib.hid t2
  have HPUT : Hid (∀ w1, TabC.TabAt w1 dt Dt T → Calls Try.prog 49 #[.pointer (some ⟨dt, 0, none⟩), .int .i64 p, .int .i64 (f : Int)] w1 (TabO.TabPost dt Dt w1 0 (T.put p (f : Int)))) := fun w1 ht => by
    have := TabO.put_any ht p (f : Int)
    rwa [t1] at this
  have HI := Lib.hid hb.core
  have HP := Lib.hid hb.pos
  have HBL := Lib.hid h.good.b
  have HFE : Hid (∀ w1, Core w1 G d g cap dl Dl dt Dt (T.put p (f : Int)) ⟨a.n, a.F, a.B, q⟩ → FR (setF w1 g f (fUsed p)) g cap a.n (upd a.F f (fUsed p))) := fun w1 h1 => FR.setF h1.fr f (fUsed p)
  have c1 := hb.h1
  have hfz : (f : Int) < (a.n : Int) := by omega
  have hnz : (a.n : Int) ≤ 32 := by omega
  have hfe : ((f : Int) == -1) = false := by rw [beq_eq_false_iff_ne]; omega
  generalize hfst : ListM.first a.Q = ff at *
  have hff : ff = (f : Int) := by rw [← hfst, hq]; rfl
  subst hff
  clear hfst h hc hb h2 t1 t2 hq hs
  generalize T.put p (f : Int) = T2 at *
  go_enter Try.func38, Try.ntmps38
  go_upto_region 9 with (first
    | (go_at_call 12; (with_reducible refine HF.out.mono ?_); rintro e w' ⟨rfl, rfl⟩)
    | (go_at_call 48; (with_reducible refine HFI.out.mono ?_); rintro e w' ⟨rfl, rfl⟩)
    | (go_at_call 34; (with_reducible refine HO.out.mono ?_); rintro e w1 ⟨rfl, hl, hk⟩; have H1 := Lib.hid (HI.out.lst hl hk); have HK1 := Lib.hid (HI.out.kl hk); clear hl hk c1; have c2 := H1.out.h2)
    | (go_at_call 49; (with_reducible refine (HPUT.out _ H1.out.ta).mono ?_); rintro e w2 ⟨rfl, ht, hk⟩; have H2 := Lib.hid (H1.out.tab ht hk); have HK2 := Lib.hid (HI.out.kt hk); clear ht hk c2; have c0 := H2.out.h0; have f0 := FR.c0 H2.out.fr hf; have f1 := FR.c1 H2.out.fr hf; have f2 := FR.c2 H2.out.fr hf; have f3 := FR.c3 H2.out.fr hf; have f4 := FR.c4 H2.out.fr hf; have fz := H2.out.fr.frozen))
  rw [show (((((w2.setCell ⟨g, f * 5, none⟩ (.int .i64 1)).setCell ⟨g, f * 5 + 1, none⟩ (.int .i64 p)).setCell ⟨g, f * 5 + 2, none⟩ (.int .i64 0)).setCell ⟨g, f * 5 + 3, none⟩ (.int .i64 0)).setCell ⟨g, f * 5 + 4, none⟩ (.bool false)) = setF w2 g f (fUsed p) from rfl]
  have H3 := Lib.hid (H2.out.frm (HFE.out w2 H2.out) (kept_setF _ _ _ _))
  have HK3 := Lib.hid (HI.out.kg (kept_setF w2 g f (fUsed p)))
  clear c0 f0 f1 f2 f3 f4 fz H2 HFE
  generalize setF w2 g f (fUsed p) = w3 at *
  have hbc := fun j (hj : j < 16) => acell_b (.slice (some ⟨g, 0, none⟩) a.n cap) (.pointer (some ⟨dl, 0, none⟩)) (.pointer (some ⟨dt, 0, none⟩)) a.B f j (by omega) hj
  have hrw := H3.out.hd
  dsimp only at hrw
  have hbs : ∀ j, j < 16 → w3.cell? ⟨d, 1 + f * 16 + j, none⟩ = some (.int .u8 ((a.B f).getD j 0)) := fun j hj => by rw [hrw.cell (by omega), hbc j hj]
  have b0 : w3.cell? ⟨d, 1 + f * 16, none⟩ = some (.int .u8 ((a.B f).getD 0 0)) := hbs 0 (by omega)
  have b1 : w3.cell? ⟨d, 1 + f * 16 + 1, none⟩ = some (.int .u8 ((a.B f).getD 1 0)) := hbs 1 (by omega)
  have b2 : w3.cell? ⟨d, 1 + f * 16 + 2, none⟩ = some (.int .u8 ((a.B f).getD 2 0)) := hbs 2 (by omega)
  have b3 : w3.cell? ⟨d, 1 + f * 16 + 3, none⟩ = some (.int .u8 ((a.B f).getD 3 0)) := hbs 3 (by omega)
  have b4 : w3.cell? ⟨d, 1 + f * 16 + 4, none⟩ = some (.int .u8 ((a.B f).getD 4 0)) := hbs 4 (by omega)
  have b5 : w3.cell? ⟨d, 1 + f * 16 + 5, none⟩ = some (.int .u8 ((a.B f).getD 5 0)) := hbs 5 (by omega)
  have b6 : w3.cell? ⟨d, 1 + f * 16 + 6, none⟩ = some (.int .u8 ((a.B f).getD 6 0)) := hbs 6 (by omega)
  have b7 : w3.cell? ⟨d, 1 + f * 16 + 7, none⟩ = some (.int .u8 ((a.B f).getD 7 0)) := hbs 7 (by omega)
  have b8 : w3.cell? ⟨d, 1 + f * 16 + 8, none⟩ = some (.int .u8 ((a.B f).getD 8 0)) := hbs 8 (by omega)
  have b9 : w3.cell? ⟨d, 1 + f * 16 + 9, none⟩ = some (.int .u8 ((a.B f).getD 9 0)) := hbs 9 (by omega)
  have b10 : w3.cell? ⟨d, 1 + f * 16 + 10, none⟩ = some (.int .u8 ((a.B f).getD 10 0)) := hbs 10 (by omega)
  have b11 : w3.cell? ⟨d, 1 + f * 16 + 11, none⟩ = some (.int .u8 ((a.B f).getD 11 0)) := hbs 11 (by omega)
  have b12 : w3.cell? ⟨d, 1 + f * 16 + 12, none⟩ = some (.int .u8 ((a.B f).getD 12 0)) := hbs 12 (by omega)
  have b13 : w3.cell? ⟨d, 1 + f * 16 + 13, none⟩ = some (.int .u8 ((a.B f).getD 13 0)) := hbs 13 (by omega)
  have b14 : w3.cell? ⟨d, 1 + f * 16 + 14, none⟩ = some (.int .u8 ((a.B f).getD 14 0)) := hbs 14 (by omega)
  have b15 : w3.cell? ⟨d, 1 + f * 16 + 15, none⟩ = some (.int .u8 ((a.B f).getD 15 0)) := hbs 15 (by omega)
  have fz := hrw.frozen
  have HROW : Hid (Row (w3.setCells d (1 + f * 16) ((List.range 16).map (bcell zeros))) d 515 (acell (.slice (some ⟨g, 0, none⟩) a.n cap) (upd a.B f zeros) (.pointer (some ⟨dl, 0, none⟩)) (.pointer (some ⟨dt, 0, none⟩)))) := by
    refine (Row.laid hrw (1 + f * 16) (bcell zeros)).congr fun i hi => ?_
    have := acell_set (.slice (some ⟨g, 0, none⟩) a.n cap) (.pointer (some ⟨dl, 0, none⟩)) (.pointer (some ⟨dt, 0, none⟩)) (B := a.B) (f := f) (o := 0) (zs := zeros) (by omega) HBL.out (Nat.le_refl _) i hi
    rw [show ArM.splice (a.B f) 0 zeros = zeros by unfold ArM.splice; rw [List.take_zero, List.drop_of_length_le (by rw [HBL.out f]; exact Nat.le_refl _)]; rfl] at this
    exact this
  have HKR := Lib.hid (kept_setCells d ((List.range 16).map (bcell zeros)) w3 (1 + f * 16))
  clear hrw hbc hbs
  go_wp2
  go_ret
  rw [show ((((((((((((((((w3.setCell ⟨d, 1 + f * 16, none⟩ (.int .u8 0)).setCell ⟨d, 1 + f * 16 + 1, none⟩ (.int .u8 0)).setCell ⟨d, 1 + f * 16 + 2, none⟩ (.int .u8 0)).setCell ⟨d, 1 + f * 16 + 3, none⟩ (.int .u8 0)).setCell ⟨d, 1 + f * 16 + 4, none⟩ (.int .u8 0)).setCell ⟨d, 1 + f * 16 + 5, none⟩ (.int .u8 0)).setCell ⟨d, 1 + f * 16 + 6, none⟩ (.int .u8 0)).setCell ⟨d, 1 + f * 16 + 7, none⟩ (.int .u8 0)).setCell ⟨d, 1 + f * 16 + 8, none⟩ (.int .u8 0)).setCell ⟨d, 1 + f * 16 + 9, none⟩ (.int .u8 0)).setCell ⟨d, 1 + f * 16 + 10, none⟩ (.int .u8 0)).setCell ⟨d, 1 + f * 16 + 11, none⟩ (.int .u8 0)).setCell ⟨d, 1 + f * 16 + 12, none⟩ (.int .u8 0)).setCell ⟨d, 1 + f * 16 + 13, none⟩ (.int .u8 0)).setCell ⟨d, 1 + f * 16 + 14, none⟩ (.int .u8 0)).setCell ⟨d, 1 + f * 16 + 15, none⟩ (.int .u8 0)) = w3.setCells d (1 + f * 16) ((List.range 16).map (bcell zeros)) from rfl]
  exact ⟨rfl, ⟨HG.out, .inr ⟨_, _, _, _, _, _, _, (H3.out.hdr HROW.out HKR.out).big HT.out HP.out⟩⟩, ((HK1.out.trans HK2.out).trans HK3.out).trans (HI.out.kd HKR.out)⟩
theorem take_any (h : ArAt w G d a) (p : Int) : Calls Try.prog 38 #[.pointer (some ⟨d, 0, none⟩), .int .i64 p] w (APost G d w (.int .i64 (a.takeC p)) (a.take p)) := by
  cases hc : a.can p with
  | false =>
    have e1 : a.takeC p = -1 := by unfold Ar.takeC; rw [hc]; rfl
    have e2 : a.take p = a := by unfold Ar.take; rw [hc]; rfl
    rw [e1, e2]
    exact (take_bad h p hc).mono fun e w' ⟨h1, h2⟩ => ⟨h1, h2 ▸ h, h2 ▸ Kept.refl _ _⟩
  | true =>
    cases hq : a.Q with
    | nil =>
      have e1 : a.takeC p = -1 := by unfold Ar.takeC; rw [if_pos hc, hq]; rfl
      have e2 : a.take p = a := by unfold Ar.take; rw [if_pos hc, hq]; rfl
      rw [e1, e2]
      exact (take_none h p hc hq).mono fun e w' ⟨h1, h2⟩ => ⟨h1, h2 ▸ h, h2 ▸ Kept.refl _ _⟩
    | cons f q =>
      have e1 : a.takeC p = (f : Int) := by unfold Ar.takeC; rw [if_pos hc, hq]; rfl
      have e2 : a.take p = ⟨a.n, upd a.F f (fUsed p), upd a.B f zeros, q⟩ := by unfold Ar.take; rw [if_pos hc, hq]; rfl
      rw [e1, e2]
      exact take_good h p hc f q hq
end
end Go.Proofs.Ytcmhkknoffeebaa.ArT
