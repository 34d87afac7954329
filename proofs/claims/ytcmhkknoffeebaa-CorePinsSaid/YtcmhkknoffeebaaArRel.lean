/-
  Package arena (chapter 10): release, Drop, Retire, at every arena and argument.
-/
import Derived.Test.YtcmhkknoffeebaaArOps
namespace Go.Proofs.Ytcmhkknoffeebaa.ArR
open Go.ChangeShapes Go.WideShapes Go.ChangeAt Go.RowKit
open Go.Proofs.Ytcmhkknoffeebaa.Mem Go.Proofs.Ytcmhkknoffeebaa.Blk Go.Proofs.Ytcmhkknoffeebaa.Cells Go.Proofs.Ytcmhkknoffeebaa.Orow Go.Proofs.Ytcmhkknoffeebaa.TabM Go.Proofs.Ytcmhkknoffeebaa.ArM Go.Proofs.Ytcmhkknoffeebaa.ArC Go.Proofs.Ytcmhkknoffeebaa.ArD Go.Proofs.Ytcmhkknoffeebaa.Stages

section
variable {w w' : World} {G H F : Nat → Prop} {d g cap dl Dl dt Dt : Nat} {T : Tb} {a : Ar}
theorem release_any (h : Core w G d g cap dl Dl dt Dt T a) (hn : a.n ≤ 32) (f : Nat) (hf : f < a.n) (hq : f ∉ a.Q) :
    Calls Try.prog 44 #[.pointer (some ⟨d, 0, none⟩), .int .i64 (f : Int)] w fun e w' => e = .returned (.tuple #[]) ∧ Core w' G d g cap dl Dl dt Dt T (a.dropF f) ∧ Kept G w w' := by
  have c0 := h.h0
  have f0 := h.fr.c0 hf
  have f1 := h.fr.c1 hf
  have f2 := h.fr.c2 hf
  have f3 := h.fr.c3 hf
  have f4 := h.fr.c4 hf
  have fz := h.fr.frozen
  have hfz : (f : Int) < (a.n : Int) := by omega
  have hnz : (a.n : Int) ≤ 32 := by omega
  have HF : Hid (FR (setF w g f fFree) g cap a.n (upd a.F f fFree)) := h.fr.setF f fFree
  have HK := Lib.hid (kept_setF w g f fFree)
  have H := Lib.hid h
  clear h
  go_enter Try.func44, Try.ntmps44
  go_upto_region 1 with (fail)
  rw [show (((((w.setCell ⟨g, f * 5, none⟩ (.int .i64 0)).setCell ⟨g, f * 5 + 1, none⟩ (.int .i64 (-1))).setCell ⟨g, f * 5 + 2, none⟩ (.int .i64 0)).setCell ⟨g, f * 5 + 3, none⟩ (.int .i64 0)).setCell ⟨g, f * 5 + 4, none⟩ (.bool false)) = setF w g f fFree from rfl]
  have H1 := Lib.hid (H.out.frm HF.out HK.out)
  have HK1 := Lib.hid (H.out.kg HK.out)
  clear HF HK c0 f0 f1 f2 f3 f4 fz
  generalize setF w g f fFree = w1 at *
  have c1 := H1.out.h1
  have HB := Lib.hid (ListC.back_good H1.out.li f (by omega) hq)
  go_wp2_with (go_at_call 54; (with_reducible refine HB.out.mono ?_); rintro e w2 ⟨rfl, hl, hk, _⟩; have HL := Lib.hid hl; have HK2 := Lib.hid hk; clear hl hk)
  go_end0
  exact ⟨rfl, H1.out.lst HL.out HK2.out, HK1.out.trans (H.out.kl HK2.out)⟩

theorem drop_bad (h : ArAt w G d a) (k : Int) (hk : a.used k = false) : Calls Try.prog 40 #[.pointer (some ⟨d, 0, none⟩), .int .i64 k] w fun e w' => e = .returned (.int .i64 2) ∧ w = w' := by
  have HU := Lib.hid (used_bad h k hk)
  clear h hk
  go_enter Try.func40, Try.ntmps40
  go_wp2_with (go_at_call 31; (with_reducible refine HU.out.mono ?_); rintro e w' ⟨rfl, rfl⟩)
  go_ret
  exact ⟨rfl, rfl⟩
theorem drop_any (h : ArAt w G d a) (k : Int) : Calls Try.prog 40 #[.pointer (some ⟨d, 0, none⟩), .int .i64 k] w (APost G d w (.int .i64 (a.dropC k)) (a.drop k)) := by
  cases hu : a.used k with
  | false =>
    have e1 : a.dropC k = 2 := by unfold Ar.dropC; rw [hu]; rfl
    have e2 : a.drop k = a := by unfold Ar.drop; rw [e1]; rfl
    rw [e1, e2]
    exact (drop_bad h k hu).mono fun e w' ⟨h1, h2⟩ => ⟨h1, h2 ▸ h, h2 ▸ Kept.refl _ _⟩
  | true =>
    obtain ⟨f, rfl, hf, hs⟩ := used_iff.1 hu
    have HG := Lib.hid (h.good.drop (f : Int))
    have hbd := h.good.use f hf hs
    have hn32 := h.good.n
    obtain ⟨g, cap, dl, Dl, dt, Dt, T, hb⟩ := ArAt.big h (by omega)
    have HU := Lib.hid (used_good hb h.good.n f hf hs)
    have c0 := hb.h0
    have f2 := hb.fr.c2 hf
    have f1 := hb.fr.c1 hf
    have c2 := hb.h2
    have hfz : (f : Int) < (a.n : Int) := by omega
    have hnz : (a.n : Int) ≤ 32 := by omega
    by_cases hpos : 0 < (a.F f).pn
    · have e1 : a.dropC (f : Int) = 7 := by unfold Ar.dropC; rw [if_pos hu, Int.toNat_natCast, if_pos hpos]
      have e2 : a.drop (f : Int) = a := by unfold Ar.drop; rw [e1]; rfl
      have HA := Lib.hid h
      rw [e1, e2]
      clear h hb hbd e1 e2 HG hu hs
      generalize (a.F f).pn = pn at *
      go_enter Try.func40, Try.ntmps40
      go_wp2_with (go_at_call 31; (with_reducible refine HU.out.mono ?_); rintro e w' ⟨rfl, rfl⟩)
      go_ret
      exact ⟨rfl, HA.out, Kept.refl _ _⟩
    · have e1 : a.dropC (f : Int) = 0 := by unfold Ar.dropC; rw [if_pos hu, Int.toNat_natCast, if_neg hpos]
      have e2 : a.drop (f : Int) = a.dropF f := by unfold Ar.drop; rw [if_pos e1, Int.toNat_natCast]
      rw [e2] at HG
      rw [e1, e2]
      have hbd2 := hb.kept (Kept.drew' (F := fun _ => False) w) fun _ _ x => x
      have HO := Lib.hid (TabO.out_any hbd2.ta (a.F f).pg)
      have HT : Hid (Tabs (T.out (a.F f).pg) (a.dropF f)) := hb.ts.out h.good hf hs (by show (0 : Int) ≠ 1; omega)
      have HR : Hid (∀ w1, TabC.TabAt w1 dt Dt (T.out (a.F f).pg) → Kept (TabC.Own dt Dt) w.drew w1 → Calls Try.prog 44 #[.pointer (some ⟨d, 0, none⟩), .int .i64 (f : Int)] w1 fun e w' => e = .returned (.tuple #[]) ∧ Core w' G d g cap dl Dl dt Dt (T.out (a.F f).pg) (a.dropF f) ∧ Kept G w1 w') := fun w1 ht hk => release_any (hbd2.core.tab ht hk) hn32 f hf (fun hm => by have := (h.good.q f).1 hm; omega)
      have HI := Lib.hid hb.core
      have HP := Lib.hid hb.pos
      have h0 : (a.F f).pn = 0 := by omega
      rw [h0] at f2
      clear h hb e1 e2 hu hs hbd hpos h0 hbd2
      generalize T.get (a.F f).pg = tg at *
      generalize T.out (a.F f).pg = T2 at *
      generalize (a.F f).pg = pg at *
      go_enter Try.func40, Try.ntmps40
      go_upto_region 6 with (go_at_call 31; (with_reducible refine HU.out.mono ?_); rintro e w' ⟨rfl, rfl⟩)
      have hne := HI.out.ne
      have q0 := up_cell (F := TabC.Own dt Dt) (w := w.drew) (p := ⟨d, 0, none⟩) c0 (fun x => x.elim hne.ddt hne.dDt)
      have q1 := up_cell (F := TabC.Own dt Dt) (w := w.drew) (p := ⟨d, 514, none⟩) c2 (fun x => x.elim hne.ddt hne.dDt)
      have q2 := up_cell (F := TabC.Own dt Dt) (w := w.drew) (p := ⟨g, f * 5 + 1, none⟩) f1 (fun x => x.elim hne.gdt hne.gDt)
      clear hne
      refine wp_region_stages (Kept (TabC.Own dt Dt)) (kept_refl _) (kept_trans _) [([0, 1, 2, 3, 4, 5, 6, 7, 8, 9, 10, 11], 12)] [] (by kernel_rfl) (by kernel_rfl) ?_
      simp only [selSt, sel, List.map_cons, List.map_nil, List.getD_cons_succ, List.getD_cons_zero]
      refine st_cons fun K1 hK1 => ?_
      repeat (go_big_quiet_step (fail))
      refine wpQuiet_nil ?_
      clear q0 q1 q2
      go_wp2_with (go_at_call 51; (with_reducible refine HO.out.mono ?_); rintro e w1 ⟨rfl, ht, hk⟩; have HT1 := Lib.hid ht; have HK1 := Lib.hid hk; clear ht hk)
      refine norm_up (hK1 _ _ HK1.out (st_nil fun K2 hK2 => wpQuiet_nil (hK2 _ ?_)))
      clear hK1 hK2 K1 K2
      go_wp2_with (go_at_call 44; (with_reducible refine (HR.out _ HT1.out HK1.out).mono ?_); rintro e w2 ⟨rfl, hc, hk⟩; have HC := Lib.hid hc; have HK2 := Lib.hid hk; clear hc hk)
      go_ret
      exact ⟨rfl, ⟨HG.out, .inr ⟨_, _, _, _, _, _, _, HC.out.big HT.out HP.out⟩⟩, ((Kept.drew' w).trans (HI.out.kt HK1.out)).trans HK2.out⟩
end
end Go.Proofs.Ytcmhkknoffeebaa.ArR
