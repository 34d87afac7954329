/-
  Package arena (chapter 10): Find, Free, Pin, Unpin, Mark, Drop, Retire at every arena and argument.
-/
import Derived.Test.YtcmhkknoffeebaaAr
namespace Go.Proofs.Ytcmhkknoffeebaa.ArD
open Go.ChangeShapes Go.WideShapes Go.ChangeAt Go.RowKit
open Go.Proofs.Ytcmhkknoffeebaa.Mem Go.Proofs.Ytcmhkknoffeebaa.Blk Go.Proofs.Ytcmhkknoffeebaa.Cells Go.Proofs.Ytcmhkknoffeebaa.Orow Go.Proofs.Ytcmhkknoffeebaa.TabM Go.Proofs.Ytcmhkknoffeebaa.ArM Go.Proofs.Ytcmhkknoffeebaa.ArC Go.Proofs.Ytcmhkknoffeebaa.Stages

section
variable {w w' : World} {G H F : Nat → Prop} {d g cap dl Dl dt Dt : Nat} {T : Tb} {a : Ar}
theorem get_big (h : Big w G d g cap dl Dl dt Dt T a) (hg : ArM.Good a) (p : Int) : Calls Try.prog 29 #[.pointer (some ⟨dt, 0, none⟩), .int .i64 p] w fun e w' => e = .returned (.int .i64 (a.find p)) ∧ w = w' := by
  have := TabO.get_any h.ta p
  rwa [h.ts.get hg p] at this
theorem find_any (h : ArAt w G d a) (p : Int) : Calls Try.prog 12 #[.pointer (some ⟨d, 0, none⟩), .int .i64 p] w fun e w' => e = .returned (.int .i64 (a.find p)) ∧ w = w' := by
  rcases h.mem with h' | ⟨g, cap, dl, Dl, dt, Dt, T, h'⟩
  · have c0 := h'.h2
    have HG := Lib.hid (TabO.get_nil (w := w) (key := p))
    have HE : Hid (a.find p = -1) := find_none fun x hx => by have := h'.zero; omega
    clear h h'
    go_enter Try.func12, Try.ntmps12
    go_wp2_with (go_at_call 29; (with_reducible refine HG.out.mono ?_); rintro e w' ⟨rfl, rfl⟩)
    go_ret
    exact ⟨by rw [HE.out]; rfl, rfl⟩
  · have c0 := h'.h2
    have HG := Lib.hid (get_big h' h.good p)
    clear h h'
    go_enter Try.func12, Try.ntmps12
    go_wp2_with (go_at_call 29; (with_reducible refine HG.out.mono ?_); rintro e w' ⟨rfl, rfl⟩)
    go_ret
    exact ⟨rfl, rfl⟩
theorem free_any (h : ArAt w G d a) : Calls Try.prog 25 #[.pointer (some ⟨d, 0, none⟩)] w fun e w' => e = .returned (.int .i64 (a.Q.length : Int)) ∧ w = w' := by
  rcases h.mem with h' | ⟨g, cap, dl, Dl, dt, Dt, T, h'⟩
  · have c0 := h'.h1
    have HE : Hid (a.Q = []) := h.good.empty h'.zero
    clear h h'
    go_enter Try.func25, Try.ntmps25
    go_wp2_with (go_at_call 37; (with_reducible refine ListC.len_nil.mono ?_); rintro e w' ⟨rfl, rfl⟩)
    go_ret
    exact ⟨by rw [HE.out]; rfl, rfl⟩
  · have c0 := h'.h1
    have HG := Lib.hid (ListC.len_any h'.li)
    clear h h'
    go_enter Try.func25, Try.ntmps25
    go_wp2_with (go_at_call 37; (with_reducible refine HG.out.mono ?_); rintro e w' ⟨rfl, rfl⟩)
    go_ret
    exact ⟨rfl, rfl⟩

theorem ArAt.big (h : ArAt w G d a) (hn : 0 < a.n) : ∃ g cap dl Dl dt Dt T, Big w G d g cap dl Dl dt Dt T a := by
  rcases h.mem with h' | h'
  · have := h'.zero; omega
  · exact h'
/-- Frames that are turned in their block. -/
theorem Big.turn {F' : Nat → Fr} {T' : Tb} {n' : Nat} (h : Big w G d g cap dl Dl dt Dt T a) (hn : n' = a.n) (hk : Kept (· = g) w w') (hf : FR w' g cap n' F') (ht : T' = T) (hs : Tabs T' ⟨n', F', a.B, a.Q⟩) : Big w' G d g cap dl Dl dt Dt T' ⟨n', F', a.B, a.Q⟩ := by
  subst hn ht
  refine ⟨h.hd.kept hk h.ne.dg, hf, h.li.kept hk fun k x y => ?_, TabC.Raw.kept h.ta hk fun k x y => ?_, hs, h.ne, h.inG, h.pos⟩
  · subst x
    rcases y with y | y
    · exact h.ne.gdl y
    · exact h.ne.gDl y
  · subst x
    rcases y with y | y
    · exact h.ne.gdt y
    · exact h.ne.gDt y
theorem pin_nil (k : Int) : Calls Try.prog 22 #[.pointer none, .int .i64 k] w fun e w' => e = .returned (.int .i64 12) ∧ w = w' := by
  have HU := Lib.hid (used_nil (w := w) k)
  go_enter Try.func22, Try.ntmps22
  go_wp2_with (go_at_call 31; (with_reducible refine HU.out.mono ?_); rintro e w' ⟨rfl, rfl⟩)
  go_ret
  exact ⟨rfl, rfl⟩
theorem pin_bad (h : ArAt w G d a) (k : Int) (hk : a.used k = false) : Calls Try.prog 22 #[.pointer (some ⟨d, 0, none⟩), .int .i64 k] w fun e w' => e = .returned (.int .i64 2) ∧ w = w' := by
  have HU := Lib.hid (used_bad h k hk)
  clear h hk
  go_enter Try.func22, Try.ntmps22
  go_wp2_with (go_at_call 31; (with_reducible refine HU.out.mono ?_); rintro e w' ⟨rfl, rfl⟩)
  go_ret
  exact ⟨rfl, rfl⟩
theorem pin_any (h : ArAt w G d a) (k : Int) : Calls Try.prog 22 #[.pointer (some ⟨d, 0, none⟩), .int .i64 k] w (APost G d w (.int .i64 (a.pinC k)) (a.pin k)) := by
  cases hu : a.used k with
  | false =>
    have e1 : a.pinC k = 2 := by unfold Ar.pinC; rw [hu]; rfl
    have e2 : a.pin k = a := by unfold Ar.pin; rw [e1]; rfl
    rw [e1, e2]
    exact (pin_bad h k hu).mono fun e w' ⟨h1, h2⟩ => ⟨h1, h2 ▸ h, h2 ▸ Kept.refl _ _⟩
  | true =>
    obtain ⟨f, rfl, hf, hs⟩ := used_iff.1 hu
    have HG := Lib.hid (h.good.pin (f : Int))
    have hbd := h.good.use f hf hs
    have hn32 := h.good.n
    obtain ⟨g, cap, dl, Dl, dt, Dt, T, hb⟩ := ArAt.big h (by omega)
    have HU := Lib.hid (used_good hb h.good.n f hf hs)
    have c0 := hb.h0
    have f2 := hb.fr.c2 hf
    have fz := hb.fr.frozen (f * 5 + 2)
    have hfz : (f : Int) < (a.n : Int) := by omega
    have hnz : (a.n : Int) ≤ 32 := by omega
    by_cases h1000 : 1000 ≤ (a.F f).pn
    · have e1 : a.pinC (f : Int) = 12 := by unfold Ar.pinC; rw [if_pos hu, Int.toNat_natCast, if_pos h1000]
      have e2 : a.pin (f : Int) = a := by unfold Ar.pin; rw [e1]; rfl
      have h1e : (a.F f).pn = 1000 := by omega
      rw [h1e] at f2
      have HA := Lib.hid h
      rw [e1, e2]
      clear h hb hbd h1000 h1e e1 e2 HG hu hs
      go_enter Try.func22, Try.ntmps22
      go_wp2_with (go_at_call 31; (with_reducible refine HU.out.mono ?_); rintro e w' ⟨rfl, rfl⟩)
      go_ret
      exact ⟨rfl, HA.out, Kept.refl _ _⟩
    · have e1 : a.pinC (f : Int) = 0 := by unfold Ar.pinC; rw [if_pos hu, Int.toNat_natCast, if_neg h1000]
      have e2 : a.pin (f : Int) = a.turn f ⟨(a.F f).st, (a.F f).pg, (a.F f).pn + 1, (a.F f).di⟩ := by unfold Ar.pin; rw [if_pos e1, Int.toNat_natCast]
      rw [e2] at HG
      rw [e1, e2]
      have HK := Lib.hid (kept_set w g (f * 5 + 2) (.int .i64 ((a.F f).pn + 1)))
      have HB := Lib.hid (Big.turn hb rfl HK.out (hb.fr.set2 f ((a.F f).pn + 1)) rfl (hb.ts.turn (v := ⟨(a.F f).st, (a.F f).pg, (a.F f).pn + 1, (a.F f).di⟩) (B' := a.B) (Q' := a.Q) hf Iff.rfl fun _ => rfl))
      have HI := Lib.hid hb.inG
      have h1p : ((a.F f).pn == 1000) = false := by rw [beq_eq_false_iff_ne]; omega
      obtain ⟨_, _, hp0, hp1⟩ := hbd
      clear h hb h1000 e1 e2 hu hs
      unfold Ar.turn at HG ⊢
      generalize (a.F f).pn = pn at *
      go_enter Try.func22, Try.ntmps22
      go_wp2_with (go_at_call 31; (with_reducible refine HU.out.mono ?_); rintro e w' ⟨rfl, rfl⟩)
      go_ret
      exact ⟨rfl, ⟨HG.out, .inr ⟨_, _, _, _, _, _, _, HB.out⟩⟩, HK.out.mono fun k _ e => by subst e; exact HI.out.2.1⟩
theorem unpin_bad (h : ArAt w G d a) (k : Int) (hk : a.used k = false) : Calls Try.prog 30 #[.pointer (some ⟨d, 0, none⟩), .int .i64 k] w fun e w' => e = .returned (.int .i64 2) ∧ w = w' := by
  have HU := Lib.hid (used_bad h k hk)
  clear h hk
  go_enter Try.func30, Try.ntmps30
  go_wp2_with (go_at_call 31; (with_reducible refine HU.out.mono ?_); rintro e w' ⟨rfl, rfl⟩)
  go_ret
  exact ⟨rfl, rfl⟩
theorem unpin_any (h : ArAt w G d a) (k : Int) : Calls Try.prog 30 #[.pointer (some ⟨d, 0, none⟩), .int .i64 k] w (APost G d w (.int .i64 (a.unpinC k)) (a.unpin k)) := by
  cases hu : a.used k with
  | false =>
    have e1 : a.unpinC k = 2 := by unfold Ar.unpinC; rw [hu]; rfl
    have e2 : a.unpin k = a := by unfold Ar.unpin; rw [e1]; rfl
    rw [e1, e2]
    exact (unpin_bad h k hu).mono fun e w' ⟨h1, h2⟩ => ⟨h1, h2 ▸ h, h2 ▸ Kept.refl _ _⟩
  | true =>
    obtain ⟨f, rfl, hf, hs⟩ := used_iff.1 hu
    have HG := Lib.hid (h.good.unpin (f : Int))
    have hbd := h.good.use f hf hs
    have hn32 := h.good.n
    obtain ⟨g, cap, dl, Dl, dt, Dt, T, hb⟩ := ArAt.big h (by omega)
    have HU := Lib.hid (used_good hb h.good.n f hf hs)
    have c0 := hb.h0
    have f2 := hb.fr.c2 hf
    have fz := hb.fr.frozen (f * 5 + 2)
    have hfz : (f : Int) < (a.n : Int) := by omega
    have hnz : (a.n : Int) ≤ 32 := by omega
    by_cases hz0 : (a.F f).pn = 0
    · have e1 : a.unpinC (f : Int) = 12 := by unfold Ar.unpinC; rw [if_pos hu, Int.toNat_natCast, if_pos hz0]
      have e2 : a.unpin (f : Int) = a := by unfold Ar.unpin; rw [e1]; rfl
      have h1e : (a.F f).pn = 0 := hz0
      rw [h1e] at f2
      have HA := Lib.hid h
      rw [e1, e2]
      clear h hb hbd hz0 h1e e1 e2 HG hu hs
      go_enter Try.func30, Try.ntmps30
      go_wp2_with (go_at_call 31; (with_reducible refine HU.out.mono ?_); rintro e w' ⟨rfl, rfl⟩)
      go_ret
      exact ⟨rfl, HA.out, Kept.refl _ _⟩
    · have e1 : a.unpinC (f : Int) = 0 := by unfold Ar.unpinC; rw [if_pos hu, Int.toNat_natCast, if_neg hz0]
      have e2 : a.unpin (f : Int) = a.turn f ⟨(a.F f).st, (a.F f).pg, (a.F f).pn - 1, (a.F f).di⟩ := by unfold Ar.unpin; rw [if_pos e1, Int.toNat_natCast]
      rw [e2] at HG
      rw [e1, e2]
      have HK := Lib.hid (kept_set w g (f * 5 + 2) (.int .i64 ((a.F f).pn - 1)))
      have HB := Lib.hid (Big.turn hb rfl HK.out (hb.fr.set2 f ((a.F f).pn - 1)) rfl (hb.ts.turn (v := ⟨(a.F f).st, (a.F f).pg, (a.F f).pn - 1, (a.F f).di⟩) (B' := a.B) (Q' := a.Q) hf Iff.rfl fun _ => rfl))
      have HI := Lib.hid hb.inG
      have h1p : ((a.F f).pn == 0) = false := by rw [beq_eq_false_iff_ne]; omega
      obtain ⟨_, _, hp0, hp1⟩ := hbd
      clear h hb hz0 e1 e2 hu hs
      unfold Ar.turn at HG ⊢
      generalize (a.F f).pn = pn at *
      go_enter Try.func30, Try.ntmps30
      go_wp2_with (go_at_call 31; (with_reducible refine HU.out.mono ?_); rintro e w' ⟨rfl, rfl⟩)
      go_ret
      exact ⟨rfl, ⟨HG.out, .inr ⟨_, _, _, _, _, _, _, HB.out⟩⟩, HK.out.mono fun k _ e => by subst e; exact HI.out.2.1⟩
theorem mark_any (h : ArAt w G d a) (k : Int) (q : Bool) : Calls Try.prog 14 #[.pointer (some ⟨d, 0, none⟩), .int .i64 k, .bool q] w (APost G d w (.int .i64 (a.markC k)) (a.mark k q)) := by
  cases hu : a.used k with
  | false =>
    have e1 : a.markC k = 2 := by unfold Ar.markC; rw [hu]; rfl
    have e2 : a.mark k q = a := by unfold Ar.mark; rw [hu]; rfl
    rw [e1, e2]
    have HU := Lib.hid (used_bad h k hu)
    have HA := Lib.hid h
    clear h hu e1 e2
    go_enter Try.func14, Try.ntmps14
    go_wp2_with (go_at_call 31; (with_reducible refine HU.out.mono ?_); rintro e w' ⟨rfl, rfl⟩)
    go_ret
    exact ⟨rfl, HA.out, Kept.refl _ _⟩
  | true =>
    obtain ⟨f, rfl, hf, hs⟩ := used_iff.1 hu
    have HG := Lib.hid (h.good.mark (f : Int) q)
    have hn32 := h.good.n
    obtain ⟨g, cap, dl, Dl, dt, Dt, T, hb⟩ := ArAt.big h (by omega)
    have HU := Lib.hid (used_good hb h.good.n f hf hs)
    have c0 := hb.h0
    have f4 := hb.fr.c4 hf
    have fz := hb.fr.frozen (f * 5 + 4)
    have hfz : (f : Int) < (a.n : Int) := by omega
    have hnz : (a.n : Int) ≤ 32 := by omega
    have e1 : a.markC (f : Int) = 0 := by unfold Ar.markC; rw [if_pos hu]
    have e2 : a.mark (f : Int) q = a.turn f ⟨(a.F f).st, (a.F f).pg, (a.F f).pn, q⟩ := by unfold Ar.mark; rw [if_pos hu, Int.toNat_natCast]
    rw [e2] at HG
    rw [e1, e2]
    have HK := Lib.hid (kept_set w g (f * 5 + 4) (.bool q))
    have HB := Lib.hid (Big.turn hb rfl HK.out (hb.fr.set4 f q) rfl (hb.ts.turn (v := ⟨(a.F f).st, (a.F f).pg, (a.F f).pn, q⟩) (B' := a.B) (Q' := a.Q) hf Iff.rfl fun _ => rfl))
    have HI := Lib.hid hb.inG
    clear h hb e1 e2 hu hs
    unfold Ar.turn at HG ⊢
    go_enter Try.func14, Try.ntmps14
    go_wp2_with (go_at_call 31; (with_reducible refine HU.out.mono ?_); rintro e w' ⟨rfl, rfl⟩)
    go_ret
    exact ⟨rfl, ⟨HG.out, .inr ⟨_, _, _, _, _, _, _, HB.out⟩⟩, HK.out.mono fun k _ e => by subst e; exact HI.out.2.1⟩
end
end Go.Proofs.Ytcmhkknoffeebaa.ArD
