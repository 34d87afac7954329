/-
  Package hist: Bad, inTime, failed (chapter 14); the document's Bad and SameRes.
-/
import Derived.Test.YtjdlpknflhgkfaaHsEv
import Derived.Test.YtjdlpknflhgkfaaPmRes
namespace Go.Proofs.Ytjdlpknflhgkfaa.HsB
open Go.ChangeShapes Go.WideShapes Go.ChangeAt Go.RowKit
open Go.Proofs.Ytjdlpknflhgkfaa.Mem Go.Proofs.Ytjdlpknflhgkfaa.Blk Go.Proofs.Ytjdlpknflhgkfaa.Cells Go.Proofs.Ytjdlpknflhgkfaa.Orow Go.Proofs.Ytjdlpknflhgkfaa.MdM Go.Proofs.Ytjdlpknflhgkfaa.HsM Go.Proofs.Ytjdlpknflhgkfaa.HsE Go.Proofs.Ytjdlpknflhgkfaa.PmC Go.Proofs.Ytjdlpknflhgkfaa.PmM Go.Proofs.Ytjdlpknflhgkfaa.PmF Go.Proofs.Ytjdlpknflhgkfaa.Stages

section
variable {w w' : World} {X : Nat → Prop} {x : Ev} {D A : Option Addr} {dl dc al ac : Nat}
theorem badC_yes1 {k c : Int} (h : c = 8) (hk : k = 1 ∨ k = 2) : badC k c := .inl ⟨h, hk⟩
theorem badC_yes2 {k c : Int} (h : c = 9) (hk : k = 1 ∨ k = 2 ∨ k = 6 ∨ k = 7) : badC k c := .inr (.inl ⟨h, hk⟩)
theorem badC_yes3 {k c : Int} (h : c = 10) (hk : k = 2) : badC k c := .inr (.inr ⟨h, hk⟩)
set_option maxHeartbeats 2000000 in
theorem bad_any (k p h o n c : Int) (D : Option Addr) (dl dc : Nat) (w : World) : Calls Try.prog 20 #[.agg #[.int .i64 k, .int .i64 p, .int .i64 h, .int .i64 o, .int .i64 n, .slice D dl dc], .int .i64 c] w (Tells (badC k c) w) := by
  have hb := Blk.new w 25 [.int .i64 k, .int .i64 p, .int .i64 h, .int .i64 o, .int .i64 n, .slice D dl dc]
  have s0 := hb.cell 0
  simp only [List.getElem?_cons_zero] at s0
  have HG : Hid (Grow w (w.alloc (.cells #[.int .i64 k, .int .i64 p, .int .i64 h, .int .i64 o, .int .i64 n, .slice D dl dc] 25))) := (Kept.refl _ _).alloc _
  clear hb
  go_enter Try.func20, Try.ntmps20
  go_upto_region 1 with (fail)
  generalize w.alloc (.cells #[.int .i64 k, .int .i64 p, .int .i64 h, .int .i64 o, .int .i64 n, .slice D dl dc] 25) = w0 at *
  generalize w.heap.size = g at *
  by_cases c8 : c = 8
  · by_cases k1 : k = 1
    · have HP := Lib.hid (badC_yes1 c8 (.inl k1))
      subst c8 k1
      go_wp2
      go_ret
      exact Tells.yes HP.out HG.out
    · by_cases k2 : k = 2
      · have HP := Lib.hid (badC_yes1 c8 (.inr k2))
        subst c8 k2
        go_wp2
        go_ret
        exact Tells.yes HP.out HG.out
      · have HP : Hid (¬ badC k c) := fun h => by unfold badC at h; omega
        subst c8
        have k1' : (k == 1) = false := by simpa using k1
        have k2' : (k == 2) = false := by simpa using k2
        clear k1 k2
        go_wp2
        go_ret
        exact Tells.no HP.out HG.out
  · by_cases c9 : c = 9
    · by_cases k1 : k = 1
      · have HP := Lib.hid (badC_yes2 c9 (.inl k1))
        subst c9 k1
        clear c8
        go_wp2
        go_ret
        exact Tells.yes HP.out HG.out
      by_cases k2 : k = 2
      · have HP := Lib.hid (badC_yes2 c9 (.inr (.inl k2)))
        subst c9 k2
        clear c8 k1
        go_wp2
        go_ret
        exact Tells.yes HP.out HG.out
      by_cases k6 : k = 6
      · have HP := Lib.hid (badC_yes2 c9 (.inr (.inr (.inl k6))))
        subst c9 k6
        clear c8 k1 k2
        go_wp2
        go_ret
        exact Tells.yes HP.out HG.out
      by_cases k7 : k = 7
      · have HP := Lib.hid (badC_yes2 c9 (.inr (.inr (.inr k7))))
        subst c9 k7
        clear c8 k1 k2 k6
        go_wp2
        go_ret
        exact Tells.yes HP.out HG.out
      have HP : Hid (¬ badC k c) := fun h => by unfold badC at h; omega
      subst c9
      have k1' : (k == 1) = false := by simpa using k1
      have k2' : (k == 2) = false := by simpa using k2
      have k6' : (k == 6) = false := by simpa using k6
      have k7' : (k == 7) = false := by simpa using k7
      clear c8 k1 k2 k6 k7
      go_wp2
      go_ret
      exact Tells.no HP.out HG.out
    · by_cases c10 : c = 10
      · by_cases k2 : k = 2
        · have HP := Lib.hid (badC_yes3 c10 k2)
          subst c10 k2
          clear c8 c9
          go_wp2
          go_ret
          exact Tells.yes HP.out HG.out
        · have HP : Hid (¬ badC k c) := fun h => by unfold badC at h; omega
          subst c10
          have k2' : (k == 2) = false := by simpa using k2
          clear c8 c9 k2
          go_wp2
          go_ret
          exact Tells.no HP.out HG.out
      · have HP : Hid (¬ badC k c) := fun h => by unfold badC at h; omega
        have c8' : (c == 8) = false := by simpa using c8
        have c9' : (c == 9) = false := by simpa using c9
        have c10' : (c == 10) = false := by simpa using c10
        clear c8 c9 c10
        go_wp2
        go_ret
        exact Tells.no HP.out HG.out
theorem ev_new (w : World) (x : Ev) (D : Option Addr) (dl dc : Nat) (A : Option Addr) (al ac : Nat) :
    Blk (w.alloc (.cells #[.int .i64 x.c, .int .i64 x.o.k, .int .i64 x.o.p, .int .i64 x.o.h, .int .i64 x.o.o, .int .i64 x.o.n, .slice D dl dc, .int .i64 x.r.c, .int .i64 x.r.p, .int .i64 x.r.h, .slice A al ac, .int .i64 x.b, .int .i64 x.s, .int .i64 x.e] 29)) w.heap.size 29 (evl x D dl dc A al ac)
    ∧ Grow w (w.alloc (.cells #[.int .i64 x.c, .int .i64 x.o.k, .int .i64 x.o.p, .int .i64 x.o.h, .int .i64 x.o.o, .int .i64 x.o.n, .slice D dl dc, .int .i64 x.r.c, .int .i64 x.r.p, .int .i64 x.r.h, .slice A al ac, .int .i64 x.b, .int .i64 x.s, .int .i64 x.e] 29)) :=
  ⟨Blk.new w _ _, (Kept.refl _ _).alloc _⟩
set_option maxHeartbeats 2000000 in
theorem inTime_any (x : Ev) (D : Option Addr) (dl dc : Nat) (A : Option Addr) (al ac : Nat) (w : World) : Calls Try.prog 74 #[.agg (evl x D dl dc A al ac).toArray] w (Tells (inT x) w) := by
  obtain ⟨hb, hg⟩ := ev_new w x D dl dc A al ac
  have HG := Lib.hid hg
  have s11 := hb.cell 11
  have s12 := hb.cell 12
  have s13 := hb.cell 13
  simp only [List.getElem?_cons_zero, List.getElem?_cons_succ] at s11 s12 s13
  unfold inT
  clear hb hg
  go_enter Try.func74, Try.ntmps74
  go_upto_region 1 with (fail)
  generalize w.alloc (.cells #[.int .i64 x.c, .int .i64 x.o.k, .int .i64 x.o.p, .int .i64 x.o.h, .int .i64 x.o.o, .int .i64 x.o.n, .slice D dl dc, .int .i64 x.r.c, .int .i64 x.r.p, .int .i64 x.r.h, .slice A al ac, .int .i64 x.b, .int .i64 x.s, .int .i64 x.e] 29) = w0 at *
  generalize w.heap.size = g at *
  generalize x.e = e at *
  generalize x.b = b at *
  generalize x.s = s at *
  by_cases e0 : 0 < e
  · by_cases b1 : b ≤ s
    · by_cases b2 : s ≤ e
      · have HP : Hid (inTn b s e) := by unfold Hid inTn; rw [if_pos e0]; exact ⟨b1, b2⟩
        go_wp2
        go_ret
        exact Tells.yes HP.out HG.out
      · have HP : Hid (¬ inTn b s e) := by unfold Hid inTn; rw [if_pos e0]; exact fun h => b2 h.2
        go_wp2
        go_ret
        exact Tells.no HP.out HG.out
    · have HP : Hid (¬ inTn b s e) := by unfold Hid inTn; rw [if_pos e0]; exact fun h => b1 h.1
      go_wp2
      go_ret
      exact Tells.no HP.out HG.out
  · by_cases e1 : e = 0
    · subst e1
      clear e0
      by_cases s0 : s = 0
      · subst s0
        have HP : Hid (inTn b 0 0) := by unfold Hid inTn; rw [if_neg (by omega)]; exact ⟨rfl, .inl rfl⟩
        go_wp2
        go_ret
        exact Tells.yes HP.out HG.out
      · have s0' : (s == 0) = false := by simpa using s0
        by_cases b1 : b ≤ s
        · have HP : Hid (inTn b s 0) := by unfold Hid inTn; rw [if_neg (by omega)]; exact ⟨rfl, .inr b1⟩
          clear s0
          go_wp2
          go_ret
          exact Tells.yes HP.out HG.out
        · have HP : Hid (¬ inTn b s 0) := by unfold Hid inTn; rw [if_neg (by omega)]; exact fun h => h.2.elim s0 b1
          clear s0
          go_wp2
          go_ret
          exact Tells.no HP.out HG.out
    · have e1' : (e == 0) = false := by simpa using e1
      have HP : Hid (¬ inTn b s e) := by unfold Hid inTn; rw [if_neg e0]; exact fun h => e1 h.1
      clear e1
      go_wp2
      go_ret
      exact Tells.no HP.out HG.out
set_option maxHeartbeats 2000000 in
theorem failed_any (hd : EvD w X x D dl dc A al ac) : Calls Try.prog 76 #[.agg (evl x D dl dc A al ac).toArray] w (Tells (badE x) w) := by
  obtain ⟨hb, hg⟩ := ev_new w x D dl dc A al ac
  have HG := Lib.hid hg
  have s1 := hb.cell 1
  have s2 := hb.cell 2
  have s3 := hb.cell 3
  have s4 := hb.cell 4
  have s5 := hb.cell 5
  have s6 := hb.cell 6
  have s7 := hb.cell 7
  have s8 := hb.cell 8
  have s9 := hb.cell 9
  have s10 := hb.cell 10
  simp only [List.getElem?_cons_zero, List.getElem?_cons_succ] at s1 s2 s3 s4 s5 s6 s7 s8 s9 s10
  have CS : Hid (∀ wx, Grow w wx → Calls Try.prog 75 #[.agg #[.int .i64 x.r.c, .int .i64 x.r.p, .int .i64 x.r.h, .slice A al ac], .agg #[.int .i64 x.r.c, .int .i64 0, .int .i64 0, .slice none 0 0]] wx (Tells (x.r.c = x.r.c ∧ x.r.p = 0 ∧ x.r.h = 0 ∧ x.r.d = []) wx)) :=
    fun wx hgx => sameRes_any (sl_grow hd.a hgx) (Sl.nil _ _ _ _) hd.ab (fun _ h => by cases h)
  have HE : Hid (badE x ↔ badC x.o.k x.r.c ∧ (x.r.c = x.r.c ∧ x.r.p = 0 ∧ x.r.h = 0 ∧ x.r.d = [])) := by
    unfold Hid badE
    constructor
    · rintro ⟨h1, h2, h3, h4⟩
      exact ⟨h1, rfl, h2, h3, h4⟩
    · rintro ⟨h1, _, h2, h3, h4⟩
      exact ⟨h1, h2, h3, h4⟩
  clear hb hg hd
  go_enter Try.func76, Try.ntmps76
  go_upto_region 1 with (fail)
  generalize w.alloc (.cells #[.int .i64 x.c, .int .i64 x.o.k, .int .i64 x.o.p, .int .i64 x.o.h, .int .i64 x.o.o, .int .i64 x.o.n, .slice D dl dc, .int .i64 x.r.c, .int .i64 x.r.p, .int .i64 x.r.h, .slice A al ac, .int .i64 x.b, .int .i64 x.s, .int .i64 x.e] 29) = w0 at *
  generalize w.heap.size = g at *
  have CB : Hid (∀ wx, Calls Try.prog 20 #[.agg #[.int .i64 x.o.k, .int .i64 x.o.p, .int .i64 x.o.h, .int .i64 x.o.o, .int .i64 x.o.n, .slice D dl dc], .int .i64 x.r.c] wx (Tells (badC x.o.k x.r.c) wx)) := fun wx => bad_any _ _ _ _ _ _ _ _ _ wx
  go_wp2_with (first
    | (go_at_call 20; (with_reducible refine (CB.out _).mono ?_); rintro e wb ⟨⟨b, rfl, hb⟩, hgb⟩; have HB := Lib.hid hb; have HGB := Lib.hid hgb; have s7' := hgb.cellN s7 id; have s8' := hgb.cellN s8 id; have s9' := hgb.cellN s9 id; have s10' := hgb.cellN s10 id; clear hb hgb)
    | (go_at_call 75; (with_reducible refine (CS.out _ (HG.out.trans HGB.out)).mono ?_); rintro e ws ⟨⟨b', rfl, hb⟩, hgb⟩; have HB' := Lib.hid hb; have HGS := Lib.hid hgb; clear hb hgb))
  · go_ret
    refine ⟨⟨b', rfl, ?_⟩, (HG.out.trans HGB.out).trans HGS.out⟩
    rw [HE.out, HB'.out]
    exact ⟨fun h => ⟨HB.out.1 (by assumption), h⟩, fun h => h.2⟩
  · go_ret
    refine Tells.no (fun h => ?_) (HG.out.trans HGB.out)
    have := HB.out.2 (HE.out.1 h).1
    simp_all
end
end Go.Proofs.Ytjdlpknflhgkfaa.HsB
