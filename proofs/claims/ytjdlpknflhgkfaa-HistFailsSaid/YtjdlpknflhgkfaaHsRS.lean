/-
  The document's step over one event ((lavaboref13.S).step).
-/
import Derived.Test.YtjdlpknflhgkfaaHsBadR
import Derived.Test.YtjdlpknflhgkfaaHsLook
import Derived.Test.YtjdlpknflhgkfaaMdRun
namespace Go.Proofs.Ytjdlpknflhgkfaa.HsRS
open Go.ChangeShapes Go.WideShapes Go.ChangeAt Go.RowKit
open Go.Proofs.Ytjdlpknflhgkfaa.Mem Go.Proofs.Ytjdlpknflhgkfaa.Blk Go.Proofs.Ytjdlpknflhgkfaa.Cells Go.Proofs.Ytjdlpknflhgkfaa.MdM Go.Proofs.Ytjdlpknflhgkfaa.MdC Go.Proofs.Ytjdlpknflhgkfaa.MdD Go.Proofs.Ytjdlpknflhgkfaa.MdH Go.Proofs.Ytjdlpknflhgkfaa.HsM Go.Proofs.Ytjdlpknflhgkfaa.HsE Go.Proofs.Ytjdlpknflhgkfaa.HsB Go.Proofs.Ytjdlpknflhgkfaa.HsC Go.Proofs.Ytjdlpknflhgkfaa.HsL Go.Proofs.Ytjdlpknflhgkfaa.PmC Go.Proofs.Ytjdlpknflhgkfaa.PmM Go.Proofs.Ytjdlpknflhgkfaa.Stages

/-- What step tells: whether the event is right; if so, the state is the one behind it. -/
def StepP (G : Nat → Prop) (v : Value) (a : Md) (x : Ev) (w : World) (e : Ending) (w' : World) : Prop :=
  ∃ b, e = .returned (.bool b) ∧ (b = false → evStep a x = none) ∧ (b = true → ∃ a', evStep a x = some a' ∧ SAt w' G v a') ∧ Kept G w w'
theorem s_box (w : World) (x y z : Value) : Blk (w.alloc (.cells #[x, y, z] 44)) w.heap.size 44 [x, y, z] ∧ Grow w (w.alloc (.cells #[x, y, z] 44)) := ⟨Blk.new w _ _, (Kept.refl _ _).alloc _⟩
theorem re_box (w : World) (x y z d : Value) : Blk (w.alloc (.cells #[x, y, z, d] 27)) w.heap.size 27 [x, y, z, d] ∧ Grow w (w.alloc (.cells #[x, y, z, d] 27)) := ⟨Blk.new w _ _, (Kept.refl _ _).alloc _⟩
theorem sat_form {w : World} {G : Nat → Prop} {v : Value} {a : Md} (h : SAt w G v a) : ∃ X1 n1 c1 X2 n2 c2 X3 n3 c3, v = .agg #[.slice X1 n1 c1, .slice X2 n2 c2, .slice X3 n3 c3] := by
  obtain ⟨gT, cT, gB, cB, gH, cH, q, cp, rfl, _⟩ := h.mem
  exact ⟨_, _, _, _, _, _, _, _, _, rfl⟩
section
variable {w w' : World} {X G : Nat → Prop} {x : Ev} {D A X1 X2 X3 : Option Addr} {dl dc al ac n1 n2 n3 c1 c2 c3 : Nat} {a : Md}
set_option maxHeartbeats 16000000 in
set_option maxRecDepth 100000 in
theorem step_any (hs : SAt w G (.agg #[.slice X1 n1 c1, .slice X2 n2 c2, .slice X3 n3 c3]) a) (hlt : ∀ k, G k → k < w.heap.size) (hd : EvD w X x D dl dc A al ac) (hX : ∀ k, k < w.heap.size → X k → ¬ G k) (he : 0 ≤ x.e) :
    Calls Try.prog 31 #[.agg #[.slice X1 n1 c1, .slice X2 n2 c2, .slice X3 n3 c3], .agg #[.int .i64 x.c, .int .i64 x.o.k, .int .i64 x.o.p, .int .i64 x.o.h, .int .i64 x.o.o, .int .i64 x.o.n, .slice D dl dc, .int .i64 x.r.c, .int .i64 x.r.p, .int .i64 x.r.h, .slice A al ac, .int .i64 x.b, .int .i64 x.s, .int .i64 x.e]] w (StepP G (.agg #[.slice X1 n1 c1, .slice X2 n2 c2, .slice X3 n3 c3]) a x w) := by
  obtain ⟨hb1, hg1⟩ := s_box w (.slice X1 n1 c1) (.slice X2 n2 c2) (.slice X3 n3 c3)
  have hz1 : (w.alloc (.cells #[.slice X1 n1 c1, .slice X2 n2 c2, .slice X3 n3 c3] 44)).heap.size = w.heap.size + 1 := by simp
  obtain ⟨hb2, hg2⟩ := ev_new (w.alloc (.cells #[.slice X1 n1 c1, .slice X2 n2 c2, .slice X3 n3 c3] 44)) x D dl dc A al ac
  rw [hz1] at hb2
  have HB1 := Lib.hid (hb1.grow hg2)
  have HB2 := Lib.hid hb2
  have HG0 := Lib.hid (hg1.trans hg2)
  clear hb1 hb2 hg1 hg2 hz1
  go_enter Try.func31, Try.ntmps31
  go_upto_region 1 with (fail)
  generalize (w.alloc (.cells #[.slice X1 n1 c1, .slice X2 n2 c2, .slice X3 n3 c3] 44)).alloc (.cells #[.int .i64 x.c, .int .i64 x.o.k, .int .i64 x.o.p, .int .i64 x.o.h, .int .i64 x.o.o, .int .i64 x.o.n, .slice D dl dc, .int .i64 x.r.c, .int .i64 x.r.p, .int .i64 x.r.h, .slice A al ac, .int .i64 x.b, .int .i64 x.s, .int .i64 x.e] 29) = w0 at *
  have HS0 := Lib.hid (hs.grow HG0.out)
  have HD0 := Lib.hid (hd.kept HG0.out fun _ _ _ => id)
  have HLT : Hid (∀ k, G k → k < w.heap.size) := hlt
  have HXG : Hid (∀ k, k < w.heap.size → X k → ¬ G k) := hX
  obtain ⟨g, hg⟩ : ∃ g, g = w.heap.size := ⟨_, rfl⟩
  rw [← hg] at HB1 HB2 ⊢
  have HGS := Lib.hid hg
  have HE0 := Lib.hid he
  clear hs hd hlt hX hg he
  have t0 := HB1.out.cell 0
  have t1 := HB1.out.cell 1
  have t2 := HB1.out.cell 2
  have s0 := HB2.out.cell 0
  have s1 := HB2.out.cell 1
  have s2 := HB2.out.cell 2
  have s3 := HB2.out.cell 3
  have s4 := HB2.out.cell 4
  have s5 := HB2.out.cell 5
  have s6 := HB2.out.cell 6
  have s7 := HB2.out.cell 7
  have s8 := HB2.out.cell 8
  have s9 := HB2.out.cell 9
  have s10 := HB2.out.cell 10
  have s13 := HB2.out.cell 13
  simp only [List.getElem?_cons_zero, List.getElem?_cons_succ] at t0 t1 t2 s0 s1 s2 s3 s4 s5 s6 s7 s8 s9 s10 s13
  have CB : Hid (∀ wx, Calls Try.prog 21 #[.agg #[.int .i64 x.o.k, .int .i64 x.o.p, .int .i64 x.o.h, .int .i64 x.o.o, .int .i64 x.o.n, .slice D dl dc], .int .i64 x.r.c] wx (Tells (badC x.o.k x.r.c) wx)) := fun wx => rbad_any _ _ _ _ _ _ _ _ _ wx
  by_cases h0 : ¬ 0 < x.e
  · have ee : x.e = 0 := by have := HE0.out; omega
    have HEE := Lib.hid ee
    obtain ⟨rc, rp, rh, rd, U, hr⟩ : ∃ rc rp rh rd U, a.run x.c x.o = (⟨rc, rp, rh, rd⟩, U) := ⟨_, _, _, _, _, rfl⟩
    have HR := Lib.hid hr
    have HDO : Hid (∀ wx, Grow w0 wx → Calls Try.prog 38 #[.agg #[.slice X1 n1 c1, .slice X2 n2 c2, .slice X3 n3 c3], .int .i64 x.c, .agg #[.int .i64 x.o.k, .int .i64 x.o.p, .int .i64 x.o.h, .int .i64 x.o.o, .int .i64 x.o.n, .slice D dl dc]] wx (DoPost G (.agg #[.slice X1 n1 c1, .slice X2 n2 c2, .slice X3 n3 c3]) wx (⟨rc, rp, rh, rd⟩, U))) := fun wx hx => by
      rw [← hr]
      exact rdo_any (HS0.out.grow hx) (fun k hk => Nat.lt_of_lt_of_le (HLT.out k hk) (HG0.out.trans hx).size) x.c (HD0.out.kept hx fun _ _ _ => id).op
    clear hr
    go_upto_region 3 with (fail)
    have HGB : Hid (Grow w0 w0) := Kept.refl _ _
    go_upto_region 4 with (go_at_call 38; (with_reducible refine (HDO.out _ HGB.out).mono ?_); rintro e wd ⟨⟨rv, rfl, ⟨A2, n2', cap2, rfl, hsl, hnew⟩⟩, hsa, hk⟩; have HSL := Lib.hid hsl; have HSA := Lib.hid hsa; have HKD := Lib.hid hk; clear hsl hnew hsa hk)
    obtain ⟨hrb, hrg⟩ := re_box wd (.int .i64 rc) (.int .i64 rp) (.int .i64 rh) (.slice A2 n2' cap2)
    generalize wd.alloc (.cells #[.int .i64 rc, .int .i64 rp, .int .i64 rh, .slice A2 n2' cap2] 27) = u at hrb hrg ⊢
    generalize wd.heap.size = q at hrb ⊢
    have HKU : Hid (Kept G w0 u) := ((Grow.kept HGB.out).trans HKD.out).trans (Grow.kept hrg)
    have HKW : Hid (Kept G w u) := (Grow.kept HG0.out).trans HKU.out
    have HSU := Lib.hid (HSA.out.grow hrg)
    have HSR := Lib.hid (sl_grow HSL.out hrg)
    have HBU := Lib.hid (HB2.out.kept HKU.out (fun h => by have := HLT.out _ h; have := HGS.out; omega))
    have HDU := Lib.hid (HD0.out.kept HKU.out fun k _ hx hg => HXG.out k (HLT.out k hg) hx hg)
    have HRB : Hid (Bytes rd) := by
      have hb := run_bytes HS0.out.good x.c x.o
      rw [HR.out] at hb
      exact hb
    have r0 := hrb.cell 0
    have r1 := hrb.cell 1
    have r2 := hrb.cell 2
    have r3 := hrb.cell 3
    clear t0 t1 t2 s0 s1 s2 s3 s4 s5 s6 hrb hrg s7 s8 s9 s10 s13
    have s7 := HBU.out.cell 7
    have s8 := HBU.out.cell 8
    have s9 := HBU.out.cell 9
    have s10 := HBU.out.cell 10
    have s13 := HBU.out.cell 13
    simp only [List.getElem?_cons_zero, List.getElem?_cons_succ] at r0 r1 r2 r3 s7 s8 s9 s10 s13
    rw [ee] at s13
    clear ee h0
    go_wp2
    go_ret
    refine ⟨true, rfl, fun h => (by cases h), fun _ => ⟨U, ?_, HSU.out⟩, HKW.out⟩
    have := step_yes (a := a) (x := x) (.inl HEE.out)
    rw [HR.out] at this
    exact this
  · have e0 : 0 < x.e := Classical.byContradiction h0
    clear h0
    by_cases hb : badC x.o.k x.r.c
    · have HB := Lib.hid hb
      clear hb
      go_upto_region 2 with (go_at_call 21; (with_reducible refine (CB.out _).mono ?_); rintro e wb ⟨⟨b, rfl, hbb⟩, hgb⟩; obtain rfl : b = true := hbb.2 HB.out; have HGB := Lib.hid hgb; have s8' := hgb.cellN s8 id; have s9' := hgb.cellN s9 id; have s10' := hgb.cellN s10 id; clear hbb hgb)
      clear t0 t1 t2 s0 s1 s2 s3 s4 s5 s6 s7 s8 s9 s10 s13
      have HAL : Hid (x.r.d.length = al) := HD0.out.a.len
      have HSB := Lib.hid (HS0.out.grow HGB.out)
      have HKB : Hid (Kept G w wb) := Grow.kept (HG0.out.trans HGB.out)
      have HEN : Hid (x.e ≠ 0) := by unfold Hid; omega
      have HNO : Hid (¬ (x.r.p = 0 ∧ x.r.h = 0 ∧ al = 0) → StepP G (.agg #[.slice X1 n1 c1, .slice X2 n2 c2, .slice X3 n3 c3]) a x w (.returned (.bool false)) wb) := fun h => by
        refine ⟨false, rfl, fun _ => step_no (fun h2 => ?_) (fun h2 => h ⟨h2.2.1, h2.2.2.1, ?_⟩), fun h => (by cases h), HKB.out⟩
        · exact h2.elim HEN.out (bad_run HB.out)
        · rw [← HAL.out, h2.2.2.2]; rfl
      by_cases p0 : x.r.p = 0
      · by_cases q0 : x.r.h = 0
        · by_cases a0 : al = 0
          · have HST : Hid (evStep a x = some a) := step_bad HEN.out ⟨HB.out, p0, q0, List.eq_nil_of_length_eq_zero (by rw [HAL.out]; exact a0)⟩
            rw [p0] at s8'
            rw [q0] at s9'
            subst a0
            clear p0 q0
            go_wp2
            go_ret
            exact ⟨true, rfl, fun h => (by cases h), fun _ => ⟨a, HST.out, HSB.out⟩, HKB.out⟩
          · have HN := Lib.hid (HNO.out (fun h => a0 h.2.2))
            have az : ((al : Int) == 0) = false := by rw [beq_eq_false_iff_ne]; omega
            rw [p0] at s8'
            rw [q0] at s9'
            clear p0 q0 a0
            go_wp2
            go_ret
            exact HN.out
        · have HN := Lib.hid (HNO.out (fun h => q0 h.2.1))
          have qz : (x.r.h == 0) = false := by simpa using q0
          rw [p0] at s8'
          clear p0 q0
          go_wp2
          go_ret
          exact HN.out
      · have HN := Lib.hid (HNO.out (fun h => p0 h.1))
        have pz : (x.r.p == 0) = false := by simpa using p0
        clear p0
        go_wp2
        go_ret
        exact HN.out
    · have HB := Lib.hid hb
      clear hb
      obtain ⟨rc, rp, rh, rd, U, hr⟩ : ∃ rc rp rh rd U, a.run x.c x.o = (⟨rc, rp, rh, rd⟩, U) := ⟨_, _, _, _, _, rfl⟩
      have HR := Lib.hid hr
      have HDO : Hid (∀ wx, Grow w0 wx → Calls Try.prog 38 #[.agg #[.slice X1 n1 c1, .slice X2 n2 c2, .slice X3 n3 c3], .int .i64 x.c, .agg #[.int .i64 x.o.k, .int .i64 x.o.p, .int .i64 x.o.h, .int .i64 x.o.o, .int .i64 x.o.n, .slice D dl dc]] wx (DoPost G (.agg #[.slice X1 n1 c1, .slice X2 n2 c2, .slice X3 n3 c3]) wx (⟨rc, rp, rh, rd⟩, U))) := fun wx hx => by
        rw [← hr]
        exact rdo_any (HS0.out.grow hx) (fun k hk => Nat.lt_of_lt_of_le (HLT.out k hk) (HG0.out.trans hx).size) x.c (HD0.out.kept hx fun _ _ _ => id).op
      clear hr
      go_upto_region 3 with (go_at_call 21; (with_reducible refine (CB.out _).mono ?_); rintro e wb ⟨⟨b, rfl, hbb⟩, hgb⟩; obtain rfl : b = false := (Bool.eq_false_iff.2 fun h => HB.out (hbb.1 h)); have HGB := Lib.hid hgb; clear hbb hgb)
      have HB1' := Lib.hid (HB1.out.grow HGB.out)
      have HB2' := Lib.hid (HB2.out.grow HGB.out)
      clear t0 t1 t2 s0 s1 s2 s3 s4 s5 s6 s7 s8 s9 s10 s13
      have t0 := HB1'.out.cell 0
      have t1 := HB1'.out.cell 1
      have t2 := HB1'.out.cell 2
      have s0 := HB2'.out.cell 0
      have s1 := HB2'.out.cell 1
      have s2 := HB2'.out.cell 2
      have s3 := HB2'.out.cell 3
      have s4 := HB2'.out.cell 4
      have s5 := HB2'.out.cell 5
      have s6 := HB2'.out.cell 6
      simp only [List.getElem?_cons_zero, List.getElem?_cons_succ] at t0 t1 t2 s0 s1 s2 s3 s4 s5 s6
      go_upto_region 4 with (go_at_call 38; (with_reducible refine (HDO.out _ HGB.out).mono ?_); rintro e wd ⟨⟨rv, rfl, ⟨A2, n2', cap2, rfl, hsl, hnew⟩⟩, hsa, hk⟩; have HSL := Lib.hid hsl; have HSA := Lib.hid hsa; have HKD := Lib.hid hk; clear hsl hnew hsa hk)
      obtain ⟨hrb, hrg⟩ := re_box wd (.int .i64 rc) (.int .i64 rp) (.int .i64 rh) (.slice A2 n2' cap2)
      generalize wd.alloc (.cells #[.int .i64 rc, .int .i64 rp, .int .i64 rh, .slice A2 n2' cap2] 27) = u at hrb hrg ⊢
      generalize wd.heap.size = q at hrb ⊢
      have HKU : Hid (Kept G w0 u) := ((Grow.kept HGB.out).trans HKD.out).trans (Grow.kept hrg)
      have HKW : Hid (Kept G w u) := (Grow.kept HG0.out).trans HKU.out
      have HSU := Lib.hid (HSA.out.grow hrg)
      have HSR := Lib.hid (sl_grow HSL.out hrg)
      have HBU := Lib.hid (HB2.out.kept HKU.out (fun h => by have := HLT.out _ h; have := HGS.out; omega))
      have HDU := Lib.hid (HD0.out.kept HKU.out fun k _ hx hg => HXG.out k (HLT.out k hg) hx hg)
      have HRB : Hid (Bytes rd) := by
        have hb := run_bytes HS0.out.good x.c x.o
        rw [HR.out] at hb
        exact hb
      have r0 := hrb.cell 0
      have r1 := hrb.cell 1
      have r2 := hrb.cell 2
      have r3 := hrb.cell 3
      clear t0 t1 t2 s0 s1 s2 s3 s4 s5 s6 hrb hrg
      have s7 := HBU.out.cell 7
      have s8 := HBU.out.cell 8
      have s9 := HBU.out.cell 9
      have s10 := HBU.out.cell 10
      have s13 := HBU.out.cell 13
      simp only [List.getElem?_cons_zero, List.getElem?_cons_succ] at r0 r1 r2 r3 s7 s8 s9 s10 s13
      have HEN : Hid (x.e ≠ 0) := by unfold Hid; omega
      have ez : (x.e == 0) = false := by rw [beq_eq_false_iff_ne]; omega
      have CS := Lib.hid (rsame_any (c := rc) (p := rp) (h := rh) (c' := x.r.c) (p' := x.r.p) (h' := x.r.h) (m := cap2) (m' := ac) HSR.out HDU.out.a HRB.out HDU.out.ab)
      have HSAME : Hid ((rc = x.r.c ∧ rp = x.r.p ∧ rh = x.r.h ∧ rd = x.r.d) ↔ x.r = (a.run x.c x.o).1) := by
        rw [HR.out]
        constructor
        · rintro ⟨h1, h2, h3, h4⟩
          show x.r = ⟨rc, rp, rh, rd⟩
          rw [h1, h2, h3, h4]
        · intro h
          rw [show x.r = ⟨rc, rp, rh, rd⟩ from h]
          exact ⟨rfl, rfl, rfl, rfl⟩
      clear e0
      go_wp2_with (go_at_call 52; (with_reducible refine CS.out.mono ?_); rintro e us ⟨⟨bs, rfl, hbs⟩, hgs⟩; have HBS := Lib.hid hbs; have HGS2 := Lib.hid hgs; clear hbs hgs)
      go_ret
      refine ⟨bs, rfl, fun h => step_no (fun h2 => h2.elim HEN.out fun h3 => ?_) (fun h2 => HB.out h2.1), fun h => ⟨U, ?_, HSU.out.grow HGS2.out⟩, HKW.out.trans (Grow.kept HGS2.out)⟩
      · rw [HBS.out.2 (HSAME.out.2 h3)] at h; cases h
      · have := step_yes (a := a) (.inr (HSAME.out.1 (HBS.out.1 h))); rw [HR.out] at this; exact this
end
#print axioms step_any
end Go.Proofs.Ytjdlpknflhgkfaa.HsRS
