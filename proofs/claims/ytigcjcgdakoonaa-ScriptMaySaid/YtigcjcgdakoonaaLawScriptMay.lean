/-
  For every input the call of lavabolaw15.ScriptMay returns true and leaves its arguments as they were; no condition.
-/
import Derived.Test.YtigcjcgdakoonaaTold15
import Derived.Test.YtigcjcgdakoonaaScIn
import Derived.Test.YtigcjcgdakoonaaRows
import Derived.WalkKit
import Derived.ProofKit
import Derived.OpenShut
import Derived.ShutString
import Derived.ChangeOld
import Derived.Below
namespace Go.Proofs.Ytigcjcgdakoonaa.scriptMay
open Go.ChangeShapes Go.WideShapes Go.ChangeAt Go.RowKit
open Go.ChangeMaps (open_string shut_string)
open Go.Proofs.Ytigcjcgdakoonaa.Mem Go.Proofs.Ytigcjcgdakoonaa.Blk Go.Proofs.Ytigcjcgdakoonaa.Cells Go.Proofs.Ytigcjcgdakoonaa.MdM Go.Proofs.Ytigcjcgdakoonaa.ScM Go.Proofs.Ytigcjcgdakoonaa.ScC Go.Proofs.Ytigcjcgdakoonaa.ScR Go.Proofs.Ytigcjcgdakoonaa.ScA Go.Proofs.Ytigcjcgdakoonaa.ScI Go.Proofs.Ytigcjcgdakoonaa.Told15 Go.Proofs.Ytigcjcgdakoonaa.Stages
set_option linter.unusedVariables false

theorem own : ownKnob Try.prog.godebug = none := by kernel_rfl
theorem laidOut : laidOutB Try.prog = true := by kernel_rfl

/-- What a call that bytes make can be. -/
def OkO (c : Cf) (o : MdOp) : Prop := (1 ≤ o.k ∧ o.k ≤ 8) ∧ (0 ≤ o.p ∧ o.p ≤ c.p) ∧ (0 ≤ o.h ∧ o.h ≤ 6) ∧ o.o ≤ 15 ∧ o.n ≤ 15
/-- What a step of bytes can be. -/
def OkS (c : Cf) (s : Stp) : Prop :=
  (s.k = 1 ∧ (0 ≤ s.c ∧ s.c < c.c) ∧ OkO c s.o) ∨ (s.k = 2 ∧ 0 ≤ s.n ∧ s.n ≤ 65535) ∨ (s.k = 3 ∧ 0 ≤ s.n ∧ s.n ≤ 15) ∨ (s.k = 5 ∧ c.s ≤ s.n ∧ s.n ≤ 32) ∨ (s.k = 6 ∧ (0 ≤ s.n ∧ s.n < 16) ∧ 0 ≤ s.t ∧ s.t < c.s) ∨ (s.k = 4 ∧ s.b.length = 2)
theorem op_ok {c : Cf} (h : c.may) {a b d : Int} (ha : 0 ≤ a ∧ a < 256) (hb : 0 ≤ b ∧ b < 256) (hd : 0 ≤ d ∧ d < 256) : OkO c (opM c a b d) := by
  unfold Cf.may at h
  have hp0 : 0 ≤ b % (c.p + 1) := Int.emod_nonneg _ (by omega)
  have hp1 : b % (c.p + 1) < c.p + 1 := Int.emod_lt_of_pos _ (by omega)
  unfold opM OkO
  split
  · dsimp only; omega
  · split
    · dsimp only; omega
    · split
      · dsimp only; omega
      · split
        · dsimp only; omega
        · dsimp only; omega
theorem step_ok {c : Cf} (h : c.may) {k x y z : Int} (hk : 0 ≤ k ∧ k < 256) (hx : 0 ≤ x ∧ x < 256) (hy : 0 ≤ y ∧ y < 256) (hz : 0 ≤ z ∧ z < 256) : OkS c (stepM c k x y z) := by
  have ho := op_ok h (a := k / 8) (by omega) hy hz
  unfold Cf.may at h
  have h1 : 0 ≤ x % c.c := Int.emod_nonneg _ (by omega)
  have h2 : x % c.c < c.c := Int.emod_lt_of_pos _ (by omega)
  have h3 : 0 ≤ z % (32 - c.s + 1) := Int.emod_nonneg _ (by omega)
  have h4 : z % (32 - c.s + 1) < 32 - c.s + 1 := Int.emod_lt_of_pos _ (by omega)
  have h5 : 0 ≤ y % c.s := Int.emod_nonneg _ (by omega)
  have h6 : y % c.s < c.s := Int.emod_lt_of_pos _ (by omega)
  unfold stepM OkS
  split
  · exact .inl ⟨rfl, ⟨h1, h2⟩, ho⟩
  · split
    · exact .inr (.inl ⟨rfl, by dsimp only; omega, by dsimp only; omega⟩)
    · split
      · split
        · exact .inr (.inr (.inl ⟨rfl, by dsimp only; omega, by dsimp only; omega⟩))
        · exact .inr (.inr (.inr (.inl ⟨rfl, by dsimp only; omega, by dsimp only; omega⟩)))
      · split
        · exact .inr (.inr (.inr (.inr (.inr ⟨rfl, rfl⟩))))
        · exact .inr (.inr (.inr (.inr (.inl ⟨rfl, ⟨by dsimp only; omega, by dsimp only; omega⟩, h5, h6⟩))))
set_option maxHeartbeats 8000000 in
set_option maxRecDepth 100000 in
theorem walk (a0 : Option Addr) (len0 cap0 : Nat) (a1 : Value) (w : World) (w0 : BytesAt w a0 len0 cap0) (w1 : ConfArg w a1) :
    Calls Try.prog 4 #[.slice a0 len0 cap0, a1] w fun e w' => e = .returned (.bool true) ∧ Below w.heap.size w w' := by
  obtain ⟨zs, hs, hz, hlc, hcm⟩ := w0
  obtain ⟨c, rfl⟩ := w1
  have CT : Hid (∀ wx, Calls Try.prog 7 #[] wx fun e w' => e = .returned (.bool true) ∧ Grow wx w') := told_any
  have CM : Hid (∀ wx, Calls Try.prog 14 #[cfv c] wx (Tells c.may wx)) := fun wx => rmay_any c wx
  have HS := Lib.hid hs
  have HZ := Lib.hid hz
  have HLC := Lib.hid hlc
  unfold maxLen at hcm
  clear hs hz
  by_cases h300 : (300 : Int) < (len0 : Int)
  · clear CM
    go_enter Try.func4, Try.ntmps4
    go_wp2_with (go_at_call 7; (with_reducible refine (CT.out _).mono ?_); rintro e wt ⟨rfl, hgt⟩; have HGT := Lib.hid hgt; clear hgt)
    go_ret
    exact ⟨rfl, Grow.below (((Kept.refl _ _).alloc _).trans HGT.out)⟩
  have HN3 : Hid (len0 ≤ 300) := by show len0 ≤ 300; omega
  by_cases hm : c.may
  · have HM := Lib.hid hm
    have HST : Hid (stepsN c len0 = len0 / 4) := by unfold Hid stepsN; rw [if_pos hm]
    clear hm
    obtain ⟨cp, cf, cs, cc⟩ := c
    unfold cfv at CM ⊢
    dsimp only at CM ⊢
    go_enter Try.func4, Try.ntmps4
    go_upto_region 1 with (fail)
    obtain ⟨v, hv, hb, hg0⟩ := conf_new w cp cf cs cc
    have HB := Lib.hid hb
    have HG0 := Lib.hid hg0
    have c0 := hb.cell 0
    have c1 := hb.cell 1
    have c2 := hb.cell 2
    have c3 := hb.cell 3
    simp only [List.getElem?_cons_zero, List.getElem?_cons_succ] at c0 c1 c2 c3
    rw [hv]
    clear hv hb hg0
    have CA : Hid (∀ wx, Grow v wx → Calls Try.prog 8 #[.slice a0 len0 cap0, .agg #[.int .i64 cp, .int .i64 cf, .int .i64 cs, .int .i64 cc]] wx (StepsP (stepsN ⟨cp, cf, cs, cc⟩ len0) (stepAt ⟨cp, cf, cs, cc⟩ zs) wx)) := fun wx hg => all_any (c := ⟨cp, cf, cs, cc⟩) ((Sl.kept HS.out (HG0.out.trans hg) (Nat.le_refl _) fun _ _ => id).more (HG0.out.trans hg).size) HZ.out (by have := HN3.out; omega) HLC.out
    go_upto_region 4 with (first
      | (go_at_call 14; (with_reducible refine (CM.out _).mono ?_); rintro e wm ⟨⟨bm, rfl, hbm⟩, hgm⟩; obtain rfl := hbm.2 HM.out; have HGM := Lib.hid hgm; replace c0 := hgm.cellN c0 id; replace c1 := hgm.cellN c1 id; replace c2 := hgm.cellN c2 id; replace c3 := hgm.cellN c3 id; clear hbm hgm)
      | (go_at_call 8; (with_reducible refine (CA.out _ HGM.out).mono ?_); rintro e w1 ⟨v1, Q1, rfl, hsv1, hg1⟩; obtain ⟨A1, e1, rfl⟩ := hsv1.slice; have HV1 := Lib.hid (hsv1.at_ rfl); have HG1 := Lib.hid hg1; clear hsv1 hg1))
    clear c0 c1 c2 c3
    have hok : ∀ j, OkS ⟨cp, cf, cs, cc⟩ (stepAt ⟨cp, cf, cs, cc⟩ zs j) := fun j => step_ok HM.out (byte_at HZ.out _) (byte_at HZ.out _) (byte_at HZ.out _) (byte_at HZ.out _)
    have HW1 : Hid (Grow w w1) := (HG0.out.trans HGM.out).trans HG1.out
    have HB1 := Lib.hid ((HB.out.grow HGM.out).grow HG1.out)
    obtain ⟨p1, o1, h1, hs1⟩ := HV1.out.form
    rw [HST.out] at *
    have hN : len0 / 4 ≤ 75 := by have := HN3.out; omega
    have hNq : ((len0 / 4 : Nat) : Int) = (len0 : Int) / 4 := by omega
    generalize len0 / 4 = N at *
    generalize stepAt ⟨cp, cf, cs, cc⟩ zs = L at *
    have HOK := Lib.hid hok
    have H1 := Lib.hid h1
    have HS1 := Lib.hid hs1
    have HNQ := Lib.hid hNq
    have hNz : (N : Int) ≤ 75 := by omega
    clear h1 hs1 hok hN hNq HV1 HG0 HG1 HGM HB CA CM HS HZ HLC HN3 HST HM
    go_wp2
    go_loopg [6] N (fun gx i wr => ∃ j : Nat, j + gx = N ∧ i = .int .i64 (j : Int) ∧ Grow w1 wr)
    case atStart => exact ⟨0, by omega, rfl, Kept.refl _ _⟩
    case round =>
      obtain ⟨j, hg, rfl, hgr⟩ := hrel
      have HG := Lib.hid hg
      have HGR := Lib.hid hgr
      clear hg hgr
      by_cases hj : j < N
      · have HJ := Lib.hid hj
        have hjz : (j : Int) < (N : Int) := by omega
        obtain rfl := H1.out (by omega)
        obtain ⟨d1, hc1, hd1⟩ := (HS1.out j hj).grow HGR.out
        have hfew : (d1.dl : Int) ≤ 15 := by have := hd1.data.few; omega
        have hbl : d1.al = (L j).b.length := hd1.bits.sl.len.symm
        have hok := HOK.out j
        unfold OkS OkO at hok
        generalize L j = s at hc1 hbl hok
        obtain ⟨sk, sc, sn, st, ⟨ok, op, oh, oo, on, od⟩, sb⟩ := s
        obtain ⟨D, dl, dc, A, al, ac⟩ := d1
        dsimp only at hok hfew hbl
        subst hbl
        have y0 := hc1 0 _ rfl
        rw [Nat.add_zero] at y0
        have y1 := hc1 1 _ rfl
        have y2 := hc1 2 _ rfl
        have y3 := hc1 3 _ rfl
        have y4 := hc1 4 _ rfl
        have y5 := hc1 5 _ rfl
        have y6 := hc1 6 _ rfl
        have y7 := hc1 7 _ rfl
        have y8 := hc1 8 _ rfl
        have y9 := hc1 9 _ rfl
        have y10 := hc1 10 _ rfl
        dsimp only at y0 y1 y2 y3 y4 y5 y6 y7 y8 y9 y10
        have hbr := HB1.out.grow HGR.out
        have c0 := hbr.cell 0
        have c2 := hbr.cell 2
        have c3 := hbr.cell 3
        simp only [List.getElem?_cons_zero, List.getElem?_cons_succ] at c0 c2 c3
        clear hc1 hd1 hj hbr
        go_upto_region 8 with (fail)
        have hbx := Blk.new wr 33 [.int .i64 sk, .int .i64 sc, .int .i64 sn, .int .i64 st, .int .i64 ok, .int .i64 op, .int .i64 oh, .int .i64 oo, .int .i64 on, .slice D dl dc, .slice A sb.length ac]
        have hga : Grow wr (wr.alloc (.cells #[.int .i64 sk, .int .i64 sc, .int .i64 sn, .int .i64 st, .int .i64 ok, .int .i64 op, .int .i64 oh, .int .i64 oo, .int .i64 on, .slice D dl dc, .slice A sb.length ac] 33)) := (Kept.refl _ _).alloc _
        generalize wr.alloc (.cells #[.int .i64 sk, .int .i64 sc, .int .i64 sn, .int .i64 st, .int .i64 ok, .int .i64 op, .int .i64 oh, .int .i64 oo, .int .i64 on, .slice D dl dc, .slice A sb.length ac] 33) = wb at hbx hga ⊢
        generalize wr.heap.size = q at hbx ⊢
        have x0 := hbx.cell 0
        have x1 := hbx.cell 1
        have x2 := hbx.cell 2
        have x3 := hbx.cell 3
        have x4 := hbx.cell 4
        have x5 := hbx.cell 5
        have x6 := hbx.cell 6
        have x7 := hbx.cell 7
        have x8 := hbx.cell 8
        have x9 := hbx.cell 9
        have x10 := hbx.cell 10
        simp only [List.getElem?_cons_zero, List.getElem?_cons_succ] at x0 x1 x2 x3 x4 x5 x6 x7 x8 x9 x10
        replace c0 := hga.cellN c0 id
        replace c2 := hga.cellN c2 id
        replace c3 := hga.cellN c3 id
        have HGA := Lib.hid (HGR.out.trans hga)
        clear hbx hga y0 y1 y2 y3 y4 y5 y6 y7 y8 y9 y10
        rcases hok with ⟨rfl, ⟨h1, h2⟩, ⟨h3, h4⟩, ⟨h5, h6⟩, ⟨h7, h8⟩, h9, h10⟩ | ⟨rfl, h1, h2⟩ | ⟨rfl, h1, h2⟩ | ⟨rfl, h1, h2⟩ | ⟨rfl, ⟨h1, h2⟩, h3, h4⟩ | ⟨rfl, h1⟩
        · go_upto_region 11 with (fail)
          simp only [List.append]
          go_wp2
          go_roundg (gk - 1)
          case measure => have := HG.out; have := HJ.out; omega
          case rel => exact ⟨j + 1, by have := HG.out; have := HJ.out; omega, by go_num, HGA.out⟩
        · go_wp2
          go_roundg (gk - 1)
          case measure => have := HG.out; have := HJ.out; omega
          case rel => exact ⟨j + 1, by have := HG.out; have := HJ.out; omega, by go_num, HGA.out⟩
        · go_wp2
          go_roundg (gk - 1)
          case measure => have := HG.out; have := HJ.out; omega
          case rel => exact ⟨j + 1, by have := HG.out; have := HJ.out; omega, by go_num, HGA.out⟩
        · go_wp2
          go_roundg (gk - 1)
          case measure => have := HG.out; have := HJ.out; omega
          case rel => exact ⟨j + 1, by have := HG.out; have := HJ.out; omega, by go_num, HGA.out⟩
        · go_wp2
          go_roundg (gk - 1)
          case measure => have := HG.out; have := HJ.out; omega
          case rel => exact ⟨j + 1, by have := HG.out; have := HJ.out; omega, by go_num, HGA.out⟩
        · have h1z : (sb.length : Int) = 2 := by omega
          have h1b : ((sb.length : Int) != 2) = false := by rw [h1z]; rfl
          clear h1 h1z
          go_wp2
          go_roundg (gk - 1)
          case measure => have := HG.out; have := HJ.out; omega
          case rel => exact ⟨j + 1, by have := HG.out; have := HJ.out; omega, by go_num, HGA.out⟩
      · obtain rfl : j = N := by have := HG.out; omega
        have hq : ((j : Int) == (len0 : Int) / 4) = true := by rw [HNQ.out]; exact beq_self_eq_true _
        clear HS1 H1 HNQ
        go_wp2_with (go_at_call 7; (with_reducible refine (CT.out _).mono ?_); rintro e wt ⟨rfl, hgt⟩; have HGT := Lib.hid hgt; clear hgt)
        go_ret
        exact ⟨rfl, Grow.below ((HW1.out.trans HGR.out).trans HGT.out)⟩
  · have HM := Lib.hid hm
    clear hm
    obtain ⟨cp, cf, cs, cc⟩ := c
    unfold cfv at CM ⊢
    dsimp only at CM ⊢
    go_enter Try.func4, Try.ntmps4
    go_upto_region 1 with (fail)
    obtain ⟨v, hv, hb, hg0⟩ := conf_new w cp cf cs cc
    have HG0 := Lib.hid hg0
    have c0 := hb.cell 0
    have c1 := hb.cell 1
    have c2 := hb.cell 2
    have c3 := hb.cell 3
    simp only [List.getElem?_cons_zero, List.getElem?_cons_succ] at c0 c1 c2 c3
    rw [hv]
    clear hv hb hg0
    go_wp2_with (first
      | (go_at_call 14; (with_reducible refine (CM.out _).mono ?_); rintro e wm ⟨⟨bm, rfl, hbm⟩, hgm⟩; obtain rfl : bm = false := (by cases bm with | false => rfl | true => exact absurd (hbm.1 rfl) HM.out); have HGM := Lib.hid hgm; clear hbm hgm)
      | (go_at_call 7; (with_reducible refine (CT.out _).mono ?_); rintro e wt ⟨rfl, hgt⟩; have HGT := Lib.hid hgt; clear hgt))
    go_ret
    exact ⟨rfl, Grow.below ((HG0.out.trans HGM.out).trans HGT.out)⟩

set_option maxRecDepth 100000 in
theorem lifted (os : Os) (started : os.Started) (H : Type) (enc : TypeId × Value → H) :
    ReturnsInHanded {} Try.checked os 4 .any (Rows.scriptMaySpec.pre6 enc Try.prog Try.f4 Rows.scriptMayRow.domain false) (Rows.scriptMaySpec.post enc Try.prog Try.f4 false true false false) := by
  refine returnsInHanded_of_change (C := Try.checked) own started (by kernel_rfl) Try.func4
    (ChangeSpec.witness6 (enc := enc) (C := Try.checked) false ⟨#[], #[.slice none 0 0, .agg #[.int .i64 0, .int .i64 0, .int .i64 0, .int .i64 0]], []⟩ 8 (by kernel_rfl) (by kernel_rfl) (by kernel_rfl) (by kernel_rfl)) ?_
  intro W base args ds gs before hval0 hW hcnd _
  have hval : ∀ (j : Nat) t v, Try.f4.params[j]? = some t → args[j]? = some v → Value.okWide Try.prog W .any base t v := hval0
  have hW' := hW
  obtain ⟨p, q, hA0, hV, rfl, hfz, hnd⟩ := hW
  have hA : DataW.TrodAll enc Try.prog W 0 (fun _ => true) true Try.f4.params.toList args.toList ds p := hA0
  rw [Try.params4] at hA hval
  obtain ⟨v0, vs0, d0, ds0, p0, q0, hargs, rfl, rfl, h0, r0⟩ := trodAll_cons hA
  obtain ⟨v1, vs1, d1, ds1, p1, q1, rfl, rfl, rfl, h1, r1⟩ := trodAll_cons r0
  obtain ⟨rfl, rfl, rfl⟩ := trodAll_nil r1
  obtain rfl : args = #[v0, v1] := by cases args; simp_all
  obtain ⟨rfl, rfl⟩ := trodVars_none hV
  obtain ⟨a0, len0, cap0, rfl⟩ := okWide_slice Try.underlying22 (hval 0 22 v0 rfl rfl)
  have k0 := h0
  have lt0 : ∀ x ∈ p0, x.block < W.heap.size := by obtain ⟨m, hm⟩ := k0; exact DataW.trod_lt m _ _ _ hm
  have w0 : BytesAt W a0 len0 cap0 := by obtain ⟨fuel, hf⟩ := h0; exact bytes_open hf
  obtain ⟨cs1, rfl, hcs1⟩ := okWide_struct Try.underlying24 (hval 1 24 v1 rfl rfl)
  have k1 := h1
  have lt1 : ∀ x ∈ p1, x.block < W.heap.size := by obtain ⟨m, hm⟩ := k1; exact DataW.trod_lt m _ _ _ hm
  have w1 : ConfArg W (.agg cs1) := by
    obtain ⟨fuel, hf⟩ := h1
    have e : Try.prog.cellsOf 24 = 4 := by kernel_rfl
    exact conf_open (cs := cs1.toList) (by rw [Array.length_toList, hcs1, e]) hf
  clear hA0 hval0
  refine (walk a0 len0 cap0 (.agg cs1) W w0 w1).mono fun e W' ⟨he, bel⟩ => ?_
  subst he
  exact ⟨_, rfl, _, _, _, [], _, [], hW', trodAll_mk1 (shut_bool Try.underlying4 _), (trodAll_cons_mk (Below.trod laidOut (by kernel_rfl) (of_decide_eq_true (by kernel_rfl)) k0 bel lt0) (trodAll_cons_mk (Below.trod laidOut (by kernel_rfl) (of_decide_eq_true (by kernel_rfl)) k1 bel lt1) trodAll_mk0)), rfl, bel.frame _, fun h => by cases h⟩

theorem over : Rows.scriptMayRow.holds Try.pinned (OpenSpec.ofChange Rows.scriptMaySpec) :=
  OpenClaim.holds_of_wide 4 Try.f4 rfl rfl rfl rfl rfl rfl rfl ⟨rfl, rfl, rfl, rfl, rfl⟩ rfl rfl rfl rfl rfl (by kernel_rfl) Try.func4 (by kernel_rfl)
    (of_decide_eq_true (by kernel_rfl)) (by unfold Func.isWrapper; first | (rw [if_pos (by decide +kernel)]; kernel_rfl) | (rw [if_neg (by decide +kernel)]; exact ⟨rfl, rfl⟩))
    (fun os started H enc _ => lifted os started H enc)

/-- ████ THE STATEMENT ████ -/
theorem proved : Rows.ScriptMaySaid := over
#print axioms proved
end Go.Proofs.Ytigcjcgdakoonaa.scriptMay
