/-
  For every input the call of lavabolaw15.ScriptAsks returns true and leaves its arguments as they were; no condition.
-/
import Derived.Test.YtigcjcgdakoonaaTold15
import Derived.Test.YtigcjcgdakoonaaScIn
import Derived.Test.YtigcjcgdakoonaaScOpQ
import Derived.Test.YtigcjcgdakoonaaScRef
import Derived.Test.YtigcjcgdakoonaaScSame
import Derived.Test.YtigcjcgdakoonaaRows
import Derived.WalkKit
import Derived.ProofKit
import Derived.OpenShut
import Derived.ShutString
import Derived.ChangeOld
import Derived.Below
namespace Go.Proofs.Ytigcjcgdakoonaa.scriptAsks
open Go.ChangeShapes Go.WideShapes Go.ChangeAt Go.RowKit
open Go.ChangeMaps (open_string shut_string)
open Go.Proofs.Ytigcjcgdakoonaa.Mem Go.Proofs.Ytigcjcgdakoonaa.Blk Go.Proofs.Ytigcjcgdakoonaa.Cells Go.Proofs.Ytigcjcgdakoonaa.Txt Go.Proofs.Ytigcjcgdakoonaa.MdM Go.Proofs.Ytigcjcgdakoonaa.ScM Go.Proofs.Ytigcjcgdakoonaa.ScC Go.Proofs.Ytigcjcgdakoonaa.ScO Go.Proofs.Ytigcjcgdakoonaa.ScQ Go.Proofs.Ytigcjcgdakoonaa.ScR Go.Proofs.Ytigcjcgdakoonaa.ScA Go.Proofs.Ytigcjcgdakoonaa.ScF Go.Proofs.Ytigcjcgdakoonaa.ScE Go.Proofs.Ytigcjcgdakoonaa.ScI Go.Proofs.Ytigcjcgdakoonaa.Told15 Go.Proofs.Ytigcjcgdakoonaa.Stages
set_option linter.unusedVariables false

theorem own : ownKnob Try.prog.godebug = none := by kernel_rfl
theorem laidOut : laidOutB Try.prog = true := by kernel_rfl

theorem byt_of {w : World} {B n : Nat} {A : Option Addr} {zs : List Int} (h : Dat w B A n zs) : Byt w (fun _ => True) A n zs := Byt.of h fun _ _ _ => trivial
theorem steps_le (c : Cf) {n : Nat} (h : n ≤ 300) : stepsN c n ≤ 75 := by
  unfold stepsN
  split <;> omega
set_option maxHeartbeats 8000000 in
set_option maxRecDepth 100000 in
theorem walk (a0 : Option Addr) (len0 cap0 : Nat) (a1 : Value) (a2 : Int) (a3 : Int) (a4 : Int) (w : World) (w0 : BytesAt w a0 len0 cap0) (w1 : ConfArg w a1) (w2 : (Lit.int .u8 a2).wf = true) (w3 : (Lit.int .u8 a3).wf = true) (w4 : (Lit.int .u8 a4).wf = true) :
    Calls Try.prog 3 #[.slice a0 len0 cap0, a1, .int .u8 a2, .int .u8 a3, .int .u8 a4] w fun e w' => e = .returned (.bool true) ∧ Below w.heap.size w w' := by
  obtain ⟨zs, hs, hz, hlc, hcm⟩ := w0
  obtain ⟨c, rfl⟩ := w1
  have k2 := bounds_u8 w2
  have k3 := bounds_u8 w3
  have k4 := bounds_u8 w4
  have CT : Hid (∀ wx, Calls Try.prog 7 #[] wx fun e w' => e = .returned (.bool true) ∧ Grow wx w') := told_any
  have HS := Lib.hid hs
  have HZ := Lib.hid hz
  have HLC := Lib.hid hlc
  unfold maxLen at hcm
  by_cases h300 : (300 : Int) < (len0 : Int)
  · clear hs hz
    go_enter Try.func3, Try.ntmps3
    go_wp2_with (go_at_call 7; (with_reducible refine (CT.out _).mono ?_); rintro e wt ⟨rfl, hgt⟩; have HGT := Lib.hid hgt; clear hgt)
    go_ret
    exact ⟨rfl, Grow.below (((Kept.refl _ _).alloc _).trans HGT.out)⟩
  have hn3 : len0 ≤ 300 := by omega
  have HN3 := Lib.hid hn3
  clear hs hz
  obtain ⟨cp, cf, cs, cc⟩ := c
  unfold cfv
  dsimp only
  go_enter Try.func3, Try.ntmps3
  go_upto_region 3 with (fail)
  obtain ⟨v, hv, hb, hg0⟩ := conf_new w cp cf cs cc
  have HB := Lib.hid hb
  have HG0 := Lib.hid hg0
  rw [hv]
  clear hv hb hg0
  have CA : Hid (∀ wx, Grow v wx → Calls Try.prog 8 #[.slice a0 len0 cap0, .agg #[.int .i64 cp, .int .i64 cf, .int .i64 cs, .int .i64 cc]] wx (StepsP (stepsN ⟨cp, cf, cs, cc⟩ len0) (stepAt ⟨cp, cf, cs, cc⟩ zs) wx)) := fun wx hg => all_any (c := ⟨cp, cf, cs, cc⟩) ((Sl.kept HS.out (HG0.out.trans hg) (Nat.le_refl _) fun _ _ => id).more (HG0.out.trans hg).size) HZ.out (by have := HN3.out; omega) HLC.out
  have CR : Hid (∀ wx, Calls Try.prog 9 #[.string (strOfNums zs), .agg #[.int .i64 cp, .int .i64 cf, .int .i64 cs, .int .i64 cc]] wx (StepsP (stepsN ⟨cp, cf, cs, cc⟩ len0) (stepAt ⟨cp, cf, cs, cc⟩ zs) wx)) := fun wx => steps_any (c := ⟨cp, cf, cs, cc⟩) HS.out.len HZ.out (by have := HN3.out; omega) wx
  have b0 := HB.out.cell 0
  have b1 := HB.out.cell 1
  have b2 := HB.out.cell 2
  have b3 := HB.out.cell 3
  simp only [List.getElem?_cons_zero, List.getElem?_cons_succ] at b0 b1 b2 b3
  have c0 := up_cell (F := fun _ => False) (w := v.drew) (p := ⟨w.heap.size, 0, none⟩) b0 id
  have c1 := up_cell (F := fun _ => False) (w := v.drew) (p := ⟨w.heap.size, 1, none⟩) b1 id
  have c2 := up_cell (F := fun _ => False) (w := v.drew) (p := ⟨w.heap.size, 2, none⟩) b2 id
  have c3 := up_cell (F := fun _ => False) (w := v.drew) (p := ⟨w.heap.size, 3, none⟩) b3 id
  clear b0 b1 b2 b3
  have kst := up_run (F := fun _ => False) (w := v.drew) (P := Try.prog) fun wx hg => ((Sl.kept HS.out (HG0.out.drew.trans hg) (Nat.le_refl _) fun _ _ => id)).str (P := Try.prog) 22 9 5 Try.underlying22 Try.underlying5 Try.underlying9 cap0
  refine wp_region_stages Grow (kept_refl _) (kept_trans _) [([0, 1, 3, 4, 5], 2), ([], 6)] [7, 8] (by kernel_rfl) (by kernel_rfl) ?_
  simp only [selSt, sel, List.map_cons, List.map_nil, List.getD_cons_succ, List.getD_cons_zero]
  refine st_cons fun K1 hK1 => ?_
  repeat (go_big_quiet_step (fail))
  refine wpQuiet_nil ?_
  go_wp2_with (go_at_call 8; (with_reducible refine (CA.out _ (Kept.drew' _)).mono ?_); rintro e w1 ⟨v1, Q1, rfl, hsv1, hg1⟩; obtain ⟨A1, e1, rfl⟩ := hsv1.slice; have HV1 := Lib.hid (hsv1.at_ rfl); have HG1 := Lib.hid hg1; clear hsv1 hg1)
  refine norm_up (hK1 _ _ HG1.out ?_)
  clear hK1 K1
  refine st_cons fun K2 hK2 => ?_
  refine wpQuiet_nil ?_
  go_wp2_with (go_at_call 9; (with_reducible refine (CR.out _).mono ?_); rintro e w2 ⟨v2, Q2, rfl, hsv2, hg2⟩; obtain ⟨A2, e2, rfl⟩ := hsv2.slice; have HV2 := Lib.hid (hsv2.at_ rfl); have HG2 := Lib.hid hg2; clear hsv2 hg2)
  refine norm_up (hK2 _ _ HG2.out (st_nil fun K4 hK4 => ?_))
  clear hK2 K2
  repeat (go_big_quiet_step (fail))
  refine wpQuiet_nil (hK4 _ ?_)
  clear hK4 K4 c0 c1 c2 c3 kst
  have hN := steps_le ⟨cp, cf, cs, cc⟩ HN3.out
  have HW2 : Hid (Grow w w2) := ((HG0.out.drew).trans HG1.out).trans HG2.out
  have HB2 := Lib.hid (((Blk.drew HB.out).grow HG1.out).grow HG2.out)
  obtain ⟨p1, o1, h1, hs1⟩ := (HV1.out.grow HG2.out).form
  obtain ⟨p2, o2, h2, hs2⟩ := HV2.out.form
  generalize stepsN ⟨cp, cf, cs, cc⟩ len0 = N at *
  generalize stepAt ⟨cp, cf, cs, cc⟩ zs = L at *
  have H1 := Lib.hid h1
  have H2 := Lib.hid h2
  have HS1 := Lib.hid hs1
  have HS2 := Lib.hid hs2
  have hNz : (N : Int) ≤ 75 := by omega
  clear h1 h2 hs1 hs2 HV1 HV2 HG0 HG1 HG2 HB CA CR HS HZ HLC HN3
  go_wp2
  go_loopg [13] N (fun gx i wr => ∃ j : Nat, j + gx = N ∧ i = .int .i64 (j : Int) ∧ Grow w2 wr)
  case atStart => exact ⟨0, by omega, rfl, Kept.refl _ _⟩
  case round =>
    obtain ⟨j, hg, rfl, hgr⟩ := hrel
    have HG := Lib.hid hg
    have HGR := Lib.hid hgr
    clear hg hgr
    by_cases hj : j < N
    · have HJ := Lib.hid hj
      have hjz : (j : Int) < (N : Int) := by omega
      obtain rfl := H1.out (by omega)
      obtain rfl := H2.out (by omega)
      obtain ⟨d1, hc1, hd1⟩ := (HS1.out j hj).grow HGR.out
      obtain ⟨d2, hc2, hd2⟩ := (HS2.out j hj).grow HGR.out
      have y0 := up_cell (F := fun _ => False) (w := wr.drew) (p := ⟨p1, o1 + j * 11, none⟩) (hc1 0 _ rfl) id
      have y1 := up_cell (F := fun _ => False) (w := wr.drew) (p := ⟨p1, o1 + j * 11 + 1, none⟩) (hc1 1 _ rfl) id
      have y2 := up_cell (F := fun _ => False) (w := wr.drew) (p := ⟨p1, o1 + j * 11 + 2, none⟩) (hc1 2 _ rfl) id
      have y3 := up_cell (F := fun _ => False) (w := wr.drew) (p := ⟨p1, o1 + j * 11 + 3, none⟩) (hc1 3 _ rfl) id
      have y4 := up_cell (F := fun _ => False) (w := wr.drew) (p := ⟨p1, o1 + j * 11 + 4, none⟩) (hc1 4 _ rfl) id
      have y5 := up_cell (F := fun _ => False) (w := wr.drew) (p := ⟨p1, o1 + j * 11 + 5, none⟩) (hc1 5 _ rfl) id
      have y6 := up_cell (F := fun _ => False) (w := wr.drew) (p := ⟨p1, o1 + j * 11 + 6, none⟩) (hc1 6 _ rfl) id
      have y7 := up_cell (F := fun _ => False) (w := wr.drew) (p := ⟨p1, o1 + j * 11 + 7, none⟩) (hc1 7 _ rfl) id
      have y8 := up_cell (F := fun _ => False) (w := wr.drew) (p := ⟨p1, o1 + j * 11 + 8, none⟩) (hc1 8 _ rfl) id
      have y9 := up_cell (F := fun _ => False) (w := wr.drew) (p := ⟨p1, o1 + j * 11 + 9, none⟩) (hc1 9 _ rfl) id
      have y10 := up_cell (F := fun _ => False) (w := wr.drew) (p := ⟨p1, o1 + j * 11 + 10, none⟩) (hc1 10 _ rfl) id
      have z0 := up_cell (F := fun _ => False) (w := wr.drew) (p := ⟨p2, o2 + j * 11, none⟩) (hc2 0 _ rfl) id
      have z1 := up_cell (F := fun _ => False) (w := wr.drew) (p := ⟨p2, o2 + j * 11 + 1, none⟩) (hc2 1 _ rfl) id
      have z2 := up_cell (F := fun _ => False) (w := wr.drew) (p := ⟨p2, o2 + j * 11 + 2, none⟩) (hc2 2 _ rfl) id
      have z3 := up_cell (F := fun _ => False) (w := wr.drew) (p := ⟨p2, o2 + j * 11 + 3, none⟩) (hc2 3 _ rfl) id
      have z4 := up_cell (F := fun _ => False) (w := wr.drew) (p := ⟨p2, o2 + j * 11 + 4, none⟩) (hc2 4 _ rfl) id
      have z5 := up_cell (F := fun _ => False) (w := wr.drew) (p := ⟨p2, o2 + j * 11 + 5, none⟩) (hc2 5 _ rfl) id
      have z6 := up_cell (F := fun _ => False) (w := wr.drew) (p := ⟨p2, o2 + j * 11 + 6, none⟩) (hc2 6 _ rfl) id
      have z7 := up_cell (F := fun _ => False) (w := wr.drew) (p := ⟨p2, o2 + j * 11 + 7, none⟩) (hc2 7 _ rfl) id
      have z8 := up_cell (F := fun _ => False) (w := wr.drew) (p := ⟨p2, o2 + j * 11 + 8, none⟩) (hc2 8 _ rfl) id
      have z9 := up_cell (F := fun _ => False) (w := wr.drew) (p := ⟨p2, o2 + j * 11 + 9, none⟩) (hc2 9 _ rfl) id
      have z10 := up_cell (F := fun _ => False) (w := wr.drew) (p := ⟨p2, o2 + j * 11 + 10, none⟩) (hc2 10 _ rfl) id
      have CS : Hid (∀ wx, Grow wr wx → Calls Try.prog 10 #[.agg (stl (L j) d1).toArray, .agg (stl (L j) d2).toArray] wx (Tells (L j = L j) wx)) := fun wx hg => same_any (hd1.grow hg) (hd2.grow hg)
      clear hc1 hc2 hd1 hd2 hj
      go_upto_region 9 with (fail)
      refine wp_region_stages Grow (kept_refl _) (kept_trans _) [([0, 1, 2, 3, 4, 5, 6, 7], 8)] [9] (by kernel_rfl) (by kernel_rfl) ?_
      simp only [selSt, sel, List.map_cons, List.map_nil, List.getD_cons_succ, List.getD_cons_zero]
      refine st_cons fun K1 hK1 => ?_
      repeat (go_big_quiet_step (fail))
      refine wpQuiet_nil ?_
      go_wp2_with (go_at_call 10; (with_reducible refine (CS.out _ (Kept.drew' _)).mono ?_); rintro e w3 ⟨⟨bs, rfl, hbs⟩, hg3⟩; obtain rfl := hbs.2 rfl; have HG3 := Lib.hid hg3; clear hbs hg3)
      refine norm_up (hK1 _ _ HG3.out (st_nil fun K4 hK4 => ?_))
      clear hK1 K1
      repeat (go_big_quiet_step (fail))
      refine wpQuiet_nil (hK4 _ ?_)
      clear hK4 K4 y0 y1 y2 y3 y4 y5 y6 y7 y8 y9 y10 z0 z1 z2 z3 z4 z5 z6 z7 z8 z9 z10
      go_wp2
      go_roundg (gk - 1)
      case measure => have := HG.out; have := HJ.out; omega
      case rel => exact ⟨j + 1, by have := HG.out; have := HJ.out; omega, by go_num, (HGR.out.drew).trans HG3.out⟩
    · have hjn : ¬ (j : Int) < (N : Int) := by omega
      clear HS1 HS2 H1 H2
      go_upto_region 11 with (fail)
      have CO : Hid (∀ wx, Calls Try.prog 12 #[.int .u8 a2, .int .u8 a3, .int .u8 a4, .agg #[.int .i64 cp, .int .i64 cf, .int .i64 cs, .int .i64 cc]] wx (OpP (opQ ⟨cp, cf, cs, cc⟩ a2 a3 a4) wx)) := fun wx => opQ_any ⟨cp, cf, cs, cc⟩ (by omega) (by omega) (by omega) wx
      have CR : Hid (∀ wx, Calls Try.prog 13 #[.int .u8 a2, .int .u8 a3, .int .u8 a4, .agg #[.int .i64 cp, .int .i64 cf, .int .i64 cs, .int .i64 cc]] wx (OpP (opQ ⟨cp, cf, cs, cc⟩ a2 a3 a4) wx)) := fun wx => ropQ_any ⟨cp, cf, cs, cc⟩ (by omega) (by omega) (by omega) wx
      have hbr := Blk.drew (HB2.out.grow HGR.out)
      have b0 := hbr.cell 0
      have b1 := hbr.cell 1
      have b2 := hbr.cell 2
      have b3 := hbr.cell 3
      simp only [List.getElem?_cons_zero, List.getElem?_cons_succ] at b0 b1 b2 b3
      have c0 := up_cell (F := fun _ => False) (w := wr.drew) (p := ⟨w.heap.size, 0, none⟩) b0 id
      have c1 := up_cell (F := fun _ => False) (w := wr.drew) (p := ⟨w.heap.size, 1, none⟩) b1 id
      have c2 := up_cell (F := fun _ => False) (w := wr.drew) (p := ⟨w.heap.size, 2, none⟩) b2 id
      have c3 := up_cell (F := fun _ => False) (w := wr.drew) (p := ⟨w.heap.size, 3, none⟩) b3 id
      clear b0 b1 b2 b3 hbr
      generalize opQ ⟨cp, cf, cs, cc⟩ a2 a3 a4 = o at CO CR
      refine wp_region_stages Grow (kept_refl _) (kept_trans _) [([], 0), ([1, 2, 3, 4, 5, 7, 8, 9, 10], 6), ([], 11), ([], 12)] [13, 14] (by kernel_rfl) (by kernel_rfl) ?_
      simp only [selSt, sel, List.map_cons, List.map_nil, List.getD_cons_succ, List.getD_cons_zero]
      refine st_cons fun K1 hK1 => ?_
      refine wpQuiet_nil ?_
      go_wp2_with (go_at_call 7; (with_reducible refine (CT.out _).mono ?_); rintro e x1 ⟨rfl, hx1⟩; have HX1 := Lib.hid hx1; clear hx1)
      refine norm_up (hK1 _ _ HX1.out ?_)
      clear hK1 K1
      replace c0 := fun (u : Up Grow x1) => c0 ⟨u.u, HX1.out.trans u.h⟩
      replace c1 := fun (u : Up Grow x1) => c1 ⟨u.u, HX1.out.trans u.h⟩
      replace c2 := fun (u : Up Grow x1) => c2 ⟨u.u, HX1.out.trans u.h⟩
      replace c3 := fun (u : Up Grow x1) => c3 ⟨u.u, HX1.out.trans u.h⟩
      refine st_cons fun K2 hK2 => ?_
      repeat (go_big_quiet_step (fail))
      refine wpQuiet_nil ?_
      trace_state
      go_wp2_with (go_at_call 12; (with_reducible refine (CO.out _).mono ?_); rintro e x2 ⟨D1, n1, k1, rfl, hd1, hx2⟩; have HD1 := Lib.hid hd1; have HX2 := Lib.hid hx2; clear hd1 hx2)
      refine norm_up (hK2 _ _ HX2.out ?_)
      clear hK2 K2 c0 c1 c2 c3
      refine st_cons fun K3 hK3 => ?_
      refine wpQuiet_nil ?_
      go_wp2_with (go_at_call 13; (with_reducible refine (CR.out _).mono ?_); rintro e x3 ⟨D2, n2, k2, rfl, hd2, hx3⟩; have HD2 := Lib.hid hd2; have HX3 := Lib.hid hx3; clear hd2 hx3)
      refine norm_up (hK3 _ _ HX3.out ?_)
      clear hK3 K3
      have CE := Lib.hid (sameOp_any (byt_of (HD1.out.grow HX3.out)) (byt_of HD2.out) k1 k2)
      refine st_cons fun K4 hK4 => ?_
      refine wpQuiet_nil ?_
      go_wp2_with (go_at_call 11; (with_reducible refine CE.out.mono ?_); rintro e x4 ⟨⟨bs, rfl, hbs⟩, hx4⟩; obtain rfl := hbs.2 rfl; have HX4 := Lib.hid hx4; clear hbs hx4)
      refine norm_up (hK4 _ _ HX4.out (st_nil fun K5 hK5 => ?_))
      clear hK4 K4
      repeat (go_big_quiet_step (fail))
      refine wpQuiet_nil (hK5 _ ?_)
      clear hK5 K5
      go_wp2
      go_ret
      exact ⟨rfl, Grow.below ((((((HW2.out.trans HGR.out).drew).trans HX1.out).trans HX2.out).trans HX3.out).trans HX4.out)⟩

set_option maxRecDepth 100000 in
theorem lifted (os : Os) (started : os.Started) (H : Type) (enc : TypeId × Value → H) :
    ReturnsInHanded {} Try.checked os 3 .any (Rows.scriptAsksSpec.pre6 enc Try.prog Try.f3 Rows.scriptAsksRow.domain false) (Rows.scriptAsksSpec.post enc Try.prog Try.f3 false true false false) := by
  refine returnsInHanded_of_change (C := Try.checked) own started (by kernel_rfl) Try.func3
    (ChangeSpec.witness6 (enc := enc) (C := Try.checked) false ⟨#[], #[.slice none 0 0, .agg #[.int .i64 0, .int .i64 0, .int .i64 0, .int .i64 0], .int .u8 0, .int .u8 0, .int .u8 0], []⟩ 8 (by kernel_rfl) (by kernel_rfl) (by kernel_rfl) (by kernel_rfl)) ?_
  intro W base args ds gs before hval0 hW hcnd _
  have hval : ∀ (j : Nat) t v, Try.f3.params[j]? = some t → args[j]? = some v → Value.okWide Try.prog W .any base t v := hval0
  have hW' := hW
  obtain ⟨p, q, hA0, hV, rfl, hfz, hnd⟩ := hW
  have hA : DataW.TrodAll enc Try.prog W 0 (fun _ => true) true Try.f3.params.toList args.toList ds p := hA0
  rw [Try.params3] at hA hval
  obtain ⟨v0, vs0, d0, ds0, p0, q0, hargs, rfl, rfl, h0, r0⟩ := trodAll_cons hA
  obtain ⟨v1, vs1, d1, ds1, p1, q1, rfl, rfl, rfl, h1, r1⟩ := trodAll_cons r0
  obtain ⟨v2, vs2, d2, ds2, p2, q2, rfl, rfl, rfl, h2, r2⟩ := trodAll_cons r1
  obtain ⟨v3, vs3, d3, ds3, p3, q3, rfl, rfl, rfl, h3, r3⟩ := trodAll_cons r2
  obtain ⟨v4, vs4, d4, ds4, p4, q4, rfl, rfl, rfl, h4, r4⟩ := trodAll_cons r3
  obtain ⟨rfl, rfl, rfl⟩ := trodAll_nil r4
  obtain rfl : args = #[v0, v1, v2, v3, v4] := by cases args; simp_all
  obtain ⟨rfl, rfl⟩ := trodVars_none hV
  obtain ⟨a0, len0, cap0, rfl⟩ := okWide_slice Try.underlying22 (hval 0 22 v0 rfl rfl)
  have k0 := h0
  have lt0 : ∀ x ∈ p0, x.block < W.heap.size := by obtain ⟨m, hm⟩ := k0; exact DataW.trod_lt m _ _ _ hm
  have w0 : BytesAt W a0 len0 cap0 := by obtain ⟨fuel, hf⟩ := h0; exact bytes_open hf
  obtain ⟨cs1, rfl, hcs1⟩ := okWide_struct Try.underlying24 (hval 1 24 v1 rfl rfl)
  have k1 := h1
  have lt1 : ∀ x ∈ p1, x.block < W.heap.size := by obtain ⟨m, hm⟩ := k1; exact DataW.trod_lt m _ _ _ hm
  have w1 : ConfArg W (.agg cs1) := by
    obtain ⟨fuel, hf⟩ := h1
    have e : Try.prog.cellsOf 24 = 4 := by kernel_rfl
    exact conf_open (cs := cs1.toList) (by rw [Array.length_toList, hcs1, e]) hf
  obtain ⟨a2, rfl, rfl, rfl, w2⟩ := open_int Try.underlying5 (hval 2 5 v2 rfl rfl) h2
  obtain ⟨a3, rfl, rfl, rfl, w3⟩ := open_int Try.underlying5 (hval 3 5 v3 rfl rfl) h3
  obtain ⟨a4, rfl, rfl, rfl, w4⟩ := open_int Try.underlying5 (hval 4 5 v4 rfl rfl) h4
  clear hA0 hval0
  refine (walk a0 len0 cap0 (.agg cs1) a2 a3 a4 W w0 w1 w2 w3 w4).mono fun e W' ⟨he, bel⟩ => ?_
  subst he
  exact ⟨_, rfl, _, _, _, [], _, [], hW', trodAll_mk1 (shut_bool Try.underlying4 _), (trodAll_cons_mk (Below.trod laidOut (by kernel_rfl) (of_decide_eq_true (by kernel_rfl)) k0 bel lt0) (trodAll_cons_mk (Below.trod laidOut (by kernel_rfl) (of_decide_eq_true (by kernel_rfl)) k1 bel lt1) (trodAll_cons_mk (shut_int Try.underlying5 w2) (trodAll_cons_mk (shut_int Try.underlying5 w3) (trodAll_cons_mk (shut_int Try.underlying5 w4) trodAll_mk0))))), rfl, bel.frame _, fun h => by cases h⟩

theorem over : Rows.scriptAsksRow.holds Try.pinned (OpenSpec.ofChange Rows.scriptAsksSpec) :=
  OpenClaim.holds_of_wide 3 Try.f3 rfl rfl rfl rfl rfl rfl rfl ⟨rfl, rfl, rfl, rfl, rfl⟩ rfl rfl rfl rfl rfl (by kernel_rfl) Try.func3 (by kernel_rfl)
    (of_decide_eq_true (by kernel_rfl)) (by unfold Func.isWrapper; first | (rw [if_pos (by decide +kernel)]; kernel_rfl) | (rw [if_neg (by decide +kernel)]; exact ⟨rfl, rfl⟩))
    (fun os started H enc _ => lifted os started H enc)

/-- ████ THE STATEMENT ████ -/
theorem proved : Rows.ScriptAsksSaid := over
#print axioms proved
end Go.Proofs.Ytigcjcgdakoonaa.scriptAsks
