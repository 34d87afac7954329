/-
  For every input the call of lavabolaw15.ScriptParts returns true and leaves its arguments as they were; no condition.
-/
import Derived.Test.YtigcjcgdakoonaaTold15
import Derived.Test.YtigcjcgdakoonaaScIn
import Derived.Test.YtigcjcgdakoonaaScSame
import Derived.Test.YtigcjcgdakoonaaRows
import Derived.WalkKit
import Derived.ProofKit
import Derived.OpenShut
import Derived.ShutString
import Derived.ChangeOld
import Derived.Below
namespace Go.Proofs.Ytigcjcgdakoonaa.scriptParts
open Go.ChangeShapes Go.WideShapes Go.ChangeAt Go.RowKit
open Go.ChangeMaps (open_string shut_string)
open Go.Proofs.Ytigcjcgdakoonaa.Mem Go.Proofs.Ytigcjcgdakoonaa.Blk Go.Proofs.Ytigcjcgdakoonaa.Cells Go.Proofs.Ytigcjcgdakoonaa.MdM Go.Proofs.Ytigcjcgdakoonaa.ScM Go.Proofs.Ytigcjcgdakoonaa.ScC Go.Proofs.Ytigcjcgdakoonaa.ScR Go.Proofs.Ytigcjcgdakoonaa.ScA Go.Proofs.Ytigcjcgdakoonaa.ScE Go.Proofs.Ytigcjcgdakoonaa.ScI Go.Proofs.Ytigcjcgdakoonaa.Told15 Go.Proofs.Ytigcjcgdakoonaa.Stages
set_option linter.unusedVariables false

theorem own : ownKnob Try.prog.godebug = none := by kernel_rfl
theorem laidOut : laidOutB Try.prog = true := by kernel_rfl

theorem getD_take {zs : List Int} {m i : Nat} (h : i < m) : (zs.take m).getD i 0 = zs.getD i 0 := by simp [List.getD_eq_getElem?_getD, h]
theorem getD_drop {zs : List Int} (m i : Nat) : (zs.drop m).getD i 0 = zs.getD (m + i) 0 := by simp [List.getD_eq_getElem?_getD]
theorem take_at (c : Cf) {zs : List Int} {K i : Nat} (h : i < K) : stepAt c (zs.take (4 * K)) i = stepAt c zs i := by
  unfold stepAt
  rw [getD_take (by omega), getD_take (by omega), getD_take (by omega), getD_take (by omega)]
theorem drop_at (c : Cf) {zs : List Int} (K i : Nat) : stepAt c (zs.drop (4 * K)) i = stepAt c zs (K + i) := by
  unfold stepAt
  rw [getD_drop, getD_drop, getD_drop, getD_drop, show 4 * K + 4 * i = 4 * (K + i) by omega, show 4 * K + (4 * i + 1) = 4 * (K + i) + 1 by omega, show 4 * K + (4 * i + 2) = 4 * (K + i) + 2 by omega, show 4 * K + (4 * i + 3) = 4 * (K + i) + 3 by omega]
theorem parts_n (c : Cf) {n K : Nat} (h : K ≤ n / 4) : stepsN c (4 * K) + stepsN c (n - 4 * K) = stepsN c n ∧ stepsN c n ≤ n / 4 ∧ (stepsN c (4 * K) = K ∨ stepsN c n = 0) := by
  unfold stepsN
  split <;> omega
theorem bytes_cut {zs : List Int} (h : Bytes zs) (m : Nat) : Bytes (zs.take m) ∧ Bytes (zs.drop m) := ⟨fun c hc => h c (List.mem_of_mem_take hc), fun c hc => h c (List.mem_of_mem_drop hc)⟩
set_option maxHeartbeats 8000000 in
set_option maxRecDepth 100000 in
theorem walk (a0 : Option Addr) (len0 cap0 : Nat) (a1 : Int) (a2 : Value) (w : World) (w0 : BytesAt w a0 len0 cap0) (w1 : (Lit.int .i64 a1).wf = true) (w2 : ConfArg w a2) :
    Calls Try.prog 5 #[.slice a0 len0 cap0, .int .i64 a1, a2] w fun e w' => e = .returned (.bool true) ∧ Below w.heap.size w w' := by
  obtain ⟨zs, hs, hz, hlc, hcm⟩ := w0
  have k1 := bounds_i64 w1
  obtain ⟨c, rfl⟩ := w2
  have CT : Hid (∀ wx, Calls Try.prog 7 #[] wx fun e w' => e = .returned (.bool true) ∧ Grow wx w') := told_any
  have HS := Lib.hid hs
  have HZ := Lib.hid hz
  have HLC := Lib.hid hlc
  unfold maxLen at hcm
  clear hs hz
  by_cases h200 : (200 : Int) < (len0 : Int)
  · go_enter Try.func5, Try.ntmps5
    go_wp2_with (go_at_call 7; (with_reducible refine (CT.out _).mono ?_); rintro e wt ⟨rfl, hgt⟩; have HGT := Lib.hid hgt; clear hgt)
    go_ret
    exact ⟨rfl, Grow.below (((Kept.refl _ _).alloc _).trans HGT.out)⟩
  have HN2 : Hid (len0 ≤ 200) := by show len0 ≤ 200; omega
  obtain ⟨K, hK, hKn⟩ := tmod_nat a1 (len0 / 4 + 1) (by omega)
  have hcast : (((len0 / 4 + 1 : Nat)) : Int) = (len0 : Int) / 4 + 1 := by omega
  rw [hcast] at hK
  clear hcast
  have hq0 : 0 ≤ (len0 : Int) / 4 := by omega
  have hq1 : (len0 : Int) / 4 ≤ 50 := by omega
  have hKz : (K : Int) ≤ 50 := by omega
  have HKN : Hid (K ≤ len0 / 4) := by show K ≤ len0 / 4; omega
  obtain ⟨cp, cf, cs, cc⟩ := c
  unfold cfv
  dsimp only
  go_enter Try.func5, Try.ntmps5
  go_upto_region 4 with (fail)
  obtain ⟨v, hv, hb, hg0⟩ := conf_new w cp cf cs cc
  have HB := Lib.hid hb
  have HG0 := Lib.hid hg0
  rw [hv]
  have b0 := hb.cell 0
  have b1 := hb.cell 1
  have b2 := hb.cell 2
  have b3 := hb.cell 3
  simp only [List.getElem?_cons_zero, List.getElem?_cons_succ] at b0 b1 b2 b3
  have c0 := up_cell (F := fun _ => False) (w := v.drew) (p := ⟨w.heap.size, 0, none⟩) b0 id
  have c1 := up_cell (F := fun _ => False) (w := v.drew) (p := ⟨w.heap.size, 1, none⟩) b1 id
  have c2 := up_cell (F := fun _ => False) (w := v.drew) (p := ⟨w.heap.size, 2, none⟩) b2 id
  have c3 := up_cell (F := fun _ => False) (w := v.drew) (p := ⟨w.heap.size, 3, none⟩) b3 id
  clear b0 b1 b2 b3 hv hb hg0
  obtain ⟨a, ha⟩ : ∃ a : Nat, a = 4 * K := ⟨_, rfl⟩
  have haz : (K : Int) * 4 = (a : Int) := by omega
  rw [haz]
  have HA := Lib.hid ha
  have han : a ≤ len0 := by have := HKN.out; omega
  have HAN := Lib.hid han
  have hanz : (a : Int) ≤ (len0 : Int) := by omega
  have ha0 : (0 : Int) ≤ (a : Int) := by omega
  have hcz : (len0 : Int) ≤ (cap0 : Int) := by omega
  have hacz : (a : Int) ≤ (cap0 : Int) := by omega
  clear haz ha hK
  refine wp_region_stages Grow (kept_refl _) (kept_trans _) [([0, 1, 2, 3, 5, 6, 7, 8, 10, 11], 4), ([], 9), ([], 12)] [13, 14, 15] (by kernel_rfl) (by kernel_rfl) ?_
  simp only [selSt, sel, List.map_cons, List.map_nil, List.getD_cons_succ, List.getD_cons_zero]
  refine st_cons fun K1 hK1 => ?_
  repeat (go_big_quiet_step (fail))
  refine wpQuiet_nil ?_
  have hcut := Sl.cut HS.out HAN.out HLC.out
  generalize (if cap0 = a then a0 else Option.map (fun x => x.add a) a0) = A2 at hcut ⊢
  have HCUT := Lib.hid hcut
  clear hcut c0 c1 c2 c3
  have C1 : Hid (∀ wx, Grow v wx → Calls Try.prog 8 #[.slice a0 a cap0, .agg #[.int .i64 cp, .int .i64 cf, .int .i64 cs, .int .i64 cc]] wx (StepsP (stepsN ⟨cp, cf, cs, cc⟩ a) (stepAt ⟨cp, cf, cs, cc⟩ (zs.take a)) wx)) := fun wx hg => all_any (c := ⟨cp, cf, cs, cc⟩) ((Sl.kept (HS.out.take HAN.out) (HG0.out.trans hg) (Nat.le_refl _) fun _ _ => id).more (HG0.out.trans hg).size) (bytes_cut HZ.out a).1 (by have := HN2.out; omega) (by have := HLC.out; omega)
  have C2 : Hid (∀ wx, Grow v wx → Calls Try.prog 8 #[.slice A2 (len0 - a) (cap0 - a), .agg #[.int .i64 cp, .int .i64 cf, .int .i64 cs, .int .i64 cc]] wx (StepsP (stepsN ⟨cp, cf, cs, cc⟩ (len0 - a)) (stepAt ⟨cp, cf, cs, cc⟩ (zs.drop a)) wx)) := fun wx hg => all_any (c := ⟨cp, cf, cs, cc⟩) ((Sl.kept HCUT.out (HG0.out.trans hg) (Nat.le_refl _) fun _ _ => id).more (HG0.out.trans hg).size) (bytes_cut HZ.out a).2 (by have := HN2.out; omega) (by have := HLC.out; omega)
  have C3 : Hid (∀ wx, Grow v wx → Calls Try.prog 8 #[.slice a0 len0 cap0, .agg #[.int .i64 cp, .int .i64 cf, .int .i64 cs, .int .i64 cc]] wx (StepsP (stepsN ⟨cp, cf, cs, cc⟩ len0) (stepAt ⟨cp, cf, cs, cc⟩ zs) wx)) := fun wx hg => all_any (c := ⟨cp, cf, cs, cc⟩) ((Sl.kept HS.out (HG0.out.trans hg) (Nat.le_refl _) fun _ _ => id).more (HG0.out.trans hg).size) HZ.out (by have := HN2.out; omega) HLC.out
  go_wp2_with (go_at_call 8; (with_reducible refine (C1.out _ (Kept.drew' _)).mono ?_); rintro e w1 ⟨v1, Q1, rfl, hsv1, hg1⟩; obtain ⟨A1, e1, rfl⟩ := hsv1.slice; have HV1 := Lib.hid (hsv1.at_ rfl); have HG1 := Lib.hid hg1; clear hsv1 hg1)
  refine norm_up (hK1 _ _ HG1.out ?_)
  clear hK1 K1 C1
  refine st_cons fun K2 hK2 => ?_
  refine wpQuiet_nil ?_
  go_wp2_with (go_at_call 8; (with_reducible refine (C2.out _ ((Kept.drew' v).trans HG1.out)).mono ?_); rintro e w2 ⟨v2, Q2, rfl, hsv2, hg2⟩; obtain ⟨A2', e2, rfl⟩ := hsv2.slice; have HV2 := Lib.hid (hsv2.at_ rfl); have HG2 := Lib.hid hg2; clear hsv2 hg2)
  refine norm_up (hK2 _ _ HG2.out ?_)
  clear hK2 K2 C2
  refine st_cons fun K3 hK3 => ?_
  refine wpQuiet_nil ?_
  go_wp2_with (go_at_call 8; (with_reducible refine (C3.out _ (((Kept.drew' v).trans HG1.out).trans HG2.out)).mono ?_); rintro e w3 ⟨v3, Q3, rfl, hsv3, hg3⟩; obtain ⟨A3, e3, rfl⟩ := hsv3.slice; have HV3 := Lib.hid (hsv3.at_ rfl); have HG3 := Lib.hid hg3; clear hsv3 hg3)
  refine norm_up (hK3 _ _ HG3.out (st_nil fun K4 hK4 => ?_))
  clear hK3 K3 C3
  repeat (go_big_quiet_step (fail))
  refine wpQuiet_nil (hK4 _ ?_)
  clear hK4 K4
  have HW3 : Hid (Grow w w3) := (((HG0.out.drew).trans HG1.out).trans HG2.out).trans HG3.out
  have hpn := parts_n ⟨cp, cf, cs, cc⟩ HKN.out
  rw [← HA.out] at hpn
  obtain ⟨o1, q1, h1, hs1⟩ := ((HV1.out.grow HG2.out).grow HG3.out).form
  obtain ⟨o2, q2, h2, hs2⟩ := (HV2.out.grow HG3.out).form
  obtain ⟨o3, q3, h3, hs3⟩ := HV3.out.form
  have ht : ∀ i, i < stepsN ⟨cp, cf, cs, cc⟩ a → stepAt ⟨cp, cf, cs, cc⟩ (zs.take a) i = stepAt ⟨cp, cf, cs, cc⟩ zs i := fun i hi => by
    rw [HA.out]
    refine take_at _ ?_
    rw [HA.out] at hi
    unfold stepsN at hi
    split at hi <;> omega
  have hd : ∀ i, i < stepsN ⟨cp, cf, cs, cc⟩ (len0 - a) → stepAt ⟨cp, cf, cs, cc⟩ (zs.drop a) i = stepAt ⟨cp, cf, cs, cc⟩ zs (stepsN ⟨cp, cf, cs, cc⟩ a + i) := fun i hi => by
    rw [HA.out, drop_at]
    congr 1
    rw [HA.out] at hi
    unfold stepsN at hi ⊢
    split at hi
    · rw [if_pos (by assumption)]; omega
    · omega
  have hs1' : ∀ i, i < stepsN ⟨cp, cf, cs, cc⟩ a → StAt w3 o1 (q1 + i * 11) (stepAt ⟨cp, cf, cs, cc⟩ zs i) := fun i hi => by rw [← ht i hi]; exact hs1 i hi
  have hs2' : ∀ i, i < stepsN ⟨cp, cf, cs, cc⟩ (len0 - a) → StAt w3 o2 (q2 + i * 11) (stepAt ⟨cp, cf, cs, cc⟩ zs (stepsN ⟨cp, cf, cs, cc⟩ a + i)) := fun i hi => by rw [← hd i hi]; exact hs2 i hi
  have hN50 : stepsN ⟨cp, cf, cs, cc⟩ len0 ≤ 50 := by have := hpn.2.1; have := HN2.out; omega
  clear hs1 hs2 ht hd
  generalize stepsN ⟨cp, cf, cs, cc⟩ a = N1 at *
  generalize stepsN ⟨cp, cf, cs, cc⟩ (len0 - a) = N2 at *
  generalize stepsN ⟨cp, cf, cs, cc⟩ len0 = N at *
  generalize stepAt ⟨cp, cf, cs, cc⟩ zs = L at *
  have H1 := Lib.hid h1
  have H2 := Lib.hid h2
  have H3 := Lib.hid h3
  have HS1 := Lib.hid hs1'
  have HS2 := Lib.hid hs2'
  have HS3 := Lib.hid hs3
  have hNN : (N1 : Int) + (N2 : Int) = (N : Int) := by omega
  have hNz : (N : Int) ≤ 50 := by omega
  have HNN : Hid (N1 + N2 = N) := hpn.1
  have hN1z : (N1 : Int) ≤ 50 := by omega
  have hN2z : (N2 : Int) ≤ 50 := by omega
  have hNb : ((N1 : Int) + (N2 : Int) != (N : Int)) = false := by rw [hNN]; simp
  clear h1 h2 h3 hs1' hs2' hs3 hpn hN50 hNN HV1 HV2 HV3 HG0 HG1 HG2 HG3 HB HS HZ HLC HN2 HA HAN HKN HCUT han hanz ha0 hcz hacz
  go_wp2
  go_loopg [11] N (fun gx i wr => ∃ j : Nat, j + gx = N ∧ i = .int .i64 (j : Int) ∧ Grow w3 wr)
  case atStart => exact ⟨0, by omega, rfl, Kept.refl _ _⟩
  case round =>
    obtain ⟨j, hg, rfl, hgr⟩ := hrel
    have HG := Lib.hid hg
    have HGR := Lib.hid hgr
    clear hg hgr
    by_cases hj : j < N
    · have HJ := Lib.hid hj
      have hjz : (j : Int) < (N : Int) := by omega
      obtain rfl := H3.out (by omega)
      obtain ⟨d3, hc3, hd3⟩ := (HS3.out j hj).grow HGR.out
      have z0 := up_cell (F := fun _ => False) (w := wr.drew) (p := ⟨o3, q3 + j * 11, none⟩) (hc3 0 _ rfl) id
      have z1 := up_cell (F := fun _ => False) (w := wr.drew) (p := ⟨o3, q3 + j * 11 + 1, none⟩) (hc3 1 _ rfl) id
      have z2 := up_cell (F := fun _ => False) (w := wr.drew) (p := ⟨o3, q3 + j * 11 + 2, none⟩) (hc3 2 _ rfl) id
      have z3 := up_cell (F := fun _ => False) (w := wr.drew) (p := ⟨o3, q3 + j * 11 + 3, none⟩) (hc3 3 _ rfl) id
      have z4 := up_cell (F := fun _ => False) (w := wr.drew) (p := ⟨o3, q3 + j * 11 + 4, none⟩) (hc3 4 _ rfl) id
      have z5 := up_cell (F := fun _ => False) (w := wr.drew) (p := ⟨o3, q3 + j * 11 + 5, none⟩) (hc3 5 _ rfl) id
      have z6 := up_cell (F := fun _ => False) (w := wr.drew) (p := ⟨o3, q3 + j * 11 + 6, none⟩) (hc3 6 _ rfl) id
      have z7 := up_cell (F := fun _ => False) (w := wr.drew) (p := ⟨o3, q3 + j * 11 + 7, none⟩) (hc3 7 _ rfl) id
      have z8 := up_cell (F := fun _ => False) (w := wr.drew) (p := ⟨o3, q3 + j * 11 + 8, none⟩) (hc3 8 _ rfl) id
      have z9 := up_cell (F := fun _ => False) (w := wr.drew) (p := ⟨o3, q3 + j * 11 + 9, none⟩) (hc3 9 _ rfl) id
      have z10 := up_cell (F := fun _ => False) (w := wr.drew) (p := ⟨o3, q3 + j * 11 + 10, none⟩) (hc3 10 _ rfl) id
      clear hc3
      by_cases hj1 : j < N1
      · have hj1z : (j : Int) < (N1 : Int) := by omega
        have hj1d : decide ((j : Int) < (N1 : Int)) = true := decide_eq_true hj1z
        have hj1e : ¬ ((N1 : Int) ≤ (j : Int)) := by omega
        have hj1f : decide (N1 ≤ j) = false := decide_eq_false (by omega)
        have hj1g : decide (j < N1) = true := decide_eq_true hj1
        obtain rfl := H1.out (by omega)
        obtain ⟨d1, hc1, hd1⟩ := (HS1.out j hj1).grow HGR.out
        have y0 := up_cell (F := fun _ => False) (w := wr.drew) (p := ⟨o1, q1 + j * 11, none⟩) (hc1 0 _ rfl) id
        have y1 := up_cell (F := fun _ => False) (w := wr.drew) (p := ⟨o1, q1 + j * 11 + 1, none⟩) (hc1 1 _ rfl) id
        have y2 := up_cell (F := fun _ => False) (w := wr.drew) (p := ⟨o1, q1 + j * 11 + 2, none⟩) (hc1 2 _ rfl) id
        have y3 := up_cell (F := fun _ => False) (w := wr.drew) (p := ⟨o1, q1 + j * 11 + 3, none⟩) (hc1 3 _ rfl) id
        have y4 := up_cell (F := fun _ => False) (w := wr.drew) (p := ⟨o1, q1 + j * 11 + 4, none⟩) (hc1 4 _ rfl) id
        have y5 := up_cell (F := fun _ => False) (w := wr.drew) (p := ⟨o1, q1 + j * 11 + 5, none⟩) (hc1 5 _ rfl) id
        have y6 := up_cell (F := fun _ => False) (w := wr.drew) (p := ⟨o1, q1 + j * 11 + 6, none⟩) (hc1 6 _ rfl) id
        have y7 := up_cell (F := fun _ => False) (w := wr.drew) (p := ⟨o1, q1 + j * 11 + 7, none⟩) (hc1 7 _ rfl) id
        have y8 := up_cell (F := fun _ => False) (w := wr.drew) (p := ⟨o1, q1 + j * 11 + 8, none⟩) (hc1 8 _ rfl) id
        have y9 := up_cell (F := fun _ => False) (w := wr.drew) (p := ⟨o1, q1 + j * 11 + 9, none⟩) (hc1 9 _ rfl) id
        have y10 := up_cell (F := fun _ => False) (w := wr.drew) (p := ⟨o1, q1 + j * 11 + 10, none⟩) (hc1 10 _ rfl) id
        have CS : Hid (∀ wx, Grow wr wx → Calls Try.prog 10 #[.agg (stl (L j) d1).toArray, .agg (stl (L j) d3).toArray] wx (Tells (L j = L j) wx)) := fun wx hg => same_any (hd1.grow hg) (hd3.grow hg)
        clear hc1 hd1 hd3 hj hj1
        go_upto_region 10 with (fail)
        refine wp_region_stages Grow (kept_refl _) (kept_trans _) [([0, 1, 2, 3, 4, 5, 6, 7, 8, 9, 10, 11, 12], 13), ([14, 15, 16, 17, 18, 19, 20, 21, 22, 23, 24, 25, 26, 27, 28, 29, 30, 31, 32], 33)] [34, 35, 36] (by kernel_rfl) (by kernel_rfl) ?_
        simp only [selSt, sel, List.map_cons, List.map_nil, List.getD_cons_succ, List.getD_cons_zero]
        refine st_cons fun K1 hK1 => ?_
        repeat (go_big_quiet_step (fail))
        refine wpQuiet_nil ?_
        go_wp2_with (go_at_call 10; (with_reducible refine (CS.out _ (Kept.drew' _)).mono ?_); rintro e x1 ⟨⟨bs, rfl, hbs⟩, hx1⟩; obtain rfl := hbs.2 (by first | rfl | trivial); have HX1 := Lib.hid hx1; clear hbs hx1)
        refine norm_up (hK1 _ _ HX1.out ?_)
        clear hK1 K1 y0 y1 y2 y3 y4 y5 y6 y7 y8 y9 y10 z0 z1 z2 z3 z4 z5 z6 z7 z8 z9 z10
        refine st_cons fun K2 hK2 => ?_
        repeat (go_big_quiet_step (fail))
        refine wpQuiet_nil ?_
        go_wp2
        refine norm_up (hK2 _ _ (Kept.refl _ _) (st_nil fun K4 hK4 => ?_))
        clear hK2 K2
        repeat (go_big_quiet_step (fail))
        refine wpQuiet_nil (hK4 _ ?_)
        clear hK4 K4
        go_wp2
        go_roundg (gk - 1)
        case measure => have := HG.out; have := HJ.out; omega
        case rel => exact ⟨j + 1, by have := HG.out; have := HJ.out; omega, by go_num, (HGR.out.drew).trans HX1.out⟩
      · have hj1z : ¬ ((j : Int) < (N1 : Int)) := by omega
        have hj1d : decide ((j : Int) < (N1 : Int)) = false := decide_eq_false hj1z
        have hj1e : (N1 : Int) ≤ (j : Int) := by omega
        have hj1f : decide (N1 ≤ j) = true := decide_eq_true (by omega)
        have hj1g : decide (j < N1) = false := decide_eq_false hj1
        obtain ⟨i, hi⟩ : ∃ i, j = N1 + i := ⟨j - N1, by omega⟩
        have hi2 : i < N2 := by have := HNN.out; omega
        have hiz : (j : Int) - (N1 : Int) = (i : Int) := by omega
        have hiz2 : (i : Int) < (N2 : Int) := by omega
        obtain rfl := H2.out (by omega)
        obtain ⟨d1, hc1, hd1⟩ := (HS2.out i hi2).grow HGR.out
        rw [← hi] at hc1 hd1
        have y0 := up_cell (F := fun _ => False) (w := wr.drew) (p := ⟨o2, q2 + i * 11, none⟩) (hc1 0 _ rfl) id
        have y1 := up_cell (F := fun _ => False) (w := wr.drew) (p := ⟨o2, q2 + i * 11 + 1, none⟩) (hc1 1 _ rfl) id
        have y2 := up_cell (F := fun _ => False) (w := wr.drew) (p := ⟨o2, q2 + i * 11 + 2, none⟩) (hc1 2 _ rfl) id
        have y3 := up_cell (F := fun _ => False) (w := wr.drew) (p := ⟨o2, q2 + i * 11 + 3, none⟩) (hc1 3 _ rfl) id
        have y4 := up_cell (F := fun _ => False) (w := wr.drew) (p := ⟨o2, q2 + i * 11 + 4, none⟩) (hc1 4 _ rfl) id
        have y5 := up_cell (F := fun _ => False) (w := wr.drew) (p := ⟨o2, q2 + i * 11 + 5, none⟩) (hc1 5 _ rfl) id
        have y6 := up_cell (F := fun _ => False) (w := wr.drew) (p := ⟨o2, q2 + i * 11 + 6, none⟩) (hc1 6 _ rfl) id
        have y7 := up_cell (F := fun _ => False) (w := wr.drew) (p := ⟨o2, q2 + i * 11 + 7, none⟩) (hc1 7 _ rfl) id
        have y8 := up_cell (F := fun _ => False) (w := wr.drew) (p := ⟨o2, q2 + i * 11 + 8, none⟩) (hc1 8 _ rfl) id
        have y9 := up_cell (F := fun _ => False) (w := wr.drew) (p := ⟨o2, q2 + i * 11 + 9, none⟩) (hc1 9 _ rfl) id
        have y10 := up_cell (F := fun _ => False) (w := wr.drew) (p := ⟨o2, q2 + i * 11 + 10, none⟩) (hc1 10 _ rfl) id
        have CS : Hid (∀ wx, Grow wr wx → Calls Try.prog 10 #[.agg (stl (L j) d1).toArray, .agg (stl (L j) d3).toArray] wx (Tells (L j = L j) wx)) := fun wx hg => same_any (hd1.grow hg) (hd3.grow hg)
        clear hc1 hd1 hd3 hj hj1 hi hi2
        go_upto_region 10 with (fail)
        refine wp_region_stages Grow (kept_refl _) (kept_trans _) [([0, 1, 2, 3, 4, 5, 6, 7, 8, 9, 10, 11, 12], 13), ([14, 15, 16, 17, 18, 19, 20, 21, 22, 23, 24, 25, 26, 27, 28, 29, 30, 31, 32], 33)] [34, 35, 36] (by kernel_rfl) (by kernel_rfl) ?_
        simp only [selSt, sel, List.map_cons, List.map_nil, List.getD_cons_succ, List.getD_cons_zero]
        refine st_cons fun K1 hK1 => ?_
        repeat (go_big_quiet_step (fail))
        refine wpQuiet_nil ?_
        go_wp2
        refine norm_up (hK1 _ _ (Kept.refl _ _) ?_)
        clear hK1 K1
        refine st_cons fun K2 hK2 => ?_
        repeat (go_big_quiet_step (fail))
        refine wpQuiet_nil ?_
        go_wp2_with (go_at_call 10; (with_reducible refine (CS.out _ (Kept.drew' _)).mono ?_); rintro e x1 ⟨⟨bs, rfl, hbs⟩, hx1⟩; obtain rfl := hbs.2 (by first | rfl | trivial); have HX1 := Lib.hid hx1; clear hbs hx1)
        refine norm_up (hK2 _ _ HX1.out (st_nil fun K4 hK4 => ?_))
        clear hK2 K2 y0 y1 y2 y3 y4 y5 y6 y7 y8 y9 y10 z0 z1 z2 z3 z4 z5 z6 z7 z8 z9 z10
        repeat (go_big_quiet_step (fail))
        refine wpQuiet_nil (hK4 _ ?_)
        clear hK4 K4
        go_wp2
        go_roundg (gk - 1)
        case measure => have := HG.out; have := HJ.out; omega
        case rel => exact ⟨j + 1, by have := HG.out; have := HJ.out; omega, by go_num, (HGR.out.drew).trans HX1.out⟩
    · have hjn : ¬ (j : Int) < (N : Int) := by omega
      clear HS1 HS2 HS3 H1 H2 H3
      go_wp2_with (go_at_call 7; (with_reducible refine (CT.out _).mono ?_); rintro e wt ⟨rfl, hgt⟩; have HGT := Lib.hid hgt; clear hgt)
      go_ret
      exact ⟨rfl, Grow.below ((HW3.out.trans HGR.out).trans HGT.out)⟩

set_option maxRecDepth 100000 in
theorem lifted (os : Os) (started : os.Started) (H : Type) (enc : TypeId × Value → H) :
    ReturnsInHanded {} Try.checked os 5 .any (Rows.scriptPartsSpec.pre6 enc Try.prog Try.f5 Rows.scriptPartsRow.domain false) (Rows.scriptPartsSpec.post enc Try.prog Try.f5 false true false false) := by
  refine returnsInHanded_of_change (C := Try.checked) own started (by kernel_rfl) Try.func5
    (ChangeSpec.witness6 (enc := enc) (C := Try.checked) false ⟨#[], #[.slice none 0 0, .int .i64 0, .agg #[.int .i64 0, .int .i64 0, .int .i64 0, .int .i64 0]], []⟩ 8 (by kernel_rfl) (by kernel_rfl) (by kernel_rfl) (by kernel_rfl)) ?_
  intro W base args ds gs before hval0 hW hcnd _
  have hval : ∀ (j : Nat) t v, Try.f5.params[j]? = some t → args[j]? = some v → Value.okWide Try.prog W .any base t v := hval0
  have hW' := hW
  obtain ⟨p, q, hA0, hV, rfl, hfz, hnd⟩ := hW
  have hA : DataW.TrodAll enc Try.prog W 0 (fun _ => true) true Try.f5.params.toList args.toList ds p := hA0
  rw [Try.params5] at hA hval
  obtain ⟨v0, vs0, d0, ds0, p0, q0, hargs, rfl, rfl, h0, r0⟩ := trodAll_cons hA
  obtain ⟨v1, vs1, d1, ds1, p1, q1, rfl, rfl, rfl, h1, r1⟩ := trodAll_cons r0
  obtain ⟨v2, vs2, d2, ds2, p2, q2, rfl, rfl, rfl, h2, r2⟩ := trodAll_cons r1
  obtain ⟨rfl, rfl, rfl⟩ := trodAll_nil r2
  obtain rfl : args = #[v0, v1, v2] := by cases args; simp_all
  obtain ⟨rfl, rfl⟩ := trodVars_none hV
  obtain ⟨a0, len0, cap0, rfl⟩ := okWide_slice Try.underlying22 (hval 0 22 v0 rfl rfl)
  have k0 := h0
  have lt0 : ∀ x ∈ p0, x.block < W.heap.size := by obtain ⟨m, hm⟩ := k0; exact DataW.trod_lt m _ _ _ hm
  have w0 : BytesAt W a0 len0 cap0 := by obtain ⟨fuel, hf⟩ := h0; exact bytes_open hf
  obtain ⟨a1, rfl, rfl, rfl, w1⟩ := open_int Try.underlying3 (hval 1 3 v1 rfl rfl) h1
  obtain ⟨cs2, rfl, hcs2⟩ := okWide_struct Try.underlying24 (hval 2 24 v2 rfl rfl)
  have k2 := h2
  have lt2 : ∀ x ∈ p2, x.block < W.heap.size := by obtain ⟨m, hm⟩ := k2; exact DataW.trod_lt m _ _ _ hm
  have w2 : ConfArg W (.agg cs2) := by
    obtain ⟨fuel, hf⟩ := h2
    have e : Try.prog.cellsOf 24 = 4 := by kernel_rfl
    exact conf_open (cs := cs2.toList) (by rw [Array.length_toList, hcs2, e]) hf
  clear hA0 hval0
  refine (walk a0 len0 cap0 a1 (.agg cs2) W w0 w1 w2).mono fun e W' ⟨he, bel⟩ => ?_
  subst he
  exact ⟨_, rfl, _, _, _, [], _, [], hW', trodAll_mk1 (shut_bool Try.underlying4 _), (trodAll_cons_mk (Below.trod laidOut (by kernel_rfl) (of_decide_eq_true (by kernel_rfl)) k0 bel lt0) (trodAll_cons_mk (shut_int Try.underlying3 w1) (trodAll_cons_mk (Below.trod laidOut (by kernel_rfl) (of_decide_eq_true (by kernel_rfl)) k2 bel lt2) trodAll_mk0))), rfl, bel.frame _, fun h => by cases h⟩

theorem over : Rows.scriptPartsRow.holds Try.pinned (OpenSpec.ofChange Rows.scriptPartsSpec) :=
  OpenClaim.holds_of_wide 5 Try.f5 rfl rfl rfl rfl rfl rfl rfl ⟨rfl, rfl, rfl, rfl, rfl⟩ rfl rfl rfl rfl rfl (by kernel_rfl) Try.func5 (by kernel_rfl)
    (of_decide_eq_true (by kernel_rfl)) (by unfold Func.isWrapper; first | (rw [if_pos (by decide +kernel)]; kernel_rfl) | (rw [if_neg (by decide +kernel)]; exact ⟨rfl, rfl⟩))
    (fun os started H enc _ => lifted os started H enc)

/-- ████ THE STATEMENT ████ -/
theorem proved : Rows.ScriptPartsSaid := over
#print axioms proved
end Go.Proofs.Ytigcjcgdakoonaa.scriptParts
