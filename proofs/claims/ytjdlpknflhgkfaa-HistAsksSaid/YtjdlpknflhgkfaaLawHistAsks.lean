/-
  For every input the call of lavabolaw14.HistAsks returns true and leaves its arguments as they were; no condition.
-/
import Derived.Test.YtjdlpknflhgkfaaTold14
import Derived.Test.YtjdlpknflhgkfaaHsTop
import Derived.Test.YtjdlpknflhgkfaaInts
import Derived.Test.YtjdlpknflhgkfaaRows
import Derived.WalkKit
import Derived.ProofKit
import Derived.OpenShut
import Derived.ShutString
import Derived.ChangeOld
import Derived.Below
namespace Go.Proofs.Ytjdlpknflhgkfaa.histAsks
open Go.ChangeShapes Go.WideShapes Go.ChangeAt Go.RowKit
open Go.ChangeMaps (open_string shut_string)
open Go.Proofs.Ytjdlpknflhgkfaa.Mem Go.Proofs.Ytjdlpknflhgkfaa.Blk Go.Proofs.Ytjdlpknflhgkfaa.Cells Go.Proofs.Ytjdlpknflhgkfaa.MdM Go.Proofs.Ytjdlpknflhgkfaa.MdC Go.Proofs.Ytjdlpknflhgkfaa.HsM Go.Proofs.Ytjdlpknflhgkfaa.HsE Go.Proofs.Ytjdlpknflhgkfaa.HsB Go.Proofs.Ytjdlpknflhgkfaa.HsC Go.Proofs.Ytjdlpknflhgkfaa.HsO Go.Proofs.Ytjdlpknflhgkfaa.HsRO Go.Proofs.Ytjdlpknflhgkfaa.HsRC Go.Proofs.Ytjdlpknflhgkfaa.HsRS Go.Proofs.Ytjdlpknflhgkfaa.HsK Go.Proofs.Ytjdlpknflhgkfaa.HsT Go.Proofs.Ytjdlpknflhgkfaa.HsF Go.Proofs.Ytjdlpknflhgkfaa.HsW Go.Proofs.Ytjdlpknflhgkfaa.PmM Go.Proofs.Ytjdlpknflhgkfaa.PmC Go.Proofs.Ytjdlpknflhgkfaa.MdI Go.Proofs.Ytjdlpknflhgkfaa.IntsC Go.Proofs.Ytjdlpknflhgkfaa.Calls13 Go.Proofs.Ytjdlpknflhgkfaa.Args13 Go.Proofs.Ytjdlpknflhgkfaa.Told14 Go.Proofs.Ytjdlpknflhgkfaa.Stages
set_option linter.unusedVariables false

theorem own : ownKnob Try.prog.godebug = none := by kernel_rfl
theorem laidOut : laidOutB Try.prog = true := by kernel_rfl

theorem op_box (w : World) (k p h o n s : Value) : Blk (w.alloc (.cells #[k, p, h, o, n, s] 25)) w.heap.size 25 [k, p, h, o, n, s] ∧ Grow w (w.alloc (.cells #[k, p, h, o, n, s] 25)) := ⟨Blk.new w _ _, (Kept.refl _ _).alloc _⟩
set_option maxHeartbeats 8000000 in
set_option maxRecDepth 100000 in
theorem walk (a0 : Option Addr) (len0 cap0 : Nat) (a1 : Int) (a2 : Int) (a3 : Value) (a4 : Int) (w : World) (w0 : HistAt w a0 len0 cap0) (w1 : (Lit.int .i64 a1).wf = true) (w2 : (Lit.int .i64 a2).wf = true) (w3 : OpArg w a3) (w4 : (Lit.int .i64 a4).wf = true) :
    Calls Try.prog 4 #[.slice a0 len0 cap0, .int .i64 a1, .int .i64 a2, a3, .int .i64 a4] w fun e w' => e = .returned (.bool true) ∧ Below w.heap.size w w' := by
  obtain ⟨hlc, hcm, L, hev⟩ := w0
  obtain ⟨ok, op, oh, oo, on, OA, ol, oc, rfl, hob, hoo⟩ := w3
  obtain ⟨hbo, hgo⟩ := op_box w (.int .i64 ok) (.int .i64 op) (.int .i64 oh) (.int .i64 oo) (.int .i64 on) (.slice OA ol oc)
  have HEV := Lib.hid (hev.grow hgo)
  have CF := Lib.hid (few_any (hev.grow hgo) (Nat.le_trans hlc hcm) cap0)
  have HGO := Lib.hid hgo
  have HBO := Lib.hid hbo
  have holz : (ol : Int) ≤ 9223372036854775807 := by obtain ⟨d, _, _, h1, h2⟩ := hob; unfold maxLen at h2; omega
  clear hev hgo hob hoo
  go_enter Try.func4, Try.ntmps4
  go_upto_region 1 with (fail)
  generalize w.alloc (.cells #[.int .i64 ok, .int .i64 op, .int .i64 oh, .int .i64 oo, .int .i64 on, .slice OA ol oc] 25) = w1 at *
  generalize w.heap.size = g at *
  have y5 := hbo.cell 5
  simp only [List.getElem?_cons_zero, List.getElem?_cons_succ] at y5
  by_cases hf : ¬ FewH len0 L
  · have HF := Lib.hid hf
    clear hf hbo
    go_wp2_with (first
      | (go_at_call 12; (with_reducible refine CF.out.mono ?_); rintro e w2 ⟨⟨b, rfl, hb⟩, hg⟩; obtain rfl : b = false := (Bool.eq_false_iff.2 fun h => HF.out (hb.1 h)); have HG1 := Lib.hid hg; clear hb hg)
      | (go_at_call 10; (with_reducible refine (told_any _).mono ?_); rintro e wt ⟨rfl, hge⟩; have HGE := Lib.hid hge; clear hge))
    go_ret
    exact ⟨rfl, Grow.below ((HGO.out.trans HG1.out).trans HGE.out)⟩
  have HF : Hid (FewH len0 L) := Classical.byContradiction hf
  have h60 : (len0 : Int) ≤ 60 := by have := HF.out.1; omega
  clear hf
  by_cases h40 : (40 : Int) < (ol : Int)
  · clear hbo
    go_wp2_with (first
      | (go_at_call 12; (with_reducible refine CF.out.mono ?_); rintro e w2 ⟨⟨b, rfl, hb⟩, hg⟩; obtain rfl : b = true := hb.2 HF.out; have HG1 := Lib.hid hg; have y5' := hg.cellN y5 id; clear hb hg)
      | (go_at_call 10; (with_reducible refine (told_any _).mono ?_); rintro e wt ⟨rfl, hge⟩; have HGE := Lib.hid hge; clear hge))
    go_ret
    exact ⟨rfl, Grow.below ((HGO.out.trans HG1.out).trans HGE.out)⟩
  have hn5 : len0 ≤ 100000 := by omega
  have CFI : Hid (∀ wx, Grow w1 wx → Calls Try.prog 13 #[.slice a0 len0 cap0, .int .i64 a1, .int .i64 a2] wx (FinP L len0 a1 a2 wx)) := fun wx hg => final_any (HEV.out.grow hg) hn5 a1 a2 cap0
  have CRF : Hid (∀ wx, Grow w1 wx → Calls Try.prog 14 #[.slice a0 len0 cap0, .int .i64 a1, .int .i64 a2] wx (RFinP L len0 a1 a2 wx)) := fun wx hg => rfinal_any (HEV.out.grow hg) hn5 a1 a2 cap0
  have CK : Hid (∀ wx, Grow w1 wx → Calls Try.prog 11 #[.slice a0 len0 cap0, .int .i64 a1, .int .i64 a2] wx (ChkP L len0 a1 a2 wx)) := fun wx hg => check_any (HEV.out.grow hg) hn5 a1 a2 cap0
  have CRK : Hid (∀ wx, Grow w1 wx → Calls Try.prog 18 #[.slice a0 len0 cap0, .int .i64 a1, .int .i64 a2] wx (ChkP L len0 a1 a2 wx)) := fun wx hg => rcheck_any (HEV.out.grow hg) hn5 a1 a2 cap0
  have CO : Hid (∀ wx, Grow w1 wx → Calls Try.prog 16 #[.slice a0 len0 cap0] wx (OrdP L len0 wx)) := fun wx hg => order_any (HEV.out.grow hg) hn5 cap0
  have CRO : Hid (∀ wx, Grow w1 wx → Calls Try.prog 17 #[.slice a0 len0 cap0] wx (OrdP L len0 wx)) := fun wx hg => rorder_any (HEV.out.grow hg) hn5 cap0
  have CB : Hid (∀ wx, Calls Try.prog 20 #[.agg #[.int .i64 ok, .int .i64 op, .int .i64 oh, .int .i64 oo, .int .i64 on, .slice OA ol oc], .int .i64 a4] wx (Tells (badC ok a4) wx)) := fun wx => bad_any _ _ _ _ _ _ _ _ _ wx
  have CRB : Hid (∀ wx, Calls Try.prog 21 #[.agg #[.int .i64 ok, .int .i64 op, .int .i64 oh, .int .i64 oo, .int .i64 on, .slice OA ol oc], .int .i64 a4] wx (Tells (badC ok a4) wx)) := fun wx => rbad_any _ _ _ _ _ _ _ _ _ wx
  clear hbo
  go_upto_region 4 with (first
      | (go_at_call 12; (with_reducible refine CF.out.mono ?_); rintro e w2 ⟨⟨b, rfl, hb⟩, hg⟩; obtain rfl : b = true := hb.2 HF.out; have HG1 := Lib.hid hg; have y5' := hg.cellN y5 id; clear hb hg)
      | (go_at_call 13; (with_reducible refine (CFI.out _ HG1.out).mono ?_); rintro e w3 ⟨X1, n1, c1, X2, n2, c2, X3, n3, c3, b1, rfl, hb, hs, hg⟩; have HB1 := Lib.hid hb; have HS1 := Lib.hid hs; have HG3 := Lib.hid (HG1.out.trans hg); clear hb hs hg))
  obtain ⟨hbs, hgs⟩ := st_box w3 (.slice X1 n1 c1) (.slice X2 n2 c2) (.slice X3 n3 c3)
  generalize w3.alloc (.cells #[.slice X1 n1 c1, .slice X2 n2 c2, .slice X3 n3 c3] 39) = w4 at hbs hgs ⊢
  generalize w3.heap.size = gs at hbs ⊢
  have HG4 : Hid (Grow w1 w4) := HG3.out.trans hgs
  have HGS := Lib.hid hgs
  have HBS := Lib.hid hbs
  clear hbs hgs y5 y5'
  go_upto_region 5 with (go_at_call 14; (with_reducible refine (CRF.out _ HG4.out).mono ?_); rintro e w5 ⟨Y1, m1, d1, Y2, m2, d2, Y3, m3, d3, b2, rfl, hb, hs, hg⟩; have HB2 := Lib.hid hb; have HS2 := Lib.hid hs; have HGF := Lib.hid hg; clear hb hs hg)
  obtain ⟨hbx, hgx⟩ := s_box w5 (.slice Y1 m1 d1) (.slice Y2 m2 d2) (.slice Y3 m3 d3)
  generalize w5.alloc (.cells #[.slice Y1 m1 d1, .slice Y2 m2 d2, .slice Y3 m3 d3] 44) = w6 at hbx hgx ⊢
  generalize w5.heap.size = gx at hbx ⊢
  have HG6 : Hid (Grow w1 w6) := (HG4.out.trans HGF.out).trans hgx
  have HGX := Lib.hid hgx
  have HBX := Lib.hid hbx
  have HBS6 := Lib.hid ((HBS.out.grow HGF.out).grow hgx)
  have HBO6 := Lib.hid (HBO.out.grow HG6.out)
  clear hbx hgx
  have HBB : Hid (b1 = b2) := by
    show b1 = b2
    rw [Bool.eq_iff_iff, HB1.out, HB2.out]
  have HTRUE : Hid (b1 = true → ∃ a, PAt w6 All (.agg #[.slice X1 n1 c1, .slice X2 n2 c2, .slice X3 n3 c3]) a ∧ SAt w6 (w4.heap.size ≤ ·) (.agg #[.slice Y1 m1 d1, .slice Y2 m2 d2, .slice Y3 m3 d3]) a) := fun h => by
    obtain ⟨a, ha⟩ := HB1.out.1 h
    exact ⟨a, (((HS1.out a ha).grow HGS.out).grow HGF.out).grow HGX.out, (HS2.out a ha).grow HGX.out⟩
  refine wp_region_stages Grow (kept_refl _) (kept_trans _) [([], 0), ([1, 2, 4], 3), ([], 5), ([], 6), ([7, 8, 9, 10, 11, 13, 14, 15], 12), ([], 16), ([17, 18, 19, 20, 21, 22, 23, 24, 25, 26, 27, 28, 29], 30), ([31, 32, 33, 34, 35, 37, 38], 36), ([], 39)] [40, 41, 42] (by kernel_rfl) (by kernel_rfl) ?_
  simp only [selSt, sel, List.map_cons, List.map_nil, List.getD_cons_succ, List.getD_cons_zero]
  refine st_cons fun K1 hK1 => wpQuiet_nil ?_
  go_wp2_with (go_at_call 10; (with_reducible refine (told_any _).mono ?_); rintro e wt ⟨rfl, hge⟩; have HGE := Lib.hid hge; clear hge)
  refine norm_up (hK1 _ _ HGE.out (st_cons fun K2 hK2 => ?_))
  have HG7 : Hid (Grow w6 wt) := (Kept.drew' w6).trans HGE.out
  clear hK1 K1
  repeat (go_big_quiet_step (fail))
  refine wpQuiet_nil ?_
  go_wp2_with (go_at_call 16; (with_reducible refine (CO.out _ (HG6.out.trans HG7.out)).mono ?_); rintro e wa ⟨l, A1, q1, rfl, ho, hsl, hnew, hg⟩; have HO1 := Lib.hid ho; have HSL1 := Lib.hid hsl; have HGA := Lib.hid hg; clear ho hsl hnew hg)
  refine norm_up (hK2 _ _ HGA.out (st_cons fun K3 hK3 => wpQuiet_nil ?_))
  have HG8 : Hid (Grow w6 wa) := HG7.out.trans HGA.out
  clear hK2 K2
  go_wp2_with (go_at_call 17; (with_reducible refine (CRO.out _ (HG6.out.trans HG8.out)).mono ?_); rintro e wb ⟨l', A2, q2, rfl, ho, hsl, hnew, hg⟩; obtain rfl := ord_unique ho HO1.out; have HSL2 := Lib.hid hsl; have HGB := Lib.hid hg; clear ho hsl hnew hg)
  refine norm_up (hK3 _ _ HGB.out (st_cons fun K4 hK4 => wpQuiet_nil ?_))
  have HG9 : Hid (Grow w6 wb) := HG8.out.trans HGB.out
  have HLL : Hid (l'.length ≤ 100000) := Nat.le_trans (ord_len HO1.out) hn5
  have CI := Lib.hid (ints_true A1 A2 l'.length q1 q2 wb.heap.size wb.heap.size (nums l') HLL.out (sl_grow HSL1.out HGB.out) HSL2.out)
  clear hK3 K3
  go_wp2_with (go_at_call 15; (with_reducible refine CI.out.mono ?_); rintro e wc ⟨rfl, hg⟩; have HGC := Lib.hid hg; clear hg)
  refine norm_up (hK4 _ _ HGC.out (st_cons fun K5 hK5 => ?_))
  have HG10 : Hid (Grow w6 wc) := HG9.out.trans HGC.out
  clear hK4 K4 CI
  repeat (go_big_quiet_step (fail))
  refine wpQuiet_nil ?_
  go_wp2_with (go_at_call 11; (with_reducible refine (CK.out _ (HG6.out.trans HG10.out)).mono ?_); rintro e wd ⟨r1, rfl, hr, hg⟩; have HR1 := Lib.hid hr; have HGD := Lib.hid hg; clear hr hg)
  refine norm_up (hK5 _ _ HGD.out (st_cons fun K6 hK6 => wpQuiet_nil ?_))
  have HG11 : Hid (Grow w6 wd) := HG10.out.trans HGD.out
  clear hK5 K5
  go_wp2_with (go_at_call 18; (with_reducible refine (CRK.out _ (HG6.out.trans HG11.out)).mono ?_); rintro e we ⟨r2, rfl, hr, hg⟩; obtain rfl := chk_unique hr HR1.out; have HGE2 := Lib.hid hg; clear hr hg)
  refine norm_up (hK6 _ _ HGE2.out (st_cons fun K7' hK7' => ?_))
  have HG12 : Hid (Grow w6 we) := HG11.out.trans HGE2.out
  clear hK6 K6
  obtain rfl := HBB.out
  cases b1 with
  | true =>
    obtain ⟨a, hpa, hsa⟩ := HTRUE.out rfl
    have CIS : Hid (∀ wx, Grow w6 wx → Calls Try.prog 19 #[.agg #[.slice Y1 m1 d1, .slice Y2 m2 d2, .slice Y3 m3 d3], .agg #[.slice X1 n1 c1, .slice X2 n2 c2, .slice X3 n3 c3]] wx fun e w' => e = .returned (.bool true) ∧ Grow wx w') := fun wx hg => is_true (hsa.grow hg) (hpa.grow hg).seen
    clear hpa hsa
    have hbx7 := HBX.out.grow HG12.out
    have hbs7 := HBS6.out.grow HG12.out
    have x0 := hbx7.cell 0
    have x1 := hbx7.cell 1
    have x2 := hbx7.cell 2
    have z0 := hbs7.cell 0
    have z1 := hbs7.cell 1
    have z2 := hbs7.cell 2
    simp only [List.getElem?_cons_zero, List.getElem?_cons_succ] at x0 x1 x2 z0 z1 z2
    have ux0 := up_cell (F := fun _ => False) (w := we) x0 id
    have ux1 := up_cell (F := fun _ => False) (w := we) x1 id
    have ux2 := up_cell (F := fun _ => False) (w := we) x2 id
    have uz0 := up_cell (F := fun _ => False) (w := we) z0 id
    have uz1 := up_cell (F := fun _ => False) (w := we) z1 id
    have uz2 := up_cell (F := fun _ => False) (w := we) z2 id
    clear hbx7 hbs7 x0 x1 x2 z0 z1 z2
    repeat (go_big_quiet_step (fail))
    refine wpQuiet_nil ?_
    clear ux0 ux1 ux2 uz0 uz1 uz2
    go_wp2_with (go_at_call 19; (with_reducible refine (CIS.out _ HG12.out).mono ?_); rintro e wf ⟨rfl, hg⟩; have HGI := Lib.hid hg; clear hg)
    refine norm_up (hK7' _ _ HGI.out (st_cons fun K7 hK7 => ?_))
    have HG13 : Hid (Grow w6 wf) := HG12.out.trans HGI.out
    clear hK7' K7'
    have hbo7 := HBO6.out.grow HG13.out
    have yy0 := hbo7.cell 0
    have yy1 := hbo7.cell 1
    have yy2 := hbo7.cell 2
    have yy3 := hbo7.cell 3
    have yy4 := hbo7.cell 4
    have yy5 := hbo7.cell 5
    simp only [List.getElem?_cons_zero, List.getElem?_cons_succ] at yy0 yy1 yy2 yy3 yy4 yy5
    have uo0 := up_cell (F := fun _ => False) (w := wf) yy0 id
    have uo1 := up_cell (F := fun _ => False) (w := wf) yy1 id
    have uo2 := up_cell (F := fun _ => False) (w := wf) yy2 id
    have uo3 := up_cell (F := fun _ => False) (w := wf) yy3 id
    have uo4 := up_cell (F := fun _ => False) (w := wf) yy4 id
    have uo5 := up_cell (F := fun _ => False) (w := wf) yy5 id
    clear hbo7 yy0 yy1 yy2 yy3 yy4 yy5
    repeat (go_big_quiet_step (fail))
    refine wpQuiet_nil ?_
    clear uo0 uo1 uo2 uo3 uo4 uo5
    go_wp2_with (go_at_call 20; (with_reducible refine (CB.out _).mono ?_); rintro e wg ⟨⟨x1, rfl, hx⟩, hg⟩; have HX1 := Lib.hid hx; have HGG := Lib.hid hg; clear hx hg)
    refine norm_up (hK7 _ _ HGG.out (st_cons fun K8 hK8 => wpQuiet_nil ?_))
    clear hK7 K7
    go_wp2_with (go_at_call 21; (with_reducible refine (CRB.out _).mono ?_); rintro e wh ⟨⟨x2, rfl, hx⟩, hg⟩; have HX2 := Lib.hid hx; have HGH := Lib.hid hg; clear hx hg)
    refine norm_up (hK8 _ _ HGH.out (st_nil fun K9 hK9 => ?_))
    clear hK8 K8
    obtain rfl : x1 = x2 := by rw [Bool.eq_iff_iff, HX1.out, HX2.out]
    repeat (go_big_quiet_step (fail))
    refine wpQuiet_nil (hK9 _ ?_)
    clear hK9 K9
    go_wp2
    go_ret
    exact ⟨rfl, Grow.below (HGO.out.trans (HG6.out.trans ((HG13.out.trans HGG.out).trans HGH.out)))⟩
  | false =>
    repeat (go_big_quiet_step (fail))
    refine wpQuiet_nil ?_
    go_wp2
    refine norm_up (hK7' _ _ (Kept.refl _ _) (st_cons fun K7 hK7 => ?_))
    clear hK7' K7'
    have hbo7 := HBO6.out.grow HG12.out
    have yy0 := hbo7.cell 0
    have yy1 := hbo7.cell 1
    have yy2 := hbo7.cell 2
    have yy3 := hbo7.cell 3
    have yy4 := hbo7.cell 4
    have yy5 := hbo7.cell 5
    simp only [List.getElem?_cons_zero, List.getElem?_cons_succ] at yy0 yy1 yy2 yy3 yy4 yy5
    have uo0 := up_cell (F := fun _ => False) (w := we) yy0 id
    have uo1 := up_cell (F := fun _ => False) (w := we) yy1 id
    have uo2 := up_cell (F := fun _ => False) (w := we) yy2 id
    have uo3 := up_cell (F := fun _ => False) (w := we) yy3 id
    have uo4 := up_cell (F := fun _ => False) (w := we) yy4 id
    have uo5 := up_cell (F := fun _ => False) (w := we) yy5 id
    clear hbo7 yy0 yy1 yy2 yy3 yy4 yy5
    repeat (go_big_quiet_step (fail))
    refine wpQuiet_nil ?_
    clear uo0 uo1 uo2 uo3 uo4 uo5
    go_wp2_with (go_at_call 20; (with_reducible refine (CB.out _).mono ?_); rintro e wg ⟨⟨x1, rfl, hx⟩, hg⟩; have HX1 := Lib.hid hx; have HGG := Lib.hid hg; clear hx hg)
    refine norm_up (hK7 _ _ HGG.out (st_cons fun K8 hK8 => wpQuiet_nil ?_))
    clear hK7 K7
    go_wp2_with (go_at_call 21; (with_reducible refine (CRB.out _).mono ?_); rintro e wh ⟨⟨x2, rfl, hx⟩, hg⟩; have HX2 := Lib.hid hx; have HGH := Lib.hid hg; clear hx hg)
    refine norm_up (hK8 _ _ HGH.out (st_nil fun K9 hK9 => ?_))
    clear hK8 K8
    obtain rfl : x1 = x2 := by rw [Bool.eq_iff_iff, HX1.out, HX2.out]
    repeat (go_big_quiet_step (fail))
    refine wpQuiet_nil (hK9 _ ?_)
    clear hK9 K9
    go_wp2
    go_ret
    exact ⟨rfl, Grow.below (HGO.out.trans (HG6.out.trans ((HG12.out.trans HGG.out).trans HGH.out)))⟩

set_option maxRecDepth 100000 in
theorem lifted (os : Os) (started : os.Started) (H : Type) (enc : TypeId × Value → H) :
    ReturnsInHanded {} Try.checked os 4 .any (Rows.histAsksSpec.pre6 enc Try.prog Try.f4 Rows.histAsksRow.domain false) (Rows.histAsksSpec.post enc Try.prog Try.f4 false true false false) := by
  refine returnsInHanded_of_change (C := Try.checked) own started (by kernel_rfl) Try.func4
    (ChangeSpec.witness6 (enc := enc) (C := Try.checked) false ⟨#[], #[.slice none 0 0, .int .i64 0, .int .i64 0, .agg #[.int .i64 0, .int .i64 0, .int .i64 0, .int .i64 0, .int .i64 0, .slice none 0 0], .int .i64 0], []⟩ 8 (by kernel_rfl) (by kernel_rfl) (by kernel_rfl) (by kernel_rfl)) ?_
  intro W base args ds gs before hval0 hW hcnd _
  have hval : ∀ (j : Nat) t v, Try.f4.params[j]? = some t → args[j]? = some v → Value.okWide Try.prog W .any base t v := hval0
  have hW' := hW
  obtain ⟨p, q, hA0, hV, rfl, hfz, hnd⟩ := hW
  have hA : DataW.TrodAll enc Try.prog W 0 (fun _ => true) true Try.f4.params.toList args.toList ds p := hA0
  rw [Try.params4] at hA hval
  obtain ⟨v0, vs0, d0, ds0, p0, q0, hargs, rfl, rfl, h0, r0⟩ := trodAll_cons hA
  obtain ⟨v1, vs1, d1, ds1, p1, q1, rfl, rfl, rfl, h1, r1⟩ := trodAll_cons r0
  obtain ⟨v2, vs2, d2, ds2, p2, q2, rfl, rfl, rfl, h2, r2⟩ := trodAll_cons r1
  obtain ⟨v3, vs3, d3, ds3, p3, q3, rfl, rfl, rfl, h3, r3⟩ := trodAll_cons r2
  obtain ⟨v4, vs4, d4, ds4, p4, q4, rfl, rfl, rfl, h4, r4⟩ := trodAll_cons r3
  obtain ⟨rfl, rfl, rfl⟩ := trodAll_nil r4
  obtain rfl : args = #[v0, v1, v2, v3, v4] := by cases args; simp_all
  obtain ⟨rfl, rfl⟩ := trodVars_none hV
  obtain ⟨a0, len0, cap0, rfl⟩ := okWide_slice Try.underlying30 (hval 0 30 v0 rfl rfl)
  have k0 := h0
  have lt0 : ∀ x ∈ p0, x.block < W.heap.size := by obtain ⟨m, hm⟩ := k0; exact DataW.trod_lt m _ _ _ hm
  have w0 : HistAt W a0 len0 cap0 := by obtain ⟨fuel, hf⟩ := h0; exact hist_open hf
  obtain ⟨a1, rfl, rfl, rfl, w1⟩ := open_int Try.underlying3 (hval 1 3 v1 rfl rfl) h1
  obtain ⟨a2, rfl, rfl, rfl, w2⟩ := open_int Try.underlying3 (hval 2 3 v2 rfl rfl) h2
  obtain ⟨cs3, rfl, hcs3⟩ := okWide_struct Try.underlying25 (hval 3 25 v3 rfl rfl)
  have k3 := h3
  have lt3 : ∀ x ∈ p3, x.block < W.heap.size := by obtain ⟨m, hm⟩ := k3; exact DataW.trod_lt m _ _ _ hm
  have w3 : OpArg W (.agg cs3) := by
    obtain ⟨fuel, hf⟩ := h3
    have e : Try.prog.cellsOf 25 = 6 := by kernel_rfl
    exact op_open (cs := cs3.toList) (by rw [Array.length_toList, hcs3, e]) hf
  obtain ⟨a4, rfl, rfl, rfl, w4⟩ := open_int Try.underlying3 (hval 4 3 v4 rfl rfl) h4
  clear hA0 hval0
  refine (walk a0 len0 cap0 a1 a2 (.agg cs3) a4 W w0 w1 w2 w3 w4).mono fun e W' ⟨he, bel⟩ => ?_
  subst he
  exact ⟨_, rfl, _, _, _, [], _, [], hW', trodAll_mk1 (shut_bool Try.underlying4 _), (trodAll_cons_mk (Below.trod laidOut (by kernel_rfl) (of_decide_eq_true (by kernel_rfl)) k0 bel lt0) (trodAll_cons_mk (shut_int Try.underlying3 w1) (trodAll_cons_mk (shut_int Try.underlying3 w2) (trodAll_cons_mk (Below.trod laidOut (by kernel_rfl) (of_decide_eq_true (by kernel_rfl)) k3 bel lt3) (trodAll_cons_mk (shut_int Try.underlying3 w4) trodAll_mk0))))), rfl, bel.frame _, fun h => by cases h⟩

theorem over : Rows.histAsksRow.holds Try.pinned (OpenSpec.ofChange Rows.histAsksSpec) :=
  OpenClaim.holds_of_wide 4 Try.f4 rfl rfl rfl rfl rfl rfl rfl ⟨rfl, rfl, rfl, rfl, rfl⟩ rfl rfl rfl rfl rfl (by kernel_rfl) Try.func4 (by kernel_rfl)
    (of_decide_eq_true (by kernel_rfl)) (by unfold Func.isWrapper; first | (rw [if_pos (by decide +kernel)]; kernel_rfl) | (rw [if_neg (by decide +kernel)]; exact ⟨rfl, rfl⟩))
    (fun os started H enc _ => lifted os started H enc)

/-- ████ THE STATEMENT ████ -/
theorem proved : Rows.HistAsksSaid := over
#print axioms proved
end Go.Proofs.Ytjdlpknflhgkfaa.histAsks
