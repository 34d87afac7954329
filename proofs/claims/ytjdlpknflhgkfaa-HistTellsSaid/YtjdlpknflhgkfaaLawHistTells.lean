/-
  For every input the call of lavabolaw14.HistTells returns true and leaves its arguments as they were; no condition.
-/
import Derived.Test.YtjdlpknflhgkfaaTold14
import Derived.Test.YtjdlpknflhgkfaaHsTop
import Derived.Test.YtjdlpknflhgkfaaHsHist
import Derived.Test.YtjdlpknflhgkfaaRows
import Derived.WalkKit
import Derived.ProofKit
import Derived.OpenShut
import Derived.ShutString
import Derived.ChangeOld
import Derived.Below
namespace Go.Proofs.Ytjdlpknflhgkfaa.histTells
open Go.ChangeShapes Go.WideShapes Go.ChangeAt Go.RowKit
open Go.ChangeMaps (open_string shut_string)
open Go.Proofs.Ytjdlpknflhgkfaa.Mem Go.Proofs.Ytjdlpknflhgkfaa.Blk Go.Proofs.Ytjdlpknflhgkfaa.Cells Go.Proofs.Ytjdlpknflhgkfaa.MdM Go.Proofs.Ytjdlpknflhgkfaa.MdC Go.Proofs.Ytjdlpknflhgkfaa.HsM Go.Proofs.Ytjdlpknflhgkfaa.HsE Go.Proofs.Ytjdlpknflhgkfaa.HsB Go.Proofs.Ytjdlpknflhgkfaa.HsC Go.Proofs.Ytjdlpknflhgkfaa.HsO Go.Proofs.Ytjdlpknflhgkfaa.HsRO Go.Proofs.Ytjdlpknflhgkfaa.HsRC Go.Proofs.Ytjdlpknflhgkfaa.HsRS Go.Proofs.Ytjdlpknflhgkfaa.HsK Go.Proofs.Ytjdlpknflhgkfaa.HsT Go.Proofs.Ytjdlpknflhgkfaa.HsF Go.Proofs.Ytjdlpknflhgkfaa.HsW Go.Proofs.Ytjdlpknflhgkfaa.HsR Go.Proofs.Ytjdlpknflhgkfaa.HsRm Go.Proofs.Ytjdlpknflhgkfaa.HsMk Go.Proofs.Ytjdlpknflhgkfaa.HsMake Go.Proofs.Ytjdlpknflhgkfaa.HsRest Go.Proofs.Ytjdlpknflhgkfaa.PmM Go.Proofs.Ytjdlpknflhgkfaa.PmC Go.Proofs.Ytjdlpknflhgkfaa.MdI Go.Proofs.Ytjdlpknflhgkfaa.Calls13 Go.Proofs.Ytjdlpknflhgkfaa.Args13 Go.Proofs.Ytjdlpknflhgkfaa.Told14 Go.Proofs.Ytjdlpknflhgkfaa.Stages
set_option linter.unusedVariables false

theorem own : ownKnob Try.prog.godebug = none := by kernel_rfl
theorem laidOut : laidOutB Try.prog = true := by kernel_rfl

/-- What a copy looks like where there is an event. -/
theorem row_form {w : World} {B n c k : Nat} {Y : Nat → Prop} {A : Option Addr} {L : Nat → Ev} {Q : Nat → Ad} (h : HRow w B Y (.slice A n c) n L Q) (hk : k < n) : ∃ g, A = some ⟨g, 0, none⟩ ∧ B ≤ g ∧ (∀ j, j < 14 → w.cell? ⟨g, k * 14 + j, none⟩ = some ((evq (L k) (Q k)).getD j (.int .i64 0))) ∧ ∀ j, w.frozen? ⟨g, j, none⟩ = false := by
  rcases h.form with ⟨_, e⟩ | ⟨g, cap, e, ho, hb⟩
  · omega
  · injection e with e _ _
    subst e
    refine ⟨g, rfl, hb, fun j hj => ?_, ho.frozen⟩
    rw [ho.cell (i := k * 14 + j) (by omega), evf_at _ _ _ _ hj]
set_option maxHeartbeats 8000000 in
set_option maxRecDepth 100000 in
theorem walk (a0 : Option Addr) (len0 cap0 : Nat) (a1 : Option Addr) (len1 cap1 : Nat) (a2 : Int) (a3 : Int) (w : World) (w0 : CallsAt w a0 len0 cap0) (w1 : IntsAt w a1 len1 cap1) (w2 : (Lit.int .i64 a2).wf = true) (w3 : (Lit.int .i64 a3).wf = true) :
    Calls Try.prog 6 #[.slice a0 len0 cap0, .slice a1 len1 cap1, .int .i64 a2, .int .i64 a3] w fun e w' => e = .returned (.bool true) ∧ Below w.heap.size w w' := by
  have k2 := bounds_i64 w2
  have k3 := bounds_i64 w3
  have HCA := Lib.hid w0
  obtain ⟨hlc, hcm, hops⟩ := w0
  obtain ⟨ds, hwt⟩ := w1
  unfold maxLen at hcm
  have HOPS := Lib.hid hops
  have HWT := Lib.hid hwt
  clear hops hwt
  go_enter Try.func6, Try.ntmps6
  by_cases h40 : 40 < len0
  · have h40z : (40 : Int) < (len0 : Int) := by omega
    go_wp2_with (go_at_call 10; (with_reducible refine (told_any _).mono ?_); rintro e wt ⟨rfl, hge⟩; have HGE := Lib.hid hge; clear hge)
    go_ret
    exact ⟨rfl, Grow.below HGE.out⟩
  have h40z : (len0 : Int) ≤ 40 := by omega
  by_cases h1 : len0 < 1
  · have h1z : (len0 : Int) < 1 := by omega
    go_wp2_with (go_at_call 10; (with_reducible refine (told_any _).mono ?_); rintro e wt ⟨rfl, hge⟩; have HGE := Lib.hid hge; clear hge)
    go_ret
    exact ⟨rfl, Grow.below HGE.out⟩
  have h1z : 1 ≤ (len0 : Int) := by omega
  go_wp2
  go_loopg [9] len0 (fun gx v9 wx => ∃ j : Nat, j + gx = len0 ∧ v9 = .int .i64 (j : Int) ∧ wx = w)
  case atStart => exact ⟨0, by omega, rfl, rfl⟩
  case round =>
    obtain ⟨j, hg, rfl, hwx⟩ := hrel
    subst hwx
    have HG := Lib.hid hg
    clear hg
    by_cases hj : j < len0
    · have hjz : (j : Int) < (len0 : Int) := by omega
      have HJ := Lib.hid hj
      obtain ⟨ab, ao, rfl, hab, hall⟩ := HOPS.out (by omega)
      obtain ⟨x, hx⟩ := hall j hj
      have cd := hx.d
      clear hall hx hj hab
      by_cases h41 : 40 < x.len
      · have h41y : (40 : Int) < (x.len : Int) := by omega
        go_wp2_with (go_at_call 10; (with_reducible refine (told_any _).mono ?_); rintro e wt ⟨rfl, hge⟩; have HGE := Lib.hid hge; clear hge)
        go_ret
        exact ⟨rfl, Grow.below HGE.out⟩
      have h41y : (x.len : Int) ≤ 40 := by omega
      clear h41
      go_wp2
      go_roundg (gk - 1)
      case measure => have := HG.out; have := HJ.out; omega
      case rel => exact ⟨j + 1, by have := HG.out; have := HJ.out; omega, by go_num, rfl⟩
    · have hjN : j = len0 := by have := HG.out; omega
      subst hjN
      clear hj HOPS
      have CG := Lib.hid (good_any HCA.out (by omega) HWT.out cap1)
      obtain ⟨k, hk, hkn⟩ := tmod_nat a2 j (by omega)
      obtain ⟨d, hd, hd14⟩ := tmod_nat a3 14 (by omega)
      simp only [Int.cast_ofNat_Int] at hd
      have hkz : (k : Int) < (j : Int) := by omega
      have HKN := Lib.hid hkn
      go_upto_region 9 with (go_at_call 24; (with_reducible refine CG.out.mono ?_); rintro e w1 ⟨A, c, M, a, now, O, rfl, h1, h2, hev, hI, hnow, hf, hg⟩; have HG1 := Lib.hid hg; have HEV := Lib.hid hev; have HFI := Lib.hid hf; have HI := Lib.hid hI; have HNOW := Lib.hid hnow; clear h1 h2 hev hI hnow hf hg)
      clear CG
      obtain ⟨b, off, Q, rfl, hall⟩ := evs_parts HEV.out (by omega)
      have c13 := (hall k hkn).1 13 (by omega)
      clear hall hkn
      have hn5 : j ≤ 100000 := by omega
      have HE0 : Hid (0 ≤ (M k).e) := ok_end (Fin.all HFI.out HKN.out)
      have HT : Hid ((M k).e ≤ 200 ∧ (M k).s ≤ 200) := by
        have h1 := HI.out.tm k HKN.out
        have h2 := HNOW.out
        constructor <;> omega
      have CK : Hid (∀ wx, Grow w1 wx → Calls Try.prog 11 #[.slice (some ⟨b, off, none⟩) j c, .int .i64 5, .int .i64 3] wx fun e w' => e = .returned (.int .i64 0) ∧ Grow wx w') := fun wx hg => t_check (HEV.out.grow hg) hn5 (fin_chk HFI.out) c
      by_cases he : (M k).e = 0
      · have hez : ((M k).e == 0) = true := by rw [he]; rfl
        have c13' : w1.cell? ⟨b, off + k * 14 + 13, none⟩ = some (.int .i64 0) := by rw [c13]; show some (Value.int .i64 (M k).e) = _; rw [he]
        clear c13
        go_wp2_with (first
          | (go_at_call 10; (with_reducible refine (told_any _).mono ?_); rintro e wt ⟨rfl, hge⟩; have HGE := Lib.hid hge; clear hge)
          | (go_at_call 11; (with_reducible refine (CK.out _ HGE.out).mono ?_); rintro e wk ⟨rfl, hge⟩; have HGK := Lib.hid (HGE.out.trans hge); clear hge))
        go_ret
        exact ⟨rfl, Grow.below (HG1.out.trans HGK.out)⟩
      · have he1 : 0 < (M k).e := by have := HE0.out; omega
        have he2 : (M k).e ≤ 200 := HT.out.1
        have hs2 : (M k).s ≤ 200 := HT.out.2
        have hs0 : 0 ≤ (M k).s := by
          have h1 := (Fin.all HFI.out HKN.out).tm
          have h2 := (Fin.all HFI.out HKN.out).bg
          unfold inT inTn at h1
          rw [if_pos he1] at h1
          omega
        have hez : ((M k).e == 0) = false := beq_eq_false_iff_ne.2 he
        have HE1X := Lib.hid he1
        have c13' : w1.cell? ⟨b, off + k * 14 + 13, none⟩ = some (.int .i64 (M k).e) := c13
        clear c13 he
        obtain ⟨A1, c1, wa, Q1, hr1, hrow1, hg1⟩ := copy_any 30 HEV.out hn5 c
        obtain ⟨g1, rfl, hgb1, hc1, hf1⟩ := row_form hrow1 HKN.out
        have HR1 := Lib.hid hr1
        have HROW1 := Lib.hid hrow1
        have HGA := Lib.hid hg1
        have HGB1 := Lib.hid hgb1
        have x7 := hc1 7 (by omega)
        have x8 := hc1 8 (by omega)
        have x9 := hc1 9 (by omega)
        have x10 := hc1 10 (by omega)
        clear hr1 hrow1 hg1 hgb1 hc1
        go_upto_region 13 with (at_builtin; refine Lib.wpList_append_run _ rfl _ _ _ _ rfl _ _ rfl rfl _ _ HR1.out ?_)
        have HP1 := Lib.hid (row_tell (r := ⟨(d : Int), 0, 0, []⟩) (A := none) (al := 0) (ac := 0) HROW1.out HKN.out (Sl.nil _ _ _ _) (fun x hx => by cases hx) (Nat.zero_le _) (fun h => absurd h (Nat.lt_irrefl 0)))
        have HKP1 := Lib.hid (putR_kept wa g1 (k * 14) (.int .i64 (d : Int)) (.int .i64 0) (.int .i64 0) (.slice none 0 0))
        have HGP1 : Hid (Grow w1 (putR wa g1 (k * 14) (.int .i64 (d : Int)) (.int .i64 0) (.int .i64 0) (.slice none 0 0))) := HGA.out.then HKP1.out fun x hx (e : x = g1) => by have := HGB1.out; omega
        unfold putR at HP1 HGP1
        clear HKP1 HROW1 HR1
        go_upto_region 15 with (fail)
        generalize (((wa.setCell ⟨g1, k * 14 + 7, none⟩ (.int .i64 (d : Int))).setCell ⟨g1, k * 14 + 7 + 1, none⟩ (.int .i64 0)).setCell ⟨g1, k * 14 + 7 + 2, none⟩ (.int .i64 0)).setCell ⟨g1, k * 14 + 7 + 3, none⟩ (.slice none 0 0) = wb at HP1 HGP1 ⊢
        clear x7 x8 x9 x10 hf1 HGA hd
        obtain ⟨A2, c2, wa2, Q2, hr2, hrow2, hg2⟩ := copy_any 30 (HEV.out.grow HGP1.out) hn5 c
        obtain ⟨g2, rfl, hgb2, hc2, hf2⟩ := row_form hrow2 HKN.out
        have HR2 := Lib.hid hr2
        have HROW2 := Lib.hid hrow2
        have HGA2 := Lib.hid hg2
        have HGB2 := Lib.hid hgb2
        have y13 : wa2.cell? ⟨g2, k * 14 + 13, none⟩ = some (.int .i64 (M k).e) := hc2 13 (by omega)
        have y12 := hc2 12 (by omega)
        clear hr2 hrow2 hg2 hgb2 hc2
        go_upto_region 16 with (at_builtin; refine Lib.wpList_append_run _ rfl _ _ _ _ rfl _ _ rfl rfl _ _ HR2.out ?_)
        have HP2 := Lib.hid (row_stamp HROW2.out HKN.out (z := (M k).e + 1) (by unfold I64; omega))
        have HGP2 : Hid (Grow wb (wa2.setCell ⟨g2, k * 14 + 12, none⟩ (.int .i64 ((M k).e + 1)))) := HGA2.out.then (kept_set wa2 g2 (k * 14 + 12) _) fun x hx (e : x = g2) => by have := HGB2.out; omega
        clear HROW2 HR2
        go_upto_region 17 with (fail)
        generalize wa2.setCell ⟨g2, k * 14 + 12, none⟩ (.int .i64 ((M k).e + 1)) = wc at HP2 HGP2 ⊢
        clear y13 y12 hf2 HGA2
        obtain ⟨A3, c3, wa3, Q3, hr3, hrow3, hg3⟩ := copy_any 30 ((HEV.out.grow HGP1.out).grow HGP2.out) hn5 c
        obtain ⟨g3, rfl, hgb3, hc3, hf3⟩ := row_form hrow3 HKN.out
        have HR3 := Lib.hid hr3
        have HROW3 := Lib.hid hrow3
        have HGA3 := Lib.hid hg3
        have HGB3 := Lib.hid hgb3
        have y12 : wa3.cell? ⟨g3, k * 14 + 12, none⟩ = some (.int .i64 (M k).s) := hc3 12 (by omega)
        have y11 := hc3 11 (by omega)
        clear hr3 hrow3 hg3 hgb3 hc3
        go_upto_region 18 with (at_builtin; refine Lib.wpList_append_run _ rfl _ _ _ _ rfl _ _ rfl rfl _ _ HR3.out ?_)
        have HP3 := Lib.hid (row_begin HROW3.out HKN.out (z := (M k).s + 1) (by unfold I64; omega))
        have HGP3 : Hid (Grow wc (wa3.setCell ⟨g3, k * 14 + 11, none⟩ (.int .i64 ((M k).s + 1)))) := HGA3.out.then (kept_set wa3 g3 (k * 14 + 11) _) fun x hx (e : x = g3) => by have := HGB3.out; omega
        clear HROW3 HR3
        go_upto_region 19 with (fail)
        generalize wa3.setCell ⟨g3, k * 14 + 11, none⟩ (.int .i64 ((M k).s + 1)) = wd at HP3 HGP3 ⊢
        clear y12 y11 hf3 HGA3
        have HE1 := Lib.hid ((HP1.out.evs rfl).grow (HGP2.out.trans HGP3.out))
        have HE2 := Lib.hid ((HP2.out.evs rfl).grow HGP3.out)
        have HE3 := Lib.hid (HP3.out.evs rfl)
        have CA : Hid (∀ wx, Grow wd wx → Calls Try.prog 11 #[.slice (some ⟨g1, 0, none⟩) j c1, .int .i64 5, .int .i64 3] wx (ChkP _ j 5 3 wx)) := fun wx hg => check_any (HE1.out.grow hg) hn5 5 3 c1
        have CRA : Hid (∀ wx, Grow wd wx → Calls Try.prog 18 #[.slice (some ⟨g1, 0, none⟩) j c1, .int .i64 5, .int .i64 3] wx (ChkP _ j 5 3 wx)) := fun wx hg => rcheck_any (HE1.out.grow hg) hn5 5 3 c1
        have CB : Hid (∀ wx, Grow wd wx → Calls Try.prog 11 #[.slice (some ⟨g2, 0, none⟩) j c2, .int .i64 5, .int .i64 3] wx fun e w' => e = .returned (.int .i64 ((k : Int) + 1)) ∧ Grow wx w') := fun wx hg => t_check (HE2.out.grow hg) hn5 (turn_stamp HFI.out HKN.out he1) c2
        have CD : Hid (∀ wx, Grow wd wx → Calls Try.prog 11 #[.slice (some ⟨g3, 0, none⟩) j c3, .int .i64 5, .int .i64 3] wx (ChkP _ j 5 3 wx)) := fun wx hg => check_any (HE3.out.grow hg) hn5 5 3 c3
        go_wp2_with (first
          | (go_at_call 10; (with_reducible refine (told_any _).mono ?_); rintro e wt ⟨rfl, hge⟩; have HGE := Lib.hid hge; clear hge)
          | (go_at_call 11; (with_reducible refine (CA.out _ HGE.out).mono ?_); rintro e wk1 ⟨r1, rfl, hr, hge⟩; have HC1 := Lib.hid hr; have HGK1 := Lib.hid (HGE.out.trans hge); clear hr hge)
          | (go_at_call 18; (with_reducible refine (CRA.out _ HGK1.out).mono ?_); rintro e wk2 ⟨r2, rfl, hr, hge⟩; obtain rfl := chk_unique hr HC1.out; have HGK2 := Lib.hid (HGK1.out.trans hge); clear hr hge)
          | (go_at_call 11; (with_reducible refine (CB.out _ HGK2.out).mono ?_); rintro e wk3 ⟨rfl, hge⟩; have HGK3 := Lib.hid (HGK2.out.trans hge); clear hge)
          | (go_at_call 11; (with_reducible refine (CD.out _ HGK3.out).mono ?_); rintro e wk4 ⟨r4, rfl, hr, hge⟩; have hr4 : (r4 != 0) = true := bne_iff_ne.2 (turn_begin HKN.out HE1X.out hr); have HGK4 := Lib.hid (HGK3.out.trans hge); clear hr hge))
        go_ret
        exact ⟨rfl, Grow.below ((((HG1.out.trans HGP1.out).trans HGP2.out).trans HGP3.out).trans HGK4.out)⟩

set_option maxRecDepth 100000 in
theorem lifted (os : Os) (started : os.Started) (H : Type) (enc : TypeId × Value → H) :
    ReturnsInHanded {} Try.checked os 6 .any (Rows.histTellsSpec.pre6 enc Try.prog Try.f6 Rows.histTellsRow.domain false) (Rows.histTellsSpec.post enc Try.prog Try.f6 false true false false) := by
  refine returnsInHanded_of_change (C := Try.checked) own started (by kernel_rfl) Try.func6
    (ChangeSpec.witness6 (enc := enc) (C := Try.checked) false ⟨#[], #[.slice none 0 0, .slice none 0 0, .int .i64 0, .int .i64 0], []⟩ 8 (by kernel_rfl) (by kernel_rfl) (by kernel_rfl) (by kernel_rfl)) ?_
  intro W base args ds gs before hval0 hW hcnd _
  have hval : ∀ (j : Nat) t v, Try.f6.params[j]? = some t → args[j]? = some v → Value.okWide Try.prog W .any base t v := hval0
  have hW' := hW
  obtain ⟨p, q, hA0, hV, rfl, hfz, hnd⟩ := hW
  have hA : DataW.TrodAll enc Try.prog W 0 (fun _ => true) true Try.f6.params.toList args.toList ds p := hA0
  rw [Try.params6] at hA hval
  obtain ⟨v0, vs0, d0, ds0, p0, q0, hargs, rfl, rfl, h0, r0⟩ := trodAll_cons hA
  obtain ⟨v1, vs1, d1, ds1, p1, q1, rfl, rfl, rfl, h1, r1⟩ := trodAll_cons r0
  obtain ⟨v2, vs2, d2, ds2, p2, q2, rfl, rfl, rfl, h2, r2⟩ := trodAll_cons r1
  obtain ⟨v3, vs3, d3, ds3, p3, q3, rfl, rfl, rfl, h3, r3⟩ := trodAll_cons r2
  obtain ⟨rfl, rfl, rfl⟩ := trodAll_nil r3
  obtain rfl : args = #[v0, v1, v2, v3] := by cases args; simp_all
  obtain ⟨rfl, rfl⟩ := trodVars_none hV
  obtain ⟨a0, len0, cap0, rfl⟩ := okWide_slice Try.underlying53 (hval 0 53 v0 rfl rfl)
  have k0 := h0
  have lt0 : ∀ x ∈ p0, x.block < W.heap.size := by obtain ⟨m, hm⟩ := k0; exact DataW.trod_lt m _ _ _ hm
  have w0 : CallsAt W a0 len0 cap0 := by obtain ⟨fuel, hf⟩ := h0; exact calls_open hf
  obtain ⟨a1, len1, cap1, rfl⟩ := okWide_slice Try.underlying48 (hval 1 48 v1 rfl rfl)
  have k1 := h1
  have lt1 : ∀ x ∈ p1, x.block < W.heap.size := by obtain ⟨m, hm⟩ := k1; exact DataW.trod_lt m _ _ _ hm
  have w1 : IntsAt W a1 len1 cap1 := by obtain ⟨fuel, hf⟩ := h1; exact wait_open hf
  obtain ⟨a2, rfl, rfl, rfl, w2⟩ := open_int Try.underlying3 (hval 2 3 v2 rfl rfl) h2
  obtain ⟨a3, rfl, rfl, rfl, w3⟩ := open_int Try.underlying3 (hval 3 3 v3 rfl rfl) h3
  clear hA0 hval0
  refine (walk a0 len0 cap0 a1 len1 cap1 a2 a3 W w0 w1 w2 w3).mono fun e W' ⟨he, bel⟩ => ?_
  subst he
  exact ⟨_, rfl, _, _, _, [], _, [], hW', trodAll_mk1 (shut_bool Try.underlying4 _), (trodAll_cons_mk (Below.trod laidOut (by kernel_rfl) (of_decide_eq_true (by kernel_rfl)) k0 bel lt0) (trodAll_cons_mk (Below.trod laidOut (by kernel_rfl) (of_decide_eq_true (by kernel_rfl)) k1 bel lt1) (trodAll_cons_mk (shut_int Try.underlying3 w2) (trodAll_cons_mk (shut_int Try.underlying3 w3) trodAll_mk0)))), rfl, bel.frame _, fun h => by cases h⟩

theorem over : Rows.histTellsRow.holds Try.pinned (OpenSpec.ofChange Rows.histTellsSpec) :=
  OpenClaim.holds_of_wide 6 Try.f6 rfl rfl rfl rfl rfl rfl rfl ⟨rfl, rfl, rfl, rfl, rfl⟩ rfl rfl rfl rfl rfl (by kernel_rfl) Try.func6 (by kernel_rfl)
    (of_decide_eq_true (by kernel_rfl)) (by unfold Func.isWrapper; first | (rw [if_pos (by decide +kernel)]; kernel_rfl) | (rw [if_neg (by decide +kernel)]; exact ⟨rfl, rfl⟩))
    (fun os started H enc _ => lifted os started H enc)

/-- ████ THE STATEMENT ████ -/
theorem proved : Rows.HistTellsSaid := over
#print axioms proved
end Go.Proofs.Ytjdlpknflhgkfaa.histTells
