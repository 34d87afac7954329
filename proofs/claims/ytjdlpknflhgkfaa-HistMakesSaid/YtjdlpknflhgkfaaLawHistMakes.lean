/-
  For every input the call of lavabolaw14.HistMakes returns true and leaves its arguments as they were; no condition.
-/
import Derived.Test.YtjdlpknflhgkfaaTold14
import Derived.Test.YtjdlpknflhgkfaaHsTop
import Derived.Test.YtjdlpknflhgkfaaHsHist
import Derived.Test.YtjdlpknflhgkfaaRows
import Derived.WalkKit
import Derived.ProofKit
import Derived.OpenShut
import Derived.ShutString
import Derived.ChangeOld
import Derived.Below
namespace Go.Proofs.Ytjdlpknflhgkfaa.histMakes
open Go.ChangeShapes Go.WideShapes Go.ChangeAt Go.RowKit
open Go.ChangeMaps (open_string shut_string)
open Go.Proofs.Ytjdlpknflhgkfaa.Mem Go.Proofs.Ytjdlpknflhgkfaa.Blk Go.Proofs.Ytjdlpknflhgkfaa.Cells Go.Proofs.Ytjdlpknflhgkfaa.MdM Go.Proofs.Ytjdlpknflhgkfaa.MdC Go.Proofs.Ytjdlpknflhgkfaa.HsM Go.Proofs.Ytjdlpknflhgkfaa.HsE Go.Proofs.Ytjdlpknflhgkfaa.HsB Go.Proofs.Ytjdlpknflhgkfaa.HsC Go.Proofs.Ytjdlpknflhgkfaa.HsO Go.Proofs.Ytjdlpknflhgkfaa.HsRO Go.Proofs.Ytjdlpknflhgkfaa.HsRC Go.Proofs.Ytjdlpknflhgkfaa.HsRS Go.Proofs.Ytjdlpknflhgkfaa.HsK Go.Proofs.Ytjdlpknflhgkfaa.HsT Go.Proofs.Ytjdlpknflhgkfaa.HsF Go.Proofs.Ytjdlpknflhgkfaa.HsW Go.Proofs.Ytjdlpknflhgkfaa.HsRm Go.Proofs.Ytjdlpknflhgkfaa.HsMk Go.Proofs.Ytjdlpknflhgkfaa.HsMake Go.Proofs.Ytjdlpknflhgkfaa.HsRest Go.Proofs.Ytjdlpknflhgkfaa.PmM Go.Proofs.Ytjdlpknflhgkfaa.PmC Go.Proofs.Ytjdlpknflhgkfaa.MdI Go.Proofs.Ytjdlpknflhgkfaa.Calls13 Go.Proofs.Ytjdlpknflhgkfaa.Args13 Go.Proofs.Ytjdlpknflhgkfaa.Told14 Go.Proofs.Ytjdlpknflhgkfaa.Stages
set_option linter.unusedVariables false

theorem own : ownKnob Try.prog.godebug = none := by kernel_rfl
theorem laidOut : laidOutB Try.prog = true := by kernel_rfl

set_option maxHeartbeats 8000000 in
set_option maxRecDepth 100000 in
theorem walk (a0 : Option Addr) (len0 cap0 : Nat) (a1 : Option Addr) (len1 cap1 : Nat) (w : World) (w0 : CallsAt w a0 len0 cap0) (w1 : IntsAt w a1 len1 cap1) :
    Calls Try.prog 5 #[.slice a0 len0 cap0, .slice a1 len1 cap1] w fun e w' => e = .returned (.bool true) ∧ Below w.heap.size w w' := by
  have HCA := Lib.hid w0
  obtain ⟨hlc, hcm, hops⟩ := w0
  obtain ⟨ds, hwt⟩ := w1
  unfold maxLen at hcm
  have HOPS := Lib.hid hops
  have HWT := Lib.hid hwt
  clear hops hwt
  go_enter Try.func5, Try.ntmps5
  by_cases h50 : 50 < len0
  · have h50z : (50 : Int) < (len0 : Int) := by omega
    go_wp2_with (go_at_call 10; (with_reducible refine (told_any _).mono ?_); rintro e wt ⟨rfl, hge⟩; have HGE := Lib.hid hge; clear hge)
    go_ret
    exact ⟨rfl, Grow.below HGE.out⟩
  have h50z : (len0 : Int) ≤ 50 := by omega
  go_wp2
  go_loopg [5] len0 (fun gx v5 wx => ∃ j : Nat, j + gx = len0 ∧ v5 = .int .i64 (j : Int) ∧ wx = w)
  case atStart => exact ⟨0, by omega, rfl, rfl⟩
  case round =>
    obtain ⟨j, hg, rfl, hwx⟩ := hrel
    subst hwx
    have HG := Lib.hid hg
    clear hg
    by_cases hj : j < len0
    · have hjz : (j : Int) < (len0 : Int) := by omega
      have HJ := Lib.hid hj
      obtain ⟨ab, ao, rfl, hab, hall⟩ := HOPS.out (by omega)
      obtain ⟨x, hx⟩ := hall j hj
      have cd := hx.d
      clear hall hx hj hab
      by_cases h40 : 40 < x.len
      · have h40y : (40 : Int) < (x.len : Int) := by omega
        go_wp2_with (go_at_call 10; (with_reducible refine (told_any _).mono ?_); rintro e wt ⟨rfl, hge⟩; have HGE := Lib.hid hge; clear hge)
        go_ret
        exact ⟨rfl, Grow.below HGE.out⟩
      have h40y : (x.len : Int) ≤ 40 := by omega
      clear h40
      go_wp2
      go_roundg (gk - 1)
      case measure => have := HG.out; have := HJ.out; omega
      case rel => exact ⟨j + 1, by have := HG.out; have := HJ.out; omega, by go_num, rfl⟩
    · have hjN : j = len0 := by have := HG.out; omega
      subst hjN
      clear hj HOPS
      have CM := Lib.hid (make_any HCA.out (by omega) HWT.out cap1)
      go_upto_region 9 with (go_at_call 22; (with_reducible refine CM.out.mono ?_); rintro e w1 ⟨A, c, L, O, now, rfl, h1, h2, hev, hI, hnow, hg⟩; have HG1 := Lib.hid hg; have CR := Lib.hid (restore_any hev (by omega) hI.fst c); clear h1 h2 hev hI hnow hg)
      go_upto_region 10 with (go_at_call 23; (with_reducible refine CR.out.mono ?_); rintro e w2 ⟨A', c', M, a, rfl, h1, h2, hev, hlk, hf, hg⟩; have HG2 := Lib.hid (HG1.out.trans hg); have HEV := Lib.hid hev; have HFI := Lib.hid hf; clear h1 h2 hev hlk hf hg)
      clear CM CR
      have hn5 : j ≤ 100000 := by omega
      have CFI := Lib.hid (final_any HEV.out hn5 5 3 c')
      have CRF : Hid (∀ wx, Grow w2 wx → Calls Try.prog 14 #[.slice A' j c', .int .i64 5, .int .i64 3] wx (RFinP M j 5 3 wx)) := fun wx hg => rfinal_any (HEV.out.grow hg) hn5 5 3 c'
      have CK : Hid (∀ wx, Grow w2 wx → Calls Try.prog 11 #[.slice A' j c', .int .i64 5, .int .i64 3] wx fun e w' => e = .returned (.int .i64 0) ∧ Grow wx w') := fun wx hg => t_check (HEV.out.grow hg) hn5 (fin_chk HFI.out) c'
      clear hn5
      go_upto_region 11 with (go_at_call 13; (with_reducible refine CFI.out.mono ?_); rintro e w3 ⟨X1, n1, c1, X2, n2, c2, X3, n3, c3, b1, rfl, hb, hs, hg⟩; obtain rfl : b1 = true := hb.2 ⟨_, HFI.out⟩; have HS1 := Lib.hid (hs _ HFI.out); have HG3 := Lib.hid hg; clear hb hs hg)
      obtain ⟨hbs, hgs⟩ := st_box w3 (.slice X1 n1 c1) (.slice X2 n2 c2) (.slice X3 n3 c3)
      generalize w3.alloc (.cells #[.slice X1 n1 c1, .slice X2 n2 c2, .slice X3 n3 c3] 39) = w4 at hbs hgs ⊢
      generalize w3.heap.size = gs at hbs ⊢
      have HG4 : Hid (Grow w2 w4) := HG3.out.trans hgs
      have HP4 := Lib.hid (HS1.out.grow hgs)
      have HBS := Lib.hid hbs
      clear hbs hgs
      go_upto_region 12 with (go_at_call 14; (with_reducible refine (CRF.out _ HG4.out).mono ?_); rintro e w5 ⟨Y1, m1, d1, Y2, m2, d2, Y3, m3, d3, b2, rfl, hb, hs, hg⟩; obtain rfl : b2 = true := hb.2 ⟨_, HFI.out⟩; have HS2 := Lib.hid (hs _ HFI.out); have HGF := Lib.hid hg; clear hb hs hg)
      obtain ⟨hbx, hgx⟩ := s_box w5 (.slice Y1 m1 d1) (.slice Y2 m2 d2) (.slice Y3 m3 d3)
      generalize w5.alloc (.cells #[.slice Y1 m1 d1, .slice Y2 m2 d2, .slice Y3 m3 d3] 44) = w6 at hbx hgx ⊢
      generalize w5.heap.size = gx at hbx ⊢
      have HG6 : Hid (Grow w2 w6) := (HG4.out.trans HGF.out).trans hgx
      have HP6 := Lib.hid ((HP4.out.grow HGF.out).grow hgx)
      have HS6 := Lib.hid (HS2.out.grow hgx)
      have HBX := Lib.hid hbx
      have HBS6 := Lib.hid ((HBS.out.grow HGF.out).grow hgx)
      clear hbx hgx
      go_wp2_with (first
        | (go_at_call 10; (with_reducible refine (told_any _).mono ?_); rintro e wt ⟨rfl, hge⟩; have HGE := Lib.hid hge; clear hge)
        | (go_at_call 11; (with_reducible refine (CK.out _ (HG6.out.trans HGE.out)).mono ?_); rintro e wk ⟨rfl, hge⟩; have HGK := Lib.hid (HGE.out.trans hge); have h5 := HBS6.out.grow HGK.out; have h6 := HBX.out.grow HGK.out; have x0 := h5.cell 0; have x1 := h5.cell 1; have x2 := h5.cell 2; have z0 := h6.cell 0; have z1 := h6.cell 1; have z2 := h6.cell 2; simp only [List.getElem?_cons_zero, List.getElem?_cons_succ] at x0 x1 x2 z0 z1 z2; clear hge h5 h6)
        | (go_at_call 19; (with_reducible refine (is_true (HS6.out.grow HGK.out) (HP6.out.grow HGK.out).seen).mono ?_); rintro e ws ⟨rfl, hge⟩; have HGS := Lib.hid hge; clear hge))
      go_ret
      exact ⟨rfl, Grow.below ((HG2.out.trans HG6.out).trans (HGK.out.trans HGS.out))⟩

set_option maxRecDepth 100000 in
theorem lifted (os : Os) (started : os.Started) (H : Type) (enc : TypeId × Value → H) :
    ReturnsInHanded {} Try.checked os 5 .any (Rows.histMakesSpec.pre6 enc Try.prog Try.f5 Rows.histMakesRow.domain false) (Rows.histMakesSpec.post enc Try.prog Try.f5 false true false false) := by
  refine returnsInHanded_of_change (C := Try.checked) own started (by kernel_rfl) Try.func5
    (ChangeSpec.witness6 (enc := enc) (C := Try.checked) false ⟨#[], #[.slice none 0 0, .slice none 0 0], []⟩ 8 (by kernel_rfl) (by kernel_rfl) (by kernel_rfl) (by kernel_rfl)) ?_
  intro W base args ds gs before hval0 hW hcnd _
  have hval : ∀ (j : Nat) t v, Try.f5.params[j]? = some t → args[j]? = some v → Value.okWide Try.prog W .any base t v := hval0
  have hW' := hW
  obtain ⟨p, q, hA0, hV, rfl, hfz, hnd⟩ := hW
  have hA : DataW.TrodAll enc Try.prog W 0 (fun _ => true) true Try.f5.params.toList args.toList ds p := hA0
  rw [Try.params5] at hA hval
  obtain ⟨v0, vs0, d0, ds0, p0, q0, hargs, rfl, rfl, h0, r0⟩ := trodAll_cons hA
  obtain ⟨v1, vs1, d1, ds1, p1, q1, rfl, rfl, rfl, h1, r1⟩ := trodAll_cons r0
  obtain ⟨rfl, rfl, rfl⟩ := trodAll_nil r1
  obtain rfl : args = #[v0, v1] := by cases args; simp_all
  obtain ⟨rfl, rfl⟩ := trodVars_none hV
  obtain ⟨a0, len0, cap0, rfl⟩ := okWide_slice Try.underlying53 (hval 0 53 v0 rfl rfl)
  have k0 := h0
  have lt0 : ∀ x ∈ p0, x.block < W.heap.size := by obtain ⟨m, hm⟩ := k0; exact DataW.trod_lt m _ _ _ hm
  have w0 : CallsAt W a0 len0 cap0 := by obtain ⟨fuel, hf⟩ := h0; exact calls_open hf
  obtain ⟨a1, len1, cap1, rfl⟩ := okWide_slice Try.underlying48 (hval 1 48 v1 rfl rfl)
  have k1 := h1
  have lt1 : ∀ x ∈ p1, x.block < W.heap.size := by obtain ⟨m, hm⟩ := k1; exact DataW.trod_lt m _ _ _ hm
  have w1 : IntsAt W a1 len1 cap1 := by obtain ⟨fuel, hf⟩ := h1; exact wait_open hf
  clear hA0 hval0
  refine (walk a0 len0 cap0 a1 len1 cap1 W w0 w1).mono fun e W' ⟨he, bel⟩ => ?_
  subst he
  exact ⟨_, rfl, _, _, _, [], _, [], hW', trodAll_mk1 (shut_bool Try.underlying4 _), (trodAll_cons_mk (Below.trod laidOut (by kernel_rfl) (of_decide_eq_true (by kernel_rfl)) k0 bel lt0) (trodAll_cons_mk (Below.trod laidOut (by kernel_rfl) (of_decide_eq_true (by kernel_rfl)) k1 bel lt1) trodAll_mk0)), rfl, bel.frame _, fun h => by cases h⟩

theorem over : Rows.histMakesRow.holds Try.pinned (OpenSpec.ofChange Rows.histMakesSpec) :=
  OpenClaim.holds_of_wide 5 Try.f5 rfl rfl rfl rfl rfl rfl rfl ⟨rfl, rfl, rfl, rfl, rfl⟩ rfl rfl rfl rfl rfl (by kernel_rfl) Try.func5 (by kernel_rfl)
    (of_decide_eq_true (by kernel_rfl)) (by unfold Func.isWrapper; first | (rw [if_pos (by decide +kernel)]; kernel_rfl) | (rw [if_neg (by decide +kernel)]; exact ⟨rfl, rfl⟩))
    (fun os started H enc _ => lifted os started H enc)

/-- ████ THE STATEMENT ████ -/
theorem proved : Rows.HistMakesSaid := over
#print axioms proved
end Go.Proofs.Ytjdlpknflhgkfaa.histMakes
