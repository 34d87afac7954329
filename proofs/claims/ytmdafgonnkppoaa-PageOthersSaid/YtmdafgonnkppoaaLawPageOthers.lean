/-
  For every input the call of lavabolaw2.PageOthers returns true and leaves its arguments as they were; no condition.
-/
import Derived.Test.YtmdafgonnkppoaaTold2
import Derived.Deep.Cut
import Derived.Test.YtmdafgonnkppoaaRows
import Derived.WalkKit
import Derived.ProofKit
import Derived.OpenShut
import Derived.ShutString
import Derived.ChangeOld
import Derived.Below
namespace Go.Proofs.Ytmdafgonnkppoaa.pageOthers
open Go.ChangeShapes Go.WideShapes Go.ChangeAt Go.RowKit
open Go.ChangeMaps (open_string shut_string)
open Go.Proofs.Ytmdafgonnkppoaa.SumM Go.Proofs.Ytmdafgonnkppoaa.Mem Go.Proofs.Ytmdafgonnkppoaa.SumC Go.Proofs.Ytmdafgonnkppoaa.Blk Go.Proofs.Ytmdafgonnkppoaa.PageM Go.Proofs.Ytmdafgonnkppoaa.PageC Go.Proofs.Ytmdafgonnkppoaa.PageR Go.Proofs.Ytmdafgonnkppoaa.Told2 Go.Proofs.Ytmdafgonnkppoaa.Stages
set_option linter.unusedVariables false

theorem own : ownKnob Try.prog.godebug = none := by kernel_rfl
theorem laidOut : laidOutB Try.prog = true := by kernel_rfl

/-- WHAT THE WALK IS TOLD OF A SLICE OF INTEGERS THAT CAME IN: it is nil; or it leads to a row of 'cap' cells, the numbers 'zs' (the first 'len' are its elements, the rest its spare room), each fitting its kind. -/
def IsRow (k : IntKind) (w : World) (a : Option Addr) (len cap : Nat) (zs : List Int) : Prop :=
  (a = none ∧ len = 0 ∧ cap = 0 ∧ zs = []) ∨
  ∃ x, a = some x ∧ len ≤ cap ∧ cap ≤ maxLen ∧ zs.length = cap ∧ (∀ i, i < zs.length → w.cell? (x.add i) = some (.int k (zs.getD i 0))) ∧ ∀ n ∈ zs, (Lit.int k n).wf = true

/-! ### STEP 1: THE WALK: the Go text returns true, AND WRITES NOTHING THAT WAS THERE: 'Below w.heap.size w w'' (Derived/Below.lean: '.refl', '.alloc', '.drew', '.setCell' at a new block, '.trans'). Open each 'IsRow' by 'rcases' AHEAD of 'go_enter'; part every test ahead of the walk. -/
set_option maxHeartbeats 1000000 in
theorem walk (a0 : Int) (a1 : Int) (a2 : Int) (a3 : Int) (a4 : Int) (w : World) (w0 : (Lit.int .i64 a0).wf = true) (w1 : (Lit.int .i64 a1).wf = true) (w2 : (Lit.int .u8 a2).wf = true) (w3 : (Lit.int .i64 a3).wf = true) (w4 : (Lit.int .u8 a4).wf = true) :
    Calls Try.prog 5 #[.int .i64 a0, .int .i64 a1, .int .u8 a2, .int .i64 a3, .int .u8 a4] w fun e w' => e = .returned (.bool true) ∧ Below w.heap.size w w' := by
  have k0 := bounds_i64 w0
  have k1 := bounds_i64 w1
  have k2 := bounds_u8 w2
  have k3 := bounds_i64 w3
  have k4 := bounds_u8 w4
  have u2 : U8 a2 := ⟨by omega, by omega⟩
  have u4 : U8 a4 := ⟨by omega, by omega⟩
  obtain ⟨p, hp, hp48⟩ := tmod_nat a0 48 (by omega)
  obtain ⟨q, hq, hq48⟩ := tmod_nat a1 48 (by omega)
  obtain ⟨K, hK, hK16⟩ := tmod_nat a3 16 (by omega)
  simp only [Int.cast_ofNat_Int] at hp hq hK
  have hp1 : (p : Int) < 48 := by omega
  have hq1 : (q : Int) < 48 := by omega
  have HF := Lib.hid (fun w => fill_any a2 a3 a4 K w u2 u4 hK hK16)
  have hfl := fillL_bytes K u2 u4
  have hfn := fillL_len a2 K a4
  have HFN := Lib.hid hfn
  clear hK hfn
  generalize fillL a2 K a4 = body at HF hfl HFN
  go_enter Try.func5, Try.ntmps5
  go_wp2_with (go_at_call 15; (with_reducible refine (HF.out _).mono ?_); rintro e w1 ⟨g, rfl, hg, hblk, hgr⟩; have HBLK := Lib.hid hblk; have HGR := Lib.hid hgr; clear hblk hgr)
  refine (seal_good p (some ⟨g, 0, none⟩) 16 _ body w1 (by omega) hp1 hfl (Sl.of_blk0 HBLK.out HFN.out (Blk.lt HBLK.out)) (Nat.le_refl _)).mono ?_
  rintro e w2 ⟨g2, rfl, hg2, hblk2, hgr2⟩
  have HBLK2 := Lib.hid hblk2
  have HGR2 : Hid (Grow w w2) := HGR.out.trans hgr2
  clear hblk2 hgr2
  have hl2 : (sealI (p : Int) body).length = 24 := by rw [seal_len, HFN.out]
  have HO := Lib.hid (open_good q (some ⟨g2, 0, none⟩) 24 _ _ w2 (by omega) hq1 (seal_bytes (by omega) hp1 hfl) (Sl.of_blk0 HBLK2.out hl2 (Blk.lt HBLK2.out)) (Nat.le_refl _) (by omega) (by unfold maxLen; omega))
  by_cases hpq : p = q
  · subst hpq
    have HO1 := Lib.hid (open_is HO.out (openC_seal (by omega) hp1 HFN.out) (openB_seal (by omega) hp1 HFN.out) HFN.out)
    clear hl2 HO
    go_wp2_with (first
      | (go_at_call 11; (with_reducible refine HO1.out.mono ?_); rintro e w3 ⟨g3, c3, rfl, hg3, hblk3, hgr3⟩; have HGR3 := Lib.hid hgr3; clear hblk3 hgr3)
      | (go_at_call 8; (with_reducible refine (told_any _).mono ?_); rintro e w4 ⟨rfl, hgr4⟩; have HGR4 := Lib.hid hgr4; clear hgr4))
    go_ret
    exact ⟨rfl, Grow.below ((HGR2.out.trans HGR3.out).trans HGR4.out)⟩
  · have hne : ((p : Int) == (q : Int)) = false := by simpa using (by omega : ¬ (p : Int) = q)
    have HO1 := Lib.hid (open_not HO.out (openC_other (by omega) hq1 HFN.out (by omega)) (by omega))
    clear hl2 HO hpq
    go_wp2_with (first
      | (go_at_call 11; (with_reducible refine HO1.out.mono ?_); rintro e w3 ⟨rfl, hgr3⟩; have HGR3 := Lib.hid hgr3; clear hgr3)
      | (go_at_call 8; (with_reducible refine (told_any _).mono ?_); rintro e w4 ⟨rfl, hgr4⟩; have HGR4 := Lib.hid hgr4; clear hgr4))
    go_ret
    exact ⟨rfl, Grow.below ((HGR2.out.trans HGR3.out).trans HGR4.out)⟩

/-! ### THE ROW's STEP: WRITTEN OUT: LEAVE IT -/
set_option maxRecDepth 100000 in
theorem lifted (os : Os) (started : os.Started) (H : Type) (enc : TypeId × Value → H) :
    ReturnsInHanded {} Try.checked os 5 .any (Rows.pageOthersSpec.pre6 enc Try.prog Try.f5 Rows.pageOthersRow.domain false) (Rows.pageOthersSpec.post enc Try.prog Try.f5 false true false false) := by
  refine returnsInHanded_of_change (C := Try.checked) own started (by kernel_rfl) Try.func5
    (ChangeSpec.witness6 (enc := enc) (C := Try.checked) false ⟨#[], #[.int .i64 0, .int .i64 0, .int .u8 0, .int .i64 0, .int .u8 0], []⟩ 8 (by kernel_rfl) (by kernel_rfl) (by kernel_rfl) (by kernel_rfl)) ?_
  intro W base args ds gs before hval0 hW hcnd _
  have hval : ∀ (j : Nat) t v, Try.f5.params[j]? = some t → args[j]? = some v → Value.okWide Try.prog W .any base t v := hval0
  have hW' := hW
  obtain ⟨p, q, hA0, hV, rfl, hfz, hnd⟩ := hW
  have hA : DataW.TrodAll enc Try.prog W 0 (fun _ => true) true Try.f5.params.toList args.toList ds p := hA0
  rw [Try.params5] at hA hval
  obtain ⟨v0, vs0, d0, ds0, p0, q0, hargs, rfl, rfl, h0, r0⟩ := trodAll_cons hA
  obtain ⟨v1, vs1, d1, ds1, p1, q1, rfl, rfl, rfl, h1, r1⟩ := trodAll_cons r0
  obtain ⟨v2, vs2, d2, ds2, p2, q2, rfl, rfl, rfl, h2, r2⟩ := trodAll_cons r1
  obtain ⟨v3, vs3, d3, ds3, p3, q3, rfl, rfl, rfl, h3, r3⟩ := trodAll_cons r2
  obtain ⟨v4, vs4, d4, ds4, p4, q4, rfl, rfl, rfl, h4, r4⟩ := trodAll_cons r3
  obtain ⟨rfl, rfl, rfl⟩ := trodAll_nil r4
  obtain rfl : args = #[v0, v1, v2, v3, v4] := by cases args; simp_all
  obtain ⟨rfl, rfl⟩ := trodVars_none hV
  obtain ⟨a0, rfl, rfl, rfl, w0⟩ := open_int Try.underlying3 (hval 0 3 v0 rfl rfl) h0
  obtain ⟨a1, rfl, rfl, rfl, w1⟩ := open_int Try.underlying3 (hval 1 3 v1 rfl rfl) h1
  obtain ⟨a2, rfl, rfl, rfl, w2⟩ := open_int Try.underlying5 (hval 2 5 v2 rfl rfl) h2
  obtain ⟨a3, rfl, rfl, rfl, w3⟩ := open_int Try.underlying3 (hval 3 3 v3 rfl rfl) h3
  obtain ⟨a4, rfl, rfl, rfl, w4⟩ := open_int Try.underlying5 (hval 4 5 v4 rfl rfl) h4
  clear hA0 hval0
  refine (walk a0 a1 a2 a3 a4 W w0 w1 w2 w3 w4).mono fun e W' ⟨he, bel⟩ => ?_
  subst he
  exact ⟨_, rfl, _, _, _, [], _, [], hW', trodAll_mk1 (shut_bool Try.underlying4 _), (trodAll_cons_mk (shut_int Try.underlying3 w0) (trodAll_cons_mk (shut_int Try.underlying3 w1) (trodAll_cons_mk (shut_int Try.underlying5 w2) (trodAll_cons_mk (shut_int Try.underlying3 w3) (trodAll_cons_mk (shut_int Try.underlying5 w4) trodAll_mk0))))), rfl, bel.frame _, fun h => by cases h⟩

theorem over : Rows.pageOthersRow.holds Try.pinned (OpenSpec.ofChange Rows.pageOthersSpec) :=
  OpenClaim.holds_of_wide 5 Try.f5 rfl rfl rfl rfl rfl rfl rfl ⟨rfl, rfl, rfl, rfl, rfl⟩ rfl rfl rfl rfl rfl (by kernel_rfl) Try.func5 (by kernel_rfl)
    (of_decide_eq_true (by kernel_rfl)) (by unfold Func.isWrapper; first | (rw [if_pos (by decide +kernel)]; kernel_rfl) | (rw [if_neg (by decide +kernel)]; exact ⟨rfl, rfl⟩))
    (fun os started H enc _ => lifted os started H enc)

/-- ████ THE STATEMENT ████ -/
theorem proved : Rows.PageOthersSaid := over
#print axioms proved
end Go.Proofs.Ytmdafgonnkppoaa.pageOthers
