/-
  For every input the call of lavabolaw2.PageSizes returns true and leaves its arguments as they were; no condition.
-/
import Derived.Test.YtmdafgonnkppoaaTold2
import Derived.Deep.Cut
import Derived.Test.YtmdafgonnkppoaaRows
import Derived.WalkKit
import Derived.ProofKit
import Derived.OpenShut
import Derived.ShutString
import Derived.ChangeOld
import Derived.Below
namespace Go.Proofs.Ytmdafgonnkppoaa.pageSizes
open Go.ChangeShapes Go.WideShapes Go.ChangeAt Go.RowKit
open Go.ChangeMaps (open_string shut_string)
open Go.Proofs.Ytmdafgonnkppoaa.SumM Go.Proofs.Ytmdafgonnkppoaa.Mem Go.Proofs.Ytmdafgonnkppoaa.SumC Go.Proofs.Ytmdafgonnkppoaa.Blk Go.Proofs.Ytmdafgonnkppoaa.PageM Go.Proofs.Ytmdafgonnkppoaa.PageC Go.Proofs.Ytmdafgonnkppoaa.PageR Go.Proofs.Ytmdafgonnkppoaa.Told2 Go.Proofs.Ytmdafgonnkppoaa.Stages
set_option linter.unusedVariables false

theorem own : ownKnob Try.prog.godebug = none := by kernel_rfl
theorem laidOut : laidOutB Try.prog = true := by kernel_rfl

/-- WHAT THE WALK IS TOLD OF A SLICE OF INTEGERS THAT CAME IN: it is nil; or it leads to a row of 'cap' cells, the numbers 'zs' (the first 'len' are its elements, the rest its spare room), each fitting its kind. -/
def IsRow (k : IntKind) (w : World) (a : Option Addr) (len cap : Nat) (zs : List Int) : Prop :=
  (a = none ∧ len = 0 ∧ cap = 0 ∧ zs = []) ∨
  ∃ x, a = some x ∧ len ≤ cap ∧ cap ≤ maxLen ∧ zs.length = cap ∧ (∀ i, i < zs.length → w.cell? (x.add i) = some (.int k (zs.getD i 0))) ∧ ∀ n ∈ zs, (Lit.int k n).wf = true

/-! ### STEP 1: THE WALK: the Go text returns true, AND WRITES NOTHING THAT WAS THERE: 'Below w.heap.size w w'' (Derived/Below.lean: '.refl', '.alloc', '.drew', '.setCell' at a new block, '.trans'). Open each 'IsRow' by 'rcases' AHEAD of 'go_enter'; part every test ahead of the walk. -/
set_option maxHeartbeats 1000000 in
theorem walk (a0 : Int) (a1 : Int) (w : World) (w0 : (Lit.int .i64 a0).wf = true) (w1 : (Lit.int .i64 a1).wf = true) :
    Calls Try.prog 7 #[.int .i64 a0, .int .i64 a1] w fun e w' => e = .returned (.bool true) ∧ Below w.heap.size w w' := by
  have k0 := bounds_i64 w0
  have k1 := bounds_i64 w1
  obtain ⟨k, hk, hk41⟩ := tmod_nat a0 41 (by omega)
  obtain ⟨l, hl, hl41⟩ := tmod_nat a1 41 (by omega)
  simp only [Int.cast_ofNat_Int] at hk hl
  have hk1 : (k : Int) < 41 := by omega
  have hl1 : (l : Int) < 41 := by omega
  have hmk := fun (n : Nat) (h : n < 41) w => run_make_row' (P := Try.prog) 22 5 (.int .u8 0) 1 Try.underlying22 infoU8 rfl .i64 .i64 n (by omega) (by omega) w
  have hmk1 := hmk k hk41
  have hmk2 := hmk l hl41
  have hb1 := NBlk.made w 5 .u8 k
  have hg1 : Grow w (w.alloc (.cells (madeCells #[Value.int .u8 0] k) 5)) := (Kept.refl _ _).alloc _
  have HS := Lib.hid (seal_any 1 (some ⟨w.heap.size, 0, none⟩) k k _ _ _ (by omega) (by omega) (zeros_bytes k) (by unfold maxLen; omega) (Sl.of_blk0 hb1 (zeros_len k) (Blk.lt hb1)) (Nat.le_refl _))
  have HO := Lib.hid fun (wx : World) => open_any 1 (some ⟨wx.heap.size, 0, none⟩) l l _ _ _ (by omega) (by omega) (zeros_bytes l) (Nat.le_refl _) (by unfold maxLen; omega) (Sl.of_blk0 (NBlk.made wx 5 .u8 l) (zeros_len l) (Blk.lt (NBlk.made wx 5 .u8 l))) (Nat.le_refl _)
  have HG1 := Lib.hid hg1
  have hsc : sealC 1 k = if k = 16 then 0 else 1 := by
    unfold sealC sealOk isPage
    by_cases h : k = 16 <;> simp [h]
  have hoc : openC 1 (zeros l) = if l = 24 then 11 else 1 := by
    by_cases h : l = 24
    · subst h; rw [openC_zeros (by omega) (by omega), if_pos rfl]
    · rw [openC_bad (by rw [zeros_len]; omega), if_neg h]
  have hsb : k ≠ 16 → sealB 1 (zeros k) = [] := fun h => (sealB_bad (by rw [zeros_len]; omega)).1
  have HSB := Lib.hid hsb
  clear hmk hb1 hg1 hsb
  by_cases e1 : k = 16 <;> by_cases e2 : l = 24
  · subst e1
    subst e2
    rw [if_pos rfl] at hsc
    rw [if_pos rfl] at hoc
    rw [hsc] at HS
    rw [hoc] at HO
    clear hsc hoc HSB
    simp only [Int.cast_ofNat_Int] at hmk1 hk
    simp only [Int.cast_ofNat_Int] at hmk2 hl
    go_enter Try.func7, Try.ntmps7
    go_wp2_with (first
      | (go_at_call 9; (with_reducible refine HS.out.mono ?_); rintro e w1 ⟨A1, n1, c1, rfl, hs1, hgr1⟩; have HGR1 := Lib.hid hgr1; clear hs1 hgr1)
      | (go_at_call 11; (with_reducible refine (HO.out _).mono ?_); rintro e w2 ⟨A2, n2, c2, rfl, hs2, hgr2⟩; have HGR2 := Lib.hid hgr2; clear hs2 hgr2)
      | (go_at_call 8; (with_reducible refine (told_any _).mono ?_); rintro e w4 ⟨rfl, hgr4⟩; have HGR4 := Lib.hid hgr4; clear hgr4))
    go_ret
    exact ⟨rfl, Grow.below ((((HG1.out.trans HGR1.out).alloc _).trans HGR2.out).trans HGR4.out)⟩
  · subst e1
    have b2 : ((l : Int) == 24) = false := by simpa using (by omega : ¬ (l : Int) = 24)
    rw [if_pos rfl] at hsc
    rw [if_neg e2] at hoc
    rw [hsc] at HS
    rw [hoc] at HO
    clear hsc hoc HSB e2
    simp only [Int.cast_ofNat_Int] at hmk1 hk
    go_enter Try.func7, Try.ntmps7
    go_wp2_with (first
      | (go_at_call 9; (with_reducible refine HS.out.mono ?_); rintro e w1 ⟨A1, n1, c1, rfl, hs1, hgr1⟩; have HGR1 := Lib.hid hgr1; clear hs1 hgr1)
      | (go_at_call 11; (with_reducible refine (HO.out _).mono ?_); rintro e w2 ⟨A2, n2, c2, rfl, hs2, hgr2⟩; have HGR2 := Lib.hid hgr2; clear hs2 hgr2)
      | (go_at_call 8; (with_reducible refine (told_any _).mono ?_); rintro e w4 ⟨rfl, hgr4⟩; have HGR4 := Lib.hid hgr4; clear hgr4))
    go_ret
    exact ⟨rfl, Grow.below ((((HG1.out.trans HGR1.out).alloc _).trans HGR2.out).trans HGR4.out)⟩
  · have b1 : ((k : Int) == 16) = false := by simpa using (by omega : ¬ (k : Int) = 16)
    have hsb := HSB.out e1
    rw [hsb] at HS
    subst e2
    rw [if_neg e1] at hsc
    rw [if_pos rfl] at hoc
    rw [hsc] at HS
    rw [hoc] at HO
    clear hsc hoc HSB e1 hsb
    simp only [Int.cast_ofNat_Int] at hmk2 hl
    go_enter Try.func7, Try.ntmps7
    go_wp2_with (first
      | (go_at_call 9; (with_reducible refine HS.out.mono ?_); rintro e w1 ⟨A1, n1, c1, rfl, hs1, hgr1⟩; have HGR1 := Lib.hid hgr1; have hn1 := hs1.len; obtain rfl : n1 = 0 := hn1.symm; clear hs1 hgr1 hn1)
      | (go_at_call 11; (with_reducible refine (HO.out _).mono ?_); rintro e w2 ⟨A2, n2, c2, rfl, hs2, hgr2⟩; have HGR2 := Lib.hid hgr2; clear hs2 hgr2)
      | (go_at_call 8; (with_reducible refine (told_any _).mono ?_); rintro e w4 ⟨rfl, hgr4⟩; have HGR4 := Lib.hid hgr4; clear hgr4))
    go_ret
    exact ⟨rfl, Grow.below ((((HG1.out.trans HGR1.out).alloc _).trans HGR2.out).trans HGR4.out)⟩
  · have b1 : ((k : Int) == 16) = false := by simpa using (by omega : ¬ (k : Int) = 16)
    have hsb := HSB.out e1
    rw [hsb] at HS
    have b2 : ((l : Int) == 24) = false := by simpa using (by omega : ¬ (l : Int) = 24)
    rw [if_neg e1] at hsc
    rw [if_neg e2] at hoc
    rw [hsc] at HS
    rw [hoc] at HO
    clear hsc hoc HSB e1 hsb e2
    go_enter Try.func7, Try.ntmps7
    go_wp2_with (first
      | (go_at_call 9; (with_reducible refine HS.out.mono ?_); rintro e w1 ⟨A1, n1, c1, rfl, hs1, hgr1⟩; have HGR1 := Lib.hid hgr1; have hn1 := hs1.len; obtain rfl : n1 = 0 := hn1.symm; clear hs1 hgr1 hn1)
      | (go_at_call 11; (with_reducible refine (HO.out _).mono ?_); rintro e w2 ⟨A2, n2, c2, rfl, hs2, hgr2⟩; have HGR2 := Lib.hid hgr2; clear hs2 hgr2)
      | (go_at_call 8; (with_reducible refine (told_any _).mono ?_); rintro e w4 ⟨rfl, hgr4⟩; have HGR4 := Lib.hid hgr4; clear hgr4))
    go_ret
    exact ⟨rfl, Grow.below ((((HG1.out.trans HGR1.out).alloc _).trans HGR2.out).trans HGR4.out)⟩

/-! ### THE ROW's STEP: WRITTEN OUT: LEAVE IT -/
set_option maxRecDepth 100000 in
theorem lifted (os : Os) (started : os.Started) (H : Type) (enc : TypeId × Value → H) :
    ReturnsInHanded {} Try.checked os 7 .any (Rows.pageSizesSpec.pre6 enc Try.prog Try.f7 Rows.pageSizesRow.domain false) (Rows.pageSizesSpec.post enc Try.prog Try.f7 false true false false) := by
  refine returnsInHanded_of_change (C := Try.checked) own started (by kernel_rfl) Try.func7
    (ChangeSpec.witness6 (enc := enc) (C := Try.checked) false ⟨#[], #[.int .i64 0, .int .i64 0], []⟩ 8 (by kernel_rfl) (by kernel_rfl) (by kernel_rfl) (by kernel_rfl)) ?_
  intro W base args ds gs before hval0 hW hcnd _
  have hval : ∀ (j : Nat) t v, Try.f7.params[j]? = some t → args[j]? = some v → Value.okWide Try.prog W .any base t v := hval0
  have hW' := hW
  obtain ⟨p, q, hA0, hV, rfl, hfz, hnd⟩ := hW
  have hA : DataW.TrodAll enc Try.prog W 0 (fun _ => true) true Try.f7.params.toList args.toList ds p := hA0
  rw [Try.params7] at hA hval
  obtain ⟨v0, vs0, d0, ds0, p0, q0, hargs, rfl, rfl, h0, r0⟩ := trodAll_cons hA
  obtain ⟨v1, vs1, d1, ds1, p1, q1, rfl, rfl, rfl, h1, r1⟩ := trodAll_cons r0
  obtain ⟨rfl, rfl, rfl⟩ := trodAll_nil r1
  obtain rfl : args = #[v0, v1] := by cases args; simp_all
  obtain ⟨rfl, rfl⟩ := trodVars_none hV
  obtain ⟨a0, rfl, rfl, rfl, w0⟩ := open_int Try.underlying3 (hval 0 3 v0 rfl rfl) h0
  obtain ⟨a1, rfl, rfl, rfl, w1⟩ := open_int Try.underlying3 (hval 1 3 v1 rfl rfl) h1
  clear hA0 hval0
  refine (walk a0 a1 W w0 w1).mono fun e W' ⟨he, bel⟩ => ?_
  subst he
  exact ⟨_, rfl, _, _, _, [], _, [], hW', trodAll_mk1 (shut_bool Try.underlying4 _), (trodAll_cons_mk (shut_int Try.underlying3 w0) (trodAll_cons_mk (shut_int Try.underlying3 w1) trodAll_mk0)), rfl, bel.frame _, fun h => by cases h⟩

theorem over : Rows.pageSizesRow.holds Try.pinned (OpenSpec.ofChange Rows.pageSizesSpec) :=
  OpenClaim.holds_of_wide 7 Try.f7 rfl rfl rfl rfl rfl rfl rfl ⟨rfl, rfl, rfl, rfl, rfl⟩ rfl rfl rfl rfl rfl (by kernel_rfl) Try.func7 (by kernel_rfl)
    (of_decide_eq_true (by kernel_rfl)) (by unfold Func.isWrapper; first | (rw [if_pos (by decide +kernel)]; kernel_rfl) | (rw [if_neg (by decide +kernel)]; exact ⟨rfl, rfl⟩))
    (fun os started H enc _ => lifted os started H enc)

/-- ████ THE STATEMENT ████ -/
theorem proved : Rows.PageSizesSaid := over
#print axioms proved
end Go.Proofs.Ytmdafgonnkppoaa.pageSizes
