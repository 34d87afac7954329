/-
  For every input the call of lavabolaw19.DirBuckets returns true and leaves its arguments as they were; no condition.
-/
import Derived.Test.YtfmlbpnilblkjaaTold19
import Derived.Test.YtfmlbpnilblkjaaRows
import Derived.WalkKit
import Derived.ProofKit
import Derived.OpenShut
import Derived.ShutString
import Derived.ChangeOld
import Derived.Below
namespace Go.Proofs.Ytfmlbpnilblkjaa.dirBuckets
open Go.ChangeShapes Go.WideShapes Go.ChangeAt Go.RowKit
open Go.ChangeMaps (open_string shut_string)
open Go.Proofs.Ytfmlbpnilblkjaa.Mem Go.Proofs.Ytfmlbpnilblkjaa.Blk Go.Proofs.Ytfmlbpnilblkjaa.Cells Go.Proofs.Ytfmlbpnilblkjaa.GsC Go.Proofs.Ytfmlbpnilblkjaa.HasC Go.Proofs.Ytfmlbpnilblkjaa.DrC Go.Proofs.Ytfmlbpnilblkjaa.DrY Go.Proofs.Ytfmlbpnilblkjaa.DrD Go.Proofs.Ytfmlbpnilblkjaa.DrN Go.Proofs.Ytfmlbpnilblkjaa.Told19 Go.Proofs.Ytfmlbpnilblkjaa.Stages
set_option linter.unusedVariables false

theorem own : ownKnob Try.prog.godebug = none := by kernel_rfl
theorem laidOut : laidOutB Try.prog = true := by kernel_rfl

/-- WHAT THE WALK IS TOLD OF A SLICE OF INTEGERS THAT CAME IN: it is nil; or it leads to a row of 'cap' cells, the numbers 'zs' (the first 'len' are its elements, the rest its spare room), each fitting its kind. -/
def IsRow (k : IntKind) (w : World) (a : Option Addr) (len cap : Nat) (zs : List Int) : Prop :=
  (a = none ∧ len = 0 ∧ cap = 0 ∧ zs = []) ∨
  ∃ x, a = some x ∧ len ≤ cap ∧ cap ≤ maxLen ∧ zs.length = cap ∧ (∀ i, i < zs.length → w.cell? (x.add i) = some (.int k (zs.getD i 0))) ∧ ∀ n ∈ zs, (Lit.int k n).wf = true

/-- How many of the first j pages are in bucket B. -/
def cnt (B : Nat) : Nat → Nat
  | 0 => 0
  | j + 1 => if bkt j = B then cnt B j + 1 else cnt B j
theorem cnt_three : ∀ B, B < 16 → cnt B 48 = 3 := by decide
theorem cnt_le (B : Nat) : ∀ j, cnt B j ≤ j
  | 0 => Nat.le_refl _
  | j + 1 => by
    have := cnt_le B j
    show (if bkt j = B then cnt B j + 1 else cnt B j) ≤ j + 1
    by_cases h : bkt j = B
    · rw [if_pos h]; omega
    · rw [if_neg h]; omega
/-! ### STEP 1: THE WALK: the Go text returns true, AND WRITES NOTHING THAT WAS THERE: 'Below w.heap.size w w'' (Derived/Below.lean: '.refl', '.alloc', '.drew', '.setCell' at a new block, '.trans'). Open each 'IsRow' by 'rcases' AHEAD of 'go_enter'; part every test ahead of the walk. -/
set_option maxHeartbeats 4000000 in
theorem walk (a0 : Int) (w : World) (w0 : (Lit.int .i64 a0).wf = true) :
    Calls Try.prog 5 #[.int .i64 a0] w fun e w' => e = .returned (.bool true) ∧ Below w.heap.size w w' := by
  have k0 := bounds_i64 w0
  obtain ⟨B, hB, hB16⟩ := tmod_nat a0 16 (by omega)
  simp only [Int.cast_ofNat_Int] at hB
  have hBz : (B : Int) < 16 := by omega
  have HB16 := Lib.hid hB16
  clear hB16 w0
  go_enter Try.func5, Try.ntmps5
  go_wp2
  go_loopg [4, 5] 48 (fun gx s i wr => ∃ j : Nat, j + gx = 48 ∧ i = .int .i64 (j : Int) ∧ s = .int .i64 (cnt B j : Int) ∧ w = wr)
  case atStart => exact ⟨0, by omega, rfl, rfl, rfl⟩
  case round =>
    obtain ⟨j, hg, rfl, rfl, rfl⟩ := hrel
    have HG := Lib.hid hg
    clear hg
    by_cases hj : j < 48
    · have hjz : (j : Int) < 48 := by omega
      have CB := Lib.hid fun (w : World) => bucket_good (w := w) j (by omega)
      have hk := bkt_lt j
      have hc := cnt_le B j
      have hcz : (cnt B j : Int) ≤ 48 := by omega
      have hc0 : 0 ≤ (cnt B j : Int) := by omega
      by_cases he : bkt j = B
      · have hs : cnt B (j + 1) = cnt B j + 1 := if_pos he
        have HS := Lib.hid hs
        rw [he] at CB
        clear hs hk hc he
        generalize cnt B j = N at *
        go_wp2_with (go_at_call 15; (with_reducible refine (CB.out _).mono ?_); rintro e w' ⟨rfl, rfl⟩)
        go_roundg (gk - 1)
        case measure => have := HG.out; omega
        case rel => exact ⟨j + 1, by have := HG.out; omega, by go_num, by rw [HS.out]; go_num, rfl⟩
      · have hs : cnt B (j + 1) = cnt B j := if_neg he
        have HS := Lib.hid hs
        have hez : ((bkt j : Int) == (B : Int)) = false := beq_eq_false_iff_ne.2 (by omega)
        have hkz : (bkt j : Int) < 16 := by omega
        clear hs hk hc he
        generalize cnt B j = N at *
        generalize bkt j = K at *
        go_wp2_with (go_at_call 15; (with_reducible refine (CB.out _).mono ?_); rintro e w' ⟨rfl, rfl⟩)
        go_roundg (gk - 1)
        case measure => have := HG.out; omega
        case rel => exact ⟨j + 1, by have := HG.out; omega, by go_num, by rw [HS.out], rfl⟩
    · obtain rfl : j = 48 := by have := HG.out; omega
      rw [cnt_three B HB16.out]
      go_wp2_with (go_at_call 8; (with_reducible refine (told_any _).mono ?_); rintro e w5 ⟨rfl, hge⟩; have HGE := Lib.hid hge; clear hge)
      go_ret
      exact ⟨rfl, Grow.below HGE.out⟩

/-! ### THE ROW's STEP: WRITTEN OUT: LEAVE IT -/
set_option maxRecDepth 100000 in
theorem lifted (os : Os) (started : os.Started) (H : Type) (enc : TypeId × Value → H) :
    ReturnsInHanded {} Try.checked os 5 .any (Rows.dirBucketsSpec.pre6 enc Try.prog Try.f5 Rows.dirBucketsRow.domain false) (Rows.dirBucketsSpec.post enc Try.prog Try.f5 false true false false) := by
  refine returnsInHanded_of_change (C := Try.checked) own started (by kernel_rfl) Try.func5
    (ChangeSpec.witness6 (enc := enc) (C := Try.checked) false ⟨#[], #[.int .i64 0], []⟩ 8 (by kernel_rfl) (by kernel_rfl) (by kernel_rfl) (by kernel_rfl)) ?_
  intro W base args ds gs before hval0 hW hcnd _
  have hval : ∀ (j : Nat) t v, Try.f5.params[j]? = some t → args[j]? = some v → Value.okWide Try.prog W .any base t v := hval0
  have hW' := hW
  obtain ⟨p, q, hA0, hV, rfl, hfz, hnd⟩ := hW
  have hA : DataW.TrodAll enc Try.prog W 0 (fun _ => true) true Try.f5.params.toList args.toList ds p := hA0
  rw [Try.params5] at hA hval
  obtain ⟨v0, vs0, d0, ds0, p0, q0, hargs, rfl, rfl, h0, r0⟩ := trodAll_cons hA
  obtain ⟨rfl, rfl, rfl⟩ := trodAll_nil r0
  obtain rfl : args = #[v0] := by cases args; simp_all
  obtain ⟨rfl, rfl⟩ := trodVars_none hV
  obtain ⟨a0, rfl, rfl, rfl, w0⟩ := open_int Try.underlying3 (hval 0 3 v0 rfl rfl) h0
  clear hA0 hval0
  refine (walk a0 W w0).mono fun e W' ⟨he, bel⟩ => ?_
  subst he
  exact ⟨_, rfl, _, _, _, [], _, [], hW', trodAll_mk1 (shut_bool Try.underlying4 _), (trodAll_cons_mk (shut_int Try.underlying3 w0) trodAll_mk0), rfl, bel.frame _, fun h => by cases h⟩

theorem over : Rows.dirBucketsRow.holds Try.pinned (OpenSpec.ofChange Rows.dirBucketsSpec) :=
  OpenClaim.holds_of_wide 5 Try.f5 rfl rfl rfl rfl rfl rfl rfl ⟨rfl, rfl, rfl, rfl, rfl⟩ rfl rfl rfl rfl rfl (by kernel_rfl) Try.func5 (by kernel_rfl)
    (of_decide_eq_true (by kernel_rfl)) (by unfold Func.isWrapper; first | (rw [if_pos (by decide +kernel)]; kernel_rfl) | (rw [if_neg (by decide +kernel)]; exact ⟨rfl, rfl⟩))
    (fun os started H enc _ => lifted os started H enc)

/-- ████ THE STATEMENT ████ -/
theorem proved : Rows.DirBucketsSaid := over
#print axioms proved
end Go.Proofs.Ytfmlbpnilblkjaa.dirBuckets
