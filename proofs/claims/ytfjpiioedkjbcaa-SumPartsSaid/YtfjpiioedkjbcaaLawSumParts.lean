/-
  For every input the call of lavabolaw1.SumParts returns true and leaves its arguments as they were; no condition.
-/
import Derived.Test.YtfjpiioedkjbcaaTold1
import Derived.Test.YtfjpiioedkjbcaaRows
import Derived.WalkKit
import Derived.ProofKit
import Derived.OpenShut
import Derived.ShutString
import Derived.ChangeOld
import Derived.Below
namespace Go.Proofs.Ytfjpiioedkjbcaa.sumParts
open Go.ChangeShapes Go.WideShapes Go.ChangeAt Go.RowKit
open Go.ChangeMaps (open_string shut_string)
open Go.Proofs.Ytfjpiioedkjbcaa.SumM Go.Proofs.Ytfjpiioedkjbcaa.Mem Go.Proofs.Ytfjpiioedkjbcaa.SumC Go.Proofs.Ytfjpiioedkjbcaa.Told1
open Go.Sort (grow)
set_option linter.unusedVariables false

theorem own : ownKnob Try.prog.godebug = none := by kernel_rfl
theorem laidOut : laidOutB Try.prog = true := by kernel_rfl

/-- WHAT THE WALK IS TOLD OF A SLICE OF INTEGERS THAT CAME IN: it is nil; or it leads to a row of 'cap' cells, the numbers 'zs' (the first 'len' are its elements, the rest its spare room), each fitting its kind. -/
def IsRow (k : IntKind) (w : World) (a : Option Addr) (len cap : Nat) (zs : List Int) : Prop :=
  (a = none ∧ len = 0 ∧ cap = 0 ∧ zs = []) ∨
  ∃ x, a = some x ∧ len ≤ cap ∧ cap ≤ maxLen ∧ zs.length = cap ∧ (∀ i, i < zs.length → w.cell? (x.add i) = some (.int k (zs.getD i 0))) ∧ ∀ n ∈ zs, (Lit.int k n).wf = true

/-! ### STEP 1: THE WALK: the Go text returns true, AND WRITES NOTHING THAT WAS THERE: 'Below w.heap.size w w'' (Derived/Below.lean: '.refl', '.alloc', '.drew', '.setCell' at a new block, '.trans'). Open each 'IsRow' by 'rcases' AHEAD of 'go_enter'; part every test ahead of the walk. -/
theorem walk (a0 : Option Addr) (len0 cap0 : Nat) (z0 : List Int) (a1 : Int) (a2 : Int) (w : World) (w0 : IsRow .u8 w a0 len0 cap0 z0) (w1 : (Lit.int .i64 a1).wf = true) (w2 : (Lit.int .u32 a2).wf = true) :
    Calls Try.prog 4 #[.slice a0 len0 cap0, .int .i64 a1, .int .u32 a2] w fun e w' => e = .returned (.bool true) ∧ Below w.heap.size w w' := by
  obtain ⟨hs, hle, hcap, hwf⟩ := Sl.of_isRow w0
  have hz : Bytes (z0.take len0) := fun c hc => by have := bounds_u8 (hwf c hc); exact ⟨by omega, by omega⟩
  clear w0 hwf
  generalize z0.take len0 = zs at hs hz
  have k1 := bounds_i64 w1
  have k2 := bounds_u32 w2
  have u2 : U32 a2 := ⟨by omega, by omega⟩
  by_cases h3 : 300 < len0
  · have h3' : (300 : Int) < (len0 : Int) := by omega
    go_enter Try.func4, Try.ntmps4
    go_wp2_with (go_at_call 8; (with_reducible refine (told_any _).mono ?_); rintro e w' ⟨rfl, hb⟩)
    go_ret
    exact ⟨rfl, hb⟩
  · have h3' : (len0 : Int) ≤ 300 := by omega
    have hn0 : len0 ≤ maxLen := by unfold maxLen; omega
    have hu := wrap_u64_nonneg a1
    obtain ⟨K, hK⟩ : ∃ K : Nat, (IntKind.u64.wrap a1).tmod ((len0 : Int) + 1) = (K : Int) := Int.eq_ofNat_of_zero_le (by rw [IntWalk.rem_in _ _ hu]; exact Int.emod_nonneg _ (by omega))
    have hKl : (K : Int) ≤ (len0 : Int) := by
      have := Int.emod_lt_of_pos (IntKind.u64.wrap a1) (show (0 : Int) < (len0 : Int) + 1 by omega)
      rw [IntWalk.rem_in _ _ hu] at hK
      omega
    have hK0 : (0 : Int) ≤ (K : Int) := by omega
    have hKc : (K : Int) ≤ (cap0 : Int) := by omega
    clear hu
    have hz1 : Bytes (zs.take K) := fun d hd => hz d (List.mem_of_mem_take hd)
    have hz2 : Bytes (zs.drop K) := fun d hd => hz d (List.mem_of_mem_drop hd)
    have hm := moreI_u32 u2 hz1
    have q0 : ∀ d os, _ := quiet_below (w := w) fun w1 _ => told_any w1
    have q1 : ∀ d os, _ := quiet_same (w := w) fun w1 h1 => more_any a2 a0 K cap0 _ _ w1 u2 hz1 (by omega) ((hs.below h1).take (m := K) (by omega))
    have q2 : ∀ d os, _ := quiet_same (w := w) fun w1 h1 => more_any _ _ (len0 - K) (cap0 - K) _ _ w1 hm hz2 (by omega) ((hs.below h1).cut (m := K) (by omega) hle)
    have q3 : ∀ d os, _ := quiet_same (w := w) fun w1 h1 => more_any a2 a0 len0 cap0 _ zs w1 u2 hz hn0 (hs.below h1)
    have q4 : ∀ d os, _ := quiet_same (w := w) fun w1 h1 => of_any a0 len0 cap0 _ zs w1 hz hn0 (hs.below h1)
    have q5 : ∀ d os, _ := quiet_same (w := w) fun w1 h1 => more_any 4294967295 a0 len0 cap0 _ zs w1 ⟨by omega, by omega⟩ hz hn0 (hs.below h1)
    rw [← moreI_append, List.take_append_drop] at q2
    have H4 : ofI zs = bits .xor .u32 IntKind.u32.max (moreI 4294967295 zs) := (u32_not _ (moreI_u32 ⟨by omega, by omega⟩ hz)).symm
    rw [H4] at q4
    clear H4
    go_enter Try.func4, Try.ntmps4
    go_wp2
    refine wp_region_quiet_below (by kernel_rfl) (by kernel_rfl) ?_
    repeat (go_big_quiet_step (first | (with_reducible exact q0 _ _) | (with_reducible exact q1 _ _) | (with_reducible exact q2 _ _) | (with_reducible exact q3 _ _) | (with_reducible exact q4 _ _) | (with_reducible exact q5 _ _)))
    refine wpQuiet_nil ?_
    intro _ hw'
    obtain ⟨⟨dq, osq⟩, hw''⟩ := hw'
    subst hw''
    go_wp2
    all_goals (go_ret; exact ⟨rfl, below_regrown w dq osq⟩)

/-! ### THE ROW's STEP: WRITTEN OUT: LEAVE IT -/
set_option maxRecDepth 100000 in
theorem lifted (os : Os) (started : os.Started) (H : Type) (enc : TypeId × Value → H) :
    ReturnsInHanded {} Try.checked os 4 .any (Rows.sumPartsSpec.pre6 enc Try.prog Try.f4 Rows.sumPartsRow.domain false) (Rows.sumPartsSpec.post enc Try.prog Try.f4 false true false false) := by
  refine returnsInHanded_of_change (C := Try.checked) own started (by kernel_rfl) Try.func4
    (ChangeSpec.witness6 (enc := enc) (C := Try.checked) false ⟨#[], #[.slice none 0 0, .int .i64 0, .int .u32 0], []⟩ 8 (by kernel_rfl) (by kernel_rfl) (by kernel_rfl) (by kernel_rfl)) ?_
  intro W base args ds gs before hval0 hW hcnd _
  have hval : ∀ (j : Nat) t v, Try.f4.params[j]? = some t → args[j]? = some v → Value.okWide Try.prog W .any base t v := hval0
  have hW' := hW
  obtain ⟨p, q, hA0, hV, rfl, hfz, hnd⟩ := hW
  have hA : DataW.TrodAll enc Try.prog W 0 (fun _ => true) true Try.f4.params.toList args.toList ds p := hA0
  rw [Try.params4] at hA hval
  obtain ⟨v0, vs0, d0, ds0, p0, q0, hargs, rfl, rfl, h0, r0⟩ := trodAll_cons hA
  obtain ⟨v1, vs1, d1, ds1, p1, q1, rfl, rfl, rfl, h1, r1⟩ := trodAll_cons r0
  obtain ⟨v2, vs2, d2, ds2, p2, q2, rfl, rfl, rfl, h2, r2⟩ := trodAll_cons r1
  obtain ⟨rfl, rfl, rfl⟩ := trodAll_nil r2
  obtain rfl : args = #[v0, v1, v2] := by cases args; simp_all
  obtain ⟨rfl, rfl⟩ := trodVars_none hV
  obtain ⟨a0, len0, cap0, rfl⟩ := okWide_slice Try.underlying22 (hval 0 22 v0 rfl rfl)
  have k0 := h0
  have lt0 : ∀ x ∈ p0, x.block < W.heap.size := by obtain ⟨m, hm⟩ := k0; exact DataW.trod_lt m _ _ _ hm
  obtain ⟨z0, w0⟩ : ∃ zs, IsRow .u8 W a0 len0 cap0 zs := by
    obtain ⟨fuel, hf⟩ := h0
    rcases open_ints Try.underlying22 Try.underlying5 (by kernel_rfl) hf with ⟨hcs, _⟩ | ⟨x, l, c, zs, hcs, _, hl, hm, hz, _, hcell, hwz⟩
    · simp [Value.cells] at hcs
      obtain ⟨rfl, rfl, rfl⟩ := hcs
      exact ⟨[], .inl ⟨rfl, rfl, rfl, rfl⟩⟩
    · simp [Value.cells] at hcs
      obtain ⟨rfl, rfl, rfl⟩ := hcs
      exact ⟨zs, .inr ⟨_, rfl, hl, hm, by simpa using hz, hcell, hwz⟩⟩
  obtain ⟨a1, rfl, rfl, rfl, w1⟩ := open_int Try.underlying3 (hval 1 3 v1 rfl rfl) h1
  obtain ⟨a2, rfl, rfl, rfl, w2⟩ := open_int Try.underlying23 (hval 2 23 v2 rfl rfl) h2
  clear hA0 hval0
  refine (walk a0 len0 cap0 z0 a1 a2 W w0 w1 w2).mono fun e W' ⟨he, bel⟩ => ?_
  subst he
  exact ⟨_, rfl, _, _, _, [], _, [], hW', trodAll_mk1 (shut_bool Try.underlying4 _), (trodAll_cons_mk (Below.trod laidOut (by kernel_rfl) (of_decide_eq_true (by kernel_rfl)) k0 bel lt0) (trodAll_cons_mk (shut_int Try.underlying3 w1) (trodAll_cons_mk (shut_int Try.underlying23 w2) trodAll_mk0))), rfl, bel.frame _, fun h => by cases h⟩

theorem over : Rows.sumPartsRow.holds Try.pinned (OpenSpec.ofChange Rows.sumPartsSpec) :=
  OpenClaim.holds_of_wide 4 Try.f4 rfl rfl rfl rfl rfl rfl rfl ⟨rfl, rfl, rfl, rfl, rfl⟩ rfl rfl rfl rfl rfl (by kernel_rfl) Try.func4 (by kernel_rfl)
    (of_decide_eq_true (by kernel_rfl)) (by unfold Func.isWrapper; first | (rw [if_pos (by decide +kernel)]; kernel_rfl) | (rw [if_neg (by decide +kernel)]; exact ⟨rfl, rfl⟩))
    (fun os started H enc _ => lifted os started H enc)

/-- ████ THE STATEMENT ████ -/
theorem proved : Rows.SumPartsSaid := over
#print axioms proved
end Go.Proofs.Ytfjpiioedkjbcaa.sumParts
