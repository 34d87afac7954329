/-
  For every input the call of lavabolaw11.CoreClean returns true and leaves its arguments as they were; no condition.
-/
import Derived.Test.YtcmhkknoffeebaaCoRow
import Derived.Test.YtcmhkknoffeebaaRows
import Derived.WalkKit
import Derived.ProofKit
import Derived.OpenShut
import Derived.ShutString
import Derived.ChangeOld
import Derived.Below
namespace Go.Proofs.Ytcmhkknoffeebaa.coreClean
open Go.ChangeShapes Go.WideShapes Go.ChangeAt Go.RowKit
open Go.ChangeMaps (open_string shut_string)
open Go.Proofs.Ytcmhkknoffeebaa.Mem Go.Proofs.Ytcmhkknoffeebaa.Blk Go.Proofs.Ytcmhkknoffeebaa.Cells Go.Proofs.Ytcmhkknoffeebaa.Orow Go.Proofs.Ytcmhkknoffeebaa.ArM Go.Proofs.Ytcmhkknoffeebaa.ArC Go.Proofs.Ytcmhkknoffeebaa.ArD Go.Proofs.Ytcmhkknoffeebaa.CoM Go.Proofs.Ytcmhkknoffeebaa.CoC Go.Proofs.Ytcmhkknoffeebaa.CoO Go.Proofs.Ytcmhkknoffeebaa.CoS Go.Proofs.Ytcmhkknoffeebaa.CoW Go.Proofs.Ytcmhkknoffeebaa.Told11 Go.Proofs.Ytcmhkknoffeebaa.Stages
set_option linter.unusedVariables false

theorem own : ownKnob Try.prog.godebug = none := by kernel_rfl
theorem laidOut : laidOutB Try.prog = true := by kernel_rfl

/-- WHAT THE WALK IS TOLD OF A SLICE OF INTEGERS THAT CAME IN: it is nil; or it leads to a row of 'cap' cells, the numbers 'zs' (the first 'len' are its elements, the rest its spare room), each fitting its kind. -/
def IsRow (k : IntKind) (w : World) (a : Option Addr) (len cap : Nat) (zs : List Int) : Prop :=
  (a = none ∧ len = 0 ∧ cap = 0 ∧ zs = []) ∨
  ∃ x, a = some x ∧ len ≤ cap ∧ cap ≤ maxLen ∧ zs.length = cap ∧ (∀ i, i < zs.length → w.cell? (x.add i) = some (.int k (zs.getD i 0))) ∧ ∀ n ∈ zs, (Lit.int k n).wf = true

def Rel (w : World) (B d : Nat) (bit : Nat → Bool) (k : Nat) (g : Nat) (i : Value) (wx : World) : Prop := ∃ (j : Nat) (c : Co), j + g = k ∧ i = .int .i64 (j : Int) ∧ CI bit k j c ∧ CoAt wx (B ≤ ·) B d c ∧ Grow w wx
theorem bit01 (x : Int) : bits .and .i64 x 1 = 0 ∨ bits .and .i64 x 1 = 1 := by
  unfold bits
  dsimp only
  rw [BitVec.toNat_and, show (BitVec.ofInt IntKind.i64.bits 1).toNat = 1 by decide, Nat.and_one_is_mod]
  rcases Nat.mod_two_eq_zero_or_one (BitVec.ofInt IntKind.i64.bits x).toNat with h | h
  · rw [h]; exact .inl (by decide)
  · rw [h]; exact .inr (by decide)
/-! ### STEP 1: THE WALK: the Go text returns true, AND WRITES NOTHING THAT WAS THERE: 'Below w.heap.size w w'' (Derived/Below.lean: '.refl', '.alloc', '.drew', '.setCell' at a new block, '.trans'). Open each 'IsRow' by 'rcases' AHEAD of 'go_enter'; part every test ahead of the walk. -/
set_option maxHeartbeats 4000000 in
set_option maxRecDepth 100000 in
theorem walk (a0 : Int) (a1 : Int) (w : World) (w0 : (Lit.int .i64 a0).wf = true) (w1 : (Lit.int .i64 a1).wf = true) :
    Calls Try.prog 5 #[.int .i64 a0, .int .i64 a1] w fun e w' => e = .returned (.bool true) ∧ Below w.heap.size w w' := by
  have k1 := bounds_i64 w1
  obtain ⟨q, hq, hq6⟩ := tmod_nat a0 6 (by omega)
  simp only [Int.cast_ofNat_Int] at hq
  obtain ⟨k, hk⟩ : ∃ k : Nat, k = 1 + q := ⟨_, rfl⟩
  have hkz : (1 : Int) + (q : Int) = (k : Int) := by omega
  have hk1 : 1 ≤ k := by omega
  have hk6 : k ≤ 6 := by omega
  have hkz6 : (k : Int) ≤ 6 := by omega
  have hqz : (q : Int) < 6 := by omega
  obtain ⟨B, hB⟩ : ∃ B, B = w.heap.size := ⟨_, rfl⟩
  have HB := Lib.hid hB
  have CN := Lib.hid (new_good (w := w) k (by omega))
  obtain ⟨bit, hbit⟩ : ∃ bit : Nat → Bool, bit = fun x => (bits BinOp.and IntKind.i64 (a1 / 2 ^ x) 1 == 1) := ⟨_, rfl⟩
  have HBIT := Lib.hid hbit
  clear hbit hB hk
  go_enter Try.func5, Try.ntmps5
  go_wp2_with (first
    | (go_at_call 7; (try rw [hkz]); (with_reducible refine CN.out.mono ?_); rintro e w1 ⟨d, rfl, hr, hg⟩; rw [← HB.out] at hr; have H0 := Lib.hid hr; have G0 := Lib.hid hg; clear hr hg)
    | (go_at_call 8; (with_reducible refine (t_arena H0.out).mono ?_); rintro e w' ⟨⟨da1, dl1, Dl1, dr1, rfl, _⟩, rfl⟩))
  clear hq hq6 hqz
  go_loopg [7] k (Rel w B d bit k)
  case atStart => exact ⟨0, _, by omega, rfl, ci_zero bit (by omega), H0.out, G0.out⟩
  case round =>
    obtain ⟨j, c, hg, rfl, hi, hc, hgr⟩ := hrel
    have HG := Lib.hid hg
    have HII := Lib.hid hi
    have HC := Lib.hid hc
    have HGR := Lib.hid hgr
    clear hg hi hc hgr
    by_cases hj : j < k
    · have hjz : (j : Int) < (k : Int) := by omega
      have HJ := Lib.hid hj
      have HM := Lib.hid (ci_come HII.out hj (by omega))
      have HMK : Hid (∀ q : Bool, ((c.room (j : Int)).unpin (j : Int)).a.markC (j : Int) = 0 ∧ CI (TabM.upd (TabM.upd bit j false) j q) k (j + 1) (((c.room (j : Int)).unpin (j : Int)).mark (j : Int) q)) := fun q => ci_mark HM.out.2.2 (Nat.lt_add_one j) q
      clear hj
      go_wp2_with (first
        | (go_at_call 11; (with_reducible refine (t_room HC.out HII.out.t _ HM.out.1.1 rfl).mono ?_); rintro e w3 ⟨rfl, hr, hk⟩; have H3 := Lib.hid hr; have G3 := Lib.hid (grow_cf HGR.out hk HB.out); clear hr hk)
        | (go_at_call 13; (with_reducible refine (t_let H3.out _ HM.out.1.2 rfl).mono ?_); rintro e w4 ⟨rfl, hr, hk⟩; have H4 := Lib.hid hr; have G4 := Lib.hid (grow_cf G3.out hk HB.out); clear hr hk)
        | (go_at_call 8; (with_reducible refine (t_arena H4.out).mono ?_); rintro e w' ⟨⟨da2, dl2, Dl2, dr2, rfl, hp⟩, rfl⟩; have HP := Lib.hid hp; clear hp)
        | (go_at_call 14; (with_reducible refine (t_mark HP.out _ _ (HMK.out true).1 rfl).mono ?_); rintro e w5 ⟨rfl, hr, hk⟩; have H5 := Lib.hid hr; have G5 := Lib.hid (grow_cf G4.out hk HB.out); clear hr hk))
      go_roundg (gk - 1)
      case measure => have := HG.out; have := HJ.out; omega
      case rel => exact ⟨j + 1, _, by have := HG.out; have := HJ.out; omega, by go_num, ci_bit (ci_mark HM.out.2.2 (Nat.lt_add_one j) _).2 (fun x hx => by
          have hb := HBIT.out
          by_cases ex : x = j
          · subst ex; rw [TabM.upd_same, hb]
          · rw [TabM.upd_other _ _ ex, TabM.upd_other _ _ ex]), H5.out, G5.out⟩
    · obtain rfl : j = k := by have := HG.out; omega
      have hb0 : bit 0 = (bits BinOp.and IntKind.i64 a1 1 == 1) := by rw [HBIT.out]; simp
      clear hj
      rcases bit01 a1 with h0 | h0
      · rw [h0] at hb0
        have HE := Lib.hid (ci_last HII.out hk1 (p := 20) (by omega) (by omega) hb0)
        clear hb0
        go_wp2_with (first
          | (go_at_call 11; (with_reducible refine (t_room HC.out HII.out.t 20 HE.out.1 rfl).mono ?_); rintro e w3 ⟨rfl, hr, hk⟩; have G3 := Lib.hid (grow_cf HGR.out hk HB.out); clear hr hk)
          | (go_at_call 15; (with_reducible refine (told_any _).mono ?_); rintro e w5 ⟨rfl, hg⟩; have HG5 := Lib.hid hg; clear hg))
        go_ret
        exact ⟨rfl, Grow.below (G3.out.trans HG5.out)⟩
      · rw [h0] at hb0
        have hr1 := ci_room HII.out hk1 (p := 20) (by omega) (by omega)
        have hb1 : bit 0 = true := by rw [hb0]; rfl
        rw [if_pos hb1, if_pos hb1] at hr1
        have HR1 := Lib.hid hr1
        have HM : Hid (c.a.markC 0 = 0 ∧ CI (TabM.upd bit 0 false) j j (c.mark 0 false)) := ci_mark HII.out (x := 0) hk1 false
        have HE := Lib.hid (ci_last HM.out.2 hk1 (p := 20) (by omega) (by omega) (TabM.upd_same _ _ _))
        clear hb0 hb1 hr1
        go_wp2_with (first
          | (go_at_call 11; (with_reducible refine (t_room HC.out HII.out.t 20 HR1.out.1 HR1.out.2).mono ?_); rintro e w3 ⟨rfl, hr, hk⟩; have H3 := Lib.hid hr; have G3 := Lib.hid (grow_cf HGR.out hk HB.out); clear hr hk HC)
          | (go_at_call 11; (with_reducible refine (t_room H3.out HII.out.t 20 HR1.out.1 HR1.out.2).mono ?_); rintro e w4 ⟨rfl, hr, hk⟩; have H4 := Lib.hid hr; have G4 := Lib.hid (grow_cf G3.out hk HB.out); clear hr hk H3)
          | (go_at_call 8; (with_reducible refine (t_arena H4.out).mono ?_); rintro e w' ⟨⟨da2, dl2, Dl2, dr2, rfl, hp⟩, rfl⟩; have HP := Lib.hid hp; clear hp)
          | (go_at_call 14; (with_reducible refine (t_mark HP.out 0 false HM.out.1 rfl).mono ?_); rintro e w5 ⟨rfl, hr, hk⟩; have H5 := Lib.hid hr; have G5 := Lib.hid (grow_cf G4.out hk HB.out); clear hr hk H4)
          | (go_at_call 11; (with_reducible refine (t_room H5.out HM.out.2.t 20 HE.out.1 rfl).mono ?_); rintro e w6 ⟨rfl, hr, hk⟩; have H6 := Lib.hid hr; have G6 := Lib.hid (grow_cf G5.out hk HB.out); clear hr hk H5)
          | (go_at_call 15; (with_reducible refine (told_any _).mono ?_); rintro e w7 ⟨rfl, hg⟩; have HG7 := Lib.hid (G6.out.trans hg); have H7 := Lib.hid (H6.out.grow hg); clear hg)
          | (go_at_call 10; (with_reducible refine (t_hit H7.out HE.out.2.2.2.2 0 HE.out.2.1 HE.out.2.2.1).mono ?_); rintro e w8 ⟨rfl, hr, hk⟩; have H8 := Lib.hid hr; have G8 := Lib.hid (grow_cf HG7.out hk HB.out); clear hr hk)
          | (go_at_call 10; (with_reducible refine (t_hit H8.out HE.out.2.2.2.2 20 HE.out.2.2.2.1 rfl).mono ?_); rintro e w9 ⟨rfl, hr, hk⟩; have G9 := Lib.hid (grow_cf G8.out hk HB.out); clear hr hk))
        go_ret
        exact ⟨rfl, Grow.below G9.out⟩

/-! ### THE ROW's STEP: WRITTEN OUT: LEAVE IT -/
set_option maxRecDepth 100000 in
theorem lifted (os : Os) (started : os.Started) (H : Type) (enc : TypeId × Value → H) :
    ReturnsInHanded {} Try.checked os 5 .any (Rows.coreCleanSpec.pre6 enc Try.prog Try.f5 Rows.coreCleanRow.domain false) (Rows.coreCleanSpec.post enc Try.prog Try.f5 false true false false) := by
  refine returnsInHanded_of_change (C := Try.checked) own started (by kernel_rfl) Try.func5
    (ChangeSpec.witness6 (enc := enc) (C := Try.checked) false ⟨#[], #[.int .i64 0, .int .i64 0], []⟩ 8 (by kernel_rfl) (by kernel_rfl) (by kernel_rfl) (by kernel_rfl)) ?_
  intro W base args ds gs before hval0 hW hcnd _
  have hval : ∀ (j : Nat) t v, Try.f5.params[j]? = some t → args[j]? = some v → Value.okWide Try.prog W .any base t v := hval0
  have hW' := hW
  obtain ⟨p, q, hA0, hV, rfl, hfz, hnd⟩ := hW
  have hA : DataW.TrodAll enc Try.prog W 0 (fun _ => true) true Try.f5.params.toList args.toList ds p := hA0
  rw [Try.params5] at hA hval
  obtain ⟨v0, vs0, d0, ds0, p0, q0, hargs, rfl, rfl, h0, r0⟩ := trodAll_cons hA
  obtain ⟨v1, vs1, d1, ds1, p1, q1, rfl, rfl, rfl, h1, r1⟩ := trodAll_cons r0
  obtain ⟨rfl, rfl, rfl⟩ := trodAll_nil r1
  obtain rfl : args = #[v0, v1] := by cases args; simp_all
  obtain ⟨rfl, rfl⟩ := trodVars_none hV
  obtain ⟨a0, rfl, rfl, rfl, w0⟩ := open_int Try.underlying3 (hval 0 3 v0 rfl rfl) h0
  obtain ⟨a1, rfl, rfl, rfl, w1⟩ := open_int Try.underlying3 (hval 1 3 v1 rfl rfl) h1
  clear hA0 hval0
  refine (walk a0 a1 W w0 w1).mono fun e W' ⟨he, bel⟩ => ?_
  subst he
  exact ⟨_, rfl, _, _, _, [], _, [], hW', trodAll_mk1 (shut_bool Try.underlying4 _), (trodAll_cons_mk (shut_int Try.underlying3 w0) (trodAll_cons_mk (shut_int Try.underlying3 w1) trodAll_mk0)), rfl, bel.frame _, fun h => by cases h⟩

theorem over : Rows.coreCleanRow.holds Try.pinned (OpenSpec.ofChange Rows.coreCleanSpec) :=
  OpenClaim.holds_of_wide 5 Try.f5 rfl rfl rfl rfl rfl rfl rfl ⟨rfl, rfl, rfl, rfl, rfl⟩ rfl rfl rfl rfl rfl (by kernel_rfl) Try.func5 (by kernel_rfl)
    (of_decide_eq_true (by kernel_rfl)) (by unfold Func.isWrapper; first | (rw [if_pos (by decide +kernel)]; kernel_rfl) | (rw [if_neg (by decide +kernel)]; exact ⟨rfl, rfl⟩))
    (fun os started H enc _ => lifted os started H enc)

/-- ████ THE STATEMENT ████ -/
theorem proved : Rows.CoreCleanSaid := over
#print axioms proved
end Go.Proofs.Ytcmhkknoffeebaa.coreClean
