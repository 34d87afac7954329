/-
  For every input the call of lavabolaw9.MailFull returns true and leaves its arguments as they were; no condition.
-/
import Derived.Test.YtmealcbcphfpdaaTold9
import Derived.Test.YtmealcbcphfpdaaPairEq
import Derived.Test.YtmealcbcphfpdaaRows
import Derived.WalkKit
import Derived.ProofKit
import Derived.OpenShut
import Derived.ShutString
import Derived.ChangeOld
import Derived.Below
namespace Go.Proofs.Ytmealcbcphfpdaa.mailFull
open Go.ChangeShapes Go.WideShapes Go.ChangeAt Go.RowKit
open Go.ChangeMaps (open_string shut_string)
open Go.Conc
open Go.Proofs.Ytmealcbcphfpdaa.Mem Go.Proofs.Ytmealcbcphfpdaa.Blk Go.Proofs.Ytmealcbcphfpdaa.Cells Go.Proofs.Ytmealcbcphfpdaa.Chan Go.Proofs.Ytmealcbcphfpdaa.Prs Go.Proofs.Ytmealcbcphfpdaa.MailM Go.Proofs.Ytmealcbcphfpdaa.MailC Go.Proofs.Ytmealcbcphfpdaa.MailT Go.Proofs.Ytmealcbcphfpdaa.MailP Go.Proofs.Ytmealcbcphfpdaa.MailK Go.Proofs.Ytmealcbcphfpdaa.MailH Go.Proofs.Ytmealcbcphfpdaa.Told9 Go.Proofs.Ytmealcbcphfpdaa.Stages
set_option linter.unusedVariables false

theorem own : ownKnob Try.prog.godebug = none := by kernel_rfl
theorem laidOut : laidOutB Try.prog = true := by kernel_rfl

/-- WHAT THE WALK IS TOLD OF A SLICE OF INTEGERS THAT CAME IN: it is nil; or it leads to a row of 'cap' cells, the numbers 'zs' (the first 'len' are its elements, the rest its spare room), each fitting its kind. -/
def IsRow (k : IntKind) (w : World) (a : Option Addr) (len cap : Nat) (zs : List Int) : Prop :=
  (a = none ∧ len = 0 ∧ cap = 0 ∧ zs = []) ∨
  ∃ x, a = some x ∧ len ≤ cap ∧ cap ≤ maxLen ∧ zs.length = cap ∧ (∀ i, i < zs.length → w.cell? (x.add i) = some (.int k (zs.getD i 0))) ∧ ∀ n ∈ zs, (Lit.int k n).wf = true

/-- What waits behind j posts of 0, 1, 2, ..; the box. -/
def fB (j : Nat) : Bx := ⟨(List.range (min j 8)).map fun (i : Nat) => ((i : Int), (i : Int)), [], []⟩
theorem f_step : ∀ j : Nat, j < 21 → (fB j).postE (j : Int) = (if j < 8 then 0 else 8) ∧ (fB j).postB (j : Int) (j : Int) = fB (j + 1) := by decide
/-- What is told, and is open, when M are asked of the words of K posts. -/
theorem f_take : ∀ K : Nat, K < 21 → ∀ M : Nat, M < 10 → ((fB K).takeL (M : Int)).length = min (min K 8) M ∧ ((fB K).takeB (M : Int)).W.length = min K 8 - min (min K 8) M ∧
    ((fB K).takeB (M : Int)).postE 40 = (if min K 8 - min (min K 8) M < 8 then 0 else 8) ∧ ((fB K).takeB (M : Int)).st 40 = 0 ∧
    ∀ j : Nat, j < min (min K 8) M → ((fB K).takeL (M : Int)).getD j (0, 0) = ((j : Int), (j : Int)) ∧ ((fB K).takeB (M : Int)).postE (j : Int) = 13 := by decide
def FLoop (w1 : World) (B d N g : Nat) (i : Value) (wr : World) : Prop :=
  ∃ j : Nat, j + g = N ∧ i = .int .i64 (j : Int) ∧ BoxAt wr B d (fB j) ∧ Kept (BF B d w1) w1 wr
def FLoop2 (w1 : World) (B d N : Nat) (b : Bx) (g : Nat) (i : Value) (wr : World) : Prop :=
  ∃ j : Nat, j + g = N ∧ i = .int .i64 (j : Int) ∧ BoxAt wr B d b ∧ Kept (BF B d w1) w1 wr

/-! ### STEP 1: THE WALK: the Go text returns true, AND WRITES NOTHING THAT WAS THERE: 'Below w.heap.size w w'' (Derived/Below.lean: '.refl', '.alloc', '.drew', '.setCell' at a new block, '.trans'). Open each 'IsRow' by 'rcases' AHEAD of 'go_enter'; part every test ahead of the walk. -/
set_option maxHeartbeats 4000000 in
theorem walk (a0 : Int) (a1 : Int) (w : World) (w0 : (Lit.int .i64 a0).wf = true) (w1 : (Lit.int .i64 a1).wf = true) :
    Calls Try.prog 5 #[.int .i64 a0, .int .i64 a1] w fun e w' => e = .returned (.bool true) ∧ Below w.heap.size w w' := by
  have k0 := bounds_i64 w0
  have k1 := bounds_i64 w1
  obtain ⟨K, hn, hK⟩ := tmod_nat a0 21 (by omega)
  obtain ⟨M, hm, hM⟩ := tmod_nat a1 10 (by omega)
  simp only [Int.cast_ofNat_Int] at hn hm
  have hKz : (K : Int) < 21 := by omega
  have hMz : (M : Int) < 10 := by omega
  go_enter Try.func5, Try.ntmps5
  go_wp2_with (go_at_call 6; (with_reducible refine new_any.mono ?_); rintro e w1 ⟨rfl, hr, hg⟩; have HR := Lib.hid (hr _ (Nat.le_refl _)); have HG0 := Lib.hid hg; clear hr hg)
  generalize hB : w.heap.size = B at HR ⊢
  have HB := Lib.hid hB
  clear hB hn hm k0 k1
  go_loopg [8] K (FLoop w1 B B K)
  case atStart => exact ⟨0, by omega, rfl, HR.out, Kept.refl _ _⟩
  case round =>
    obtain ⟨j, hg, rfl, hr, hk⟩ := hrel
    have HG := Lib.hid hg
    have HRR := Lib.hid hr
    have HKK := Lib.hid hk
    clear hg hr hk HR
    by_cases hj : j < K
    · have hjz : (j : Int) < (K : Int) := by omega
      obtain ⟨e1, e2⟩ := f_step j (by omega)
      by_cases h8 : j < 8
      · rw [if_pos h8] at e1
        have HT := Lib.hid (t_post HRR.out (j : Int) (j : Int) 0 _ e1 e2)
        have h8z : (j : Int) < 8 := by omega
        clear e1 e2 h8
        go_wp2_with (go_at_call 8; (with_reducible refine HT.out.mono ?_); rintro e w2 ⟨rfl, hr, hk⟩; have HR2 := Lib.hid hr; have HK2 := Lib.hid hk; clear hr hk)
        go_roundg (gk - 1)
        case measure => have := HG.out; omega
        case rel => exact ⟨j + 1, by have := HG.out; omega, by go_num, HR2.out, BF.trans HKK.out HK2.out⟩
      · rw [if_neg h8] at e1
        have HT := Lib.hid (t_post HRR.out (j : Int) (j : Int) 8 _ e1 e2)
        have h8z : 8 ≤ (j : Int) := by omega
        clear e1 e2 h8
        go_wp2_with (go_at_call 8; (with_reducible refine HT.out.mono ?_); rintro e w2 ⟨rfl, hr, hk⟩; have HR2 := Lib.hid hr; have HK2 := Lib.hid hk; clear hr hk)
        go_roundg (gk - 1)
        case measure => have := HG.out; omega
        case rel => exact ⟨j + 1, by have := HG.out; omega, by go_num, HR2.out, BF.trans HKK.out HK2.out⟩
    · obtain rfl : j = K := by have := HG.out; omega
      obtain ⟨e1, e2, e3, e4, e5⟩ := f_take j hK M hM
      have HTK := Lib.hid (take_any HRR.out (M : Int))
      obtain ⟨W, hW⟩ : ∃ W, W = min j 8 := ⟨_, rfl⟩
      obtain ⟨N, hN⟩ : ∃ N, N = min W M := ⟨_, rfl⟩
      rw [← hW] at e1 e2 e3 e5
      rw [← hN] at e1 e2 e3 e5
      have HW := Lib.hid hW
      have HN := Lib.hid hN
      have E1 := Lib.hid e1
      have E2 := Lib.hid e2
      have E3 := Lib.hid e3
      have E5 := Lib.hid e5
      have hNW : (N : Int) ≤ (W : Int) := by omega
      have hW8 : (W : Int) ≤ 8 := by omega
      clear e1 e2 e3 e4 e5 hW hN hj hK
      generalize (fB j).takeL (M : Int) = us at *
      generalize (fB j).takeB (M : Int) = b2 at *
      go_upto_region 11 with (fail)
      go_cut [10] from 47 to 48 (fun s wx => s = .int .i64 (W : Int) ∧ wr = wx)
      case first =>
        go_wp2_with fail
        all_goals (go_meet; exact ⟨by have := HW.out; congr 1; omega, rfl⟩)
      case rest =>
        obtain ⟨rfl, rfl⟩ := hcut
        go_upto_region 13 with (go_at_call 11; (with_reducible refine HTK.out.mono ?_); rintro e w2 ⟨A, k, rfl, hs, hn, hr, hk⟩; have HS := Lib.hid hs; have HX := Lib.hid hn; have HR2 := Lib.hid hr; have HK2 := Lib.hid hk; clear hs hn hr hk)
        have HAD : Hid (∀ x, A = some x → x.block ≠ B) := fun x hx e => by have h1 := HX.out x hx; have h2 := HRR.out.lt; omega
        have HL := Lib.hid (len_any HR2.out)
        have hLL : (b2.W.length : Int) = (W : Int) - (N : Int) := by have := E2.out; omega
        rw [hLL] at HL
        rw [E1.out] at HS ⊢
        have HLL := Lib.hid hLL
        clear HTK hLL
        go_cut [66] from 52 to 66 (fun s wx => s = .bool false ∧ w2 = wx)
        case first =>
          by_cases hwm : W ≤ M
          · obtain rfl : N = W := by have := HN.out; omega
            have hwz : (N : Int) ≤ (M : Int) := by omega
            go_wp2_with (go_at_call 17; (with_reducible refine HL.out.mono ?_); rintro e w' ⟨rfl, rfl⟩)
            go_meet
            exact ⟨rfl, rfl⟩
          · obtain rfl : N = M := by have := HN.out; omega
            have hwz : (N : Int) < (W : Int) := by omega
            go_wp2_with (go_at_call 17; (with_reducible refine HL.out.mono ?_); rintro e w' ⟨rfl, rfl⟩)
            go_meet
            exact ⟨rfl, rfl⟩
        case rest =>
          obtain ⟨rfl, rfl⟩ := hcut
          obtain ⟨wo, hwo⟩ : ∃ wo, wo = wr := ⟨_, rfl⟩
          subst hwo
          go_wp2
          go_loopg [12] N (FLoop2 w2 B B N b2)
          case atStart => exact ⟨0, by omega, rfl, HR2.out, Kept.refl _ _⟩
          case round =>
            obtain ⟨i, hg, rfl, hr, hk⟩ := hrel
            have HG2 := Lib.hid hg
            have HR3 := Lib.hid hr
            have HK3 := Lib.hid hk
            clear hg hr hk
            by_cases hi : i < N
            · have hiz : (i : Int) < (N : Int) := by omega
              obtain ⟨e1, e2⟩ := E5.out i hi
              obtain ⟨b1, o1, rfl, _, hc⟩ := HS.out.at_ (by omega)
              have q1 := BF.cell HK3.out (hc i hi).1 (HAD.out ⟨b1, o1, none⟩ rfl)
              have q2 := BF.cell HK3.out (hc i hi).2 (HAD.out ⟨b1, o1, none⟩ rfl)
              rw [e1] at q1 q2
              simp only at q1 q2
              have HT := Lib.hid (t_post HR3.out (i : Int) 5 13 b2 e2 (by unfold Bx.postB; rw [e2, if_neg (by decide)]))
              have qe := fun w => PairEq.eql_pair w (i : Int) (i : Int) (i : Int) (i : Int)
              simp only [beq_self_eq_true, Bool.and_self] at qe
              clear hc e1 e2
              go_wp2_with (go_at_call 8; (with_reducible refine HT.out.mono ?_); rintro e w4 ⟨rfl, hr, hk⟩; have HR4 := Lib.hid hr; have HK4 := Lib.hid hk; clear hr hk)
              go_roundg (N - (i + 1))
              case measure => have := HG2.out; omega
              case rel => exact ⟨i + 1, by have := HG2.out; omega, by go_num, HR4.out, BF.trans HK3.out HK4.out⟩
            · obtain rfl : i = N := by have := HG2.out; omega
              have HKA := Lib.hid (BF.trans (BF.trans HKK.out HK2.out) HK3.out)
              by_cases h8 : W - i < 8
              · have e3 := E3.out
                rw [if_pos h8] at e3
                have HT := Lib.hid (t_post HR3.out 40 1 0 ⟨b2.W ++ [(40, 1)], b2.O, b2.A⟩ e3 (by unfold Bx.postB; rw [if_pos e3]))
                have hn : (((⟨b2.W ++ [(40, 1)], b2.O, b2.A⟩ : Bx).W.length : Nat) : Int) = (W : Int) - (i : Int) + 1 := by
                  have := HLL.out
                  show ((b2.W ++ [(40, 1)]).length : Int) = _
                  rw [List.length_append]
                  simp only [List.length_cons, List.length_nil]
                  omega
                have h8z : (W : Int) - (i : Int) < 8 := by omega
                have HN1 := Lib.hid hn
                clear e3 h8 hi hn
                go_wp2_with (first
                  | (go_at_call 8; (with_reducible refine HT.out.mono ?_); rintro e w4 ⟨rfl, hr, hk⟩; have HR4 := Lib.hid hr; have HK4 := Lib.hid hk; clear hr hk)
                  | (go_at_call 7; (with_reducible refine (told_any _).mono ?_); rintro e w5 ⟨rfl, hge⟩; have HGE := Lib.hid hge; clear hge)
                  | (go_at_call 17; (with_reducible refine (t_len (HR4.out.grow HGE.out) _ HN1.out).mono ?_); rintro e w' ⟨rfl, rfl⟩))
                go_ret
                exact ⟨rfl, Grow.below ((BF.final HG0.out (BF.trans HKA.out HK4.out) (by have := HB.out; omega) (by have := HB.out; omega)).trans HGE.out)⟩
              · have e3 := E3.out
                rw [if_neg h8] at e3
                have HT := Lib.hid (t_post HR3.out 40 1 8 b2 e3 (by unfold Bx.postB; rw [e3, if_neg (by decide)]))
                have h8d : decide ((W : Int) - (i : Int) < 8) = false := decide_eq_false (by omega)
                clear e3 h8 hi
                go_wp2_with (first
                  | (go_at_call 8; (with_reducible refine HT.out.mono ?_); rintro e w4 ⟨rfl, hr, hk⟩; have HR4 := Lib.hid hr; have HK4 := Lib.hid hk; clear hr hk)
                  | (go_at_call 7; (with_reducible refine (told_any _).mono ?_); rintro e w5 ⟨rfl, hge⟩; have HGE := Lib.hid hge; clear hge)
                  | (go_at_call 17; (with_reducible refine (t_len (HR4.out.grow HGE.out) _ HLL.out).mono ?_); rintro e w' ⟨rfl, rfl⟩))
                go_ret
                exact ⟨rfl, Grow.below ((BF.final HG0.out (BF.trans HKA.out HK4.out) (by have := HB.out; omega) (by have := HB.out; omega)).trans HGE.out)⟩

/-! ### THE ROW's STEP: WRITTEN OUT: LEAVE IT -/
set_option maxRecDepth 100000 in
theorem lifted (os : Os) (started : os.Started) (H : Type) (enc : TypeId × Value → H) :
    ReturnsInHanded {} Try.checked os 5 .any (Rows.mailFullSpec.pre6 enc Try.prog Try.f5 Rows.mailFullRow.domain false) (Rows.mailFullSpec.post enc Try.prog Try.f5 false true false false) := by
  refine returnsInHanded_of_change (C := Try.checked) own started (by kernel_rfl) Try.func5
    (ChangeSpec.witness6 (enc := enc) (C := Try.checked) false ⟨#[], #[.int .i64 0, .int .i64 0], []⟩ 8 (by kernel_rfl) (by kernel_rfl) (by kernel_rfl) (by kernel_rfl)) ?_
  intro W base args ds gs before hval0 hW hcnd _
  have hval : ∀ (j : Nat) t v, Try.f5.params[j]? = some t → args[j]? = some v → Value.okWide Try.prog W .any base t v := hval0
  have hW' := hW
  obtain ⟨p, q, hA0, hV, rfl, hfz, hnd⟩ := hW
  have hA : DataW.TrodAll enc Try.prog W 0 (fun _ => true) true Try.f5.params.toList args.toList ds p := hA0
  rw [Try.params5] at hA hval
  obtain ⟨v0, vs0, d0, ds0, p0, q0, hargs, rfl, rfl, h0, r0⟩ := trodAll_cons hA
  obtain ⟨v1, vs1, d1, ds1, p1, q1, rfl, rfl, rfl, h1, r1⟩ := trodAll_cons r0
  obtain ⟨rfl, rfl, rfl⟩ := trodAll_nil r1
  obtain rfl : args = #[v0, v1] := by cases args; simp_all
  obtain ⟨rfl, rfl⟩ := trodVars_none hV
  obtain ⟨a0, rfl, rfl, rfl, w0⟩ := open_int Try.underlying3 (hval 0 3 v0 rfl rfl) h0
  obtain ⟨a1, rfl, rfl, rfl, w1⟩ := open_int Try.underlying3 (hval 1 3 v1 rfl rfl) h1
  clear hA0 hval0
  refine (walk a0 a1 W w0 w1).mono fun e W' ⟨he, bel⟩ => ?_
  subst he
  exact ⟨_, rfl, _, _, _, [], _, [], hW', trodAll_mk1 (shut_bool Try.underlying4 _), (trodAll_cons_mk (shut_int Try.underlying3 w0) (trodAll_cons_mk (shut_int Try.underlying3 w1) trodAll_mk0)), rfl, bel.frame _, fun h => by cases h⟩

theorem over : Rows.mailFullRow.holds Try.pinned (OpenSpec.ofChange Rows.mailFullSpec) :=
  OpenClaim.holds_of_wide 5 Try.f5 rfl rfl rfl rfl rfl rfl rfl ⟨rfl, rfl, rfl, rfl, rfl⟩ rfl rfl rfl rfl rfl (by kernel_rfl) Try.func5 (by kernel_rfl)
    (of_decide_eq_true (by kernel_rfl)) (by unfold Func.isWrapper; first | (rw [if_pos (by decide +kernel)]; kernel_rfl) | (rw [if_neg (by decide +kernel)]; exact ⟨rfl, rfl⟩))
    (fun os started H enc _ => lifted os started H enc)

/-- ████ THE STATEMENT ████ -/
theorem proved : Rows.MailFullSaid := over
#print axioms proved
end Go.Proofs.Ytmealcbcphfpdaa.mailFull
