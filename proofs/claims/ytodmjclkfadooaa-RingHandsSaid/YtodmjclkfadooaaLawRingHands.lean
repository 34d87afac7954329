/-
  For every input the call of lavabolaw8.RingHands returns true and leaves its arguments as they were; no condition.
-/
import Derived.Test.YtodmjclkfadooaaTold8
import Derived.Test.YtodmjclkfadooaaRows
import Derived.WalkKit
import Derived.ProofKit
import Derived.OpenShut
import Derived.ShutString
import Derived.ChangeOld
import Derived.Below
namespace Go.Proofs.Ytodmjclkfadooaa.ringHands
open Go.ChangeShapes Go.WideShapes Go.ChangeAt Go.RowKit
open Go.ChangeMaps (open_string shut_string)
open Go.Conc
open Go.Proofs.Ytodmjclkfadooaa.Mem Go.Proofs.Ytodmjclkfadooaa.Blk Go.Proofs.Ytodmjclkfadooaa.Chan Go.Proofs.Ytodmjclkfadooaa.RingC Go.Proofs.Ytodmjclkfadooaa.RingD Go.Proofs.Ytodmjclkfadooaa.RingT Go.Proofs.Ytodmjclkfadooaa.RingF Go.Proofs.Ytodmjclkfadooaa.Told8 Go.Proofs.Ytodmjclkfadooaa.Stages
set_option linter.unusedVariables false

theorem own : ownKnob Try.prog.godebug = none := by kernel_rfl
theorem laidOut : laidOutB Try.prog = true := by kernel_rfl

/-- WHAT THE WALK IS TOLD OF A SLICE OF INTEGERS THAT CAME IN: it is nil; or it leads to a row of 'cap' cells, the numbers 'zs' (the first 'len' are its elements, the rest its spare room), each fitting its kind. -/
def IsRow (k : IntKind) (w : World) (a : Option Addr) (len cap : Nat) (zs : List Int) : Prop :=
  (a = none ∧ len = 0 ∧ cap = 0 ∧ zs = []) ∨
  ∃ x, a = some x ∧ len ≤ cap ∧ cap ≤ maxLen ∧ zs.length = cap ∧ (∀ i, i < zs.length → w.cell? (x.add i) = some (.int k (zs.getD i 0))) ∧ ∀ n ∈ zs, (Lit.int k n).wf = true

/-- What waits behind m touches of 1, 2, 3, ..; what the touch behind them tells. -/
def wS (m : Nat) : List Int := (List.range (m % 8)).map fun t => (((m / 8 * 8 + t + 1) % 32 : Nat) : Int)
def uS (m : Nat) : List Int := if (m + 1) % 8 = 0 then (List.range 8).map fun t => (((m / 8 * 8 + t + 1) % 32 : Nat) : Int) else []
theorem wS_len (m : Nat) : (wS m).length = m % 8 := by simp [wS]
theorem uS_len (m : Nat) : (uS m).length = if (m + 1) % 8 = 0 then 8 else 0 := by unfold uS; split <;> simp
theorem wS_get {m t : Nat} (h : t < m % 8) : (wS m).getD t 0 = (((m / 8 * 8 + t + 1) % 32 : Nat) : Int) := by
  unfold wS
  simp [List.getD_eq_getElem?_getD, h]
theorem uS_get {m t : Nat} (h : t < (uS m).length) : (uS m).getD t 0 = (((m / 8 * 8 + t + 1) % 32 : Nat) : Int) := by
  rw [uS_len] at h
  unfold uS
  split
  · rename_i e
    rw [if_pos e] at h
    simp [List.getD_eq_getElem?_getD, h]
  · rename_i e
    rw [if_neg e] at h
    omega
theorem step_math (m : Nat) : toldBy (wS m) (((m + 1) % 32 : Nat) : Int) = uS m ∧ waitBy (wS m) (((m + 1) % 32 : Nat) : Int) = wS (m + 1) ∧ (wS m).length ≤ 7 := by
  have hok : okT (((m + 1) % 32 : Nat) : Int) = true := by
    unfold okT
    rw [Bool.and_eq_true, decide_eq_true_eq, decide_eq_true_eq]
    omega
  have hsn : wS m ++ [(((m + 1) % 32 : Nat) : Int)] = (List.range (m % 8 + 1)).map fun t => (((m / 8 * 8 + t + 1) % 32 : Nat) : Int) := by
    unfold wS
    rw [List.range_succ, List.map_append, List.map_cons, List.map_nil]
    congr 3
    omega
  have hl := wS_len m
  refine ⟨?_, ?_, by omega⟩
  · unfold toldBy uS
    rw [hok, hl, Bool.true_and]
    by_cases h : m % 8 = 7
    · rw [if_pos (by simpa using h), if_pos (by omega), hsn, h]
    · rw [if_neg (by simpa using h), if_neg (by omega)]
  · unfold waitBy
    rw [if_pos hok, hl]
    by_cases h : m % 8 = 7
    · rw [if_pos h]
      unfold wS
      rw [show (m + 1) % 8 = 0 by omega]
      rfl
    · rw [if_neg h, hsn]
      unfold wS
      rw [show (m + 1) % 8 = m % 8 + 1 by omega, show (m + 1) / 8 = m / 8 by omega]
def HLoop (w1 : World) (B d N g : Nat) (at_ i : Value) (wr : World) : Prop :=
  ∃ m Q : Nat, m + g = N ∧ i = .int .i64 ((m : Int) + 1) ∧ at_ = .int .i64 (Q : Int) ∧ Q = m / 8 * 8 ∧ RingAt wr B d (wS m) ∧ Kept (RF B d w1) w1 wr

/-! ### STEP 1: THE WALK: the Go text returns true, AND WRITES NOTHING THAT WAS THERE: 'Below w.heap.size w w'' (Derived/Below.lean: '.refl', '.alloc', '.drew', '.setCell' at a new block, '.trans'). Open each 'IsRow' by 'rcases' AHEAD of 'go_enter'; part every test ahead of the walk. -/
set_option maxHeartbeats 4000000 in
theorem walk (a0 : Int) (w : World) (w0 : (Lit.int .i64 a0).wf = true) :
    Calls Try.prog 7 #[.int .i64 a0] w fun e w' => e = .returned (.bool true) ∧ Below w.heap.size w w' := by
  have k0 := bounds_i64 w0
  obtain ⟨N, hn, hN⟩ := tmod_nat a0 61 (by omega)
  simp only [Int.cast_ofNat_Int] at hn
  have hnz : (N : Int) < 61 := by omega
  go_enter Try.func7, Try.ntmps7
  go_wp2_with (go_at_call 8; (with_reducible refine gnew_any.mono ?_); rintro e w1 ⟨rfl, hr, hg⟩; have HR := Lib.hid (hr _ (Nat.le_refl _)); have HG0 := Lib.hid hg; clear hr hg)
  generalize hB : w.heap.size = B at HR ⊢
  have HB := Lib.hid hB
  clear hB hn k0
  go_loopg [5, 6] N (HLoop w1 B B N)
  case atStart => exact ⟨0, 0, by omega, rfl, rfl, rfl, HR.out, Kept.refl _ _⟩
  case round =>
    obtain ⟨m, Q, hg, rfl, rfl, hq, hr, hk⟩ := hrel
    have HQ := Lib.hid hq
    have hQz : (Q : Int) ≤ (m : Int) := by omega
    have HG := Lib.hid hg
    have HRR := Lib.hid hr
    have HK := Lib.hid hk
    clear hg hr hk HR hq
    by_cases hj : m < N
    · obtain ⟨h1, h2, h3⟩ := step_math m
      have HT := Lib.hid (t_touch HRR.out _ h3 h1 h2)
      have hm : (((m + 1) % 32 : Nat) : Int) = ((m : Int) + 1) % 32 := by omega
      rw [hm] at HT
      have hjz : (m : Int) + 1 ≤ (N : Int) := by omega
      obtain ⟨wo, hwo⟩ : ∃ wo, wo = wr := ⟨_, rfl⟩
      subst hwo
      clear h1 h2 h3 hm
      by_cases h8 : (m + 1) % 8 = 0
      · have hL : (uS m).length = 8 := by rw [uS_len, if_pos h8]
        have HL := Lib.hid hL
        have HM := Lib.hid h8
        have h8z : ((m : Int) + 1) % 8 = 0 := by omega
        clear h8
        go_wp2_with (go_at_call 9; (with_reducible refine HT.out.mono ?_); rintro e w2 ⟨A2, c2, rfl, hs, hn, hr, hk⟩; have HS2 := Lib.hid hs; have HN2 := Lib.hid hn; have HR2 := Lib.hid hr; have HK2 := Lib.hid hk; clear hs hn hr hk)
        go_loopg [5, 8] 8 (fun gx at_ i wx => ∃ t : Nat, t + gx = 8 ∧ i = .int .i64 (t : Int) ∧ at_ = .int .i64 ((Q : Int) + (t : Int)) ∧ w2 = wx)
        case atStart => exact ⟨0, by omega, rfl, by go_num, rfl⟩
        case round =>
          obtain ⟨t, hg, rfl, rfl, rfl⟩ := hrel
          have HG2 := Lib.hid hg
          clear hg
          by_cases ht : t < 8
          · have htz : (t : Int) < 8 := by omega
            obtain ⟨b, o, rfl, _, hc⟩ := HS2.out.at_ (by rw [HL.out]; omega)
            have r1 := hc t (by rw [HL.out]; omega)
            rw [uS_get (by rw [HL.out]; omega)] at r1
            have hx : (((m / 8 * 8 + t + 1) % 32 : Nat) : Int) = ((Q : Int) + (t : Int) + 1) % 32 := by have := HQ.out; omega
            rw [hx] at r1
            clear hc hx
            go_wp2
            go_roundg (8 - (t + 1))
            case measure => have := HG2.out; omega
            case rel => exact ⟨t + 1, by have := HG2.out; omega, by go_num, by go_num, rfl⟩
          · obtain rfl : t = 8 := by have := HG2.out; omega
            go_wp2
            go_roundg (N - (m + 1))
            case measure => have := HG.out; omega
            case rel => exact ⟨m + 1, Q + 8, by have := HG.out; omega, by go_num, by go_num, by have h1 := HQ.out; have h2 := HM.out; omega, HR2.out, RF.trans HK.out HK2.out⟩
      · have hL : (uS m).length = 0 := by rw [uS_len, if_neg h8]
        have HL := Lib.hid hL
        have HM := Lib.hid h8
        have h8z : (((m : Int) + 1) % 8 == 0) = false := by rw [beq_eq_false_iff_ne]; omega
        clear h8
        go_wp2_with (go_at_call 9; (with_reducible refine HT.out.mono ?_); rintro e w2 ⟨A2, c2, rfl, hs, hn, hr, hk⟩; have HS2 := Lib.hid hs; have HN2 := Lib.hid hn; have HR2 := Lib.hid hr; have HK2 := Lib.hid hk; clear hs hn hr hk)
        go_loopg [5, 8] 0 (fun gx at_ i wx => ∃ t : Nat, t + gx = 0 ∧ i = .int .i64 (t : Int) ∧ at_ = .int .i64 ((Q : Int) + (t : Int)) ∧ w2 = wx)
        case atStart => exact ⟨0, by omega, rfl, by go_num, rfl⟩
        case round =>
          obtain ⟨t, hg, rfl, rfl, rfl⟩ := hrel
          have HG2 := Lib.hid hg
          clear hg
          by_cases ht : t < 0
          · have htz : (t : Int) < 0 := by omega
            obtain ⟨b, o, rfl, _, hc⟩ := HS2.out.at_ (by rw [HL.out]; omega)
            have r1 := hc t (by rw [HL.out]; omega)
            rw [uS_get (by rw [HL.out]; omega)] at r1
            have hx : (((m / 8 * 8 + t + 1) % 32 : Nat) : Int) = ((Q : Int) + (t : Int) + 1) % 32 := by have := HQ.out; omega
            rw [hx] at r1
            clear hc hx
            go_wp2
            go_roundg (0 - (t + 1))
            case measure => have := HG2.out; omega
            case rel => exact ⟨t + 1, by have := HG2.out; omega, by go_num, by go_num, rfl⟩
          · obtain rfl : t = 0 := by have := HG2.out; omega
            go_wp2
            go_roundg (N - (m + 1))
            case measure => have := HG.out; omega
            case rel => exact ⟨m + 1, Q + 0, by have := HG.out; omega, by go_num, by go_num, by have h1 := HQ.out; have h2 := HM.out; omega, HR2.out, RF.trans HK.out HK2.out⟩
    · obtain rfl : m = N := by have := HG.out; omega
      have CD := Lib.hid (gdrain_any HRR.out)
      obtain ⟨R, hRm⟩ : ∃ R, R = m % 8 := ⟨_, rfl⟩
      have hL : (wS m).length = R := by rw [wS_len, hRm]
      have HL := Lib.hid hL
      have HRM := Lib.hid hRm
      have hRz : (R : Int) < 8 := by omega
      have hQR : (Q : Int) + (R : Int) = (m : Int) := by have := HQ.out; omega
      have HW1 : Hid (w.heap.size ≤ B) := by show w.heap.size ≤ B; have := HB.out; omega
      clear hRm
      obtain ⟨wo, hwo⟩ : ∃ wo, wo = wr := ⟨_, rfl⟩
      subst hwo
      go_wp2_with (go_at_call 11; (with_reducible refine CD.out.mono ?_); rintro e w2 ⟨A2, c2, rfl, hs, hn, hr, hk⟩; have HS2 := Lib.hid hs; have HR2 := Lib.hid hr; have HK2 := Lib.hid hk; clear hs hn hr hk)
      go_loopg [5, 10] R (fun gx at_ i wx => ∃ t : Nat, t + gx = R ∧ i = .int .i64 (t : Int) ∧ at_ = .int .i64 ((Q : Int) + (t : Int)) ∧ w2 = wx)
      case atStart => exact ⟨0, by omega, rfl, by go_num, rfl⟩
      case round =>
        obtain ⟨t, hg, rfl, rfl, rfl⟩ := hrel
        have HG2 := Lib.hid hg
        clear hg
        by_cases ht : t < R
        · have htz : (t : Int) < (R : Int) := by omega
          obtain ⟨b, o, rfl, _, hc⟩ := HS2.out.at_ (by rw [HL.out]; omega)
          have r1 := hc t (by rw [HL.out]; omega)
          rw [wS_get (by rw [← HRM.out]; omega)] at r1
          have hx : (((m / 8 * 8 + t + 1) % 32 : Nat) : Int) = ((Q : Int) + (t : Int) + 1) % 32 := by have := HQ.out; omega
          rw [hx] at r1
          clear hc hx
          go_wp2
          go_roundg (R - (t + 1))
          case measure => have := HG2.out; omega
          case rel => exact ⟨t + 1, by have := HG2.out; omega, by go_num, by go_num, rfl⟩
        · obtain rfl : t = R := by have := HG2.out; omega
          have HB2 : Hid (Grow w w2) := RF.final HG0.out (RF.trans HK.out HK2.out) HW1.out HW1.out
          go_wp2_with (first
            | (go_at_call 12; (with_reducible refine (told_any _).mono ?_); rintro e w5 ⟨rfl, hge⟩; have HGE := Lib.hid hge; clear hge)
            | (go_at_call 17; (with_reducible refine (t_len (HR2.out.grow HGE.out) 0 (by decide)).mono ?_); rintro e w' ⟨rfl, rfl⟩))
          go_ret
          exact ⟨rfl, Grow.below (HB2.out.trans HGE.out)⟩

/-! ### THE ROW's STEP: WRITTEN OUT: LEAVE IT -/
set_option maxRecDepth 100000 in
theorem lifted (os : Os) (started : os.Started) (H : Type) (enc : TypeId × Value → H) :
    ReturnsInHanded {} Try.checked os 7 .any (Rows.ringHandsSpec.pre6 enc Try.prog Try.f7 Rows.ringHandsRow.domain false) (Rows.ringHandsSpec.post enc Try.prog Try.f7 false true false false) := by
  refine returnsInHanded_of_change (C := Try.checked) own started (by kernel_rfl) Try.func7
    (ChangeSpec.witness6 (enc := enc) (C := Try.checked) false ⟨#[], #[.int .i64 0], []⟩ 8 (by kernel_rfl) (by kernel_rfl) (by kernel_rfl) (by kernel_rfl)) ?_
  intro W base args ds gs before hval0 hW hcnd _
  have hval : ∀ (j : Nat) t v, Try.f7.params[j]? = some t → args[j]? = some v → Value.okWide Try.prog W .any base t v := hval0
  have hW' := hW
  obtain ⟨p, q, hA0, hV, rfl, hfz, hnd⟩ := hW
  have hA : DataW.TrodAll enc Try.prog W 0 (fun _ => true) true Try.f7.params.toList args.toList ds p := hA0
  rw [Try.params7] at hA hval
  obtain ⟨v0, vs0, d0, ds0, p0, q0, hargs, rfl, rfl, h0, r0⟩ := trodAll_cons hA
  obtain ⟨rfl, rfl, rfl⟩ := trodAll_nil r0
  obtain rfl : args = #[v0] := by cases args; simp_all
  obtain ⟨rfl, rfl⟩ := trodVars_none hV
  obtain ⟨a0, rfl, rfl, rfl, w0⟩ := open_int Try.underlying3 (hval 0 3 v0 rfl rfl) h0
  clear hA0 hval0
  refine (walk a0 W w0).mono fun e W' ⟨he, bel⟩ => ?_
  subst he
  exact ⟨_, rfl, _, _, _, [], _, [], hW', trodAll_mk1 (shut_bool Try.underlying4 _), (trodAll_cons_mk (shut_int Try.underlying3 w0) trodAll_mk0), rfl, bel.frame _, fun h => by cases h⟩

theorem over : Rows.ringHandsRow.holds Try.pinned (OpenSpec.ofChange Rows.ringHandsSpec) :=
  OpenClaim.holds_of_wide 7 Try.f7 rfl rfl rfl rfl rfl rfl rfl ⟨rfl, rfl, rfl, rfl, rfl⟩ rfl rfl rfl rfl rfl (by kernel_rfl) Try.func7 (by kernel_rfl)
    (of_decide_eq_true (by kernel_rfl)) (by unfold Func.isWrapper; first | (rw [if_pos (by decide +kernel)]; kernel_rfl) | (rw [if_neg (by decide +kernel)]; exact ⟨rfl, rfl⟩))
    (fun os started H enc _ => lifted os started H enc)

/-- ████ THE STATEMENT ████ -/
theorem proved : Rows.RingHandsSaid := over
#print axioms proved
end Go.Proofs.Ytodmjclkfadooaa.ringHands
