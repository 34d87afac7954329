/-
  For every input the call of lavabolaw5.TableFull returns true and leaves its arguments as they were; no condition.
-/
import Derived.Test.YtnoofichbadkoaaTold5
import Derived.Test.YtnoofichbadkoaaRows
import Derived.WalkKit
import Derived.ProofKit
import Derived.OpenShut
import Derived.ShutString
import Derived.ChangeOld
import Derived.Below
namespace Go.Proofs.Ytnoofichbadkoaa.tableFull
open Go.ChangeShapes Go.WideShapes Go.ChangeAt Go.RowKit
open Go.ChangeMaps (open_string shut_string)
open Go.Proofs.Ytnoofichbadkoaa.Mem Go.Proofs.Ytnoofichbadkoaa.Blk Go.Proofs.Ytnoofichbadkoaa.Cells Go.Proofs.Ytnoofichbadkoaa.TabM Go.Proofs.Ytnoofichbadkoaa.TabC Go.Proofs.Ytnoofichbadkoaa.TabD Go.Proofs.Ytnoofichbadkoaa.TabO Go.Proofs.Ytnoofichbadkoaa.Told5 Go.Proofs.Ytnoofichbadkoaa.Stages
set_option linter.unusedVariables false

theorem own : ownKnob Try.prog.godebug = none := by kernel_rfl
theorem laidOut : laidOutB Try.prog = true := by kernel_rfl

/-- WHAT THE WALK IS TOLD OF A SLICE OF INTEGERS THAT CAME IN: it is nil; or it leads to a row of 'cap' cells, the numbers 'zs' (the first 'len' are its elements, the rest its spare room), each fitting its kind. -/
def IsRow (k : IntKind) (w : World) (a : Option Addr) (len cap : Nat) (zs : List Int) : Prop :=
  (a = none ∧ len = 0 ∧ cap = 0 ∧ zs = []) ∨
  ∃ x, a = some x ∧ len ≤ cap ∧ cap ≤ maxLen ∧ zs.length = cap ∧ (∀ i, i < zs.length → w.cell? (x.add i) = some (.int k (zs.getD i 0))) ∧ ∀ n ∈ zs, (Lit.int k n).wf = true

/-- Who is in: three times a number from a on, below b. -/
def betw (a b : Nat) : Nat → Bool := fun m => decide (m % 3 = 0 ∧ a ≤ m / 3 ∧ m / 3 < b)
def third : Nat → Int := fun m => ((m / 3 : Nat) : Int)
theorem betw_on (j : Nat) : upd (betw 0 j) (3 * j) true = betw 0 (j + 1) := by
  funext m
  unfold upd betw
  by_cases e : m = 3 * j
  · rw [if_pos e, eq_comm, decide_eq_true_eq]; omega
  · rw [if_neg e, decide_eq_decide]; omega
theorem betw_off (j N : Nat) : upd (betw j N) (3 * j) false = betw (j + 1) N := by
  funext m
  unfold upd betw
  by_cases e : m = 3 * j
  · rw [if_pos e, eq_comm, decide_eq_false_iff_not]; omega
  · rw [if_neg e, decide_eq_decide]; omega
theorem third_on (j : Nat) : upd third (3 * j) (j : Int) = third := by
  funext m
  unfold upd third
  by_cases e : m = 3 * j
  · rw [if_pos e]; omega
  · rw [if_neg e]
/-- Ahead of the Put number j. -/
structure Fill (T : Tb) (N j : Nat) : Prop where
  n : T.n = N
  c : T.cnt = min j N
  abs : Abs T (betw 0 (min j N)) third
theorem fill_zero {N : Nat} (h : 1 ≤ N) : Fill (fresh N) N 0 :=
  ⟨rfl, by rw [cnt_fresh]; omega, by
    have := abs_fresh h third
    rw [show (fun _ : Nat => false) = betw 0 (min 0 N) by funext m; unfold betw; rw [eq_comm, decide_eq_false_iff_not]; omega] at this
    exact this⟩
theorem fill_put {T : Tb} {N j : Nat} (h : Fill T N j) (hj : j < N) : T.putC (3 * (j : Int)) = 0 ∧ Fill (T.put (3 * (j : Int)) (j : Int)) N (j + 1) := by
  have hc := h.c
  have hn := h.n
  have ha := h.abs
  rw [show min j N = j by omega] at hc ha
  obtain ⟨c1, A1, n1⟩ := ha.put_new (k := 3 * j) (by unfold betw; rw [decide_eq_false_iff_not]; omega) (by omega) (j : Int)
  rw [betw_on, third_on] at A1
  rw [show ((3 * j : Nat) : Int) = 3 * (j : Int) by omega] at c1 A1 n1
  refine ⟨c1, (put_n _).trans hn, by omega, ?_⟩
  rw [show min (j + 1) N = j + 1 by omega]
  exact A1
theorem fill_full {T : Tb} {N : Nat} (h : Fill T N N) : T.putC (3 * (N : Int)) = 8 ∧ Fill (T.put (3 * (N : Int)) (N : Int)) N (N + 1) := by
  have hc := h.c
  have hn := h.n
  have ha := h.abs
  rw [show min N N = N by omega] at hc ha
  obtain ⟨c1, e1⟩ := ha.put_full (k := 3 * N) (by unfold betw; rw [decide_eq_false_iff_not]; omega) (by omega) (N : Int)
  rw [show ((3 * N : Nat) : Int) = 3 * (N : Int) by omega] at c1 e1
  refine ⟨c1, ?_⟩
  rw [e1]
  exact ⟨hn, by omega, by rw [show min (N + 1) N = N by omega]; exact ha⟩
/-- Ahead of the Out number j. -/
structure Drain (T : Tb) (N j : Nat) : Prop where
  n : T.n = N
  c : T.cnt + j = N
  abs : Abs T (betw j N) third
  last : j = N → T = fresh N
theorem drain_zero {T : Tb} {N : Nat} (h1 : 1 ≤ N) (h : Fill T N (N + 1)) : Drain T N 0 := by
  have hc := h.c
  have ha := h.abs
  rw [show min (N + 1) N = N by omega] at hc ha
  exact ⟨h.n, by omega, ha, fun e => by omega⟩
theorem drain_out {T : Tb} {N j : Nat} (h : Drain T N j) (hj : j < N) : T.get (3 * (j : Int)) = (j : Int) ∧ Drain (T.out (3 * (j : Int))) N (j + 1) := by
  have hc := h.c
  have hn := h.n
  obtain ⟨c1, A1, n1, l1⟩ := h.abs.out_some (k := 3 * j) (by unfold betw; rw [decide_eq_true_eq]; omega)
  rw [betw_off] at A1
  rw [show third (3 * j) = (j : Int) by unfold third; omega] at c1
  rw [show ((3 * j : Nat) : Int) = 3 * (j : Int) by omega] at c1 A1 n1 l1
  refine ⟨c1, out_n.trans hn, by omega, A1, fun e => ?_⟩
  rw [hn] at l1
  exact l1 (by omega)
def FLoop (w1 : World) (d D N : Nat) (g : Nat) (i : Value) (wx : World) : Prop := ∃ (j : Nat) (T : Tb), j + g = N + 1 ∧ i = .int .i64 (j : Int) ∧ TabAt wx d D T ∧ Fill T N j ∧ Kept (Own d D) w1 wx
def DLoop (w1 : World) (d D N : Nat) (g : Nat) (i : Value) (wx : World) : Prop := ∃ (j : Nat) (T : Tb), j + g = N ∧ i = .int .i64 (j : Int) ∧ TabAt wx d D T ∧ Drain T N j ∧ Kept (Own d D) w1 wx

/-! ### STEP 1: THE WALK: the Go text returns true, AND WRITES NOTHING THAT WAS THERE: 'Below w.heap.size w w'' (Derived/Below.lean: '.refl', '.alloc', '.drew', '.setCell' at a new block, '.trans'). Open each 'IsRow' by 'rcases' AHEAD of 'go_enter'; part every test ahead of the walk. -/
set_option maxHeartbeats 2000000 in
theorem walk (a0 : Int) (w : World) (w0 : (Lit.int .i64 a0).wf = true) :
    Calls Try.prog 7 #[.int .i64 a0] w fun e w' => e = .returned (.bool true) ∧ Below w.heap.size w w' := by
  have k0 := bounds_i64 w0
  obtain ⟨n0, hn, hn40⟩ := tmod_nat a0 40 (by omega)
  simp only [Int.cast_ofNat_Int] at hn
  have hnz : (n0 : Int) < 40 := by omega
  obtain ⟨N, hN⟩ : ∃ N : Nat, N = 1 + n0 := ⟨_, rfl⟩
  have HN := Lib.hid hN
  have hN1 : 1 ≤ N := by omega
  have hN40 : N ≤ 40 := by omega
  clear hN
  go_enter Try.func7, Try.ntmps7
  go_upto_region 1 with (fail)
  go_cut [3] (fun s3 wx => s3 = .int .i64 (N : Int) ∧ w = wx)
  case first =>
    go_wp2_with fail
    all_goals (go_meet; exact ⟨by have := HN.out; congr 1; omega, rfl⟩)
  case rest =>
    obtain ⟨rfl, rfl⟩ := hcut
    clear hn hnz hn40 HN n0
    have hNz : (N : Int) ≤ 40 := by omega
    have hNz1 : (1 : Int) ≤ (N : Int) := by omega
    go_wp2_with (go_at_call 9; (with_reducible refine (new_good N (by omega) (by omega)).mono ?_); rintro e w1 ⟨d, D, rfl, hl, hd1, hd2, hg⟩; have H0 := Lib.hid hl; have HD := Lib.hid (And.intro hd1 hd2); have G0 := Lib.hid hg; clear hl hd1 hd2 hg)
    go_loopg [5] (N + 1) (FLoop w1 d D N)
    case atStart => exact ⟨0, _, by omega, rfl, H0.out, fill_zero hN1, Kept.refl _ _⟩
    case round =>
      obtain ⟨j, T, hg, rfl, hl, hf, hk⟩ := hrel
      have HG := Lib.hid hg
      have HL := Lib.hid hl
      have HF := Lib.hid hf
      have HK := Lib.hid hk
      clear hg hl hf hk
      by_cases hj : j < N
      · have hjz : (j : Int) < (N : Int) := by omega
        have hjz2 : (j : Int) ≤ (N : Int) := by omega
        have HM := Lib.hid (fill_put HF.out hj)
        clear hj
        go_wp2_with (go_at_call 10; (with_reducible refine (t_put _ _ HL.out HM.out.1 rfl).mono ?_); rintro e w2 ⟨rfl, hl, hk⟩; have HL2 := Lib.hid hl; have HK2 := Lib.hid hk; clear hl hk)
        go_roundg (gk - 1)
        case measure => have := HG.out; omega
        case rel => exact ⟨j + 1, _, by have := HG.out; omega, by go_num, HL2.out, HM.out.2, HK.out.trans HK2.out⟩
      · by_cases hj2 : j = N
        · subst hj2
          have HM := Lib.hid (fill_full HF.out)
          clear hj
          go_wp2_with (go_at_call 10; (with_reducible refine (t_put _ _ HL.out HM.out.1 rfl).mono ?_); rintro e w2 ⟨rfl, hl, hk⟩; have HL2 := Lib.hid hl; have HK2 := Lib.hid hk; clear hl hk)
          go_roundg (gk - 1)
          case measure => have := HG.out; omega
          case rel => exact ⟨j + 1, _, by have := HG.out; omega, by go_num, HL2.out, HM.out.2, HK.out.trans HK2.out⟩
        · obtain rfl : j = N + 1 := by have := HG.out; omega
          have HDR := Lib.hid (drain_zero hN1 HF.out)
          have hjz : (N : Int) < ((N + 1 : Nat) : Int) := by omega
          clear hj hj2
          go_wp2_with (fail)
          go_loopg [7] N (DLoop w1 d D N)
          case atStart => exact ⟨0, T, by omega, rfl, HL.out, HDR.out, HK.out⟩
          case round =>
            clear HL HF HK HDR HG T H0
            obtain ⟨j, T, hg, rfl, hl, hf, hk⟩ := hrel
            have HG := Lib.hid hg
            have HL := Lib.hid hl
            have HF := Lib.hid hf
            have HK := Lib.hid hk
            clear hg hl hf hk
            by_cases hj : j < N
            · have hjz : (j : Int) < (N : Int) := by omega
              have HM := Lib.hid (drain_out HF.out hj)
              clear hj
              go_wp2_with (go_at_call 17; (with_reducible refine (t_out _ HL.out HM.out.1 rfl).mono ?_); rintro e w2 ⟨rfl, hl, hk⟩; have HL2 := Lib.hid hl; have HK2 := Lib.hid hk; clear hl hk)
              go_roundg (gk - 1)
              case measure => have := HG.out; omega
              case rel => exact ⟨j + 1, _, by have := HG.out; omega, by go_num, HL2.out, HM.out.2, HK.out.trans HK2.out⟩
            · obtain rfl : j = N := by have := HG.out; omega
              have he := HF.out.last rfl
              subst he
              clear hj
              have HB : Hid (Below w.heap.size w wr) := by
                refine Kept.below (F := Own d D) ((Grow.kept G0.out).trans HK.out) (fun k ho => ?_) (Nat.le_refl _)
                have h1 := HD.out.1
                have h2 := HD.out.2
                rcases ho with h | h <;> omega
              have CS : Hid (Calls Try.prog 11 #[.pointer (some ⟨d, 0, none⟩)] wr fun e w' => ∃ g c, e = .returned (.slice (some ⟨g, 0, none⟩) j c) ∧ Slots w' g (fresh j) ∧ Grow wr w') := by
                refine (slots_any HL.out).mono ?_
                rintro e w' ⟨g, c, h1, h2, h3, _, h4⟩
                exact ⟨g, c, h1, h2, h4⟩
              go_wp2_with (go_at_call 11; (with_reducible refine CS.out.mono ?_); rintro e w3 ⟨gS, c, rfl, hs, hg⟩; have HS := Lib.hid hs; have G2 := Lib.hid hg; clear hs hg)
              have H2 := Lib.hid (TabAt.grow HL.out G2.out)
              go_loopg [9] j (fun gx i wx => ∃ q : Nat, q + gx = j ∧ i = .int .i64 (q : Int) ∧ w3 = wx)
              case atStart => exact ⟨0, by omega, rfl, rfl⟩
              case round =>
                obtain ⟨q, hg, rfl, rfl⟩ := hrel
                have HQ := Lib.hid hg
                clear hg
                by_cases hq : q < j
                · have hqz : (q : Int) < (j : Int) := by omega
                  have r0 : w3.cell? ⟨gS, q * 2, none⟩ = some (.int .i64 (-1)) := HS.out.k (p := q) hq
                  have r1 : w3.cell? ⟨gS, q * 2 + 1, none⟩ = some (.int .i64 0) := HS.out.v (p := q) hq
                  clear hq
                  go_wp2
                  go_roundg (gk - 1)
                  case measure => have := HQ.out; omega
                  case rel => exact ⟨q + 1, by have := HQ.out; omega, by go_num, rfl⟩
                · obtain rfl : q = j := by have := HQ.out; omega
                  have CL : Hid (∀ wx, TabAt wx d D (fresh q) → Calls Try.prog 14 #[.pointer (some ⟨d, 0, none⟩)] wx fun e w' => e = .returned (.int .i64 0) ∧ wx = w') := fun wx h => t_len h (cnt_fresh q)
                  clear hq
                  go_wp2_with (first
                    | (go_at_call 12; (with_reducible refine (told_any _).mono ?_); rintro e w5 ⟨rfl, hge⟩; have HGE := Lib.hid hge; clear hge)
                    | (go_at_call 14; (with_reducible refine (CL.out _ (TabAt.grow H2.out HGE.out)).mono ?_); rintro e w' ⟨rfl, rfl⟩))
                  go_ret
                  exact ⟨rfl, HB.out.trans ((Grow.below (G2.out.trans HGE.out)).mono HB.out.size)⟩

/-! ### THE ROW's STEP: WRITTEN OUT: LEAVE IT -/
set_option maxRecDepth 100000 in
theorem lifted (os : Os) (started : os.Started) (H : Type) (enc : TypeId × Value → H) :
    ReturnsInHanded {} Try.checked os 7 .any (Rows.tableFullSpec.pre6 enc Try.prog Try.f7 Rows.tableFullRow.domain false) (Rows.tableFullSpec.post enc Try.prog Try.f7 false true false false) := by
  refine returnsInHanded_of_change (C := Try.checked) own started (by kernel_rfl) Try.func7
    (ChangeSpec.witness6 (enc := enc) (C := Try.checked) false ⟨#[], #[.int .i64 0], []⟩ 8 (by kernel_rfl) (by kernel_rfl) (by kernel_rfl) (by kernel_rfl)) ?_
  intro W base args ds gs before hval0 hW hcnd _
  have hval : ∀ (j : Nat) t v, Try.f7.params[j]? = some t → args[j]? = some v → Value.okWide Try.prog W .any base t v := hval0
  have hW' := hW
  obtain ⟨p, q, hA0, hV, rfl, hfz, hnd⟩ := hW
  have hA : DataW.TrodAll enc Try.prog W 0 (fun _ => true) true Try.f7.params.toList args.toList ds p := hA0
  rw [Try.params7] at hA hval
  obtain ⟨v0, vs0, d0, ds0, p0, q0, hargs, rfl, rfl, h0, r0⟩ := trodAll_cons hA
  obtain ⟨rfl, rfl, rfl⟩ := trodAll_nil r0
  obtain rfl : args = #[v0] := by cases args; simp_all
  obtain ⟨rfl, rfl⟩ := trodVars_none hV
  obtain ⟨a0, rfl, rfl, rfl, w0⟩ := open_int Try.underlying3 (hval 0 3 v0 rfl rfl) h0
  clear hA0 hval0
  refine (walk a0 W w0).mono fun e W' ⟨he, bel⟩ => ?_
  subst he
  exact ⟨_, rfl, _, _, _, [], _, [], hW', trodAll_mk1 (shut_bool Try.underlying4 _), (trodAll_cons_mk (shut_int Try.underlying3 w0) trodAll_mk0), rfl, bel.frame _, fun h => by cases h⟩

theorem over : Rows.tableFullRow.holds Try.pinned (OpenSpec.ofChange Rows.tableFullSpec) :=
  OpenClaim.holds_of_wide 7 Try.f7 rfl rfl rfl rfl rfl rfl rfl ⟨rfl, rfl, rfl, rfl, rfl⟩ rfl rfl rfl rfl rfl (by kernel_rfl) Try.func7 (by kernel_rfl)
    (of_decide_eq_true (by kernel_rfl)) (by unfold Func.isWrapper; first | (rw [if_pos (by decide +kernel)]; kernel_rfl) | (rw [if_neg (by decide +kernel)]; exact ⟨rfl, rfl⟩))
    (fun os started H enc _ => lifted os started H enc)

/-- ████ THE STATEMENT ████ -/
theorem proved : Rows.TableFullSaid := over
#print axioms proved
end Go.Proofs.Ytnoofichbadkoaa.tableFull
