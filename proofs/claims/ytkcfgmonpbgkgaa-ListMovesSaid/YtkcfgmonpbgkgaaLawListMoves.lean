/-
  For every input the call of lavabolaw4.ListMoves returns true and leaves its arguments as they were; no condition.
-/
import Derived.Test.YtkcfgmonpbgkgaaTold4
import Derived.Test.YtkcfgmonpbgkgaaRows
import Derived.WalkKit
import Derived.ProofKit
import Derived.OpenShut
import Derived.ShutString
import Derived.ChangeOld
import Derived.Below
namespace Go.Proofs.Ytkcfgmonpbgkgaa.listMoves
open Go.ChangeShapes Go.WideShapes Go.ChangeAt Go.RowKit
open Go.ChangeMaps (open_string shut_string)
open Go.Proofs.Ytkcfgmonpbgkgaa.Mem Go.Proofs.Ytkcfgmonpbgkgaa.Blk Go.Proofs.Ytkcfgmonpbgkgaa.ListM Go.Proofs.Ytkcfgmonpbgkgaa.Rowed Go.Proofs.Ytkcfgmonpbgkgaa.ListC Go.Proofs.Ytkcfgmonpbgkgaa.ListD Go.Proofs.Ytkcfgmonpbgkgaa.Told4 Go.Proofs.Ytkcfgmonpbgkgaa.Stages
set_option linter.unusedVariables false

theorem own : ownKnob Try.prog.godebug = none := by kernel_rfl
theorem laidOut : laidOutB Try.prog = true := by kernel_rfl

/-- WHAT THE WALK IS TOLD OF A SLICE OF INTEGERS THAT CAME IN: it is nil; or it leads to a row of 'cap' cells, the numbers 'zs' (the first 'len' are its elements, the rest its spare room), each fitting its kind. -/
def IsRow (k : IntKind) (w : World) (a : Option Addr) (len cap : Nat) (zs : List Int) : Prop :=
  (a = none ∧ len = 0 ∧ cap = 0 ∧ zs = []) ∨
  ∃ x, a = some x ∧ len ≤ cap ∧ cap ≤ maxLen ∧ zs.length = cap ∧ (∀ i, i < zs.length → w.cell? (x.add i) = some (.int k (zs.getD i 0))) ∧ ∀ n ∈ zs, (Lit.int k n).wf = true

theorem erase_range {N W : Nat} (h : W < N) : ((List.range N).erase W).length = N - 1 ∧ ∀ j, j < N - 1 → ((List.range N).erase W).getD j 0 = if j < W then j else j + 1 := by
  have hm : W ∈ List.range N := List.mem_range.2 h
  have hi : (List.range N).idxOf W = W := by
    have := List.nodup_range.idxOf_getElem (xs := List.range N) W (by simpa using h)
    simpa using this
  have he : (List.range N).erase W = (List.range N).eraseIdx W := by
    rw [List.erase_eq_eraseIdx_of_idxOf hi]
  refine ⟨by rw [List.length_erase, if_pos hm, List.length_range], fun j hj => ?_⟩
  rw [he, List.getD_eq_getElem?_getD, List.getElem?_eraseIdx]
  by_cases hw : j < W
  · rw [if_pos hw, if_pos hw]
    simp [show j < N by omega]
  · rw [if_neg hw, if_neg hw]
    simp [show j + 1 < N by omega]
def ALoop (w1 : World) (d D N : Nat) (g : Nat) (i : Value) (wx : World) : Prop := ∃ j : Nat, j + g = N ∧ i = .int .i64 (j : Int) ∧ ListAt wx d D N (List.range j) ∧ Kept (Own d D) w1 wx
theorem range_back {N j : Nat} (h : j < N) : okF N (List.range j) (j : Int) = true ∧ backL N (List.range j) (j : Int) = List.range (j + 1) := by
  have h1 : okF N (List.range j) (j : Int) = true := by simp [okF, h]
  exact ⟨h1, by unfold backL; rw [if_pos h1, Int.toNat_natCast, List.range_succ]⟩

/-! ### STEP 1: THE WALK: the Go text returns true, AND WRITES NOTHING THAT WAS THERE: 'Below w.heap.size w w'' (Derived/Below.lean: '.refl', '.alloc', '.drew', '.setCell' at a new block, '.trans'). Open each 'IsRow' by 'rcases' AHEAD of 'go_enter'; part every test ahead of the walk. -/
set_option maxHeartbeats 2000000 in
theorem walk (a0 : Int) (a1 : Int) (w : World) (w0 : (Lit.int .i64 a0).wf = true) (w1 : (Lit.int .i64 a1).wf = true) :
    Calls Try.prog 5 #[.int .i64 a0, .int .i64 a1] w fun e w' => e = .returned (.bool true) ∧ Below w.heap.size w w' := by
  have k0 := bounds_i64 w0
  have k1 := bounds_i64 w1
  obtain ⟨n0, hn, hn30⟩ := tmod_nat a0 30 (by omega)
  simp only [Int.cast_ofNat_Int] at hn
  have hnz : (n0 : Int) < 30 := by omega
  obtain ⟨N, hN⟩ : ∃ N : Nat, N = 1 + n0 := ⟨_, rfl⟩
  have HN := Lib.hid hN
  have hN1 : 1 ≤ N := by omega
  have hN30 : N ≤ 30 := by omega
  obtain ⟨m0, hm, hmN⟩ := tmod_nat a1 N (by omega)
  clear hN
  go_enter Try.func5, Try.ntmps5
  go_upto_region 1 with (fail)
  go_cut [5] (fun s5 wx => s5 = .int .i64 (N : Int) ∧ w = wx)
  case first =>
    go_wp2_with fail
    all_goals (go_meet; exact ⟨by have := HN.out; congr 1; omega, rfl⟩)
  case rest =>
    obtain ⟨rfl, rfl⟩ := hcut
    clear hn hnz hn30 HN n0
    have hNz : (N : Int) ≤ 30 := by omega
    have hNz1 : (1 : Int) ≤ (N : Int) := by omega
    have hmz : (m0 : Int) < (N : Int) := by omega
    have hm30 : (m0 : Int) < 30 := by omega
    go_wp2_with (go_at_call 7; (with_reducible refine (new_good N (by omega)).mono ?_); rintro e w1 ⟨d, D, rfl, hl, hd1, hd2, hg⟩; have H0 := Lib.hid hl; have HD := Lib.hid (And.intro hd1 hd2); have G0 := Lib.hid hg; clear hl hd1 hd2 hg)
    go_loopg [8] N (ALoop w1 d D N)
    case atStart => exact ⟨0, by omega, rfl, H0.out, Kept.refl _ _⟩
    case round =>
      obtain ⟨j, hg, rfl, hl, hk⟩ := hrel
      have HG := Lib.hid hg
      have HL := Lib.hid hl
      have HK := Lib.hid hk
      clear hg hl hk
      by_cases hj : j < N
      · have hjz : (j : Int) < (N : Int) := by omega
        have CB : Hid (Calls Try.prog 11 #[.pointer (some ⟨d, 0, none⟩), .int .i64 (j : Int)] wr (ListPost d D N wr (.bool true) (List.range (j + 1)))) := by
          have := back_any HL.out (j : Int)
          rw [(range_back hj).1, (range_back hj).2] at this
          exact this
        go_wp2_with (go_at_call 11; (with_reducible refine CB.out.mono ?_); rintro e w2 ⟨rfl, hl, hk, _⟩; have HL2 := Lib.hid hl; have HK2 := Lib.hid hk; clear hl hk)
        go_roundg (gk - 1)
        case measure => have := HG.out; omega
        case rel => exact ⟨j + 1, by have := HG.out; omega, by go_num, HL2.out, HK.out.trans HK2.out⟩
      · obtain rfl : j = N := by have := HG.out; omega
        have HE := Lib.hid (erase_range hmN)
        have CO : Hid (Calls Try.prog 13 #[.pointer (some ⟨d, 0, none⟩), .int .i64 (m0 : Int)] wr fun e w' => e = .returned (.bool true) ∧ ListAt w' d D j ((List.range j).erase m0) ∧ Kept (Own d D) wr w') :=
          out_good HL.out m0 (List.mem_range.2 hmN)
        have CF : Hid (∀ wx, ListAt wx d D j ((List.range j).erase m0) → Calls Try.prog 9 #[.pointer (some ⟨d, 0, none⟩), .int .i64 (m0 : Int)] wx (ListPost d D j wx (.bool true) (m0 :: (List.range j).erase m0))) := fun wx h =>
          front_good h m0 hmN (fun hm => ((List.nodup_range.mem_erase_iff).1 hm).1 rfl)
        have HLN : Hid ((m0 :: (List.range j).erase m0).length = j) := by
          show _ = _
          rw [List.length_cons, HE.out.1]; omega
        go_upto_region 14 with (first
          | (go_at_call 13; (with_reducible refine CO.out.mono ?_); rintro e w2 ⟨rfl, hl, hk⟩; have HL2 := Lib.hid hl; have HK2 := Lib.hid hk; clear hl hk)
          | (go_at_call 9; (with_reducible refine (CF.out _ HL2.out).mono ?_); rintro e w3 ⟨rfl, hl, hk, _⟩; have HL3 := Lib.hid hl; have HK3 := Lib.hid hk; clear hl hk)
          | (go_at_call 24; (with_reducible refine (all_any HL3.out).mono ?_); rintro e w4 ⟨A, c, rfl, hs, _, hk⟩; rw [HLN.out] at hs; obtain ⟨b, o, rfl, _, hc⟩ := hs.at_ (by omega); have HC := Lib.hid hc; have HK4 := Lib.hid hk; clear hs hk hc))
        have x0 := HC.out 0 (by omega)
        rw [ints_get] at x0
        simp only [List.getD_cons_zero, Nat.add_zero] at x0
        have HB : Hid (Below w.heap.size w w4) := by
          refine Kept.below (F := Own d D) ((Grow.kept G0.out).trans (((HK.out.trans HK2.out).trans HK3.out).trans (Grow.kept HK4.out))) (fun k ho => ?_) (Nat.le_refl _)
          have h1 := HD.out.1
          have h2 := HD.out.2
          rcases ho with h | h <;> omega
        have HA : Hid (∀ q, q < j → q ≠ m0 → w4.cell? ⟨b, o + (if q ≤ m0 then q + 1 else q), none⟩ = some (.int .i64 (q : Int)) ∧ (if q ≤ m0 then q + 1 else q) < j) := fun q hq hne => by
          have h2 := HE.out.2
          have h3 := HC.out
          by_cases hle : q ≤ m0
          · rw [if_pos hle]
            have h1 := h3 (q + 1) (by omega)
            rw [ints_get, List.getD_cons_succ, h2 q (by omega), if_pos (by omega)] at h1
            exact ⟨h1, by omega⟩
          · rw [if_neg hle]
            have h1 := h3 q (by omega)
            obtain ⟨p, rfl⟩ : ∃ p, q = p + 1 := ⟨q - 1, by omega⟩
            rw [ints_get, List.getD_cons_succ, h2 p (by omega), if_neg (by omega)] at h1
            exact ⟨h1, by omega⟩
        clear hj
        go_wp2
        go_loopg [10, 11] j (fun g a i wx => ∃ q : Nat, q + g = j ∧ i = .int .i64 (q : Int) ∧ a = .int .i64 ((if q ≤ m0 then q + 1 else q : Nat) : Int) ∧ w4 = wx)
        case atStart => exact ⟨0, by omega, rfl, rfl, rfl⟩
        case round =>
          obtain ⟨q, hg, rfl, rfl, rfl⟩ := hrel
          have HG2 := Lib.hid hg
          clear hg
          by_cases hq : q < j
          · have hqz : (q : Int) < (j : Int) := by omega
            by_cases hqm : q = m0
            · subst hqm
              go_wp2
              go_roundg (j - (q + 1))
              case measure => have := HG2.out; omega
              case rel => exact ⟨q + 1, by have := HG2.out; omega, by go_num, by rw [if_neg (by omega)]; go_num, rfl⟩
            · obtain ⟨hc, hlt⟩ := HA.out q hq hqm
              have HNX : Hid ((if q + 1 ≤ m0 then q + 1 + 1 else q + 1) = (if q ≤ m0 then q + 1 else q) + 1) := by
                show _ = _
                by_cases hle : q ≤ m0
                · rw [if_pos hle, if_pos (by omega)]
                · rw [if_neg hle, if_neg (by omega)]
              have hqm' : ((q : Int) == (m0 : Int)) = false := by
                rw [beq_eq_false_iff_ne]; omega
              generalize (if q ≤ m0 then q + 1 else q) = t at *
              have htz : (t : Int) < (j : Int) := by omega
              clear hqm
              go_wp2
              go_roundg (j - (q + 1))
              case measure => have := HG2.out; omega
              case rel => exact ⟨q + 1, by have := HG2.out; omega, by go_num, by rw [HNX.out]; go_num, rfl⟩
          · go_wp2_with (go_at_call 8; (with_reducible refine (told_any _).mono ?_); rintro e w5 ⟨rfl, hge⟩; have HGE := Lib.hid hge; clear hge)
            go_ret
            exact ⟨rfl, HB.out.trans (HGE.out.below.mono HB.out.size)⟩

/-! ### THE ROW's STEP: WRITTEN OUT: LEAVE IT -/
set_option maxRecDepth 100000 in
theorem lifted (os : Os) (started : os.Started) (H : Type) (enc : TypeId × Value → H) :
    ReturnsInHanded {} Try.checked os 5 .any (Rows.listMovesSpec.pre6 enc Try.prog Try.f5 Rows.listMovesRow.domain false) (Rows.listMovesSpec.post enc Try.prog Try.f5 false true false false) := by
  refine returnsInHanded_of_change (C := Try.checked) own started (by kernel_rfl) Try.func5
    (ChangeSpec.witness6 (enc := enc) (C := Try.checked) false ⟨#[], #[.int .i64 0, .int .i64 0], []⟩ 8 (by kernel_rfl) (by kernel_rfl) (by kernel_rfl) (by kernel_rfl)) ?_
  intro W base args ds gs before hval0 hW hcnd _
  have hval : ∀ (j : Nat) t v, Try.f5.params[j]? = some t → args[j]? = some v → Value.okWide Try.prog W .any base t v := hval0
  have hW' := hW
  obtain ⟨p, q, hA0, hV, rfl, hfz, hnd⟩ := hW
  have hA : DataW.TrodAll enc Try.prog W 0 (fun _ => true) true Try.f5.params.toList args.toList ds p := hA0
  rw [Try.params5] at hA hval
  obtain ⟨v0, vs0, d0, ds0, p0, q0, hargs, rfl, rfl, h0, r0⟩ := trodAll_cons hA
  obtain ⟨v1, vs1, d1, ds1, p1, q1, rfl, rfl, rfl, h1, r1⟩ := trodAll_cons r0
  obtain ⟨rfl, rfl, rfl⟩ := trodAll_nil r1
  obtain rfl : args = #[v0, v1] := by cases args; simp_all
  obtain ⟨rfl, rfl⟩ := trodVars_none hV
  obtain ⟨a0, rfl, rfl, rfl, w0⟩ := open_int Try.underlying3 (hval 0 3 v0 rfl rfl) h0
  obtain ⟨a1, rfl, rfl, rfl, w1⟩ := open_int Try.underlying3 (hval 1 3 v1 rfl rfl) h1
  clear hA0 hval0
  refine (walk a0 a1 W w0 w1).mono fun e W' ⟨he, bel⟩ => ?_
  subst he
  exact ⟨_, rfl, _, _, _, [], _, [], hW', trodAll_mk1 (shut_bool Try.underlying4 _), (trodAll_cons_mk (shut_int Try.underlying3 w0) (trodAll_cons_mk (shut_int Try.underlying3 w1) trodAll_mk0)), rfl, bel.frame _, fun h => by cases h⟩

theorem over : Rows.listMovesRow.holds Try.pinned (OpenSpec.ofChange Rows.listMovesSpec) :=
  OpenClaim.holds_of_wide 5 Try.f5 rfl rfl rfl rfl rfl rfl rfl ⟨rfl, rfl, rfl, rfl, rfl⟩ rfl rfl rfl rfl rfl (by kernel_rfl) Try.func5 (by kernel_rfl)
    (of_decide_eq_true (by kernel_rfl)) (by unfold Func.isWrapper; first | (rw [if_pos (by decide +kernel)]; kernel_rfl) | (rw [if_neg (by decide +kernel)]; exact ⟨rfl, rfl⟩))
    (fun os started H enc _ => lifted os started H enc)

/-- ████ THE STATEMENT ████ -/
theorem proved : Rows.ListMovesSaid := over
#print axioms proved
end Go.Proofs.Ytkcfgmonpbgkgaa.listMoves
