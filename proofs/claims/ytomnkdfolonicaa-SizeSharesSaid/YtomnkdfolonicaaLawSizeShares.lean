/-
  For every input the call of lavabolaw18.SizeShares returns true and leaves its arguments as they were; no condition.
-/
import Derived.Test.YtomnkdfolonicaaSzLay
import Derived.Test.YtomnkdfolonicaaRows
import Derived.WalkKit
import Derived.ProofKit
import Derived.OpenShut
import Derived.ShutString
import Derived.ChangeOld
import Derived.Below
namespace Go.Proofs.Ytomnkdfolonicaa.sizeShares
open Go.ChangeShapes Go.WideShapes Go.ChangeAt Go.RowKit
open Go.ChangeMaps (open_string shut_string)
open Go.Proofs.Ytomnkdfolonicaa.Mem Go.Proofs.Ytomnkdfolonicaa.Blk Go.Proofs.Ytomnkdfolonicaa.Cells Go.Proofs.Ytomnkdfolonicaa.GsC Go.Proofs.Ytomnkdfolonicaa.SzM Go.Proofs.Ytomnkdfolonicaa.SzC Go.Proofs.Ytomnkdfolonicaa.SzN Go.Proofs.Ytomnkdfolonicaa.SzR Go.Proofs.Ytomnkdfolonicaa.SzL Go.Proofs.Ytomnkdfolonicaa.Told18 Go.Proofs.Ytomnkdfolonicaa.Stages
set_option linter.unusedVariables false

theorem own : ownKnob Try.prog.godebug = none := by kernel_rfl
theorem laidOut : laidOutB Try.prog = true := by kernel_rfl

/-- WHAT THE WALK IS TOLD OF A SLICE OF INTEGERS THAT CAME IN: it is nil; or it leads to a row of 'cap' cells, the numbers 'zs' (the first 'len' are its elements, the rest its spare room), each fitting its kind. -/
def IsRow (k : IntKind) (w : World) (a : Option Addr) (len cap : Nat) (zs : List Int) : Prop :=
  (a = none ∧ len = 0 ∧ cap = 0 ∧ zs = []) ∨
  ∃ x, a = some x ∧ len ≤ cap ∧ cap ≤ maxLen ∧ zs.length = cap ∧ (∀ i, i < zs.length → w.cell? (x.add i) = some (.int k (zs.getD i 0))) ∧ ∀ n ∈ zs, (Lit.int k n).wf = true

/-! ### STEP 1: THE WALK: the Go text returns true, AND WRITES NOTHING THAT WAS THERE: 'Below w.heap.size w w'' (Derived/Below.lean: '.refl', '.alloc', '.drew', '.setCell' at a new block, '.trans'). Open each 'IsRow' by 'rcases' AHEAD of 'go_enter'; part every test ahead of the walk. -/
set_option maxHeartbeats 4000000 in
theorem walk (a0 : Int) (a1 : Int) (a2 : Option Addr) (len2 cap2 : Nat) (z2 : List Int) (w : World) (w0 : (Lit.int .i64 a0).wf = true) (w1 : (Lit.int .i64 a1).wf = true) (w2 : IsRow .i64 w a2 len2 cap2 z2) :
    Calls Try.prog 4 #[.int .i64 a0, .int .i64 a1, .slice a2 len2 cap2] w fun e w' => e = .returned (.bool true) ∧ Below w.heap.size w w' := by
  obtain ⟨hs, hle, hcap, hwf⟩ := Sl.of_isRow w2
  unfold maxLen at hcap
  have k0 := bounds_i64 w0
  have k1 := bounds_i64 w1
  generalize z2.take len2 = zs at hs hwf
  have hlz : (len2 : Int) ≤ 9223372036854775807 := by omega
  have HIN : Hid (Has w a2 len2 (fun j => zs.getD j 0)) := fun hn => by
    obtain ⟨b, o, rfl, _, hc⟩ := hs.at_ hn
    exact ⟨b, o, rfl, hc⟩
  obtain ⟨M, hM, hM33⟩ := tmod_nat a0 33 (by omega)
  obtain ⟨N, hN, hN4⟩ := tmod_nat a1 4 (by omega)
  simp only [Int.cast_ofNat_Int] at hM hN
  obtain ⟨K, hK⟩ : ∃ K : Nat, K = 1 + N := ⟨_, rfl⟩
  have hKz : (1 : Int) + (N : Int) = (K : Int) := by omega
  have HM := Lib.hid (show M ≤ 32 by omega)
  have HK1 := Lib.hid (show 1 ≤ K by omega)
  have HK4 := Lib.hid (show K ≤ 4 by omega)
  have hMz : (M : Int) ≤ 32 := by omega
  have hNz : (N : Int) < 4 := by omega
  obtain ⟨F, hF⟩ : ∃ F : Nat → Int, F = fun j => if j < len2 then (IntKind.u64.wrap (zs.getD j 0)).tmod 33 else 0 := ⟨_, rfl⟩
  have HF1 : Hid (∀ j, j < len2 → ∃ Y : Nat, F j = (Y : Int) ∧ (IntKind.u64.wrap (zs.getD j 0)).tmod 33 = (Y : Int) ∧ Y ≤ 32) := fun j hj => by
    obtain ⟨Y, h1, h2⟩ := tmod_nat (zs.getD j 0) 33 (by omega)
    simp only [Int.cast_ofNat_Int] at h1
    exact ⟨Y, by rw [hF]; exact (if_pos hj).trans h1, h1, by omega⟩
  have HF2 : Hid (∀ j, len2 ≤ j → F j = 0) := fun j hj => by rw [hF]; exact if_neg (by omega)
  have HFB : Hid (∀ j, 0 ≤ F j ∧ F j ≤ 32) := fun j => by
    by_cases e : j < len2
    · obtain ⟨Y, h1, _, h2⟩ := HF1.out j e; omega
    · have := HF2.out j (by omega); omega
  have hK1z : 1 ≤ (K : Int) := by have := HK1.out; omega
  have hK4z : (K : Int) ≤ 4 := by have := HK4.out; omega
  have CS := Lib.hid fun (w : World) => share_good (w := w) HK1.out HK4.out HM.out
  clear hM33 hN4 hK hF hs hwf w0 w1 w2
  go_enter Try.func4, Try.ntmps4
  go_wp2_with (go_at_call 11; (with_reducible refine (CS.out _).mono ?_); rintro e x1 ⟨b1, rfl, hr, _, hg⟩; have R1 := Lib.hid hr; have G1 := Lib.hid hg; clear hr hg)
  clear CS hKz hNz hN hM
  go_loopg [10, 11] K (fun gx s10 i wr => ∃ (j : Nat) (A : Option Addr) (c : Nat), j + gx = K ∧ i = .int .i64 (j : Int) ∧ s10 = .slice A j c ∧ Gs wr A j c (row F j) ∧ (∀ k, blk A c k → x1.heap.size ≤ k) ∧ Grow x1 wr)
  case atStart => exact ⟨0, none, 0, by omega, rfl, rfl, Gs.nil _ _, fun k h => absurd h blk_zero, Kept.refl _ _⟩
  case round =>
    obtain ⟨j, A, c, hg, rfl, rfl, hgs, hbk, hgr⟩ := hrel
    have HG := Lib.hid hg
    have HGS := Lib.hid hgs
    have HBK := Lib.hid hbk
    have HGR := Lib.hid hgr
    clear hg hgs hbk hgr
    by_cases hj : j < K
    · have hjz : (j : Int) < (K : Int) := by omega
      by_cases hl : j < len2
      · have hlz2 : (j : Int) < (len2 : Int) := by omega
        obtain ⟨b, o, rfl, hc⟩ := HIN.out.grow (G1.out.trans HGR.out) (by omega)
        have r0 : wr.cell? ⟨b, o + j, none⟩ = some (.int .i64 (zs.getD j 0)) := hc j hl
        obtain ⟨Y, hY, ht, hY32⟩ := HF1.out j hl
        have hYz : (Y : Int) ≤ 32 := by omega
        obtain ⟨A', c', w2, hr, hg2, hb2, hgr2⟩ := gs_push HGS.out HBK.out HGR.out (by have := HK4.out; omega) hY
        have HR := Lib.hid hr
        have HG2 := Lib.hid hg2
        have HB2 := Lib.hid hb2
        have HGR2 := Lib.hid hgr2
        clear hr hg2 hb2 hgr2 hc hY hY32
        generalize zs.getD j 0 = z at *
        go_wp2_with (at_builtin; refine Lib.wpList_append_run _ rfl _ _ _ _ rfl _ _ rfl rfl _ _ HR.out ?_)
        go_roundg (gk - 1)
        case measure => have := HG.out; omega
        case rel => exact ⟨j + 1, A', c', by have := HG.out; omega, by go_num, rfl, HG2.out, HB2.out, HGR2.out⟩
      · have hlz2 : (len2 : Int) ≤ (j : Int) := by omega
        obtain ⟨A', c', w2, hr, hg2, hb2, hgr2⟩ := gs_push HGS.out HBK.out HGR.out (by have := HK4.out; omega) (HF2.out j (by omega))
        have HR := Lib.hid hr
        have HG2 := Lib.hid hg2
        have HB2 := Lib.hid hb2
        have HGR2 := Lib.hid hgr2
        clear hr hg2 hb2 hgr2
        go_wp2_with (at_builtin; refine Lib.wpList_append_run _ rfl _ _ _ _ rfl _ _ rfl rfl _ _ HR.out ?_)
        go_roundg (gk - 1)
        case measure => have := HG.out; omega
        case rel => exact ⟨j + 1, A', c', by have := HG.out; omega, by go_num, rfl, HG2.out, HB2.out, HGR2.out⟩
    · obtain rfl : j = K := by have := HG.out; omega
      obtain ⟨b2, o2, rfl, hn2, _⟩ := Nm.of_gs HGS.out HK1.out
      have N2 := Lib.hid hn2
      have R2 := Lib.hid (R1.out.grow HGR.out)
      have G2 := Lib.hid (G1.out.trans HGR.out)
      have CT := Lib.hid (steps_good (c := c) N2.out.has HK1.out HK4.out HM.out fun q _ => ⟨(HFB.out q).1, by have := HFB.out q; omega⟩)
      clear hn2 HGS HBK HGR R1 G1
      go_wp2_with (go_at_call 13; (with_reducible refine CT.out.mono ?_); rintro e x3 ⟨b3, rfl, hr, _, hg⟩; have S3 := Lib.hid hr; have N3 := Lib.hid (N2.out.grow hg); have R3 := Lib.hid (R2.out.grow hg); have G3 := Lib.hid (G2.out.trans hg); clear hr hg)
      clear CT N2 R2 G2
      go_loopg [14, 15] j (fun gx s14 i wr => ∃ q : Nat, q + gx = j ∧ i = .int .i64 (q : Int) ∧ s14 = .int .i64 (tot (shr M j) q) ∧ Grow x3 wr)
      case atStart => exact ⟨0, by omega, rfl, rfl, Kept.refl _ _⟩
      case round =>
        obtain ⟨q, hg, rfl, rfl, hgr⟩ := hrel
        have HG2 := Lib.hid hg
        have HGR2 := Lib.hid hgr
        clear hg hgr
        have HTO : Hid (0 ≤ tot (shr M j) q ∧ tot (shr M j) q ≤ (q : Int) * 33) := by
          have key : ∀ p : Nat, 0 ≤ tot (shr M j) p ∧ tot (shr M j) p ≤ (p : Int) * 33 := fun p => by
            induction p with
            | zero => exact ⟨Int.le_refl _, Int.le_refl _⟩
            | succ p ih =>
              have h1 := shr_nonneg (m := M) (n := j) (j := p)
              have h2 := shr_le (n := j) (j := p) HM.out
              rw [tot_succ]; omega
          exact key q
        by_cases hq : q < j
        · have hqz : (q : Int) < (j : Int) := by omega
          have r0 := (R3.out.grow HGR2.out).cell hq
          have r00 := (R3.out.grow HGR2.out).cell (j := 0) HK1.out
          have r1 := (N3.out.grow HGR2.out).cell hq
          have r2 := (S3.out.grow HGR2.out).cell hq
          obtain ⟨t0, t1⟩ := HTO.out
          have HTS : Hid (tot (shr M j) (q + 1) = tot (shr M j) q + shr M j q) := rfl
          obtain ⟨n0, n1⟩ := shr_near (m := M) (n := j) (j := q)
          have h1 := shr_nonneg (m := M) (n := j) (j := q)
          have h2 := shr_le (n := j) (j := q) HM.out
          have h01 := shr_nonneg (m := M) (n := j) (j := 0)
          have h02 := shr_le (n := j) (j := 0) HM.out
          have hst : stp M j F q = shr M j q - F q := rfl
          obtain ⟨f1, f2⟩ := HFB.out q
          rw [hst] at r2
          clear hst
          generalize tot (shr M j) q = t at *
          generalize shr M j q = s at *
          generalize shr M j 0 = s0 at *
          generalize F q = f at *
          have hsum : f + (s - f) = s := by omega
          have d1 : decide (s < 0) = false := decide_eq_false (by omega)
          have d2 : decide (1 < s0 - s) = false := decide_eq_false (by omega)
          have d3 : decide (s0 < s) = false := decide_eq_false (by omega)
          have d4 : (s != s) = false := bne_self_eq_false s
          have q0 := up_cell (F := fun _ => False) (w := wr.drew) (p := ⟨b1, q, none⟩) r0 id
          have q00 := up_cell (F := fun _ => False) (w := wr.drew) (p := ⟨b1, 0, none⟩) r00 id
          have q1 := up_cell (F := fun _ => False) (w := wr.drew) (p := ⟨b2, o2 + q, none⟩) r1 id
          have q2 := up_cell (F := fun _ => False) (w := wr.drew) (p := ⟨b3, q, none⟩) r2 id
          go_upto_region 19 with (fail)
          refine wp_region_stages Grow (kept_refl _) (kept_trans _) [] [0, 1, 2, 3, 4, 5, 6, 7, 8, 9, 10, 11, 12, 13, 14, 15, 16, 17, 18, 19, 20, 21, 22, 23, 24, 25, 26, 27, 28, 29, 30, 31, 32, 33, 34, 35, 36, 37, 38, 39, 40, 41] (by kernel_rfl) (by kernel_rfl) ?_
          simp only [List.append, selSt, sel, List.map_cons, List.map_nil, List.getD_cons_succ, List.getD_cons_zero]
          refine st_nil fun K2 hK2 => ?_
          repeat (go_big_quiet_step (fail))
          refine wpQuiet_nil (hK2 _ ?_)
          clear hK2 K2 q0 q00 q1 q2
          go_wp2
          go_roundg (gk - 1)
          case measure => have := HG2.out; omega
          case rel => exact ⟨q + 1, by have := HG2.out; omega, by go_num, by rw [HTS.out], HGR2.out.drew⟩
        · obtain rfl : q = j := by have := HG2.out; omega
          have htt : tot (shr M q) q = (M : Int) := tot_shr HK1.out HK4.out
          rw [htt]
          have eM : ((M : Int) == (M : Int)) = true := beq_self_eq_true _
          go_wp2_with (go_at_call 7; (with_reducible refine (told_any _).mono ?_); rintro e x7 ⟨rfl, hge⟩; have G7 := Lib.hid ((G3.out.trans HGR2.out).trans hge); clear hge)
          go_ret
          exact ⟨rfl, Grow.below G7.out⟩

/-! ### THE ROW's STEP: WRITTEN OUT: LEAVE IT -/
set_option maxRecDepth 100000 in
theorem lifted (os : Os) (started : os.Started) (H : Type) (enc : TypeId × Value → H) :
    ReturnsInHanded {} Try.checked os 4 .any (Rows.sizeSharesSpec.pre6 enc Try.prog Try.f4 Rows.sizeSharesRow.domain false) (Rows.sizeSharesSpec.post enc Try.prog Try.f4 false true false false) := by
  refine returnsInHanded_of_change (C := Try.checked) own started (by kernel_rfl) Try.func4
    (ChangeSpec.witness6 (enc := enc) (C := Try.checked) false ⟨#[], #[.int .i64 0, .int .i64 0, .slice none 0 0], []⟩ 8 (by kernel_rfl) (by kernel_rfl) (by kernel_rfl) (by kernel_rfl)) ?_
  intro W base args ds gs before hval0 hW hcnd _
  have hval : ∀ (j : Nat) t v, Try.f4.params[j]? = some t → args[j]? = some v → Value.okWide Try.prog W .any base t v := hval0
  have hW' := hW
  obtain ⟨p, q, hA0, hV, rfl, hfz, hnd⟩ := hW
  have hA : DataW.TrodAll enc Try.prog W 0 (fun _ => true) true Try.f4.params.toList args.toList ds p := hA0
  rw [Try.params4] at hA hval
  obtain ⟨v0, vs0, d0, ds0, p0, q0, hargs, rfl, rfl, h0, r0⟩ := trodAll_cons hA
  obtain ⟨v1, vs1, d1, ds1, p1, q1, rfl, rfl, rfl, h1, r1⟩ := trodAll_cons r0
  obtain ⟨v2, vs2, d2, ds2, p2, q2, rfl, rfl, rfl, h2, r2⟩ := trodAll_cons r1
  obtain ⟨rfl, rfl, rfl⟩ := trodAll_nil r2
  obtain rfl : args = #[v0, v1, v2] := by cases args; simp_all
  obtain ⟨rfl, rfl⟩ := trodVars_none hV
  obtain ⟨a0, rfl, rfl, rfl, w0⟩ := open_int Try.underlying3 (hval 0 3 v0 rfl rfl) h0
  obtain ⟨a1, rfl, rfl, rfl, w1⟩ := open_int Try.underlying3 (hval 1 3 v1 rfl rfl) h1
  obtain ⟨a2, len2, cap2, rfl⟩ := okWide_slice Try.underlying22 (hval 2 22 v2 rfl rfl)
  have k2 := h2
  have lt2 : ∀ x ∈ p2, x.block < W.heap.size := by obtain ⟨m, hm⟩ := k2; exact DataW.trod_lt m _ _ _ hm
  obtain ⟨z2, w2⟩ : ∃ zs, IsRow .i64 W a2 len2 cap2 zs := by
    obtain ⟨fuel, hf⟩ := h2
    rcases open_ints Try.underlying22 Try.underlying3 (by kernel_rfl) hf with ⟨hcs, _⟩ | ⟨x, l, c, zs, hcs, _, hl, hm, hz, _, hcell, hwz⟩
    · simp [Value.cells] at hcs
      obtain ⟨rfl, rfl, rfl⟩ := hcs
      exact ⟨[], .inl ⟨rfl, rfl, rfl, rfl⟩⟩
    · simp [Value.cells] at hcs
      obtain ⟨rfl, rfl, rfl⟩ := hcs
      exact ⟨zs, .inr ⟨_, rfl, hl, hm, by simpa using hz, hcell, hwz⟩⟩
  clear hA0 hval0
  refine (walk a0 a1 a2 len2 cap2 z2 W w0 w1 w2).mono fun e W' ⟨he, bel⟩ => ?_
  subst he
  exact ⟨_, rfl, _, _, _, [], _, [], hW', trodAll_mk1 (shut_bool Try.underlying4 _), (trodAll_cons_mk (shut_int Try.underlying3 w0) (trodAll_cons_mk (shut_int Try.underlying3 w1) (trodAll_cons_mk (Below.trod laidOut (by kernel_rfl) (of_decide_eq_true (by kernel_rfl)) k2 bel lt2) trodAll_mk0))), rfl, bel.frame _, fun h => by cases h⟩

theorem over : Rows.sizeSharesRow.holds Try.pinned (OpenSpec.ofChange Rows.sizeSharesSpec) :=
  OpenClaim.holds_of_wide 4 Try.f4 rfl rfl rfl rfl rfl rfl rfl ⟨rfl, rfl, rfl, rfl, rfl⟩ rfl rfl rfl rfl rfl (by kernel_rfl) Try.func4 (by kernel_rfl)
    (of_decide_eq_true (by kernel_rfl)) (by unfold Func.isWrapper; first | (rw [if_pos (by decide +kernel)]; kernel_rfl) | (rw [if_neg (by decide +kernel)]; exact ⟨rfl, rfl⟩))
    (fun os started H enc _ => lifted os started H enc)

/-- ████ THE STATEMENT ████ -/
theorem proved : Rows.SizeSharesSaid := over
#print axioms proved
end Go.Proofs.Ytomnkdfolonicaa.sizeShares
