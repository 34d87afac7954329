/-
  For every input the call of lavabolaw18.SizeEnds returns true and leaves its arguments as they were; no condition.
-/
import Derived.Test.YtomnkdfolonicaaSzLay
import Derived.Test.YtomnkdfolonicaaRows
import Derived.WalkKit
import Derived.ProofKit
import Derived.OpenShut
import Derived.ShutString
import Derived.ChangeOld
import Derived.Below
namespace Go.Proofs.Ytomnkdfolonicaa.sizeEnds
open Go.ChangeShapes Go.WideShapes Go.ChangeAt Go.RowKit
open Go.ChangeMaps (open_string shut_string)
open Go.Proofs.Ytomnkdfolonicaa.Mem Go.Proofs.Ytomnkdfolonicaa.Blk Go.Proofs.Ytomnkdfolonicaa.Cells Go.Proofs.Ytomnkdfolonicaa.GsC Go.Proofs.Ytomnkdfolonicaa.SzM Go.Proofs.Ytomnkdfolonicaa.SzC Go.Proofs.Ytomnkdfolonicaa.SzN Go.Proofs.Ytomnkdfolonicaa.SzR Go.Proofs.Ytomnkdfolonicaa.SzL Go.Proofs.Ytomnkdfolonicaa.Told18 Go.Proofs.Ytomnkdfolonicaa.Stages
set_option linter.unusedVariables false

theorem own : ownKnob Try.prog.godebug = none := by kernel_rfl
theorem laidOut : laidOutB Try.prog = true := by kernel_rfl

/-- WHAT THE WALK IS TOLD OF A SLICE OF INTEGERS THAT CAME IN: it is nil; or it leads to a row of 'cap' cells, the numbers 'zs' (the first 'len' are its elements, the rest its spare room), each fitting its kind. -/
def IsRow (k : IntKind) (w : World) (a : Option Addr) (len cap : Nat) (zs : List Int) : Prop :=
  (a = none ∧ len = 0 ∧ cap = 0 ∧ zs = []) ∨
  ∃ x, a = some x ∧ len ≤ cap ∧ cap ≤ maxLen ∧ zs.length = cap ∧ (∀ i, i < zs.length → w.cell? (x.add i) = some (.int k (zs.getD i 0))) ∧ ∀ n ∈ zs, (Lit.int k n).wf = true

/-- Another number at place q. -/
def put (H : Nat → Int) (q : Nat) (d : Int) (j : Nat) : Int := if j = q then H j + d else H j
theorem put_same (H : Nat → Int) (q : Nat) (d : Int) : put H q d q = H q + d := if_pos rfl
theorem put_other {H : Nat → Int} {q j : Nat} {d : Int} (h : j ≠ q) : put H q d j = H j := if_neg h
theorem put_tot (H : Nat → Int) {q n : Nat} (d : Int) (hq : q < n) : tot (put H q d) n = tot H n + d := by
  rw [tot_put (put_same H q d) (fun j => put_other) n, if_pos hq]
/-! ### STEP 1: THE WALK: the Go text returns true, AND WRITES NOTHING THAT WAS THERE: 'Below w.heap.size w w'' (Derived/Below.lean: '.refl', '.alloc', '.drew', '.setCell' at a new block, '.trans'). Open each 'IsRow' by 'rcases' AHEAD of 'go_enter'; part every test ahead of the walk. -/
set_option maxHeartbeats 4000000 in
set_option maxRecDepth 100000 in
theorem walk (a0 : Int) (a1 : Option Addr) (len1 cap1 : Nat) (z1 : List Int) (w : World) (w0 : (Lit.int .i64 a0).wf = true) (w1 : IsRow .i64 w a1 len1 cap1 z1) :
    Calls Try.prog 5 #[.int .i64 a0, .slice a1 len1 cap1] w fun e w' => e = .returned (.bool true) ∧ Below w.heap.size w w' := by
  obtain ⟨hs, hle, hcap, hwf⟩ := Sl.of_isRow w1
  unfold maxLen at hcap
  have k0 := bounds_i64 w0
  generalize z1.take len1 = zs at hs hwf
  have hlz : (len1 : Int) ≤ 9223372036854775807 := by omega
  by_cases h1 : 1 ≤ len1
  · have h1z : (1 : Int) ≤ (len1 : Int) := by omega
    have HIN : Hid (Has w a1 len1 (fun j => zs.getD j 0)) := fun hn => by
      obtain ⟨b, o, rfl, _, hc⟩ := hs.at_ hn
      exact ⟨b, o, rfl, hc⟩
    obtain ⟨M, hM, hM33⟩ := tmod_nat a0 33 (by omega)
    simp only [Int.cast_ofNat_Int] at hM
    have HM := Lib.hid (show M ≤ 32 by omega)
    have hMz : (M : Int) ≤ 32 := by omega
    obtain ⟨F, hF⟩ : ∃ F : Nat → Int, F = fun j => (IntKind.u64.wrap (zs.getD j 0)).tmod 13 := ⟨_, rfl⟩
    have HF1 : Hid (∀ j, ∃ Y : Nat, F j = (Y : Int) ∧ (IntKind.u64.wrap (zs.getD j 0)).tmod 13 = (Y : Int) ∧ Y ≤ 12) := fun j => by
      obtain ⟨Y, h1, h2⟩ := tmod_nat (zs.getD j 0) 13 (by omega)
      simp only [Int.cast_ofNat_Int] at h1
      exact ⟨Y, by rw [hF]; exact h1, h1, by omega⟩
    have HTF : Hid (∀ j : Nat, 0 ≤ tot F j ∧ tot F j ≤ (j : Int) * 12) := fun j => by
      induction j with
      | zero => exact ⟨Int.le_refl _, Int.le_refl _⟩
      | succ j ih =>
        obtain ⟨Y, h1, _, h2⟩ := HF1.out j
        rw [tot_succ]; omega
    clear hM33 hF hs hwf w0 w1
    go_enter Try.func5, Try.ntmps5
    go_wp2
    have HL1 := Lib.hid h1
    clear h1
    go_loopg [6, 7, 8] 4 (fun gx s6 s7 i wr => ∃ (j : Nat) (A : Option Addr) (c : Nat), j + gx = 4 ∧ j ≤ len1 ∧ i = .int .i64 (j : Int) ∧ s7 = .int .i64 (tot F j) ∧ s6 = .slice A j c ∧ Gs wr A j c (row F j) ∧ (∀ k, blk A c k → w.heap.size ≤ k) ∧ Grow w wr)
    case atStart => exact ⟨0, none, 0, by omega, Nat.zero_le _, rfl, rfl, rfl, Gs.nil _ _, fun k h => absurd h blk_zero, Kept.refl _ _⟩
    case round =>
      obtain ⟨j, A, c, hg, hjl, rfl, rfl, rfl, hgs, hbk, hgr⟩ := hrel
      have HG := Lib.hid (And.intro hg hjl)
      have HGS := Lib.hid hgs
      have HBK := Lib.hid hbk
      have HGR := Lib.hid hgr
      clear hg hjl hgs hbk hgr
      by_cases hj : j < len1 ∧ j < 4
      · have hjz : (j : Int) < (len1 : Int) := by omega
        have hj4 : (j : Int) < 4 := by omega
        obtain ⟨b, o, rfl, hc⟩ := HIN.out.grow HGR.out (by omega)
        have r0 : wr.cell? ⟨b, o + j, none⟩ = some (.int .i64 (zs.getD j 0)) := hc j hj.1
        obtain ⟨Y, hY, ht, hY32⟩ := HF1.out j
        have hYz : (Y : Int) ≤ 12 := by omega
        obtain ⟨A', c', w2, hr, hg2, hb2, hgr2⟩ := gs_push HGS.out HBK.out HGR.out (by omega) hY
        obtain ⟨b2, o2, rfl, hn2, _⟩ := Nm.of_gs hg2 (by omega)
        have r1 : w2.cell? ⟨b2, o2 + j, none⟩ = some (.int .i64 (Y : Int)) := by rw [← hY]; exact hn2.cell (Nat.lt_succ_self j)
        have HTS : Hid (tot F (j + 1) = tot F j + (Y : Int)) := by rw [← hY]; rfl
        obtain ⟨t0, t1⟩ := HTF.out j
        have HR := Lib.hid hr
        have HG2 := Lib.hid hg2
        have HB2 := Lib.hid hb2
        have HGR2 := Lib.hid hgr2
        have HJ := Lib.hid hj
        clear hr hg2 hb2 hgr2 hc hY hY32 hn2 hj
        generalize zs.getD j 0 = z at *
        generalize tot F j = t at *
        go_wp2_with (at_builtin; refine Lib.wpList_append_run _ rfl _ _ _ _ rfl _ _ rfl rfl _ _ HR.out ?_)
        go_roundg (gk - 1)
        case measure => have := HG.out; have := HJ.out; omega
        case rel => exact ⟨j + 1, _, c', by have := HG.out; have := HJ.out; omega, by have := HJ.out; omega, by go_num, by rw [HTS.out], rfl, HG2.out, HB2.out, HGR2.out⟩
      · have HJ1 : Hid (1 ≤ j) := by have := HL1.out; have := HG.out; show 1 ≤ j; omega
        have HJ4 : Hid (j ≤ 4) := by have := HG.out; show j ≤ 4; omega
        have hj4z : (j : Int) ≤ 4 := by have := HJ4.out; omega
        obtain ⟨b2, o2, rfl, hn2, hb2⟩ := Nm.of_gs HGS.out HJ1.out
        have N2 := Lib.hid hn2
        have HB2 := Lib.hid (HBK.out b2 hb2)
        have HPB : Hid (∀ q, q < j → 0 ≤ F q ∧ F q ≤ 33) := fun q _ => by obtain ⟨Y, h1, _, h2⟩ := HF1.out q; omega
        have HTB := Lib.hid (HTF.out j)
        clear hn2 hb2 HGS HBK HF1 HTF hM
        rcases (by omega : (len1 ≤ j) ∨ (j < len1 ∧ 4 ≤ j)) with e | ⟨e, e4⟩
        case' inl =>
          have ez : (len1 : Int) ≤ (j : Int) := by omega
        case' inr =>
          have ez : (j : Int) < (len1 : Int) := by omega
          have e4z : (4 : Int) ≤ (j : Int) := by omega
        all_goals
          clear hj e
          go_wp2
          go_loopg [7, 9] 60 (fun gx s7 s9 wx => ∃ (t : Nat) (P : Nat → Int), t + gx = 60 ∧ s9 = .int .i64 (t : Int) ∧ s7 = .int .i64 (tot P j) ∧ (∀ q, q < j → 0 ≤ P q ∧ P q ≤ 33) ∧ ((M : Int) - tot P j ≤ 48 - (t : Int) ∧ tot P j - (M : Int) ≤ 48 - (t : Int)) ∧ Nm wx b2 o2 j P ∧ Grow w wx)
          case atStart => exact ⟨0, F, by omega, rfl, rfl, HPB.out, by have h1 := HTB.out; omega, N2.out, HGR.out⟩
          case round =>
            obtain ⟨t, P, hg, rfl, rfl, hpb, hd, hn, hgr⟩ := hrel
            have HG2 := Lib.hid hg
            have HP := Lib.hid hpb
            have HD := Lib.hid hd
            have HN := Lib.hid hn
            have HR := Lib.hid hgr
            have htz : (t : Int) < 60 := by omega
            have hs1 : -100 ≤ tot P j := by omega
            have hs2 : tot P j ≤ 100 := by omega
            have CN := Lib.hid fun (c : Nat) => next_good (c := c) hn.has HJ1.out HJ4.out HM.out fun q hq => ⟨(hpb q hq).1, by have := hpb q hq; omega⟩
            clear hg hpb hd hn hgr
            by_cases h0 : (M : Int) - tot P j = 0
            · rw [h0, nx_zero.1, nx_zero.2] at CN
              have hsm : (tot P j == (M : Int)) = true := beq_iff_eq.2 (by omega)
              clear h0
              generalize tot P j = s at *
              go_wp2_with (first
                | (go_at_call 8; (with_reducible refine (CN.out _).mono ?_); rintro e x6 ⟨rfl, hg⟩; have G6 := Lib.hid (HR.out.trans hg); clear hg)
                | (go_at_call 7; (with_reducible refine (told_any _).mono ?_); rintro e x7 ⟨rfl, hge⟩; have G7 := Lib.hid (G6.out.trans hge); clear hge))
              go_ret
              exact ⟨rfl, Grow.below G7.out⟩
            · have htot : tot (stp M j P) j = (M : Int) - tot P j := tot_stp HJ1.out HJ4.out
              obtain ⟨q, hq, e1, e2, e3⟩ := nx_spec (S := stp M j P) (n := j) (by rw [htot]; exact h0)
              rw [htot] at e1 e2 e3
              rw [e1, e2] at CN
              have hqz : (q : Int) < (j : Int) := by omega
              have hne : (tot P j == (M : Int)) = false := beq_eq_false_iff_ne.2 (by omega)
              have hst : stp M j P q = shr M j q - P q := rfl
              have hsh := shr_le (n := j) (j := q) HM.out
              have hsh0 := shr_nonneg (m := M) (n := j) (j := q)
              obtain ⟨y0, y1⟩ := HP.out q hq
              have HQ := Lib.hid hq
              rw [hst] at e3
              clear e1 e2 htot hst hq
              by_cases hp : 0 < (M : Int) - tot P j
              · rw [sgn_pos hp] at CN e3
                have hup : P q < 33 := by have := sgn_pos_iff.1 e3; omega
                have HPT : Hid (tot (put P q 1) j = tot P j + 1) := put_tot P 1 HQ.out
                have HPB2 : Hid (∀ k, k < j → 0 ≤ put P q 1 k ∧ put P q 1 k ≤ 33) := fun k hk => by
                  have h := HP.out k hk
                  by_cases e : k = q
                  · subst e; rw [put_same]; omega
                  · rw [put_other e]; exact h
                have HSET : Hid (∀ wx, Nm wx b2 o2 j P → Nm (wx.setCell ⟨b2, o2 + q, none⟩ (.int .i64 (P q + 1))) b2 o2 j (put P q 1)) := fun wx h => h.set q _ fun k _ => by
                  by_cases e : k = q
                  · subst e; rw [put_same, if_pos rfl]
                  · rw [put_other e, if_neg e]
                have hlt : tot P j < (M : Int) := by omega
                have hng : decide (P q + 1 < 0) = false := decide_eq_false (by omega)
                have HC : Hid (∀ wx, Grow wr wx → True) := fun _ _ => trivial
                clear hp h0 e3 hsh hsh0 HC
                have HNC : Hid (∀ wx, Nm wx b2 o2 j P → wx.cell? ⟨b2, o2 + q, none⟩ = some (.int .i64 (P q))) := fun wx h => h.cell HQ.out
                generalize P q = y at *
                generalize tot P j = s at *
                go_wp2_with (go_at_call 8; (with_reducible refine (CN.out _).mono ?_); rintro e x6 ⟨rfl, hg⟩; have G6 := Lib.hid (HR.out.trans hg); have N6 := Lib.hid (HN.out.grow hg); have r0 := HNC.out _ N6.out; have f0 := N6.out.frozen (o2 + q); clear hg)
                go_roundg (gk - 1)
                case measure => have := HG2.out; omega
                case rel => exact ⟨t + 1, put P q 1, by have := HG2.out; omega, by go_num, by rw [HPT.out], HPB2.out, by have h1 := HD.out; have h2 := HPT.out; omega, HSET.out _ N6.out, G6.out.setCell (fun h => by have h : b2 < w.heap.size := h; have := HB2.out; omega) _⟩
              · have hp' : (M : Int) - tot P j < 0 := by omega
                rw [sgn_neg hp'] at CN e3
                have hup : 0 < P q := by have := sgn_neg_iff.1 e3; omega
                have HPT : Hid (tot (put P q (-1)) j = tot P j + -1) := put_tot P (-1) HQ.out
                have HPB2 : Hid (∀ k, k < j → 0 ≤ put P q (-1) k ∧ put P q (-1) k ≤ 33) := fun k hk => by
                  have h := HP.out k hk
                  by_cases e : k = q
                  · subst e; rw [put_same]; omega
                  · rw [put_other e]; exact h
                have HSET : Hid (∀ wx, Nm wx b2 o2 j P → Nm (wx.setCell ⟨b2, o2 + q, none⟩ (.int .i64 (P q + -1))) b2 o2 j (put P q (-1))) := fun wx h => h.set q _ fun k _ => by
                  by_cases e : k = q
                  · subst e; rw [put_same, if_pos rfl]
                  · rw [put_other e, if_neg e]
                have hlt : (M : Int) < tot P j := by omega
                have hng : decide (P q + -1 < 0) = false := decide_eq_false (by omega)
                clear hp h0 e3 hsh hsh0
                have HNC : Hid (∀ wx, Nm wx b2 o2 j P → wx.cell? ⟨b2, o2 + q, none⟩ = some (.int .i64 (P q))) := fun wx h => h.cell HQ.out
                generalize P q = y at *
                generalize tot P j = s at *
                go_wp2_with (go_at_call 8; (with_reducible refine (CN.out _).mono ?_); rintro e x6 ⟨rfl, hg⟩; have G6 := Lib.hid (HR.out.trans hg); have N6 := Lib.hid (HN.out.grow hg); have r0 := HNC.out _ N6.out; have f0 := N6.out.frozen (o2 + q); clear hg)
                go_roundg (gk - 1)
                case measure => have := HG2.out; omega
                case rel => exact ⟨t + 1, put P q (-1), by have := HG2.out; omega, by go_num, by rw [HPT.out], HPB2.out, by have h1 := HD.out; have h2 := HPT.out; omega, HSET.out _ N6.out, G6.out.setCell (fun h => by have h : b2 < w.heap.size := h; have := HB2.out; omega) _⟩
  · obtain rfl : len1 = 0 := by omega
    clear h1
    go_enter Try.func5, Try.ntmps5
    go_wp2_with (go_at_call 7; (with_reducible refine (told_any _).mono ?_); rintro e w5 ⟨rfl, hge⟩; have HGE := Lib.hid hge; clear hge)
    go_ret
    exact ⟨rfl, Grow.below HGE.out⟩

/-! ### THE ROW's STEP: WRITTEN OUT: LEAVE IT -/
set_option maxRecDepth 100000 in
theorem lifted (os : Os) (started : os.Started) (H : Type) (enc : TypeId × Value → H) :
    ReturnsInHanded {} Try.checked os 5 .any (Rows.sizeEndsSpec.pre6 enc Try.prog Try.f5 Rows.sizeEndsRow.domain false) (Rows.sizeEndsSpec.post enc Try.prog Try.f5 false true false false) := by
  refine returnsInHanded_of_change (C := Try.checked) own started (by kernel_rfl) Try.func5
    (ChangeSpec.witness6 (enc := enc) (C := Try.checked) false ⟨#[], #[.int .i64 0, .slice none 0 0], []⟩ 8 (by kernel_rfl) (by kernel_rfl) (by kernel_rfl) (by kernel_rfl)) ?_
  intro W base args ds gs before hval0 hW hcnd _
  have hval : ∀ (j : Nat) t v, Try.f5.params[j]? = some t → args[j]? = some v → Value.okWide Try.prog W .any base t v := hval0
  have hW' := hW
  obtain ⟨p, q, hA0, hV, rfl, hfz, hnd⟩ := hW
  have hA : DataW.TrodAll enc Try.prog W 0 (fun _ => true) true Try.f5.params.toList args.toList ds p := hA0
  rw [Try.params5] at hA hval
  obtain ⟨v0, vs0, d0, ds0, p0, q0, hargs, rfl, rfl, h0, r0⟩ := trodAll_cons hA
  obtain ⟨v1, vs1, d1, ds1, p1, q1, rfl, rfl, rfl, h1, r1⟩ := trodAll_cons r0
  obtain ⟨rfl, rfl, rfl⟩ := trodAll_nil r1
  obtain rfl : args = #[v0, v1] := by cases args; simp_all
  obtain ⟨rfl, rfl⟩ := trodVars_none hV
  obtain ⟨a0, rfl, rfl, rfl, w0⟩ := open_int Try.underlying3 (hval 0 3 v0 rfl rfl) h0
  obtain ⟨a1, len1, cap1, rfl⟩ := okWide_slice Try.underlying22 (hval 1 22 v1 rfl rfl)
  have k1 := h1
  have lt1 : ∀ x ∈ p1, x.block < W.heap.size := by obtain ⟨m, hm⟩ := k1; exact DataW.trod_lt m _ _ _ hm
  obtain ⟨z1, w1⟩ : ∃ zs, IsRow .i64 W a1 len1 cap1 zs := by
    obtain ⟨fuel, hf⟩ := h1
    rcases open_ints Try.underlying22 Try.underlying3 (by kernel_rfl) hf with ⟨hcs, _⟩ | ⟨x, l, c, zs, hcs, _, hl, hm, hz, _, hcell, hwz⟩
    · simp [Value.cells] at hcs
      obtain ⟨rfl, rfl, rfl⟩ := hcs
      exact ⟨[], .inl ⟨rfl, rfl, rfl, rfl⟩⟩
    · simp [Value.cells] at hcs
      obtain ⟨rfl, rfl, rfl⟩ := hcs
      exact ⟨zs, .inr ⟨_, rfl, hl, hm, by simpa using hz, hcell, hwz⟩⟩
  clear hA0 hval0
  refine (walk a0 a1 len1 cap1 z1 W w0 w1).mono fun e W' ⟨he, bel⟩ => ?_
  subst he
  exact ⟨_, rfl, _, _, _, [], _, [], hW', trodAll_mk1 (shut_bool Try.underlying4 _), (trodAll_cons_mk (shut_int Try.underlying3 w0) (trodAll_cons_mk (Below.trod laidOut (by kernel_rfl) (of_decide_eq_true (by kernel_rfl)) k1 bel lt1) trodAll_mk0)), rfl, bel.frame _, fun h => by cases h⟩

theorem over : Rows.sizeEndsRow.holds Try.pinned (OpenSpec.ofChange Rows.sizeEndsSpec) :=
  OpenClaim.holds_of_wide 5 Try.f5 rfl rfl rfl rfl rfl rfl rfl ⟨rfl, rfl, rfl, rfl, rfl⟩ rfl rfl rfl rfl rfl (by kernel_rfl) Try.func5 (by kernel_rfl)
    (of_decide_eq_true (by kernel_rfl)) (by unfold Func.isWrapper; first | (rw [if_pos (by decide +kernel)]; kernel_rfl) | (rw [if_neg (by decide +kernel)]; exact ⟨rfl, rfl⟩))
    (fun os started H enc _ => lifted os started H enc)

/-- ████ THE STATEMENT ████ -/
theorem proved : Rows.SizeEndsSaid := over
#print axioms proved
end Go.Proofs.Ytomnkdfolonicaa.sizeEnds
