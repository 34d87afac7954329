/-
  The walk of lavabolaw21.TidyRounds.
-/
import Derived.Test.YtabmefffeafifaaTdLay
import Derived.Test.YtabmefffeafifaaTold21
import Derived.Deep.CutRange
import Derived.Deep.DeepCutAuto
import Derived.RegionTactic
import Derived.WalkKit
import Derived.ProofKit
import Derived.OpenShut
import Derived.Below
namespace Go.Proofs.Ytabmefffeafifaa.LwTidy
open Go.ChangeShapes Go.WideShapes Go.ChangeAt Go.RowKit
open Go.Proofs.Ytabmefffeafifaa.Mem Go.Proofs.Ytabmefffeafifaa.Blk Go.Proofs.Ytabmefffeafifaa.Cells Go.Proofs.Ytabmefffeafifaa.GsC Go.Proofs.Ytabmefffeafifaa.Orow Go.Proofs.Ytabmefffeafifaa.FrmC Go.Proofs.Ytabmefffeafifaa.TdM Go.Proofs.Ytabmefffeafifaa.TdC Go.Proofs.Ytabmefffeafifaa.TdL Go.Proofs.Ytabmefffeafifaa.Told21 Go.Proofs.Ytabmefffeafifaa.Stages
set_option maxHeartbeats 4000000 in
set_option maxRecDepth 100000 in
theorem walk (a0 : Int) (a1 : Int) (w : World) (w0 : (Lit.int .i64 a0).wf = true) (w1 : (Lit.int .i64 a1).wf = true) :
    Calls Try.prog 3 #[.int .i64 a0, .int .i64 a1] w fun e w' => e = .returned (.bool true) ∧ Below w.heap.size w w' := by
  have k0 := bounds_i64 w0
  have k1 := bounds_i64 w1
  obtain ⟨K, hK, hK4⟩ := tmod_nat a1 4 (by omega)
  simp only [Int.cast_ofNat_Int] at hK
  have hKz : (K : Int) < 4 := by omega
  have HK4 := Lib.hid hK4
  clear hK4
  go_enter Try.func3, Try.ntmps3
  go_wp2
  go_loopg [5, 6, 7] 12 (fun gx s5 s6 s7 wr => ∃ (j N : Nat) (g : Nat → Bool), j + gx = 12 ∧ s7 = .int .i64 (j : Int) ∧ s6 = .int .i64 (N : Int) ∧ N = cnt g j ∧ Fo wr (w.heap.size ≤ ·) s5 j (fr g) ∧ Grow w wr)
  case atStart => exact ⟨0, 0, fun _ => false, by omega, rfl, rfl, rfl, Fo.nil _ _ _, Kept.refl _ _⟩
  case round =>
    obtain ⟨j, N, g, hg, rfl, rfl, hN, hf, hgr⟩ := hrel
    have HG := Lib.hid hg
    have HN := Lib.hid hN
    have HGR := Lib.hid hgr
    have hNz : (N : Int) ≤ 12 := by have := cnt_le (g := g) (j := j); omega
    by_cases hj : j < 12
    · have hjz : (j : Int) < 12 := by omega
      have HP := Lib.hid (push_fr hf hgr (by omega))
      obtain ⟨A, c, rfl, -⟩ := Fo.fr hf
      have HJ := Lib.hid hj
      have HBT : Hid (∀ b, (bits BinOp.and IntKind.i64 (a0 / 2 ^ j) 1 == 1) = b → (b = true → bits BinOp.and IntKind.i64 (a0 / 2 ^ j) 1 = 1)) := fun b e h => by rw [h] at e; simpa using e
      clear hg hN hf hgr hj
      cases hb : (bits BinOp.and IntKind.i64 (a0 / 2 ^ j) 1 == 1) with
      | true =>
        have hbt := HBT.out _ hb rfl
        obtain ⟨p, cap, w2, hr, hf2, hp2, hg2⟩ := HP.out true
        have HR := Lib.hid hr
        have HF2 := Lib.hid hf2
        have HP2 := Lib.hid hp2
        have HG2 := Lib.hid hg2
        clear hr hf2 hp2 hg2 hb HP HBT
        go_wp2_with (at_builtin; refine Lib.wpList_append_run _ rfl _ _ _ _ rfl _ _ rfl rfl _ _ (HR.out _) ?_)
        go_roundg (gk - 1)
        case measure => have := HG.out; have := HJ.out; omega
        case rel => exact ⟨j + 1, N + 1, put g j true, by have := HG.out; have := HJ.out; omega, by go_num, by go_num, by rw [put_cnt, HN.out]; rfl, .inr ⟨p, cap, rfl, HF2.out, HP2.out⟩, HG2.out⟩
      | false =>
        obtain ⟨p, cap, w2, hr, hf2, hp2, hg2⟩ := HP.out false
        have HR := Lib.hid hr
        have HF2 := Lib.hid hf2
        have HP2 := Lib.hid hp2
        have HG2 := Lib.hid hg2
        clear hr hf2 hp2 hg2 HP HBT
        go_wp2_with (at_builtin; refine Lib.wpList_append_run _ rfl _ _ _ _ rfl _ _ rfl rfl _ _ (HR.out _) ?_)
        go_roundg (gk - 1)
        case measure => have := HG.out; have := HJ.out; omega
        case rel => exact ⟨j + 1, N, put g j false, by have := HG.out; have := HJ.out; omega, by go_num, rfl, by rw [put_cnt, HN.out]; rfl, .inr ⟨p, cap, rfl, HF2.out, HP2.out⟩, HG2.out⟩
    · obtain rfl : j = 12 := by omega
      obtain ⟨p, cap, rfl, hfw, hp⟩ := OS.form hf (by omega)
      have HF := Lib.hid hfw
      have HB := Lib.hid hp
      have HN12 : Hid (N ≤ 12) := by have := cnt_le (g := g) (j := 12); show N ≤ 12; omega
      clear hg hN hf hgr hj hfw hp
      go_wp2
      go_loopg [9, 11, 12] 13 (fun gx s9 s11 s12 wr => ∃ (t D a : Nat) (h : Nat → Bool), t + gx = 13 ∧ s12 = .int .i64 (t : Int) ∧ s11 = .int .i64 (D : Int) ∧ s9 = .int .i64 (a : Int) ∧ a ≤ 12 ∧ D + cnt h 12 = N ∧ t ≤ D ∧ Fw wr p cap 12 (fr h) ∧ Grow w wr)
      case atStart => exact ⟨0, 0, 0, g, by omega, rfl, rfl, rfl, by omega, by rw [HN.out]; omega, by omega, HF.out, HGR.out⟩
      case round =>
        obtain ⟨t, D, a, h, hg, rfl, rfl, rfl, ha, hD, htD, hf, hgr⟩ := hrel
        have HG2 := Lib.hid hg
        have HA := Lib.hid ha
        have HD := Lib.hid hD
        have HTD := Lib.hid htD
        have HF2 := Lib.hid hf
        have HGR2 := Lib.hid hgr
        have htz : (t : Int) < 13 := by have := HN12.out; omega
        have haz : (a : Int) ≤ 12 := by omega
        have hDz : (D : Int) ≤ 12 := by have := HN12.out; omega
        clear hg ha hD htD hf hgr
        by_cases hd : D < N
        · have hdz : (D : Int) < (N : Int) := by omega
          have CP := Lib.hid fun (c : Nat) => pick_any (c := c) (a := a) (k := 1 + K) (Fw.fr HF2.out) (by omega) (by have := HA.out; omega) (by have := HK4.out; omega)
          obtain ⟨hl1, hl2, hl3, hl4⟩ := picked (g := h) (n := 12) (a := a) (k := 1 + K) (by have := HD.out; omega) (by omega)
          generalize pick (fr h) 12 a (1 + K) 12 = l at CP hl1 hl2 hl3 hl4
          simp only [Int.natCast_add, Int.cast_ofNat_Int] at CP
          have HL1 := Lib.hid hl1
          have HL2 := Lib.hid hl2
          have HL3 := Lib.hid hl3
          have HL4 := Lib.hid hl4
          have h0z : (0 : Int) < (l.length : Int) := by omega
          have hlz : (l.length : Int) ≤ 12 := by omega
          have hl0 : ((l.length : Int) == 0) = false := beq_eq_false_iff_ne.2 (by omega)
          have HDN := Lib.hid hd
          clear hl1 hl2 hl3 hl4 hd
          obtain ⟨zg, rfl⟩ : ∃ z, gk = z + 1 := ⟨gk - 1, by have := HG2.out; omega⟩
          go_wp2_with (go_at_call 4; (with_reducible refine (CP.out _).mono ?_); rintro e w5 ⟨A, c, rfl, hgs, hg5, hb5⟩; have HGS := Lib.hid hgs; have HG5 := Lib.hid hg5; have HB5 := Lib.hid hb5; clear hgs hg5 hb5)
          go_loopg [9, 11, 14] l.length (fun gy s9 s11 s14 wx => ∃ (i b : Nat) (h' : Nat → Bool), i + gy = l.length ∧ s14 = .int .i64 (i : Int) ∧ s11 = .int .i64 ((D : Int) + (i : Int)) ∧ s9 = .int .i64 (b : Int) ∧ b ≤ 12 ∧ D + i + cnt h' 12 = N ∧ (∀ q, i ≤ q → q < l.length → h' (l.getD q 0) = true) ∧ Fw wx p cap 12 (fr h') ∧ Gs wx A l.length c (ints l) ∧ Grow w wx)
          case atStart => exact ⟨0, a, h, by omega, rfl, by simp, rfl, HA.out, HD.out, fun q _ hq => (HL1.out q hq).2, OR.grow HF2.out HG5.out, HGS.out, HGR2.out.trans HG5.out⟩
          case round =>
            obtain ⟨i, b, h', hg, rfl, rfl, rfl, hb, hD, hq, hf, hgs, hgr⟩ := hrel
            have HG3 := Lib.hid hg
            have HD3 := Lib.hid hD
            have HB3 := Lib.hid hb
            have hiz2 : (i : Int) ≤ (l.length : Int) := by omega
            by_cases hi : i < l.length
            · have hiz : (i : Int) < (l.length : Int) := by omega
              obtain ⟨b2, o2, rfl, _, hc⟩ := (hgs.sl (Nat.le_refl _)).at_ (by omega)
              have c0 := hc i hi
              have ex : (ints l).getD i 0 = ((l.getD i 0 : Nat) : Int) := by simp [ints, List.getD_eq_getElem?_getD, hi]
              rw [ex] at c0
              obtain ⟨hx12, _⟩ := HL1.out i hi
              have hne : Hid (∀ q, i + 1 ≤ q → q < l.length → l.getD q 0 ≠ l.getD i 0) := fun q h1 h2 => Ne.symm (HL2.out i q (by omega) h2)
              have hx := hq i (Nat.le_refl _) hi
              have HQ := Lib.hid hq
              have HI := Lib.hid hi
              generalize l.getD i 0 = x at *
              have hxz : (x : Int) < 12 := by omega
              have c1 : wr.cell? ⟨p, x * 5 + 4, none⟩ = some (.bool true) := by have := Fw.at_ hf (i := 4) hx12 rfl; rw [this]; show some (Value.bool (h' x)) = _; rw [hx]
              have c2 : wr.frozen? ⟨p, x * 5 + 4, none⟩ = false := OR.frozen hf _
              have HF3 : Hid (Fw (wr.setCell ⟨p, x * 5 + 4, none⟩ (.bool false)) p cap 12 (fr (off h' x))) := Fw.same (Fw.setDirty hf x false) (off_fr (n := 12))
              have HGS3 : Hid (Gs (wr.setCell ⟨p, x * 5 + 4, none⟩ (.bool false)) (some ⟨b2, o2, none⟩) l.length c (ints l)) := hgs.kept (kept_set wr p _ _) fun k hk e => by
                have h1 := HB5.out k hk
                have h2 := OR.lt HF2.out
                omega
              have hbp : b2 ≠ p := fun e => by
                have h0 := hgs.le
                have h1 := HB5.out b2 (blk_some.2 ⟨by omega, rfl⟩)
                have h2 := OR.lt HF2.out
                omega
              have c3 : (wr.setCell ⟨p, x * 5 + 4, none⟩ (.bool false)).cell? ⟨b2, o2 + i, none⟩ = some (.int .i64 (x : Int)) := (kept_set wr p _ _).cellN c0 hbp
              have HGR3 : Hid (Grow w (wr.setCell ⟨p, x * 5 + 4, none⟩ (.bool false))) := hgr.setCell (fun e => by have := HB.out; dsimp only at e; omega) _
              have HC3 := Lib.hid (cnt_off (g := h') (q := x) (j := 12) hx hx12)
              have HX12 := Lib.hid hx12
              clear hg hb hD hq hf hgs hgr hc ex hx hi hx12 hbp
              go_wp2
              go_roundg (gk - 1)
              case measure => have := HG3.out; have := HI.out; omega
              case rel => exact ⟨i + 1, x + 1, off h' x, by have := HG3.out; have := HI.out; omega, by go_num, by go_num, by go_num, by have := HX12.out; omega, by have := HD3.out; have := HC3.out; omega, (fun q h1 h2 => by rw [off_other (hne.out q h1 h2)]; exact HQ.out q (by omega) h2), HF3.out, HGS3.out, HGR3.out⟩
            · obtain rfl : i = l.length := by omega
              have HF3 := Lib.hid hf
              have HGR3 := Lib.hid hgr
              clear hg hb hD hq hf hgs hgr hi
              go_wp2
              go_roundg zg
              case measure => omega
              case rel => exact ⟨t + 1, D + l.length, b, h', by have := HG2.out; omega, by go_num, by go_num, rfl, HB3.out, HD3.out, by have := HTD.out; have := HL3.out; omega, HF3.out, HGR3.out⟩
        · obtain rfl : D = N := by have := HD.out; omega
          obtain ⟨m1, m2⟩ := clean_all (g := h) (n := 12) (a := 0) (k := 12) (by have := HD.out; omega)
          have CP := Lib.hid fun (wx : World) (hg : Grow wr wx) (c : Nat) => pick_any (c := c) (a := 0) (k := 12) (Fr.grow (Fw.fr HF2.out) hg) (by omega) (by omega) (by omega)
          have CD := Lib.hid fun (wx : World) (hg : Grow wr wx) (c : Nat) => due_any (c := c) (Fr.grow (Fw.fr HF2.out) hg) (by omega)
          rw [m1] at CP
          rw [m2] at CD
          simp only [Int.cast_ofNat_Int] at CP
          clear m1 m2 hd
          go_wp2_with (first
            | (go_at_call 5; (with_reducible refine (told_any _).mono ?_); rintro e w5 ⟨rfl, hge⟩; have G5 := Lib.hid hge; clear hge)
            | (go_at_call 4; (with_reducible refine (CP.out _ G5.out _).mono ?_); rintro e w6 ⟨A, c, rfl, -, hge, -⟩; have G6 := Lib.hid (G5.out.trans hge); clear hge)
            | (go_at_call 6; (with_reducible refine (CD.out _ G6.out _).mono ?_); rintro e w7 ⟨rfl, hge⟩; have G7 := Lib.hid (HGR2.out.trans (G6.out.trans hge)); clear hge))
          go_ret
          exact ⟨rfl, Grow.below G7.out⟩
end Go.Proofs.Ytabmefffeafifaa.LwTidy
