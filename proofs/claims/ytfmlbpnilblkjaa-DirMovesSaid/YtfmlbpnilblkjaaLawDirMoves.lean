/-
  For every input the call of lavabolaw19.DirMoves returns true and leaves its arguments as they were; no condition.
-/
import Derived.Test.YtfmlbpnilblkjaaTold19
import Derived.Test.YtfmlbpnilblkjaaRows
import Derived.WalkKit
import Derived.ProofKit
import Derived.OpenShut
import Derived.ShutString
import Derived.ChangeOld
import Derived.Below
namespace Go.Proofs.Ytfmlbpnilblkjaa.dirMoves
open Go.ChangeShapes Go.WideShapes Go.ChangeAt Go.RowKit
open Go.ChangeMaps (open_string shut_string)
open Go.Proofs.Ytfmlbpnilblkjaa.Mem Go.Proofs.Ytfmlbpnilblkjaa.Blk Go.Proofs.Ytfmlbpnilblkjaa.Cells Go.Proofs.Ytfmlbpnilblkjaa.GsC Go.Proofs.Ytfmlbpnilblkjaa.HasC Go.Proofs.Ytfmlbpnilblkjaa.DrC Go.Proofs.Ytfmlbpnilblkjaa.DrY Go.Proofs.Ytfmlbpnilblkjaa.DrD Go.Proofs.Ytfmlbpnilblkjaa.DrN Go.Proofs.Ytfmlbpnilblkjaa.Told19 Go.Proofs.Ytfmlbpnilblkjaa.Stages Go.Proofs.Ytfmlbpnilblkjaa.Trees
set_option linter.unusedVariables false

theorem own : ownKnob Try.prog.godebug = none := by kernel_rfl
theorem laidOut : laidOutB Try.prog = true := by kernel_rfl

/-- WHAT THE WALK IS TOLD OF A SLICE OF INTEGERS THAT CAME IN: it is nil; or it leads to a row of 'cap' cells, the numbers 'zs' (the first 'len' are its elements, the rest its spare room), each fitting its kind. -/
def IsRow (k : IntKind) (w : World) (a : Option Addr) (len cap : Nat) (zs : List Int) : Prop :=
  (a = none ∧ len = 0 ∧ cap = 0 ∧ zs = []) ∨
  ∃ x, a = some x ∧ len ≤ cap ∧ cap ≤ maxLen ∧ zs.length = cap ∧ (∀ i, i < zs.length → w.cell? (x.add i) = some (.int k (zs.getD i 0))) ∧ ∀ n ∈ zs, (Lit.int k n).wf = true

theorem went_own {N : Int} {O : Nat → Int} {B : Nat} {t : Int} (h : ∀ j, j < 16 → 0 ≤ O j ∧ O j < N) (h0 : 0 ≤ t) (h1 : t < N) : ∀ j, j < 16 → 0 ≤ went O B t j ∧ went O B t j < N := fun j hj => by
  unfold went
  by_cases e : j = B
  · rw [if_pos e]; exact ⟨h0, h1⟩
  · rw [if_neg e]; exact h j hj
/-! ### STEP 1: THE WALK: the Go text returns true, AND WRITES NOTHING THAT WAS THERE: 'Below w.heap.size w w'' (Derived/Below.lean: '.refl', '.alloc', '.drew', '.setCell' at a new block, '.trans'). Open each 'IsRow' by 'rcases' AHEAD of 'go_enter'; part every test ahead of the walk. -/
set_option maxHeartbeats 4000000 in
set_option maxRecDepth 100000 in
theorem walk (a0 : Int) (a1 : Option Addr) (len1 cap1 : Nat) (z1 : List Int) (a2 : Int) (w : World) (w0 : (Lit.int .i64 a0).wf = true) (w1 : IsRow .i64 w a1 len1 cap1 z1) (w2 : (Lit.int .i64 a2).wf = true) :
    Calls Try.prog 4 #[.int .i64 a0, .slice a1 len1 cap1, .int .i64 a2] w fun e w' => e = .returned (.bool true) ∧ Below w.heap.size w w' := by
  obtain ⟨hs, hle, hcap, hwf⟩ := Sl.of_isRow w1
  unfold maxLen at hcap
  have k0 := bounds_i64 w0
  have k2 := bounds_i64 w2
  generalize z1.take len1 = zs at hs hwf
  have hlz : (len1 : Int) ≤ 9223372036854775807 := by omega
  have HS := Lib.hid hs
  obtain ⟨N3, hN, hN3⟩ := tmod_nat a0 4 (by omega)
  obtain ⟨P, hP, hP48⟩ := tmod_nat a2 48 (by omega)
  simp only [Int.cast_ofNat_Int] at hN hP
  obtain ⟨N, hNe⟩ : ∃ N : Nat, N = 1 + N3 := ⟨_, rfl⟩
  have hNz : (1 : Int) + (N3 : Int) = (N : Int) := by omega
  have hN3z : (N3 : Int) < 4 := by omega
  have hPz : (P : Int) < 48 := by omega
  have hN1z : 1 ≤ (N : Int) := by omega
  have hN4z : (N : Int) ≤ 4 := by omega
  have HN1 := Lib.hid (show 1 ≤ N by omega)
  have HN4 := Lib.hid (show N ≤ 4 by omega)
  have HWF := Lib.hid hwf
  clear hs hcap hle hwf hN3 hNe hP48 w0 w1 w2
  go_enter Try.func4, Try.ntmps4
  have CN := Lib.hid fun (w : World) => new_good (w := w) (n := N) HN1.out HN4.out
  go_upto_region 3 with (go_at_call 7; (with_reducible refine (CN.out _).mono ?_); rintro e x1 ⟨q1, o1, c1, rfl, hn, hq, hg⟩; have N1 := Lib.hid hn; have Q1 := Lib.hid hq; have G1 := Lib.hid hg; clear hn hq hg)
  have D1 := Lib.hid (DB.new N1.out.has 1 c1 (-1) 0 0)
  have K1 := Lib.hid (G1.out.trans (grow_box x1 1 (some ⟨q1, o1, none⟩) c1 (-1) 0 0))
  have HG1 : Hid (w.heap.size ≤ x1.heap.size) := G1.out.size
  generalize x1.alloc (.cells #[.int .i64 1, .slice (some ⟨q1, o1, none⟩) 16 c1, .int .i64 (-1), .int .i64 0, .int .i64 0] 25) = y1 at *
  generalize x1.heap.size = g1 at *
  clear N1 Q1 G1 CN hNz hN hN3z
  go_wp2
  go_loopg [10, 11] 40 (fun gx v i wr => ∃ (j : Nat) (V : Int) (q o c : Nat) (O : Nat → Int), j + gx = 40 ∧ i = .int .i64 (j : Int) ∧ v = .int .i64 V ∧ 1 ≤ V ∧ V ≤ (j : Int) + 1 ∧ DB wr g1 V (some ⟨q, o, none⟩) c (-1) 0 0 O ∧ (∀ j, j < 16 → 0 ≤ O j ∧ O j < (N : Int)) ∧ Kept (fun k => k = g1) y1 wr)
  case atStart => exact ⟨0, 1, q1, o1, c1, turns N, by omega, rfl, rfl, by omega, by omega, D1.out, (turns_ok HN1.out).own, Kept.refl _ _⟩
  case round =>
    obtain ⟨j, V, q, o, c, O, hg, rfl, rfl, hV1, hV2, hd, hO, hk⟩ := hrel
    have HG := Lib.hid hg
    have HD := Lib.hid hd
    have HO := Lib.hid hO
    have HK := Lib.hid hk
    clear hg hd hO hk D1
    by_cases hj : j < len1 ∧ j < 40
    · obtain ⟨hj1, hj2⟩ := hj
      have hj1z : (j : Int) < (len1 : Int) := by omega
      have hj2z : (j : Int) < 40 := by omega
      have hVz : V ≤ 41 := by omega
      obtain ⟨bl, ol, rfl, hbl, hcl⟩ := HS.out.at_ (by omega)
      have hl := hcl j hj1
      have hy := bounds_i64 (HWF.out (zs.getD j 0) (by rw [List.getD_eq_getElem?_getD, List.getElem?_eq_getElem (by rw [HS.out.len]; exact hj1)]; exact List.getElem_mem _))
      have HBL : Hid (bl ≠ g1) := by have := HG1.out; show _ ≠ _; omega
      have r0 : wr.cell? ⟨bl, ol + j, none⟩ = some (.int .i64 (zs.getD j 0)) := HK.out.cellN ((K1.out).cellN hl id) HBL.out
      generalize zs.getD j 0 = z at *
      obtain ⟨B, hB, hB16⟩ := tmod_nat z 16 (by omega)
      simp only [Int.cast_ofNat_Int] at hB
      have hBz : (B : Int) < 16 := by omega
      obtain ⟨T, hT, hTN⟩ := tmod_nat ((IntKind.u64.wrap z).tdiv 16) N (by have := HN1.out; omega)
      have hTz : (T : Int) < (N : Int) := by omega
      have HTN := Lib.hid hTN
      have HB16 := Lib.hid hB16
      clear hB16 hl hcl hTN
      go_upto_region 8 with (fail)
      have q0 := up_cell (F := fun _ => False) (w := wr.drew) (show wr.drew.cell? ⟨bl, ol + j, none⟩ = some (.int .i64 z) from r0) id
      refine wp_region_stages Grow (kept_refl _) (kept_trans _) [] [0, 1, 2, 3, 4, 5, 6, 7, 8, 9, 10, 11, 12, 13, 14, 15, 16, 17, 18] (by kernel_rfl) (by kernel_rfl) ?_
      simp only [selSt, sel, List.map_cons, List.map_nil, List.getD_cons_succ, List.getD_cons_zero]
      refine st_nil fun K2 hK2 => ?_
      repeat (go_big_quiet_step (fail))
      refine wpQuiet_nil (hK2 _ ?_)
      clear hK2 K2 q0 hT hB
      have HKd : Hid (Kept (fun k => k = g1) y1 wr.drew) := HK.out.drew
      have HDd := Lib.hid (HD.out.grow (Kept.drew' wr))
      have r1 : wr.drew.cell? ⟨bl, ol + j, none⟩ = some (.int .i64 z) := r0
      generalize wr.drew = v0 at HKd HDd r1 ⊢
      clear r0 HD HK
      have HOR : Hid (Ok 4 ⟨V, O, -1, 0, 0⟩) := ⟨fun j hj => by have h1 := HO.out j hj; have h2 := HN4.out; show 0 ≤ O j ∧ O j < 4; omega, hV1, (by show V ≤ 1073741824; omega), .inl ⟨rfl, rfl, rfl⟩⟩
      obtain ⟨W, hW⟩ : ∃ W, O (bkt P) = W := ⟨_, rfl⟩
      have CSH : Hid (∀ w A c b t p, Has w A 16 O → Calls Try.prog 13 #[.agg #[.int .i64 V, .slice A 16 c, .int .i64 b, .int .i64 t, .int .i64 p], .int .i64 (P : Int)] w fun e w' => e = .returned (.int .i64 W) ∧ Grow w w') := fun w A c b t p h => by
        rw [← hW]; exact shard_good h P (by omega)
      have HW := Lib.hid hW
      clear hW
      obtain ⟨k0, k1, k2', k3, k4⟩ := cells5 HDd.out.b
      go_upto_region 10 with (go_at_call 13; (with_reducible refine (CSH.out _ _ _ _ _ _ HDd.out.h).mono ?_); rintro e v1 ⟨rfl, hg⟩; have L1 := Lib.hid hg; clear hg)
      clear k0 k1 k2' k3 k4
      have HD1 := Lib.hid (HDd.out.grow L1.out)
      have HK1 : Hid (Kept (fun k => k = g1) y1 v1) := HKd.out.then L1.out fun _ _ x => x.elim
      have r2 := L1.out.cellN r1 id
      clear r1 HDd HKd L1
      obtain ⟨k0, k1, k2', k3, k4⟩ := cells5 HD1.out.b
      by_cases hTO : (T : Int) = O B
      · have HTO := Lib.hid hTO
        clear hTO
        go_upto_region 11 with (go_at_call 9; (with_reducible refine (begin_same HD1.out.h HOR.out HB16.out HTO.out).mono ?_); rintro e x2 ⟨q2, o2, c2, rfl, hn, _, hg⟩; have G2 := Lib.hid hg; clear hn hg)
        clear k0 k1 k2' k3 k4
        have E2 := Lib.hid (G2.out.trans (grow_box x2 V (some ⟨q2, o2, none⟩) c2 (-1) 0 0))
        generalize x2.alloc (.cells #[.int .i64 V, .slice (some ⟨q2, o2, none⟩) 16 c2, .int .i64 (-1), .int .i64 0, .int .i64 0] 25) = y2 at *
        generalize x2.heap.size = g2 at *
        have HD2 := Lib.hid (HD1.out.grow E2.out)
        have HK2 : Hid (Kept (fun k => k = g1) y1 y2) := HK1.out.then E2.out fun _ _ x => x.elim
        obtain ⟨k0, k1, k2', k3, k4⟩ := cells5 HD2.out.b
        obtain ⟨bb, oo, he, hc⟩ := HD2.out.h (by omega)
        injection he with he
        injection he with he1 he2
        subst he1 he2
        have rb := hc B HB16.out
        rw [← HTO.out] at rb
        have eT : ((T : Int) != (T : Int)) = false := bne_self_eq_false _
        clear hc
        go_wp2
        go_roundg (gk - 1)
        case measure => have := HG.out; omega
        case rel => exact ⟨j + 1, V, q, o, c, O, by have := HG.out; omega, by go_num, rfl, hV1, by omega, HD2.out, HO.out, HK2.out⟩
      · have HOK : Hid (∀ p : Int, p = 1 ∨ p = 2 → Ok 4 ⟨V, O, (B : Int), (T : Int), p⟩) := fun p hp => ⟨HOR.out.own, HOR.out.v1, HOR.out.v2, .inr ⟨B, HB16.out, rfl, Int.natCast_nonneg _, (by show (T : Int) < 4; omega), hTO, hp⟩⟩
        have HNE := Lib.hid hTO
        clear hTO
        go_upto_region 11 with (go_at_call 9; (with_reducible refine (begin_good HD1.out.h HOR.out (HOK.out 1 (.inl rfl))).mono ?_); rintro e x2 ⟨q2, o2, c2, rfl, hn, _, hg⟩; have H2 := Lib.hid hn.has; have G2 := Lib.hid hg; clear hn hg)
        clear k0 k1 k2' k3 k4
        have D2 := Lib.hid (DB.new H2.out V c2 (B : Int) (T : Int) 1)
        have E2 := Lib.hid (G2.out.trans (grow_box x2 V (some ⟨q2, o2, none⟩) c2 (B : Int) (T : Int) 1))
        generalize x2.alloc (.cells #[.int .i64 V, .slice (some ⟨q2, o2, none⟩) 16 c2, .int .i64 (B : Int), .int .i64 (T : Int), .int .i64 1] 25) = y2 at *
        generalize x2.heap.size = g2 at *
        have HD2 := Lib.hid (HD1.out.grow E2.out)
        have HK2 : Hid (Kept (fun k => k = g1) y1 y2) := HK1.out.then E2.out fun _ _ x => x.elim
        have r3 := E2.out.cellN r2 id
        clear r2 HD1 HK1 H2 G2 E2
        obtain ⟨k0, k1, k2', k3, k4⟩ := cells5 HD2.out.b
        obtain ⟨bb, oo, he, hc⟩ := HD2.out.h (by omega)
        injection he with he
        injection he with he1 he2
        subst he1 he2
        have rb := hc B HB16.out
        clear hc
        have eY : (O B != (T : Int)) = true := bne_iff_ne.2 fun e => HNE.out e.symm
        obtain ⟨Y, hY⟩ : ∃ Y, O B = Y := ⟨_, rfl⟩
        rw [hY] at rb eY
        clear hY
        go_upto_if 96 with (fail)
        generalize hbt : (bits BinOp.and IntKind.i64 (z / 1024) 1 == 1) = bt
        clear hbt
        cases bt with
        | true =>
          obtain ⟨m0, m1, m2, m3, m4⟩ := cells5 D2.out.b
          go_upto_region 16 with (go_at_call 14; (with_reducible refine (stop_way D2.out.h (HOK.out 1 (.inl rfl)) (by decide)).mono ?_); rintro e x3 ⟨q3, o3, c3, rfl, hn, _, hg⟩; have H3 := Lib.hid hn.has; have G3 := Lib.hid hg; clear hn hg)
          clear m0 m1 m2 m3 m4 k0 k1 k2' k3 k4 rb r3
          have D3 := Lib.hid (DB.new H3.out V c3 (-1) 0 0)
          have E3 := Lib.hid (G3.out.trans (grow_box x3 V (some ⟨q3, o3, none⟩) c3 (-1) 0 0))
          generalize x3.alloc (.cells #[.int .i64 V, .slice (some ⟨q3, o3, none⟩) 16 c3, .int .i64 (-1), .int .i64 0, .int .i64 0] 25) = y3 at *
          generalize x3.heap.size = g3 at *
          have HD3 := Lib.hid (HD2.out.grow E3.out)
          have HK3 : Hid (Kept (fun k => k = g1) y1 y3) := HK2.out.then E3.out fun _ _ x => x.elim
          obtain ⟨k0, k1, k2', k3, k4⟩ := cells5 D3.out.b
          obtain ⟨m0, m1, m2, m3, m4⟩ := cells5 HD3.out.b
          go_wp2_with (go_at_call 12; (with_reducible refine (same_any D3.out.h HD3.out.h).mono ?_); rintro e z2 ⟨rfl, hg⟩; have F2 := Lib.hid hg; clear hg)
          go_roundg (gk - 1)
          case measure => have := HG.out; omega
          case rel => exact ⟨j + 1, V, q, o, c, O, by have := HG.out; omega, by go_num, rfl, hV1, by omega, HD3.out.grow F2.out, HO.out, HK3.out.then F2.out fun _ _ x => x.elim⟩
        | false =>
          have CC : Hid (∀ w A c, Has w A 16 O → Calls Try.prog 10 #[.agg #[.int .i64 V, .slice A 16 c, .int .i64 (B : Int), .int .i64 (T : Int), .int .i64 1]] w (DrP V O (B : Int) (T : Int) 2 0 w)) := fun w A c h => carry_good h (HOK.out 1 (.inl rfl))
          have CW : Hid (∀ w A c, Has w A 16 O → Calls Try.prog 11 #[.agg #[.int .i64 V, .slice A 16 c, .int .i64 (B : Int), .int .i64 (T : Int), .int .i64 2]] w (DrP (V + 1) (went O B (T : Int)) (-1) 0 0 0 w)) := fun w A c h => switch_good (B := B) h (HOK.out 2 (.inr rfl)) HB16.out (by omega)
          have CMY : Hid (∀ w A c, Has w A 16 (went O B (T : Int)) → Calls Try.prog 16 #[.agg #[.int .i64 (V + 1), .slice A 16 c, .int .i64 (-1), .int .i64 0, .int .i64 0], .int .i64 (N : Int)] w fun e w' => e = .returned (.bool true) ∧ Grow w w') := fun w A c h => may_rest h (went_own HO.out (Int.natCast_nonneg _) hTz) (by omega) (by omega)
          obtain ⟨m0, m1, m2, m3, m4⟩ := cells5 D2.out.b
          go_upto_region 19 with (go_at_call 10; (with_reducible refine (CC.out _ _ _ D2.out.h).mono ?_); rintro e x3 ⟨q3, o3, c3, rfl, hn, _, hg⟩; have H3 := Lib.hid hn.has; have G3 := Lib.hid hg; clear hn hg)
          clear m0 m1 m2 m3 m4 k0 k1 k2' k3 k4 rb r3
          have D3 := Lib.hid (DB.new H3.out V c3 (B : Int) (T : Int) 2)
          have E3 := Lib.hid (G3.out.trans (grow_box x3 V (some ⟨q3, o3, none⟩) c3 (B : Int) (T : Int) 2))
          generalize x3.alloc (.cells #[.int .i64 V, .slice (some ⟨q3, o3, none⟩) 16 c3, .int .i64 (B : Int), .int .i64 (T : Int), .int .i64 2] 25) = y3 at *
          generalize x3.heap.size = g3 at *
          obtain ⟨m0, m1, m2, m3, m4⟩ := cells5 D3.out.b
          go_upto_region 20 with (go_at_call 11; (with_reducible refine (CW.out _ _ _ D3.out.h).mono ?_); rintro e x4 ⟨q4, o4, c4, rfl, hn, hq, hg⟩; have N4 := Lib.hid hn; have Q4 := Lib.hid hq; have G4 := Lib.hid hg; clear hn hq hg)
          clear m0 m1 m2 m3 m4
          have D5 := Lib.hid (DB.new N4.out.has (V + 1) c4 (-1) 0 0)
          have N5 := Lib.hid (N4.out.grow (grow_box x4 (V + 1) (some ⟨q4, o4, none⟩) c4 (-1) 0 0))
          have E4 := Lib.hid (G4.out.trans (grow_box x4 (V + 1) (some ⟨q4, o4, none⟩) c4 (-1) 0 0))
          have HQN : Hid (q4 ≠ g1) := by
            have h1 := Q4.out
            have h2 := (HD2.out.grow E3.out).b.lt
            show _ ≠ _
            omega
          generalize x4.alloc (.cells #[.int .i64 (V + 1), .slice (some ⟨q4, o4, none⟩) 16 c4, .int .i64 (-1), .int .i64 0, .int .i64 0] 25) = y4 at *
          generalize x4.heap.size = g4 at *
          have D2e := Lib.hid (D2.out.grow (E3.out.trans E4.out))
          have D3e := Lib.hid (D3.out.grow E4.out)
          have HD5 := Lib.hid (HD2.out.grow (E3.out.trans E4.out))
          have HK5 : Hid (Kept (fun k => k = g1) y1 y4) := HK2.out.then (E3.out.trans E4.out) fun _ _ x => x.elim
          clear D2 D3 HD2 HK2 E3 E4 G3 G4 H3 N4 Q4 CC CW HOK
          by_cases hKB : bkt P = B
          · skip
            have HWE := Lib.hid (show (T : Int) ≠ W from fun e => HNE.out (by rw [e, ← HW.out, hKB]))
            have e1 : ((T : Int) != W) = true := bne_iff_ne.2 HWE.out
            have e2 : ((B : Int) != (B : Int)) = false := bne_self_eq_false _
            have e3 : ((T : Int) != (T : Int)) = false := bne_self_eq_false _
            have e4 : ((B : Int) == (B : Int)) = true := beq_self_eq_true _
            have CB : Hid (∀ w, Calls Try.prog 15 #[.int .i64 (P : Int)] w fun e w' => e = .returned (.int .i64 (B : Int)) ∧ w = w') := fun w => by
              have := bucket_good (w := w) P (by omega)
              rwa [hKB] at this
            have CSS : Hid (∀ w A c, Has w A 16 (went O B (T : Int)) → Calls Try.prog 13 #[.agg #[.int .i64 (V + 1), .slice A 16 c, .int .i64 (-1), .int .i64 0, .int .i64 0], .int .i64 (P : Int)] w fun e w' => e = .returned (.int .i64 (T : Int)) ∧ Grow w w') := fun w A c h => by
              have := shard_good (v := V + 1) (c := c) (b := -1) (t := 0) (p := 0) h P (by omega)
              rwa [show went O B (T : Int) (bkt P) = (T : Int) from if_pos hKB] at this
            clear hKB
            obtain ⟨k0, k1, k2', k3, k4⟩ := cells5 D5.out.b
            have eV : ((V + 1) != (V + 1)) = false := bne_self_eq_false _
            go_upto_region 22 with (go_at_call 13; (with_reducible refine (CSS.out _ _ _ D5.out.h).mono ?_); rintro e v2 ⟨rfl, hg⟩; have L2 := Lib.hid hg; clear hg k0 k1 k2' k3 k4)
            obtain ⟨k0, k1, k2', k3, k4⟩ := cells5 (D5.out.grow L2.out).b
            obtain ⟨m0, m1, m2, m3, m4⟩ := cells5 (D2e.out.grow L2.out).b
            obtain ⟨n0, n1, n2, n3, n4⟩ := cells5 (D3e.out.grow L2.out).b
            go_upto_region 24 with (first
              | (go_at_call 15; (with_reducible refine (CB.out _).mono ?_); rintro e w' ⟨rfl, rfl⟩)
              | (go_at_call 13; (with_reducible refine (CSH.out _ _ _ _ _ _ (D2e.out.grow L2.out).h).mono ?_); rintro e v3 ⟨rfl, hg⟩; have L3 := Lib.hid (L2.out.trans hg); clear hg k0 k1 k2' k3 k4 m0 m1 m2 m3 m4 n0 n1 n2 n3 n4; obtain ⟨k0, k1, k2', k3, k4⟩ := cells5 (D5.out.grow L3.out).b; obtain ⟨n0, n1, n2, n3, n4⟩ := cells5 (D3e.out.grow L3.out).b)
              | (go_at_call 13; (with_reducible refine (CSH.out _ _ _ _ _ _ (D3e.out.grow L3.out).h).mono ?_); rintro e v4 ⟨rfl, hg⟩; have L4 := Lib.hid (L3.out.trans hg); clear hg k0 k1 k2' k3 k4 n0 n1 n2 n3 n4; obtain ⟨k0, k1, k2', k3, k4⟩ := cells5 (D5.out.grow L4.out).b)
              | (go_at_call 16; (with_reducible refine (CMY.out _ _ _ (D5.out.grow L4.out).h).mono ?_); rintro e v5 ⟨rfl, hg⟩; have L5 := Lib.hid (L4.out.trans hg); clear hg k0 k1 k2' k3 k4))
            have D6 := Lib.hid (D5.out.grow L5.out)
            have N6 := Lib.hid (N5.out.grow L5.out)
            have HD6 := Lib.hid (HD5.out.grow L5.out)
            have HK6 : Hid (Kept (fun k => k = g1) y1 v5) := HK5.out.then L5.out fun _ _ x => x.elim
            clear D5 N5 HD5 HK5 D2e D3e L2 L3 L4 L5
            obtain ⟨k0, k1, k2', k3, k4⟩ := cells5 D6.out.b
            obtain ⟨m0, m1, m2, m3, m4⟩ := cells5 HD6.out.b
            have fz := HD6.out.b.frozenAll
            go_wp2
            go_roundg (gk - 1)
            case measure => have := HG.out; omega
            case rel => exact ⟨j + 1, V + 1, q4, o4, c4, went O B (T : Int), by have := HG.out; omega, by go_num, rfl, by omega, by omega, ⟨blk_set5 HD6.out.b, (N6.out.kept (kept_set5 _ _ _ _ _ _ _) HQN.out).has⟩, went_own HO.out (Int.natCast_nonneg _) hTz, HK6.out.trans (kept_set5 _ _ _ _ _ _ _)⟩
          · skip
            obtain ⟨KP, hKP⟩ : ∃ KP, bkt P = KP := ⟨_, rfl⟩
            have e1 : (W != W) = false := bne_self_eq_false _
            have e2 : ((KP : Int) == (B : Int)) = false := beq_eq_false_iff_ne.2 (by omega)
            have CB : Hid (∀ w, Calls Try.prog 15 #[.int .i64 (P : Int)] w fun e w' => e = .returned (.int .i64 (KP : Int)) ∧ w = w') := fun w => by
              have := bucket_good (w := w) P (by omega)
              rwa [hKP] at this
            have CSS : Hid (∀ w A c, Has w A 16 (went O B (T : Int)) → Calls Try.prog 13 #[.agg #[.int .i64 (V + 1), .slice A 16 c, .int .i64 (-1), .int .i64 0, .int .i64 0], .int .i64 (P : Int)] w fun e w' => e = .returned (.int .i64 W) ∧ Grow w w') := fun w A c h => by
              have := shard_good (v := V + 1) (c := c) (b := -1) (t := 0) (p := 0) h P (by omega)
              rwa [show went O B (T : Int) (bkt P) = W from (if_neg hKB).trans HW.out] at this
            clear hKB hKP
            obtain ⟨k0, k1, k2', k3, k4⟩ := cells5 D5.out.b
            have eV : ((V + 1) != (V + 1)) = false := bne_self_eq_false _
            go_upto_region 22 with (go_at_call 13; (with_reducible refine (CSS.out _ _ _ D5.out.h).mono ?_); rintro e v2 ⟨rfl, hg⟩; have L2 := Lib.hid hg; clear hg k0 k1 k2' k3 k4)
            obtain ⟨k0, k1, k2', k3, k4⟩ := cells5 (D5.out.grow L2.out).b
            obtain ⟨m0, m1, m2, m3, m4⟩ := cells5 (D2e.out.grow L2.out).b
            obtain ⟨n0, n1, n2, n3, n4⟩ := cells5 (D3e.out.grow L2.out).b
            go_upto_region 24 with (first
              | (go_at_call 15; (with_reducible refine (CB.out _).mono ?_); rintro e w' ⟨rfl, rfl⟩)
              | (go_at_call 13; (with_reducible refine (CSH.out _ _ _ _ _ _ (D2e.out.grow L2.out).h).mono ?_); rintro e v3 ⟨rfl, hg⟩; have L3 := Lib.hid (L2.out.trans hg); clear hg k0 k1 k2' k3 k4 m0 m1 m2 m3 m4 n0 n1 n2 n3 n4; obtain ⟨k0, k1, k2', k3, k4⟩ := cells5 (D5.out.grow L3.out).b; obtain ⟨n0, n1, n2, n3, n4⟩ := cells5 (D3e.out.grow L3.out).b)
              | (go_at_call 13; (with_reducible refine (CSH.out _ _ _ _ _ _ (D3e.out.grow L3.out).h).mono ?_); rintro e v4 ⟨rfl, hg⟩; have L4 := Lib.hid (L3.out.trans hg); clear hg k0 k1 k2' k3 k4 n0 n1 n2 n3 n4; obtain ⟨k0, k1, k2', k3, k4⟩ := cells5 (D5.out.grow L4.out).b)
              | (go_at_call 16; (with_reducible refine (CMY.out _ _ _ (D5.out.grow L4.out).h).mono ?_); rintro e v5 ⟨rfl, hg⟩; have L5 := Lib.hid (L4.out.trans hg); clear hg k0 k1 k2' k3 k4))
            have D6 := Lib.hid (D5.out.grow L5.out)
            have N6 := Lib.hid (N5.out.grow L5.out)
            have HD6 := Lib.hid (HD5.out.grow L5.out)
            have HK6 : Hid (Kept (fun k => k = g1) y1 v5) := HK5.out.then L5.out fun _ _ x => x.elim
            clear D5 N5 HD5 HK5 D2e D3e L2 L3 L4 L5
            obtain ⟨k0, k1, k2', k3, k4⟩ := cells5 D6.out.b
            obtain ⟨m0, m1, m2, m3, m4⟩ := cells5 HD6.out.b
            have fz := HD6.out.b.frozenAll
            go_wp2
            go_roundg (gk - 1)
            case measure => have := HG.out; omega
            case rel => exact ⟨j + 1, V + 1, q4, o4, c4, went O B (T : Int), by have := HG.out; omega, by go_num, rfl, by omega, by omega, ⟨blk_set5 HD6.out.b, (N6.out.kept (kept_set5 _ _ _ _ _ _ _) HQN.out).has⟩, went_own HO.out (Int.natCast_nonneg _) hTz, HK6.out.trans (kept_set5 _ _ _ _ _ _ _)⟩
    · by_cases hj1 : j < len1
      · have hj1z : (j : Int) < (len1 : Int) := by omega
        have hj2z : 40 ≤ (j : Int) := by omega
        clear hj
        go_wp2_with (go_at_call 8; (with_reducible refine (told_any _).mono ?_); rintro e z1 ⟨rfl, hg⟩; have F1 := Lib.hid hg; clear hg)
        go_ret
        exact ⟨rfl, Grow.below ((K1.out.then HK.out fun k h1 e => by have := HG1.out; omega).trans F1.out)⟩
      · have hj1z : (len1 : Int) ≤ (j : Int) := by omega
        clear hj
        go_wp2_with (go_at_call 8; (with_reducible refine (told_any _).mono ?_); rintro e z1 ⟨rfl, hg⟩; have F1 := Lib.hid hg; clear hg)
        go_ret
        exact ⟨rfl, Grow.below ((K1.out.then HK.out fun k h1 e => by have := HG1.out; omega).trans F1.out)⟩

/-! ### THE ROW's STEP: WRITTEN OUT: LEAVE IT -/
set_option maxRecDepth 100000 in
theorem lifted (os : Os) (started : os.Started) (H : Type) (enc : TypeId × Value → H) :
    ReturnsInHanded {} Try.checked os 4 .any (Rows.dirMovesSpec.pre6 enc Try.prog Try.f4 Rows.dirMovesRow.domain false) (Rows.dirMovesSpec.post enc Try.prog Try.f4 false true false false) := by
  refine returnsInHanded_of_change (C := Try.checked) own started (by kernel_rfl) Try.func4
    (ChangeSpec.witness6 (enc := enc) (C := Try.checked) false ⟨#[], #[.int .i64 0, .slice none 0 0, .int .i64 0], []⟩ 8 (by kernel_rfl) (by kernel_rfl) (by kernel_rfl) (by kernel_rfl)) ?_
  intro W base args ds gs before hval0 hW hcnd _
  have hval : ∀ (j : Nat) t v, Try.f4.params[j]? = some t → args[j]? = some v → Value.okWide Try.prog W .any base t v := hval0
  have hW' := hW
  obtain ⟨p, q, hA0, hV, rfl, hfz, hnd⟩ := hW
  have hA : DataW.TrodAll enc Try.prog W 0 (fun _ => true) true Try.f4.params.toList args.toList ds p := hA0
  rw [Try.params4] at hA hval
  obtain ⟨v0, vs0, d0, ds0, p0, q0, hargs, rfl, rfl, h0, r0⟩ := trodAll_cons hA
  obtain ⟨v1, vs1, d1, ds1, p1, q1, rfl, rfl, rfl, h1, r1⟩ := trodAll_cons r0
  obtain ⟨v2, vs2, d2, ds2, p2, q2, rfl, rfl, rfl, h2, r2⟩ := trodAll_cons r1
  obtain ⟨rfl, rfl, rfl⟩ := trodAll_nil r2
  obtain rfl : args = #[v0, v1, v2] := by cases args; simp_all
  obtain ⟨rfl, rfl⟩ := trodVars_none hV
  obtain ⟨a0, rfl, rfl, rfl, w0⟩ := open_int Try.underlying3 (hval 0 3 v0 rfl rfl) h0
  obtain ⟨a1, len1, cap1, rfl⟩ := okWide_slice Try.underlying23 (hval 1 23 v1 rfl rfl)
  have k1 := h1
  have lt1 : ∀ x ∈ p1, x.block < W.heap.size := by obtain ⟨m, hm⟩ := k1; exact DataW.trod_lt m _ _ _ hm
  obtain ⟨z1, w1⟩ : ∃ zs, IsRow .i64 W a1 len1 cap1 zs := by
    obtain ⟨fuel, hf⟩ := h1
    rcases open_ints Try.underlying23 Try.underlying3 (by kernel_rfl) hf with ⟨hcs, _⟩ | ⟨x, l, c, zs, hcs, _, hl, hm, hz, _, hcell, hwz⟩
    · simp [Value.cells] at hcs
      obtain ⟨rfl, rfl, rfl⟩ := hcs
      exact ⟨[], .inl ⟨rfl, rfl, rfl, rfl⟩⟩
    · simp [Value.cells] at hcs
      obtain ⟨rfl, rfl, rfl⟩ := hcs
      exact ⟨zs, .inr ⟨_, rfl, hl, hm, by simpa using hz, hcell, hwz⟩⟩
  obtain ⟨a2, rfl, rfl, rfl, w2⟩ := open_int Try.underlying3 (hval 2 3 v2 rfl rfl) h2
  clear hA0 hval0
  refine (walk a0 a1 len1 cap1 z1 a2 W w0 w1 w2).mono fun e W' ⟨he, bel⟩ => ?_
  subst he
  exact ⟨_, rfl, _, _, _, [], _, [], hW', trodAll_mk1 (shut_bool Try.underlying4 _), (trodAll_cons_mk (shut_int Try.underlying3 w0) (trodAll_cons_mk (Below.trod laidOut (by kernel_rfl) (of_decide_eq_true (by kernel_rfl)) k1 bel lt1) (trodAll_cons_mk (shut_int Try.underlying3 w2) trodAll_mk0))), rfl, bel.frame _, fun h => by cases h⟩

theorem over : Rows.dirMovesRow.holds Try.pinned (OpenSpec.ofChange Rows.dirMovesSpec) :=
  OpenClaim.holds_of_wide 4 Try.f4 rfl rfl rfl rfl rfl rfl rfl ⟨rfl, rfl, rfl, rfl, rfl⟩ rfl rfl rfl rfl rfl (by kernel_rfl) Try.func4 (by kernel_rfl)
    (of_decide_eq_true (by kernel_rfl)) (by unfold Func.isWrapper; first | (rw [if_pos (by decide +kernel)]; kernel_rfl) | (rw [if_neg (by decide +kernel)]; exact ⟨rfl, rfl⟩))
    (fun os started H enc _ => lifted os started H enc)

/-- ████ THE STATEMENT ████ -/
theorem proved : Rows.DirMovesSaid := over
#print axioms proved
end Go.Proofs.Ytfmlbpnilblkjaa.dirMoves
