/-
  Package dir (chapter 19): owned, moves, Same, May, known, Shard.
-/
import Derived.Test.YtfmlbpnilblkjaaDr
namespace Go.Proofs.Ytfmlbpnilblkjaa.DrY
open Go.ChangeShapes Go.WideShapes Go.ChangeAt Go.RowKit
open Go.Proofs.Ytfmlbpnilblkjaa.Mem Go.Proofs.Ytfmlbpnilblkjaa.Blk Go.Proofs.Ytfmlbpnilblkjaa.Cells Go.Proofs.Ytfmlbpnilblkjaa.GsC Go.Proofs.Ytfmlbpnilblkjaa.HasC Go.Proofs.Ytfmlbpnilblkjaa.DrC Go.Proofs.Ytfmlbpnilblkjaa.Stages Go.Proofs.Ytfmlbpnilblkjaa.Trees

section
variable {w w' : World} {A A' : Option Addr} {c c' g : Nat} {v b t p b' t' p' x y n : Int} {O : Nat → Int} {d : Dr}
theorem owned_good (h : Has w A 16 O) (hO : ∀ j, j < 16 → 0 ≤ O j ∧ O j < n) : Calls Try.prog 21 #[.agg #[.int .i64 v, .slice A 16 c, .int .i64 b, .int .i64 t, .int .i64 p], .int .i64 n] w fun e w' => e = .returned (.bool true) ∧ Grow w w' := by
  have H := Lib.hid h
  have HO := Lib.hid hO
  clear h hO
  go_enter Try.func21, Try.ntmps21
  go_upto_region 1 with (fail)
  have hb := Blk.new w 25 [.int .i64 v, .slice A 16 c, .int .i64 b, .int .i64 t, .int .i64 p]
  have hg : Grow w (w.alloc (.cells #[.int .i64 v, .slice A 16 c, .int .i64 b, .int .i64 t, .int .i64 p] 25)) := (Kept.refl _ _).alloc _
  generalize w.alloc (.cells #[.int .i64 v, .slice A 16 c, .int .i64 b, .int .i64 t, .int .i64 p] 25) = w0 at *
  have HG := Lib.hid hg
  obtain ⟨k0, k1, k2, k3, k4⟩ := cells5 hb
  obtain ⟨q, o, rfl, hc⟩ := H.out (by omega)
  have HC := Lib.hid fun j (hj : j < 16) => hg.cellN (hc j hj) id
  clear hb hg hc
  go_wp2
  go_step3
  go_wp2
  go_step3
  go_wp2
  go_loopg [5, 11] 16 (fun gx a i wr => ∃ j : Nat, j + gx = 16 ∧ i = .int .i64 (j : Int) ∧ a = .bool true ∧ w0 = wr)
  case atStart => exact ⟨0, by omega, rfl, rfl, rfl⟩
  case round =>
    obtain ⟨j, hg, rfl, rfl, rfl⟩ := hrel
    have HJ := Lib.hid hg
    clear hg
    by_cases hj : j < 16
    · have hjz : (j : Int) < 16 := by omega
      have r0 := HC.out j hj
      have CI := Lib.hid fun (w : World) => is_yes (w := w) (HO.out j hj).1 (HO.out j hj).2
      generalize O j = z at *
      go_wp2_with (go_at_call 24; (with_reducible refine (CI.out _).mono ?_); rintro e w' ⟨rfl, rfl⟩)
      go_roundg (gk - 1)
      case measure => have := HJ.out; omega
      case rel => exact ⟨j + 1, by have := HJ.out; omega, by go_num, rfl, rfl⟩
    · obtain rfl : j = 16 := by have := HJ.out; omega
      go_wp2
      try rw [Exit.noGoto_ret]
      go_ret
      exact ⟨rfl, HG.out⟩

theorem moves_good (h : Has w A 16 O) {B : Nat} (hB : B < 16) (h0 : 0 ≤ t) (h1 : t < n) (hp : p = 1 ∨ p = 2) : Calls Try.prog 22 #[.agg #[.int .i64 v, .slice A 16 c, .int .i64 (B : Int), .int .i64 t, .int .i64 p], .int .i64 n] w fun e w' => e = .returned (.bool (decide (t ≠ O B))) ∧ Grow w w' := by
  have hBz : (B : Int) < 16 := by omega
  have CB := Lib.hid fun (w : World) => is_yes (w := w) (x := (B : Int)) (y := 16) (by omega) hBz
  have CT := Lib.hid fun (w : World) => is_yes (w := w) h0 h1
  have H := Lib.hid h
  have HP := Lib.hid hp
  have HB0 := Lib.hid hB
  clear h0 h1 h hp hB
  generalize hzz : O B = z
  have HZZ := Lib.hid hzz
  clear hzz
  go_enter Try.func22, Try.ntmps22
  go_upto_region 1 with (fail)
  have hb := Blk.new w 25 [.int .i64 v, .slice A 16 c, .int .i64 (B : Int), .int .i64 t, .int .i64 p]
  have hg : Grow w (w.alloc (.cells #[.int .i64 v, .slice A 16 c, .int .i64 (B : Int), .int .i64 t, .int .i64 p] 25)) := (Kept.refl _ _).alloc _
  generalize w.alloc (.cells #[.int .i64 v, .slice A 16 c, .int .i64 (B : Int), .int .i64 t, .int .i64 p] 25) = w0 at *
  have HG := Lib.hid hg
  obtain ⟨k0, k1, k2, k3, k4⟩ := cells5 hb
  obtain ⟨q, o, rfl, hc⟩ := H.out (by omega)
  have r0 := hg.cellN (hc B HB0.out) id
  rw [HZZ.out] at r0
  have q1 := up_cell (F := fun _ => False) (w := w0.drew) k1 id
  have q2 := up_cell (F := fun _ => False) (w := w0.drew) k2 id
  have q3 := up_cell (F := fun _ => False) (w := w0.drew) k3 id
  have q4 := up_cell (F := fun _ => False) (w := w0.drew) k4 id
  have q0 := up_cell (F := fun _ => False) (w := w0.drew) r0 id
  clear hb hg hc k0 k1 k2 k3 k4 r0
  refine wp_region_stages Grow (kept_refl _) (kept_trans _) [([0, 1], 2), ([3, 4, 5, 6], 7)] [8, 9, 10, 11, 12, 13, 14, 15, 16, 17, 18, 19, 20, 21, 22, 23, 24, 25, 26, 27, 28, 29, 30] (by kernel_rfl) (by kernel_rfl) ?_
  simp only [selSt, sel, List.map_cons, List.map_nil, List.getD_cons_succ, List.getD_cons_zero]
  refine st_cons fun K1 hK1 => ?_
  repeat (go_big_quiet_step (fail))
  refine wpQuiet_nil ?_
  go_wp2_with (go_at_call 24; (with_reducible refine (CB.out _).mono ?_); rintro e w' ⟨rfl, rfl⟩)
  refine norm_up (hK1 _ _ (Kept.refl _ _) ?_)
  clear hK1 K1
  refine st_cons fun K1 hK1 => ?_
  repeat (go_big_quiet_step (fail))
  refine wpQuiet_nil ?_
  go_wp2_with (go_at_call 24; (with_reducible refine (CT.out _).mono ?_); rintro e w' ⟨rfl, rfl⟩)
  refine norm_up (hK1 _ _ (Kept.refl _ _) ?_)
  clear hK1 K1
  by_cases hz : t = z
  · subst hz
    refine st_nil fun K2 hK2 => ?_
    repeat (go_big_quiet_step (fail))
    refine wpQuiet_nil (hK2 _ ?_)
    clear hK2 K2
    go_wp2
    go_ret
    exact ⟨congrArg (fun r => Ending.returned (Value.bool r)) (decide_eq_false (p := t ≠ t) fun h => h rfl).symm, HG.out.drew⟩
  · have e0 : decide (t ≠ z) = true := decide_eq_true hz
    have e1 : (t != z) = true := bne_iff_ne.2 hz
    rcases HP.out with rfl | rfl
    · refine st_nil fun K2 hK2 => ?_
      repeat (go_big_quiet_step (fail))
      refine wpQuiet_nil (hK2 _ ?_)
      clear hK2 K2
      go_wp2
      go_ret
      exact ⟨rfl, HG.out.drew⟩
    · refine st_nil fun K2 hK2 => ?_
      repeat (go_big_quiet_step (fail))
      refine wpQuiet_nil (hK2 _ ?_)
      clear hK2 K2
      go_wp2
      go_ret
      exact ⟨rfl, HG.out.drew⟩

/-- Same of directories with one version and like owners: all else decides. -/
theorem same_any (h : Has w A 16 O) (h' : Has w A' 16 O) : Calls Try.prog 12 #[.agg #[.int .i64 v, .slice A 16 c, .int .i64 b, .int .i64 t, .int .i64 p], .agg #[.int .i64 v, .slice A' 16 c', .int .i64 b', .int .i64 t', .int .i64 p']] w fun e w' => e = .returned (.bool (decide (b = b' ∧ t = t' ∧ p = p'))) ∧ Grow w w' := by
  have CE := Lib.hid fun (w' : World) (hk : Grow w w') => equal_has (c := c) (c' := c') (by omega) (h.grow hk) (h'.grow hk)
  clear h h'
  go_enter Try.func12, Try.ntmps12
  go_upto_region 1 with (fail)
  have hb := boxes w 25 [.int .i64 v, .slice A 16 c, .int .i64 b, .int .i64 t, .int .i64 p] [.int .i64 v, .slice A' 16 c', .int .i64 b', .int .i64 t', .int .i64 p']
  generalize (w.alloc (.cells #[.int .i64 v, .slice A 16 c, .int .i64 b, .int .i64 t, .int .i64 p] 25)).alloc (.cells #[.int .i64 v, .slice A' 16 c', .int .i64 b', .int .i64 t', .int .i64 p'] 25) = w0 at *
  have HB := Lib.hid hb
  obtain ⟨k0, k1, k2, k3, k4⟩ := cells5 hb.b
  obtain ⟨j0, j1, j2, j3, j4⟩ := cells5 hb.z
  clear hb
  by_cases hbb : b = b'
  · subst hbb
    by_cases htt : t = t'
    · subst htt
      by_cases hpp : p = p'
      · subst hpp
        go_wp2_with (go_at_call 20; (with_reducible refine (CE.out _ HB.out.g).mono ?_); rintro e w1 ⟨rfl, hg⟩; have G1 := Lib.hid hg; clear hg k0 k1 k2 k3 k4 j0 j1 j2 j3 j4; obtain ⟨k0, k1, k2, k3, k4⟩ := cells5 (HB.out.b.grow G1.out); obtain ⟨j0, j1, j2, j3, j4⟩ := cells5 (HB.out.z.grow G1.out))
        go_ret
        exact ⟨rfl, HB.out.g.trans G1.out⟩
      · have e1 : (p == p') = false := beq_eq_false_iff_ne.2 hpp
        go_wp2_with (go_at_call 20; (with_reducible refine (CE.out _ HB.out.g).mono ?_); rintro e w1 ⟨rfl, hg⟩; have G1 := Lib.hid hg; clear hg k0 k1 k2 k3 k4 j0 j1 j2 j3 j4; obtain ⟨k0, k1, k2, k3, k4⟩ := cells5 (HB.out.b.grow G1.out); obtain ⟨j0, j1, j2, j3, j4⟩ := cells5 (HB.out.z.grow G1.out))
        go_ret
        exact ⟨rfl, HB.out.g.trans G1.out⟩
    · have e1 : (t == t') = false := beq_eq_false_iff_ne.2 htt
      go_wp2_with (go_at_call 20; (with_reducible refine (CE.out _ HB.out.g).mono ?_); rintro e w1 ⟨rfl, hg⟩; have G1 := Lib.hid hg; clear hg k0 k1 k2 k3 k4 j0 j1 j2 j3 j4; obtain ⟨k0, k1, k2, k3, k4⟩ := cells5 (HB.out.b.grow G1.out); obtain ⟨j0, j1, j2, j3, j4⟩ := cells5 (HB.out.z.grow G1.out))
      go_ret
      exact ⟨rfl, HB.out.g.trans G1.out⟩
  · have e1 : (b == b') = false := beq_eq_false_iff_ne.2 hbb
    go_wp2_with (go_at_call 20; (with_reducible refine (CE.out _ HB.out.g).mono ?_); rintro e w1 ⟨rfl, hg⟩; have G1 := Lib.hid hg; clear hg k0 k1 k2 k3 k4 j0 j1 j2 j3 j4; obtain ⟨k0, k1, k2, k3, k4⟩ := cells5 (HB.out.b.grow G1.out); obtain ⟨j0, j1, j2, j3, j4⟩ := cells5 (HB.out.z.grow G1.out))
    go_ret
    exact ⟨congrArg (fun r => Ending.returned (Value.bool r)) (decide_eq_false (p := b = b' ∧ t = t' ∧ p = p') fun h => hbb h.1).symm, HB.out.g.trans G1.out⟩

theorem may_zero : Calls Try.prog 16 #[.agg #[.int .i64 0, .slice none 0 0, .int .i64 0, .int .i64 0, .int .i64 0], .int .i64 x] w fun e w' => e = .returned (.bool false) ∧ Grow w w' := by
  go_enter Try.func16, Try.ntmps16
  go_upto_region 1 with (fail)
  have hb := Blk.new w 25 [.int .i64 0, .slice none 0 0, .int .i64 0, .int .i64 0, .int .i64 0]
  have hg : Grow w (w.alloc (.cells #[.int .i64 0, .slice none 0 0, .int .i64 0, .int .i64 0, .int .i64 0] 25)) := (Kept.refl _ _).alloc _
  generalize w.alloc (.cells #[.int .i64 0, .slice none 0 0, .int .i64 0, .int .i64 0, .int .i64 0] 25) = w0 at *
  have HG := Lib.hid hg
  obtain ⟨k0, k1, k2, k3, k4⟩ := cells5 hb
  clear hb hg
  go_wp2
  go_ret
  exact ⟨rfl, HG.out⟩
/-- A directory at rest. -/
theorem may_rest (h : Has w A 16 O) (hO : ∀ j, j < 16 → 0 ≤ O j ∧ O j < n) (h1 : 1 ≤ v) (h2 : v ≤ 1073741824) : Calls Try.prog 16 #[.agg #[.int .i64 v, .slice A 16 c, .int .i64 (-1), .int .i64 0, .int .i64 0], .int .i64 n] w fun e w' => e = .returned (.bool true) ∧ Grow w w' := by
  have CO := Lib.hid fun (w' : World) (hk : Grow w w') => owned_good (v := v) (c := c) (b := -1) (t := 0) (p := 0) (h.grow hk) hO
  have CS := Lib.hid fun (w' : World) (hk : Grow w w') => same_any (v := v) (c := c) (c' := c) (b := -1) (t := 0) (p := 0) (b' := -1) (t' := 0) (p' := 0) (h.grow hk) (h.grow hk)
  clear h hO
  go_enter Try.func16, Try.ntmps16
  go_upto_region 1 with (fail)
  have hb := Blk.new w 25 [.int .i64 v, .slice A 16 c, .int .i64 (-1), .int .i64 0, .int .i64 0]
  have hg : Grow w (w.alloc (.cells #[.int .i64 v, .slice A 16 c, .int .i64 (-1), .int .i64 0, .int .i64 0] 25)) := (Kept.refl _ _).alloc _
  generalize w.alloc (.cells #[.int .i64 v, .slice A 16 c, .int .i64 (-1), .int .i64 0, .int .i64 0] 25) = w0 at *
  have HG := Lib.hid hg
  have HB := Lib.hid hb
  obtain ⟨k0, k1, k2, k3, k4⟩ := cells5 hb
  clear hb hg
  go_upto_region 3 with (fail)
  obtain ⟨q0, q1, q2, q3, q4⟩ := (⟨up_cell (F := fun _ => False) (w := w0.drew) k0 id, up_cell (F := fun _ => False) (w := w0.drew) k1 id, up_cell (F := fun _ => False) (w := w0.drew) k2 id, up_cell (F := fun _ => False) (w := w0.drew) k3 id, up_cell (F := fun _ => False) (w := w0.drew) k4 id⟩ : _ ∧ _ ∧ _ ∧ _ ∧ _)
  clear k0 k1 k2 k3 k4
  refine wp_region_stages Grow (kept_refl _) (kept_trans _) [([0, 1], 2), ([3, 4, 5], 6), ([], 7), ([8, 9, 10], 11)] [12, 13, 14] (by kernel_rfl) (by kernel_rfl) ?_
  simp only [selSt, sel, List.map_cons, List.map_nil, List.getD_cons_succ, List.getD_cons_zero]
  refine st_cons fun K1 hK1 => ?_
  repeat (go_big_quiet_step (fail))
  refine wpQuiet_nil ?_
  go_wp2_with (go_at_call 21; (with_reducible refine (CO.out _ HG.out.drew).mono ?_); rintro e w1 ⟨rfl, hg⟩; have G1 := Lib.hid hg; clear hg)
  refine norm_up (hK1 _ _ G1.out ?_)
  clear hK1 K1 q0 q1 q2 q3 q4
  obtain ⟨k0, k1, k2, k3, k4⟩ := cells5 (HB.out.drew.grow G1.out)
  obtain ⟨q0, q1, q2, q3, q4⟩ := (⟨up_cell (F := fun _ => False) (w := w1) k0 id, up_cell (F := fun _ => False) (w := w1) k1 id, up_cell (F := fun _ => False) (w := w1) k2 id, up_cell (F := fun _ => False) (w := w1) k3 id, up_cell (F := fun _ => False) (w := w1) k4 id⟩ : _ ∧ _ ∧ _ ∧ _ ∧ _)
  clear k0 k1 k2 k3 k4
  refine st_cons fun K1 hK1 => ?_
  repeat (go_big_quiet_step (fail))
  refine wpQuiet_nil ?_
  go_wp2_with (go_at_call 17; (with_reducible refine still_any.mono ?_); rintro e w2 ⟨rfl, hg⟩; have G2 := Lib.hid hg; clear hg)
  refine norm_up (hK1 _ _ G2.out ?_)
  clear hK1 K1 q0 q1 q2 q3 q4
  refine st_cons fun K1 hK1 => ?_
  refine wpQuiet_nil ?_
  go_wp2_with (go_at_call 12; (with_reducible refine (CS.out _ ((HG.out.drew.trans G1.out).trans G2.out)).mono ?_); rintro e w3 ⟨rfl, hg⟩; have G3 := Lib.hid hg; clear hg)
  refine norm_up (hK1 _ _ G3.out ?_)
  clear hK1 K1
  refine st_cons fun K1 hK1 => ?_
  repeat (go_big_quiet_step (fail))
  refine wpQuiet_nil ?_
  go_wp2
  refine norm_up (hK1 _ _ (Kept.refl _ _) ?_)
  clear hK1 K1
  refine st_nil fun K2 hK2 => ?_
  repeat (go_big_quiet_step (fail))
  refine wpQuiet_nil (hK2 _ ?_)
  clear hK2 K2
  go_wp2
  go_ret
  exact ⟨rfl, ((HG.out.drew.trans G1.out).trans G2.out).trans G3.out⟩
/-- A directory with a bucket on its way. -/
theorem may_way (h : Has w A 16 O) (hO : ∀ j, j < 16 → 0 ≤ O j ∧ O j < n) (h1 : 1 ≤ v) (h2 : v ≤ 1073741824) {B : Nat} (hB : B < 16) (ht0 : 0 ≤ t) (ht1 : t < n) (hp : p = 1 ∨ p = 2) : Calls Try.prog 16 #[.agg #[.int .i64 v, .slice A 16 c, .int .i64 (B : Int), .int .i64 t, .int .i64 p], .int .i64 n] w fun e w' => e = .returned (.bool (decide (t ≠ O B))) ∧ Grow w w' := by
  have CO := Lib.hid fun (w' : World) (hk : Grow w w') => owned_good (v := v) (c := c) (b := (B : Int)) (t := t) (p := p) (h.grow hk) hO
  have CS := Lib.hid fun (w' : World) (hk : Grow w w') => same_any (v := v) (c := c) (c' := c) (b := (B : Int)) (t := t) (p := p) (b' := -1) (t' := 0) (p' := 0) (h.grow hk) (h.grow hk)
  have CM := Lib.hid fun (w' : World) (hk : Grow w w') => moves_good (v := v) (c := c) (h.grow hk) hB ht0 ht1 hp
  have e0 : decide ((B : Int) = -1 ∧ t = 0 ∧ p = 0) = false := decide_eq_false fun h => by have := h.1; omega
  rw [e0] at CS
  generalize decide (t ≠ O B) = r at *
  clear h hO hB ht0 ht1 hp e0
  go_enter Try.func16, Try.ntmps16
  go_upto_region 1 with (fail)
  have hb := Blk.new w 25 [.int .i64 v, .slice A 16 c, .int .i64 (B : Int), .int .i64 t, .int .i64 p]
  have hg : Grow w (w.alloc (.cells #[.int .i64 v, .slice A 16 c, .int .i64 (B : Int), .int .i64 t, .int .i64 p] 25)) := (Kept.refl _ _).alloc _
  generalize w.alloc (.cells #[.int .i64 v, .slice A 16 c, .int .i64 (B : Int), .int .i64 t, .int .i64 p] 25) = w0 at *
  have HG := Lib.hid hg
  have HB := Lib.hid hb
  obtain ⟨k0, k1, k2, k3, k4⟩ := cells5 hb
  clear hb hg
  go_upto_region 3 with (fail)
  obtain ⟨q0, q1, q2, q3, q4⟩ := (⟨up_cell (F := fun _ => False) (w := w0.drew) k0 id, up_cell (F := fun _ => False) (w := w0.drew) k1 id, up_cell (F := fun _ => False) (w := w0.drew) k2 id, up_cell (F := fun _ => False) (w := w0.drew) k3 id, up_cell (F := fun _ => False) (w := w0.drew) k4 id⟩ : _ ∧ _ ∧ _ ∧ _ ∧ _)
  clear k0 k1 k2 k3 k4
  refine wp_region_stages Grow (kept_refl _) (kept_trans _) [([0, 1], 2), ([3, 4, 5], 6), ([], 7), ([8, 9, 10], 11)] [12, 13, 14] (by kernel_rfl) (by kernel_rfl) ?_
  simp only [selSt, sel, List.map_cons, List.map_nil, List.getD_cons_succ, List.getD_cons_zero]
  refine st_cons fun K1 hK1 => ?_
  repeat (go_big_quiet_step (fail))
  refine wpQuiet_nil ?_
  go_wp2_with (go_at_call 21; (with_reducible refine (CO.out _ HG.out.drew).mono ?_); rintro e w1 ⟨rfl, hg⟩; have G1 := Lib.hid hg; clear hg)
  refine norm_up (hK1 _ _ G1.out ?_)
  clear hK1 K1 q0 q1 q2 q3 q4
  obtain ⟨k0, k1, k2, k3, k4⟩ := cells5 (HB.out.drew.grow G1.out)
  obtain ⟨q0, q1, q2, q3, q4⟩ := (⟨up_cell (F := fun _ => False) (w := w1) k0 id, up_cell (F := fun _ => False) (w := w1) k1 id, up_cell (F := fun _ => False) (w := w1) k2 id, up_cell (F := fun _ => False) (w := w1) k3 id, up_cell (F := fun _ => False) (w := w1) k4 id⟩ : _ ∧ _ ∧ _ ∧ _ ∧ _)
  clear k0 k1 k2 k3 k4
  refine st_cons fun K1 hK1 => ?_
  repeat (go_big_quiet_step (fail))
  refine wpQuiet_nil ?_
  go_wp2_with (go_at_call 17; (with_reducible refine still_any.mono ?_); rintro e w2 ⟨rfl, hg⟩; have G2 := Lib.hid hg; clear hg)
  refine norm_up (hK1 _ _ G2.out ?_)
  clear hK1 K1 q0 q1 q2 q3 q4
  refine st_cons fun K1 hK1 => ?_
  refine wpQuiet_nil ?_
  go_wp2_with (go_at_call 12; (with_reducible refine (CS.out _ ((HG.out.drew.trans G1.out).trans G2.out)).mono ?_); rintro e w3 ⟨rfl, hg⟩; have G3 := Lib.hid hg; clear hg)
  refine norm_up (hK1 _ _ G3.out ?_)
  clear hK1 K1
  obtain ⟨k0, k1, k2, k3, k4⟩ := cells5 (((HB.out.drew.grow G1.out).grow G2.out).grow G3.out)
  obtain ⟨q0, q1, q2, q3, q4⟩ := (⟨up_cell (F := fun _ => False) (w := w3) k0 id, up_cell (F := fun _ => False) (w := w3) k1 id, up_cell (F := fun _ => False) (w := w3) k2 id, up_cell (F := fun _ => False) (w := w3) k3 id, up_cell (F := fun _ => False) (w := w3) k4 id⟩ : _ ∧ _ ∧ _ ∧ _ ∧ _)
  clear k0 k1 k2 k3 k4
  refine st_cons fun K1 hK1 => ?_
  repeat (go_big_quiet_step (fail))
  refine wpQuiet_nil ?_
  go_wp2_with (go_at_call 22; (with_reducible refine (CM.out _ (((HG.out.drew.trans G1.out).trans G2.out).trans G3.out)).mono ?_); rintro e w4 ⟨rfl, hg⟩; have G4 := Lib.hid hg; clear hg)
  refine norm_up (hK1 _ _ G4.out ?_)
  clear hK1 K1 q0 q1 q2 q3 q4
  refine st_nil fun K2 hK2 => ?_
  repeat (go_big_quiet_step (fail))
  refine wpQuiet_nil (hK2 _ ?_)
  clear hK2 K2
  go_wp2
  go_ret
  exact ⟨rfl, (((HG.out.drew.trans G1.out).trans G2.out).trans G3.out).trans G4.out⟩
theorem may_any (h : Has w A 16 d.O) (hd : Ok n d) : Calls Try.prog 16 #[.agg #[.int .i64 d.v, .slice A 16 c, .int .i64 d.b, .int .i64 d.t, .int .i64 d.p], .int .i64 n] w fun e w' => e = .returned (.bool true) ∧ Grow w w' := by
  rcases hd.st with ⟨h1, h2, h3⟩ | ⟨B, h1, h2, h3, h4, h5, h6⟩
  · rw [h1, h2, h3]; exact may_rest h hd.own hd.v1 hd.v2
  · rw [h2]
    have := may_way (c := c) h hd.own hd.v1 hd.v2 h1 h3 h4 h6
    rwa [decide_eq_true h5] at this
theorem known_of {r : Bool} {X : Value} (hX : ∀ w', Grow w w' → Calls Try.prog 16 #[.agg #[.int .i64 v, .slice A 16 c, .int .i64 b, .int .i64 t, .int .i64 p], .int .i64 4] w' fun e w'' => e = .returned (.bool r) ∧ Grow w' w'') : Calls Try.prog 19 #[.agg #[.int .i64 v, .slice A 16 c, .int .i64 b, .int .i64 t, .int .i64 p]] w fun e w' => e = .returned (.bool r) ∧ Grow w w' := by
  have CM := Lib.hid hX
  clear hX
  go_enter Try.func19, Try.ntmps19
  go_upto_region 1 with (fail)
  have hb := Blk.new w 25 [.int .i64 v, .slice A 16 c, .int .i64 b, .int .i64 t, .int .i64 p]
  have hg : Grow w (w.alloc (.cells #[.int .i64 v, .slice A 16 c, .int .i64 b, .int .i64 t, .int .i64 p] 25)) := (Kept.refl _ _).alloc _
  generalize w.alloc (.cells #[.int .i64 v, .slice A 16 c, .int .i64 b, .int .i64 t, .int .i64 p] 25) = w0 at *
  have HG := Lib.hid hg
  obtain ⟨k0, k1, k2, k3, k4⟩ := cells5 hb
  clear hb hg
  go_wp2_with (go_at_call 16; (with_reducible refine (CM.out _ HG.out).mono ?_); rintro e w1 ⟨rfl, hg⟩; have G1 := Lib.hid hg; clear hg)
  go_ret
  exact ⟨rfl, HG.out.trans G1.out⟩
theorem known_good (h : Has w A 16 d.O) (hd : Ok 4 d) : Calls Try.prog 19 #[.agg #[.int .i64 d.v, .slice A 16 c, .int .i64 d.b, .int .i64 d.t, .int .i64 d.p]] w fun e w' => e = .returned (.bool true) ∧ Grow w w' :=
  known_of (X := .bool true) fun _ hg => may_any (h.grow hg) hd
/-- A bucket that is to go where it is. -/
theorem known_not (h : Has w A 16 O) (hO : ∀ j, j < 16 → 0 ≤ O j ∧ O j < 4) (h1 : 1 ≤ v) (h2 : v ≤ 1073741824) {B : Nat} (hB : B < 16) (hp : p = 1 ∨ p = 2) (ht : t = O B) : Calls Try.prog 19 #[.agg #[.int .i64 v, .slice A 16 c, .int .i64 (B : Int), .int .i64 t, .int .i64 p]] w fun e w' => e = .returned (.bool false) ∧ Grow w w' :=
  known_of (X := .bool true) fun _ hg => by
    have := may_way (c := c) (t := t) (p := p) (h.grow hg) hO h1 h2 hB (by rw [ht]; exact (hO B hB).1) (by rw [ht]; exact (hO B hB).2) hp
    rwa [decide_eq_false (fun h => h ht)] at this

theorem shard_good (h : Has w A 16 O) (m : Nat) (hm : (m : Int) ≤ 9223372036854775807) : Calls Try.prog 13 #[.agg #[.int .i64 v, .slice A 16 c, .int .i64 b, .int .i64 t, .int .i64 p], .int .i64 (m : Int)] w fun e w' => e = .returned (.int .i64 (O (bkt m))) ∧ Grow w w' := by
  have CB := Lib.hid fun (w : World) => bucket_good (w := w) m hm
  have H := Lib.hid h
  have hk := bkt_lt m
  clear h hm
  generalize bkt m = K at *
  generalize hz : O K = z
  have HZ := Lib.hid hz
  clear hz
  have hKz : (K : Int) < 16 := by omega
  have HK := Lib.hid hk
  clear hk
  go_enter Try.func13, Try.ntmps13
  go_upto_region 1 with (fail)
  have hb := Blk.new w 25 [.int .i64 v, .slice A 16 c, .int .i64 b, .int .i64 t, .int .i64 p]
  have hg : Grow w (w.alloc (.cells #[.int .i64 v, .slice A 16 c, .int .i64 b, .int .i64 t, .int .i64 p] 25)) := (Kept.refl _ _).alloc _
  generalize w.alloc (.cells #[.int .i64 v, .slice A 16 c, .int .i64 b, .int .i64 t, .int .i64 p] 25) = w0 at *
  have HG := Lib.hid hg
  obtain ⟨k0, k1, k2, k3, k4⟩ := cells5 hb
  obtain ⟨q, o, rfl, hc⟩ := H.out (by omega)
  have r0 := hg.cellN (hc K HK.out) id
  rw [HZ.out] at r0
  clear hb hg hc
  have eK : ((K : Int) == -1) = false := beq_eq_false_iff_ne.2 (by omega)
  go_wp2_with (go_at_call 15; (with_reducible refine (CB.out _).mono ?_); rintro e w' ⟨rfl, rfl⟩)
  go_ret
  exact ⟨rfl, HG.out⟩
end
end Go.Proofs.Ytfmlbpnilblkjaa.DrY
