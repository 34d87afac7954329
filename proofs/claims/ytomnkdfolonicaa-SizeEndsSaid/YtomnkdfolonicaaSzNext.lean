/-
  Package size (chapter 18): toward, Steps, Next.
-/
import Derived.Test.YtomnkdfolonicaaSz
import Derived.Test.YtomnkdfolonicaaTrees
namespace Go.Proofs.Ytomnkdfolonicaa.SzN
open Go.ChangeShapes Go.WideShapes Go.ChangeAt Go.RowKit
open Go.Proofs.Ytomnkdfolonicaa.Mem Go.Proofs.Ytomnkdfolonicaa.Blk Go.Proofs.Ytomnkdfolonicaa.Cells Go.Proofs.Ytomnkdfolonicaa.GsC Go.Proofs.Ytomnkdfolonicaa.SzM Go.Proofs.Ytomnkdfolonicaa.SzC Go.Proofs.Ytomnkdfolonicaa.Stages Go.Proofs.Ytomnkdfolonicaa.Trees

section
variable {w w' : World} {A : Option Addr} {n m c b d s : Nat} {H K : Nat → Int} {F : Nat → Prop}
theorem toward_good (h : Has w A n H) (hn : n ≤ 4) (hm : m ≤ 32) (h0 : ∀ j, j < n → 0 ≤ H j ∧ H j ≤ 9223372036854775807) : Calls Try.prog 15 #[.slice A n c, .int .i64 (m : Int)] w fun e w' => e = .returned (.int .i64 (sgn ((m : Int) - tot H n))) ∧ w = w' := by
  have HH := Lib.hid h
  have H0 := Lib.hid h0
  have hnz : (n : Int) ≤ 4 := by omega
  have hmz : (m : Int) ≤ 32 := by omega
  have HMO : Hid (∀ {i j : Nat}, i ≤ j → j ≤ n → tot H i ≤ tot H j) := fun h1 h2 => tot_mono (fun j hj => (h0 j hj).1) h1 h2
  have CC := Lib.hid fun (w : World) (x : Int) => cmp_any (w := w) x
  clear h h0
  go_enter Try.func15, Try.ntmps15
  go_wp2
  go_step3
  go_wp2
  go_step3
  go_wp2
  go_loopg [5, 11] n (fun gx x i wr => ∃ (j : Nat) (z : Int), j + gx = n ∧ i = .int .i64 (j : Int) ∧ x = .int .i64 z ∧ z = (m : Int) - tot H j ∧ 0 ≤ z ∧ w = wr)
  case atStart => exact ⟨0, _, by omega, rfl, rfl, (Int.sub_zero _).symm, by omega, rfl⟩
  case round =>
    obtain ⟨j, z, hg, rfl, rfl, hz, hz0, rfl⟩ := hrel
    have HG := Lib.hid hg
    have HZ := Lib.hid hz
    clear hg
    by_cases hj : j < n
    · have hjz : (j : Int) < (n : Int) := by omega
      obtain ⟨b, o, rfl, hc⟩ := HH.out (by omega)
      have r0 := hc j hj
      obtain ⟨hy0, hy1⟩ := H0.out j hj
      have HE : Hid (tot H (j + 1) = tot H j + H j) := rfl
      have HM := Lib.hid (HMO.out (i := j + 1) (j := n) (by omega) (Nat.le_refl _))
      have HM0 := Lib.hid (HMO.out (i := 0) (j := j) (by omega) (by omega))
      have hz32 : z ≤ 32 := by have h := HM0.out; have e : tot H 0 = 0 := rfl; omega
      clear hc hz
      generalize H j = y at *
      by_cases hneg : z - y < 0
      · have hs : sgn ((m : Int) - tot H n) = sgn (z - y) := by
          have h1 := HZ.out; have h2 := HE.out; have h3 := HM.out
          rw [sgn_neg hneg, sgn_neg (by omega)]
        have HS := Lib.hid hs
        clear hs
        go_wp2_with (go_at_call 16; (with_reducible refine (CC.out _ _).mono ?_); rintro e w' ⟨rfl, rfl⟩)
        try rw [Exit.noGoto_ret]
        go_ret
        exact ⟨congrArg (fun x => Ending.returned (Value.int .i64 x)) HS.out.symm, rfl⟩
      · have hneg' : 0 ≤ z - y := by omega
        have HN := Lib.hid hneg'
        clear hneg
        go_wp2
        go_roundg (gk - 1)
        case measure => have := HG.out; omega
        case rel => exact ⟨j + 1, z - y, by have := HG.out; omega, by go_num, by go_num, by have h1 := HZ.out; have h2 := HE.out; omega, HN.out, rfl⟩
    · obtain rfl : j = n := by have := HG.out; omega
      clear hz
      go_wp2_with (go_at_call 16; (with_reducible refine (CC.out _ _).mono ?_); rintro e w' ⟨rfl, rfl⟩)
      try rw [Exit.noGoto_ret]
      go_ret
      exact ⟨congrArg (fun x => Ending.returned (Value.int .i64 (sgn x))) HZ.out, rfl⟩
theorem toward_any (h : Has w A n H) (hn : n ≤ 8) (x : Int) : Calls Try.prog 15 #[.slice A n c, .int .i64 x] w fun e w' => ∃ z : Int, e = .returned (.int .i64 z) ∧ w = w' := by
  have HH := Lib.hid h
  have hnz : (n : Int) ≤ 8 := by omega
  have CC := Lib.hid fun (w : World) (x : Int) => cmp_any (w := w) x
  clear h
  go_enter Try.func15, Try.ntmps15
  go_wp2
  go_step3
  go_wp2
  go_step3
  go_wp2
  go_loopg [5, 11] n (fun gx x i wr => ∃ (j : Nat) (z : Int), j + gx = n ∧ i = .int .i64 (j : Int) ∧ x = .int .i64 z ∧ w = wr)
  case atStart => exact ⟨0, _, by omega, rfl, rfl, rfl⟩
  case round =>
    obtain ⟨j, z, hg, rfl, rfl, rfl⟩ := hrel
    have HG := Lib.hid hg
    clear hg
    by_cases hj : j < n
    · have hjz : (j : Int) < (n : Int) := by omega
      obtain ⟨b, o, rfl, hc⟩ := HH.out (by omega)
      have r0 := hc j hj
      clear hc
      generalize H j = y at *
      obtain ⟨v, hv⟩ : ∃ v, IntKind.i64.wrap (z - y) = v := ⟨_, rfl⟩
      by_cases hneg : v < 0
      · go_wp2_with (go_at_call 16; (with_reducible refine (CC.out _ _).mono ?_); rintro e w' ⟨rfl, rfl⟩)
        try rw [Exit.noGoto_ret]
        go_ret
        exact ⟨_, rfl, rfl⟩
      · have hneg' : 0 ≤ v := by omega
        clear hneg
        go_wp2
        go_roundg (gk - 1)
        case measure => have := HG.out; omega
        case rel => exact ⟨j + 1, v, by have := HG.out; omega, by go_num, by rfl, rfl⟩
    · obtain rfl : j = n := by have := HG.out; omega
      go_wp2_with (go_at_call 16; (with_reducible refine (CC.out _ _).mono ?_); rintro e w' ⟨rfl, rfl⟩)
      try rw [Exit.noGoto_ret]
      go_ret
      exact ⟨_, rfl, rfl⟩
theorem steps_not {x : Int} (h : ¬ May x (n : Int)) : Calls Try.prog 13 #[.slice A n c, .int .i64 x] w fun e w' => e = .returned (.slice none 0 0) ∧ Grow w w' := by
  have CS := Lib.hid fun (w : World) => share_bad (w := w) h
  clear h
  go_enter Try.func13, Try.ntmps13
  go_wp2
  go_step3
  go_wp2_with (go_at_call 11; (with_reducible refine (CS.out _).mono ?_); rintro e w' ⟨rfl, rfl⟩)
  go_step3
  go_wp2
  go_loopg [5, 13] 0 (fun gx s5 i wr => s5 = .slice none 0 0 ∧ i = .int .i64 0 ∧ w = wr)
  case atStart => exact ⟨rfl, rfl, rfl⟩
  case round =>
    obtain ⟨rfl, rfl, rfl⟩ := hrel
    go_wp2
    try rw [Exit.noGoto_ret]
    go_ret
    exact ⟨rfl, Kept.refl _ _⟩
/-- What Steps makes. -/
def StPost (m n : Nat) (H : Nat → Int) (w : World) (e : Ending) (w' : World) : Prop :=
  ((∀ j, j < n → 0 ≤ H j) ∧ ∃ b, e = .returned (.slice (some ⟨b, 0, none⟩) n n) ∧ Nr w' b n (stp m n H) ∧ w.heap.size ≤ b ∧ Grow w w') ∨ ((∃ j, j < n ∧ H j < 0) ∧ e = .returned (.slice none 0 0) ∧ Grow w w')
set_option maxHeartbeats 2000000 in
theorem steps_may (h : Has w A n H) (h1 : 1 ≤ n) (h4 : n ≤ 4) (hm : m ≤ 32) (hb : ∀ j, j < n → H j ≤ 9223372036854775807) : Calls Try.prog 13 #[.slice A n c, .int .i64 (m : Int)] w (StPost m n H w) := by
  have CS := Lib.hid fun (w : World) => share_good (w := w) h1 h4 hm
  have HH := Lib.hid h
  have HB := Lib.hid hb
  have hnz : (n : Int) ≤ 4 := by omega
  have hmz : (m : Int) ≤ 32 := by omega
  have HM := Lib.hid hm
  clear h hb hm
  go_enter Try.func13, Try.ntmps13
  go_wp2
  go_step3
  go_wp2_with (go_at_call 11; (with_reducible refine (CS.out _).mono ?_); rintro e w1 ⟨B, rfl, hr, hb, hg⟩; have HR0 := Lib.hid hr; have HBB := Lib.hid hb; have HG0 := Lib.hid hg; clear hr hb hg)
  go_step3
  go_wp2
  go_loopg [5, 13] n (fun gx s5 i wr => ∃ j : Nat, j + gx = n ∧ i = .int .i64 (j : Int) ∧ s5 = .slice (some ⟨B, 0, none⟩) n n ∧ (∀ q, q < j → 0 ≤ H q) ∧ Nr wr B n (fun q => if q < j then stp m n H q else shr m n q) ∧ Grow w wr)
  case atStart => exact ⟨0, by omega, rfl, rfl, fun q hq => absurd hq (Nat.not_lt_zero q), HR0.out.same fun s _ => if_neg (Nat.not_lt_zero s), HG0.out⟩
  case round =>
    obtain ⟨j, hg, rfl, rfl, h0, hr, hgr⟩ := hrel
    have HG := Lib.hid hg
    have H0 := Lib.hid h0
    have HR := Lib.hid hr
    have HGR := Lib.hid hgr
    clear hg h0 hr hgr HR0 HG0
    by_cases hj : j < n
    · have hjz : (j : Int) < (n : Int) := by omega
      obtain ⟨b, o, rfl, hc⟩ := HH.out.grow HGR.out (by omega)
      have r0 := hc j hj
      have r1 := HR.out.cell hj
      rw [if_neg (Nat.lt_irrefl j)] at r1
      have f1 := Row.frozen HR.out j
      have hyb := HB.out j hj
      have HJ := Lib.hid hj
      obtain ⟨y, hy⟩ : ∃ y, H j = y := ⟨_, rfl⟩
      have HY := Lib.hid hy
      have HV : Hid (stp m n H j = shr m n j - y) := by rw [← hy]; rfl
      rw [hy] at r0 hyb
      clear hc hy
      by_cases hneg : y < 0
      · have HN : Hid (H j < 0) := by rw [HY.out]; exact hneg
        go_wp2
        try rw [Exit.noGoto_ret]
        go_ret
        exact .inr ⟨⟨j, HJ.out, HN.out⟩, rfl, HGR.out⟩
      · have hpos : 0 ≤ y := by omega
        have HP : Hid (0 ≤ H j) := by rw [HY.out]; exact hpos
        have hs0 : 0 ≤ shr m n j := shr_nonneg
        have hs1 : shr m n j ≤ 33 := shr_le HM.out
        clear hneg
        generalize shr m n j = z at *
        go_upto_region 7 with (fail)
        have q0 := up_cell (F := fun _ => False) (w := wr.drew) (p := ⟨b, o + j, none⟩) r0 id
        have q1 := up_cell (F := fun _ => False) (w := wr.drew) (p := ⟨B, j, none⟩) r1 id
        refine wp_region_tree Grow (Kept (· = B)) (kept_refl _) (kept_trans _) (kept_refl _) (kept_trans _) (fun _ _ h => h.mono fun _ _ x => x.elim) [10] (.one true [0, 1, 2, 3, 4, 5, 6, 7, 8, 9] 10 (.last false [])) (by kernel_rfl) (by kernel_rfl) ?_
        refine tr_oneE fun K hK => ?_
        simp only [sel, List.map_cons, List.map_nil, List.getD_cons_succ, List.getD_cons_zero]
        repeat (go_big_quiet_step (fail))
        refine wpQuiet_nil ?_
        clear q0 q1
        go_wp2
        refine norm_up (hK _ _ (Lr_late (by decide) (kept_set _ B j _)) ?_)
        clear hK K
        refine tr_lastL fun K hK => ?_
        simp only [sel, List.map_nil]
        refine wpQuiet_nil (hK _ ?_)
        clear hK K
        have HS : Hid (Nr ((wr.setCell ⟨B, j, none⟩ (.int .i64 (z - y))).drew) B n (fun q => if q < j + 1 then stp m n H q else shr m n q)) := Row.kept (HR.out.set (K := fun q => if q < j + 1 then stp m n H q else shr m n q) j (z - y) fun q _ => by
          by_cases e : q = j
          · subst e; rw [if_pos (Nat.lt_succ_self q), if_pos rfl]; exact HV.out
          · rw [if_neg e]
            by_cases e2 : q < j
            · rw [if_pos e2, if_pos (by omega)]
            · rw [if_neg e2, if_neg (by omega)]) (Kept.drew' _) (F := fun _ => False) id
        have HGS : Hid (Grow w ((wr.setCell ⟨B, j, none⟩ (.int .i64 (z - y))).drew)) := (HGR.out.setCell (p := ⟨B, j, none⟩) (fun h => by have h : B < w.heap.size := h; have := HBB.out; omega) (.int .i64 (z - y))).drew
        clear r0 r1 f1
        generalize (wr.setCell ⟨B, j, none⟩ (.int .i64 (z - y))).drew = w2 at HS HGS ⊢
        go_wp2
        go_roundg (gk - 1)
        case measure => have := HG.out; omega
        case rel => exact ⟨j + 1, by have := HG.out; omega, by go_num, rfl, fun q hq => by
          by_cases e : q = j
          · subst e; exact HP.out
          · exact H0.out q (by omega), HS.out, HGS.out⟩
    · obtain rfl : j = n := by have := HG.out; omega
      go_wp2
      try rw [Exit.noGoto_ret]
      go_ret
      exact .inl ⟨H0.out, B, rfl, HR.out.same fun s hs => (if_pos hs).symm, HBB.out, HGR.out⟩
theorem steps_good (h : Has w A n H) (h1 : 1 ≤ n) (h4 : n ≤ 4) (hm : m ≤ 32) (h0 : ∀ j, j < n → 0 ≤ H j ∧ H j ≤ 9223372036854775807) : Calls Try.prog 13 #[.slice A n c, .int .i64 (m : Int)] w fun e w' => ∃ b, e = .returned (.slice (some ⟨b, 0, none⟩) n n) ∧ Nr w' b n (stp m n H) ∧ w.heap.size ≤ b ∧ Grow w w' :=
  (steps_may h h1 h4 hm fun j hj => (h0 j hj).2).mono fun e w' p => by
    rcases p with ⟨_, hp⟩ | ⟨⟨j, hj, hn⟩, _⟩
    · exact hp
    · have := (h0 j hj).1; omega
theorem steps_bad {x : Int} (h : Has w A n H) (hb : ∀ j, j < n → H j ≤ 9223372036854775807) (hx : ¬ (May x (n : Int) ∧ ∀ j, j < n → 0 ≤ H j)) : Calls Try.prog 13 #[.slice A n c, .int .i64 x] w fun e w' => e = .returned (.slice none 0 0) ∧ Grow w w' := by
  by_cases hm : May x (n : Int)
  · obtain ⟨m1, m2, m3, m4⟩ := hm
    obtain ⟨m, rfl⟩ : ∃ m : Nat, x = (m : Int) := ⟨x.toNat, by omega⟩
    refine (steps_may h (by omega) (by omega) (by omega) hb).mono fun e w' p => ?_
    rcases p with ⟨hp, _⟩ | ⟨_, hp⟩
    · exact absurd ⟨⟨m1, m2, m3, m4⟩, hp⟩ hx
    · exact hp
  · exact steps_not hm
set_option maxHeartbeats 2000000 in
theorem next_bad {x : Int} (h : Has w A n H) (hn : n ≤ 8) (hb : ∀ j, j < n → H j ≤ 9223372036854775807) (hx : ¬ (May x (n : Int) ∧ ∀ j, j < n → 0 ≤ H j)) : Calls Try.prog 8 #[.slice A n c, .int .i64 x] w fun e w' => e = .returned (.tuple #[.int .i64 (-1), .int .i64 0]) ∧ Grow w w' := by
  have CT := Lib.hid (toward_any (c := c) h hn x)
  have CS := Lib.hid (steps_bad (c := c) h hb hx)
  clear h hn hb hx
  go_enter Try.func8, Try.ntmps8
  go_wp2
  go_step3
  go_wp2_with (go_at_call 15; (with_reducible refine CT.out.mono ?_); rintro e w' ⟨z, rfl, rfl⟩)
  go_step3
  go_wp2_with (go_at_call 13; (with_reducible refine CS.out.mono ?_); rintro e w1 ⟨rfl, hg⟩; have HG := Lib.hid hg; clear hg)
  go_loopg [16] 0 (fun gx i wr => i = .int .i64 0 ∧ w1 = wr)
  case atStart => exact ⟨rfl, rfl⟩
  case round =>
    obtain ⟨rfl, rfl⟩ := hrel
    go_wp2
    try rw [Exit.noGoto_ret]
    go_ret2
    exact ⟨rfl, HG.out⟩
set_option maxHeartbeats 2000000 in
theorem next_good (h : Has w A n H) (h1 : 1 ≤ n) (h4 : n ≤ 4) (hm : m ≤ 32) (h0 : ∀ j, j < n → 0 ≤ H j ∧ H j ≤ 9223372036854775807) : Calls Try.prog 8 #[.slice A n c, .int .i64 (m : Int)] w fun e w' => e = .returned (.tuple #[.int .i64 (nx (stp m n H) ((m : Int) - tot H n) n), .int .i64 (nb (stp m n H) ((m : Int) - tot H n) n)]) ∧ Grow w w' := by
  have CT := Lib.hid (toward_good (c := c) h h4 hm h0)
  have CS := Lib.hid (steps_good (c := c) h h1 h4 hm h0)
  have CC := Lib.hid fun (w : World) (x : Int) => cmp_any (w := w) x
  have h1z : 1 ≤ (n : Int) := by omega
  have hnz : (n : Int) ≤ 4 := by omega
  have H1 := Lib.hid h1
  clear h hm h0 h1 h4
  generalize (m : Int) - tot H n = d at *
  generalize stp m n H = S at *
  have HD : Hid ((sgn d = 0 → nx S d n = -1 ∧ nb S d n = 0) ∧ (sgn d ≠ 0 → (scan S (sgn d) n 0 = -1 → nx S d n = -1 ∧ nb S d n = 0) ∧ ∀ j : Nat, scan S (sgn d) n 0 = (j : Int) → nx S d n = (j : Int) ∧ nb S d n = sgn d)) :=
    ⟨fun e => by rw [sgn_zero_iff.1 e]; exact nx_zero, fun e => ⟨nx_none e, fun j => nx_some e⟩⟩
  generalize nx S d n = X at *
  generalize nb S d n = Y at *
  generalize sgn d = s at *
  go_enter Try.func8, Try.ntmps8
  go_wp2
  go_step3
  go_wp2_with (go_at_call 15; (with_reducible refine CT.out.mono ?_); rintro e w' ⟨rfl, rfl⟩)
  go_step3
  go_wp2_with (go_at_call 13; (with_reducible refine CS.out.mono ?_); rintro e w1 ⟨B, rfl, hr, hb, hg⟩; have HR := Lib.hid hr; have HG1 := Lib.hid hg; clear hr hb hg)
  by_cases hs : s = 0
  · subst hs
    obtain ⟨rfl, rfl⟩ := HD.out.1 rfl
    go_loopg [7, 8, 16] n (fun gx s7 s8 i wr => i = .int .i64 0 ∧ w1 = wr)
    case atStart => exact ⟨rfl, rfl⟩
    case round =>
      obtain ⟨rfl, rfl⟩ := hrel
      have r0 := HR.out.cell (j := 0) H1.out
      have h1' : (0 : Int) < (n : Int) := by omega
      generalize S 0 = y at *
      go_wp2
      try rw [Exit.noGoto_ret]
      go_ret2
      exact ⟨rfl, HG1.out⟩
  · have hs' : (s == 0) = false := beq_eq_false_iff_ne.2 hs
    have HD2 := Lib.hid (HD.out.2 hs)
    clear hs HD
    go_loopg [7, 8, 16] n (fun gx s7 s8 i wr => ∃ j : Nat, j + gx = n ∧ i = .int .i64 (j : Int) ∧ scan S s n 0 = scan S s gx j ∧ w1 = wr)
    case atStart => exact ⟨0, by omega, rfl, rfl, rfl⟩
    case round =>
      obtain ⟨j, hg, rfl, hsc, rfl⟩ := hrel
      have HG := Lib.hid hg
      have HSC := Lib.hid hsc
      clear hg hsc
      by_cases hj : j < n
      · have hjz : (j : Int) < (n : Int) := by omega
        have r0 := HR.out.cell hj
        obtain ⟨g, rfl⟩ : ∃ g, gk = g + 1 := ⟨gk - 1, by have := HG.out; omega⟩
        have HNO := Lib.hid fun (e : ¬ sgn (S j) = s) => HSC.out.trans (scan_no e)
        have HOK := Lib.hid fun (e : sgn (S j) = s) => HSC.out.trans (scan_ok e)
        generalize S j = y at *
        by_cases hys : sgn y = s
        · obtain ⟨rfl, rfl⟩ := HD2.out.2 j (HOK.out hys)
          have hys' : (sgn y == Y) = true := beq_iff_eq.2 hys
          go_wp2_with (go_at_call 16; (with_reducible refine (CC.out _ _).mono ?_); rintro e w' ⟨rfl, rfl⟩)
          try rw [Exit.noGoto_ret]
          go_ret2
          exact ⟨rfl, HG1.out⟩
        · have hys' : (sgn y == s) = false := beq_eq_false_iff_ne.2 hys
          have HS2 := Lib.hid (HNO.out hys)
          clear hys HNO HOK
          go_wp2_with (go_at_call 16; (with_reducible refine (CC.out _ _).mono ?_); rintro e w' ⟨rfl, rfl⟩)
          go_roundg g
          case measure => omega
          case rel => exact ⟨j + 1, by have := HG.out; omega, by go_num, HS2.out, rfl⟩
      · obtain rfl : j = n := by have := HG.out; omega
        obtain ⟨rfl, rfl⟩ := HD2.out.1 (HSC.out.trans (by rw [show gk = 0 by have := HG.out; omega]; rfl))
        go_wp2
        try rw [Exit.noGoto_ret]
        go_ret2
        exact ⟨rfl, HG1.out⟩
end
end Go.Proofs.Ytomnkdfolonicaa.SzN
