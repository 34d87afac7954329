/-
  The document's chapter 18 (lavaboref17): Share, Steps, Next.
-/
import Derived.Test.YtomnkdfolonicaaSzNext
namespace Go.Proofs.Ytomnkdfolonicaa.SzR
open Go.ChangeShapes Go.WideShapes Go.ChangeAt Go.RowKit
open Go.Proofs.Ytomnkdfolonicaa.Mem Go.Proofs.Ytomnkdfolonicaa.Blk Go.Proofs.Ytomnkdfolonicaa.Cells Go.Proofs.Ytomnkdfolonicaa.GsC Go.Proofs.Ytomnkdfolonicaa.SzM Go.Proofs.Ytomnkdfolonicaa.SzC Go.Proofs.Ytomnkdfolonicaa.SzN Go.Proofs.Ytomnkdfolonicaa.Stages Go.Proofs.Ytomnkdfolonicaa.Trees

/-- The first j numbers that f tells. -/
abbrev row (f : Nat → Int) (j : Nat) : List Int := (List.range j).map f
/-- Numbers of the call's own from place o on, that may be written. -/
def Nm (w : World) (b o n : Nat) (H : Nat → Int) : Prop := ∃ N f, Row w b N f ∧ o + n ≤ N ∧ ∀ j, j < n → f (o + j) = .int .i64 (H j)
section
variable {w w' : World} {A : Option Addr} {n m c b o d s q : Nat} {H K f : Nat → Int} {F : Nat → Prop} {x : Int}
theorem row_succ {j : Nat} (hx : f j = x) : row f j ++ [x] = row f (j + 1) := by
  unfold row
  rw [List.range_succ, List.map_append, ← hx]; rfl
theorem row_get {j i : Nat} (hi : i < j) : (row f j).getD i 0 = f i := by
  unfold row
  simp [List.getD_eq_getElem?_getD, hi]
theorem row_len {j : Nat} : (row f j).length = j := by simp [row]
theorem Nm.of_gs (h : Gs w A n c (row f n)) (hn : 0 < n) : ∃ b o, A = some ⟨b, o, none⟩ ∧ Nm w b o n f ∧ blk A c b := by
  have hle := h.le
  obtain ⟨b, o, g, rfl, hr, hg⟩ := h.row (by omega)
  exact ⟨b, o, rfl, ⟨_, g, hr, by omega, fun j hj => by rw [hg j hj, row_get hj]⟩, blk_some.2 ⟨by omega, rfl⟩⟩
theorem Nm.of_nr (h : Nr w b n H) : Nm w b 0 n H := ⟨n, _, h, by omega, fun j hj => by rw [Nat.zero_add]⟩
theorem Nm.has (h : Nm w b o n H) : Has w (some ⟨b, o, none⟩) n H := fun _ => by
  obtain ⟨N, f, hr, hn, hf⟩ := h
  exact ⟨b, o, rfl, fun j hj => by rw [hr.cell (by omega), hf j hj]⟩
theorem Nm.cell (h : Nm w b o n H) {j : Nat} (hj : j < n) : w.cell? ⟨b, o + j, none⟩ = some (.int .i64 (H j)) := by
  obtain ⟨N, f, hr, hn, hf⟩ := h
  rw [hr.cell (by omega), hf j hj]
theorem Nm.frozen (h : Nm w b o n H) (i : Nat) : w.frozen? ⟨b, i, none⟩ = false := by
  obtain ⟨N, f, hr, hn, hf⟩ := h
  exact hr.frozen i
theorem Nm.lt (h : Nm w b o n H) : b < w.heap.size := by
  obtain ⟨N, f, hr, hn, hf⟩ := h
  exact hr.lt
theorem Nm.kept (h : Nm w b o n H) (hk : Kept F w w') (hF : ¬ F b) : Nm w' b o n H := by
  obtain ⟨N, f, hr, hn, hf⟩ := h
  exact ⟨N, f, hr.kept hk hF, hn, hf⟩
theorem Nm.grow (h : Nm w b o n H) (hg : Grow w w') : Nm w' b o n H := h.kept hg id
theorem Nm.same (h : Nm w b o n H) (e : ∀ s, s < n → K s = H s) : Nm w b o n K := by
  obtain ⟨N, f, hr, hn, hf⟩ := h
  exact ⟨N, f, hr, hn, fun j hj => by rw [hf j hj, e j hj]⟩
theorem Nm.set (h : Nm w b o n H) (s : Nat) (v : Int) (hk : ∀ q, q < n → K q = if q = s then v else H q) : Nm (w.setCell ⟨b, o + s, none⟩ (.int .i64 v)) b o n K := by
  obtain ⟨N, f, hr, hn, hf⟩ := h
  refine ⟨N, _, hr.set (o + s) _, hn, fun j hj => ?_⟩
  rw [hk j hj]
  by_cases e : j = s
  · subst e; rw [if_pos rfl, if_pos rfl]
  · rw [if_neg (by omega), if_neg e, hf j hj]
theorem Has.sl (h : Has w A n H) : ∃ B, Sl w B .i64 A n (row H n) := by
  by_cases hn : 0 < n
  · obtain ⟨b, o, rfl, hc⟩ := h hn
    exact ⟨b + 1, row_len, fun _ => ⟨b, o, rfl, by omega, fun j hj => by rw [row_get hj]; exact hc j hj⟩⟩
  · exact ⟨0, row_len, fun h => absurd h hn⟩

theorem rshare_bad {x y : Int} (h : ¬ May x y) : Calls Try.prog 12 #[.int .i64 x, .int .i64 y] w fun e w' => e = .returned (.slice none 0 0) ∧ w = w' := by
  unfold May at h
  by_cases h1 : y < 1
  · clear h
    go_enter Try.func12, Try.ntmps12
    go_wp2
    go_ret
    exact ⟨rfl, rfl⟩
  · have h1' : 1 ≤ y := by omega
    clear h1
    by_cases h2 : 4 < y
    · clear h
      go_enter Try.func12, Try.ntmps12
      go_wp2
      go_ret
      exact ⟨rfl, rfl⟩
    · have h2' : y ≤ 4 := by omega
      clear h2
      by_cases h3 : x < 0
      · clear h
        go_enter Try.func12, Try.ntmps12
        go_wp2
        go_ret
        exact ⟨rfl, rfl⟩
      · have h3' : 0 ≤ x := by omega
        have h4 : 32 < x := by omega
        clear h3 h
        go_enter Try.func12, Try.ntmps12
        go_wp2
        go_ret
        exact ⟨rfl, rfl⟩
/-- What the document's Share makes. -/
def RShPost (m n : Nat) (w : World) (e : Ending) (w' : World) : Prop := ∃ A c, e = .returned (.slice A n c) ∧ Gs w' A n c (row (shr m n) n) ∧ (∀ k, blk A c k → w.heap.size ≤ k) ∧ Grow w w'
set_option maxHeartbeats 2000000 in
theorem rshare_good (h1 : 1 ≤ n) (h4 : n ≤ 4) (hm : m ≤ 32) : Calls Try.prog 12 #[.int .i64 (m : Int), .int .i64 (n : Int)] w (RShPost m n w) := by
  have h1z : 1 ≤ (n : Int) := by omega
  have h4z : (n : Int) ≤ 4 := by omega
  have hmz : (m : Int) ≤ 32 := by omega
  obtain ⟨Q, hQ⟩ : ∃ Q : Nat, m / n = Q := ⟨_, rfl⟩
  obtain ⟨R, hR⟩ : ∃ R : Nat, m % n = R := ⟨_, rfl⟩
  have hquo : (m : Int).tdiv (n : Int) = (Q : Int) := by rw [← hQ, Int.tdiv_eq_ediv_of_nonneg (by omega)]; omega
  have hrem : (m : Int).tmod (n : Int) = (R : Int) := by rw [← hR, Int.tmod_eq_emod_of_nonneg (by omega)]; omega
  have hQ32 : (Q : Int) ≤ 32 := by have := Nat.div_le_self m n; omega
  have HIN : Hid (∀ j, j < R → shr m n j = (Q : Int) + 1) := fun j hj => by rw [shr_in (by omega), hQ]
  have HOUT : Hid (∀ j, R ≤ j → shr m n j = (Q : Int)) := fun j hj => by rw [shr_out (by omega), hQ]
  clear hQ hR
  unfold RShPost
  generalize shr m n = S at *
  have HAP : Hid (∀ (wr : World) (A : Option Addr) (c j : Nat) (x : Int), Gs wr A j c (row S j) → (∀ k, blk A c k → w.heap.size ≤ k) → Grow w wr → j ≤ 4 → S j = x →
      ∃ A' c' w2, (Builtin.append_ #[22, 22] 22 #[.slice A j c, .slice (some ⟨wr.heap.size, 0, none⟩) 1 1]).run Try.prog (wr.alloc (.cells #[.int .i64 x] 3)) = .ok (.slice A' (j + 1) c') w2 ∧ Gs w2 A' (j + 1) c' (row S (j + 1)) ∧ (∀ k, blk A' c' k → w.heap.size ≤ k) ∧ Grow w w2) := fun wr A c j x hgs hbk hgr hj hx => by
    have hga : Grow wr (wr.alloc (.cells #[.int .i64 x] 3)) := (Kept.refl _ wr).alloc _
    obtain ⟨A', c', w2, hr, hg2, hk, hb⟩ := append_gs 22 (hgs.grow hga) (by omega) wr.heap.size x (cell_new1 wr _ _)
    rw [row_succ hx] at hg2
    have hsz := hgr.size
    have hsz2 := hga.size
    exact ⟨A', c', w2, hr, hg2, fun k hk' => by
      rcases hb k hk' with e | e
      · exact hbk k e
      · omega, (hgr.trans hga).then hk fun k hk' e => by have := hbk k e; omega⟩
  go_enter Try.func12, Try.ntmps12
  go_wp2
  go_loopg [5, 6, 7] n (fun gx s5 i s7 wr => ∃ (j : Nat) (A : Option Addr) (c : Nat), j + gx = n ∧ i = .int .i64 (j : Int) ∧ s5 = .slice A j c ∧ Gs wr A j c (row S j) ∧ (∀ k, blk A c k → w.heap.size ≤ k) ∧ Grow w wr)
  case atStart => exact ⟨0, none, 0, by omega, rfl, rfl, Gs.nil _ _, fun k h => absurd h blk_zero, Kept.refl _ _⟩
  case round =>
    obtain ⟨j, A, c, hg, rfl, rfl, hgs, hbk, hgr⟩ := hrel
    have HG := Lib.hid hg
    have HGS := Lib.hid hgs
    have HBK := Lib.hid hbk
    have HGR := Lib.hid hgr
    clear hg hgs hbk hgr
    by_cases hj : j < n
    · have hjz : (j : Int) < (n : Int) := by omega
      by_cases hRj : j < R
      · have hRz : (j : Int) < (R : Int) := by omega
        obtain ⟨A', c', w2, hr, hg2, hb2, hgr2⟩ := HAP.out wr A c j ((Q : Int) + 1) HGS.out HBK.out HGR.out (by omega) (HIN.out j hRj)
        have HR := Lib.hid hr
        have HG2 := Lib.hid hg2
        have HB2 := Lib.hid hb2
        have HGR2 := Lib.hid hgr2
        clear hr hg2 hb2 hgr2
        go_wp2_with (at_builtin; refine Lib.wpList_append_run _ rfl _ _ _ _ rfl _ _ rfl rfl _ _ HR.out ?_)
        go_roundg (gk - 1)
        case measure => have := HG.out; omega
        case rel => exact ⟨j + 1, A', c', by have := HG.out; omega, by go_num, rfl, HG2.out, HB2.out, HGR2.out⟩
      · have hRz : (R : Int) ≤ (j : Int) := by omega
        obtain ⟨A', c', w2, hr, hg2, hb2, hgr2⟩ := HAP.out wr A c j (Q : Int) HGS.out HBK.out HGR.out (by omega) (HOUT.out j (by omega))
        have HR := Lib.hid hr
        have HG2 := Lib.hid hg2
        have HB2 := Lib.hid hb2
        have HGR2 := Lib.hid hgr2
        clear hr hg2 hb2 hgr2
        go_wp2_with (at_builtin; refine Lib.wpList_append_run _ rfl _ _ _ _ rfl _ _ rfl rfl _ _ HR.out ?_)
        go_roundg (gk - 1)
        case measure => have := HG.out; omega
        case rel => exact ⟨j + 1, A', c', by have := HG.out; omega, by go_num, rfl, HG2.out, HB2.out, HGR2.out⟩
    · obtain rfl : j = n := by have := HG.out; omega
      go_wp2
      go_ret
      exact ⟨A, c, rfl, HGS.out, HBK.out, HGR.out⟩
theorem rsteps_not {x : Int} (h : ¬ May x (n : Int)) : Calls Try.prog 14 #[.slice A n c, .int .i64 x] w fun e w' => e = .returned (.slice none 0 0) ∧ Grow w w' := by
  have CS := Lib.hid fun (w : World) => rshare_bad (w := w) h
  clear h
  go_enter Try.func14, Try.ntmps14
  go_wp2_with (go_at_call 12; (with_reducible refine (CS.out _).mono ?_); rintro e w' ⟨rfl, rfl⟩)
  go_loopg [6] 0 (fun gx i wr => i = .int .i64 0 ∧ w = wr)
  case atStart => exact ⟨rfl, rfl⟩
  case round =>
    obtain ⟨rfl, rfl⟩ := hrel
    go_wp2
    go_ret
    exact ⟨rfl, Kept.refl _ _⟩
/-- What the document's Steps makes. -/
def RStPost (m n : Nat) (H : Nat → Int) (w : World) (e : Ending) (w' : World) : Prop :=
  ((∀ j, j < n → 0 ≤ H j) ∧ ∃ b o c, e = .returned (.slice (some ⟨b, o, none⟩) n c) ∧ Nm w' b o n (stp m n H) ∧ w.heap.size ≤ b ∧ Grow w w') ∨ ((∃ j, j < n ∧ H j < 0) ∧ e = .returned (.slice none 0 0) ∧ Grow w w')
set_option maxHeartbeats 2000000 in
theorem rsteps_may (h : Has w A n H) (h1 : 1 ≤ n) (h4 : n ≤ 4) (hm : m ≤ 32) (hb : ∀ j, j < n → H j ≤ 9223372036854775807) : Calls Try.prog 14 #[.slice A n c, .int .i64 (m : Int)] w (RStPost m n H w) := by
  have CS := Lib.hid fun (w : World) => rshare_good (w := w) h1 h4 hm
  have HH := Lib.hid h
  have HB := Lib.hid hb
  have H1 := Lib.hid h1
  have hnz : (n : Int) ≤ 4 := by omega
  have hmz : (m : Int) ≤ 32 := by omega
  have HM := Lib.hid hm
  clear h hb hm
  go_enter Try.func14, Try.ntmps14
  go_wp2_with (go_at_call 12; (with_reducible refine (CS.out _).mono ?_); rintro e w1 ⟨A1, c1, rfl, hgs, hbk, hg⟩; obtain ⟨B, oB, rfl, hr, hbb⟩ := Nm.of_gs hgs H1.out; have HR0 := Lib.hid hr; have HBB := Lib.hid (hbk B hbb); have HG0 := Lib.hid hg; clear hgs hr hbk hbb hg)
  go_loopg [6] n (fun gx i wr => ∃ j : Nat, j + gx = n ∧ i = .int .i64 (j : Int) ∧ (∀ q, q < j → 0 ≤ H q) ∧ Nm wr B oB n (fun q => if q < j then stp m n H q else shr m n q) ∧ Grow w wr)
  case atStart => exact ⟨0, by omega, rfl, fun q hq => absurd hq (Nat.not_lt_zero q), HR0.out.same fun s _ => if_neg (Nat.not_lt_zero s), HG0.out⟩
  case round =>
    obtain ⟨j, hg, rfl, h0, hr, hgr⟩ := hrel
    have HG := Lib.hid hg
    have H0 := Lib.hid h0
    have HR := Lib.hid hr
    have HGR := Lib.hid hgr
    clear hg h0 hr hgr HR0 HG0
    by_cases hj : j < n
    · have hjz : (j : Int) < (n : Int) := by omega
      obtain ⟨b, o, rfl, hc⟩ := HH.out.grow HGR.out (by omega)
      have r0 := hc j hj
      have r1 := HR.out.cell hj
      rw [if_neg (Nat.lt_irrefl j)] at r1
      have f1 := HR.out.frozen (oB + j)
      have hyb := HB.out j hj
      have HJ := Lib.hid hj
      obtain ⟨y, hy⟩ : ∃ y, H j = y := ⟨_, rfl⟩
      have HY := Lib.hid hy
      have HV : Hid (stp m n H j = shr m n j - y) := by rw [← hy]; rfl
      rw [hy] at r0 hyb
      clear hc hy
      by_cases hneg : y < 0
      · have HN : Hid (H j < 0) := by rw [HY.out]; exact hneg
        go_wp2
        go_ret
        exact .inr ⟨⟨j, HJ.out, HN.out⟩, rfl, HGR.out⟩
      · have hpos : 0 ≤ y := by omega
        have HP : Hid (0 ≤ H j) := by rw [HY.out]; exact hpos
        have hs0 : 0 ≤ shr m n j := shr_nonneg
        have hs1 : shr m n j ≤ 33 := shr_le HM.out
        clear hneg
        generalize shr m n j = z at *
        go_upto_region 7 with (fail)
        have q0 := up_cell (F := fun _ => False) (w := wr.drew) (p := ⟨b, o + j, none⟩) r0 id
        have q1 := up_cell (F := fun _ => False) (w := wr.drew) (p := ⟨B, oB + j, none⟩) r1 id
        refine wp_region_tree Grow (Kept (· = B)) (kept_refl _) (kept_trans _) (kept_refl _) (kept_trans _) (fun _ _ h => h.mono fun _ _ x => x.elim) [12] (.one true [0, 1, 2, 3, 4, 5, 6, 7, 8, 9, 10, 11] 12 (.last false [])) (by kernel_rfl) (by kernel_rfl) ?_
        refine tr_oneE fun K hK => ?_
        simp only [sel, List.map_cons, List.map_nil, List.getD_cons_succ, List.getD_cons_zero]
        repeat (go_big_quiet_step (fail))
        refine wpQuiet_nil ?_
        clear q0 q1
        go_wp2
        refine norm_up (hK _ _ (Lr_late (by decide) (kept_set _ B (oB + j) _)) ?_)
        clear hK K
        refine tr_lastL fun K hK => ?_
        simp only [sel, List.map_nil]
        refine wpQuiet_nil (hK _ ?_)
        clear hK K
        have HS : Hid (Nm ((wr.setCell ⟨B, oB + j, none⟩ (.int .i64 (z - y))).drew) B oB n (fun q => if q < j + 1 then stp m n H q else shr m n q)) := Nm.kept (HR.out.set (K := fun q => if q < j + 1 then stp m n H q else shr m n q) j (z - y) fun q _ => by
          by_cases e : q = j
          · subst e; rw [if_pos (Nat.lt_succ_self q), if_pos rfl]; exact HV.out
          · rw [if_neg e]
            by_cases e2 : q < j
            · rw [if_pos e2, if_pos (by omega)]
            · rw [if_neg e2, if_neg (by omega)]) (Kept.drew' _) (F := fun _ => False) id
        have HGS : Hid (Grow w ((wr.setCell ⟨B, oB + j, none⟩ (.int .i64 (z - y))).drew)) := (HGR.out.setCell (p := ⟨B, oB + j, none⟩) (fun h => by have h : B < w.heap.size := h; have := HBB.out; omega) (.int .i64 (z - y))).drew
        clear r0 r1 f1
        generalize (wr.setCell ⟨B, oB + j, none⟩ (.int .i64 (z - y))).drew = w2 at HS HGS ⊢
        go_wp2
        go_roundg (gk - 1)
        case measure => have := HG.out; omega
        case rel => exact ⟨j + 1, by have := HG.out; omega, by go_num, fun q hq => by
          by_cases e : q = j
          · subst e; exact HP.out
          · exact H0.out q (by omega), HS.out, HGS.out⟩
    · obtain rfl : j = n := by have := HG.out; omega
      go_wp2
      go_ret
      exact .inl ⟨H0.out, B, oB, c1, rfl, HR.out.same fun s hs => (if_pos hs).symm, HBB.out, HGR.out⟩
theorem rsteps_good (h : Has w A n H) (h1 : 1 ≤ n) (h4 : n ≤ 4) (hm : m ≤ 32) (h0 : ∀ j, j < n → 0 ≤ H j ∧ H j ≤ 9223372036854775807) : Calls Try.prog 14 #[.slice A n c, .int .i64 (m : Int)] w fun e w' => ∃ b o c, e = .returned (.slice (some ⟨b, o, none⟩) n c) ∧ Nm w' b o n (stp m n H) ∧ w.heap.size ≤ b ∧ Grow w w' :=
  (rsteps_may h h1 h4 hm fun j hj => (h0 j hj).2).mono fun e w' p => by
    rcases p with ⟨_, hp⟩ | ⟨⟨j, hj, hn⟩, _⟩
    · exact hp
    · have := (h0 j hj).1; omega
theorem rsteps_bad {x : Int} (h : Has w A n H) (hb : ∀ j, j < n → H j ≤ 9223372036854775807) (hx : ¬ (May x (n : Int) ∧ ∀ j, j < n → 0 ≤ H j)) : Calls Try.prog 14 #[.slice A n c, .int .i64 x] w fun e w' => e = .returned (.slice none 0 0) ∧ Grow w w' := by
  by_cases hm : May x (n : Int)
  · obtain ⟨m1, m2, m3, m4⟩ := hm
    obtain ⟨m, rfl⟩ : ∃ m : Nat, x = (m : Int) := ⟨x.toNat, by omega⟩
    refine (rsteps_may h (by omega) (by omega) (by omega) hb).mono fun e w' p => ?_
    rcases p with ⟨hp, _⟩ | ⟨_, hp⟩
    · exact absurd ⟨⟨m1, m2, m3, m4⟩, hp⟩ hx
    · exact hp
  · exact rsteps_not hm
set_option maxHeartbeats 2000000 in
theorem rnext_bad {x : Int} (h : Has w A n H) (hb : ∀ j, j < n → H j ≤ 9223372036854775807) (hx : ¬ (May x (n : Int) ∧ ∀ j, j < n → 0 ≤ H j)) : Calls Try.prog 9 #[.slice A n c, .int .i64 x] w fun e w' => e = .returned (.tuple #[.int .i64 (-1), .int .i64 0]) ∧ Grow w w' := by
  have CS := Lib.hid (rsteps_bad (c := c) h hb hx)
  clear h hb hx
  go_enter Try.func9, Try.ntmps9
  go_wp2_with (go_at_call 14; (with_reducible refine CS.out.mono ?_); rintro e w1 ⟨rfl, hg⟩; have HG := Lib.hid hg; clear hg)
  go_loopg [7, 8] 0 (fun gx s7 i wr => s7 = .int .i64 0 ∧ i = .int .i64 0 ∧ w1 = wr)
  case atStart => exact ⟨rfl, rfl, rfl⟩
  case round =>
    obtain ⟨rfl, rfl, rfl⟩ := hrel
    go_wp2
    go_loopg [9] 0 (fun gx i wr => i = .int .i64 0 ∧ w1 = wr)
    case atStart => exact ⟨rfl, rfl⟩
    case round =>
      obtain ⟨rfl, rfl⟩ := hrel
      go_wp2
      go_ret2
      exact ⟨rfl, HG.out⟩
set_option maxHeartbeats 4000000 in
theorem rnext_good (h : Has w A n H) (h1 : 1 ≤ n) (h4 : n ≤ 4) (hm : m ≤ 32) (h0 : ∀ j, j < n → 0 ≤ H j ∧ H j ≤ 9223372036854775807) : Calls Try.prog 9 #[.slice A n c, .int .i64 (m : Int)] w fun e w' => e = .returned (.tuple #[.int .i64 (nx (stp m n H) ((m : Int) - tot H n) n), .int .i64 (nb (stp m n H) ((m : Int) - tot H n) n)]) ∧ Grow w w' := by
  have CS := Lib.hid (rsteps_good (c := c) h h1 h4 hm h0)
  have HH := Lib.hid h
  have H0 := Lib.hid h0
  have h1z : 1 ≤ (n : Int) := by omega
  have hnz : (n : Int) ≤ 4 := by omega
  have hmz : (m : Int) ≤ 32 := by omega
  have hcap := sgn_cap (n := n) (H := H) hm fun j hj => (h0 j hj).1
  obtain ⟨C, hC⟩ : ∃ C : Nat → Int, C = fun j => if H j < 33 then H j else 33 := ⟨_, rfl⟩
  rw [← hC] at hcap
  have HC1 : Hid (∀ j, H j < 33 → C j = H j) := fun j hj => by rw [hC]; exact if_pos hj
  have HC2 : Hid (∀ j, 33 ≤ H j → C j = 33) := fun j hj => by rw [hC]; exact if_neg (by omega)
  have HTB : Hid (∀ j : Nat, j ≤ n → 0 ≤ tot C j ∧ tot C j ≤ 33 * (j : Int)) := fun j => by
    induction j with
    | zero => intro _; exact ⟨Int.le_refl _, Int.le_refl _⟩
    | succ j ih =>
      intro hj
      have h2 := ih (by omega)
      have h3 := h0 j (by omega)
      rw [tot_succ]
      by_cases e : H j < 33
      · have := HC1.out j e; omega
      · have := HC2.out j (by omega); omega
  clear h hm h0 h1 h4 hC
  have HSG := Lib.hid hcap.symm
  clear hcap
  generalize (m : Int) - tot H n = d at *
  generalize stp m n H = S at *
  have HD : Hid ((sgn d = 0 → nx S d n = -1 ∧ nb S d n = 0) ∧ (sgn d ≠ 0 → (scan S (sgn d) n 0 = -1 → nx S d n = -1 ∧ nb S d n = 0) ∧ ∀ j : Nat, scan S (sgn d) n 0 = (j : Int) → nx S d n = (j : Int) ∧ nb S d n = sgn d)) :=
    ⟨fun e => by rw [sgn_zero_iff.1 e]; exact nx_zero, fun e => ⟨nx_none e, fun j => nx_some e⟩⟩
  generalize nx S d n = X at *
  generalize nb S d n = Y at *
  generalize sgn d = s at *
  go_enter Try.func9, Try.ntmps9
  go_wp2_with (go_at_call 14; (with_reducible refine CS.out.mono ?_); rintro e w1 ⟨B, oB, cB, rfl, hr, hb, hg⟩; have HR := Lib.hid hr; have HG1 := Lib.hid hg; clear hr hb hg)
  have HH1 := Lib.hid (HH.out.grow HG1.out)
  clear HH
  go_loopg [7, 8] n (fun gx s7 i wr => ∃ j : Nat, j + gx = n ∧ i = .int .i64 (j : Int) ∧ s7 = .int .i64 (tot C j) ∧ w1 = wr)
  case atStart => exact ⟨0, by omega, rfl, rfl, rfl⟩
  case round =>
    obtain ⟨j, hg, rfl, rfl, rfl⟩ := hrel
    have HG := Lib.hid hg
    clear hg
    by_cases hj : j < n
    · have hjz : (j : Int) < (n : Int) := by omega
      obtain ⟨b, o, rfl, hc⟩ := HH1.out (by omega)
      have r0 := hc j hj
      obtain ⟨hy0, hy1⟩ := H0.out j hj
      obtain ⟨t0, t1⟩ := HTB.out j (by omega)
      have HTS : Hid (tot C (j + 1) = tot C j + C j) := rfl
      have HA := Lib.hid (HC1.out j)
      have HB := Lib.hid (HC2.out j)
      clear hc
      generalize tot C j = t at *
      generalize H j = y at *
      by_cases hcp : y ≤ 33
      · have HE : Hid (C j = y) := by
          by_cases e : y < 33
          · exact HA.out e
          · exact (HB.out (by omega)).trans (show (33 : Int) = y by omega)
        go_wp2
        go_roundg (gk - 1)
        case measure => have := HG.out; omega
        case rel => exact ⟨j + 1, by have := HG.out; omega, by go_num, by rw [HTS.out, HE.out], rfl⟩
      · have HE := Lib.hid (HB.out (by omega))
        go_wp2
        go_roundg (gk - 1)
        case measure => have := HG.out; omega
        case rel => exact ⟨j + 1, by have := HG.out; omega, by go_num, by rw [HTS.out, HE.out], rfl⟩
    · obtain rfl : j = n := by have := HG.out; omega
      obtain ⟨t0, t1⟩ := HTB.out j (Nat.le_refl _)
      generalize tot C j = t at *
      have H1 := Lib.hid h1z
      go_wp2
      go_loopg [9] j (fun gx i wr => ∃ q : Nat, q + gx = j ∧ i = .int .i64 (q : Int) ∧ (s ≠ 0 → scan S s j 0 = scan S s gx q) ∧ w1 = wr)
      case atStart => exact ⟨0, by omega, rfl, fun _ => rfl, rfl⟩
      case round =>
        obtain ⟨q, hg, rfl, hsc, rfl⟩ := hrel
        have HG2 := Lib.hid hg
        have HSC := Lib.hid hsc
        clear hg hsc
        by_cases hq : q < j
        · have hqz : (q : Int) < (j : Int) := by omega
          have r0 := HR.out.cell hq
          obtain ⟨g, rfl⟩ : ∃ g, gk = g + 1 := ⟨gk - 1, by have := HG2.out; omega⟩
          have HNO := Lib.hid fun (e : ¬ sgn (S q) = s) (h : s ≠ 0) => (HSC.out h).trans (scan_no e)
          have HOK := Lib.hid fun (e : sgn (S q) = s) (h : s ≠ 0) => (HSC.out h).trans (scan_ok e)
          generalize S q = y at *
          by_cases hlt : t < (m : Int)
          · obtain rfl : s = 1 := HSG.out.trans (sgn_pos (by omega))
            by_cases hy : 0 < y
            · obtain ⟨rfl, rfl⟩ := (HD.out.2 (by decide)).2 q (HOK.out (sgn_pos hy) (by decide))
              go_wp2
              go_ret2
              exact ⟨rfl, HG1.out⟩
            · have hy' : y ≤ 0 := by omega
              have HS2 := Lib.hid (HNO.out fun e => hy (sgn_pos_iff.1 e))
              clear hy
              go_wp2
              go_roundg g
              case measure => omega
              case rel => exact ⟨q + 1, by have := HG2.out; omega, by go_num, HS2.out, rfl⟩
          · by_cases hgt : (m : Int) < t
            · obtain rfl : s = -1 := HSG.out.trans (sgn_neg (by omega))
              clear hlt
              by_cases hy : y < 0
              · obtain ⟨rfl, rfl⟩ := (HD.out.2 (by decide)).2 q (HOK.out (sgn_neg hy) (by decide))
                go_wp2
                go_ret2
                exact ⟨rfl, HG1.out⟩
              · have hy' : 0 ≤ y := by omega
                have HS2 := Lib.hid (HNO.out fun e => hy (sgn_neg_iff.1 e))
                clear hy
                go_wp2
                go_roundg g
                case measure => omega
                case rel => exact ⟨q + 1, by have := HG2.out; omega, by go_num, HS2.out, rfl⟩
            · obtain rfl : t = (m : Int) := by omega
              have hs : s = 0 := HSG.out.trans (by rw [Int.sub_self]; rfl)
              have HS := Lib.hid hs
              clear hlt hgt hs
              go_wp2
              go_roundg g
              case measure => omega
              case rel => exact ⟨q + 1, by have := HG2.out; omega, by go_num, fun h => absurd HS.out h, rfl⟩
        · obtain rfl : q = j := by have := HG2.out; omega
          obtain ⟨rfl, rfl⟩ : X = -1 ∧ Y = 0 := by
            by_cases e : s = 0
            · exact HD.out.1 e
            · exact (HD.out.2 e).1 ((HSC.out e).trans (by rw [show gk = 0 by have := HG2.out; omega]; rfl))
          go_wp2
          go_ret2
          exact ⟨rfl, HG1.out⟩
end
end Go.Proofs.Ytomnkdfolonicaa.SzR
