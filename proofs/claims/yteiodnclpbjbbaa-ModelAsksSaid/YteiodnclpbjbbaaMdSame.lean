/-
  lavabolaw13.same: are two states the same?
-/
import Derived.Test.YteiodnclpbjbbaaPmSame
import Derived.Deep.CutRange
namespace Go.Proofs.Yteiodnclpbjbbaa.MdSame
open Go.ChangeShapes Go.WideShapes Go.ChangeAt Go.RowKit
open Go.Proofs.Yteiodnclpbjbbaa.Mem Go.Proofs.Yteiodnclpbjbbaa.Blk Go.Proofs.Yteiodnclpbjbbaa.Cells Go.Proofs.Yteiodnclpbjbbaa.Orow Go.Proofs.Yteiodnclpbjbbaa.MdM Go.Proofs.Yteiodnclpbjbbaa.MdC Go.Proofs.Yteiodnclpbjbbaa.PmC Go.Proofs.Yteiodnclpbjbbaa.PmM Go.Proofs.Yteiodnclpbjbbaa.PmS Go.Proofs.Yteiodnclpbjbbaa.Stages

theorem getD_ext {a b : List Int} (hl : a.length = b.length) (h : ∀ i, i < a.length → a.getD i 0 = b.getD i 0) : a = b := by
  apply List.ext_getElem hl
  intro i h1 h2
  have := h i h1
  simpa [List.getD_eq_getElem?_getD, List.getElem?_eq_getElem h1, List.getElem?_eq_getElem h2] using this
theorem bool_cases (b : Bool) : b = true ∨ b = false := by cases b <;> simp
section
variable {w : World} {AT AB AH AT' AB' AH' : Option Addr} {cT cB cH cT' cB' cH' : Nat} {s t : St}
set_option maxRecDepth 100000 in
set_option maxHeartbeats 8000000 in
theorem lsame_any (hp : Parts w AT cT AB cB AH cH s) (hp' : Parts w AT' cT' AB' cB' AH' cH' t) (hf : s.few) : Calls Try.prog 17 #[stv AT cT AB cB AH cH s, stv AT' cT' AB' cB' AH' cH' t] w (Tells (s.same t) w) := by
  unfold stv
  have hb := Blk.new w 28 [.slice AT s.nT cT, .slice AB s.nB cB, .slice AH s.nH cH]
  have hg : Grow w (w.alloc (.cells #[.slice AT s.nT cT, .slice AB s.nB cB, .slice AH s.nH cH] 28)) := (Kept.refl _ _).alloc _
  have hz : (w.alloc (.cells #[.slice AT s.nT cT, .slice AB s.nB cB, .slice AH s.nH cH] 28)).heap.size = w.heap.size + 1 := by simp
  have hb2 := Blk.new (w.alloc (.cells #[.slice AT s.nT cT, .slice AB s.nB cB, .slice AH s.nH cH] 28)) 28 [.slice AT' t.nT cT', .slice AB' t.nB cB', .slice AH' t.nH cH']
  have hg2 : Grow (w.alloc (.cells #[.slice AT s.nT cT, .slice AB s.nB cB, .slice AH s.nH cH] 28)) ((w.alloc (.cells #[.slice AT s.nT cT, .slice AB s.nB cB, .slice AH s.nH cH] 28)).alloc (.cells #[.slice AT' t.nT cT', .slice AB' t.nB cB', .slice AH' t.nH cH'] 28)) := (Kept.refl _ _).alloc _
  rw [hz] at hb2
  have HB := Lib.hid (hb.grow hg2)
  have HB2 := Lib.hid hb2
  have HG0 := Lib.hid (hg.trans hg2)
  obtain ⟨fb, fo, fe, hfl⟩ := flags_form hp.T
  obtain ⟨rb, ro, re, hrl⟩ := lists_form hp.B
  obtain ⟨qb, qo, qe, hql⟩ := lists_form hp.H
  obtain ⟨fb', fo', fe', hfl'⟩ := flags_form hp'.T
  obtain ⟨rb', ro', re', hrl'⟩ := lists_form hp'.B
  obtain ⟨qb', qo', qe', hql'⟩ := lists_form hp'.H
  have HFE := Lib.hid (And.intro fe fe')
  have HRE := Lib.hid (And.intro re re')
  have HQE := Lib.hid (And.intro qe qe')
  have HF := Lib.hid (And.intro hfl hfl')
  have HR := Lib.hid (And.intro hrl hrl')
  have HQ := Lib.hid (And.intro hql hql')
  have HBY := Lib.hid (And.intro hp.byt hp'.byt)
  have hn1 : (s.nT : Int) ≤ 60 := by have := hf.nT; omega
  have hn2 : (s.nB : Int) ≤ 60 := by have := hf.nB; omega
  have hn3 : (s.nH : Int) ≤ 8 := by have := hf.nH; omega
  have HFW := Lib.hid hf
  obtain ⟨P, hP⟩ : ∃ P, P = Tells (s.same t) w := ⟨_, rfl⟩
  have HP := Lib.hid hP
  rw [← hP]
  clear hb hg hz hb2 hg2 hp hp' hP fe fe' re re' qe qe' hfl hfl' hrl hrl' hql hql' hf
  go_enter Try.func17, Try.ntmps17
  go_upto_region 1 with (fail)
  generalize (w.alloc (.cells #[.slice AT s.nT cT, .slice AB s.nB cB, .slice AH s.nH cH] 28)).alloc (.cells #[.slice AT' t.nT cT', .slice AB' t.nB cB', .slice AH' t.nH cH'] 28) = w0 at *
  generalize w.heap.size = m at HB HB2 ⊢
  have x0 := HB.out.cell 0
  have x1 := HB.out.cell 1
  have x2 := HB.out.cell 2
  have y0 := HB2.out.cell 0
  have y1 := HB2.out.cell 1
  have y2 := HB2.out.cell 2
  simp only [List.getElem?_cons_zero, List.getElem?_cons_succ] at x0 x1 x2 y0 y1 y2
  go_cut [33] from 9 to 33 (fun v wx => ∃ b : Bool, v = .bool b ∧ (b = false ↔ (s.nT = t.nT ∧ s.nB = t.nB ∧ s.nH = t.nH)) ∧ w0 = wx)
  case first =>
    by_cases h1 : s.nT = t.nT
    · rw [h1] at x0
      by_cases h2 : s.nB = t.nB
      · rw [h2] at x1
        by_cases h3 : s.nH = t.nH
        · rw [h3] at x2
          have HN : Hid (s.nT = t.nT ∧ s.nB = t.nB ∧ s.nH = t.nH) := ⟨h1, h2, h3⟩
          clear h1 h2 h3
          go_wp2
          go_meet
          exact ⟨false, rfl, ⟨fun _ => HN.out, fun _ => rfl⟩, rfl⟩
        · have HN : Hid (¬ (s.nT = t.nT ∧ s.nB = t.nB ∧ s.nH = t.nH)) := fun h => h3 h.2.2
          have hz : ((s.nH : Int) != (t.nH : Int)) = true := by simp <;> omega
          have hz2 : ((s.nH : Int) == (t.nH : Int)) = false := by simp <;> omega
          have hz3 : ¬ (s.nH : Int) = (t.nH : Int) := by omega
          clear h1 h2 h3
          go_wp2
          go_meet
          exact ⟨true, rfl, ⟨fun e => Bool.noConfusion e, fun h => absurd h HN.out⟩, rfl⟩
      · have HN : Hid (¬ (s.nT = t.nT ∧ s.nB = t.nB ∧ s.nH = t.nH)) := fun h => h2 h.2.1
        have hz : ((s.nB : Int) != (t.nB : Int)) = true := by simp <;> omega
        have hz2 : ((s.nB : Int) == (t.nB : Int)) = false := by simp <;> omega
        have hz3 : ¬ (s.nB : Int) = (t.nB : Int) := by omega
        clear h1 h2
        go_wp2
        go_meet
        exact ⟨true, rfl, ⟨fun e => Bool.noConfusion e, fun h => absurd h HN.out⟩, rfl⟩
    · have HN : Hid (¬ (s.nT = t.nT ∧ s.nB = t.nB ∧ s.nH = t.nH)) := fun h => h1 h.1
      have hz : ((s.nT : Int) != (t.nT : Int)) = true := by simp <;> omega
      have hz2 : ((s.nT : Int) == (t.nT : Int)) = false := by simp <;> omega
      have hz3 : ¬ (s.nT : Int) = (t.nT : Int) := by omega
      clear h1
      go_wp2
      go_meet
      exact ⟨true, rfl, ⟨fun e => Bool.noConfusion e, fun h => absurd h HN.out⟩, rfl⟩
  case rest =>
    obtain ⟨b, rfl, hb, rfl⟩ := hcut
    clear y0 y1 y2
    cases b with
    | true =>
      have HN : Hid (¬ s.same t) := fun h => by have := hb.2 ⟨h.nT, h.nB, h.nH⟩; cases this
      clear hb x0 x1 x2
      go_wp2
      rw [HP.out]
      exact Tells.no HN.out HG0.out
    | false =>
      obtain ⟨e1, e2, e3⟩ := hb.1 rfl
      have HE : Hid (s.nT = t.nT ∧ s.nB = t.nB ∧ s.nH = t.nH) := ⟨e1, e2, e3⟩
      rw [← e1, ← e2, ← e3] at HB2
      clear hb e1 e2 e3
      go_wp2
      clear x0 x1 x2
      go_loopg [5] s.nT (fun gx i wr => ∃ j : Nat, j + gx = s.nT ∧ i = .int .i64 (j : Int) ∧ Grow w0 wr ∧ ∀ i, i < j → s.T i = t.T i)
      case atStart => exact ⟨0, by omega, rfl, Kept.refl _ _, fun i hi => absurd hi (Nat.not_lt_zero i)⟩
      case round =>
        obtain ⟨j, hg, rfl, hgr, hok⟩ := hrel
        have HG := Lib.hid hg
        have HGR := Lib.hid hgr
        have HOK := Lib.hid hok
        clear hg hgr hok
        have x0 := (HB.out.grow HGR.out).cell 0
        simp only [List.getElem?_cons_zero, List.getElem?_cons_succ] at x0
        by_cases hj : j < s.nT
        · have hjz : (j : Int) < (s.nT : Int) := by omega
          have HJ := Lib.hid hj
          obtain rfl := HFE.out.1 (by omega)
          obtain rfl := HFE.out.2 (by have := HE.out.1; omega)
          have HGW : Hid (Grow w wr.drew) := (HG0.out.trans HGR.out).drew
          clear hj
          go_upto_region 6 with (fail)
          clear x0
          go_cut [51] from 41 to 51 (fun v wx => ∃ b : Bool, v = .bool b ∧ (b = false ↔ s.T j = t.T j) ∧ Grow wr wx)
          case first =>
            have f1 := HGW.out.cellN (HF.out.1 j HJ.out) id
            have f2 := HGW.out.cellN (HF.out.2 j (by have := HE.out.1; have := HJ.out; omega)) id
            have bz0 := up_cell (F := fun _ => False) (w := wr.drew) (p := ⟨m, 0, none⟩) ((HB.out.grow HGR.out.drew).cell 0) id
            have y0 := up_cell (F := fun _ => False) (w := wr.drew) (p := ⟨m + 1, 0, none⟩) ((HB2.out.grow HGR.out.drew).cell 0) id
            rcases bool_cases (s.T j) with h1 | h1 <;> rcases bool_cases (t.T j) with h2 | h2
            · have HX := Lib.hid (show s.T j = t.T j from h1.trans h2.symm)
              rw [h1] at f1
              rw [h2] at f2
              clear h1 h2
              have u1 := up_cell (F := fun _ => False) (w := wr.drew) (p := ⟨fb, fo + j, none⟩) f1 id
              have u2 := up_cell (F := fun _ => False) (w := wr.drew) (p := ⟨fb', fo' + j, none⟩) f2 id
              clear f1 f2
              refine wp_region_stages (Kept fun _ => False) (kept_refl _) (kept_trans _) [] [0, 1, 2, 3, 4, 5, 6, 7, 8, 9, 10] (by kernel_rfl) (by kernel_rfl) ?_
              simp only [selSt, sel, List.map_cons, List.map_nil, List.getD_cons_succ, List.getD_cons_zero]
              refine st_nil fun K hK => ?_
              repeat (go_big_quiet_step (fail))
              refine wpQuiet_nil (hK _ ?_)
              clear hK K
              go_wp2
              go_meet
              exact ⟨false, rfl, ⟨fun _ => HX.out, fun _ => rfl⟩, (Kept.refl _ wr).drew⟩
            · have HX := Lib.hid (show ¬ (s.T j = t.T j) from fun e => by rw [h1, h2] at e; cases e)
              rw [h1] at f1
              rw [h2] at f2
              clear h1 h2
              have u1 := up_cell (F := fun _ => False) (w := wr.drew) (p := ⟨fb, fo + j, none⟩) f1 id
              have u2 := up_cell (F := fun _ => False) (w := wr.drew) (p := ⟨fb', fo' + j, none⟩) f2 id
              clear f1 f2
              refine wp_region_stages (Kept fun _ => False) (kept_refl _) (kept_trans _) [] [0, 1, 2, 3, 4, 5, 6, 7, 8, 9, 10] (by kernel_rfl) (by kernel_rfl) ?_
              simp only [selSt, sel, List.map_cons, List.map_nil, List.getD_cons_succ, List.getD_cons_zero]
              refine st_nil fun K hK => ?_
              repeat (go_big_quiet_step (fail))
              refine wpQuiet_nil (hK _ ?_)
              clear hK K
              go_wp2
              go_meet
              exact ⟨true, rfl, ⟨fun e => Bool.noConfusion e, fun h => absurd h HX.out⟩, (Kept.refl _ wr).drew⟩
            · have HX := Lib.hid (show ¬ (s.T j = t.T j) from fun e => by rw [h1, h2] at e; cases e)
              rw [h1] at f1
              rw [h2] at f2
              clear h1 h2
              have u1 := up_cell (F := fun _ => False) (w := wr.drew) (p := ⟨fb, fo + j, none⟩) f1 id
              have u2 := up_cell (F := fun _ => False) (w := wr.drew) (p := ⟨fb', fo' + j, none⟩) f2 id
              clear f1 f2
              refine wp_region_stages (Kept fun _ => False) (kept_refl _) (kept_trans _) [] [0, 1, 2, 3, 4, 5, 6, 7, 8, 9, 10] (by kernel_rfl) (by kernel_rfl) ?_
              simp only [selSt, sel, List.map_cons, List.map_nil, List.getD_cons_succ, List.getD_cons_zero]
              refine st_nil fun K hK => ?_
              repeat (go_big_quiet_step (fail))
              refine wpQuiet_nil (hK _ ?_)
              clear hK K
              go_wp2
              go_meet
              exact ⟨true, rfl, ⟨fun e => Bool.noConfusion e, fun h => absurd h HX.out⟩, (Kept.refl _ wr).drew⟩
            · have HX := Lib.hid (show s.T j = t.T j from h1.trans h2.symm)
              rw [h1] at f1
              rw [h2] at f2
              clear h1 h2
              have u1 := up_cell (F := fun _ => False) (w := wr.drew) (p := ⟨fb, fo + j, none⟩) f1 id
              have u2 := up_cell (F := fun _ => False) (w := wr.drew) (p := ⟨fb', fo' + j, none⟩) f2 id
              clear f1 f2
              refine wp_region_stages (Kept fun _ => False) (kept_refl _) (kept_trans _) [] [0, 1, 2, 3, 4, 5, 6, 7, 8, 9, 10] (by kernel_rfl) (by kernel_rfl) ?_
              simp only [selSt, sel, List.map_cons, List.map_nil, List.getD_cons_succ, List.getD_cons_zero]
              refine st_nil fun K hK => ?_
              repeat (go_big_quiet_step (fail))
              refine wpQuiet_nil (hK _ ?_)
              clear hK K
              go_wp2
              go_meet
              exact ⟨false, rfl, ⟨fun _ => HX.out, fun _ => rfl⟩, (Kept.refl _ wr).drew⟩
          case rest =>
            obtain ⟨b, rfl, hb, hgx⟩ := hcut
            have HGX := Lib.hid hgx
            clear hgx
            cases b with
            | true =>
              have HN : Hid (¬ s.same t) := fun h => by have := hb.2 (h.T j HJ.out); cases this
              have HGE : Hid (Grow w wc) := HG0.out.trans (HGR.out.trans HGX.out)
              clear hb
              go_wp2
              rw [HP.out]
              exact Tells.no HN.out HGE.out
            | false =>
              have HX := Lib.hid (hb.1 rfl)
              clear hb
              go_wp2
              go_roundg (gk - 1)
              case measure => have := HG.out; have := HJ.out; omega
              case rel => exact ⟨j + 1, by have := HG.out; have := HJ.out; omega, by go_num, HGR.out.trans HGX.out, fun i hi => by
                by_cases e : i = j
                · subst e; exact HX.out
                · exact HOK.out i (by omega)⟩
        · have HST : Hid (∀ i, i < s.nT → s.T i = t.T i) := fun i hi => HOK.out i (by have := HG.out; omega)
          obtain rfl : j = s.nT := by have := HG.out; omega
          have HJ0 := Lib.hid HGR.out
          clear hj HG HOK
          go_wp2
          clear x0
          go_loopg [6] s.nB (fun gx i wr => ∃ j : Nat, j + gx = s.nB ∧ i = .int .i64 (j : Int) ∧ Grow w0 wr ∧ ∀ i, i < j → s.B i = t.B i)
          case atStart => exact ⟨0, by omega, rfl, HJ0.out, fun i hi => absurd hi (Nat.not_lt_zero i)⟩
          case round =>
            clear HGR HJ0
            obtain ⟨j, hg, rfl, hgr, hok⟩ := hrel
            have HG := Lib.hid hg
            have HGR := Lib.hid hgr
            have HOK := Lib.hid hok
            clear hg hgr hok
            have x1 := (HB.out.grow HGR.out).cell 1
            simp only [List.getElem?_cons_zero, List.getElem?_cons_succ] at x1
            by_cases hj : j < s.nB
            · have hjz : (j : Int) < (s.nB : Int) := by omega
              have HJ := Lib.hid hj
              obtain rfl := HRE.out.1 (by omega)
              obtain rfl := HRE.out.2 (by have := HE.out.2; omega)
              have HGW : Hid (Grow w wr.drew) := (HG0.out.trans HGR.out).drew
              clear hj
              go_upto_region 11 with (fail)
              clear x1
              go_cut [71] from 59 to 71 (fun v wx => ∃ b : Bool, v = .bool b ∧ (b = false ↔ s.B j = t.B j) ∧ Grow wr wx)
              case first =>
                obtain ⟨A1, c1, r1, hs1⟩ := HR.out.1 j HJ.out
                obtain ⟨A2, c2, r2, hs2⟩ := HR.out.2 j (by have := HE.out.2; have := HJ.out; omega)
                have hcmp := str_eq (HBY.out.1 j HJ.out) (HBY.out.2 j (by have := HE.out.2; have := HJ.out; omega))
                have HS1 := Lib.hid hs1
                have HS2 := Lib.hid hs2
                have k1 := up_run (F := fun _ => False) (P := Try.prog) (w := wr.drew) fun w' hk => (sl_grow HS1.out (HGW.out.trans hk)).str 22 9 5 Try.underlying22 Try.underlying5 Try.underlying9 c1
                have k2 := up_run (F := fun _ => False) (P := Try.prog) (w := wr.drew) fun w' hk => (sl_grow HS2.out (HGW.out.trans hk)).str 22 9 5 Try.underlying22 Try.underlying5 Try.underlying9 c2
                have bz1 := up_cell (F := fun _ => False) (w := wr.drew) (p := ⟨m, 1, none⟩) ((HB.out.grow HGR.out.drew).cell 1) id
                have y1 := up_cell (F := fun _ => False) (w := wr.drew) (p := ⟨m + 1, 1, none⟩) ((HB2.out.grow HGR.out.drew).cell 1) id
                have u1 := up_cell (F := fun _ => False) (w := wr.drew) (p := ⟨rb, ro + j, none⟩) (HGW.out.cellN r1 id) id
                have u2 := up_cell (F := fun _ => False) (w := wr.drew) (p := ⟨rb', ro' + j, none⟩) (HGW.out.cellN r2 id) id
                have HX0 : Hid (s.B j = t.B j ∨ ¬ s.B j = t.B j) := Classical.em _
                generalize strOfNums (s.B j) = sx at k1 hcmp
                generalize strOfNums (t.B j) = sy at k2 hcmp
                generalize (s.B j).length = l1 at k1 u1 hs1
                generalize (t.B j).length = l2 at k2 u2 hs2
                rcases HX0.out with hX | hX
                · have heq : (sx.toList == sy.toList) = true := by rw [hcmp]; simp [hX]
                  have hne : (sx.toList != sy.toList) = false := by simp [bne, heq]
                  have HX := Lib.hid hX
                  clear hX hcmp r1 r2 hs1 hs2
                  refine wp_region_stages (Kept fun _ => False) (kept_refl _) (kept_trans _) [] [0, 1, 2, 3, 4, 5, 6, 7, 8, 9, 10, 11, 12] (by kernel_rfl) (by kernel_rfl) ?_
                  simp only [selSt, sel, List.map_cons, List.map_nil, List.getD_cons_succ, List.getD_cons_zero]
                  refine st_nil fun K hK => ?_
                  repeat (go_big_quiet_step (fail))
                  refine wpQuiet_nil (hK _ ?_)
                  clear hK K
                  go_wp2
                  go_meet
                  exact ⟨false, rfl, ⟨fun _ => HX.out, fun _ => rfl⟩, (Kept.refl _ wr).drew⟩
                · have heq : (sx.toList == sy.toList) = false := by rw [hcmp]; simp [hX]
                  have hne : (sx.toList != sy.toList) = true := by simp [bne, heq]
                  have HX := Lib.hid hX
                  clear hX hcmp r1 r2 hs1 hs2
                  refine wp_region_stages (Kept fun _ => False) (kept_refl _) (kept_trans _) [] [0, 1, 2, 3, 4, 5, 6, 7, 8, 9, 10, 11, 12] (by kernel_rfl) (by kernel_rfl) ?_
                  simp only [selSt, sel, List.map_cons, List.map_nil, List.getD_cons_succ, List.getD_cons_zero]
                  refine st_nil fun K hK => ?_
                  repeat (go_big_quiet_step (fail))
                  refine wpQuiet_nil (hK _ ?_)
                  clear hK K
                  go_wp2
                  go_meet
                  exact ⟨true, rfl, ⟨fun e => Bool.noConfusion e, fun h => absurd h HX.out⟩, (Kept.refl _ wr).drew⟩
              case rest =>
                obtain ⟨b, rfl, hb, hgx⟩ := hcut
                have HGX := Lib.hid hgx
                clear hgx
                cases b with
                | true =>
                  have HN : Hid (¬ s.same t) := fun h => by have := hb.2 (h.B j HJ.out); cases this
                  have HGE : Hid (Grow w wc) := HG0.out.trans (HGR.out.trans HGX.out)
                  clear hb
                  go_wp2
                  rw [HP.out]
                  exact Tells.no HN.out HGE.out
                | false =>
                  have HX := Lib.hid (hb.1 rfl)
                  clear hb
                  go_wp2
                  go_roundg (gk - 1)
                  case measure => have := HG.out; have := HJ.out; omega
                  case rel => exact ⟨j + 1, by have := HG.out; have := HJ.out; omega, by go_num, HGR.out.trans HGX.out, fun i hi => by
                    by_cases e : i = j
                    · subst e; exact HX.out
                    · exact HOK.out i (by omega)⟩
            · have HSB : Hid (∀ i, i < s.nB → s.B i = t.B i) := fun i hi => HOK.out i (by have := HG.out; omega)
              obtain rfl : j = s.nB := by have := HG.out; omega
              have HJ0 := Lib.hid HGR.out
              clear hj HG HOK
              go_wp2
              clear x1
              go_loopg [7] s.nH (fun gx i wr => ∃ j : Nat, j + gx = s.nH ∧ i = .int .i64 (j : Int) ∧ Grow w0 wr ∧ ∀ i, i < j → s.H i = t.H i)
              case atStart => exact ⟨0, by omega, rfl, HJ0.out, fun i hi => absurd hi (Nat.not_lt_zero i)⟩
              case round =>
                clear HGR HJ0
                obtain ⟨j, hg, rfl, hgr, hok⟩ := hrel
                have HG := Lib.hid hg
                have HGR := Lib.hid hgr
                have HOK := Lib.hid hok
                clear hg hgr hok
                have x2 := (HB.out.grow HGR.out).cell 2
                simp only [List.getElem?_cons_zero, List.getElem?_cons_succ] at x2
                by_cases hj : j < s.nH
                · have hjz : (j : Int) < (s.nH : Int) := by omega
                  have HJ := Lib.hid hj
                  obtain rfl := HQE.out.1 (by omega)
                  obtain rfl := HQE.out.2 (by have := HE.out.2; omega)
                  have HGW : Hid (Grow w wr.drew) := (HG0.out.trans HGR.out).drew
                  obtain ⟨A1, c1, r1, hs1⟩ := HQ.out.1 j HJ.out
                  obtain ⟨A2, c2, r2, hs2⟩ := HQ.out.2 j (by have := HE.out.2; have := HJ.out; omega)
                  have HS1 := Lib.hid hs1
                  have HS2 := Lib.hid hs2
                  obtain ⟨l1, hl1⟩ : ∃ l, l = (s.H j).length := ⟨_, rfl⟩
                  obtain ⟨l2, hl2⟩ : ∃ l, l = (t.H j).length := ⟨_, rfl⟩
                  have HL := Lib.hid (And.intro hl1 hl2)
                  have hl10 : (l1 : Int) ≤ 10 := by have := HFW.out.H j HJ.out; omega
                  rw [← hl1] at r1
                  rw [← hl2] at r2
                  have HR1 := Lib.hid (And.intro r1 r2)
                  clear hj hs1 hs2 hl1 hl2 r1 r2
                  go_upto_region 16 with (fail)
                  clear x2
                  go_cut [91] from 79 to 91 (fun v wx => ∃ b : Bool, v = .bool b ∧ (b = false ↔ l1 = l2) ∧ Grow wr wx)
                  case first =>
                    have bz2 := up_cell (F := fun _ => False) (w := wr.drew) (p := ⟨m, 2, none⟩) ((HB.out.grow HGR.out.drew).cell 2) id
                    have y2 := up_cell (F := fun _ => False) (w := wr.drew) (p := ⟨m + 1, 2, none⟩) ((HB2.out.grow HGR.out.drew).cell 2) id
                    have u1 := up_cell (F := fun _ => False) (w := wr.drew) (p := ⟨qb, qo + j, none⟩) (HGW.out.cellN HR1.out.1 id) id
                    have u2 := up_cell (F := fun _ => False) (w := wr.drew) (p := ⟨qb', qo' + j, none⟩) (HGW.out.cellN HR1.out.2 id) id
                    by_cases h : l1 = l2
                    · have HX := Lib.hid h
                      rw [h] at u1
                      clear h
                      refine wp_region_stages (Kept fun _ => False) (kept_refl _) (kept_trans _) [] [0, 1, 2, 3, 4, 5, 6, 7, 8, 9, 10, 11, 12] (by kernel_rfl) (by kernel_rfl) ?_
                      simp only [selSt, sel, List.map_cons, List.map_nil, List.getD_cons_succ, List.getD_cons_zero]
                      refine st_nil fun K hK => ?_
                      repeat (go_big_quiet_step (fail))
                      refine wpQuiet_nil (hK _ ?_)
                      clear hK K
                      go_wp2
                      go_meet
                      exact ⟨false, rfl, ⟨fun _ => HX.out, fun _ => rfl⟩, (Kept.refl _ wr).drew⟩
                    · have HX := Lib.hid h
                      have hz : ((l1 : Int) != (l2 : Int)) = true := by simp <;> omega
                      have hz2 : ((l1 : Int) == (l2 : Int)) = false := by simp <;> omega
                      have hz3 : ¬ (l1 : Int) = (l2 : Int) := by omega
                      clear h
                      refine wp_region_stages (Kept fun _ => False) (kept_refl _) (kept_trans _) [] [0, 1, 2, 3, 4, 5, 6, 7, 8, 9, 10, 11, 12] (by kernel_rfl) (by kernel_rfl) ?_
                      simp only [selSt, sel, List.map_cons, List.map_nil, List.getD_cons_succ, List.getD_cons_zero]
                      refine st_nil fun K hK => ?_
                      repeat (go_big_quiet_step (fail))
                      refine wpQuiet_nil (hK _ ?_)
                      clear hK K
                      go_wp2
                      go_meet
                      exact ⟨true, rfl, ⟨fun e => Bool.noConfusion e, fun h => absurd h HX.out⟩, (Kept.refl _ wr).drew⟩
                  case rest =>
                    obtain ⟨b, rfl, hb, hgx⟩ := hcut
                    have HGX := Lib.hid hgx
                    clear hgx
                    cases b with
                    | true =>
                      have HN : Hid (¬ s.same t) := fun h => by have := hb.2 (by rw [HL.out.1, HL.out.2, h.H j HJ.out]); cases this
                      have HGE : Hid (Grow w wc) := HG0.out.trans (HGR.out.trans HGX.out)
                      clear hb
                      go_wp2
                      rw [HP.out]
                      exact Tells.no HN.out HGE.out
                    | false =>
                      have hll := hb.1 rfl
                      subst hll
                      clear hb
                      have HGR1 : Hid (Grow w0 wc) := HGR.out.trans HGX.out
                      clear HGR HGX HGW
                      obtain ⟨go, rfl⟩ : ∃ go, go = gk := ⟨_, rfl⟩
                      go_wp2
                      go_loopg [8] l1 (fun gx i wr => ∃ q : Nat, q + gx = l1 ∧ i = .int .i64 (q : Int) ∧ Grow w0 wr ∧ ∀ y, y < q → (s.H j).getD y 0 = (t.H j).getD y 0)
                      case atStart => exact ⟨0, by omega, rfl, HGR1.out, fun i hi => absurd hi (Nat.not_lt_zero i)⟩
                      case round =>
                        clear HGR1
                        obtain ⟨q, hg2, rfl, hgr, hok2⟩ := hrel
                        have HG2 := Lib.hid hg2
                        have HGR := Lib.hid hgr
                        have HOK2 := Lib.hid hok2
                        clear hg2 hgr hok2
                        have HGW : Hid (Grow w wr) := HG0.out.trans HGR.out
                        have r1 := HGW.out.cellN HR1.out.1 id
                        have x2 := (HB.out.grow HGR.out).cell 2
                        simp only [List.getElem?_cons_zero, List.getElem?_cons_succ] at x2
                        by_cases hq : q < l1
                        · have hqz : (q : Int) < (l1 : Int) := by omega
                          have HQ1 := Lib.hid hq
                          obtain ⟨b1, o1, rfl, _, hc1⟩ := HS1.out.at_ (by have := HL.out.1; omega)
                          obtain ⟨b2, o2, rfl, _, hc2⟩ := HS2.out.at_ (by have := HL.out.2; omega)
                          have d1 := HGW.out.drew.cellN (hc1 q (by have := HL.out.1; omega)) id
                          have d2 := HGW.out.drew.cellN (hc2 q (by have := HL.out.2; omega)) id
                          clear hc1 hc2 hq
                          go_upto_region 21 with (fail)
                          clear x2 r1
                          go_cut [118] from 102 to 118 (fun v wx => ∃ b : Bool, v = .bool b ∧ (b = false ↔ (s.H j).getD q 0 = (t.H j).getD q 0) ∧ Grow wr wx)
                          case first =>
                            obtain ⟨z1, hz1⟩ : ∃ z, z = (s.H j).getD q 0 := ⟨_, rfl⟩
                            obtain ⟨z2, hz2⟩ : ∃ z, z = (t.H j).getD q 0 := ⟨_, rfl⟩
                            have HZ := Lib.hid (And.intro hz1 hz2)
                            rw [← hz1] at d1
                            rw [← hz2] at d2
                            clear hz1 hz2
                            have bz2 := up_cell (F := fun _ => False) (w := wr.drew) (p := ⟨m, 2, none⟩) ((HB.out.grow HGR.out.drew).cell 2) id
                            have y2 := up_cell (F := fun _ => False) (w := wr.drew) (p := ⟨m + 1, 2, none⟩) ((HB2.out.grow HGR.out.drew).cell 2) id
                            have u1 := up_cell (F := fun _ => False) (w := wr.drew) (p := ⟨qb, qo + j, none⟩) (HGW.out.drew.cellN HR1.out.1 id) id
                            have u2 := up_cell (F := fun _ => False) (w := wr.drew) (p := ⟨qb', qo' + j, none⟩) (HGW.out.drew.cellN HR1.out.2 id) id
                            have u3 := up_cell (F := fun _ => False) (w := wr.drew) (p := ⟨b1, o1 + q, none⟩) d1 id
                            have u4 := up_cell (F := fun _ => False) (w := wr.drew) (p := ⟨b2, o2 + q, none⟩) d2 id
                            clear d1 d2
                            by_cases h : z1 = z2
                            · have HX : Hid ((s.H j).getD q 0 = (t.H j).getD q 0) := HZ.out.1.symm.trans (h.trans HZ.out.2)
                              subst h
                              have hzz : (z1 != z1) = false := by simp
                              refine wp_region_stages (Kept fun _ => False) (kept_refl _) (kept_trans _) [] [0, 1, 2, 3, 4, 5, 6, 7, 8, 9, 10, 11, 12, 13, 14, 15, 16] (by kernel_rfl) (by kernel_rfl) ?_
                              simp only [selSt, sel, List.map_cons, List.map_nil, List.getD_cons_succ, List.getD_cons_zero]
                              refine st_nil fun K hK => ?_
                              repeat (go_big_quiet_step (fail))
                              refine wpQuiet_nil (hK _ ?_)
                              clear hK K
                              go_wp2
                              go_meet
                              exact ⟨false, rfl, ⟨fun _ => HX.out, fun _ => rfl⟩, (Kept.refl _ wr).drew⟩
                            · have HX : Hid (¬ (s.H j).getD q 0 = (t.H j).getD q 0) := fun e => h (HZ.out.1.trans (e.trans HZ.out.2.symm))
                              have hz : (z1 != z2) = true := by simp [h]
                              have hz2 : (z1 == z2) = false := by simp [h]
                              have hz3 : ¬ z1 = z2 := h
                              clear h
                              refine wp_region_stages (Kept fun _ => False) (kept_refl _) (kept_trans _) [] [0, 1, 2, 3, 4, 5, 6, 7, 8, 9, 10, 11, 12, 13, 14, 15, 16] (by kernel_rfl) (by kernel_rfl) ?_
                              simp only [selSt, sel, List.map_cons, List.map_nil, List.getD_cons_succ, List.getD_cons_zero]
                              refine st_nil fun K hK => ?_
                              repeat (go_big_quiet_step (fail))
                              refine wpQuiet_nil (hK _ ?_)
                              clear hK K
                              go_wp2
                              go_meet
                              exact ⟨true, rfl, ⟨fun e => Bool.noConfusion e, fun h => absurd h HX.out⟩, (Kept.refl _ wr).drew⟩
                          case rest =>
                            obtain ⟨b, rfl, hb, hgx⟩ := hcut
                            have HGX := Lib.hid hgx
                            clear hgx d1 d2
                            cases b with
                            | true =>
                              have HN : Hid (¬ s.same t) := fun h => by have := hb.2 (by rw [h.H j HJ.out]); cases this
                              have HGE : Hid (Grow w wc) := HG0.out.trans (HGR.out.trans HGX.out)
                              clear hb
                              go_wp2
                              rw [HP.out]
                              exact Tells.no HN.out HGE.out
                            | false =>
                              have HX := Lib.hid (hb.1 rfl)
                              clear hb
                              go_wp2
                              go_roundg (gk - 1)
                              case measure => have := HG2.out; have := HQ1.out; omega
                              case rel => exact ⟨q + 1, by have := HG2.out; have := HQ1.out; omega, by go_num, HGR.out.trans HGX.out, fun i hi => by
                                by_cases e : i = q
                                · subst e; exact HX.out
                                · exact HOK2.out i (by omega)⟩
                        · have HSJ : Hid (s.H j = t.H j) := getD_ext (HL.out.1.symm.trans HL.out.2) fun i hi => HOK2.out i (by have := HG2.out; have := HL.out.1; omega)
                          obtain rfl : q = l1 := by have := HG2.out; omega
                          clear hq HG2 HOK2
                          go_wp2
                          go_roundg (go - 1)
                          case measure => have := HG.out; have := HJ.out; omega
                          case rel => exact ⟨j + 1, by have := HG.out; have := HJ.out; omega, by go_num, HGR.out, fun i hi => by
                            by_cases e : i = j
                            · subst e; exact HSJ.out
                            · exact HOK.out i (by omega)⟩
                · have HSH : Hid (∀ i, i < s.nH → s.H i = t.H i) := fun i hi => HOK.out i (by have := HG.out; omega)
                  obtain rfl : j = s.nH := by have := HG.out; omega
                  have HGE : Hid (Grow w wr) := HG0.out.trans HGR.out
                  clear hj HG HOK
                  go_wp2
                  rw [HP.out]
                  exact Tells.yes ⟨HE.out.1, HE.out.2.1, HE.out.2.2, HST.out, HSB.out, HSH.out⟩ HGE.out
end
end Go.Proofs.Yteiodnclpbjbbaa.MdSame
