/-
  slices.BinarySearch and slices.Insert of ints, and package latch: risen.
-/
import Derived.Test.YtpdmncdbimdfaaaLatOwn
import Derived.Lib.Overlaps
import Derived.Laws.Externs
namespace Go.Proofs.Ytpdmncdbimdfaaa.LatI
open Go.ChangeShapes Go.WideShapes Go.ChangeAt Go.RowKit
open Go.Proofs.Ytpdmncdbimdfaaa.Mem Go.Proofs.Ytpdmncdbimdfaaa.Blk Go.Proofs.Ytpdmncdbimdfaaa.Cells Go.Proofs.Ytpdmncdbimdfaaa.GsC Go.Proofs.Ytpdmncdbimdfaaa.LatM Go.Proofs.Ytpdmncdbimdfaaa.LatC Go.Proofs.Ytpdmncdbimdfaaa.LatY Go.Proofs.Ytpdmncdbimdfaaa.LatZ Go.Proofs.Ytpdmncdbimdfaaa.LatO Go.Proofs.Ytpdmncdbimdfaaa.RetC Go.Proofs.Ytpdmncdbimdfaaa.Stages Go.Proofs.Ytpdmncdbimdfaaa.Trees

/-! ### BinarySearch -/
theorem countP_place (p : Int → Bool) : ∀ (l : List Int) (i : Nat), i ≤ l.length → (∀ j, j < i → p (l.getD j 0) = true) → (∀ j, i ≤ j → j < l.length → p (l.getD j 0) = false) → l.countP p = i
  | [], i, hi, _, _ => by
    have : i = 0 := by simpa using hi
    simp [this]
  | a :: r, 0, _, _, h2 => by
    rw [List.countP_eq_zero]
    intro x hx
    obtain ⟨j, hj, e⟩ := List.getElem_of_mem hx
    have := h2 j (Nat.zero_le _) hj
    rw [List.getD_eq_getElem?_getD, List.getElem?_eq_getElem hj, Option.getD_some, e] at this
    rw [this]; decide
  | a :: r, i + 1, hi, h1, h2 => by
    have ha : p a = true := by simpa using h1 0 (Nat.succ_pos _)
    have := countP_place p r i (by simpa using hi) (fun j hj => by simpa using h1 (j + 1) (by omega)) (fun j hij hj => by simpa using h2 (j + 1) (by omega) (by simpa using hj))
    rw [List.countP_cons_of_pos ha, this]
theorem place_at {zs : List Int} {x : Int} {i : Nat} (hi : i ≤ zs.length) (h1 : ∀ j, j < i → zs.getD j 0 < x) (h2 : ∀ j, i ≤ j → j < zs.length → x ≤ zs.getD j 0) : place zs x = i :=
  countP_place _ zs i hi (fun j hj => by simpa using h1 j hj) (fun j h3 h4 => by have := h2 j h3 h4; exact decide_eq_false (by omega))
theorem less_any {w : World} (x y : Int) : Calls Try.prog 33 #[.int .i64 x, .int .i64 y] w fun e w' => e = .returned (.bool (decide (x < y))) ∧ w = w' := by
  go_enter Try.func33, Try.ntmps33
  go_wp2
  go_ret
  exact ⟨rfl, rfl⟩
theorem isNaN_any {w : World} (x : Int) : Calls Try.prog 34 #[.int .i64 x] w fun e w' => e = .returned (.bool false) ∧ w = w' := by
  go_enter Try.func34, Try.ntmps34
  go_wp2
  go_ret
  exact ⟨by simp, rfl⟩
/-- What the search tells: the place (and whether it is taken). -/
def SearchP (zs : List Int) (x : Int) (w : World) (e : Ending) (w' : World) : Prop := (∃ b : Bool, e = .returned (.tuple #[.int .i64 ((place zs x : Nat) : Int), .bool b])) ∧ w = w'
theorem bsearch_any {w : World} (A : Option Addr) (c B n : Nat) (zs : List Int) (x : Int) (hn : n ≤ 100000) (h : Sl w B .i64 A n zs) (hu : Up zs) :
    Calls Try.prog 31 #[.slice A n c, .int .i64 x] w (SearchP zs x w) := by
  have H := Lib.hid h
  have HL := Lib.hid h.len
  have HU := Lib.hid hu
  have hnz : (n : Int) ≤ 100000 := by omega
  have HX : Hid (∀ i, i ≤ n → (∀ j, j < i → zs.getD j 0 < x) → (∀ j, i ≤ j → j < n → x ≤ zs.getD j 0) → place zs x = i) := fun i hi h1 h2 => place_at (by rw [HL.out]; exact hi) h1 (fun j h3 h4 => h2 j h3 (by rw [HL.out] at h4; exact h4))
  have HM : Hid (∀ a b, a ≤ b → b < n → zs.getD a 0 ≤ zs.getD b 0) := fun a b hab hb => by
    rcases Nat.eq_or_lt_of_le hab with rfl | hlt
    · exact Int.le_refl _
    · exact Int.le_of_lt (up_get HU.out hlt (by rw [HL.out]; exact hb))
  clear h hu
  go_enter Try.func31, Try.ntmps31
  go_wp2
  go_loopg [7, 8] n (fun g s7 s8 wr => ∃ lo hi : Nat, s7 = .int .i64 (lo : Int) ∧ s8 = .int .i64 (hi : Int) ∧ lo ≤ hi ∧ hi ≤ n ∧ hi - lo ≤ g ∧ (∀ t, t < lo → zs.getD t 0 < x) ∧ (∀ t, hi ≤ t → t < n → x ≤ zs.getD t 0) ∧ w = wr)
  case atStart => exact ⟨0, n, rfl, rfl, Nat.zero_le _, Nat.le_refl _, by omega, fun t ht => absurd ht (Nat.not_lt_zero _), fun t h1 h2 => by omega, rfl⟩
  case round =>
    obtain ⟨lo, hi, rfl, rfl, hlh, hin, hg, h1, h2, rfl⟩ := hrel
    have I1 := Lib.hid h1
    have I2 := Lib.hid h2
    clear h1 h2
    by_cases hlt : lo < hi
    · obtain ⟨b, o, rfl, _, hc⟩ := H.out.at_ (by omega)
      have cm := hc ((lo + hi) / 2) (by omega)
      have hltz : (lo : Int) < (hi : Int) := by omega
      have hinz : (hi : Int) ≤ (n : Int) := by omega
      clear hc
      generalize hy : zs.getD ((lo + hi) / 2) 0 = y at cm
      have Y := Lib.hid hy
      clear hy
      by_cases hyx : y < x
      · go_wp2_with (go_at_call 33; (with_reducible refine (less_any _ _).mono ?_); rintro e w' ⟨rfl, rfl⟩)
        go_roundg (hi - ((lo + hi) / 2 + 1))
        case measure => omega
        case rel =>
          refine ⟨(lo + hi) / 2 + 1, hi, by rw [show ((lo : Int) + (hi : Int)) / 2 + 1 = (((lo + hi) / 2 + 1 : Nat) : Int) by omega], rfl, by omega, hin, Nat.le_refl _, fun t ht => ?_, I2.out, rfl⟩
          have := HM.out t ((lo + hi) / 2) (by omega) (by omega)
          rw [Y.out] at this
          omega
      · have hyx' : x ≤ y := by omega
        go_wp2_with (go_at_call 33; (with_reducible refine (less_any _ _).mono ?_); rintro e w' ⟨rfl, rfl⟩)
        go_roundg ((lo + hi) / 2 - lo)
        case measure => omega
        case rel =>
          refine ⟨lo, (lo + hi) / 2, rfl, by rw [show ((lo : Int) + (hi : Int)) / 2 = (((lo + hi) / 2 : Nat) : Int) by omega], by omega, by omega, Nat.le_refl _, I1.out, fun t ht htn => ?_, rfl⟩
          have := HM.out ((lo + hi) / 2) t ht htn
          rw [Y.out] at this
          omega
    · obtain rfl : hi = lo := by omega
      have HP := Lib.hid (HX.out hi hin I1.out I2.out)
      by_cases hn' : hi < n
      · obtain ⟨b, o, rfl, _, hc⟩ := H.out.at_ (by omega)
        have cl := hc hi hn'
        have hnz' : (hi : Int) < (n : Int) := by omega
        clear hc
        generalize zs.getD hi 0 = y at cl
        by_cases hyx : y = x
        · have e1 : (y == x) = true := beq_iff_eq.2 hyx
          go_wp2_with (go_at_call 34; (with_reducible refine (isNaN_any _).mono ?_); rintro e w' ⟨rfl, rfl⟩)
          go_ret2
          exact ⟨⟨_, by rw [HP.out]; rfl⟩, rfl⟩
        · have e1 : (y == x) = false := beq_eq_false_iff_ne.2 hyx
          go_wp2_with (go_at_call 34; (with_reducible refine (isNaN_any _).mono ?_); rintro e w' ⟨rfl, rfl⟩)
          go_ret2
          exact ⟨⟨_, by rw [HP.out]; rfl⟩, rfl⟩
      · have hnz' : ¬ (hi : Int) < (n : Int) := by omega
        go_wp2
        go_ret2
        exact ⟨⟨_, by rw [HP.out]; rfl⟩, rfl⟩

/-! ### Insert -/
/-- A slice of the call's own, and what it may have been made of. -/
def GsP (w : World) (A : Option Addr) (c n : Nat) (zs : List Int) (e : Ending) (w' : World) : Prop :=
  ∃ A' c', e = .returned (.slice A' n c') ∧ Gs w' A' n c' zs ∧ Kept (blk A c) w w' ∧ ∀ k, blk A' c' k → blk A c k ∨ w.heap.size ≤ k
theorem sizeI : (Try.prog.info? 3).map (·.size) = some 1 := by kernel_rfl
theorem zI : ∀ w, (Go.sizeOf 3).run Try.prog w = .ok 1 w := by
  obtain ⟨i, hi, hz, hsz, hby⟩ := info_parts infoI
  intro w
  simp [sizeOf, typeInfo, hi, hsz]
/-- The cells behind an insertion, place by place. -/
theorem ins_get (zs : List Int) (i : Nat) (x : Int) (hi : i ≤ zs.length) (j : Nat) (hj : j < zs.length + 1) :
    (zs.take i ++ x :: zs.drop i).getD j 0 = if j < i then zs.getD j 0 else if j = i then x else zs.getD (j - 1) 0 := by
  have hl : (zs.take i).length = i := by rw [List.length_take]; omega
  by_cases h1 : j < i
  · rw [if_pos h1, List.getD_eq_getElem?_getD, List.getElem?_append_left (by omega), List.getElem?_take, if_pos h1, ← List.getD_eq_getElem?_getD]
  · rw [if_neg h1, List.getD_eq_getElem?_getD, List.getElem?_append_right (by omega), hl]
    by_cases h2 : j = i
    · subst h2
      rw [if_pos rfl, Nat.sub_self]; rfl
    · rw [if_neg h2, show j - i = (j - i - 1) + 1 by omega, List.getElem?_cons_succ, List.getElem?_drop, ← List.getD_eq_getElem?_getD, show i + (j - i - 1) = j - 1 by omega]

section
variable {w : World} {A : Option Addr} {n c i vb : Nat} {zs : List Int} {x : Int}
theorem insert_end (h : Gs w A n c zs) (hn : n ≤ 100000) (hx : w.cell? ⟨vb, 0, none⟩ = some (.int .i64 x)) :
    Calls Try.prog 32 #[.slice A n c, .int .i64 (n : Int), .slice (some ⟨vb, 0, none⟩) 1 1] w (GsP w A c (n + 1) (zs ++ [x])) := by
  have HA := Lib.hid fun (ty : TypeId) => append_gs ty h (by omega) vb x hx
  have hle := h.le
  have hmax := h.max
  unfold maxLen at hmax
  clear h
  generalize hQ : GsP w A c (n + 1) (zs ++ [x]) = Q
  have HQ := Lib.hid hQ
  clear hQ
  go_enter Try.func32, Try.ntmps32
  obtain ⟨A', c', w', hr, hg, hk, hb⟩ := HA.out 23
  have HR := Lib.hid hr
  have HG := Lib.hid hg
  have HK := Lib.hid hk
  have HB := Lib.hid hb
  clear hr hg hk hb HA
  go_wp2_with (at_builtin; refine Lib.wpList_append_run _ rfl _ _ _ _ rfl _ _ rfl rfl _ _ HR.out ?_)
  all_goals
    rw [← HQ.out]
    exact ⟨A', c', rfl, HG.out, HK.out, HB.out⟩

theorem insert_room (h : Gs w A n c zs) (hn : n ≤ 100000) (hi : i < n) (hc : n < c) (hx : NBlk w vb 3 .i64 [x]) (hne : ¬ blk A c vb) :
    Calls Try.prog 32 #[.slice A n c, .int .i64 (i : Int), .slice (some ⟨vb, 0, none⟩) 1 1] w (GsP w A c (n + 1) (zs.take i ++ x :: zs.drop i)) := by
  obtain ⟨b, off, f, rfl, hrow, hf⟩ := h.row (by omega)
  have hvb : vb ≠ b := fun e => hne (blk_some.2 ⟨by omega, e.symm⟩)
  have hmax := h.max
  have hlz := h.len
  unfold maxLen at hmax
  obtain ⟨cur, t, hg, hcs, _⟩ := hrow
  have hsb : w.shape? b = some (t, cur.size) := by unfold World.shape?; rw [hg]
  have hsa : w.shape? vb = some (3, 1) := by
    have : w.heap[vb]? = some (.cells #[.int .i64 x] 3 (0, 0)) := hx
    unfold World.shape?; rw [this]; rfl
  have hov : ∀ lb cb, (callFunc 35 #[.slice (some ⟨vb, 0, none⟩) 1 1, .slice (some ⟨b, off + (i + 1), none⟩) lb cb]).run Try.prog w = .ok (.value (.bool false)) w := fun lb cb => by
    rw [run_callFunc_extern Try.func35 (by kernel_rfl) (by kernel_rfl) (by kernel_rfl) (e := Extern.SlicesOverlaps.overlaps #[23, 23] #[4]) (by kernel_rfl),
      Lib.run_overlaps_apart w 23 4 3 Try.underlying23 1 zI ⟨vb, 0, none⟩ ⟨b, off + (i + 1), none⟩ 1 1 lb cb hvb _ _ _ _ hsa hsb (by omega) (hx.frozen 0) (hx.frozen 1)]
    rfl
  have hrow : Row w b (off + c) f := ⟨cur, t, hg, hcs, by assumption⟩
  have hsz := sizeI
  -- the cells from i on go up by one
  obtain ⟨w1, hcp1, hr1, hk1⟩ := copy_row (P := Try.prog) (w := w.drew) 23 23 3 Try.underlying23 hsz hrow (off + (i + 1)) (n - i) ⟨b, off + i, none⟩ (n + 1 - i) (m := n - i) (u := fun j => f (off + (i + j))) (by simp only [Nat.min_def]; split <;> omega) (by omega)
    (fun j hj => by rw [add_off, Nat.add_assoc]; exact hrow.cell (by omega)) (fun j hj => by rw [hf (i + j) (by omega)]; rfl)
  have hx1 : w1.cell? ⟨vb, 0, none⟩ = some (.int .i64 x) := hk1.cellN (w := w.drew) (p := ⟨vb, 0, none⟩) (NBlk.at_ hx (j := 0) (by simp)) (fun e => hvb e)
  obtain ⟨w2, hcp2, hr2, hk2⟩ := copy_row (P := Try.prog) (w := w1) 23 23 3 Try.underlying23 hsz hr1 (off + i) (n + 1 - i) ⟨vb, 0, none⟩ 1 (m := 1) (u := fun _ => .int .i64 x) (by simp only [Nat.min_def]; split <;> omega) (by omega)
    (fun j hj => by
      have : j = 0 := by omega
      subst this
      exact hx1) (fun _ _ => rfl)
  have HFIN : Hid (GsP w (some ⟨b, off, none⟩) c (n + 1) (zs.take i ++ x :: zs.drop i) (.returned (.slice (some ⟨b, off, none⟩) (n + 1) c)) w2) := by
    refine ⟨_, c, rfl, ⟨by simp; omega, hc, h.max, fun _ => ⟨b, off, _, rfl, hr2, fun j hj => ?_⟩⟩, ((Kept.drew' w).trans (hk1.trans hk2)).mono fun k _ e => blk_some.2 ⟨by omega, e.symm⟩, fun k hk => .inl hk⟩
    rw [ins_get zs i x (by omega) j (by omega)]
    unfold laid
    by_cases e1 : j < i
    · rw [if_pos e1, if_neg (by omega), if_neg (by omega)]
      exact hf j (by omega)
    · rw [if_neg e1]
      by_cases e2 : j = i
      · rw [if_pos e2, if_pos (by omega)]
      · rw [if_neg e2, if_neg (by omega), if_pos (by omega)]
        dsimp only
        rw [show off + (i + (off + j - (off + (i + 1)))) = off + (j - 1) by omega]
        exact hf (j - 1) (by omega)
  generalize hQ : GsP w (some ⟨b, off, none⟩) c (n + 1) (zs.take i ++ x :: zs.drop i) = Q at *
  have hw1 : IntKind.i64.wrap ((i : Int) + 1) = (i : Int) + 1 := by rw [IntKind.wrap_i64]; omega
  have hb1 : (0 : Int) ≤ (i : Int) + 1 := by omega
  have htn : ((i : Int) + 1).toNat = i + 1 := by omega
  have htm : ((n : Int) + 1).toNat = n + 1 := by omega
  have hb2 : ¬ (c = i + 1) := by omega
  have hb3 : (i : Int) ≤ (n : Int) + 1 := by omega
  have hb4 : ¬ (c = i) := by omega
  have hb5 : (n : Int) + 1 ≤ (c : Int) := by omega
  have hz2 : ((i : Int) == (n : Int)) = false := beq_eq_false_iff_ne.2 (by omega)
  have HK1 := Lib.hid hk1
  clear hQ hrow hg hcs hf hr1 hr2 hk1 hk2 hx1 hsb hsa h hx hlz
  go_enter Try.func32, Try.ntmps32
  go_upto_region 15 with (simp only [hov])
  refine wp_region_stages (Kept fun k => k = b) (kept_refl _) (kept_trans _) [([0, 1, 2, 3, 4, 5, 6, 7], 8)] [] (by kernel_rfl) (by kernel_rfl) ?_
  simp only [selSt, sel, List.map_cons, List.map_nil, List.getD_cons_succ, List.getD_cons_zero]
  refine st_cons fun K1 hK1 => ?_
  repeat (go_big_quiet_step (fail))
  refine wpQuiet_nil ?_
  go_wp2
  refine norm_up (hK1 _ _ HK1.out (st_nil fun K2 hK2 => ?_))
  refine wpQuiet_nil (hK2 _ ?_)
  go_wp2
  exact HFIN.out
end
end Go.Proofs.Ytpdmncdbimdfaaa.LatI
