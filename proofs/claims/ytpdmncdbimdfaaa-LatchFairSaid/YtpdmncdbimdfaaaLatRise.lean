/-
  slices.Insert of ints where there is no room, and package latch: risen.
-/
import Derived.Test.YtpdmncdbimdfaaaLatIns
namespace Go.Proofs.Ytpdmncdbimdfaaa.LatR
open Go.ChangeShapes Go.WideShapes Go.ChangeAt Go.RowKit
open Go.Proofs.Ytpdmncdbimdfaaa.Mem Go.Proofs.Ytpdmncdbimdfaaa.Blk Go.Proofs.Ytpdmncdbimdfaaa.Cells Go.Proofs.Ytpdmncdbimdfaaa.GsC Go.Proofs.Ytpdmncdbimdfaaa.LatM Go.Proofs.Ytpdmncdbimdfaaa.LatC Go.Proofs.Ytpdmncdbimdfaaa.LatY Go.Proofs.Ytpdmncdbimdfaaa.LatZ Go.Proofs.Ytpdmncdbimdfaaa.LatO Go.Proofs.Ytpdmncdbimdfaaa.LatI Go.Proofs.Ytpdmncdbimdfaaa.RetC Go.Proofs.Ytpdmncdbimdfaaa.Stages Go.Proofs.Ytpdmncdbimdfaaa.Trees

section
variable {w : World} {A : Option Addr} {n c i vb : Nat} {zs : List Int} {x : Int}
/-- 'append(s[:i], make([]int, k)...)' without room. -/
theorem append_zeros {b off k : Nat} (h : ∀ j, j < i → w.cell? ⟨b, off + j, none⟩ = some (.int .i64 (zs.getD j 0))) (hz : i ≤ zs.length) (hk : 0 < k) (hik : i + k ≤ 1000000) (hc : c < i + k) :
    ∃ G w1 f, (∀ ty, (Builtin.append_ #[23, 3] ty #[.slice (some ⟨b, off, none⟩) i c, .int .i64 (k : Int)]).run Try.prog w = .ok (.slice (some ⟨w.heap.size, 0, none⟩) (i + k) G) w1) ∧ Row w1 w.heap.size G f ∧ (∀ j, j < i → f j = .int .i64 (zs.getD j 0)) ∧ i + k ≤ G ∧ G ≤ maxLen ∧ Grow w w1 := by
  obtain ⟨ti, hi, hz0, hsz, hby⟩ := info_parts infoI
  have hl : ((zs.take i).map (Value.int .i64)).length = i := by rw [List.length_map, List.length_take]; omega
  have hold : (Builtin.firstCells ti.size i (.slice (some ⟨b, off, none⟩) i c)).run Try.prog w.drew = .ok ((zs.take i).map (Value.int .i64)).toArray w.drew := by
    rw [hsz]
    exact run_firstCells_some w.drew 1 i ⟨b, off, none⟩ i c _ (by rw [hl, Nat.mul_one]) (fun j v hj => by
      have hji : j < i := by
        have := (List.getElem?_eq_some_iff.1 hj).1
        rwa [hl] at this
      rw [add_off]
      show w.cell? _ = _
      rw [h j hji, ← hj]
      simp [List.getD_eq_getElem?_getD, hji, List.getElem?_eq_getElem (show j < zs.length by omega)])
  have hge := grownCap_ge w (i + k) c 3
  have hle := grownCap_le_maxLen w (i + k) c 3 (by unfold maxLen; omega)
  have hr := fun ty => Lib.run_append_grow_zeros (P := Try.prog) w 23 3 ty 3 ti (.int .i64 0) .i64 .i64 Try.underlying23 Try.underlying3 hi hz0 (some ⟨b, off, none⟩) i c _ hold k hk (by omega) hc (by omega) (by rw [hby]; omega) (growslice_fits hc (by rw [hby]; omega))
  generalize grownCap w (i + k) c 3 = G at *
  refine ⟨G, _, fun j => (((((zs.take i).map (Value.int .i64)).toArray ++ Builtin.zeroCells (Value.int .i64 0).cells k ++ Builtin.zeroCells (Value.int .i64 0).cells (G - (i + k)))[j]?).getD (.bool false)), hr, ⟨_, _, heap_alloc_new w.drew _, ?_, fun j hj => ?_⟩, fun j hj => ?_, hge, hle, (Kept.drew' w).alloc _⟩
  · simp only [Array.size_append, size_zeroCells, List.size_toArray, hl]
    show _ ≤ i + k * 1 + (G - (i + k)) * 1
    omega
  · have hlt : j < (((zs.take i).map (Value.int .i64)).toArray ++ Builtin.zeroCells (Value.int .i64 0).cells k ++ Builtin.zeroCells (Value.int .i64 0).cells (G - (i + k))).size := by
      simp only [Array.size_append, size_zeroCells, List.size_toArray, hl]
      show j < i + k * 1 + (G - (i + k)) * 1
      omega
    dsimp only
    rw [Array.getElem?_eq_getElem hlt]
    rfl
  · show ((_ : Option Value)).getD _ = _
    rw [Array.append_assoc, Array.getElem?_append_left (by rw [List.size_toArray, hl]; exact hj), List.getElem?_toArray]
    simp [hj, List.getD_eq_getElem?_getD, List.getElem?_eq_getElem (show j < zs.length by omega)]

theorem insert_grow (h : Gs w A n n zs) (hn : n ≤ 100000) (hi : i < n) (hx : NBlk w vb 3 .i64 [x]) (hne : ¬ blk A n vb) :
    Calls Try.prog 32 #[.slice A n n, .int .i64 (i : Int), .slice (some ⟨vb, 0, none⟩) 1 1] w (GsP w A n (n + 1) (zs.take i ++ x :: zs.drop i)) := by
  obtain ⟨b, off, f, rfl, hrow, hf⟩ := h.row (by omega)
  have hlz := h.len
  have hcz : ∀ j, j < n → w.cell? ⟨b, off + j, none⟩ = some (.int .i64 (zs.getD j 0)) := fun j hj => by rw [hrow.cell (by omega), hf j hj]
  have hvlt := Blk.lt hx
  have hblt := hrow.lt
  obtain ⟨G, w1, f0, hap, hr0, hf0, hG1, hG2, hg1⟩ := append_zeros (w := w) (b := b) (off := off) (c := n) (k := n + 1 - i) (i := i) (zs := zs) (fun j hj => hcz j (by omega)) (by omega) (by omega) (by omega) (by omega)
  rw [show i + (n + 1 - i) = n + 1 by omega] at hap hG1
  have hsz := sizeI
  obtain ⟨w2, hcp1, hr1, hk1⟩ := copy_row (P := Try.prog) (w := w1) 23 23 3 Try.underlying23 hsz hr0 i (n + 1 - i) ⟨vb, 0, none⟩ 1 (m := 1) (u := fun _ => .int .i64 x) (by simp only [Nat.min_def]; split <;> omega) (by omega)
    (fun j hj => by
      have : j = 0 := by omega
      subst this
      exact hg1.cellN (NBlk.at_ hx (j := 0) (by simp)) id) (fun _ _ => rfl)
  obtain ⟨w3, hcp2, hr2, hk2⟩ := copy_row (P := Try.prog) (w := w2.drew) 23 23 3 Try.underlying23 hsz hr1 (i + 1) (n - i) ⟨b, off + i, none⟩ (n - i) (m := n - i) (u := fun j => .int .i64 (zs.getD (i + j) 0)) (by simp only [Nat.min_def]; split <;> omega) (by omega)
    (fun j hj => by
      rw [add_off, Nat.add_assoc]
      exact hk1.cellN (hg1.cellN (hcz (i + j) (by omega)) id) (fun e => by have e : b = w.heap.size := e; omega)) (fun _ _ => rfl)
  have HFIN : Hid (GsP w (some ⟨b, off, none⟩) n (n + 1) (zs.take i ++ x :: zs.drop i) (.returned (.slice (some ⟨w.heap.size, 0, none⟩) (n + 1) G)) w3) := by
    refine ⟨_, G, rfl, ⟨by simp; omega, hG1, hG2, fun _ => ⟨w.heap.size, 0, _, rfl, by rw [Nat.zero_add]; exact hr2, fun j hj => ?_⟩⟩, ?_, fun k hk => .inr (by have := (blk_some.1 hk).2; omega)⟩
    · rw [ins_get zs i x (by omega) j (by omega), Nat.zero_add]
      unfold laid
      by_cases e1 : j < i
      · rw [if_pos e1, if_neg (by omega), if_neg (by omega)]
        exact hf0 j (by omega)
      · rw [if_neg e1]
        by_cases e2 : j = i
        · rw [if_pos e2, if_neg (by omega), if_pos (by omega)]
        · rw [if_neg e2, if_pos (by omega)]
          dsimp only
          rw [show i + (j - (i + 1)) = j - 1 by omega]
    · exact (Grow.kept hg1).then ((hk1.trans (Kept.drew' w2)).trans hk2) fun k hk e => by have e : k = w.heap.size := e; omega
  generalize hQ : GsP w (some ⟨b, off, none⟩) n (n + 1) (zs.take i ++ x :: zs.drop i) = Q at *
  have HK2 := Lib.hid hk2
  have hw1 : IntKind.i64.wrap ((i : Int) + 1) = (i : Int) + 1 := by rw [IntKind.wrap_i64]; omega
  have hb1 : (0 : Int) ≤ (i : Int) + 1 := by omega
  have htn : ((i : Int) + 1).toNat = i + 1 := by omega
  have hkk : (n : Int) + 1 - (i : Int) = ((n + 1 - i : Nat) : Int) := by omega
  rw [← hkk] at hap
  have hb2 : ¬ (G = i + 1) := by omega
  have hb3 : (i : Int) ≤ (n : Int) + 1 := by omega
  have hb4 : ¬ (G = i) := by omega
  have hb5 : ¬ (n = i) := by omega
  have hG2' : G ≤ 9223372036854775807 := by unfold maxLen at hG2; omega
  have hz2 : ((i : Int) == (n : Int)) = false := beq_eq_false_iff_ne.2 (by omega)
  clear hQ hrow hf hr0 hr1 hr2 hk1 hk2 hf0 hG2 hg1 hcz hvlt hblt h hx hlz hkk
  go_enter Try.func32, Try.ntmps32
  go_upto_region 11 with (at_builtin; refine Lib.wpList_append_run _ rfl _ _ _ _ rfl _ _ rfl rfl _ _ (hap _) ?_)
  refine wp_region_stages (Kept fun k => k = w.heap.size) (kept_refl _) (kept_trans _) [([0, 1, 2, 3, 4, 5, 6, 7], 8)] [] (by kernel_rfl) (by kernel_rfl) ?_
  simp only [selSt, sel, List.map_cons, List.map_nil, List.getD_cons_succ, List.getD_cons_zero]
  refine st_cons fun K1 hK1 => ?_
  repeat (go_big_quiet_step (fail))
  refine wpQuiet_nil ?_
  go_wp2
  refine norm_up (hK1 _ _ HK2.out (st_nil fun K2 hK2 => ?_))
  refine wpQuiet_nil (hK2 _ ?_)
  go_wp2
  exact HFIN.out

theorem insert_any (h : Gs w A n c zs) (hn : n ≤ 100000) (hi : i ≤ n) (hx : NBlk w vb 3 .i64 [x]) (hne : ¬ blk A c vb) :
    Calls Try.prog 32 #[.slice A n c, .int .i64 (i : Int), .slice (some ⟨vb, 0, none⟩) 1 1] w (GsP w A c (n + 1) (zs.take i ++ x :: zs.drop i)) := by
  rcases Nat.lt_or_eq_of_le hi with h1 | rfl
  · rcases Nat.lt_or_eq_of_le h.le with h2 | rfl
    · exact insert_room h hn h1 h2 hx hne
    · exact insert_grow h hn h1 hx hne
  · have := insert_end (x := x) h hn (NBlk.at_ hx (j := 0) (by simp))
    rwa [List.take_of_length_le (Nat.le_of_eq h.len), List.drop_of_length_le (Nat.le_of_eq h.len)]

/-! ### risen -/
theorem risen_any (h : Gs w A n c zs) (hn : n ≤ 100000) (hu : Up zs) (t : Int) :
    Calls Try.prog 28 #[.slice A n c, .int .i64 t] w (GsP w A c (n + 1) (ins zs t)) := by
  have HS := Lib.hid fun (w' : World) (hs : Sl w' w'.heap.size .i64 A n zs) => bsearch_any A c _ n zs t hn hs hu
  have H := Lib.hid h
  have HI := Lib.hid (insert_any (w := w.alloc (.cells #[.int .i64 t] 3)) (A := A) (c := c) (i := place zs t) (vb := w.heap.size) (x := t) (h.grow ((Kept.refl _ w).alloc _)) hn (by have := place_le (R := zs) (t := t); have := h.len; omega) (NBlk.new w 3 .i64 [t]) (fun hk => by have := h.lt hk; omega))
  have HSZ : Hid ((w.alloc (.cells #[.int .i64 t] 3)).heap.size = w.heap.size + 1) := by show _ = _; simp
  have HKA : Hid (Grow w (w.alloc (.cells #[.int .i64 t] 3))) := (Kept.refl _ w).alloc _
  generalize hQ : GsP w A c (n + 1) (ins zs t) = Q
  have HQ := Lib.hid hQ
  clear hQ h
  go_enter Try.func28, Try.ntmps28
  go_wp2_with (first
    | (go_at_call 31; (with_reducible refine (HS.out _ (H.out.sl (Nat.le_refl _))).mono ?_); rintro e w' ⟨⟨b, rfl⟩, rfl⟩)
    | (go_at_call 32; (with_reducible refine HI.out.mono ?_); rintro e w2 ⟨A', c', rfl, hg, hk, hb⟩; have HG := Lib.hid hg; have HK := Lib.hid hk; have HB := Lib.hid hb; clear hg hk hb))
  rw [← HQ.out]
  refine ⟨A', c', rfl, HG.out, (Grow.kept HKA.out).trans HK.out, fun k hk => ?_⟩
  rcases HB.out k hk with h | h
  · exact .inl h
  · exact .inr (by have := HSZ.out; omega)
end
end Go.Proofs.Ytpdmncdbimdfaaa.LatR
