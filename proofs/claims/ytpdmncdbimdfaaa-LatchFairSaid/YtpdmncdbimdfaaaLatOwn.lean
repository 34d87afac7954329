/-
  slices.Clone of ints, and package latch: own.
-/
import Derived.Test.YtpdmncdbimdfaaaLatWait
import Derived.Test.YtpdmncdbimdfaaaTrees
import Derived.Test.YtpdmncdbimdfaaaRet
namespace Go.Proofs.Ytpdmncdbimdfaaa.LatO
open Go.ChangeShapes Go.WideShapes Go.ChangeAt Go.RowKit
open Go.Proofs.Ytpdmncdbimdfaaa.Mem Go.Proofs.Ytpdmncdbimdfaaa.Blk Go.Proofs.Ytpdmncdbimdfaaa.Cells Go.Proofs.Ytpdmncdbimdfaaa.GsC Go.Proofs.Ytpdmncdbimdfaaa.LatM Go.Proofs.Ytpdmncdbimdfaaa.LatC Go.Proofs.Ytpdmncdbimdfaaa.LatY Go.Proofs.Ytpdmncdbimdfaaa.LatZ Go.Proofs.Ytpdmncdbimdfaaa.RetC Go.Proofs.Ytpdmncdbimdfaaa.Stages Go.Proofs.Ytpdmncdbimdfaaa.Trees

section
variable {w : World} {base n m c B : Nat} {v : Value} {A : Option Addr} {zs ys : List Int}
/-- 'append(out, s...)', out a row of the call's own, s empty or not. -/
theorem append_sl (ty : TypeId) (hown : w.ownsRow base 3 1 v n (ys.map (Value.int .i64))) (hs : Sl w B .i64 A m zs) (hn : n + m ≤ 1000000) (hb : base ≤ w.heap.size) :
    ∃ v' w', (Builtin.append_ #[23, 23] ty #[v, .slice A m c]).run Try.prog w = .ok v' w' ∧ w'.ownsRow base 3 1 v' (n + m) ((ys ++ zs).map (Value.int .i64)) ∧ Below base w w' := by
  obtain ⟨i, hi, hz, hsz, hby⟩ := info_parts infoI
  rcases Nat.eq_zero_or_pos m with rfl | hm
  · have hz0 : zs = [] := List.eq_nil_of_length_eq_zero hs.len
    subst hz0
    refine ⟨v, w, ?_, by simpa using hown, Below.refl _ _⟩
    have hsrc : Src Try.prog i.size 23 (.slice A 0 c) 0 [] w := by
      cases A with
      | none => exact Src.ofNil w Try.underlying23 c
      | some a => exact Src.ofSlice w Try.underlying23 a 0 c [] (by simp) (fun j u h => by simp at h) (fun u h => by cases h)
    obtain ⟨A', c', rfl, hg, _⟩ := Gs.of_own hown
    have hle := hg.le
    cases A' <;> simp [Builtin.append_, run_underlying Try.underlying23, sizeOf, typeInfo, hi, hsrc.len, hle, hsrc.cells, storeCells]
  · obtain ⟨b, off, rfl, _, hc⟩ := hs.at_ hm
    obtain ⟨g, cap, w', hr, h2, h3, _, _⟩ := run_append_lies (P := Try.prog) w 23 ty base 3 i (.int .i64 0) 1 8 Try.underlying23 hi hz hsz hby rfl (by decide) v n _ hown ⟨b, off, none⟩ m c (zs.map (Value.int .i64)) (by rw [List.length_map, hs.len, Nat.mul_one])
      (fun j u hj => by
        have hjn : j < m := by
          have := (List.getElem?_eq_some_iff.1 hj).1
          rw [List.length_map, hs.len] at this
          exact this
        rw [add_off, hc j hjn, ← hj]
        simp [List.getD_eq_getElem?_getD, List.getElem?_eq_getElem (show j < zs.length by rw [hs.len]; exact hjn)])
      (fun u hu => by obtain ⟨x, _, rfl⟩ := List.mem_map.1 hu; rfl) hm (by unfold maxLen; omega) (by omega) hb _ rfl
    refine ⟨_, w', hr, by rw [List.map_append]; exact h2, ?_⟩
    exact (Below.refl _ _).grown h3 hb fun k hk => (hown.lt k hk).1
end

/-- A copy of numbers, the call's own. -/
def CloneP (w : World) (n : Nat) (zs : List Int) (e : Ending) (w' : World) : Prop :=
  ∃ A c, e = .returned (.slice A n c) ∧ Gs w' A n c zs ∧ Grow w w' ∧ ∀ k, blk A c k → w.heap.size ≤ k

section
variable {w w' : World} {L : La} {v : Value}
theorem clone_gs {A : Option Addr} {n c : Nat} {zs : List Int} (h : Sl w w.heap.size .i64 A n zs) (hn : n ≤ 100000) :
    Calls Try.prog 22 #[.slice A n c] w (CloneP w n zs) := by
  have ke : ∀ w : World, (binOp .eql 23 (.slice A n c) (.slice none 0 0)).run Try.prog w = .ok (.bool A.isNone) w := fun w => Lib.run_eql_slice_nil (P := Try.prog) w 23 3 _ _ _ _ _ Try.underlying23
  cases A with
  | none =>
    have hn0 : n = 0 := by
      rcases Nat.eq_zero_or_pos n with e | e
      · exact e
      · obtain ⟨_, _, e', _⟩ := h.at_ e
        cases e'
    subst hn0
    have hz0 : zs = [] := List.eq_nil_of_length_eq_zero h.len
    subst hz0
    clear h
    go_enter Try.func22, Try.ntmps22
    go_wp2
    go_ret
    exact ⟨none, 0, rfl, Gs.nil _ _, Kept.refl _ _, fun k h => absurd h blk_zero⟩
  | some a =>
    have hown : (w.alloc (.cells #[] 3)).ownsRow w.heap.size 3 1 (.slice (some ⟨w.heap.size, 0, none⟩) 0 0) 0 (([] : List Int).map (Value.int .i64)) :=
      ⟨rfl, .inr ⟨_, 0, #[], rfl, Nat.le_refl _, heap_alloc_new w _, Nat.le_refl _, Nat.zero_le _, rfl, rfl⟩⟩
    have hs2 := sl_grow h ((Kept.refl _ w).alloc (.cells #[] 3))
    have HA := Lib.hid fun (ty : TypeId) => append_sl (c := c) ty hown hs2 (by omega) (by simp)
    have HGR : Hid (Grow w (w.alloc (.cells #[] 3))) := (Kept.refl _ w).alloc _
    clear hown hs2 h
    go_enter Try.func22, Try.ntmps22
    obtain ⟨v', w2, hr, ho, hb⟩ := HA.out 23
    have HR := Lib.hid hr
    have HO := Lib.hid ho
    have HBL := Lib.hid hb
    clear hr ho hb HA
    go_wp2_with (at_builtin; refine Lib.wpList_append_run _ rfl _ _ _ _ rfl _ _ rfl rfl _ _ HR.out ?_)
    go_ret
    have ho := HO.out
    rw [Nat.zero_add, List.nil_append] at ho
    obtain ⟨A', c', rfl, hg, hb⟩ := Gs.of_own ho
    exact ⟨A', c', rfl, hg, Kept.of_below ((Grow.below HGR.out).trans HBL.out), hb⟩

/-- A latch whose lists are the call's own: two slices, apart, in blocks from base on. -/
structure Two (w : World) (base : Nat) (R Q : List Int) (A : Option Addr) (c : Nat) (A' : Option Addr) (c' : Nat) : Prop where
  r : Gs w A R.length c R
  q : Gs w A' Q.length c' Q
  ap : ∀ k, blk A c k → ¬ blk A' c' k
  rb : ∀ k, blk A c k → base ≤ k
  qb : ∀ k, blk A' c' k → base ≤ k
theorem Two.latv {w : World} {base : Nat} {W : Int} {R Q : List Int} {A A' : Option Addr} {c c' : Nat} (h : Two w base R Q A c A' c') : LatV w ⟨W, R, Q⟩ (.agg #[.int .i64 W, .slice A R.length c, .slice A' Q.length c']) :=
  ⟨A, c, A', c', rfl, h.r.sl (Nat.le_refl _), h.q.sl (Nat.le_refl _), ⟨h.r.le, h.r.max⟩, ⟨h.q.le, h.q.max⟩⟩
def OwnP (w : World) (L : La) (e : Ending) (w' : World) : Prop :=
  ∃ A c A' c', e = .returned (.agg #[.int .i64 L.W, .slice A L.R.length c, .slice A' L.Q.length c']) ∧ Two w' w.heap.size L.R L.Q A c A' c' ∧ Grow w w'

theorem own_any (h : LatV w L v) (hR : L.R.length ≤ 100000) (hQ : L.Q.length ≤ 100000) : Calls Try.prog 13 #[v] w (OwnP w L) := by
  obtain ⟨A, c, A', c', rfl, hs, hs', _, _⟩ := h
  have HC := Lib.hid fun (w' : World) (hk : Grow w w') => clone_gs (c := c) (sl_grow hs hk) hR
  have HD := Lib.hid fun (w' : World) (hk : Grow w w') => clone_gs (c := c') (sl_grow hs' hk) hQ
  clear hs hs'
  generalize hm : L.Q.length = m at *
  generalize hn : L.R.length = n at *
  have HM := Lib.hid hm
  have HN := Lib.hid hn
  clear hm hn hR hQ
  go_enter Try.func13, Try.ntmps13
  go_upto_region 1 with (fail)
  have hb0 := (Blk.new w 25 [.int .i64 L.W, .slice A n c, .slice A' m c']).alloc (.cells #[.int .i64 0, .slice none 0 0, .slice none 0 0] 25)
  have hb1 := Blk.new (w.alloc (.cells #[.int .i64 L.W, .slice A n c, .slice A' m c'] 25)) 25 [.int .i64 0, .slice none 0 0, .slice none 0 0]
  have hg0 : Grow w ((w.alloc (.cells #[.int .i64 L.W, .slice A n c, .slice A' m c'] 25)).alloc (.cells #[.int .i64 0, .slice none 0 0, .slice none 0 0] 25)) := ((Kept.refl _ _).alloc _).alloc _
  have hsz : (w.alloc (.cells #[.int .i64 L.W, .slice A n c, .slice A' m c'] 25)).heap.size = w.heap.size + 1 := by simp
  rw [hsz] at hb1
  clear hsz
  generalize (w.alloc (.cells #[.int .i64 L.W, .slice A n c, .slice A' m c'] 25)).alloc (.cells #[.int .i64 0, .slice none 0 0, .slice none 0 0] 25) = w0 at *
  have HB0 := Lib.hid hb0
  have HB1 := Lib.hid hb1
  have HG0 := Lib.hid hg0
  have HSZ : Hid (w.heap.size + 2 ≤ w0.heap.size) := by have := hb1.lt; show _ ≤ _; omega
  have k1 := hb0.cell 1
  have k2 := hb0.cell 2
  simp only [List.getElem?_cons_zero, List.getElem?_cons_succ] at k1 k2
  have q1 := up_cell (F := fun _ => False) (w := w0.drew) k1 id
  have q2 := up_cell (F := fun _ => False) (w := w0.drew) k2 id
  clear hb0 hb1 hg0 k1 k2
  refine wp_region_tree Grow (Kept fun k => k = w.heap.size) (kept_refl _) (kept_trans _) (kept_refl _) (kept_trans _) (fun _ _ h => h.mono fun _ _ x => x.elim) [7, 9]
    (.one true [0, 1, 3, 4] 2 (.one true [6] 5 (.one false [] 7 (.one false [8] 9 (.last false []))))) (by kernel_rfl) (by kernel_rfl) ?_
  refine tr_oneE fun K hK => ?_
  simp only [sel, List.map_cons, List.map_nil, List.getD_cons_succ, List.getD_cons_zero]
  repeat (go_big_quiet_step (fail))
  refine wpQuiet_nil ?_
  go_wp2_with (go_at_call 22; (with_reducible refine (HC.out _ HG0.out.drew).mono ?_); rintro e w1 ⟨A1, c1, rfl, hg1, hk1, hf1⟩; have G1 := Lib.hid hg1; have K1 := Lib.hid hk1; have F1 := Lib.hid hf1; clear hg1 hk1 hf1)
  refine norm_up (hK _ _ (Lr_early (by decide) K1.out) ?_)
  clear hK K q1 q2
  refine tr_oneE fun K hK => ?_
  simp only [sel, List.map_cons, List.map_nil, List.getD_cons_succ, List.getD_cons_zero]
  repeat (go_big_quiet_step (fail))
  refine wpQuiet_nil ?_
  go_wp2_with (go_at_call 22; (with_reducible refine (HD.out _ (HG0.out.drew.trans K1.out)).mono ?_); rintro e w2 ⟨A2, c2, rfl, hg2, hk2, hf2⟩; have G2 := Lib.hid hg2; have K2 := Lib.hid hk2; have F2 := Lib.hid hf2; clear hg2 hk2 hf2)
  refine norm_up (hK _ _ (Lr_early (by decide) K2.out) ?_)
  clear hK K
  have B0 := Lib.hid ((HB0.out.drew.grow K1.out).grow K2.out)
  have B1 := Lib.hid ((HB1.out.drew.grow K1.out).grow K2.out)
  have k1 := B0.out.cell 1
  have f1 := B0.out.frozenAll
  simp only [List.getElem?_cons_zero, List.getElem?_cons_succ] at k1
  refine tr_oneL fun K hK => ?_
  simp only [sel, List.map_cons, List.map_nil, List.getD_cons_succ, List.getD_cons_zero]
  refine wpQuiet_nil ?_
  go_wp2
  refine norm_up (hK _ _ (Lr_late (by decide) (kept_set _ _ _ _)) ?_)
  clear hK K k1 f1
  have B0' : Hid (Blk (w2.setCell ⟨w.heap.size, 1, none⟩ (.slice A1 n c1)) w.heap.size 25 [.int .i64 L.W, .slice A1 n c1, .slice A' m c']) := B0.out.set 1 _
  have B1' := Lib.hid (B1.out.other (p := ⟨w.heap.size, 1, none⟩) (by show w.heap.size + 1 ≠ w.heap.size; omega) (.slice A1 n c1))
  have K3 : Hid (Kept (fun k => k = w.heap.size) w2 (w2.setCell ⟨w.heap.size, 1, none⟩ (.slice A1 n c1))) := kept_set _ _ _ _
  generalize w2.setCell ⟨w.heap.size, 1, none⟩ (.slice A1 n c1) = w3 at *
  have k2 := B0'.out.cell 2
  have f2 := B0'.out.frozenAll
  simp only [List.getElem?_cons_zero, List.getElem?_cons_succ] at k2
  refine tr_oneL fun K hK => ?_
  simp only [sel, List.map_cons, List.map_nil, List.getD_cons_succ, List.getD_cons_zero]
  repeat (go_big_quiet_step (fail))
  refine wpQuiet_nil ?_
  go_wp2
  refine norm_up (hK _ _ (Lr_late (by decide) (kept_set _ _ _ _)) ?_)
  clear hK K k2 f2
  have B2 : Hid (Blk (w3.setCell ⟨w.heap.size, 2, none⟩ (.slice A2 m c2)) w.heap.size 25 [.int .i64 L.W, .slice A1 n c1, .slice A2 m c2]) := B0'.out.set 2 _
  have B3 := Lib.hid (B1'.out.other (p := ⟨w.heap.size, 2, none⟩) (by show w.heap.size + 1 ≠ w.heap.size; omega) (.slice A2 m c2))
  have K4 : Hid (Kept (fun k => k = w.heap.size) w2 (w3.setCell ⟨w.heap.size, 2, none⟩ (.slice A2 m c2))) := K3.out.trans (kept_set _ _ _ _)
  generalize w3.setCell ⟨w.heap.size, 2, none⟩ (.slice A2 m c2) = w4 at *
  refine tr_lastL fun K hK => ?_
  simp only [sel, List.map_cons, List.map_nil, List.getD_cons_succ, List.getD_cons_zero]
  refine wpQuiet_nil (hK _ ?_)
  clear hK K
  have k0 := B2.out.cell 0
  have k1 := B2.out.cell 1
  have k2 := B2.out.cell 2
  have l0 := B3.out.cell 0
  have l1 := B3.out.cell 1
  have l2 := B3.out.cell 2
  have g1 := B3.out.frozenAll
  simp only [List.getElem?_cons_zero, List.getElem?_cons_succ] at k0 k1 k2 l0 l1 l2
  go_wp2
  have B4 : Hid (Blk (((w4.setCell ⟨w.heap.size + 1, 0, none⟩ (.int .i64 L.W)).setCell ⟨w.heap.size + 1, 1, none⟩ (.slice A1 n c1)).setCell ⟨w.heap.size + 1, 2, none⟩ (.slice A2 m c2)) (w.heap.size + 1) 25 [.int .i64 L.W, .slice A1 n c1, .slice A2 m c2]) := ((B3.out.set 0 _).set 1 _).set 2 _
  have K5 : Hid (Kept (fun k => k = w.heap.size ∨ k = w.heap.size + 1) w2 (((w4.setCell ⟨w.heap.size + 1, 0, none⟩ (.int .i64 L.W)).setCell ⟨w.heap.size + 1, 1, none⟩ (.slice A1 n c1)).setCell ⟨w.heap.size + 1, 2, none⟩ (.slice A2 m c2))) :=
    (((K4.out.mono fun _ _ x => .inl x).setCell (fun _ => .inr rfl) _).setCell (fun _ => .inr rfl) _).setCell (fun _ => .inr rfl) _
  generalize ((w4.setCell ⟨w.heap.size + 1, 0, none⟩ (.int .i64 L.W)).setCell ⟨w.heap.size + 1, 1, none⟩ (.slice A1 n c1)).setCell ⟨w.heap.size + 1, 2, none⟩ (.slice A2 m c2) = w5 at *
  refine ret_cell1 rfl rfl B4.out rfl ?_
  have hsz := HSZ.out
  have hs1 := K1.out.size
  have hs0 : w0.drew.heap.size = w0.heap.size := rfl
  rw [hs0] at hs1
  have b1 : ∀ k, blk A1 c1 k → w.heap.size + 2 ≤ k := fun k h => by have := F1.out k h; rw [hs0] at this; omega
  have b2 : ∀ k, blk A2 c2 k → w1.heap.size ≤ k := F2.out
  refine ⟨A1, c1, A2, c2, by rw [HN.out, HM.out], ⟨?_, ?_, fun k h1 h2 => ?_, fun k h => by have := b1 k h; omega, fun k h => by have := b2 k h; omega⟩, ?_⟩
  · rw [HN.out]
    exact (G1.out.grow K2.out).kept K5.out fun k h x => by have := b1 k h; rcases x with x | x <;> omega
  · rw [HM.out]
    exact G2.out.kept K5.out fun k h x => by have := b2 k h; rcases x with x | x <;> omega
  · have := G1.out.lt h1
    have := b2 k h2
    omega
  · exact ((HG0.out.drew.trans K1.out).trans K2.out).then K5.out fun k h x => by rcases x with x | x <;> omega
end
end Go.Proofs.Ytpdmncdbimdfaaa.LatO
