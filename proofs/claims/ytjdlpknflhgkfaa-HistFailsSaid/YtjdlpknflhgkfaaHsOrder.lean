/-
  Package hist: Order (chapter 14).
-/
import Derived.Test.YtjdlpknflhgkfaaHsSort
import Derived.Test.YtjdlpknflhgkfaaGs
namespace Go.Proofs.Ytjdlpknflhgkfaa.HsO
open Go.ChangeShapes Go.WideShapes Go.ChangeAt Go.RowKit Go.Shelf
open Go.Proofs.Ytjdlpknflhgkfaa.Mem Go.Proofs.Ytjdlpknflhgkfaa.Blk Go.Proofs.Ytjdlpknflhgkfaa.Cells Go.Proofs.Ytjdlpknflhgkfaa.MdM Go.Proofs.Ytjdlpknflhgkfaa.HsM Go.Proofs.Ytjdlpknflhgkfaa.HsE Go.Proofs.Ytjdlpknflhgkfaa.HsB Go.Proofs.Ytjdlpknflhgkfaa.HsL Go.Proofs.Ytjdlpknflhgkfaa.HsS Go.Proofs.Ytjdlpknflhgkfaa.GsC Go.Proofs.Ytjdlpknflhgkfaa.Stages

/-- The places of those that took effect, by places. -/
def fl (L : Nat → Ev) (j : Nat) : List Nat := (List.range j).filter fun i => decide (0 < (L i).s)
theorem fl_yes {L : Nat → Ev} {j : Nat} (h : 0 < (L j).s) : fl L (j + 1) = fl L j ++ [j] := by
  unfold fl
  rw [List.range_succ, List.filter_append]
  simp [h]
theorem fl_no {L : Nat → Ev} {j : Nat} (h : ¬ 0 < (L j).s) : fl L (j + 1) = fl L j := by
  unfold fl
  rw [List.range_succ, List.filter_append]
  simp [h]
theorem fl_mem {L : Nat → Ev} {j i : Nat} : i ∈ fl L j ↔ i < j ∧ 0 < (L i).s := by unfold fl; simp
theorem fl_len (L : Nat → Ev) (j : Nat) : (fl L j).length ≤ j := by
  have := List.length_filter_le (fun i => decide (0 < (L i).s)) (List.range j)
  rwa [List.length_range] at this
theorem fl_nodup (L : Nat → Ev) (j : Nat) : (fl L j).Nodup := List.Nodup.sublist List.filter_sublist List.nodup_range
theorem ord_len {L : Nat → Ev} {n : Nat} {l : List Nat} (h : Ord L n l) : l.length ≤ n := by
  have hp : l.Perm (fl L n) := (List.perm_ext_iff_of_nodup (ord_nodup h) (fl_nodup L n)).2 fun i => by rw [h.1 i, fl_mem]
  rw [hp.length_eq]
  exact fl_len L n
def nums (l : List Nat) : List Int := l.map fun i : Nat => (i : Int)
theorem nums_len (l : List Nat) : (nums l).length = l.length := by unfold nums; simp
theorem nums_get (l : List Nat) (j : Nat) : (nums l).getD j 0 = ((l.getD j 0 : Nat) : Int) := by
  unfold nums
  rw [List.getD_eq_getElem?_getD, List.getD_eq_getElem?_getD, List.getElem?_map]
  cases l[j]? <;> rfl
/-- An order in memory of the call's own. -/
def OrdP (L : Nat → Ev) (n : Nat) (w : World) (e : Ending) (w' : World) : Prop :=
  ∃ l A c, e = .returned (.slice A l.length c) ∧ Ord L n l ∧ Sl w' w'.heap.size .i64 A l.length (nums l) ∧ (0 < l.length → ∀ x, A = some x → w.heap.size ≤ x.block) ∧ Grow w w'
/-- What the loop has. -/
def OrLoop (L : Nat → Ev) (n : Nat) (w0 : World) (gx : Nat) (v3 v8 : Value) (wr : World) : Prop :=
  ∃ (j : Nat) (A : Option Addr) (c : Nat), j + gx = n ∧ v8 = .int .i64 (j : Int) ∧ v3 = .slice A (fl L j).length c ∧ Gs wr A (fl L j).length c (nums (fl L j)) ∧ (∀ k, blk A c k → w0.heap.size ≤ k) ∧ Grow w0 wr
section
variable {w w' : World} {X : Nat → Prop} {A : Option Addr} {n c : Nat} {L : Nat → Ev}
/-- The sort of a row of the call's own. -/
def SortQ (L : Nat → Ev) (n : Nat) (w0 : World) (A : Option Addr) (m : Nat) (e : Ending) (w' : World) : Prop := e = .returned (.tuple #[]) ∧ ∃ l, l.length = m ∧ Ord L n l ∧ Sl w' w'.heap.size .i64 A m (nums l) ∧ Grow w0 w'
theorem sortQ_any {w0 wr : World} {B c3 : Nat} {A3 : Option Addr} (hE : EvsAt w0 X A n L) (hn : n ≤ 100000) (hg : Grow w0 wr) (hB : w0.cell? ⟨B, 0, none⟩ = some (.slice A n c)) (hgs : Gs wr A3 (fl L n).length c3 (nums (fl L n))) (hbl : ∀ k, blk A3 c3 k → w0.heap.size ≤ k) :
    Calls Try.prog 32 #[.slice A3 (fl L n).length c3, .func (.func 33) #[] #[.pointer (some ⟨B, 0, none⟩)]] wr (SortQ L n w0 A3 (fl L n).length) := by
  by_cases h0 : (fl L n).length = 0
  · have hnil : fl L n = [] := List.eq_nil_of_length_eq_zero h0
    rw [h0]
    refine (sort_none _ _ _ _).mono ?_
    rintro e w' ⟨rfl, rfl⟩
    refine ⟨rfl, [], rfl, ⟨fun i => ?_, List.Pairwise.nil⟩, Sl.nil _ _ _ _, hg⟩
    rw [← hnil, fl_mem]
  · have hp : 0 < (fl L n).length := by omega
    have hln := fl_len L n
    obtain ⟨b', off', f, rfl, hrow, hf⟩ := hgs.row (by have := hgs.le; omega)
    have hle := hgs.le
    have hb' := hbl b' (blk_some.2 ⟨by omega, rfl⟩)
    obtain ⟨b, off, rfl, hall⟩ := hE (by omega)
    have hbl2 : b < w0.heap.size := (hall 0 (by omega)).lt
    have hst : Stp wr B (some ⟨b, off, none⟩) n c L b off := ⟨hg.cellN hB id, fun i hi => by
      obtain ⟨D, dl, dc, A', al, ac, hc, _⟩ := hall i hi
      exact hg.cellN (hc 12 _ rfl) id⟩
    have hBl : B < w0.heap.size := block_lt_of_cell hB
    refine (sort_any (o := off') (cap := c3) hn hst (fun i hi => (fl_mem.1 hi).1) (fl_nodup L n) hp (fun j hj => ?_) (fun j => hrow.frozen j) (by omega) (by omega) (by omega)).mono ?_
    · rw [hrow.cell (by omega), hf j hj, nums_get]
    · rintro e w' ⟨rfl, l', hl, hm, hpw, hc, hk⟩
      refine ⟨rfl, l', hl, ⟨fun i => by rw [hm i, fl_mem], hpw⟩, ⟨by rw [nums_len, hl], fun _ => ⟨b', off', rfl, Nat.lt_of_lt_of_le hrow.lt hk.size, fun j hj => ?_⟩⟩, hg.then hk fun k hk e => by omega⟩
      rw [hc j hj, nums_get]
theorem box_slice (w : World) (t : TypeId) (v : Value) : Blk (w.alloc (.cells #[v] t)) w.heap.size t [v] ∧ Grow w (w.alloc (.cells #[v] t)) := ⟨Blk.new w t [v], (Kept.refl _ _).alloc _⟩
set_option maxHeartbeats 8000000 in
set_option maxRecDepth 100000 in
theorem order_any (h : EvsAt w X A n L) (hn : n ≤ 100000) (c : Nat) : Calls Try.prog 16 #[.slice A n c] w (OrdP L n w) := by
  have hnz : (n : Int) ≤ 100000 := by omega
  obtain ⟨hbx, hg⟩ := box_slice w 30 (.slice A n c)
  have HBX := Lib.hid hbx
  have HG0 := Lib.hid hg
  have b0 := hbx.cell 0
  simp only [List.getElem?_cons_zero] at b0
  have HE := Lib.hid (h.grow hg)
  clear h hbx hg
  go_enter Try.func16, Try.ntmps16
  go_upto_region 1 with (fail)
  generalize w.alloc (.cells #[.slice A n c] 30) = w0 at *
  obtain ⟨B, hB⟩ : ∃ B, B = w.heap.size := ⟨_, rfl⟩
  rw [← hB] at HBX b0 ⊢
  have HB := Lib.hid hB
  clear hB
  go_wp2
  go_loopg [3, 8] n (OrLoop L n w0)
  case atStart => exact ⟨0, none, 0, by omega, rfl, rfl, Gs.nil w0 none, fun k hk => absurd hk blk_zero, Kept.refl _ _⟩
  case round =>
    clear b0
    obtain ⟨j, A3, c3, hg, rfl, rfl, hgs, hbl, hgr⟩ := hrel
    have HG := Lib.hid hg
    have HGS := Lib.hid hgs
    have HBL := Lib.hid hbl
    have HGR := Lib.hid hgr
    clear hg hgs hbl hgr
    by_cases hj : j < n
    · have hjz : (j : Int) < (n : Int) := by omega
      have HJ := Lib.hid hj
      have HJB : Hid (j ≤ 100000) := by unfold Hid; omega
      obtain ⟨b, off, rfl, hall⟩ := HE.out (by omega)
      obtain ⟨D, dl, dc, A', al, ac, hc, hd⟩ := (hall j hj).kept HGR.out id (fun _ _ _ => id)
      have c0 := hc 0 _ rfl
      have c1 := hc 1 _ rfl
      have c2 := hc 2 _ rfl
      have c3' := hc 3 _ rfl
      have c4 := hc 4 _ rfl
      have c5 := hc 5 _ rfl
      have c6 := hc 6 _ rfl
      have c7 := hc 7 _ rfl
      have c8 := hc 8 _ rfl
      have c9 := hc 9 _ rfl
      have c10 := hc 10 _ rfl
      have c11 := hc 11 _ rfl
      have c12 := hc 12 _ rfl
      have c13 := hc 13 _ rfl
      simp only [Nat.add_zero] at c0
      clear hall hc hd hj
      go_upto_region 5 with (fail)
      clear c0 c1 c2 c3' c4 c5 c6 c7 c8 c9 c10 c11 c12 c13
      obtain ⟨hnb, hng⟩ := ev_new wr (L j) D dl dc A' al ac
      generalize wr.alloc (.cells #[.int .i64 (L j).c, .int .i64 (L j).o.k, .int .i64 (L j).o.p, .int .i64 (L j).o.h, .int .i64 (L j).o.o, .int .i64 (L j).o.n, .slice D dl dc, .int .i64 (L j).r.c, .int .i64 (L j).r.p, .int .i64 (L j).r.h, .slice A' al ac, .int .i64 (L j).b, .int .i64 (L j).s, .int .i64 (L j).e] 29) = we at hnb hng ⊢
      generalize wr.heap.size = f at hnb ⊢
      have HGE : Hid (Grow w0 we) := HGR.out.trans hng
      have HGS2 := Lib.hid (HGS.out.grow hng)
      have s12 := hnb.cell 12
      simp only [List.getElem?_cons_zero, List.getElem?_cons_succ] at s12
      clear hnb hng HGS HGR
      by_cases hs : 0 < (L j).s
      · have HS := Lib.hid (fl_yes hs)
        have HLN := Lib.hid (fl_len L j)
        go_upto_region 6 with (fail)
        have HA1 : Hid (Grow w0 (we.alloc (.cells #[.int .i64 (j : Int)] 3))) := HGE.out.alloc _
        obtain ⟨A2, c2, w7, hr, hg7, hk7, hb7⟩ := append_gs 48 (HGS2.out.grow ((Kept.refl _ we).alloc (.cells #[.int .i64 (j : Int)] 3))) (by have := HLN.out; have := HJB.out; omega) we.heap.size (j : Int) (cell_new1 _ _ _)
        have HAR := Lib.hid hr
        have HGS7 := Lib.hid hg7
        have HK7 : Hid (Grow w0 w7) := HA1.out.then hk7 fun k hk hb => by have := HBL.out k hb; omega
        have HB7 : Hid (∀ k, blk A2 c2 k → w0.heap.size ≤ k) := fun k hk => by
          rcases hb7 k hk with h | h
          · exact HBL.out k h
          · exact Nat.le_trans HA1.out.size h
        clear hr hg7 hk7 hb7 s12 hs
        go_wp2_with (at_builtin; refine Lib.wpList_append_run _ rfl _ _ _ _ rfl _ _ rfl rfl _ _ HAR.out ?_)
        go_roundg (gk - 1)
        case measure => have := HG.out; have := HJ.out; omega
        case rel =>
          refine ⟨j + 1, A2, c2, by have := HG.out; have := HJ.out; omega, by go_num, ?_, ?_, HB7.out, HK7.out⟩
          · rw [HS.out, List.length_append]; rfl
          · have e : nums (fl L j ++ [j]) = nums (fl L j) ++ [(j : Int)] := by unfold nums; rw [List.map_append]; rfl
            rw [HS.out, List.length_append, e]
            exact HGS7.out
      · have HS := Lib.hid (fl_no hs)
        go_wp2
        go_roundg (gk - 1)
        case measure => have := HG.out; have := HJ.out; omega
        case rel =>
          refine ⟨j + 1, A3, c3, by have := HG.out; have := HJ.out; omega, by go_num, ?_, ?_, HBL.out, HGE.out⟩
          · rw [HS.out]
          · rw [HS.out]
            exact HGS2.out
    · have hjN : j = n := by have := HG.out; omega
      subst hjN
      clear hj
      have b0 := HBX.out.cell 0
      simp only [List.getElem?_cons_zero] at b0
      have CS := Lib.hid (sortQ_any HE.out hn HGR.out b0 HGS.out HBL.out)
      have HLE := Lib.hid HGS.out.le
      clear b0
      go_wp2_with (go_at_call 32; (with_reducible refine CS.out.mono ?_); rintro e ws ⟨rfl, l, hl, ho, hsl, hgs⟩; have HL := Lib.hid hl; have HO := Lib.hid ho; have HSL := Lib.hid hsl; have HGG := Lib.hid hgs; clear hl ho hsl hgs)
      go_ret
      have hl := HL.out
      refine ⟨l, A3, c3, by rw [hl]; rfl, HO.out, by rw [hl]; exact HSL.out, fun h0 x hx => ?_, HG0.out.trans HGG.out⟩
      rw [hl] at h0
      exact Nat.le_trans HG0.out.size (HBL.out x.block ⟨by have := HLE.out; omega, x, hx, rfl⟩)
end
#print axioms order_any
end Go.Proofs.Ytjdlpknflhgkfaa.HsO
