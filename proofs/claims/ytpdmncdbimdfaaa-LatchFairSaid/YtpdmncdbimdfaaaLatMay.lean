/-
  Package latch: waits, mayHold, mayWait, May; Clone, own.
-/
import Derived.Test.YtpdmncdbimdfaaaLat
namespace Go.Proofs.Ytpdmncdbimdfaaa.LatY
open Go.ChangeShapes Go.WideShapes Go.ChangeAt Go.RowKit
open Go.Proofs.Ytpdmncdbimdfaaa.Mem Go.Proofs.Ytpdmncdbimdfaaa.Blk Go.Proofs.Ytpdmncdbimdfaaa.Cells Go.Proofs.Ytpdmncdbimdfaaa.GsC Go.Proofs.Ytpdmncdbimdfaaa.LatM Go.Proofs.Ytpdmncdbimdfaaa.LatC Go.Proofs.Ytpdmncdbimdfaaa.Stages

section
variable {w w' : World} {L : La} {v : Value}
theorem waits_any (h : LatV w L v) (t : Int) (h1 : -900 ≤ t) (h2 : t ≤ 900) (hQ : L.Q.length ≤ 100000) :
    Calls Try.prog 21 #[v, .int .i64 t] w fun e w' => e = .returned (.bool (L.waits t)) ∧ Grow w w' := by
  obtain ⟨A, c, A', c', rfl, _, hs, _, _⟩ := h
  have HT := Lib.hid fun (w : World) => toRead_any (w := w) t (by omega) (by omega)
  have HC := Lib.hid fun (w' : World) (hk : Grow w w') => contains_any A' c' _ _ _ t hQ (sl_grow hs hk)
  have HD := Lib.hid fun (w' : World) (hk : Grow w w') => contains_any A' c' _ _ _ (-2 - t) hQ (sl_grow hs hk)
  have HGR : Hid (∀ o, Grow w (w.alloc o)) := fun o => (Kept.refl _ _).alloc _
  have HE : Hid (L.waits t = (L.Q.contains t || L.Q.contains (-2 - t))) := rfl
  clear hs
  generalize L.waits t = G at *
  generalize L.R.length = m at *
  generalize L.Q.length = n at *
  generalize L.Q.contains (-2 - t) = K2 at *
  generalize L.Q.contains t = K1 at *
  generalize L.W = W at *
  cases K1 with
  | true =>
    go_enter Try.func21, Try.ntmps21
    go_upto_region 1 with (fail)
    have HG0 := Lib.hid (HGR.out (.cells #[.int .i64 W, .slice A m c, .slice A' n c'] 25))
    have HB := Blk.new w 25 [.int .i64 W, .slice A m c, .slice A' n c']
    generalize w.alloc (.cells #[.int .i64 W, .slice A m c, .slice A' n c'] 25) = w1 at *
    have q1 := up_cell (F := fun _ => False) (w := w1.drew) (HB.cell 2) id
    clear HB
    refine wp_region_stages Grow (kept_refl _) (kept_trans _) [([0, 1, 2], 3), ([4, 5, 6, 7], 8), ([], 9)] [10, 11] (by kernel_rfl) (by kernel_rfl) ?_
    simp only [selSt, sel, List.map_cons, List.map_nil, List.getD_cons_succ, List.getD_cons_zero]
    refine st_cons fun K1 hK1 => ?_
    repeat (go_big_quiet_step (fail))
    refine wpQuiet_nil ?_
    go_wp2_with (go_at_call 19; (with_reducible refine (HC.out _ HG0.out.drew).mono ?_); rintro e w' ⟨rfl, rfl⟩)
    refine norm_up (hK1 _ _ (Kept.refl _ _) ?_)
    refine st_cons fun K1 hK1 => ?_
    repeat (go_big_quiet_step (fail))
    refine wpQuiet_nil ?_
    go_wp2
    refine norm_up (hK1 _ _ (Kept.refl _ _) ?_)
    refine st_cons fun K1 hK1 => ?_
    refine wpQuiet_nil ?_
    go_wp2
    refine norm_up (hK1 _ _ (Kept.refl _ _) (st_nil fun K2 hK2 => ?_))
    repeat (go_big_quiet_step (fail))
    refine wpQuiet_nil (hK2 _ ?_)
    go_wp2
    go_ret
    exact ⟨by rw [HE.out]; rfl, HG0.out.drew⟩
  | false =>
    go_enter Try.func21, Try.ntmps21
    go_upto_region 1 with (fail)
    have HG0 := Lib.hid (HGR.out (.cells #[.int .i64 W, .slice A m c, .slice A' n c'] 25))
    have HB := Blk.new w 25 [.int .i64 W, .slice A m c, .slice A' n c']
    generalize w.alloc (.cells #[.int .i64 W, .slice A m c, .slice A' n c'] 25) = w1 at *
    have q1 := up_cell (F := fun _ => False) (w := w1.drew) (HB.cell 2) id
    clear HB
    refine wp_region_stages Grow (kept_refl _) (kept_trans _) [([0, 1, 2], 3), ([4, 5, 6, 7], 8), ([], 9)] [10, 11] (by kernel_rfl) (by kernel_rfl) ?_
    simp only [selSt, sel, List.map_cons, List.map_nil, List.getD_cons_succ, List.getD_cons_zero]
    refine st_cons fun K1 hK1 => ?_
    repeat (go_big_quiet_step (fail))
    refine wpQuiet_nil ?_
    go_wp2_with (go_at_call 19; (with_reducible refine (HC.out _ HG0.out.drew).mono ?_); rintro e w' ⟨rfl, rfl⟩)
    refine norm_up (hK1 _ _ (Kept.refl _ _) ?_)
    refine st_cons fun K1 hK1 => ?_
    repeat (go_big_quiet_step (fail))
    refine wpQuiet_nil ?_
    go_wp2_with (go_at_call 12; (with_reducible refine (HT.out _).mono ?_); rintro e w' ⟨rfl, rfl⟩)
    refine norm_up (hK1 _ _ (Kept.refl _ _) ?_)
    refine st_cons fun K1 hK1 => ?_
    refine wpQuiet_nil ?_
    go_wp2_with (go_at_call 19; (with_reducible refine (HD.out _ HG0.out.drew).mono ?_); rintro e w' ⟨rfl, rfl⟩)
    refine norm_up (hK1 _ _ (Kept.refl _ _) (st_nil fun K2 hK2 => ?_))
    repeat (go_big_quiet_step (fail))
    refine wpQuiet_nil (hK2 _ ?_)
    go_wp2
    go_ret
    exact ⟨by rw [HE.out]; rfl, HG0.out.drew⟩

theorem up_get {R : List Int} (h : Up R) {i j : Nat} (hij : i < j) (hj : j < R.length) : R.getD i 0 < R.getD j 0 := by
  have := List.pairwise_iff_getElem.1 h i j (by omega) hj hij
  simpa [List.getD_eq_getElem?_getD, List.getElem?_eq_getElem hj, List.getElem?_eq_getElem (show i < R.length by omega)] using this
theorem get_mem {R : List Int} {j : Nat} (hj : j < R.length) : R.getD j 0 ∈ R := by
  rw [List.getD_eq_getElem?_getD, List.getElem?_eq_getElem hj]
  exact List.getElem_mem hj

theorem mayHold_good (h : LatV w L v) (hp : Pre L.W L.R L.Q) :
    Calls Try.prog 23 #[v] w fun e w' => e = .returned (.bool true) ∧ Grow w w' := by
  obtain ⟨A, c, A', c', rfl, hs, _, _, _⟩ := h
  have HT := Lib.hid fun (w : World) (t : Int) => isTask_any (w := w) t
  have HGR : Hid (∀ o, Grow w (w.alloc o)) := fun o => (Kept.refl _ _).alloc _
  have hR := hp.lenR
  have hRz : (L.R.length : Int) ≤ 64 := by omega
  have HS := Lib.hid hs
  have HR := Lib.hid hp.r
  have HU := Lib.hid hp.up
  have hw := hp.w
  clear hs hp
  have key : (L.W = -1 ∨ (task L.W = true ∧ L.W ≠ -1 ∧ L.R = [])) := by
    rcases hw with h | ⟨h1, h2⟩
    · exact .inl h
    · exact .inr ⟨h1, (fun e => by rw [e] at h1; cases h1), h2⟩
  clear hw
  generalize L.Q.length = m at *
  generalize L.W = W at *
  generalize L.R = R at *
  rcases key with rfl | ⟨h1, h2, rfl⟩
  · go_enter Try.func23, Try.ntmps23
    go_wp2
    go_loopg [3, 24] R.length (fun gx l i wr => ∃ (j : Nat) (lb : Int), j + gx = R.length ∧ i = .int .i64 (j : Int) ∧ l = .int .i64 lb ∧ (∀ i, j ≤ i → i < R.length → lb ≤ R.getD i 0) ∧ Grow w wr)
    case atStart => exact ⟨0, 0, by omega, rfl, rfl, fun i _ hi => (task_iff.1 (HR.out _ (get_mem hi))).1, HGR.out _⟩
    case round =>
      obtain ⟨j, lb, hg, rfl, rfl, hlb, hgr⟩ := hrel
      have HG := Lib.hid hg
      have HLB := Lib.hid hlb
      have HGW := Lib.hid hgr
      clear hg hlb hgr
      by_cases hj : j < R.length
      · have hjz : (j : Int) < (R.length : Int) := by omega
        obtain ⟨b, o, rfl, _, hc⟩ := HS.out.at_ (by omega)
        have r1 := HGW.out.cellN (hc j hj) id
        have h1 := HLB.out j (Nat.le_refl _) hj
        have h2 := HR.out _ (get_mem hj)
        have HN : Hid (∀ i, j + 1 ≤ i → i < R.length → R.getD j 0 + 1 ≤ R.getD i 0) := fun i h1 h2 => by
          have := up_get HU.out (show j < i by omega) h2
          omega
        clear hc
        generalize R.getD j 0 = y at *
        have HTy := HT.out
        have h3 := task_iff.1 h2
        have h31 := h3.1
        have h32 := h3.2
        clear h3
        go_wp2_with (go_at_call 18; (with_reducible refine (HT.out _ y).mono ?_); rintro e w' ⟨rfl, rfl⟩)
        go_roundg (gk - 1)
        case measure => have := HG.out; omega
        case rel => exact ⟨j + 1, y + 1, by have := HG.out; omega, by go_num, by go_num, HN.out, HGW.out⟩
      · obtain rfl : j = R.length := by have := HG.out; omega
        go_wp2
        go_ret
        exact ⟨rfl, HGW.out⟩
  · go_enter Try.func23, Try.ntmps23
    go_wp2_with (go_at_call 18; (with_reducible refine (HT.out _ W).mono ?_); rintro e w' ⟨rfl, rfl⟩)
    go_loopg [3, 24] 0 (fun gx l i wr => i = .int .i64 0 ∧ Grow w wr)
    case atStart => exact ⟨rfl, HGR.out _⟩
    case round =>
      obtain ⟨rfl, hgr⟩ := hrel
      have HGW := Lib.hid hgr
      clear hgr
      go_wp2
      go_ret
      exact ⟨rfl, HGW.out⟩
end
end Go.Proofs.Ytpdmncdbimdfaaa.LatY
