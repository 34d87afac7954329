/-
  The document's handles: NewHandles.
-/
import Derived.Test.YtcbefohnicjkjaaHdRef
namespace Go.Proofs.Ytcbefohnicjkjaa.HdT
open Go.ChangeShapes Go.WideShapes Go.ChangeAt Go.RowKit
open Go.Proofs.Ytcbefohnicjkjaa.Mem Go.Proofs.Ytcbefohnicjkjaa.Blk Go.Proofs.Ytcbefohnicjkjaa.Cells Go.Proofs.Ytcbefohnicjkjaa.Orow Go.Proofs.Ytcbefohnicjkjaa.HdM Go.Proofs.Ytcbefohnicjkjaa.HdC Go.Proofs.Ytcbefohnicjkjaa.HdO Go.Proofs.Ytcbefohnicjkjaa.HdN Go.Proofs.Ytcbefohnicjkjaa.HdA Go.Proofs.Ytcbefohnicjkjaa.HdF Go.Proofs.Ytcbefohnicjkjaa.Stages

section
variable {w : World}
theorem rnew_bad (k : Int) (hk : ¬ (1 ≤ k ∧ k ≤ 6)) : Calls Try.prog 13 #[.int .i64 k] w fun e w' => e = .returned (.pointer none) ∧ w = w' := by
  by_cases h0 : k < 1
  · clear hk
    go_enter Try.func13, Try.ntmps13
    go_wp2
    go_ret
    exact ⟨rfl, rfl⟩
  · have h1 : 6 < k := by omega
    have h2 : 1 ≤ k := by omega
    clear hk h0
    go_enter Try.func13, Try.ntmps13
    go_wp2
    go_ret
    exact ⟨rfl, rfl⟩
theorem six_lit (w : World) : OR (w.alloc (.cells #[.int .i64 (-1), .int .i64 (-1), .int .i64 (-1), .int .i64 (-1), .int .i64 (-1), .int .i64 (-1)] 3)) w.heap.size 3 1 6 6 (hcell fun _ => -1) := by
  refine ⟨_, heap_alloc_new w _, rfl, Nat.le_refl _, by unfold maxLen; omega, fun i hi => ?_⟩
  have : i = 0 ∨ i = 1 ∨ i = 2 ∨ i = 3 ∨ i = 4 ∨ i = 5 := by omega
  rcases this with rfl | rfl | rfl | rfl | rfl | rfl <;> rfl
set_option maxHeartbeats 2000000 in
theorem rnew_good (n : Nat) (hn1 : 1 ≤ n) (hn : n ≤ 6) : Calls Try.prog 13 #[.int .i64 (n : Int)] w (NewPost n w) := by
  have hnz : (n : Int) ≤ 6 := by omega
  have hnz1 : 1 ≤ (n : Int) := by omega
  have HN := Lib.hid hn
  clear hn hn1
  go_enter Try.func13, Try.ntmps13
  go_wp2
  have hb0 : Blk (w.alloc (.cells #[.slice none 0 0] 39)) w.heap.size 39 [.slice none 0 0] := Blk.new w 39 [.slice none 0 0]
  have HG0 : Hid (Grow w (w.alloc (.cells #[.slice none 0 0] 39))) := (Kept.refl _ _).alloc _
  have HA0 : Hid (Nu (w.alloc (.cells #[.slice none 0 0] 39)) (w.heap.size ≤ ·) w.heap.size 0 (.slice none 0 0) id id) :=
    ⟨Row.of_blk hb0 rfl fun i hi => (by have : i = 0 := by omega
                                        subst this; rfl), gr_nil _ _ _ _ _, Nat.le_refl _, fun e => (by cases e), fun i hi => absurd hi (Nat.not_lt_zero i)⟩
  clear hb0
  generalize w.alloc (.cells #[.slice none 0 0] 39) = w1 at HA0 HG0 ⊢
  obtain ⟨B, hB⟩ : ∃ B, B = w.heap.size := ⟨_, rfl⟩
  have HB := Lib.hid hB
  unfold NewPost
  rw [← hB] at HA0 ⊢
  clear hB
  go_loopg [4] n (fun gx i wr => ∃ j : Nat, j + gx = n ∧ i = .int .i64 (j : Int) ∧ Nx w B j wr)
  case atStart => exact ⟨0, by omega, rfl, _, _, _, HA0.out, HG0.out⟩
  case round =>
    obtain ⟨j, hg, rfl, v, q, cp, hnu, hgr⟩ := hrel
    have HG := Lib.hid hg
    have HNU := Lib.hid hnu
    have HGR := Lib.hid hgr
    clear hg hnu hgr
    by_cases hj : j < n
    · have hjz : (j : Int) < (n : Int) := by omega
      have HJ := Lib.hid hj
      have c0 := HNU.out.hd.cell (i := 0) (by omega)
      clear hj
      obtain ⟨x1, hx1⟩ : ∃ x1, x1 = wr.alloc (.cells #[.int .i64 (-1), .int .i64 (-1), .int .i64 (-1), .int .i64 (-1), .int .i64 (-1), .int .i64 (-1)] 3) := ⟨_, rfl⟩
      obtain ⟨x3, hx3⟩ : ∃ x3, x3 = x1.alloc (.cells #[.slice (some ⟨wr.heap.size, 0, none⟩) 6 6] 28) := ⟨_, rfl⟩
      have HRO : Hid (OR x1 wr.heap.size 3 1 6 6 (hcell fun _ => -1)) := by rw [hx1]; exact six_lit wr
      have HG1 : Hid (Grow wr x1) := by rw [hx1]; exact (Kept.refl _ wr).alloc _
      have HG3 : Hid (Grow x1 x3) := by rw [hx3]; exact (Kept.refl _ x1).alloc _
      have hsz1 : x1.heap.size = wr.heap.size + 1 := by rw [hx1]; simp
      have HX3 : Hid (x3.cell? ⟨wr.heap.size + 1, 0, none⟩ = some (.slice (some ⟨wr.heap.size, 0, none⟩) 6 6)) := by rw [hx3, ← hsz1]; exact cell_new1 _ _ _
      have HN3 := Lib.hid ((HNU.out.grow HG1.out).grow HG3.out)
      have HR3 := Lib.hid (HRO.out.kept HG3.out id)
      obtain ⟨g4, cap4, x4, hr4, ho4, hk4, hb4⟩ := Gr.app HN3.out.gr (by have := HJ.out; have := HN.out; omega) HX3.out
      rw [hx3, hx1] at hr4
      have HR4 := Lib.hid hr4
      have HO4 := Lib.hid ho4
      have HK4 := Lib.hid hk4
      have HB4 := Lib.hid hb4
      clear hr4 ho4 hk4 hb4
      have HN5 : Hid (Nu (x4.setCell ⟨B, 0, none⟩ (.slice (some ⟨g4, 0, none⟩) (j + 1) cap4)) (B ≤ ·) B (j + 1) (.slice (some ⟨g4, 0, none⟩) (j + 1) cap4) (up q j wr.heap.size) (up cp j 6)) := by
        have z1 := HG1.out.size
        have z3 := HG3.out.size
        have z0 := HGR.out.size
        have zb := HB.out
        have zd := HNU.out.hd.lt
        refine HN3.out.push HR3.out ?_ ?_ ?_ ?_ HO4.out HK4.out HB4.out ?_
        · show B ≤ wr.heap.size; omega
        · intro i hi e; have := (HNU.out.gr.row i hi).lt; omega
        · intro e; have := (os_in HNU.out.gr.out e).2; omega
        · omega
        · intro k hk; show B ≤ k; omega
      have HK5 : Hid (Grow w (x4.setCell ⟨B, 0, none⟩ (.slice (some ⟨g4, 0, none⟩) (j + 1) cap4))) := by
        have zb := HB.out
        refine (((HGR.out.trans HG1.out).trans HG3.out).then HK4.out fun k hk e => ?_).setCell (fun h => ?_) _
        · have := (os_in HNU.out.gr.out e).1; omega
        · have h : B < w.heap.size := h
          omega
      have cd := HN3.out.hd.kept HK4.out HN3.out.off
      have c4 := cd.cell (i := 0) (by omega)
      have f4 := cd.frozen 0
      clear cd hx1 hx3 hsz1
      go_wp2_with (at_builtin; refine Lib.wpList_append_run _ rfl _ _ _ _ rfl _ _ rfl rfl _ _ (HR4.out _) ?_)
      go_roundg (gk - 1)
      case measure => have := HG.out; omega
      case rel => exact ⟨j + 1, by have := HG.out; have := HJ.out; omega, by go_num, _, _, _, HN5.out, HK5.out⟩
    · obtain rfl : j = n := by have := HG.out; omega
      go_wp2
      go_ret
      unfold NewPost
      rw [← HB.out]
      exact ⟨rfl, HNU.out.at_ HN.out, HGR.out⟩
end
end Go.Proofs.Ytcbefohnicjkjaa.HdT
