/-
  The document's state (lavaboref13.S): Is and SameRes, where they tell true.
-/
import Derived.Test.YteiodnclpbjbbaaPmMay
import Derived.Test.YteiodnclpbjbbaaInts
namespace Go.Proofs.Yteiodnclpbjbbaa.MdI
open Go.ChangeShapes Go.WideShapes Go.ChangeAt Go.RowKit
open Go.Proofs.Yteiodnclpbjbbaa.Mem Go.Proofs.Yteiodnclpbjbbaa.Blk Go.Proofs.Yteiodnclpbjbbaa.Cells Go.Proofs.Yteiodnclpbjbbaa.Orow Go.Proofs.Yteiodnclpbjbbaa.GrC Go.Proofs.Yteiodnclpbjbbaa.MdM Go.Proofs.Yteiodnclpbjbbaa.MdC Go.Proofs.Yteiodnclpbjbbaa.PmC Go.Proofs.Yteiodnclpbjbbaa.PmM Go.Proofs.Yteiodnclpbjbbaa.IntsC Go.Proofs.Yteiodnclpbjbbaa.Stages

section
variable {w w' : World} {G : Nat → Prop} {x v : Value} {a : Md}
set_option maxHeartbeats 4000000 in
theorem is_true (h : SAt w G x a) (hs : Seen w v (stOf a)) : Calls Try.prog 21 #[x, v] w fun e w' => e = .returned (.bool true) ∧ Grow w w' := by
  have hgd := h.good
  obtain ⟨gT, cT, gB, cB, gH, cH, q, cp, rfl, hm⟩ := h.mem
  obtain ⟨AT, kT, AB, kB, AH, kH, rfl, hp⟩ := hs
  unfold sval stv
  show Calls Try.prog 21 #[.agg #[.slice (some ⟨gT, 0, none⟩) a.n cT, .slice (some ⟨gB, 0, none⟩) a.n cB, .slice (some ⟨gH, 0, none⟩) a.N cH], .agg #[.slice AT a.n kT, .slice AB a.n kB, .slice AH a.N kH]] w _
  have hb := Blk.new w 41 [.slice (some ⟨gT, 0, none⟩) a.n cT, .slice (some ⟨gB, 0, none⟩) a.n cB, .slice (some ⟨gH, 0, none⟩) a.N cH]
  have hg : Grow w (w.alloc (.cells #[.slice (some ⟨gT, 0, none⟩) a.n cT, .slice (some ⟨gB, 0, none⟩) a.n cB, .slice (some ⟨gH, 0, none⟩) a.N cH] 41)) := (Kept.refl _ _).alloc _
  have hz : (w.alloc (.cells #[.slice (some ⟨gT, 0, none⟩) a.n cT, .slice (some ⟨gB, 0, none⟩) a.n cB, .slice (some ⟨gH, 0, none⟩) a.N cH] 41)).heap.size = w.heap.size + 1 := by simp
  have hb2 := Blk.new (w.alloc (.cells #[.slice (some ⟨gT, 0, none⟩) a.n cT, .slice (some ⟨gB, 0, none⟩) a.n cB, .slice (some ⟨gH, 0, none⟩) a.N cH] 41)) 28 [.slice AT a.n kT, .slice AB a.n kB, .slice AH a.N kH]
  have hg2 : Grow (w.alloc (.cells #[.slice (some ⟨gT, 0, none⟩) a.n cT, .slice (some ⟨gB, 0, none⟩) a.n cB, .slice (some ⟨gH, 0, none⟩) a.N cH] 41)) ((w.alloc (.cells #[.slice (some ⟨gT, 0, none⟩) a.n cT, .slice (some ⟨gB, 0, none⟩) a.n cB, .slice (some ⟨gH, 0, none⟩) a.N cH] 41)).alloc (.cells #[.slice AT a.n kT, .slice AB a.n kB, .slice AH a.N kH] 28)) := (Kept.refl _ _).alloc _
  rw [hz] at hb2
  have HB := Lib.hid (hb.grow hg2)
  have HB2 := Lib.hid hb2
  have HG0 := Lib.hid (hg.trans hg2)
  have HM := Lib.hid (hm.kept HG0.out fun _ _ x => x)
  obtain ⟨tb, to', te, ht⟩ := flags_form (hp.T.grow HG0.out)
  obtain ⟨bb, bo, be, hbr⟩ := lists_form (hp.B.grow HG0.out)
  obtain ⟨hb', ho, he, hhr⟩ := lists_form (hp.H.grow HG0.out)
  obtain rfl := te (by have := hgd.n; show 0 < a.n; omega)
  obtain rfl := be (by have := hgd.n; show 0 < a.n; omega)
  obtain rfl := he (by have := hgd.N; show 0 < a.N; omega)
  have HT := Lib.hid ht
  have HBR := Lib.hid hbr
  have HHR := Lib.hid hhr
  have HGD := Lib.hid hgd
  have hnz : (a.n : Int) ≤ 48 := by have := hgd.n; omega
  have hNz : (a.N : Int) ≤ 6 := by have := hgd.N; omega
  clear hb hg hz hb2 hg2 hm hp ht hbr hhr te be he h hgd
  go_enter Try.func21, Try.ntmps21
  go_upto_region 1 with (fail)
  generalize (w.alloc (.cells #[.slice (some ⟨gT, 0, none⟩) a.n cT, .slice (some ⟨gB, 0, none⟩) a.n cB, .slice (some ⟨gH, 0, none⟩) a.N cH] 41)).alloc (.cells #[.slice (some ⟨tb, to', none⟩) a.n kT, .slice (some ⟨bb, bo, none⟩) a.n kB, .slice (some ⟨hb', ho, none⟩) a.N kH] 28) = w0 at *
  generalize w.heap.size = s at HB HB2 ⊢
  have x0 := HB.out.cell 0
  have x1 := HB.out.cell 1
  have x2 := HB.out.cell 2
  have y0 := HB2.out.cell 0
  have y1 := HB2.out.cell 1
  have y2 := HB2.out.cell 2
  simp only [List.getElem?_cons_zero, List.getElem?_cons_succ] at x0 x1 x2 y0 y1 y2
  go_wp2
  clear x0 x1 x2 y0 y1 y2
  go_loopg [5] a.n (fun gx i wr => ∃ j : Nat, j + gx = a.n ∧ i = .int .i64 (j : Int) ∧ Grow w0 wr)
  case atStart => exact ⟨0, by omega, rfl, Kept.refl _ _⟩
  case round =>
    obtain ⟨j, hg, rfl, hgr⟩ := hrel
    have HG := Lib.hid hg
    have HGR := Lib.hid hgr
    clear hg hgr
    have x0 := (HB.out.grow HGR.out).cell 0
    have x1 := (HB.out.grow HGR.out).cell 1
    have y0 := (HB2.out.grow HGR.out).cell 0
    have y1 := (HB2.out.grow HGR.out).cell 1
    simp only [List.getElem?_cons_zero, List.getElem?_cons_succ] at x0 x1 y0 y1
    by_cases hj : j < a.n
    · have hjz : (j : Int) < (a.n : Int) := by omega
      have HJ := Lib.hid hj
      have t1 := HGR.out.cellN (HT.out j hj) id
      obtain ⟨A', c', hcb, hsl⟩ := HBR.out j hj
      have e16 : ((stOf a).B j).length = 16 := HGD.out.len j
      rw [e16] at hcb hsl
      have hcb := HGR.out.cellN hcb id
      have d1 := HGR.out.cellN (HM.out.tb.cell (i := j) (by omega)) id
      have d2 := HGR.out.cellN (HM.out.bb.cell (i := j) (by omega)) id
      unfold tcell at d1
      unfold bcell at d2
      have hsl := sl_grow hsl HGR.out
      have q0 := up_cell (F := fun _ => False) (w := wr.drew) x0 id
      have q1 := up_cell (F := fun _ => False) (w := wr.drew) x1 id
      have q2 := up_cell (F := fun _ => False) (w := wr.drew) y0 id
      have q3 := up_cell (F := fun _ => False) (w := wr.drew) y1 id
      have q4 := up_cell (F := fun _ => False) (w := wr.drew) t1 id
      have q5 := up_cell (F := fun _ => False) (w := wr.drew) hcb id
      have q6 := up_cell (F := fun _ => False) (w := wr.drew) d1 id
      have q7 := up_cell (F := fun _ => False) (w := wr.drew) d2 id
      have HSL := Lib.hid (sl_grow hsl (Kept.drew' wr (F := fun _ => False)))
      have q8 := up_run (F := fun _ => False) (P := Try.prog) (w := wr.drew) fun w' hk => (sl_grow HSL.out hk).str 22 9 5 Try.underlying22 Try.underlying5 Try.underlying9 c'
      replace q4 : ∀ u : Up (Kept fun _ => False) wr.drew, u.u.cell? ⟨tb, to' + j, none⟩ = some (.bool (a.T j)) := q4
      replace q8 : ∀ u : Up (Kept fun _ => False) wr.drew, (convert 22 9 (.slice A' 16 c')).run Try.prog u.u = .ok (.string (strOfNums (a.B j))) u.u := q8
      generalize strOfNums (a.B j) = sx at q7 q8
      generalize a.T j = bx at q4 q6
      have hbb : (bx != bx) = false := by simp
      have hss : (sx.toList != sx.toList) = false := by simp
      have hst : (sx.toList == sx.toList) = true := by simp
      clear t1 hcb d1 d2 hj hsl e16
      go_upto_region 6 with (fail)
      clear x0 x1 y0 y1
      refine wp_region_stages Grow (kept_refl _) (kept_trans _) [] [0, 1, 2, 3, 4, 5, 6, 7, 8, 9, 10, 11, 12, 13, 14, 15, 16, 17, 18, 19, 20, 21, 22, 23, 24] (by kernel_rfl) (by kernel_rfl) ?_
      simp only [selSt, sel, List.map_cons, List.map_nil, List.getD_cons_succ, List.getD_cons_zero]
      refine st_nil fun K2 hK2 => ?_
      repeat (go_big_quiet_step (fail))
      refine wpQuiet_nil (hK2 _ ?_)
      clear hK2 K2 q0 q1 q2 q3 q4 q5 q6 q7 q8 hbb hss hst
      go_wp2
      go_roundg (gk - 1)
      case measure => have := HG.out; have := HJ.out; omega
      case rel => exact ⟨j + 1, by have := HG.out; have := HJ.out; omega, by go_num, HGR.out.drew⟩
    · obtain rfl : j = a.n := by have := HG.out; omega
      clear hj
      go_wp2
      clear x0 x1 y0 y1
      obtain ⟨wq, rfl⟩ : ∃ wq, wq = wr := ⟨_, rfl⟩
      have x2 := (HB.out.grow HGR.out).cell 2
      simp only [List.getElem?_cons_zero, List.getElem?_cons_succ] at x2
      go_loopg [6] a.N (fun gx i wr => ∃ j : Nat, j + gx = a.N ∧ i = .int .i64 (j : Int) ∧ Grow w0 wr)
      case atStart => exact ⟨0, by omega, rfl, HGR.out⟩
      case round =>
        obtain ⟨j, hg, rfl, hgr⟩ := hrel
        have HG := Lib.hid hg
        have HGR := Lib.hid hgr
        clear hg hgr
        have x2 := (HB.out.grow HGR.out).cell 2
        have y2 := (HB2.out.grow HGR.out).cell 2
        simp only [List.getElem?_cons_zero, List.getElem?_cons_succ] at x2 y2
        by_cases hj : j < a.N
        · have hjz : (j : Int) < (a.N : Int) := by omega
          have HJ := Lib.hid hj
          obtain ⟨A', c', hch, hsl⟩ := HHR.out j hj
          have e6 : ((stOf a).H j).length = 6 := six_len _
          rw [e6] at hch hsl
          have hch := HGR.out.cellN hch id
          have d2 := HGR.out.cellN (HM.out.hb.cell (i := j) (by omega)) id
          unfold scell at d2
          have HS1 := Lib.hid (sl_grow hsl HGR.out)
          have HS2 := Lib.hid (six_sl ((HM.out.rb j hj).kept HGR.out id))
          have q0 := up_cell (F := fun _ => False) (w := wr.drew) x2 id
          have q1 := up_cell (F := fun _ => False) (w := wr.drew) y2 id
          have q2 := up_cell (F := fun _ => False) (w := wr.drew) hch id
          have q3 := up_cell (F := fun _ => False) (w := wr.drew) d2 id
          clear hch d2 hsl e6 hj
          go_upto_region 11 with (fail)
          clear x2 y2
          refine wp_region_stages Grow (kept_refl _) (kept_trans _) [([0, 1, 2, 3, 4, 5, 6, 7, 8, 9], 10)] [11] (by kernel_rfl) (by kernel_rfl) ?_
          simp only [selSt, sel, List.map_cons, List.map_nil, List.getD_cons_succ, List.getD_cons_zero]
          refine st_cons fun K1 hK1 => ?_
          repeat (go_big_quiet_step (fail))
          refine wpQuiet_nil ?_
          clear q0 q1 q2 q3
          have HI : Hid (Calls Try.prog 43 #[.slice A' 6 c', .slice (some ⟨q j, 0, none⟩) 6 (cp j)] wr.drew fun e w' => e = .returned (.bool true) ∧ Grow wr.drew w') := ints_true _ _ 6 c' (cp j) _ _ (six (a.H j)) (by omega) (sl_grow HS1.out (Kept.drew' wr)) (sl_grow HS2.out (Kept.drew' wr))
          go_wp2_with (go_at_call 43; (with_reducible refine HI.out.mono ?_); rintro e wi ⟨rfl, hgi⟩; have HGI := Lib.hid hgi; clear hgi)
          refine norm_up (hK1 _ _ HGI.out (st_nil fun K2 hK2 => ?_))
          clear hK1 K1
          repeat (go_big_quiet_step (fail))
          refine wpQuiet_nil (hK2 _ ?_)
          clear hK2 K2
          go_wp2
          go_roundg (gk - 1)
          case measure => have := HG.out; have := HJ.out; omega
          case rel => exact ⟨j + 1, by have := HG.out; have := HJ.out; omega, by go_num, HGR.out.drew.trans HGI.out⟩
        · obtain rfl : j = a.N := by have := HG.out; omega
          clear hj
          go_wp2
          go_ret
          exact ⟨rfl, HG0.out.trans HGR.out⟩
end
end Go.Proofs.Yteiodnclpbjbbaa.MdI
