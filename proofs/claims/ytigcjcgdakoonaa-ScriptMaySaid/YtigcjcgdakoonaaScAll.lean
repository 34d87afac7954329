/-
  Package script: All (the steps of many bytes).
-/
import Derived.Test.YtigcjcgdakoonaaScStep
import Derived.Laws.Cover3
import Derived.Lib.AppendZeros
namespace Go.Proofs.Ytigcjcgdakoonaa.ScA
open Go.ChangeShapes Go.WideShapes Go.ChangeAt Go.RowKit
open Go.Proofs.Ytigcjcgdakoonaa.Mem Go.Proofs.Ytigcjcgdakoonaa.Blk Go.Proofs.Ytigcjcgdakoonaa.Cells Go.Proofs.Ytigcjcgdakoonaa.Orow Go.Proofs.Ytigcjcgdakoonaa.MdM Go.Proofs.Ytigcjcgdakoonaa.ScM Go.Proofs.Ytigcjcgdakoonaa.ScC Go.Proofs.Ytigcjcgdakoonaa.ScO Go.Proofs.Ytigcjcgdakoonaa.ScR Go.Proofs.Ytigcjcgdakoonaa.ScS Go.Proofs.Ytigcjcgdakoonaa.Stages

/-- Steps are handed back, in a row that is new. -/
def StepsP (n : Nat) (L : Nat → Stp) (w : World) (e : Ending) (w' : World) : Prop := ∃ v Q, e = .returned v ∧ SV w' w.heap.size v n L Q ∧ Grow w w'
section
variable {w w' : World} {B B' n : Nat} {L M : Nat → Stp} {Q : Nat → Ad} {v : Value} {A : Option Addr} {zs : List Int}
theorem SRow.mono {g cap : Nat} (h : SRow w B g cap n L Q) (hB : B' ≤ B) : SRow w B' g cap n L Q := ⟨h.row, fun i hi => (h.dat i hi).mono fun _ _ hx => ⟨hx.1, Nat.le_trans hB hx.2⟩, Nat.le_trans hB h.low⟩
theorem SV.mono (h : SV w B v n L Q) (hB : B' ≤ B) : SV w B' v n L Q := by
  rcases h with h | ⟨g, cap, e, h⟩
  · exact .inl h
  · exact .inr ⟨g, cap, e, SRow.mono h hB⟩
theorem SRow.congr {g cap : Nat} (h : SRow w B g cap n L Q) (e : ∀ i, i < n → L i = M i) : SRow w B g cap n M Q :=
  ⟨h.row.congr fun j hj => by unfold stf; rw [e (j / 11) (by omega)], fun i hi => by rw [← e i hi]; exact h.dat i hi, h.low⟩
theorem SV.congr (h : SV w B v n L Q) (e : ∀ i, i < n → L i = M i) : SV w B v n M Q := by
  rcases h with h | ⟨g, cap, e', h⟩
  · exact .inl h
  · exact .inr ⟨g, cap, e', SRow.congr h e⟩
theorem updS_self (L : Nat → Stp) (n : Nat) : updS L n (L n) = L := by
  funext i
  unfold updS
  split
  · rename_i h; rw [h]
  · rfl
theorem made_steps (w : World) (n : Nat) (hn : n ≤ 1000) : (Instr.makeSlice 26 (.int .i64 0) (.int .i64 ((n : Int) / 4))).run Try.prog w = .ok (.slice (some ⟨w.heap.size, 0, none⟩) 0 (n / 4)) (w.alloc (.cells (madeCells (Value.cells (.agg #[.int .i64 0, .int .i64 0, .int .i64 0, .int .i64 0, .int .i64 0, .int .i64 0, .int .i64 0, .int .i64 0, .int .i64 0, .slice none 0 0, .slice none 0 0])) (n / 4 * 11)) 33)) := by
  obtain ⟨i, hi, hz, hs, hb⟩ := info_parts st_inforows
  have := run_make (P := Try.prog) w 26 33 i _ Try.underlying26 hi hz .i64 .i64 0 ((n : Int) / 4) (by omega) (by omega) (by rw [hb]; omega) (by omega)
  rw [hs, show ((n : Int) / 4).toNat = n / 4 by omega] at this
  exact this
theorem sv_made (w : World) (z : Array Value) (n : Nat) (hn : n ≤ 1000) (L : Nat → Stp) (Q : Nat → Ad) : SV (w.alloc (.cells (madeCells z (n / 4 * 11)) 33)) w.heap.size (.slice (some ⟨w.heap.size, 0, none⟩) 0 (n / 4)) 0 L Q :=
  .inr ⟨w.heap.size, n / 4, rfl, ⟨_, heap_alloc_new w _, size_madeCells _ _, Nat.zero_le _, by unfold maxLen; omega, fun i hi => by omega⟩, fun i hi => absurd hi (Nat.not_lt_zero i), Nat.le_refl _⟩
theorem conf_new (w : World) (p f s k : Int) : ∃ w0 : World, w.alloc (.cells #[.int .i64 p, .int .i64 f, .int .i64 s, .int .i64 k] 24) = w0 ∧ Blk w0 w.heap.size 24 [.int .i64 p, .int .i64 f, .int .i64 s, .int .i64 k] ∧ Grow w w0 :=
  ⟨_, rfl, Blk.new w _ _, (Kept.refl _ _).alloc _⟩
set_option maxHeartbeats 8000000 in
theorem all_any {c : Cf} {n cap : Nat} (hs : Sl w w.heap.size .u8 A n zs) (hz : Bytes zs) (hn : n ≤ 1000) (hc1 : n ≤ cap) : Calls Try.prog 8 #[.slice A n cap, cfv c] w (StepsP (stepsN c n) (stepAt c zs) w) := by
  have CM : Hid (∀ wx, Calls Try.prog 15 #[cfv c] wx (Tells c.may wx)) := fun wx => may_any c wx
  have HS := Lib.hid hs
  have HZ := Lib.hid hz
  have HN := Lib.hid hn
  have HC1 := Lib.hid hc1
  have hnz : (n : Int) ≤ 1000 := by omega
  have km := fun w => made_steps w n hn
  clear hs hz hn
  by_cases hc : c.may
  · have HM := Lib.hid hc
    have HST : Hid (stepsN c n = n / 4) := by unfold Hid stepsN; rw [if_pos hc]
    rw [HST.out]
    clear hc
    obtain ⟨cp, cf, cs, cc⟩ := c
    unfold cfv at CM ⊢
    dsimp only at CM ⊢
    go_enter Try.func8, Try.ntmps8
    go_wp2
    go_step3
    go_upto_region 1 with (fail)
    obtain ⟨w0, hw0, hb, hg0⟩ := conf_new w cp cf cs cc
    have HB := Lib.hid hb
    have HG0 := Lib.hid hg0
    have c0 := hb.cell 0
    have c1 := hb.cell 1
    have c2 := hb.cell 2
    have c3 := hb.cell 3
    simp only [List.getElem?_cons_zero, List.getElem?_cons_succ] at c0 c1 c2 c3
    rw [hw0]
    clear hw0 hb hg0
    obtain ⟨g, hgg⟩ : ∃ g, g = w.heap.size := ⟨_, rfl⟩
    rw [← hgg] at c0 c1 c2 c3 HB ⊢
    have HGE : Hid (w.heap.size = g) := hgg.symm
    clear hgg
    go_upto_region 3 with (go_at_call 15; (with_reducible refine (CM.out _).mono ?_); rintro e wm ⟨⟨bm, rfl, hbm⟩, hgm⟩; obtain rfl := hbm.2 HM.out; have HGM := Lib.hid hgm; clear hbm hgm)
    clear c0 c1 c2 c3 CM
    have HSV0 := Lib.hid (sv_made wm (Value.cells (.agg #[.int .i64 0, .int .i64 0, .int .i64 0, .int .i64 0, .int .i64 0, .int .i64 0, .int .i64 0, .int .i64 0, .int .i64 0, .slice none 0 0, .slice none 0 0])) n HN.out (stepAt ⟨cp, cf, cs, cc⟩ zs) fun _ => zad)
    have HGA : Hid (Grow wm (wm.alloc (.cells (madeCells (Value.cells (.agg #[.int .i64 0, .int .i64 0, .int .i64 0, .int .i64 0, .int .i64 0, .int .i64 0, .int .i64 0, .int .i64 0, .int .i64 0, .slice none 0 0, .slice none 0 0])) (n / 4 * 11)) 33))) := (Kept.refl _ _).alloc _
    have HBM := Lib.hid (HB.out.grow HGM.out)
    have HGW := Lib.hid ((HG0.out.trans HGM.out).trans HGA.out)
    have HBW := Lib.hid (HBM.out.grow HGA.out)
    have HSV := Lib.hid (SV.mono (B' := g + 1) HSV0.out (by have := HBM.out.lt; omega))
    clear HSV0 HGA HBM HB HG0 HGM
    go_wp2
    go_step3
    go_wp2
    clear km
    go_loopg [5, 6] (n / 4) (fun gx v i wr => ∃ (j a : Nat) (Q : Nat → Ad), j + gx = n / 4 ∧ a = 4 * j ∧ i = .int .i64 (a : Int) ∧ SV wr (g + 1) v j (stepAt ⟨cp, cf, cs, cc⟩ zs) Q ∧ Blk wr g 24 [.int .i64 cp, .int .i64 cf, .int .i64 cs, .int .i64 cc] ∧ Grow w wr)
    case atStart => exact ⟨0, 0, _, by omega, rfl, rfl, HSV.out, HBW.out, HGW.out⟩
    case round =>
      clear HSV HBW HGW
      obtain ⟨j, a, Q, hg, ha, rfl, hsv, hb, hgr⟩ := hrel
      have HG := Lib.hid hg
      have HA := Lib.hid ha
      have HSV := Lib.hid hsv
      have HB := Lib.hid hb
      have HGR := Lib.hid hgr
      clear hg hsv hb hgr
      by_cases hj : j < n / 4
      · have HJ := Lib.hid hj
        have han : a + 4 ≤ n := by omega
        obtain ⟨b, off, rfl, hbw, hcell⟩ := HS.out.at_ (by omega)
        have HBB := Lib.hid hbw
        have HZA := Lib.hid (And.intro (byte_at HZ.out a) (And.intro (byte_at HZ.out (a + 1)) (And.intro (byte_at HZ.out (a + 2)) (byte_at HZ.out (a + 3)))))
        have HEQ : Hid (stepAt ⟨cp, cf, cs, cc⟩ zs j = stepM ⟨cp, cf, cs, cc⟩ (zs.getD a 0) (zs.getD (a + 1) 0) (zs.getD (a + 2) 0) (zs.getD (a + 3) 0)) := by unfold Hid stepAt; rw [ha]
        have z0 := HGR.out.cellN (hcell a (by omega)) id
        have z1 := HGR.out.cellN (hcell (a + 1) (by omega)) id
        have z2 := HGR.out.cellN (hcell (a + 2) (by omega)) id
        have z3 := HGR.out.cellN (hcell (a + 3) (by omega)) id
        generalize zs.getD a 0 = k0 at z0 HZA HEQ
        generalize zs.getD (a + 1) 0 = k1 at z1 HZA HEQ
        generalize zs.getD (a + 2) 0 = k2 at z2 HZA HEQ
        generalize zs.getD (a + 3) 0 = k3 at z3 HZA HEQ
        have c0 := HB.out.cell 0
        have c1 := HB.out.cell 1
        have c2 := HB.out.cell 2
        have c3 := HB.out.cell 3
        simp only [List.getElem?_cons_zero, List.getElem?_cons_succ] at c0 c1 c2 c3
        have ha0 : (0 : Int) ≤ (a : Int) := by omega
        have haz : (a : Int) ≤ (n : Int) := by omega
        have haz4 : ¬ (((n - a : Nat) : Int) < 4) := by omega
        have hcz : (n : Int) ≤ (cap : Int) := by omega
        have hne : ¬ (cap = a) := by omega
        have hne' : ¬ (a = cap) := by omega
        clear hcell ha hj hbw
        go_upto_region 7 with (fail)
        have hat : ∀ wx, (Instr.arrayAt 43 (.slice (some ⟨b, off + a, none⟩) (n - a) (cap - a))).run Try.prog wx = .ok (.pointer (some ⟨b, off + a, none⟩)) wx := fun wx => run_arrayAt wx 43 _ 4 _ (n - a) (cap - a) Try.underlying43 (by omega)
        have hvb : u5.ownBlock ≠ some b := fun e => by have h1 := (HSV.out.own e).1; have h2 := HBB.out; have h3 := HGE.out; omega
        have hvg : u5.ownBlock ≠ some g := fun e => by have h1 := (HSV.out.own e).1; omega
        have y0 := up_cell (F := fun k => u5.ownBlock = some k) (w := wr.drew) (p := ⟨b, off + a, none⟩) z0 hvb
        have y1 := up_cell (F := fun k => u5.ownBlock = some k) (w := wr.drew) (p := ⟨b, off + a + 1, none⟩) z1 hvb
        have y2 := up_cell (F := fun k => u5.ownBlock = some k) (w := wr.drew) (p := ⟨b, off + a + 2, none⟩) z2 hvb
        have y3 := up_cell (F := fun k => u5.ownBlock = some k) (w := wr.drew) (p := ⟨b, off + a + 3, none⟩) z3 hvb
        have x0 := up_cell (F := fun k => u5.ownBlock = some k) (w := wr.drew) (p := ⟨g, 0, none⟩) c0 hvg
        have x1 := up_cell (F := fun k => u5.ownBlock = some k) (w := wr.drew) (p := ⟨g, 1, none⟩) c1 hvg
        have x2 := up_cell (F := fun k => u5.ownBlock = some k) (w := wr.drew) (p := ⟨g, 2, none⟩) c2 hvg
        have x3 := up_cell (F := fun k => u5.ownBlock = some k) (w := wr.drew) (p := ⟨g, 3, none⟩) c3 hvg
        have HVG := Lib.hid (And.intro hvb hvg)
        have CS : Hid (∀ wx, Calls Try.prog 16 #[.agg #[.int .u8 k0, .int .u8 k1, .int .u8 k2, .int .u8 k3], .agg #[.int .i64 cp, .int .i64 cf, .int .i64 cs, .int .i64 cc]] wx (StP (stepM ⟨cp, cf, cs, cc⟩ k0 k1 k2 k3) wx)) := fun wx => step_any (c := ⟨cp, cf, cs, cc⟩) HM.out HZA.out.1 HZA.out.2.1 HZA.out.2.2.1 HZA.out.2.2.2 wx
        clear z0 z1 z2 z3 c0 c1 c2 c3 hvb hvg
        refine wp_region_stages (Kept (fun k => u5.ownBlock = some k)) (kept_refl _) (kept_trans _) [([0, 1, 4], 2), ([3], 5), ([], 6), ([], 7)] [8] (by kernel_rfl) (by kernel_rfl) ?_
        simp only [selSt, sel, List.map_cons, List.map_nil, List.getD_cons_succ, List.getD_cons_zero]
        refine st_cons fun K1 hK1 => ?_
        repeat (go_big_quiet_step (fail))
        refine wpQuiet_nil ?_
        go_wp2_with (simp only [hat])
        refine norm_up (hK1 _ _ (Kept.refl _ _) ?_)
        clear hK1 K1
        refine st_cons fun K2 hK2 => ?_
        repeat (go_big_quiet_step (fail))
        refine wpQuiet_nil ?_
        go_wp2_with (go_at_call 16; (with_reducible refine (CS.out _).mono ?_); rintro e ws ⟨d, rfl, hstd, hgs⟩; have HSTD := Lib.hid hstd; have HGS := Lib.hid hgs; clear hstd hgs)
        refine norm_up (hK2 _ _ (Grow.kept HGS.out) ?_)
        clear hK2 K2 y0 y1 y2 y3 x0 x1 x2 x3 hat
        have hgs := HGS.out
        have hsv := ScR.SV.grow HSV.out ((Kept.drew' wr).trans hgs)
        have hnew := Blk.new ws 33 (stl (stepM ⟨cp, cf, cs, cc⟩ k0 k1 k2 k3) d)
        have hga : Grow ws (ws.alloc (.cells (stl (stepM ⟨cp, cf, cs, cc⟩ k0 k1 k2 k3) d).toArray 33)) := (Kept.refl _ _).alloc _
        have hwrg : g < wr.heap.size := HB.out.lt
        obtain ⟨q, cq, w3, hr, hrow, hk3, hq3⟩ := ScR.SV.push 26 (ScR.SV.grow hsv hga) (by have := HJ.out; have := HN.out; omega) ws.heap.size 1 (fun i u hi => by rw [hnew.cell]; exact hi) ((HSTD.out.grow hga).mono fun k hk hx => ⟨fun e => by
          have h1 := (HSV.out.own e).2
          have h2 : wr.heap.size ≤ k := hx
          omega, by
          have h2 : wr.heap.size ≤ k := hx
          omega⟩) (by have h1 := hgs.size; have h2 := hga.size; have h3 : wr.drew.heap.size = wr.heap.size := rfl; omega)
        have HR := Lib.hid hr
        have HROW := Lib.hid hrow
        have HK3 := Lib.hid hk3
        have HGA := Lib.hid hga
        clear hsv hnew hga hr hrow hk3 hq3 hgs
        refine st_cons fun K3 hK3 => ?_
        refine wpQuiet_nil ?_
        go_wp2
        refine norm_up (hK3 _ _ (Grow.kept HGA.out) ?_)
        clear hK3 K3
        refine st_cons fun K4 hK4 => ?_
        refine wpQuiet_nil ?_
        go_wp2_with (at_builtin; refine Lib.wpList_append_run _ rfl _ _ _ _ rfl _ _ rfl rfl _ _ HR.out ?_)
        refine norm_up (hK4 _ _ HK3.out (st_nil fun K5 hK5 => ?_))
        clear hK4 K4
        repeat (go_big_quiet_step (fail))
        refine wpQuiet_nil (hK5 _ ?_)
        clear hK5 K5
        go_wp2
        clear haz4
        go_roundg (gk - 1)
        case measure => have := HG.out; have := HJ.out; omega
        case rel =>
          have hgw : Grow w w3 := ((HGR.out.drew.trans HGS.out).trans HGA.out).then HK3.out fun k hk e => by have h1 := (HSV.out.own e).1; have h3 := HGE.out; omega
          have hrow := HROW.out
          rw [← HEQ.out, updS_self] at hrow
          exact ⟨j + 1, a + 4, _, by have := HG.out; have := HJ.out; omega, by have := HA.out; omega, by go_num, .inr ⟨q, cq, rfl, hrow⟩, (((Blk.drew HB.out).grow HGS.out).grow HGA.out).kept HK3.out HVG.out.2, hgw⟩
      · have hjn : j = n / 4 := by have := HG.out; omega
        have haz4 : ((n - a : Nat) : Int) < 4 := by omega
        have ha0 : (0 : Int) ≤ (a : Int) := by omega
        have haz : (a : Int) ≤ (n : Int) := by omega
        have hcz : (n : Int) ≤ (cap : Int) := by omega
        have HP : Hid (StepsP (n / 4) (stepAt ⟨cp, cf, cs, cc⟩ zs) w (.returned u5) wr) := ⟨u5, Q, rfl, by rw [← hjn]; exact SV.mono HSV.out (by have := HGE.out; omega), HGR.out⟩
        clear HSV HB HGR HG HA hjn ha hj
        go_wp2
        all_goals (try rw [Exit.noGoto_ret])
        all_goals go_ret
        all_goals exact HP.out
  · have HM := Lib.hid hc
    have HST : Hid (stepsN c n = 0) := by unfold Hid stepsN; rw [if_neg hc]
    rw [HST.out]
    clear hc
    obtain ⟨cp, cf, cs, cc⟩ := c
    unfold cfv at CM ⊢
    dsimp only at CM ⊢
    go_enter Try.func8, Try.ntmps8
    go_wp2
    go_step3
    go_upto_region 1 with (fail)
    obtain ⟨w0, hw0, hb, hg0⟩ := conf_new w cp cf cs cc
    have HG0 := Lib.hid hg0
    have c0 := hb.cell 0
    have c1 := hb.cell 1
    have c2 := hb.cell 2
    have c3 := hb.cell 3
    simp only [List.getElem?_cons_zero, List.getElem?_cons_succ] at c0 c1 c2 c3
    rw [hw0]
    clear hw0 hb hg0
    go_wp2_with (go_at_call 15; (with_reducible refine (CM.out _).mono ?_); rintro e wm ⟨⟨bm, rfl, hbm⟩, hgm⟩; obtain rfl : bm = false := (by cases bm with | false => rfl | true => exact absurd (hbm.1 rfl) HM.out); have HGM := Lib.hid hgm; clear hbm hgm)
    try rw [Exit.noGoto_ret]
    go_ret
    exact ⟨_, fun _ => zad, rfl, SV.nil _ _ _ _, HG0.out.trans HGM.out⟩
end
#print axioms all_any
end Go.Proofs.Ytigcjcgdakoonaa.ScA
