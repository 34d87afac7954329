/-
  The document's Steps (lavaboref13).
-/
import Derived.Test.YtigcjcgdakoonaaScAll
import Derived.Test.YtigcjcgdakoonaaTxt
namespace Go.Proofs.Ytigcjcgdakoonaa.ScF
open Go.ChangeShapes Go.WideShapes Go.ChangeAt Go.RowKit
open Go.Proofs.Ytigcjcgdakoonaa.Mem Go.Proofs.Ytigcjcgdakoonaa.Blk Go.Proofs.Ytigcjcgdakoonaa.Cells Go.Proofs.Ytigcjcgdakoonaa.Orow Go.Proofs.Ytigcjcgdakoonaa.Txt Go.Proofs.Ytigcjcgdakoonaa.MdM Go.Proofs.Ytigcjcgdakoonaa.ScM Go.Proofs.Ytigcjcgdakoonaa.ScC Go.Proofs.Ytigcjcgdakoonaa.ScO Go.Proofs.Ytigcjcgdakoonaa.ScR Go.Proofs.Ytigcjcgdakoonaa.ScS Go.Proofs.Ytigcjcgdakoonaa.ScA Go.Proofs.Ytigcjcgdakoonaa.Stages

section
variable {w w' : World} {zs : List Int}
theorem low_bit8 : ∀ n : Fin 256, (bits .and .u8 ((n.val : Nat) : Int) 1 == 1) = decide (n.val % 2 = 1) := by decide +kernel
theorem low_bit {y : Int} (h : 0 ≤ y ∧ y < 256) : (y % 2 = 0 → (bits .and .u8 y 1 == 1) = false) ∧ (¬ y % 2 = 0 → (bits .and .u8 y 1 == 1) = true) := by
  obtain ⟨n, rfl⟩ := Int.eq_ofNat_of_zero_le h.1
  have e := low_bit8 ⟨n, by omega⟩
  dsimp only at e
  rw [e]
  exact ⟨fun h => decide_eq_false (by omega), fun h => decide_eq_true (by omega)⟩
theorem byte_get (h : Bytes zs) {i : Nat} (hi : i < (strOfNums zs).size) : (((strOfNums zs)[i]'hi).toNat : Int) = zs.getD i 0 := by
  have hi' : i < zs.length := by rw [← str_size]; exact hi
  have e : (strOfNums zs)[i]'hi = (strOfNums zs).data[i]'hi := rfl
  rw [e]
  have hb := h (zs[i]) (List.getElem_mem hi')
  simp [strOfNums, List.getD_eq_getElem?_getD, hi']
  omega
/-- What is behind a row of steps that one step is added to; the step has lain in a block of its own. -/
theorem push_tail {B g j : Nat} {v : Value} {L : Nat → Stp} {Q : Nat → Ad} {d : Ad} {t : TypeId} {cs : List Value} (hsv : SV w B v j L Q) (hj : j ≤ 1000) (hd : StD w (fun k => v.ownBlock ≠ some k ∧ B ≤ k) (L j) d) (hB : B ≤ w.heap.size) (hb : Blk w g t cs) (hg : g < B) :
    ∃ q cq w3, (Builtin.append_ #[26, 26] 26 #[v, .slice (some ⟨w.heap.size, 0, none⟩) 1 1]).run Try.prog (w.alloc (.cells (stl (L j) d).toArray 33)) = .ok (.slice (some ⟨q, 0, none⟩) (j + 1) cq) w3 ∧ SV w3 B (.slice (some ⟨q, 0, none⟩) (j + 1) cq) (j + 1) L (updA Q j d) ∧ Blk w3 g t cs ∧ ∀ w', Grow w' w → w'.heap.size ≤ B → Grow w' w3 := by
  have hnew := Blk.new w 33 (stl (L j) d)
  have hga : Grow w (w.alloc (.cells (stl (L j) d).toArray 33)) := (Kept.refl _ _).alloc _
  obtain ⟨q, cq, w3, hr, hrow, hk3, _⟩ := ScR.SV.push 26 (ScR.SV.grow hsv hga) (by omega) w.heap.size 1 (fun i u hi => by rw [hnew.cell]; exact hi) (hd.grow hga) (by have := hga.size; omega)
  rw [updS_self] at hrow
  refine ⟨q, cq, w3, hr, .inr ⟨q, cq, rfl, hrow⟩, (hb.grow hga).kept hk3 fun e => by have := (hsv.own e).1; omega, fun w' hw hB' => (hw.trans hga).then hk3 fun k hk e => by have := (hsv.own e).1; omega⟩
set_option maxHeartbeats 8000000 in
set_option maxRecDepth 4000 in
theorem steps_any {c : Cf} {n : Nat} (hl : zs.length = n) (hz : Bytes zs) (hn : n ≤ 1000) (w : World) : Calls Try.prog 9 #[.string (strOfNums zs), cfv c] w (StepsP (stepsN c n) (stepAt c zs) w) := by
  have CM : Hid (∀ wx, Calls Try.prog 14 #[cfv c] wx (Tells c.may wx)) := fun wx => rmay_any c wx
  have HZ := Lib.hid hz
  have HL := Lib.hid hl
  have HN := Lib.hid hn
  have hsz : (strOfNums zs).size = n := by rw [str_size, hl]
  have hnz : (n : Int) ≤ 1000 := by omega
  clear hz hn hl
  obtain ⟨cp, cf, cs, cc⟩ := c
  unfold cfv at CM ⊢
  dsimp only at CM ⊢
  go_enter Try.func9, Try.ntmps9
  go_upto_region 1 with (fail)
  obtain ⟨w0, hw0, hb, hg0⟩ := conf_new w cp cf cs cc
  have HB := Lib.hid hb
  have HG0 := Lib.hid hg0
  rw [hw0]
  clear hw0 hb hg0
  obtain ⟨g, hgg⟩ : ∃ g, g = w.heap.size := ⟨_, rfl⟩
  rw [← hgg] at HB ⊢
  have HGE : Hid (w.heap.size = g) := hgg.symm
  clear hgg
  by_cases hc : Cf.may ⟨cp, cf, cs, cc⟩
  · have HM := Lib.hid hc
    have HST : Hid (stepsN ⟨cp, cf, cs, cc⟩ n = n / 4) := by unfold Hid stepsN; rw [if_pos hc]
    rw [HST.out]
    clear hc
    go_wp2
    go_loopg [5, 6] (n / 4) (fun gx v i wr => ∃ (j a : Nat) (Q : Nat → Ad), j + gx = n / 4 ∧ a = 4 * j ∧ i = .int .i64 (a : Int) ∧ SV wr (g + 1) v j (stepAt ⟨cp, cf, cs, cc⟩ zs) Q ∧ Blk wr g 24 [.int .i64 cp, .int .i64 cf, .int .i64 cs, .int .i64 cc] ∧ Grow w wr)
    case atStart => exact ⟨0, 0, fun _ => zad, by omega, rfl, rfl, SV.nil _ _ _ _, HB.out, HG0.out⟩
    case round =>
      clear HB HG0
      obtain ⟨j, a, Q, hg, ha, rfl, hsv, hb, hgr⟩ := hrel
      have HG := Lib.hid hg
      have HA := Lib.hid ha
      have HSV := Lib.hid hsv
      have HB := Lib.hid hb
      have HGR := Lib.hid hgr
      have c0 := hb.cell 0
      have c1 := hb.cell 1
      have c2 := hb.cell 2
      have c3 := hb.cell 3
      simp only [List.getElem?_cons_zero, List.getElem?_cons_succ] at c0 c1 c2 c3
      clear hg hsv hb hgr
      by_cases hj : j < n / 4
      · have HJ := Lib.hid hj
        have ha0 : (0 : Int) ≤ (a : Int) := by omega
        have haz : (a : Int) + 4 ≤ (n : Int) := by omega
        have hb1 : (a : Int) < (n : Int) := by omega
        have hb2 : (a : Int) + 1 < (n : Int) := by omega
        have hb3 : (a : Int) + 2 < (n : Int) := by omega
        have hb4 : (a : Int) + 3 < (n : Int) := by omega
        have hp1 : (0 : Int) ≤ (a : Int) + 1 := by omega
        have hp2 : (0 : Int) ≤ (a : Int) + 2 := by omega
        have hp3 : (0 : Int) ≤ (a : Int) + 3 := by omega
        have HS0 := Lib.hid hsz
        clear ha hj
        go_upto_region 5 with (go_at_call 14; (with_reducible refine (CM.out _).mono ?_); rintro e wm ⟨⟨bm, rfl, hbm⟩, hgm⟩; obtain rfl := hbm.2 HM.out; have HGM := Lib.hid hgm; clear hbm hgm)
        clear c0 c1 c2 c3
        go_quiet (fail)
        have e0 := byte_get HZ.out (i := a) (by rw [hsz]; omega)
        have e1 := byte_get HZ.out (i := a + 1) (by rw [hsz]; omega)
        have e2 := byte_get HZ.out (i := a + 2) (by rw [hsz]; omega)
        have e3 := byte_get HZ.out (i := a + 3) (by rw [hsz]; omega)
        have hzk := And.intro (byte_at HZ.out a) (And.intro (byte_at HZ.out (a + 1)) (And.intro (byte_at HZ.out (a + 2)) (byte_at HZ.out (a + 3))))
        have heq : stepAt ⟨cp, cf, cs, cc⟩ zs j = stepM ⟨cp, cf, cs, cc⟩ (zs.getD a 0) (zs.getD (a + 1) 0) (zs.getD (a + 2) 0) (zs.getD (a + 3) 0) := by unfold stepAt; rw [HA.out]
        rw [← e0, ← e1, ← e2, ← e3] at hzk heq
        clear e0 e1 e2 e3
        generalize ((((strOfNums zs)[a]'(by rw [hsz]; omega)).toNat : Nat) : Int) = k at hzk heq ⊢
        generalize ((((strOfNums zs)[a + 1]'(by rw [hsz]; omega)).toNat : Nat) : Int) = x at hzk heq ⊢
        generalize ((((strOfNums zs)[a + 2]'(by rw [hsz]; omega)).toNat : Nat) : Int) = y at hzk heq ⊢
        generalize ((((strOfNums zs)[a + 3]'(by rw [hsz]; omega)).toNat : Nat) : Int) = z at hzk heq ⊢
        have HK := Lib.hid hzk
        have HEQ := Lib.hid heq
        have HAND := Lib.hid (low_bit hzk.2.2.1)
        have HCC : Hid (1 ≤ cs ∧ cs ≤ 4 ∧ 1 ≤ cc) := by have := HM.out; unfold Cf.may at this; exact ⟨this.2.2.1.1, this.2.2.1.2, this.2.2.2.1⟩
        replace HSV := Lib.hid (ScR.SV.grow HSV.out (HGM.out.drewN nq))
        replace HB := Lib.hid ((HB.out.grow HGM.out).drewN nq)
        replace HGR := Lib.hid (HGR.out.trans (HGM.out.drewN nq))
        obtain ⟨hk0, hx0, hy0, hz0⟩ := hzk
        clear heq HGM hb1 hb2 hb3 hb4 hp1 hp2 hp3 hsz
        generalize wm.drewN nq = w5 at HSV HB HGR ⊢
        go_upto_region 7 with (fail)
        have hnew := Blk.new w5 33 zsl
        have hga : Grow w5 (w5.alloc (.cells zsl.toArray 33)) := (Kept.refl _ _).alloc _
        obtain ⟨h, hh⟩ : ∃ h, h = w5.heap.size := ⟨_, rfl⟩
        have HB6 := HB.out.grow hga
        have c0 := HB6.cell 0
        have c1 := HB6.cell 1
        have c2 := HB6.cell 2
        have c3 := HB6.cell 3
        simp only [List.getElem?_cons_zero, List.getElem?_cons_succ] at c0 c1 c2 c3
        rw [← hh] at hnew ⊢
        have HH : Hid (w5.heap.size ≤ h ∧ g < h) := ⟨Nat.le_of_eq hh.symm, by rw [hh]; exact HB.out.lt⟩
        generalize hw6 : w5.alloc (.cells zsl.toArray 33) = w6 at hnew hga c0 c1 c2 c3
        rw [show w5.alloc (.cells #[.int .i64 0, .int .i64 0, .int .i64 0, .int .i64 0, .int .i64 0, .int .i64 0, .int .i64 0, .int .i64 0, .int .i64 0, .slice none 0 0, .slice none 0 0] 33) = w6 from hw6]
        have HB11 := Lib.hid hnew
        have HG56 := Lib.hid hga
        clear hh hnew hga hw6 HB6
        -- ARMS (written by wip/tools/genscref.py)
        by_cases h3 : k % 8 < 3
        · have HE : Hid (stepM ⟨cp, cf, cs, cc⟩ k x y z = ⟨1, x % cc, 0, 0, opM ⟨cp, cf, cs, cc⟩ (k / 8) y z, []⟩) := by unfold Hid stepM; simp [h3]
          have CO : Hid (∀ wx, Calls Try.prog 13 #[.int .u8 (k / 8), .int .u8 y, .int .u8 z, .agg #[.int .i64 cp, .int .i64 cf, .int .i64 cs, .int .i64 cc]] wx (OpP (opM ⟨cp, cf, cs, cc⟩ (k / 8) y z) wx)) := fun wx => rop_any (c := ⟨cp, cf, cs, cc⟩) HM.out (by have := HK.out.1; omega) HK.out.2.2.1 HK.out.2.2.2 wx
          have uc0 := up_cell (F := fun e => e = h) (w := w6.drew) (p := ⟨g, 0, none⟩) c0 (fun e => by have e : g = h := e; have := HH.out; omega)
          have uc1 := up_cell (F := fun e => e = h) (w := w6.drew) (p := ⟨g, 1, none⟩) c1 (fun e => by have e : g = h := e; have := HH.out; omega)
          have uc2 := up_cell (F := fun e => e = h) (w := w6.drew) (p := ⟨g, 2, none⟩) c2 (fun e => by have e : g = h := e; have := HH.out; omega)
          have uc3 := up_cell (F := fun e => e = h) (w := w6.drew) (p := ⟨g, 3, none⟩) c3 (fun e => by have e : g = h := e; have := HH.out; omega)
          have hcc0 : ¬ (cc = 0) := by have := HCC.out; omega
          have hcc1 : 0 ≤ cc := by have := HCC.out; omega
          clear c0 c1 c2 c3
          go_upto_region 10 with (fail)
          refine wp_region_stages (Kept (fun e => e = h)) (kept_refl _) (kept_trans _) [([0, 1, 2, 3, 4, 5, 6, 7, 8, 9], 10), ([11], 12)] [] (by kernel_rfl) (by kernel_rfl) ?_
          simp only [selSt, sel, List.map_cons, List.map_nil, List.getD_cons_succ, List.getD_cons_zero]
          refine st_cons fun K1 hK1 => ?_
          repeat (go_big_quiet_step (fail))
          refine wpQuiet_nil ?_
          go_wp2_with (go_at_call 13; (with_reducible refine (CO.out _).mono ?_); rintro e wo ⟨A, n', cap, rfl, hdat, hgr⟩; have HDAT := Lib.hid hdat; have HGO := Lib.hid hgr; clear hdat hgr)
          refine norm_up (hK1 _ _ (Grow.kept HGO.out) ?_)
          clear hK1 K1 uc0 uc1 uc2 uc3
          refine st_cons fun K2 hK2 => ?_
          repeat (go_big_quiet_step (fail))
          refine wpQuiet_nil ?_
          have q4 := (Blk.drew HB11.out).grow HGO.out
          go_wp2_with (refine wpList_store_row rfl 33 _ _ rfl h #[.int .i64 1, .int .i64 (x % cc), .int .i64 0, .int .i64 0, .int .i64 (opM ⟨cp, cf, cs, cc⟩ (k / 8) y z).k, .int .i64 (opM ⟨cp, cf, cs, cc⟩ (k / 8) y z).p, .int .i64 (opM ⟨cp, cf, cs, cc⟩ (k / 8) y z).h, .int .i64 (opM ⟨cp, cf, cs, cc⟩ (k / 8) y z).o, .int .i64 (opM ⟨cp, cf, cs, cc⟩ (k / 8) y z).n, .slice A n' cap, .slice none 0 0] rfl rfl _ _ q4 st_size rfl (by simp [Value.oneCell']) ?_)
          refine norm_up (hK2 _ _ (set_row q4 _).2 (st_nil fun K4 hK4 => wpQuiet_nil (hK4 _ ?_)))
          clear hK2 K2 hK4 K4
          have q11 : Blk (wo.setRow h #[.int .i64 1, .int .i64 (x % cc), .int .i64 0, .int .i64 0, .int .i64 (opM ⟨cp, cf, cs, cc⟩ (k / 8) y z).k, .int .i64 (opM ⟨cp, cf, cs, cc⟩ (k / 8) y z).p, .int .i64 (opM ⟨cp, cf, cs, cc⟩ (k / 8) y z).h, .int .i64 (opM ⟨cp, cf, cs, cc⟩ (k / 8) y z).o, .int .i64 (opM ⟨cp, cf, cs, cc⟩ (k / 8) y z).n, .slice A n' cap, .slice none 0 0]) h 33 (stl ⟨1, x % cc, 0, 0, opM ⟨cp, cf, cs, cc⟩ (k / 8) y z, []⟩ ⟨A, n', cap, none, 0, 0⟩) := (set_row q4 _).1
          have hgf : Grow w5 (wo.setRow h #[.int .i64 1, .int .i64 (x % cc), .int .i64 0, .int .i64 0, .int .i64 (opM ⟨cp, cf, cs, cc⟩ (k / 8) y z).k, .int .i64 (opM ⟨cp, cf, cs, cc⟩ (k / 8) y z).p, .int .i64 (opM ⟨cp, cf, cs, cc⟩ (k / 8) y z).h, .int .i64 (opM ⟨cp, cf, cs, cc⟩ (k / 8) y z).o, .int .i64 (opM ⟨cp, cf, cs, cc⟩ (k / 8) y z).n, .slice A n' cap, .slice none 0 0]) := Kept.then ((HG56.out.drew).trans HGO.out) (set_row q4 _).2 fun k' hk' e => by have e : k' = h := e; have := HH.out; omega
          have hstd : StD (wo.setRow h #[.int .i64 1, .int .i64 (x % cc), .int .i64 0, .int .i64 0, .int .i64 (opM ⟨cp, cf, cs, cc⟩ (k / 8) y z).k, .int .i64 (opM ⟨cp, cf, cs, cc⟩ (k / 8) y z).p, .int .i64 (opM ⟨cp, cf, cs, cc⟩ (k / 8) y z).h, .int .i64 (opM ⟨cp, cf, cs, cc⟩ (k / 8) y z).o, .int .i64 (opM ⟨cp, cf, cs, cc⟩ (k / 8) y z).n, .slice A n' cap, .slice none 0 0]) (fun e => u5.ownBlock ≠ some e ∧ g + 1 ≤ e) (stepAt ⟨cp, cf, cs, cc⟩ zs j) ⟨A, n', cap, none, 0, 0⟩ := by rw [HEQ.out, HE.out]; exact ⟨((Byt.of (X := fun e => e ≠ h ∧ u5.ownBlock ≠ some e ∧ g + 1 ≤ e) HDAT.out fun k' hk1 hk2 => (by have h1 := HB11.out.lt; have h2 : w6.heap.size ≤ k' := hk2; have h3 := HH.out; exact ⟨by omega, fun e => by have h4 := (ScR.SV.own HSV.out e).2; omega, by omega⟩)).kept (set_row q4 _).2 fun k' _ hx e => hx.1 e).mono fun _ _ hx => hx.2, Byt.nil _ _ _⟩
          generalize (wo.setRow h #[.int .i64 1, .int .i64 (x % cc), .int .i64 0, .int .i64 0, .int .i64 (opM ⟨cp, cf, cs, cc⟩ (k / 8) y z).k, .int .i64 (opM ⟨cp, cf, cs, cc⟩ (k / 8) y z).p, .int .i64 (opM ⟨cp, cf, cs, cc⟩ (k / 8) y z).h, .int .i64 (opM ⟨cp, cf, cs, cc⟩ (k / 8) y z).o, .int .i64 (opM ⟨cp, cf, cs, cc⟩ (k / 8) y z).n, .slice A n' cap, .slice none 0 0]) = wz at q11 hgf hstd ⊢
          have HGF := Lib.hid hgf
          obtain ⟨qq, cq, w3, hr, hsv3, hb3, hg3⟩ := push_tail (ScR.SV.grow HSV.out hgf) (by have h1 := HJ.out; have h2 := HN.out; omega) hstd (by have h1 := hgf.size; have h2 := HB.out.lt; omega) (HB.out.grow hgf) (Nat.lt_succ_self g)
          rw [HEQ.out, HE.out] at hr
          have HR := Lib.hid hr
          have HSV3 := Lib.hid hsv3
          have HB3 := Lib.hid hb3
          have HG3 := Lib.hid (hg3 w (HGR.out.trans HGF.out) (by have := HGE.out; omega))
          have y0 := q11.cell 0
          have y1 := q11.cell 1
          have y2 := q11.cell 2
          have y3 := q11.cell 3
          have y4 := q11.cell 4
          have y5 := q11.cell 5
          have y6 := q11.cell 6
          have y7 := q11.cell 7
          have y8 := q11.cell 8
          have y9 := q11.cell 9
          have y10 := q11.cell 10
          simp only [List.getElem?_cons_zero, List.getElem?_cons_succ] at y0 y1 y2 y3 y4 y5 y6 y7 y8 y9 y10
          clear q11 hgf hstd hr hsv3 hb3 hg3
          go_wp2_with (at_builtin; refine Lib.wpList_append_run _ rfl _ _ _ _ rfl _ _ rfl rfl _ _ HR.out ?_)
          go_roundg (gk - 1)
          case measure => have := HG.out; have := HJ.out; omega
          case rel => exact ⟨j + 1, a + 4, _, by have := HG.out; have := HJ.out; omega, by have := HA.out; omega, by go_num, HSV3.out, HB3.out, HG3.out⟩
        by_cases h6 : k % 8 < 6
        · have HE : Hid (stepM ⟨cp, cf, cs, cc⟩ k x y z = ⟨2, 0, 256 * x + y, 0, zop, []⟩) := by unfold Hid stepM; simp [h3, h6]
          have hx9 := HK.out.2.1
          have hy9 := HK.out.2.2.1
          have hk9 := HK.out.1
          clear c0 c1 c2 c3
          have q4 := HB11.out
          go_upto_region 19 with (refine wpList_store_row rfl 33 _ _ rfl h #[.int .i64 2, .int .i64 0, .int .i64 (256 * x + y), .int .i64 0, .int .i64 0, .int .i64 0, .int .i64 0, .int .i64 0, .int .i64 0, .slice none 0 0, .slice none 0 0] rfl rfl _ _ q4 st_size rfl (by simp [Value.oneCell']) ?_)
          have q11 : Blk (w6.setRow h #[.int .i64 2, .int .i64 0, .int .i64 (256 * x + y), .int .i64 0, .int .i64 0, .int .i64 0, .int .i64 0, .int .i64 0, .int .i64 0, .slice none 0 0, .slice none 0 0]) h 33 (stl ⟨2, 0, 256 * x + y, 0, zop, []⟩ zad) := (set_row q4 _).1
          have hgf : Grow w5 (w6.setRow h #[.int .i64 2, .int .i64 0, .int .i64 (256 * x + y), .int .i64 0, .int .i64 0, .int .i64 0, .int .i64 0, .int .i64 0, .int .i64 0, .slice none 0 0, .slice none 0 0]) := Kept.then (HG56.out) (set_row q4 _).2 fun k' hk' e => by have e : k' = h := e; have := HH.out; omega
          have hstd : StD (w6.setRow h #[.int .i64 2, .int .i64 0, .int .i64 (256 * x + y), .int .i64 0, .int .i64 0, .int .i64 0, .int .i64 0, .int .i64 0, .int .i64 0, .slice none 0 0, .slice none 0 0]) (fun e => u5.ownBlock ≠ some e ∧ g + 1 ≤ e) (stepAt ⟨cp, cf, cs, cc⟩ zs j) zad := by rw [HEQ.out, HE.out]; exact no_data _ _ rfl rfl
          generalize (w6.setRow h #[.int .i64 2, .int .i64 0, .int .i64 (256 * x + y), .int .i64 0, .int .i64 0, .int .i64 0, .int .i64 0, .int .i64 0, .int .i64 0, .slice none 0 0, .slice none 0 0]) = wz at q11 hgf hstd ⊢
          have HGF := Lib.hid hgf
          obtain ⟨qq, cq, w3, hr, hsv3, hb3, hg3⟩ := push_tail (ScR.SV.grow HSV.out hgf) (by have h1 := HJ.out; have h2 := HN.out; omega) hstd (by have h1 := hgf.size; have h2 := HB.out.lt; omega) (HB.out.grow hgf) (Nat.lt_succ_self g)
          rw [HEQ.out, HE.out] at hr
          have HR := Lib.hid hr
          have HSV3 := Lib.hid hsv3
          have HB3 := Lib.hid hb3
          have HG3 := Lib.hid (hg3 w (HGR.out.trans HGF.out) (by have := HGE.out; omega))
          have y0 := q11.cell 0
          have y1 := q11.cell 1
          have y2 := q11.cell 2
          have y3 := q11.cell 3
          have y4 := q11.cell 4
          have y5 := q11.cell 5
          have y6 := q11.cell 6
          have y7 := q11.cell 7
          have y8 := q11.cell 8
          have y9 := q11.cell 9
          have y10 := q11.cell 10
          simp only [List.getElem?_cons_zero, List.getElem?_cons_succ] at y0 y1 y2 y3 y4 y5 y6 y7 y8 y9 y10
          clear q11 hgf hstd hr hsv3 hb3 hg3
          go_wp2_with (at_builtin; refine Lib.wpList_append_run _ rfl _ _ _ _ rfl _ _ rfl rfl _ _ HR.out ?_)
          go_roundg (gk - 1)
          case measure => have := HG.out; have := HJ.out; omega
          case rel => exact ⟨j + 1, a + 4, _, by have := HG.out; have := HJ.out; omega, by have := HA.out; omega, by go_num, HSV3.out, HB3.out, HG3.out⟩
        by_cases e6 : k % 8 = 6
        · by_cases hyy : y % 2 = 0
          · have HE : Hid (stepM ⟨cp, cf, cs, cc⟩ k x y z = ⟨3, 0, x % 16, 0, zop, []⟩) := by unfold Hid stepM; simp [e6, hyy]
            have hx9 := HK.out.2.1
            have hy9 := HK.out.2.2.1
            have hk9 := HK.out.1
            have hand := HAND.out.1 hyy
            clear c0 c1 c2 c3
            have q4 := HB11.out
            go_upto_region 19 with (refine wpList_store_row rfl 33 _ _ rfl h #[.int .i64 3, .int .i64 0, .int .i64 (x % 16), .int .i64 0, .int .i64 0, .int .i64 0, .int .i64 0, .int .i64 0, .int .i64 0, .slice none 0 0, .slice none 0 0] rfl rfl _ _ q4 st_size rfl (by simp [Value.oneCell']) ?_)
            have q11 : Blk (w6.setRow h #[.int .i64 3, .int .i64 0, .int .i64 (x % 16), .int .i64 0, .int .i64 0, .int .i64 0, .int .i64 0, .int .i64 0, .int .i64 0, .slice none 0 0, .slice none 0 0]) h 33 (stl ⟨3, 0, x % 16, 0, zop, []⟩ zad) := (set_row q4 _).1
            have hgf : Grow w5 (w6.setRow h #[.int .i64 3, .int .i64 0, .int .i64 (x % 16), .int .i64 0, .int .i64 0, .int .i64 0, .int .i64 0, .int .i64 0, .int .i64 0, .slice none 0 0, .slice none 0 0]) := Kept.then (HG56.out) (set_row q4 _).2 fun k' hk' e => by have e : k' = h := e; have := HH.out; omega
            have hstd : StD (w6.setRow h #[.int .i64 3, .int .i64 0, .int .i64 (x % 16), .int .i64 0, .int .i64 0, .int .i64 0, .int .i64 0, .int .i64 0, .int .i64 0, .slice none 0 0, .slice none 0 0]) (fun e => u5.ownBlock ≠ some e ∧ g + 1 ≤ e) (stepAt ⟨cp, cf, cs, cc⟩ zs j) zad := by rw [HEQ.out, HE.out]; exact no_data _ _ rfl rfl
            generalize (w6.setRow h #[.int .i64 3, .int .i64 0, .int .i64 (x % 16), .int .i64 0, .int .i64 0, .int .i64 0, .int .i64 0, .int .i64 0, .int .i64 0, .slice none 0 0, .slice none 0 0]) = wz at q11 hgf hstd ⊢
            have HGF := Lib.hid hgf
            obtain ⟨qq, cq, w3, hr, hsv3, hb3, hg3⟩ := push_tail (ScR.SV.grow HSV.out hgf) (by have h1 := HJ.out; have h2 := HN.out; omega) hstd (by have h1 := hgf.size; have h2 := HB.out.lt; omega) (HB.out.grow hgf) (Nat.lt_succ_self g)
            rw [HEQ.out, HE.out] at hr
            have HR := Lib.hid hr
            have HSV3 := Lib.hid hsv3
            have HB3 := Lib.hid hb3
            have HG3 := Lib.hid (hg3 w (HGR.out.trans HGF.out) (by have := HGE.out; omega))
            have y0 := q11.cell 0
            have y1 := q11.cell 1
            have y2 := q11.cell 2
            have y3 := q11.cell 3
            have y4 := q11.cell 4
            have y5 := q11.cell 5
            have y6 := q11.cell 6
            have y7 := q11.cell 7
            have y8 := q11.cell 8
            have y9 := q11.cell 9
            have y10 := q11.cell 10
            simp only [List.getElem?_cons_zero, List.getElem?_cons_succ] at y0 y1 y2 y3 y4 y5 y6 y7 y8 y9 y10
            clear q11 hgf hstd hr hsv3 hb3 hg3
            go_wp2_with (at_builtin; refine Lib.wpList_append_run _ rfl _ _ _ _ rfl _ _ rfl rfl _ _ HR.out ?_)
            go_roundg (gk - 1)
            case measure => have := HG.out; have := HJ.out; omega
            case rel => exact ⟨j + 1, a + 4, _, by have := HG.out; have := HJ.out; omega, by have := HA.out; omega, by go_num, HSV3.out, HB3.out, HG3.out⟩
          · have HE : Hid (stepM ⟨cp, cf, cs, cc⟩ k x y z = ⟨5, 0, cs + z % (32 - cs + 1), 0, zop, []⟩) := by unfold Hid stepM; simp [e6, hyy]
            have hx9 := HK.out.2.1
            have hy9 := HK.out.2.2.1
            have hk9 := HK.out.1
            have hand := HAND.out.2 hyy
            have uc2 := up_cell (F := fun e => e = h) (w := w6.drew) (p := ⟨g, 2, none⟩) c2 (fun e => by have e : g = h := e; have := HH.out; omega)
            have hz9 := HK.out.2.2.2
            have hcs9 := HCC.out
            have hs0 : ¬ (32 - cs + 1 = 0) := by omega
            have hs1 : 0 ≤ 32 - cs + 1 := by omega
            have hm0 : 0 ≤ z % (32 - cs + 1) := Int.emod_nonneg _ hs0
            have hm1 : z % (32 - cs + 1) < 32 - cs + 1 := Int.emod_lt_of_pos _ (by omega)
            clear c0 c1 c2 c3
            go_upto_region 14 with (fail)
            refine wp_region_stages (Kept (fun e => e = h)) (kept_refl _) (kept_trans _) [([0, 1, 2, 3, 4, 5, 6, 7, 8, 9, 10], 11)] [] (by kernel_rfl) (by kernel_rfl) ?_
            simp only [selSt, sel, List.map_cons, List.map_nil, List.getD_cons_succ, List.getD_cons_zero]
            refine st_cons fun K1 hK1 => ?_
            repeat (go_big_quiet_step (fail))
            refine wpQuiet_nil ?_
            have q4 := Blk.drew HB11.out
            go_wp2_with (refine wpList_store_row rfl 33 _ _ rfl h #[.int .i64 5, .int .i64 0, .int .i64 (cs + z % (32 - cs + 1)), .int .i64 0, .int .i64 0, .int .i64 0, .int .i64 0, .int .i64 0, .int .i64 0, .slice none 0 0, .slice none 0 0] rfl rfl _ _ q4 st_size rfl (by simp [Value.oneCell']) ?_)
            refine norm_up (hK1 _ _ (set_row q4 _).2 (st_nil fun K4 hK4 => wpQuiet_nil (hK4 _ ?_)))
            clear hK1 K1 hK4 K4
            have q11 : Blk (w6.drew.setRow h #[.int .i64 5, .int .i64 0, .int .i64 (cs + z % (32 - cs + 1)), .int .i64 0, .int .i64 0, .int .i64 0, .int .i64 0, .int .i64 0, .int .i64 0, .slice none 0 0, .slice none 0 0]) h 33 (stl ⟨5, 0, cs + z % (32 - cs + 1), 0, zop, []⟩ zad) := (set_row q4 _).1
            have hgf : Grow w5 (w6.drew.setRow h #[.int .i64 5, .int .i64 0, .int .i64 (cs + z % (32 - cs + 1)), .int .i64 0, .int .i64 0, .int .i64 0, .int .i64 0, .int .i64 0, .int .i64 0, .slice none 0 0, .slice none 0 0]) := Kept.then (HG56.out.drew) (set_row q4 _).2 fun k' hk' e => by have e : k' = h := e; have := HH.out; omega
            have hstd : StD (w6.drew.setRow h #[.int .i64 5, .int .i64 0, .int .i64 (cs + z % (32 - cs + 1)), .int .i64 0, .int .i64 0, .int .i64 0, .int .i64 0, .int .i64 0, .int .i64 0, .slice none 0 0, .slice none 0 0]) (fun e => u5.ownBlock ≠ some e ∧ g + 1 ≤ e) (stepAt ⟨cp, cf, cs, cc⟩ zs j) zad := by rw [HEQ.out, HE.out]; exact no_data _ _ rfl rfl
            generalize (w6.drew.setRow h #[.int .i64 5, .int .i64 0, .int .i64 (cs + z % (32 - cs + 1)), .int .i64 0, .int .i64 0, .int .i64 0, .int .i64 0, .int .i64 0, .int .i64 0, .slice none 0 0, .slice none 0 0]) = wz at q11 hgf hstd ⊢
            have HGF := Lib.hid hgf
            obtain ⟨qq, cq, w3, hr, hsv3, hb3, hg3⟩ := push_tail (ScR.SV.grow HSV.out hgf) (by have h1 := HJ.out; have h2 := HN.out; omega) hstd (by have h1 := hgf.size; have h2 := HB.out.lt; omega) (HB.out.grow hgf) (Nat.lt_succ_self g)
            rw [HEQ.out, HE.out] at hr
            have HR := Lib.hid hr
            have HSV3 := Lib.hid hsv3
            have HB3 := Lib.hid hb3
            have HG3 := Lib.hid (hg3 w (HGR.out.trans HGF.out) (by have := HGE.out; omega))
            have y0 := q11.cell 0
            have y1 := q11.cell 1
            have y2 := q11.cell 2
            have y3 := q11.cell 3
            have y4 := q11.cell 4
            have y5 := q11.cell 5
            have y6 := q11.cell 6
            have y7 := q11.cell 7
            have y8 := q11.cell 8
            have y9 := q11.cell 9
            have y10 := q11.cell 10
            simp only [List.getElem?_cons_zero, List.getElem?_cons_succ] at y0 y1 y2 y3 y4 y5 y6 y7 y8 y9 y10
            clear q11 hgf hstd hr hsv3 hb3 hg3
            go_wp2_with (at_builtin; refine Lib.wpList_append_run _ rfl _ _ _ _ rfl _ _ rfl rfl _ _ HR.out ?_)
            go_roundg (gk - 1)
            case measure => have := HG.out; have := HJ.out; omega
            case rel => exact ⟨j + 1, a + 4, _, by have := HG.out; have := HJ.out; omega, by have := HA.out; omega, by go_num, HSV3.out, HB3.out, HG3.out⟩
        have e7 : k % 8 = 7 := by have := HK.out.1; omega
        by_cases hxx : x = 255
        · have HE : Hid (stepM ⟨cp, cf, cs, cc⟩ k x y z = ⟨4, 0, 0, 0, zop, [y, z]⟩) := by unfold Hid stepM; simp [e7, hxx]
          have HN4 := Lib.hid (NBlk.new w6 5 .u8 [y, z])
          have q4 := HB11.out.alloc (.cells #[.int .u8 y, .int .u8 z] 5)
          have HK6 : Hid (Grow w6 (w6.alloc (.cells #[.int .u8 y, .int .u8 z] 5))) := (Kept.refl _ _).alloc _
          clear h3 h6 e6 c0 c1 c2 c3
          subst hxx
          go_upto_region 19 with (refine wpList_store_row rfl 33 _ _ rfl h #[.int .i64 4, .int .i64 0, .int .i64 0, .int .i64 0, .int .i64 0, .int .i64 0, .int .i64 0, .int .i64 0, .int .i64 0, .slice none 0 0, .slice (some ⟨w6.heap.size, 0, none⟩) 2 2] rfl rfl _ _ q4 st_size rfl (by simp [Value.oneCell']) ?_)
          have q11 : Blk ((w6.alloc (.cells #[.int .u8 y, .int .u8 z] 5)).setRow h #[.int .i64 4, .int .i64 0, .int .i64 0, .int .i64 0, .int .i64 0, .int .i64 0, .int .i64 0, .int .i64 0, .int .i64 0, .slice none 0 0, .slice (some ⟨w6.heap.size, 0, none⟩) 2 2]) h 33 (stl ⟨4, 0, 0, 0, zop, [y, z]⟩ ⟨none, 0, 0, some ⟨w6.heap.size, 0, none⟩, 2, 2⟩) := (set_row q4 _).1
          have hgf : Grow w5 ((w6.alloc (.cells #[.int .u8 y, .int .u8 z] 5)).setRow h #[.int .i64 4, .int .i64 0, .int .i64 0, .int .i64 0, .int .i64 0, .int .i64 0, .int .i64 0, .int .i64 0, .int .i64 0, .slice none 0 0, .slice (some ⟨w6.heap.size, 0, none⟩) 2 2]) := Kept.then (HG56.out.trans HK6.out) (set_row q4 _).2 fun k' hk' e => by have e : k' = h := e; have := HH.out; omega
          have hstd : StD ((w6.alloc (.cells #[.int .u8 y, .int .u8 z] 5)).setRow h #[.int .i64 4, .int .i64 0, .int .i64 0, .int .i64 0, .int .i64 0, .int .i64 0, .int .i64 0, .int .i64 0, .int .i64 0, .slice none 0 0, .slice (some ⟨w6.heap.size, 0, none⟩) 2 2]) (fun e => u5.ownBlock ≠ some e ∧ g + 1 ≤ e) (stepAt ⟨cp, cf, cs, cc⟩ zs j) ⟨none, 0, 0, some ⟨w6.heap.size, 0, none⟩, 2, 2⟩ := by rw [HEQ.out, HE.out]; exact ⟨Byt.nil _ _ _, ((two_bytes (X := fun e => e ≠ h ∧ u5.ownBlock ≠ some e ∧ g + 1 ≤ e) HN4.out HK.out.2.2.1 HK.out.2.2.2 fun u hu => by subst hu; have h1 := HB11.out.lt; have h3 := HH.out; exact ⟨by omega, fun e => by have h4 := (ScR.SV.own HSV.out e).2; omega, by omega⟩).kept (set_row q4 _).2 fun k' _ hx e => hx.1 e).mono fun _ _ hx => hx.2⟩
          generalize ((w6.alloc (.cells #[.int .u8 y, .int .u8 z] 5)).setRow h #[.int .i64 4, .int .i64 0, .int .i64 0, .int .i64 0, .int .i64 0, .int .i64 0, .int .i64 0, .int .i64 0, .int .i64 0, .slice none 0 0, .slice (some ⟨w6.heap.size, 0, none⟩) 2 2]) = wz at q11 hgf hstd ⊢
          have HGF := Lib.hid hgf
          obtain ⟨qq, cq, w3, hr, hsv3, hb3, hg3⟩ := push_tail (ScR.SV.grow HSV.out hgf) (by have h1 := HJ.out; have h2 := HN.out; omega) hstd (by have h1 := hgf.size; have h2 := HB.out.lt; omega) (HB.out.grow hgf) (Nat.lt_succ_self g)
          rw [HEQ.out, HE.out] at hr
          have HR := Lib.hid hr
          have HSV3 := Lib.hid hsv3
          have HB3 := Lib.hid hb3
          have HG3 := Lib.hid (hg3 w (HGR.out.trans HGF.out) (by have := HGE.out; omega))
          have y0 := q11.cell 0
          have y1 := q11.cell 1
          have y2 := q11.cell 2
          have y3 := q11.cell 3
          have y4 := q11.cell 4
          have y5 := q11.cell 5
          have y6 := q11.cell 6
          have y7 := q11.cell 7
          have y8 := q11.cell 8
          have y9 := q11.cell 9
          have y10 := q11.cell 10
          simp only [List.getElem?_cons_zero, List.getElem?_cons_succ] at y0 y1 y2 y3 y4 y5 y6 y7 y8 y9 y10
          clear q11 hgf hstd hr hsv3 hb3 hg3
          go_wp2_with (at_builtin; refine Lib.wpList_append_run _ rfl _ _ _ _ rfl _ _ rfl rfl _ _ HR.out ?_)
          go_roundg (gk - 1)
          case measure => have := HG.out; have := HJ.out; omega
          case rel => exact ⟨j + 1, a + 4, _, by have := HG.out; have := HJ.out; omega, by have := HA.out; omega, by go_num, HSV3.out, HB3.out, HG3.out⟩
        · have HE : Hid (stepM ⟨cp, cf, cs, cc⟩ k x y z = ⟨6, 0, x % 16, y % cs, zop, []⟩) := by unfold Hid stepM; simp [e7, hxx]
          have hxb : (x == 255) = false := by simpa using hxx
          have hs0 : ¬ (cs = 0) := by have := HCC.out; omega
          have hs1 : 0 ≤ cs := by have := HCC.out; omega
          have hx9 := HK.out.2.1
          have hy9 := HK.out.2.2.1
          clear h3 h6 e6
          have q4 := HB11.out
          go_upto_region 19 with (refine wpList_store_row rfl 33 _ _ rfl h #[.int .i64 6, .int .i64 0, .int .i64 (x % 16), .int .i64 (y % cs), .int .i64 0, .int .i64 0, .int .i64 0, .int .i64 0, .int .i64 0, .slice none 0 0, .slice none 0 0] rfl rfl _ _ q4 st_size rfl (by simp [Value.oneCell']) ?_)
          have q11 : Blk (w6.setRow h #[.int .i64 6, .int .i64 0, .int .i64 (x % 16), .int .i64 (y % cs), .int .i64 0, .int .i64 0, .int .i64 0, .int .i64 0, .int .i64 0, .slice none 0 0, .slice none 0 0]) h 33 (stl ⟨6, 0, x % 16, y % cs, zop, []⟩ zad) := (set_row q4 _).1
          have hgf : Grow w5 (w6.setRow h #[.int .i64 6, .int .i64 0, .int .i64 (x % 16), .int .i64 (y % cs), .int .i64 0, .int .i64 0, .int .i64 0, .int .i64 0, .int .i64 0, .slice none 0 0, .slice none 0 0]) := Kept.then (HG56.out) (set_row q4 _).2 fun k' hk' e => by have e : k' = h := e; have := HH.out; omega
          have hstd : StD (w6.setRow h #[.int .i64 6, .int .i64 0, .int .i64 (x % 16), .int .i64 (y % cs), .int .i64 0, .int .i64 0, .int .i64 0, .int .i64 0, .int .i64 0, .slice none 0 0, .slice none 0 0]) (fun e => u5.ownBlock ≠ some e ∧ g + 1 ≤ e) (stepAt ⟨cp, cf, cs, cc⟩ zs j) zad := by rw [HEQ.out, HE.out]; exact no_data _ _ rfl rfl
          generalize (w6.setRow h #[.int .i64 6, .int .i64 0, .int .i64 (x % 16), .int .i64 (y % cs), .int .i64 0, .int .i64 0, .int .i64 0, .int .i64 0, .int .i64 0, .slice none 0 0, .slice none 0 0]) = wz at q11 hgf hstd ⊢
          have HGF := Lib.hid hgf
          obtain ⟨qq, cq, w3, hr, hsv3, hb3, hg3⟩ := push_tail (ScR.SV.grow HSV.out hgf) (by have h1 := HJ.out; have h2 := HN.out; omega) hstd (by have h1 := hgf.size; have h2 := HB.out.lt; omega) (HB.out.grow hgf) (Nat.lt_succ_self g)
          rw [HEQ.out, HE.out] at hr
          have HR := Lib.hid hr
          have HSV3 := Lib.hid hsv3
          have HB3 := Lib.hid hb3
          have HG3 := Lib.hid (hg3 w (HGR.out.trans HGF.out) (by have := HGE.out; omega))
          have y0 := q11.cell 0
          have y1 := q11.cell 1
          have y2 := q11.cell 2
          have y3 := q11.cell 3
          have y4 := q11.cell 4
          have y5 := q11.cell 5
          have y6 := q11.cell 6
          have y7 := q11.cell 7
          have y8 := q11.cell 8
          have y9 := q11.cell 9
          have y10 := q11.cell 10
          simp only [List.getElem?_cons_zero, List.getElem?_cons_succ] at y0 y1 y2 y3 y4 y5 y6 y7 y8 y9 y10
          clear q11 hgf hstd hr hsv3 hb3 hg3
          go_wp2_with (at_builtin; refine Lib.wpList_append_run _ rfl _ _ _ _ rfl _ _ rfl rfl _ _ HR.out ?_)
          go_roundg (gk - 1)
          case measure => have := HG.out; have := HJ.out; omega
          case rel => exact ⟨j + 1, a + 4, _, by have := HG.out; have := HJ.out; omega, by have := HA.out; omega, by go_num, HSV3.out, HB3.out, HG3.out⟩
      -- END
      · have hjn : j = n / 4 := by have := HG.out; omega
        have haz : ¬ ((a : Int) + 4 ≤ (n : Int)) := by omega
        have ha0 : (0 : Int) ≤ (a : Int) := by omega
        have ha1 : (a : Int) ≤ (n : Int) := by omega
        have HP : Hid (StepsP (stepsN ⟨cp, cf, cs, cc⟩ n) (stepAt ⟨cp, cf, cs, cc⟩ zs) w (.returned u5) wr) := ⟨u5, Q, rfl, by rw [HST.out, ← hjn]; exact SV.mono HSV.out (by have := HGE.out; omega), HGR.out⟩
        clear HSV HB HGR HG HA hjn ha hj c0 c1 c2 c3
        go_wp2
        go_ret
        first
          | exact HP.out
          | (rw [← HST.out]; exact HP.out)
  · have HM := Lib.hid hc
    have HST : Hid (stepsN ⟨cp, cf, cs, cc⟩ n = 0) := by unfold Hid stepsN; rw [if_neg hc]
    clear hc
    go_wp2
    go_loopg [5, 6] 0 (fun gx v i wr => v = .slice none 0 0 ∧ i = .int .i64 0 ∧ Blk wr g 24 [.int .i64 cp, .int .i64 cf, .int .i64 cs, .int .i64 cc] ∧ Grow w wr)
    case atStart => exact ⟨rfl, rfl, HB.out, HG0.out⟩
    case round =>
      clear HB HG0
      obtain ⟨rfl, rfl, hb, hgr⟩ := hrel
      have HGR := Lib.hid hgr
      have c0 := hb.cell 0
      have c1 := hb.cell 1
      have c2 := hb.cell 2
      have c3 := hb.cell 3
      simp only [List.getElem?_cons_zero, List.getElem?_cons_succ] at c0 c1 c2 c3
      clear hb hgr
      by_cases h4 : (4 : Int) ≤ (n : Int)
      · go_wp2_with (go_at_call 14; (with_reducible refine (CM.out _).mono ?_); rintro e wm ⟨⟨bm, rfl, hbm⟩, hgm⟩; obtain rfl : bm = false := (by cases bm with | false => rfl | true => exact absurd (hbm.1 rfl) HM.out); have HGM := Lib.hid hgm; clear hbm hgm)
        go_ret
        exact ⟨_, fun _ => zad, rfl, by rw [HST.out]; exact SV.nil _ _ _ _, HGR.out.trans HGM.out⟩
      · go_wp2
        go_ret
        exact ⟨_, fun _ => zad, rfl, by rw [HST.out]; exact SV.nil _ _ _ _, HGR.out⟩
end
#print axioms steps_any
end Go.Proofs.Ytigcjcgdakoonaa.ScF
