/-
  Package latch: Free of who does not hold it; slices.Equal and Same, of what is the same.
-/
import Derived.Test.YtpdmncdbimdfaaaLatFree
namespace Go.Proofs.Ytpdmncdbimdfaaa.LatG
open Go.ChangeShapes Go.WideShapes Go.ChangeAt Go.RowKit
open Go.Proofs.Ytpdmncdbimdfaaa.Mem Go.Proofs.Ytpdmncdbimdfaaa.Blk Go.Proofs.Ytpdmncdbimdfaaa.Cells Go.Proofs.Ytpdmncdbimdfaaa.GsC Go.Proofs.Ytpdmncdbimdfaaa.LatM Go.Proofs.Ytpdmncdbimdfaaa.LatC Go.Proofs.Ytpdmncdbimdfaaa.LatY Go.Proofs.Ytpdmncdbimdfaaa.LatZ Go.Proofs.Ytpdmncdbimdfaaa.LatO Go.Proofs.Ytpdmncdbimdfaaa.LatI Go.Proofs.Ytpdmncdbimdfaaa.LatR Go.Proofs.Ytpdmncdbimdfaaa.LatN Go.Proofs.Ytpdmncdbimdfaaa.LatA Go.Proofs.Ytpdmncdbimdfaaa.LatL Go.Proofs.Ytpdmncdbimdfaaa.LatD Go.Proofs.Ytpdmncdbimdfaaa.LatF Go.Proofs.Ytpdmncdbimdfaaa.RetC Go.Proofs.Ytpdmncdbimdfaaa.Stages Go.Proofs.Ytpdmncdbimdfaaa.Trees

section
variable {w : World} {L : La} {v v' : Value}
theorem free_not (h : LatV w L v) (hg : LatM.Good L) (t : Int) (ht : L.has t = false) :
    Calls Try.prog 8 #[v, .int .i64 t] w (FreeN w L) := by
  have hR := hg.pre.lenR
  have hQ := hg.pre.lenQ
  have HO := Lib.hid fun (w' : World) (hk : Grow w w') => own_any (h.grow hk) (by omega) (by omega)
  have hmay := fun (w' : World) (v : Value) (hv : LatV w' L v) => may_any hv hg.pre
  rw [settled_good hg] at hmay
  have HMAY := Lib.hid hmay
  have hhas := fun (w' : World) (v : Value) (hv : LatV w' L v) => has_any hv t (by omega)
  rw [ht] at hhas
  have HHAS := Lib.hid hhas
  obtain ⟨A0, c0, A0', c0', rfl, _, _, _, _⟩ := h
  clear hmay hhas hg ht hR hQ
  generalize hP : FreeN w L = P
  have HP := Lib.hid hP
  clear hP
  go_enter Try.func8, Try.ntmps8
  go_upto_region 1 with (fail)
  have hb := boxes3 w 25 3 [.int .i64 L.W, .slice A0 L.R.length c0, .slice A0' L.Q.length c0'] [.int .i64 t] [.int .i64 0, .slice none 0 0, .slice none 0 0]
  generalize ((w.alloc (.cells #[.int .i64 L.W, .slice A0 L.R.length c0, .slice A0' L.Q.length c0'] 25)).alloc (.cells #[.int .i64 t] 3)).alloc (.cells #[.int .i64 0, .slice none 0 0, .slice none 0 0] 25) = w0 at *
  have HB := Lib.hid hb
  have k0 := hb.b.cell 0
  have k1 := hb.b.cell 1
  have k2 := hb.b.cell 2
  simp only [List.getElem?_cons_zero, List.getElem?_cons_succ] at k0 k1 k2
  clear hb
  go_upto_region 3 with (go_at_call 13; (with_reducible refine (HO.out _ HB.out.g).mono ?_); rintro e w1 ⟨A, c, A', c', rfl, htw, hgr⟩; have T1 := Lib.hid htw; have G1 := Lib.hid hgr; clear htw hgr k0 k1 k2; have f0 := (HB.out.b.grow G1.out).frozenAll; have k0 := (HB.out.b.grow G1.out).cell 0; have k1 := (HB.out.b.grow G1.out).cell 1; have k2 := (HB.out.b.grow G1.out).cell 2; simp only [List.getElem?_cons_zero, List.getElem?_cons_succ] at k0 k1 k2)
  have hb2 : Blk (((w1.setCell ⟨w.heap.size, 0, none⟩ (.int .i64 L.W)).setCell ⟨w.heap.size, 1, none⟩ (.slice A L.R.length c)).setCell ⟨w.heap.size, 2, none⟩ (.slice A' L.Q.length c')) w.heap.size 25 [.int .i64 L.W, .slice A L.R.length c, .slice A' L.Q.length c'] := (((HB.out.b.grow G1.out).set 0 _).set 1 _).set 2 _
  have hk2 := ((kept_set w1 w.heap.size 0 (.int .i64 L.W)).trans (kept_set _ w.heap.size 1 (.slice A L.R.length c))).trans (kept_set _ w.heap.size 2 (.slice A' L.Q.length c'))
  generalize ((w1.setCell ⟨w.heap.size, 0, none⟩ (.int .i64 L.W)).setCell ⟨w.heap.size, 1, none⟩ (.slice A L.R.length c)).setCell ⟨w.heap.size, 2, none⟩ (.slice A' L.Q.length c') = w2 at *
  have B2 := Lib.hid hb2
  have T2 := Lib.hid (Two.kept T1.out hk2 fun k h1 e => by have := HB.out.s; omega)
  have Y2 := Lib.hid ((HB.out.y.grow G1.out).kept hk2 (by omega))
  have Z2 := Lib.hid ((HB.out.z.grow G1.out).kept hk2 (by omega))
  have G2 : Hid (Grow w w2) := (HB.out.g.trans G1.out).then hk2 fun k h1 e => by omega
  clear hb2 hk2 f0 k0 k1 k2
  have k0 := B2.out.cell 0
  have k1 := B2.out.cell 1
  have k2 := B2.out.cell 2
  simp only [List.getElem?_cons_zero, List.getElem?_cons_succ] at k0 k1 k2
  have y0 := Y2.out.cell 0
  simp only [List.getElem?_cons_zero] at y0
  go_upto_region 6 with (first
      | (go_at_call 14; (with_reducible refine (HMAY.out _ _ T2.out.latv).mono ?_); rintro e w3 ⟨rfl, hgr⟩; have G3 := Lib.hid hgr; clear hgr k0 k1 k2 y0; have B3 := Lib.hid (B2.out.grow G3.out); have T3 := Lib.hid (Two.grow T2.out G3.out); have Y3 := Lib.hid (Y2.out.grow G3.out); have Z3 := Lib.hid (Z2.out.grow G3.out); have k0 := B3.out.cell 0; have k1 := B3.out.cell 1; have k2 := B3.out.cell 2; have y0 := Y3.out.cell 0; simp only [List.getElem?_cons_zero, List.getElem?_cons_succ] at k0 k1 k2 y0)
      | (go_at_call 9; (with_reducible refine (HHAS.out _ _ T3.out.latv).mono ?_); rintro e w4 ⟨rfl, hgr⟩; have G4 := Lib.hid hgr; clear hgr k0 k1 k2 y0; have B4 := Lib.hid (B3.out.grow G4.out); have T4 := Lib.hid (Two.grow T3.out G4.out); have Z4 := Lib.hid (Z3.out.grow G4.out); have k0 := B4.out.cell 0; have k1 := B4.out.cell 1; have k2 := B4.out.cell 2; simp only [List.getElem?_cons_zero, List.getElem?_cons_succ] at k0 k1 k2))
  have j0 := Z4.out.cell 0
  have j1 := Z4.out.cell 1
  have j2 := Z4.out.cell 2
  have fz := Z4.out.frozenAll
  simp only [List.getElem?_cons_zero, List.getElem?_cons_succ] at j0 j1 j2
  go_wp2
  have ZZ : Blk (((w4.setCell ⟨w.heap.size + 1 + 1, 0, none⟩ (.int .i64 L.W)).setCell ⟨w.heap.size + 1 + 1, 1, none⟩ (.slice A L.R.length c)).setCell ⟨w.heap.size + 1 + 1, 2, none⟩ (.slice A' L.Q.length c')) (w.heap.size + 1 + 1) 25 [.int .i64 L.W, .slice A L.R.length c, .slice A' L.Q.length c'] := ((Z4.out.set 0 _).set 1 _).set 2 _
  have hkz := ((kept_set w4 (w.heap.size + 1 + 1) 0 (.int .i64 L.W)).trans (kept_set _ (w.heap.size + 1 + 1) 1 (.slice A L.R.length c))).trans (kept_set _ (w.heap.size + 1 + 1) 2 (.slice A' L.Q.length c'))
  refine ret_cell3 rfl rfl ZZ rfl ?_
  rw [← HP.out]
  have hs := HB.out.s
  exact ⟨_, rfl, fun F w'' hF hFk => (Two.kept (Two.kept T4.out hkz fun k h1 e => by omega) hF fun k h1 => hFk k (by omega)).latv, ((G2.out.trans G3.out).trans G4.out).then hkz fun k h1 e => by omega⟩

theorem equal_true (A A' : Option Addr) (n c c' B B' : Nat) (zs : List Int) (hn : n ≤ 100000) (h : Sl w B .i64 A n zs) (h' : Sl w B' .i64 A' n zs) :
    Calls Try.prog 30 #[.slice A n c, .slice A' n c'] w fun e w' => e = .returned (.bool true) ∧ Grow w w' := by
  have H := Lib.hid h
  have H' := Lib.hid h'
  have hnz : (n : Int) ≤ 100000 := by omega
  clear h h'
  go_enter Try.func30, Try.ntmps30
  go_wp2
  go_loopg [13] n (fun gx i wr => ∃ j : Nat, j + gx = n ∧ i = .int .i64 (j : Int) ∧ Grow w wr)
  case atStart => exact ⟨0, by omega, rfl, Kept.refl _ _⟩
  case round =>
    obtain ⟨j, hg, rfl, hgr⟩ := hrel
    have HG := Lib.hid hg
    have HGR := Lib.hid hgr
    clear hg hgr
    by_cases hj : j < n
    · have hjz : (j : Int) < (n : Int) := by omega
      obtain ⟨b, o, rfl, _, hc⟩ := H.out.at_ (by omega)
      obtain ⟨b', o', rfl, _, hc'⟩ := H'.out.at_ (by omega)
      have r1 := hc j hj
      have r2 := hc' j hj
      generalize zs.getD j 0 = v at *
      have r1' := HGR.out.cellN r1 id
      have r2' := HGR.out.cellN r2 id
      have q1 := up_cell (F := fun _ => False) (w := wr.drew) r1' id
      have q2 := up_cell (F := fun _ => False) (w := wr.drew) r2' id
      clear hc hc' r1 r2 r1' r2'
      go_upto_region 6 with (fail)
      refine wp_region_stages Grow (kept_refl _) (kept_trans _) [] [0, 1, 2, 3, 4, 5, 6, 7, 8] (by kernel_rfl) (by kernel_rfl) ?_
      simp only [selSt, sel, List.map_cons, List.map_nil, List.getD_cons_succ, List.getD_cons_zero]
      refine st_nil fun K2 hK2 => ?_
      repeat (go_big_quiet_step (fail))
      refine wpQuiet_nil (hK2 _ ?_)
      clear hK2 K2 q1 q2
      go_wp2
      go_roundg (n - (j + 1))
      case measure => have := HG.out; omega
      case rel => exact ⟨j + 1, by omega, by go_num, HGR.out.drew⟩
    · have hjN : j = n := by have := HG.out; omega
      subst hjN
      go_wp2
      go_ret
      exact ⟨rfl, HGR.out⟩

theorem same_true (h : LatV w L v) (h' : LatV w L v') (hR : L.R.length ≤ 100000) (hQ : L.Q.length ≤ 100000) :
    Calls Try.prog 20 #[v, v'] w fun e w' => e = .returned (.bool true) ∧ Grow w w' := by
  obtain ⟨A, c, A', c', rfl, h1, h2, _, _⟩ := h
  obtain ⟨D, d, D', d', rfl, h3, h4, _, _⟩ := h'
  have HR := Lib.hid fun (w' : World) (hk : Grow w w') => equal_true A D _ c d _ _ _ hR (sl_grow h1 hk) (sl_grow h3 hk)
  have HQ := Lib.hid fun (w' : World) (hk : Grow w w') => equal_true A' D' _ c' d' _ _ _ hQ (sl_grow h2 hk) (sl_grow h4 hk)
  clear h1 h2 h3 h4
  generalize L.R.length = n at *
  generalize L.Q.length = m at *
  generalize L.W = W at *
  go_enter Try.func20, Try.ntmps20
  go_upto_region 1 with (fail)
  have hb := boxes w 25 [.int .i64 W, .slice A n c, .slice A' m c'] [.int .i64 W, .slice D n d, .slice D' m d']
  generalize (w.alloc (.cells #[.int .i64 W, .slice A n c, .slice A' m c'] 25)).alloc (.cells #[.int .i64 W, .slice D n d, .slice D' m d'] 25) = w0 at *
  have HB := Lib.hid hb
  have k0 := hb.b.cell 0
  have k1 := hb.b.cell 1
  have k2 := hb.b.cell 2
  have j0 := hb.z.cell 0
  have j1 := hb.z.cell 1
  have j2 := hb.z.cell 2
  simp only [List.getElem?_cons_zero, List.getElem?_cons_succ] at k0 k1 k2 j0 j1 j2
  clear hb
  go_wp2_with (first
    | (go_at_call 30; (with_reducible refine (HR.out _ HB.out.g).mono ?_); rintro e w1 ⟨rfl, hg⟩; have G1 := Lib.hid hg; clear hg k0 k1 k2 j0 j1 j2; have k2 := (HB.out.b.grow G1.out).cell 2; have j2 := (HB.out.z.grow G1.out).cell 2; simp only [List.getElem?_cons_zero, List.getElem?_cons_succ] at k2 j2)
    | (go_at_call 30; (with_reducible refine (HQ.out _ (HB.out.g.trans G1.out)).mono ?_); rintro e w2 ⟨rfl, hg⟩; have G2 := Lib.hid hg; clear hg))
  go_ret
  exact ⟨rfl, (HB.out.g.trans G1.out).trans G2.out⟩
end
end Go.Proofs.Ytpdmncdbimdfaaa.LatG
