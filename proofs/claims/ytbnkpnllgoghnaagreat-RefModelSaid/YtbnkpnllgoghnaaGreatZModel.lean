/-
  The statement RefModel, walked.
-/
import Derived.Test.YtbnkpnllgoghnaaGreatQa
import Derived.Test.YtbnkpnllgoghnaaGreatQb
import Derived.Test.YtbnkpnllgoghnaaGreatQc
import Derived.Test.YtbnkpnllgoghnaaGreatQd
import Derived.Test.YtbnkpnllgoghnaaGreatQe
import Derived.Test.YtbnkpnllgoghnaaGreatQf
import Derived.Test.YtbnkpnllgoghnaaGreatQg
import Derived.Test.YtbnkpnllgoghnaaGreatQh
import Derived.Test.YtbnkpnllgoghnaaGreatQi
import Derived.Test.YtbnkpnllgoghnaaGreatQj
import Derived.Test.YtbnkpnllgoghnaaGreatQk
import Derived.Test.YtbnkpnllgoghnaaGreatQl
import Derived.Test.YtbnkpnllgoghnaaGreatQm
namespace Go.Proofs.YtbnkpnllgoghnaaGreat.LwModel
open Go.ChangeShapes Go.WideShapes Go.ChangeAt Go.RowKit
open Go.Proofs.YtbnkpnllgoghnaaGreat.Mem Go.Proofs.YtbnkpnllgoghnaaGreat.Blk Go.Proofs.YtbnkpnllgoghnaaGreat.Cells Go.Proofs.YtbnkpnllgoghnaaGreat.Orow Go.Proofs.YtbnkpnllgoghnaaGreat.Calls13 Go.Proofs.YtbnkpnllgoghnaaGreat.MdNear Go.Proofs.YtbnkpnllgoghnaaGreat.RfP Go.Proofs.YtbnkpnllgoghnaaGreat.RgS Go.Proofs.YtbnkpnllgoghnaaGreat.RgQ Go.Proofs.YtbnkpnllgoghnaaGreat.RgN Go.Proofs.YtbnkpnllgoghnaaGreat.RgMd Go.Proofs.YtbnkpnllgoghnaaGreat.Told16 Go.Proofs.YtbnkpnllgoghnaaGreat.Stages
open Go.Proofs.YtbnkpnllgoghnaaGreat.MdM (Md MdOp Re)
open Go.Proofs.YtbnkpnllgoghnaaGreat.RfM (Pl)
def PLoop (w : World) (ν : Nm) (m M g : Nat) (i : Value) (wx : World) : Prop := ∃ (j : Nat) (p : Pl) (c : Nat → Nat), j + g = M ∧ i = .int .i64 (j : Int) ∧ PN 5 p ∧ MI w ν m p (50 * j) c wx
section
variable {w : World} {A : Option Addr} {len cap : Nat}
set_option maxRecDepth 100000 in
set_option maxHeartbeats 8000000 in
theorem model_any (h : CallsAt w A len cap) : Calls Tryz.prog 5 #[.slice A len cap] w fun e w' => e = .returned (.bool true) ∧ Below w.heap.size w w' := by
  have HFI := Lib.hid (fine_q 60 h)
  obtain ⟨hlc, hcm, hops⟩ := h
  unfold maxLen at hcm
  have HOPS := Lib.hid hops
  have HNEW := Lib.hid (pnew 5 3 5 (by decide) (by decide) (by decide) (by decide) (by decide) (by decide) w)
  simp only [Int.cast_ofNat_Int] at HNEW
  have HMN : Hid (∀ wx, Calls Tryz.prog 25 #[.int .i64 5, .int .i64 3] wx (PmN.NewP 5 3 wx)) := fun wx => PmN.new_any 5 3 (by omega) (by omega) (by omega) (by omega) wx
  clear hops
  go_enter Tryz.func5, Tryz.ntmps5
  go_upto_if 11 with (go_at_call 18; (with_reducible refine HFI.out.mono ?_); rintro e w' ⟨rfl, b, rfl, hb⟩; have HB := Lib.hid hb; clear hb)
  cases b with
  | false =>
    go_wp2_with (go_at_call 11; (with_reducible refine (told_any _).mono ?_); rintro e wt ⟨rfl, hge⟩; have HGE := Lib.hid hge; clear hge)
    go_ret
    exact ⟨rfl, Grow.below HGE.out⟩
  | true =>
    have hl60 : (len : Int) ≤ 60 := (HB.out rfl).1
    clear HB HFI
    go_upto_region 5 with (first
      | (go_at_call 12; (with_reducible refine HNEW.out.mono ?_); rintro e u0 ⟨ν, c0, rfl, hp, hg, hz⟩; have HS0 := Lib.hid (new_std hp hg hz); clear hp hg hz)
      | (go_at_call 25; (with_reducible refine (HMN.out _).mono ?_); rintro e u1 ⟨v1, rfl, hpa, hg⟩; obtain ⟨AT, nT, cT, AB, nB, cB, AH, nH, cH, rfl, hmb, hgb⟩ := MB.new (c := paint u0.heap.size 0 c0) hpa (fun k hk => out_new (c := 0) hk); have HMB := Lib.hid hmb; have HGB := Lib.hid hgb; have HS1 := Lib.hid ((HS0.out.grow hg).grow hgb); have HWM := Lib.hid (Nat.le_trans HS0.out.g.size hg.size); clear hpa hg hmb hgb))
    have HI : Hid (MI w ν u1.heap.size (RfM.fresh 5 3 5) 0 (paint u1.heap.size 0 (paint u0.heap.size 0 c0)) (u1.alloc (.cells #[.slice AT nT cT, .slice AB nB cB, .slice AH nH cH] 64))) := ⟨HS1.out, HMB.out, HWM.out⟩
    generalize paint u1.heap.size 0 (paint u0.heap.size 0 c0) = c2 at HI
    generalize u1.alloc (.cells #[.slice AT nT cT, .slice AB nB cB, .slice AH nH cH] 64) = u2 at HI ⊢
    generalize u1.heap.size = m at HI ⊢
    clear HS0 HS1 HMB HGB HWM HNEW HMN
    go_wp2
    go_loopg [5] len (PLoop w ν m len)
    case atStart => exact ⟨0, _, _, by omega, rfl, ⟨rfl, rfl, rfl, rfl⟩, HI.out⟩
    case round =>
      clear HI
      obtain ⟨j, p, c, hg, rfl, hpn, hi⟩ := hrel
      have HG := Lib.hid hg
      have HPN := Lib.hid hpn
      have HI := Lib.hid hi
      clear hg hpn hi
      by_cases hj : j < len
      · have hjz : (j : Int) < (len : Int) := by omega
        have HJ := Lib.hid hj
        obtain ⟨ab, ao, rfl, hab, hall⟩ := HOPS.out (by omega)
        obtain ⟨x, hx⟩ := hall j hj
        have HX := Lib.hid hx
        have HAB := Lib.hid hab
        have cc := HI.out.s.g.cellN hx.c id
        have ck := HI.out.s.g.cellN hx.k id
        have cp := HI.out.s.g.cellN hx.p id
        have ch := HI.out.s.g.cellN hx.h id
        have co := HI.out.s.g.cellN hx.o id
        have cn := HI.out.s.g.cellN hx.n id
        have cd := HI.out.s.g.cellN hx.d id
        have HNEAR : Hid (∀ wx, Calls Tryz.prog 21 #[.agg #[.int .i64 x.c, .int .i64 x.k, .int .i64 x.p, .int .i64 x.h, .int .i64 x.o, .int .i64 x.n, .slice x.A x.len x.cap], .int .i64 5, .int .i64 3] wx (NearP 5 3 x.A x.len x.cap wx)) := fun wx => near_any x.c x.k x.p x.h x.o x.n x.A x.len x.cap 5 3 (by omega) (by omega) (by omega) (by omega) (by obtain ⟨d, _, _, h, _⟩ := hx.da; exact h) wx
        clear hall hx hj hab
        go_upto_region 11 with (go_at_call 21; (with_reducible refine (HNEAR.out _).mono ?_); rintro e wn ⟨c', k', p', h', o', n', l', rfl, hr1, hr2, hr3, hr4, hr5, hr6, hr7, hl, hg⟩; have HNR := Lib.hid (And.intro hr6 hl); have HGN := Lib.hid hg; clear hg hr1 hr2 hr3 hr4 hr5 hr6 hr7 hl)
        clear cc ck cp ch co cn cd HNEAR
        obtain ⟨d, hd, hdb, hl1, hl2⟩ := bytes_take (l := l') HX.out.da (by have := HNR.out.2; omega) ((HI.out.s.g.trans HGN.out).trans ((Kept.refl _ wn).alloc (.cells #[.int .i64 (c' : Int), .int .i64 (k' : Int), .int .i64 (p' : Int), .int .i64 (h' : Int), .int .i64 (o' : Int), .int .i64 (n' : Int), .slice x.A l' x.cap] 57))) (fun _ _ h => h)
        have HDD := Lib.hid hd
        have HDB := Lib.hid hdb
        have HDL : Hid (l' ≤ x.cap ∧ x.cap ≤ maxLen ∧ l' ≤ 8) := ⟨hl1, hl2, by have := HNR.out.2; omega⟩
        have HO8 : Hid ((o' : Int) ≤ 9223372036854775807) := by have := HNR.out.1; show (o' : Int) ≤ _; omega
        have hcb := Blk.new wn 57 [.int .i64 (c' : Int), .int .i64 (k' : Int), .int .i64 (p' : Int), .int .i64 (h' : Int), .int .i64 (o' : Int), .int .i64 (n' : Int), .slice x.A l' x.cap]
        have HGC : Hid (Grow wr (wn.alloc (.cells #[.int .i64 (c' : Int), .int .i64 (k' : Int), .int .i64 (p' : Int), .int .i64 (h' : Int), .int .i64 (o' : Int), .int .i64 (n' : Int), .slice x.A l' x.cap] 57))) := HGN.out.trans ((Kept.refl _ _).alloc _)
        have HI2 : Hid (MI w ν m p (50 * j) (paint wr.heap.size 0 c) (wn.alloc (.cells #[.int .i64 (c' : Int), .int .i64 (k' : Int), .int .i64 (p' : Int), .int .i64 (h' : Int), .int .i64 (o' : Int), .int .i64 (n' : Int), .slice x.A l' x.cap] 57))) := ⟨HI.out.s.grow HGC.out, HI.out.x.grow HGC.out, HI.out.b⟩
        have HOG : Hid (Out (paint wr.heap.size 0 c) wn.heap.size) := out_new (c := 0) HGN.out.size
        have HMG : Hid (m < wn.heap.size) := by
          obtain ⟨_, _, _, _, _, _, _, _, _, _, h, _⟩ := HI.out.x
          exact Nat.lt_of_lt_of_le h.lt HGN.out.size
        generalize paint wr.heap.size 0 c = c2 at HI2 HOG
        generalize wn.alloc (.cells #[.int .i64 (c' : Int), .int .i64 (k' : Int), .int .i64 (p' : Int), .int .i64 (h' : Int), .int .i64 (o' : Int), .int .i64 (n' : Int), .slice x.A l' x.cap] 57) = wk at HDD hcb HI2 ⊢
        generalize wn.heap.size = g at hcb HOG HMG ⊢
        have HCB := Lib.hid hcb
        clear hd hdb hl1 hl2 HNR HGN HGC hcb HI HX HAB
        -- the model's call
        obtain ⟨ho, AT, nT, cT, AB, nB, cB, AH, nH, cH, hmb, hmp⟩ := HI2.out.x
        obtain ⟨rc, rp, rh, rd, U, hr⟩ : ∃ rc rp rh rd U, p.X.run c' ⟨k', p', h', o', n', d⟩ = (⟨rc, rp, rh, rd⟩, U) := ⟨_, _, _, _, _, rfl⟩
        obtain ⟨hq1, hq2, hq3⟩ := pn_run (o := ⟨k', p', h', o', n', d⟩) HPN.out HI2.out.s.x.i HDB.out c'
        have hrb := model_bytes HI2.out.s.x.i.gx c' ⟨k', p', h', o', n', d⟩
        rw [hr] at hq1 hq2 hrb
        have HQ1 := Lib.hid hq1
        have HQ2 := Lib.hid hq2
        have HQ3 := Lib.hid hq3
        have HRB := Lib.hid hrb
        have HDM := Lib.hid (PmF.t_do (dc := x.cap) hmp c' k' p' h' o' n' (HDD.out.more HI2.out.s.g.size) HDB.out HDL.out.1 HDL.out.2.1 HO8.out hr)
        have s0 := hmb.cell 0
        have s1 := hmb.cell 1
        have s2 := hmb.cell 2
        have y0 := HCB.out.cell 0
        have y1 := HCB.out.cell 1
        have y2 := HCB.out.cell 2
        have y3 := HCB.out.cell 3
        have y4 := HCB.out.cell 4
        have y5 := HCB.out.cell 5
        have y6 := HCB.out.cell 6
        simp only [List.getElem?_cons_zero, List.getElem?_cons_succ] at s0 s1 s2 y0 y1 y2 y3 y4 y5 y6
        have HSB := Lib.hid hmb
        clear ho hmb hmp hq1 hq2 hq3 hrb hr
        go_upto_region 12 with (go_at_call 26; (with_reducible refine HDM.out.mono ?_); rintro e wd ⟨XT, mT, jT, XB, mB, jB, XH, mH, jH, RA, rn, rcap, rfl, hpa, hre, hgd⟩; have HPD := Lib.hid hpa; have HRE := Lib.hid hre; have HGD := Lib.hid hgd; clear hpa hre hgd)
        clear s0 s1 s2 y0 y1 y2 y3 y4 y5 y6 HDM
        obtain ⟨ht1, ht2, hgt⟩ := Law13b.two_box wd (.slice XT mT jT) (.slice XB mB jB) (.slice XH mH jH) (.int .i64 rc) (.int .i64 rp) (.int .i64 rh) (.slice RA rn rcap)
        have HGT : Hid (Grow wk ((wd.alloc (.cells #[.slice XT mT jT, .slice XB mB jB, .slice XH mH jH] 64)).alloc (.cells #[.int .i64 rc, .int .i64 rp, .int .i64 rh, .slice RA rn rcap] 27)).drew) := (HGD.out.trans hgt).drew
        have HT1 := Lib.hid ht1.drew
        have HT2 := Lib.hid ht2.drew
        have HPT := Lib.hid (HPD.out.grow hgt.drew)
        have HRT := Lib.hid (PmC.sl_grow HRE.out.1 hgt.drew)
        have HOQ : Hid (Out (paint wk.heap.size 0 c2) wd.heap.size ∧ Out (paint wk.heap.size 0 c2) (wd.heap.size + 1) ∧ m < wd.heap.size) := ⟨out_new (c := 0) HGD.out.size, out_new (c := 0) (Nat.le_succ_of_le HGD.out.size), Nat.lt_of_lt_of_le HSB.out.lt HGD.out.size⟩
        have HRN : Hid (0 < rn → ∀ x, RA = some x → Out (paint wk.heap.size 0 c2) x.block) := fun h0 x e => out_new (c := 0) (HRE.out.2.1 h0 x e)
        generalize ((wd.alloc (.cells #[.slice XT mT jT, .slice XB mB jB, .slice XH mH jH] 64)).alloc (.cells #[.int .i64 rc, .int .i64 rp, .int .i64 rh, .slice RA rn rcap] 27)) = wt at *
        generalize wd.heap.size = q at HT1 HT2 HOQ ⊢
        clear ht1 ht2 hgt HPD HRE HGD
        have HS3 := Lib.hid (HI2.out.s.grow HGT.out)
        have HM3 := Lib.hid (HI2.out.x.grow HGT.out)
        have HOX : Hid (Out (paint wk.heap.size 0 c2) g) := (Out.went HOG.out HCB.out.lt (Went.grow HGT.out))
        have HCX := Lib.hid (HCB.out.grow HGT.out)
        have HDX : Hid (Sl wt.drew w.heap.size .u8 x.A l' d) := Sl.kept HDD.out HGT.out HI2.out.s.g.size fun _ _ e => e
        have HPX : Hid (PmC.PAt wt.drew (fun k => Out (paint wk.heap.size 0 c2) k ∧ k ≠ m) (.agg #[.slice XT mT jT, .slice XB mB jB, .slice XH mH jH]) U) := HPT.out.mono fun k _ hk => ⟨out_new (c := 0) hk, Nat.ne_of_gt (Nat.lt_of_lt_of_le HSB.out.lt hk)⟩
        have HWB := Lib.hid HI2.out.b
        clear HDD HCB HOG HI2 HPT HSB HGT
        generalize paint wk.heap.size 0 c2 = c3 at *
        have HDO := Lib.hid (pdo (dc := x.cap) (o := ⟨k', p', h', o', n', d⟩) HS3.out.x c' (HDX.out.more HS3.out.g.size) (by have := HDL.out.2.2; omega) HO8.out HDB.out (by omega))
        rw [HQ1.out] at HDO
        have hOut : ∀ k, Out c3 k → ¬ Mine wt.drew c3 k := fun k h e => by have := e.2; unfold Out at h; omega
        have q0 := up_cell (F := Mine wt.drew c3) (w := wt.drew) (p := ⟨q + 1, 0, none⟩) (HT2.out.cell 0) (hOut _ HOQ.out.2.1)
        have q1 := up_cell (F := Mine wt.drew c3) (w := wt.drew) (p := ⟨q + 1, 1, none⟩) (HT2.out.cell 1) (hOut _ HOQ.out.2.1)
        have q2 := up_cell (F := Mine wt.drew c3) (w := wt.drew) (p := ⟨q + 1, 2, none⟩) (HT2.out.cell 2) (hOut _ HOQ.out.2.1)
        have q3 := up_cell (F := Mine wt.drew c3) (w := wt.drew) (p := ⟨q + 1, 3, none⟩) (HT2.out.cell 3) (hOut _ HOQ.out.2.1)
        have y0 := up_cell (F := Mine wt.drew c3) (w := wt.drew) (p := ⟨g, 0, none⟩) (HCX.out.cell 0) (hOut _ HOX.out)
        have y1 := up_cell (F := Mine wt.drew c3) (w := wt.drew) (p := ⟨g, 1, none⟩) (HCX.out.cell 1) (hOut _ HOX.out)
        have y2 := up_cell (F := Mine wt.drew c3) (w := wt.drew) (p := ⟨g, 2, none⟩) (HCX.out.cell 2) (hOut _ HOX.out)
        have y3 := up_cell (F := Mine wt.drew c3) (w := wt.drew) (p := ⟨g, 3, none⟩) (HCX.out.cell 3) (hOut _ HOX.out)
        have y4 := up_cell (F := Mine wt.drew c3) (w := wt.drew) (p := ⟨g, 4, none⟩) (HCX.out.cell 4) (hOut _ HOX.out)
        have y5 := up_cell (F := Mine wt.drew c3) (w := wt.drew) (p := ⟨g, 5, none⟩) (HCX.out.cell 5) (hOut _ HOX.out)
        have y6 := up_cell (F := Mine wt.drew c3) (w := wt.drew) (p := ⟨g, 6, none⟩) (HCX.out.cell 6) (hOut _ HOX.out)
        clear hOut
        refine wp_region_stages (Kept (Mine wt.drew c3)) (kept_refl _) (kept_trans _) [([0, 1, 2, 3, 4, 6], 5), ([], 7)] [8] (by kernel_rfl) (by kernel_rfl) ?_
        simp only [selSt, sel, List.map_cons, List.map_nil, List.getD_cons_succ, List.getD_cons_zero]
        refine st_cons fun K1 hK1 => ?_
        repeat (go_big_quiet_step (fail))
        refine wpQuiet_nil ?_
        clear q0 q1 q2 q3 y0 y1 y2 y3 y4 y5 y6
        go_wp2_with (go_at_call 13; (with_reducible refine HDO.out.mono ?_); rintro e w4 ⟨B4, n4, k4, c4, rfl, hd, hfz, hnw, hw, hp⟩; have HD4 := Lib.hid hd; have HW4 := Lib.hid hw; have HP4 := Lib.hid hp; clear hd hfz hnw hw hp)
        refine norm_up (hK1 _ _ HW4.out.kept (st_cons fun K2 hK2 => wpQuiet_nil ?_))
        clear hK1 K1
        have HR4 : Hid (Sl w4 w4.heap.size .u8 RA rn rd) := (sl_kept HRT.out HW4.out.kept fun h0 x e z => by have h1 := HRN.out h0 x e; have h2 := z.2; unfold Out at h1; omega).more HW4.out.kept.size
        go_wp2_with (go_at_call 27; (with_reducible refine (same_true HD4.out.s HR4.out HRB.out).mono ?_); rintro e w5 ⟨rfl, hg5⟩; have HG5 := Lib.hid hg5; clear hg5)
        refine norm_up (hK2 _ _ (Grow.kept HG5.out) (st_nil fun K5 hK5 => ?_))
        clear hK2 K2
        repeat (go_big_quiet_step (fail))
        refine wpQuiet_nil (hK5 _ ?_)
        clear hK5 K5
        have HW5 : Hid (Went wt.drew c3 w5 (paint w4.heap.size 0 c4)) := HW4.out.trans (Went.grow HG5.out)
        have HS5 : Hid (Std w w5 (paint w4.heap.size 0 c4) ν (p.run c' ⟨k', p', h', o', n', d⟩).2 (50 * j + 50)) := (HS3.out.went HW4.out HP4.out).grow HG5.out
        generalize paint w4.heap.size 0 c4 = c5 at HW5 HS5
        have HP5 := Lib.hid (pat_went HPX.out HW5.out)
        have HT5 := Lib.hid (RgB.Went.blk HW5.out HT1.out HOQ.out.1)
        obtain ⟨ho5, AT5, nT5, cT5, AB5, nB5, cB5, AH5, nH5, cH5, hmb5, _⟩ := HM3.out.went HW5.out
        have HMB5 := Lib.hid (And.intro ho5 hmb5)
        have t0 := HT5.out.1.cell 0
        have t1 := HT5.out.1.cell 1
        have t2 := HT5.out.1.cell 2
        have b0 := hmb5.cell 0
        have b1 := hmb5.cell 1
        have b2 := hmb5.cell 2
        have bf := hmb5.frozen
        simp only [List.getElem?_cons_zero, List.getElem?_cons_succ] at t0 t1 t2 b0 b1 b2
        clear ho5 hmb5 HD4 HW4 HP4 HR4 HG5 HS3 HM3 HPX HT1 HT2 HCX HDX HDO HRT HRN
        go_wp2
        go_roundg (gk - 1)
        case measure => have := HG.out; have := HJ.out; omega
        case rel =>
          obtain ⟨h1, h2⟩ := MB.put HMB5.out.1 HMB5.out.2 HP5.out
          refine ⟨j + 1, (p.run c' ⟨k', p', h', o', n', d⟩).2, c5, by have := HG.out; have := HJ.out; omega, by go_num, HQ3.out, ?_, ?_, HWB.out⟩
          · have h3 := HS5.out.put h2 fun i _ e => by rw [e]; exact ⟨HWB.out, HMB5.out.1⟩
            rw [show 50 * j + 50 = 50 * (j + 1) by omega] at h3
            exact h3
          · rw [HQ2.out]
            exact h1
      · obtain rfl : j = len := by have := HG.out; omega
        clear hj
        go_wp2_with (go_at_call 11; (with_reducible refine (told_any _).mono ?_); rintro e wt ⟨rfl, hge⟩; have HGE := Lib.hid hge; clear hge)
        go_ret
        exact ⟨rfl, Grow.below (HI.out.s.g.trans HGE.out)⟩
end
end Go.Proofs.YtbnkpnllgoghnaaGreat.LwModel
