/-
  The statement RefFlushes, walked.
-/
import Derived.Test.YtbnkpnllgoghnaaGreatQa
import Derived.Test.YtbnkpnllgoghnaaGreatQb
import Derived.Test.YtbnkpnllgoghnaaGreatQc
import Derived.Test.YtbnkpnllgoghnaaGreatQd
import Derived.Test.YtbnkpnllgoghnaaGreatQe
import Derived.Test.YtbnkpnllgoghnaaGreatQf
import Derived.Test.YtbnkpnllgoghnaaGreatQg
import Derived.Test.YtbnkpnllgoghnaaGreatQh
import Derived.Test.YtbnkpnllgoghnaaGreatQi
import Derived.Test.YtbnkpnllgoghnaaGreatQj
import Derived.Test.YtbnkpnllgoghnaaGreatQk
import Derived.Test.YtbnkpnllgoghnaaGreatQl
import Derived.Test.YtbnkpnllgoghnaaGreatQm
namespace Go.Proofs.YtbnkpnllgoghnaaGreat.LwFlushes
open Go.ChangeShapes Go.WideShapes Go.ChangeAt Go.RowKit
open Go.Proofs.YtbnkpnllgoghnaaGreat.Mem Go.Proofs.YtbnkpnllgoghnaaGreat.Blk Go.Proofs.YtbnkpnllgoghnaaGreat.Cells Go.Proofs.YtbnkpnllgoghnaaGreat.Orow Go.Proofs.YtbnkpnllgoghnaaGreat.Calls13 Go.Proofs.YtbnkpnllgoghnaaGreat.MdNear Go.Proofs.YtbnkpnllgoghnaaGreat.RfP Go.Proofs.YtbnkpnllgoghnaaGreat.RgS Go.Proofs.YtbnkpnllgoghnaaGreat.RgV Go.Proofs.YtbnkpnllgoghnaaGreat.RgQ Go.Proofs.YtbnkpnllgoghnaaGreat.RgN Go.Proofs.YtbnkpnllgoghnaaGreat.RgMd Go.Proofs.YtbnkpnllgoghnaaGreat.Told16 Go.Proofs.YtbnkpnllgoghnaaGreat.Stages
open Go.Proofs.YtbnkpnllgoghnaaGreat.MdM (Md MdOp Re)
open Go.Proofs.YtbnkpnllgoghnaaGreat.ArM (Ar Fr)
open Go.Proofs.YtbnkpnllgoghnaaGreat.ArC (FR)
open Go.Proofs.YtbnkpnllgoghnaaGreat.RfM (Pl)
theorem wait_nil {S : Dev.Dv} (h : ∀ r, S.wr r = none) : ∀ j, Dev.waitL S j = []
  | 0 => rfl
  | j + 1 => by
    unfold Dev.waitL
    rw [wait_nil h j, h j]
    rfl
def GLoop (w6 : World) (g : Nat) (i : Value) (wx : World) : Prop := ∃ j : Nat, j + g = 5 ∧ i = .int .i64 (j : Int) ∧ Grow w6 wx
def PLoop (w : World) (ν : Nm) (m n M g : Nat) (i : Value) (wx : World) : Prop := ∃ (j : Nat) (p : Pl) (c : Nat → Nat), j + g = M ∧ i = .int .i64 (j : Int) ∧ PN n p ∧ MI w ν m p (50 * j) c wx
section
variable {w : World} {A : Option Addr} {len cap : Nat} {a : Int}
set_option maxRecDepth 100000 in
set_option maxHeartbeats 8000000 in
theorem flushes_any (h : CallsAt w A len cap) : Calls Tryz.prog 7 #[.int .i64 a, .slice A len cap] w fun e w' => e = .returned (.bool true) ∧ Below w.heap.size w w' := by
  have HFI := Lib.hid (fine_q 50 h)
  obtain ⟨hlc, hcm, hops⟩ := h
  unfold maxLen at hcm
  have HOPS := Lib.hid hops
  obtain ⟨q, hq, hq3⟩ := tmod_nat a 3 (by omega)
  simp only [Int.cast_ofNat_Int] at hq
  obtain ⟨n, hn⟩ : ∃ n : Nat, n = 3 + q := ⟨_, rfl⟩
  have hnz : (3 : Int) + (q : Int) = (n : Int) := by omega
  have hn1 : 3 ≤ n := by omega
  have hn5 : n ≤ 5 := by omega
  have hqz : (q : Int) < 3 := by omega
  have HN := Lib.hid (And.intro hn1 hn5)
  have HNEW := Lib.hid (pnew 5 3 n (by decide) (by decide) (by decide) (by decide) (by omega) (by omega) w)
  simp only [Int.cast_ofNat_Int] at HNEW
  have HMN : Hid (∀ wx, Calls Tryz.prog 25 #[.int .i64 5, .int .i64 3] wx (PmN.NewP 5 3 wx)) := fun wx => PmN.new_any 5 3 (by omega) (by omega) (by omega) (by omega) wx
  clear hops hn
  go_enter Tryz.func7, Tryz.ntmps7
  go_upto_if 16 with (go_at_call 18; (with_reducible refine HFI.out.mono ?_); rintro e w' ⟨rfl, b, rfl, hb⟩; have HB := Lib.hid hb; clear hb)
  cases b with
  | false =>
    go_wp2_with (go_at_call 11; (with_reducible refine (told_any _).mono ?_); rintro e wt ⟨rfl, hge⟩; have HGE := Lib.hid hge; clear hge)
    go_ret
    exact ⟨rfl, Grow.below HGE.out⟩
  | true =>
    have hl50 : (len : Int) ≤ 50 := (HB.out rfl).1
    clear HB HFI
    go_upto_region 5 with (first
      | (go_at_call 12; (try rw [hnz]); (with_reducible refine HNEW.out.mono ?_); rintro e u0 ⟨ν, c0, rfl, hp, hg, hz⟩; have HS0 := Lib.hid (new_std hp hg hz); clear hp hg hz)
      | (go_at_call 25; (with_reducible refine (HMN.out _).mono ?_); rintro e u1 ⟨v1, rfl, hpa, hg⟩; obtain ⟨AT, nT, cT, AB, nB, cB, AH, nH, cH, rfl, hmb, hgb⟩ := MB.new (c := paint u0.heap.size 0 c0) hpa (fun k hk => out_new (c := 0) hk); have HMB := Lib.hid hmb; have HGB := Lib.hid hgb; have HS1 := Lib.hid ((HS0.out.grow hg).grow hgb); have HWM := Lib.hid (Nat.le_trans HS0.out.g.size hg.size); clear hpa hg hmb hgb))
    have HI : Hid (MI w ν u1.heap.size (RfM.fresh 5 3 n) 0 (paint u1.heap.size 0 (paint u0.heap.size 0 c0)) (u1.alloc (.cells #[.slice AT nT cT, .slice AB nB cB, .slice AH nH cH] 64))) := ⟨HS1.out, HMB.out, HWM.out⟩
    generalize paint u1.heap.size 0 (paint u0.heap.size 0 c0) = c2 at HI
    generalize u1.alloc (.cells #[.slice AT nT cT, .slice AB nB cB, .slice AH nH cH] 64) = u2 at HI ⊢
    generalize u1.heap.size = m at HI ⊢
    have HDK := Lib.hid (disk_any HI.out.s.x.m)
    clear HS0 HS1 HMB HGB HWM HNEW HMN hq hq3 hqz
    go_wp2_with (go_at_call 17; (with_reducible refine HDK.out.mono ?_); rintro e w1 ⟨rfl, rfl⟩)
    clear HDK
    go_loopg [7] len (PLoop w ν m n len)
    case atStart => exact ⟨0, _, _, by omega, rfl, ⟨rfl, rfl, rfl, rfl⟩, HI.out⟩
    case round =>
      clear HI
      obtain ⟨j, p, c, hg, rfl, hpn, hi⟩ := hrel
      have HG := Lib.hid hg
      have HPN := Lib.hid hpn
      have HI := Lib.hid hi
      clear hg hpn hi
      by_cases hj : j < len
      · have hjz : (j : Int) < (len : Int) := by omega
        have HJ := Lib.hid hj
        obtain ⟨ab, ao, rfl, hab, hall⟩ := HOPS.out (by omega)
        obtain ⟨x, hx⟩ := hall j hj
        have HX := Lib.hid hx
        have HAB := Lib.hid hab
        have cc := HI.out.s.g.cellN hx.c id
        have ck := HI.out.s.g.cellN hx.k id
        have cp := HI.out.s.g.cellN hx.p id
        have ch := HI.out.s.g.cellN hx.h id
        have co := HI.out.s.g.cellN hx.o id
        have cn := HI.out.s.g.cellN hx.n id
        have cd := HI.out.s.g.cellN hx.d id
        have HNEAR : Hid (∀ wx, Calls Tryz.prog 21 #[.agg #[.int .i64 x.c, .int .i64 x.k, .int .i64 x.p, .int .i64 x.h, .int .i64 x.o, .int .i64 x.n, .slice x.A x.len x.cap], .int .i64 5, .int .i64 3] wx (NearP 5 3 x.A x.len x.cap wx)) := fun wx => near_any x.c x.k x.p x.h x.o x.n x.A x.len x.cap 5 3 (by omega) (by omega) (by omega) (by omega) (by obtain ⟨d, _, _, h, _⟩ := hx.da; exact h) wx
        clear hall hx hj hab
        go_upto_region 11 with (go_at_call 21; (with_reducible refine (HNEAR.out _).mono ?_); rintro e wn ⟨c', k', p', h', o', n', l', rfl, hr1, hr2, hr3, hr4, hr5, hr6, hr7, hl, hg⟩; have HNR := Lib.hid (And.intro hr6 hl); have HGN := Lib.hid hg; clear hg hr1 hr2 hr3 hr4 hr5 hr6 hr7 hl)
        clear cc ck cp ch co cn cd HNEAR
        obtain ⟨d, hd, hdb, hl1, hl2⟩ := bytes_take (l := l') HX.out.da (by have := HNR.out.2; omega) ((HI.out.s.g.trans HGN.out).trans ((Kept.refl _ wn).alloc (.cells #[.int .i64 (c' : Int), .int .i64 (k' : Int), .int .i64 (p' : Int), .int .i64 (h' : Int), .int .i64 (o' : Int), .int .i64 (n' : Int), .slice x.A l' x.cap] 57))) (fun _ _ h => h)
        have HDD := Lib.hid hd
        have HDB := Lib.hid hdb
        have HDL : Hid (l' ≤ x.cap ∧ x.cap ≤ maxLen ∧ l' ≤ 8) := ⟨hl1, hl2, by have := HNR.out.2; omega⟩
        have HO8 : Hid ((o' : Int) ≤ 9223372036854775807) := by have := HNR.out.1; show (o' : Int) ≤ _; omega
        have hcb := Blk.new wn 57 [.int .i64 (c' : Int), .int .i64 (k' : Int), .int .i64 (p' : Int), .int .i64 (h' : Int), .int .i64 (o' : Int), .int .i64 (n' : Int), .slice x.A l' x.cap]
        have HGC : Hid (Grow wr (wn.alloc (.cells #[.int .i64 (c' : Int), .int .i64 (k' : Int), .int .i64 (p' : Int), .int .i64 (h' : Int), .int .i64 (o' : Int), .int .i64 (n' : Int), .slice x.A l' x.cap] 57))) := HGN.out.trans ((Kept.refl _ _).alloc _)
        have HI2 : Hid (MI w ν m p (50 * j) (paint wr.heap.size 0 c) (wn.alloc (.cells #[.int .i64 (c' : Int), .int .i64 (k' : Int), .int .i64 (p' : Int), .int .i64 (h' : Int), .int .i64 (o' : Int), .int .i64 (n' : Int), .slice x.A l' x.cap] 57))) := ⟨HI.out.s.grow HGC.out, HI.out.x.grow HGC.out, HI.out.b⟩
        have HOG : Hid (Out (paint wr.heap.size 0 c) wn.heap.size) := out_new (c := 0) HGN.out.size
        have HMG : Hid (m < wn.heap.size) := by
          obtain ⟨_, _, _, _, _, _, _, _, _, _, h, _⟩ := HI.out.x
          exact Nat.lt_of_lt_of_le h.lt HGN.out.size
        generalize paint wr.heap.size 0 c = c2 at HI2 HOG
        generalize wn.alloc (.cells #[.int .i64 (c' : Int), .int .i64 (k' : Int), .int .i64 (p' : Int), .int .i64 (h' : Int), .int .i64 (o' : Int), .int .i64 (n' : Int), .slice x.A l' x.cap] 57) = wk at HDD hcb HI2 ⊢
        generalize wn.heap.size = g at hcb HOG HMG ⊢
        have HCB := Lib.hid hcb
        clear hd hdb hl1 hl2 HNR HGN HGC hcb HI HX HAB
        -- the pool's call
        obtain ⟨rc, rp, rh, rd, pl, hr⟩ : ∃ rc rp rh rd pl, p.run c' ⟨k', p', h', o', n', d⟩ = (⟨rc, rp, rh, rd⟩, pl) := ⟨_, _, _, _, _, rfl⟩
        have hcalm := pn_calm (o := ⟨k', p', h', o', n', d⟩) HPN.out HI2.out.s.x.i HDB.out c'
        have HDO := Lib.hid (pdo (dc := x.cap) (o := ⟨k', p', h', o', n', d⟩) HI2.out.s.x c' (HDD.out.more HI2.out.s.g.size) (by have := HDL.out.2.2; omega) HO8.out HDB.out (by omega))
        rw [hr] at hcalm HDO
        have HCALM := Lib.hid hcalm
        have y0 := HCB.out.cell 0
        have y1 := HCB.out.cell 1
        have y2 := HCB.out.cell 2
        have y3 := HCB.out.cell 3
        have y4 := HCB.out.cell 4
        have y5 := HCB.out.cell 5
        have y6 := HCB.out.cell 6
        simp only [List.getElem?_cons_zero, List.getElem?_cons_succ] at y0 y1 y2 y3 y4 y5 y6
        clear hcalm hr
        go_upto_region 12 with (go_at_call 13; (with_reducible refine HDO.out.mono ?_); rintro e w4 ⟨B4, n4, k4, c4, rfl, hd, hfz, hnw, hw, hp⟩; have HD4 := Lib.hid hd; have HW4 := Lib.hid hw; have HP4 := Lib.hid hp; clear hd hfz hnw hw hp)
        clear y0 y1 y2 y3 y4 y5 y6 HDO
        have hgb : Grow w4 (w4.alloc (.cells #[.int .i64 rc, .int .i64 rp, .int .i64 rh, .slice B4 n4 k4] 27)) := (Kept.refl _ _).alloc _
        have HB5 := Lib.hid (Blk.new w4 27 [.int .i64 rc, .int .i64 rp, .int .i64 rh, .slice B4 n4 k4])
        have HW5 : Hid (Went wk c2 (w4.alloc (.cells #[.int .i64 rc, .int .i64 rp, .int .i64 rh, .slice B4 n4 k4] 27)) (paint w4.heap.size 0 c4)) := HW4.out.trans (Went.grow hgb)
        have HS5 : Hid (Std w (w4.alloc (.cells #[.int .i64 rc, .int .i64 rp, .int .i64 rh, .slice B4 n4 k4] 27)) (paint w4.heap.size 0 c4) ν pl (50 * j + 50)) := (HI2.out.s.went HW4.out HP4.out).grow hgb
        have HD5 : Hid (Dt (w4.alloc (.cells #[.int .i64 rc, .int .i64 rp, .int .i64 rh, .slice B4 n4 k4] 27)) (paint w4.heap.size 0 c4) .u8 B4 n4 rd) := HD4.out.grow hgb
        have HOB : Hid (Out (paint w4.heap.size 0 c4) w4.heap.size) := out_new (c := 0) (Nat.le_refl _)
        generalize paint w4.heap.size 0 c4 = c5 at *
        generalize w4.alloc (.cells #[.int .i64 rc, .int .i64 rp, .int .i64 rh, .slice B4 n4 k4] 27) = w5 at *
        generalize w4.heap.size = b at HB5 HOB ⊢
        clear hgb HD4 HW4 HP4
        have HM5 := Lib.hid (HI2.out.x.went HW5.out)
        have HC5 := Lib.hid (RgB.Went.blk HW5.out HCB.out HOG.out)
        have HX5 : Hid (Sl w5 w.heap.size .u8 x.A l' d) := Sl.kept HDD.out HW5.out.kept HI2.out.s.g.size fun i hi e => by have := HI2.out.s.z i hi; have := e.2; omega
        have HWB := Lib.hid HI2.out.b
        have b0 := HB5.out.cell 0
        simp only [List.getElem?_cons_zero] at b0
        rcases HCALM.out with ⟨hc1, hc2, hc3, hc4⟩ | ⟨hc1, _, _⟩
        · -- the model goes on
          obtain ⟨ho, AT, nT, cT, AB, nB, cB, AH, nH, cH, hmb, hmp⟩ := HM5.out
          obtain ⟨U, hU⟩ : ∃ U, (p.X.run c' ⟨k', p', h', o', n', d⟩).2 = U := ⟨_, rfl⟩
          have hr : p.X.run c' ⟨k', p', h', o', n', d⟩ = (⟨rc, rp, rh, rd⟩, U) := by rw [hc1, ← hU]
          rw [hU] at hc3
          have HQ2 := Lib.hid hc3
          have HQ3 := Lib.hid hc4
          have HMB5 := Lib.hid (And.intro ho hmb)
          have HDM := Lib.hid (PmF.t_do (dc := x.cap) hmp c' k' p' h' o' n' (HX5.out.more HS5.out.g.size) HDB.out HDL.out.1 HDL.out.2.1 HO8.out hr)
          have HNB := Lib.hid (beq_eq_false_iff_ne.2 hc2)
          have s0 := hmb.cell 0
          have s1 := hmb.cell 1
          have s2 := hmb.cell 2
          have y0 := HC5.out.1.cell 0
          have y1 := HC5.out.1.cell 1
          have y2 := HC5.out.1.cell 2
          have y3 := HC5.out.1.cell 3
          have y4 := HC5.out.1.cell 4
          have y5 := HC5.out.1.cell 5
          have y6 := HC5.out.1.cell 6
          simp only [List.getElem?_cons_zero, List.getElem?_cons_succ] at s0 s1 s2 y0 y1 y2 y3 y4 y5 y6
          clear ho hmb hmp hr hU hc1 hc3 hc4 HCALM
          go_wp2_with (go_at_call 26; (with_reducible refine HDM.out.mono ?_); rintro e wd ⟨XT, mT, jT, XB, mB, jB, XH, mH, jH, RA, rn, rcap, rfl, hpa, hre, hgd⟩; have HPD := Lib.hid hpa; have HGD := Lib.hid hgd; have hbm := HMB5.out.2.grow hgd; have z0 := hbm.cell 0; have z1 := hbm.cell 1; have z2 := hbm.cell 2; have zf := hbm.frozen; simp only [List.getElem?_cons_zero, List.getElem?_cons_succ] at z0 z1 z2; have HBM := Lib.hid hbm; clear hpa hre hgd hbm)
          go_roundg (len - (j + 1))
          case measure => have := HG.out; have := HJ.out; omega
          case rel =>
            have HP6 : PmC.PAt wd (fun k => Out (paint w5.heap.size 0 c5) k ∧ k ≠ m) (.agg #[.slice XT mT jT, .slice XB mB jB, .slice XH mH jH]) U := HPD.out.mono fun k _ hk => ⟨out_new (c := 0) hk, Nat.ne_of_gt (Nat.lt_of_lt_of_le HMB5.out.2.lt hk)⟩
            have ho6 := Out.went HMB5.out.1 HMB5.out.2.lt (Went.grow HGD.out)
            have hput := MB.put ho6 HBM.out HP6
            refine ⟨j + 1, pl, paint w5.heap.size 0 c5, by have := HG.out; have := HJ.out; omega, by go_num, HQ3.out, ?_, ?_, HWB.out⟩
            · have h3 := (HS5.out.grow HGD.out).put hput.2 fun i _ e => by rw [e]; exact ⟨HWB.out, ho6⟩
              rw [show 50 * j + 50 = 50 * (j + 1) by omega] at h3
              exact h3
            · rw [HQ2.out]
              exact hput.1
        · obtain rfl : rc = 8 := congrArg (fun x => x.1.c) hc1
          obtain rfl : pl = p := congrArg (fun x => x.2) hc1
          clear hc1 HCALM
          go_wp2
          go_roundg (len - (j + 1))
          case measure => have := HG.out; have := HJ.out; omega
          case rel => exact ⟨j + 1, pl, c5, by have := HG.out; have := HJ.out; omega, by go_num, HPN.out, by have h3 := HS5.out; rw [show 50 * j + 50 = 50 * (j + 1) by omega] at h3; exact h3, HM5.out, HWB.out⟩
      · obtain rfl : j = len := by have := HG.out; omega
        clear hj
        obtain ⟨e1, e2, e3, e4⟩ := RfL.all_durable (o := ⟨7, 0, 0, 0, 0, []⟩) (c := 0) HI.out.s.x.i HPN.out.bad rfl (by rw [HPN.out.xN]; exact ⟨by decide, by decide⟩)
        have HDO := Lib.hid (pdo0 (c := 0) (a1 := 7) (a2 := 0) (a3 := 0) (a4 := 0) (a5 := 0) HI.out.s.x (by decide) (by omega) e1 rfl)
        generalize (p.run 0 ⟨7, 0, 0, 0, 0, []⟩).2 = p2 at e2 e3 e4 HDO
        have HE3 := Lib.hid e3
        have HE4 := Lib.hid e4
        have HX2 := Lib.hid e2
        have hfl := field_res
        clear e1 e2 e3 e4
        go_upto_region 16 with (go_at_call 13; (with_reducible refine HDO.out.mono ?_); rintro e w4 ⟨B4, n4, k4, c4, rfl, hd, hfz, hnw, hw, hp⟩; have HS4 := Lib.hid (HI.out.s.went hw hp); have HM4 := Lib.hid (HI.out.x.went hw); clear hd hfz hnw hw hp)
        have HDK := Lib.hid (disk_any HS4.out.x.m)
        have hdu := DevY.durable_any HS4.out.x.m.dev
        rw [HS4.out.x.i.dN, HX2.out, HPN.out.xn] at hdu
        have HDU := Lib.hid hdu
        clear HDO hdu
        go_upto_region 17 with (first
          | (go_at_call 17; (with_reducible refine HDK.out.mono ?_); rintro e w1 ⟨rfl, rfl⟩)
          | (go_at_call 29; (with_reducible refine HDU.out.mono ?_); rintro e w6 ⟨gd, cd, f, rfl, hg, hrow, hfr, hgr⟩; have HRW := Lib.hid hrow; have HFR := Lib.hid hfr; have HS6 := Lib.hid (HS4.out.grow hgr); have HM6 := Lib.hid (HM4.out.grow hgr); clear hg hrow hfr hgr))
        clear HDK HDU HS4 HM4
        obtain ⟨AT6, cT6, AB6, cB6, AH6, cH6, hmb, hmp⟩ := HM6.out.form
        obtain ⟨gT, gB, _, _, rfl, rfl, _, _, _⟩ := pat_page hmp (q := 0) (by rw [HPN.out.xn]; decide)
        rw [HPN.out.xn] at hmb
        have HMB := Lib.hid hmb
        have HMP := Lib.hid hmp
        have s0 := hmb.cell 0
        have s1 := hmb.cell 1
        simp only [List.getElem?_cons_zero, List.getElem?_cons_succ] at s0 s1
        clear hmb hmp
        go_upto_region 19 with (fail)
        clear s0 s1
        go_wp2
        go_loopg [11] 5 (GLoop w6)
        case atStart => exact ⟨0, by omega, rfl, Kept.refl _ _⟩
        case round =>
          obtain ⟨y, hg, rfl, hgr⟩ := hrel
          have HGQ := Lib.hid hg
          have HGR := Lib.hid hgr
          clear hg hgr
          by_cases hy : y < 5
          · have hyz : (y : Int) < 5 := by omega
            have HY := Lib.hid hy
            have r0 := HGR.out.cellN (HRW.out.cell hy) id
            obtain ⟨b, cb, hf, hb1, hb2, _, hb3, hb4, hb5⟩ := HFR.out y hy
            rw [hf] at r0
            have hsl : Sl wr w6.heap.size .u8 (some ⟨b, 0, none⟩) 24 (p2.D.dur y) := Sl.kept (RgC.nrow_sl hb3 hb4) HGR.out (Nat.le_refl _) fun _ _ e => e
            have HOP := Lib.hid (PageC.open_good (y : Int) (some ⟨b, 0, none⟩) cb w6.heap.size (p2.D.dur y) wr (by omega) (by omega) hb5 hsl HGR.out.size hb1 hb2)
            obtain ⟨gT', gB', gq, cq, e1, e2, hpt, hpb, hps⟩ := pat_page HMP.out (q := y) (by rw [HPN.out.xn]; exact hy)
            injection e1 with e1
            injection e1 with e1
            injection e2 with e2
            injection e2 with e2
            subst e1 e2
            have HPT := Lib.hid hpt
            have HPB := Lib.hid hpb
            have HPS := Lib.hid hps
            clear hf hb1 hb2 hb3 hb4 hb5 hsl hpt hpb hps hy
            cases hT : p.X.T y with
            | true =>
              obtain ⟨h1, h2⟩ := HE4.out y (by rw [HPN.out.xn]; exact HY.out) hT
              have HOI := Lib.hid (PageC.open_is HOP.out h1 h2 (HI.out.s.x.i.gx.len y))
              clear h1 h2
              go_upto_region 23 with (go_at_call 30; (with_reducible refine HOI.out.mono ?_); rintro e w7 ⟨g2, c7, rfl, hg2, hn2, hgr⟩; have HG7 := Lib.hid (HGR.out.trans hgr); have HN7 := Lib.hid hn2; clear hg2 hn2 hgr)
              have hbt := HPT.out
              rw [hT] at hbt
              have hd7 := HG7.out.drew
              have q0 := up_cell (F := fun _ => False) (w := w7.drew) (p := ⟨m, 0, none⟩) ((HMB.out.grow hd7).cell 0) id
              have q1 := up_cell (F := fun _ => False) (w := w7.drew) (p := ⟨m, 1, none⟩) ((HMB.out.grow hd7).cell 1) id
              have q2 := up_cell (F := fun _ => False) (w := w7.drew) (hd7.cellN hbt id) id
              have q3 := up_cell (F := fun _ => False) (w := w7.drew) (hd7.cellN HPB.out id) id
              clear hbt hd7
              have hbl := HI.out.s.x.i.gx.len y
              have hs7 : Sl w7 w7.heap.size .u8 (some ⟨g2, 8, none⟩) 16 (p.X.B y) := by
                have h := Sl.of_blk (B := w7.heap.size) HN7.out 8 16 (by rw [PageM.seal_len, hbl]; omega) HN7.out.lt
                rw [PageM.seal_drop, List.take_of_length_le (by rw [hbl]; omega)] at h
                exact h
              have cs1 := up_run (F := fun _ => False) (P := Tryz.prog) (w := w7.drew) fun w' hk => (Sl.kept hs7 ((Kept.drew' w7).trans hk) (Nat.le_refl _) fun _ _ e => e : Sl w' w7.heap.size .u8 (some ⟨g2, 8, none⟩) 16 (p.X.B y)).str 22 9 5 Tryz.underlying22 Tryz.underlying5 Tryz.underlying9 c7
              have cs2 := up_run (F := fun _ => False) (P := Tryz.prog) (w := w7.drew) fun w' hk => (Sl.kept HPS.out (HG7.out.drew.trans hk) (Nat.le_refl _) fun _ _ e => e : Sl w' w6.heap.size .u8 (some ⟨gq, 0, none⟩) 16 (p.X.B y)).str 22 9 5 Tryz.underlying22 Tryz.underlying5 Tryz.underlying9 cq
              generalize strOfNums (p.X.B y) = st at cs1 cs2
              clear hs7
              clear hbl
              refine wp_region_stages (Kept fun _ => False) (kept_refl _) (kept_trans _) [] [0, 1, 2, 3, 4, 5, 6, 7, 8, 9, 10, 11, 12, 13, 14, 15, 16, 17, 18, 19] (by kernel_rfl) (by kernel_rfl) ?_
              simp only [selSt, sel, List.map_cons, List.map_nil, List.getD_cons_succ, List.getD_cons_zero]
              refine st_nil fun K4 hK4 => ?_
              repeat (go_big_quiet_step (fail))
              refine wpQuiet_nil (hK4 _ ?_)
              clear hK4 K4 q0 q1 q2 q3 cs1 cs2
              go_wp2
              go_roundg (gk - 1)
              case measure => have := HGQ.out; have := HY.out; omega
              case rel => exact ⟨y + 1, by have := HGQ.out; have := HY.out; omega, by go_num, HG7.out.drew⟩
            | false =>
              go_upto_region 23 with (go_at_call 30; (with_reducible refine HOP.out.mono ?_); rintro e w7 ⟨A7, c7, rfl, _, _, hgr⟩; have HG7 := Lib.hid (HGR.out.trans hgr); clear hgr)
              have hbt := HPT.out
              rw [hT] at hbt
              have hd7 := HG7.out.drew
              have q0 := up_cell (F := fun _ => False) (w := w7.drew) (p := ⟨m, 0, none⟩) ((HMB.out.grow hd7).cell 0) id
              have q1 := up_cell (F := fun _ => False) (w := w7.drew) (p := ⟨m, 1, none⟩) ((HMB.out.grow hd7).cell 1) id
              have q2 := up_cell (F := fun _ => False) (w := w7.drew) (hd7.cellN hbt id) id
              have q3 := up_cell (F := fun _ => False) (w := w7.drew) (hd7.cellN HPB.out id) id
              clear hbt hd7
              generalize PageM.openC (y : Int) (p2.D.dur y) = oc at *
              refine wp_region_stages (Kept fun _ => False) (kept_refl _) (kept_trans _) [] [0, 1, 2, 3, 4, 5, 6, 7, 8, 9, 10, 11, 12, 13, 14, 15, 16, 17, 18, 19] (by kernel_rfl) (by kernel_rfl) ?_
              simp only [selSt, sel, List.map_cons, List.map_nil, List.getD_cons_succ, List.getD_cons_zero]
              refine st_nil fun K4 hK4 => ?_
              repeat (go_big_quiet_step (fail))
              refine wpQuiet_nil (hK4 _ ?_)
              clear hK4 K4 q0 q1 q2 q3
              go_wp2
              go_roundg (gk - 1)
              case measure => have := HGQ.out; have := HY.out; omega
              case rel => exact ⟨y + 1, by have := HGQ.out; have := HY.out; omega, by go_num, HG7.out.drew⟩
          · obtain rfl : y = 5 := by have := HGQ.out; omega
            have HDK : Hid (∀ wx, Grow w6 wx → Calls Tryz.prog 17 #[.pointer (some ⟨ν.r, 0, none⟩)] wx fun e w' => e = .returned (.pointer (some ⟨ν.d, 0, none⟩)) ∧ wx = w') := fun wx hg => disk_any (HS6.out.grow hg).x.m
            have HWT : Hid (∀ wx, Grow w6 wx → Calls Tryz.prog 31 #[.pointer (some ⟨ν.d, 0, none⟩)] wx fun e w' => ∃ A c, e = .returned (.slice A 0 c) ∧ Grow wx w') := fun wx hg => (DevY.waits_any (HS6.out.grow hg).x.m.dev).mono fun e w' ⟨A, n, c, he, hs, _, hg'⟩ => by
              rw [wait_nil HE3.out] at hs
              have h0 : n = 0 := hs.len.symm
              subst h0
              exact ⟨A, c, he, hg'⟩
            clear hy
            go_wp2_with (first
              | (go_at_call 11; (with_reducible refine (told_any _).mono ?_); rintro e wt ⟨rfl, hge⟩; have HGE := Lib.hid (HGR.out.trans hge); clear hge)
              | (go_at_call 17; (with_reducible refine (HDK.out _ HGE.out).mono ?_); rintro e wy ⟨rfl, rfl⟩)
              | (go_at_call 31; (with_reducible refine (HWT.out _ HGE.out).mono ?_); rintro e wz ⟨A9, c9, rfl, hg⟩; have HGZ := Lib.hid hg; clear hg))
            go_ret
            exact ⟨rfl, Grow.below ((HS6.out.g.trans HGE.out).trans HGZ.out)⟩
end
end Go.Proofs.YtbnkpnllgoghnaaGreat.LwFlushes
