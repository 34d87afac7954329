/-
  The statement RefFaults, walked.
-/
import Derived.Test.YtbnkpnllgoghnaaGreatQa
import Derived.Test.YtbnkpnllgoghnaaGreatQb
import Derived.Test.YtbnkpnllgoghnaaGreatQc
import Derived.Test.YtbnkpnllgoghnaaGreatQd
import Derived.Test.YtbnkpnllgoghnaaGreatQe
import Derived.Test.YtbnkpnllgoghnaaGreatQf
import Derived.Test.YtbnkpnllgoghnaaGreatQg
import Derived.Test.YtbnkpnllgoghnaaGreatQh
import Derived.Test.YtbnkpnllgoghnaaGreatQi
import Derived.Test.YtbnkpnllgoghnaaGreatQj
import Derived.Test.YtbnkpnllgoghnaaGreatQk
import Derived.Test.YtbnkpnllgoghnaaGreatQl
import Derived.Test.YtbnkpnllgoghnaaGreatQm
import Derived.LoopN
import Derived.Deep.CutRange
namespace Go.Proofs.YtbnkpnllgoghnaaGreat.LwFaults
open Go.ChangeShapes Go.WideShapes Go.ChangeAt Go.RowKit
open Go.Proofs.YtbnkpnllgoghnaaGreat.Mem Go.Proofs.YtbnkpnllgoghnaaGreat.Blk Go.Proofs.YtbnkpnllgoghnaaGreat.Cells Go.Proofs.YtbnkpnllgoghnaaGreat.Orow Go.Proofs.YtbnkpnllgoghnaaGreat.Calls13 Go.Proofs.YtbnkpnllgoghnaaGreat.MdNear Go.Proofs.YtbnkpnllgoghnaaGreat.RfP Go.Proofs.YtbnkpnllgoghnaaGreat.RgS Go.Proofs.YtbnkpnllgoghnaaGreat.RgV Go.Proofs.YtbnkpnllgoghnaaGreat.RgQ Go.Proofs.YtbnkpnllgoghnaaGreat.RgN Go.Proofs.YtbnkpnllgoghnaaGreat.RgMd Go.Proofs.YtbnkpnllgoghnaaGreat.RgTw Go.Proofs.YtbnkpnllgoghnaaGreat.Trees Go.Proofs.YtbnkpnllgoghnaaGreat.Tree3 Go.Proofs.YtbnkpnllgoghnaaGreat.Told16 Go.Proofs.YtbnkpnllgoghnaaGreat.Stages
open Go.Proofs.YtbnkpnllgoghnaaGreat.MdM (Md MdOp Re)
open Go.Proofs.YtbnkpnllgoghnaaGreat.ArM (Ar Fr)
open Go.Proofs.YtbnkpnllgoghnaaGreat.ArC (FR)
open Go.Proofs.YtbnkpnllgoghnaaGreat.RfM (Pl)
def FLoop (w : World) (νA νB : Nm) (n M g : Nat) (i : Value) (wx : World) : Prop := ∃ (j : Nat) (a b : Pl) (cA cB : Nat → Nat), j + g = M ∧ i = .int .i64 (j : Int) ∧ FQ n a b ∧ S2 w νA νB wx cA a (100 * j) cB b (100 * j) [] []
/-- Ahead of the two calls. -/
def CutR (w : World) (νA νB : Nm) (n j : Nat) (bs : List (Nat × TypeId × List Value)) (wx : World) : Prop := ∃ (a b : Pl) (cA cB : Nat → Nat), FQ n a b ∧ S2 w νA νB wx cA a (100 * j + 50) cB b (100 * j + 50) bs []
/-- Behind them: both told the same. -/
def EndR (w : World) (νA νB : Nm) (n j : Nat) (v v' : Value) (wx : World) : Prop := ∃ (b1 b2 : Nat) (rc rp rh : Int) (rd : List Int) (A1 A2 : Option Addr) (n1 k1 n2 k2 : Nat) (a b : Pl) (cA cB : Nat → Nat), v = .pointer (some ⟨b1, 0, none⟩) ∧ v' = .pointer (some ⟨b2, 0, none⟩) ∧ Blk wx b1 27 [.int .i64 rc, .int .i64 rp, .int .i64 rh, .slice A1 n1 k1] ∧ Blk wx b2 27 [.int .i64 rc, .int .i64 rp, .int .i64 rh, .slice A2 n2 k2] ∧ Sl wx wx.heap.size .u8 A1 n1 rd ∧ Sl wx wx.heap.size .u8 A2 n2 rd ∧ FQ n a b ∧ S2 w νA νB wx cA a (100 * (j + 1)) cB b (100 * (j + 1)) [] []
section
variable {w : World} {A : Option Addr} {len cap : Nat} {a a2 : Int}
set_option maxRecDepth 100000 in
set_option maxHeartbeats 16000000 in
theorem faults_any (h : CallsAt w A len cap) : Calls Tryz.prog 10 #[.int .i64 a, .slice A len cap, .int .i64 a2] w fun e w' => e = .returned (.bool true) ∧ Below w.heap.size w w' := by
  have HFI := Lib.hid (fine_q 30 h)
  obtain ⟨hlc, hcm, hops⟩ := h
  unfold maxLen at hcm
  have HOPS := Lib.hid hops
  obtain ⟨q, hq, hq3⟩ := tmod_nat a 3 (by omega)
  simp only [Int.cast_ofNat_Int] at hq
  obtain ⟨n, hn⟩ : ∃ n : Nat, n = 1 + q := ⟨_, rfl⟩
  have hnz : (1 : Int) + (q : Int) = (n : Int) := by omega
  have hn1 : 1 ≤ n := by omega
  have hn3 : n ≤ 3 := by omega
  have hqz : (q : Int) < 3 := by omega
  have HN := Lib.hid (And.intro hn1 hn3)
  have HNEW := Lib.hid (pnew 5 3 n (by decide) (by decide) (by decide) (by decide) (by omega) (by omega) w)
  have HNEW2 : Hid (∀ wx, Calls Tryz.prog 12 #[.int .i64 5, .int .i64 3, .int .i64 (n : Int)] wx (NewAt 5 3 n wx)) := fun wx => pnew 5 3 n (by decide) (by decide) (by decide) (by decide) (by omega) (by omega) wx
  simp only [Int.cast_ofNat_Int] at HNEW
  clear hops hn
  go_enter Tryz.func10, Tryz.ntmps10
  by_cases hl1 : len < 1
  · have hl1z : (len : Int) < 1 := by omega
    clear hl1
    go_upto_if 24 with (go_at_call 18; (with_reducible refine HFI.out.mono ?_); rintro e w' ⟨rfl, b, rfl, hb⟩; clear hb; cases b)
    all_goals
      go_wp2_with (go_at_call 11; (with_reducible refine (told_any _).mono ?_); rintro e wt ⟨rfl, hge⟩; have HGE := Lib.hid hge; clear hge)
      go_ret
      exact ⟨rfl, Grow.below HGE.out⟩
  have hl1z : ¬ (len : Int) < 1 := by omega
  have HL1 : Hid (0 < len) := by show 0 < len; omega
  clear hl1
  go_upto_if 24 with (go_at_call 18; (with_reducible refine HFI.out.mono ?_); rintro e w' ⟨rfl, b, rfl, hb⟩; have HB := Lib.hid hb; clear hb; cases b)
  · go_wp2_with (go_at_call 11; (with_reducible refine (told_any _).mono ?_); rintro e wt ⟨rfl, hge⟩; have HGE := Lib.hid hge; clear hge)
    go_ret
    exact ⟨rfl, Grow.below HGE.out⟩
  have hl30 : (len : Int) ≤ 30 := (HB.out trivial).1
  clear HB HFI
  go_upto_region 5 with (first
    | (go_at_call 12; (try rw [hnz]); (with_reducible refine HNEW.out.mono ?_); rintro e u0 ⟨νA, cA0, rfl, hp, hg, hz⟩; have HP0 := Lib.hid hp; have HG0 := Lib.hid hg; have HZ0 := Lib.hid hz; clear hp hg hz HNEW)
    | (go_at_call 12; (with_reducible refine (HNEW2.out _).mono ?_); rintro e u1 ⟨νB, cB0, rfl, hp, hg, hz⟩; have HS := Lib.hid (two_new HP0.out HG0.out HZ0.out hp hg hz); clear hp hg hz))
  clear HP0 HG0 HZ0 HNEW2 hq hq3 hqz
  generalize paint u0.heap.size 0 cA0 = cA1 at HS
  have HDK := Lib.hid (disk_any HS.out.a.x.m)
  obtain ⟨K, hK, hKl⟩ := tmod_nat a2 len HL1.out
  have hwl : IntKind.u64.wrap (len : Int) = (len : Int) := IntWalk.u64_in _ (by omega)
  have hwk : IntKind.i64.wrap (K : Int) = (K : Int) := IntWalk.i64_in _ (by omega)
  have hlne : ((len : Int) == 0) = false := by rw [beq_eq_false_iff_ne]; have := HL1.out; omega
  have hlne' : ¬ ((len : Int) = 0) := by have := HL1.out; omega
  go_upto_region 8 with (go_at_call 17; (with_reducible refine HDK.out.mono ?_); rintro e w1 ⟨rfl, rfl⟩)
  clear HDK hK hwl hwk hlne hlne' hKl
  go_wp2
  go_loopg [11] len (FLoop w νA νB n len)
  case atStart => exact ⟨0, _, _, _, _, by omega, rfl, ⟨rfl, rfl, rfl, rfl, rfl⟩, HS.out⟩
  case round =>
    clear HS
    obtain ⟨j, a, b, cA, cB, hg, rfl, hfq, hs⟩ := hrel
    have HG := Lib.hid hg
    have HFQ := Lib.hid hfq
    have HI := Lib.hid hs
    clear hg hfq hs
    by_cases hj : j < len
    · have hjz : (j : Int) < (len : Int) := by omega
      have HJ := Lib.hid hj
      obtain ⟨ab, ao, rfl, hab, hall⟩ := HOPS.out (by omega)
      obtain ⟨x, hx⟩ := hall j hj
      have HX := Lib.hid hx
      have HAB := Lib.hid hab
      have cc := HI.out.a.g.cellN hx.c id
      have ck := HI.out.a.g.cellN hx.k id
      have cp := HI.out.a.g.cellN hx.p id
      have ch := HI.out.a.g.cellN hx.h id
      have co := HI.out.a.g.cellN hx.o id
      have cn := HI.out.a.g.cellN hx.n id
      have cd := HI.out.a.g.cellN hx.d id
      have HNEAR : Hid (∀ wx, Calls Tryz.prog 21 #[.agg #[.int .i64 x.c, .int .i64 x.k, .int .i64 x.p, .int .i64 x.h, .int .i64 x.o, .int .i64 x.n, .slice x.A x.len x.cap], .int .i64 5, .int .i64 3] wx (NearP 5 3 x.A x.len x.cap wx)) := fun wx => near_any x.c x.k x.p x.h x.o x.n x.A x.len x.cap 5 3 (by omega) (by omega) (by omega) (by omega) (by obtain ⟨d, _, _, h, _⟩ := hx.da; exact h) wx
      clear hall hx hj hab
      go_upto_region 12 with (go_at_call 21; (with_reducible refine (HNEAR.out _).mono ?_); rintro e wn ⟨c', k', p', h', o', n', l', rfl, hr1, hr2, hr3, hr4, hr5, hr6, hr7, hl, hg⟩; have HNR := Lib.hid (And.intro hr6 hl); have HGN := Lib.hid hg; clear hg hr1 hr2 hr3 hr4 hr5 hr6 hr7 hl)
      clear cc ck cp ch co cn cd HNEAR
      obtain ⟨d, hd, hdb, hl1, hl2⟩ := bytes_take (l := l') HX.out.da (by have := HNR.out.2; omega) (Kept.refl (fun _ => False) w) (fun _ _ h => h)
      have HDW := Lib.hid hd
      have HDB := Lib.hid hdb
      have HDL : Hid (l' ≤ x.cap ∧ x.cap ≤ maxLen ∧ l' ≤ 8) := ⟨hl1, hl2, by have := HNR.out.2; omega⟩
      have HO8 : Hid ((o' : Int) ≤ 9223372036854775807) := by have := HNR.out.1; show (o' : Int) ≤ _; omega
      have HGC : Hid (Grow wr (wn.alloc (.cells #[.int .i64 (c' : Int), .int .i64 (k' : Int), .int .i64 (p' : Int), .int .i64 (h' : Int), .int .i64 (o' : Int), .int .i64 (n' : Int), .slice x.A l' x.cap] 57))) := HGN.out.trans ((Kept.refl _ _).alloc _)
      have HI2 := Lib.hid ((HI.out.grow HGN.out).add (w' := (wn.alloc (.cells #[.int .i64 (c' : Int), .int .i64 (k' : Int), .int .i64 (p' : Int), .int .i64 (h' : Int), .int .i64 (o' : Int), .int .i64 (n' : Int), .slice x.A l' x.cap] 57))) ((Kept.refl _ wn).alloc _) (Blk.new wn 57 [.int .i64 (c' : Int), .int .i64 (k' : Int), .int .i64 (p' : Int), .int .i64 (h' : Int), .int .i64 (o' : Int), .int .i64 (n' : Int), .slice x.A l' x.cap]))
      generalize (wn.alloc (.cells #[.int .i64 (c' : Int), .int .i64 (k' : Int), .int .i64 (p' : Int), .int .i64 (h' : Int), .int .i64 (o' : Int), .int .i64 (n' : Int), .slice x.A l' x.cap] 57)) = wk at HI2 ⊢
      generalize paint wn.heap.size 0 (paint wr.heap.size 0 cA) = cA2 at HI2
      generalize paint wn.heap.size 0 (paint wr.heap.size 0 cB) = cB2 at HI2
      generalize wn.heap.size = g at HI2 ⊢
      clear hd hdb hl1 hl2 HNR HGN HGC HI HX HAB
      have HJ30 : Hid (j < 30) := by show j < 30; omega
      have HX1 : Hid (∀ wx cA a k cB b l bs ds, S2 w νA νB wx cA a k cB b l bs ds → Sl wx wx.heap.size .u8 x.A l' d) := fun wx cA a k cB b l bs ds hs => (Sl.kept HDW.out hs.a.g (Nat.le_refl _) fun _ _ e => e).more hs.a.g.size
      go_upto_if 66 with (fail)
      go_cut [13, 14] from 66 to 93 (fun _ _ wx => CutR w νA νB n j [(g, 57, [.int .i64 (c' : Int), .int .i64 (k' : Int), .int .i64 (p' : Int), .int .i64 (h' : Int), .int .i64 (o' : Int), .int .i64 (n' : Int), .slice x.A l' x.cap])] wx)
      case first =>
        by_cases e : (j : Int) = (K : Int)
        · have be : ((j : Int) == (K : Int)) = true := by simpa using e
          clear e
          have HDK := Lib.hid (disk_any HI2.out.a.x.m)
          have HFL := Lib.hid (pfail HI2.out.a.x 1)
          go_upto_region 14 with (first
            | (go_at_call 17; (with_reducible refine HDK.out.mono ?_); rintro e w1 ⟨rfl, rfl⟩)
            | (go_at_call 19; (with_reducible refine HFL.out.mono ?_); rintro e w3 ⟨rfl, cA3, hw, hp⟩; have HS3 := Lib.hid (HI2.out.went hw hp); clear hw hp))
          clear be HDK HFL
          generalize paint wk.heap.size 0 cB2 = cB3 at HS3
          have hfail := HFQ.out.fail (o := ⟨k', p', h', o', n', d⟩) HI2.out.a.x.i HI2.out.b.x.i HDB.out c'
          have HDO := Lib.hid (pdo (dc := x.cap) (o := ⟨k', p', h', o', n', d⟩) HS3.out.a.x c' (HX1.out _ _ _ _ _ _ _ _ _ HS3.out) (by have := HDL.out.2.2; omega) HO8.out HDB.out (by have := HJ30.out; omega))
          obtain ⟨rc, rp, rh, rd, pl, hr⟩ : ∃ rc rp rh rd pl, (fl a 1).run c' ⟨k', p', h', o', n', d⟩ = (⟨rc, rp, rh, rd⟩, pl) := ⟨_, _, _, _, _, rfl⟩
          rw [hr] at hfail HDO
          have HFAIL := Lib.hid hfail
          have hbx := (HS3.out.x _ (List.mem_singleton.2 rfl)).1
          have y0 := hbx.cell 0
          have y1 := hbx.cell 1
          have y2 := hbx.cell 2
          have y3 := hbx.cell 3
          have y4 := hbx.cell 4
          have y5 := hbx.cell 5
          have y6 := hbx.cell 6
          simp only [List.getElem?_cons_zero, List.getElem?_cons_succ] at y0 y1 y2 y3 y4 y5 y6
          clear hfail hr hbx
          go_upto_region 15 with (go_at_call 13; (with_reducible refine HDO.out.mono ?_); rintro e w4 ⟨B4, n4, k4, cA4, rfl, _, _, _, hw, hp⟩; have HS4 := Lib.hid (HS3.out.went hw hp); clear hw hp)
          clear y0 y1 y2 y3 y4 y5 y6 HDO
          have HS5 := Lib.hid (HS4.out.add (w' := w4.alloc (.cells #[.int .i64 rc, .int .i64 rp, .int .i64 rh, .slice B4 n4 k4] 27)) ((Kept.refl _ _).alloc _) (Blk.new w4 27 [.int .i64 rc, .int .i64 rp, .int .i64 rh, .slice B4 n4 k4]))
          generalize w4.alloc (.cells #[.int .i64 rc, .int .i64 rp, .int .i64 rh, .slice B4 n4 k4] 27) = w5 at HS5 ⊢
          generalize paint w4.heap.size 0 cA4 = cA5 at HS5
          generalize paint w4.heap.size 0 (paint w3.heap.size 0 cB3) = cB5 at HS5
          generalize w4.heap.size = bx at HS5 ⊢
          clear HS3 HS4
          have HDK := Lib.hid (disk_any HS5.out.a.x.m)
          have HFL := Lib.hid (pfail HS5.out.a.x 0)
          go_upto_region 16 with (first
            | (go_at_call 17; (with_reducible refine HDK.out.mono ?_); rintro e w1 ⟨rfl, rfl⟩)
            | (go_at_call 19; (with_reducible refine HFL.out.mono ?_); rintro e w6 ⟨rfl, cA6, hw, hp⟩; have HS6 := Lib.hid (HS5.out.went hw hp); clear hw hp))
          clear HDK HFL HS5
          generalize paint w5.heap.size 0 cB5 = cB6 at HS6
          have hbx := (HS6.out.x (bx, 27, _) (List.mem_cons_self ..)).1
          have b0 := hbx.cell 0
          simp only [List.getElem?_cons_zero] at b0
          rcases HFAIL.out with ⟨e1, e3, hfq⟩ | ⟨e1, hfq⟩
          · have HFQ6 := Lib.hid hfq
            have hne : (rc != 9) = true := by
              rw [bne_iff_ne]
              have h3 := e3
              rw [← e1] at h3
              exact h3
            have hbb := (HS6.out.x (g, 57, [.int .i64 (c' : Int), .int .i64 (k' : Int), .int .i64 (p' : Int), .int .i64 (h' : Int), .int .i64 (o' : Int), .int .i64 (n' : Int), .slice x.A l' x.cap]) (by simp)).1
            have y0 := hbb.cell 0
            have y1 := hbb.cell 1
            have y2 := hbb.cell 2
            have y3 := hbb.cell 3
            have y4 := hbb.cell 4
            have y5 := hbb.cell 5
            have y6 := hbb.cell 6
            simp only [List.getElem?_cons_zero, List.getElem?_cons_succ] at y0 y1 y2 y3 y4 y5 y6
            have HDO := Lib.hid (pdo (dc := x.cap) (o := ⟨k', p', h', o', n', d⟩) HS6.out.b.x c' (HX1.out _ _ _ _ _ _ _ _ _ HS6.out) (by have := HDL.out.2.2; omega) HO8.out HDB.out (by have := HJ30.out; omega))
            rw [← e1] at HDO
            have HBX := Lib.hid hbx
            clear e1 e3 hfq HFAIL hbb hbx
            go_upto_region 18 with (go_at_call 13; (with_reducible refine HDO.out.mono ?_); rintro e w7 ⟨B7, n7, k7, cB7, rfl, _, _, _, hw, hp⟩; have HS7 := Lib.hid (HS6.out.flip.went hw hp).flip; clear hw hp)
            clear y0 y1 y2 y3 y4 y5 y6 b0 HDO
            have HS8 := Lib.hid (HS7.out.add (w' := w7.alloc (.cells #[.int .i64 rc, .int .i64 rp, .int .i64 rh, .slice B7 n7 k7] 27)) ((Kept.refl _ _).alloc _) (Blk.new w7 27 [.int .i64 rc, .int .i64 rp, .int .i64 rh, .slice B7 n7 k7]))
            generalize w7.alloc (.cells #[.int .i64 rc, .int .i64 rp, .int .i64 rh, .slice B7 n7 k7] 27) = w8 at HS8 ⊢
            generalize paint w7.heap.size 0 (paint w6.heap.size 0 cA6) = cA8 at HS8
            generalize paint w7.heap.size 0 cB7 = cB8 at HS8
            generalize w7.heap.size = bz at HS8 ⊢
            clear HS6 HS7 HBX
            have b0 := (HS8.out.x (bx, 27, _) (List.mem_cons_of_mem _ (List.mem_cons_self ..))).1.cell 0
            have z0 := (HS8.out.x (bz, 27, _) (List.mem_cons_self ..)).1.cell 0
            simp only [List.getElem?_cons_zero] at b0 z0
            have hrr : (rc != rc) = false := by simp
            go_wp2
            go_roundg (len - (j + 1))
            case measure => have := HG.out; have := HJ.out; omega
            case rel => exact ⟨j + 1, _, _, _, _, by have := HG.out; have := HJ.out; omega, by go_num, HFQ6.out, HS8.out.less.up (by omega) (by omega)⟩
          · have HFQ6 := Lib.hid hfq
            obtain rfl : rc = 9 := congrArg (fun x => x.c) e1
            clear e1 hfq HFAIL hbx
            go_wp2
            go_meet
            have hx := HS6.out.x (g, 57, [.int .i64 (c' : Int), .int .i64 (k' : Int), .int .i64 (p' : Int), .int .i64 (h' : Int), .int .i64 (o' : Int), .int .i64 (n' : Int), .slice x.A l' x.cap]) (by simp)
            exact ⟨_, _, _, _, HFQ6.out, ⟨(HS6.out.up (k' := 100 * j + 50) (l' := 100 * j + 50) (by omega) (by omega)).a, (HS6.out.up (k' := 100 * j + 50) (l' := 100 * j + 50) (by omega) (by omega)).b, HS6.out.d, fun q hq => by rw [List.mem_singleton.1 hq]; exact hx, fun q hq => by (cases hq)⟩⟩
        · have be : ((j : Int) == (K : Int)) = false := by simpa using e
          clear e
          go_wp2
          go_meet
          exact ⟨_, _, _, _, HFQ.out, HI2.out.up (by omega) (by omega)⟩
      case rest =>
        obtain ⟨pa, pb, cA4, cB4, hfq, hs⟩ := hcut
        have HFQ4 := Lib.hid hfq
        have HS4 := Lib.hid hs
        clear hfq hs HI2 HFQ
        go_upto_region 20 with (fail)
        go_cut [15, 16] from 93 to 105 (fun v v' wx => EndR w νA νB n j v v' wx)
        case first =>
          have hbx := HS4.out.x _ (List.mem_singleton.2 rfl)
          have hS0 : S2 w νA νB wc.drew cA4 pa (100 * j + 50) cB4 pb (100 * j + 50) [(g, 57, [.int .i64 (c' : Int), .int .i64 (k' : Int), .int .i64 (p' : Int), .int .i64 (h' : Int), .int .i64 (o' : Int), .int .i64 (n' : Int), .slice x.A l' x.cap])] [] := s2_drew HS4.out
          have HS0 := Lib.hid hS0
          have hrun := HFQ4.out.run (o := ⟨k', p', h', o', n', d⟩) HS4.out.a.x.i HS4.out.b.x.i HDB.out c'
          obtain ⟨rc, rp, rh, rd, hr⟩ : ∃ rc rp rh rd, (pa.run c' ⟨k', p', h', o', n', d⟩).1 = ⟨rc, rp, rh, rd⟩ := ⟨_, _, _, _, rfl⟩
          have hrB := hrun.1.symm.trans hr
          have HFQ5 := Lib.hid hrun.2
          have CA : Hid (∀ wx cA cB b l bs ds, S2 w νA νB wx cA pa (100 * j + 50) cB b l bs ds → Calls Tryz.prog 13 #[.pointer (some ⟨νA.r, 0, none⟩), .int .i64 (c' : Int), .agg #[.int .i64 (k' : Int), .int .i64 (p' : Int), .int .i64 (h' : Int), .int .i64 (o' : Int), .int .i64 (n' : Int), .slice x.A l' x.cap]] wx (DoAt νA wx cA ⟨rc, rp, rh, rd⟩ (pa.run c' ⟨k', p', h', o', n', d⟩).2 (100 * j + 50))) := fun wx cA cB b l bs ds hs => by have h := pdo (dc := x.cap) (o := ⟨k', p', h', o', n', d⟩) hs.a.x c' (HX1.out _ _ _ _ _ _ _ _ _ hs) (by have := HDL.out.2.2; omega) HO8.out HDB.out (by have := HJ30.out; omega); rw [hr] at h; exact h
          have CB : Hid (∀ wx cA a k cB bs ds, S2 w νA νB wx cA a k cB pb (100 * j + 50) bs ds → Calls Tryz.prog 13 #[.pointer (some ⟨νB.r, 0, none⟩), .int .i64 (c' : Int), .agg #[.int .i64 (k' : Int), .int .i64 (p' : Int), .int .i64 (h' : Int), .int .i64 (o' : Int), .int .i64 (n' : Int), .slice x.A l' x.cap]] wx (DoAt νB wx cB ⟨rc, rp, rh, rd⟩ (pb.run c' ⟨k', p', h', o', n', d⟩).2 (100 * j + 50))) := fun wx cA a k cB bs ds hs => by have h := pdo (dc := x.cap) (o := ⟨k', p', h', o', n', d⟩) hs.b.x c' (HX1.out _ _ _ _ _ _ _ _ _ hs) (by have := HDL.out.2.2; omega) HO8.out HDB.out (by have := HJ30.out; omega); rw [hrB] at h; exact h
          have q0 := up_cell (F := (· ≠ g)) (w := wc.drew) (p := ⟨g, 0, none⟩) ((hS0.x _ (List.mem_singleton.2 rfl)).1.cell 0) (fun h => h rfl)
          have q1 := up_cell (F := (· ≠ g)) (w := wc.drew) (p := ⟨g, 1, none⟩) ((hS0.x _ (List.mem_singleton.2 rfl)).1.cell 1) (fun h => h rfl)
          have q2 := up_cell (F := (· ≠ g)) (w := wc.drew) (p := ⟨g, 2, none⟩) ((hS0.x _ (List.mem_singleton.2 rfl)).1.cell 2) (fun h => h rfl)
          have q3 := up_cell (F := (· ≠ g)) (w := wc.drew) (p := ⟨g, 3, none⟩) ((hS0.x _ (List.mem_singleton.2 rfl)).1.cell 3) (fun h => h rfl)
          have q4 := up_cell (F := (· ≠ g)) (w := wc.drew) (p := ⟨g, 4, none⟩) ((hS0.x _ (List.mem_singleton.2 rfl)).1.cell 4) (fun h => h rfl)
          have q5 := up_cell (F := (· ≠ g)) (w := wc.drew) (p := ⟨g, 5, none⟩) ((hS0.x _ (List.mem_singleton.2 rfl)).1.cell 5) (fun h => h rfl)
          have q6 := up_cell (F := (· ≠ g)) (w := wc.drew) (p := ⟨g, 6, none⟩) ((hS0.x _ (List.mem_singleton.2 rfl)).1.cell 6) (fun h => h rfl)
          clear hbx hS0 hrun hr hrB HS4
          refine wp_region_tree3 (Kept (· ≠ g)) (Kept (· ≠ g)) (kept_refl _) (kept_trans _) (kept_refl _) (kept_trans _) (fun _ _ h => h) [] (.three true [0, 1, 2, 3, 4, 6, 7, 8, 9, 10] 5 (.three true [] 11 (.base (.two true [] 12 (.one true [] 13 (.one true [] 14 (.one true [] 15 (.last false [])))) 13 (.one true [] 12 (.one true [] 14 (.one true [] 15 (.last false [])))))) 12 (.two true [] 11 (.one true [] 13 (.one true [] 14 (.one true [] 15 (.last false [])))) 13 (.one true [] 11 (.one true [] 14 (.one true [] 15 (.last false []))))) 13 (.two true [] 11 (.one true [] 12 (.one true [] 14 (.one true [] 15 (.last false [])))) 12 (.one true [] 11 (.one true [] 14 (.one true [] 15 (.last false [])))))) 12 (.two true [] 5 (.two true [] 11 (.one true [] 13 (.one true [] 14 (.one true [] 15 (.last false [])))) 13 (.one true [] 11 (.one true [] 14 (.one true [] 15 (.last false []))))) 13 (.one true [] 5 (.one true [] 11 (.one true [] 14 (.one true [] 15 (.last false [])))))) 13 (.two true [] 5 (.two true [] 11 (.one true [] 12 (.one true [] 14 (.one true [] 15 (.last false [])))) 12 (.one true [] 11 (.one true [] 14 (.one true [] 15 (.last false []))))) 12 (.one true [] 5 (.one true [] 11 (.one true [] 14 (.one true [] 15 (.last false []))))))) (by kernel_rfl) (by kernel_rfl) ?_
          generalize wc.drew = wd at HS0 q0 q1 q2 q3 q4 q5 q6 ⊢
          refine t3_threeE fun K1 hK1 K2 hK2 K3 hK3 => ?_
          simp only [sel, List.map_cons, List.map_nil, List.getD_cons_succ, List.getD_cons_zero]
          repeat (go_big_quiet_step (fail))
          refine wpQuiet_nil ⟨?_, ?_, ?_⟩
          all_goals clear q0 q1 q2 q3 q4 q5 q6
          · clear hK2 K2 hK3 K3
            go_wp2_with (go_at_call 13; (with_reducible refine (CA.out _ _ _ _ _ _ _ HS0.out).mono ?_); rintro e v1 ⟨A1, n1, k1, d1, rfl, hd, hfz, hnw, hw, hp⟩; have HK1 := Lib.hid (kept_ne HS0.out (t := 57) (g := g) (cs := [.int .i64 (c' : Int), .int .i64 (k' : Int), .int .i64 (p' : Int), .int .i64 (h' : Int), .int .i64 (o' : Int), .int .i64 (n' : Int), .slice x.A l' x.cap]) (by simp) hw); have HS101 := Lib.hid (HS0.out.told hw hp hd hnw); clear hd hfz hnw hw hp)
            refine norm_up (hK1 _ _ (Lr_early (by decide) HK1.out) ?_)
            clear hK1 K1
            refine t3_threeE fun K1 hK1 K2 hK2 K3 hK3 => ?_
            simp only [sel, List.map_cons, List.map_nil, List.getD_cons_succ, List.getD_cons_zero]
            refine wpQuiet_nil ⟨?_, ?_, ?_⟩
            · clear hK2 K2 hK3 K3
              go_wp2_with (go_at_call 13; (with_reducible refine (CB.out _ _ _ _ _ _ _ HS101.out).mono ?_); rintro e v2 ⟨A2, n2, k2, d2, rfl, hd, hfz, hnw, hw, hp⟩; have HK2 := Lib.hid (kept_ne HS101.out.flip (t := 57) (g := g) (cs := [.int .i64 (c' : Int), .int .i64 (k' : Int), .int .i64 (p' : Int), .int .i64 (h' : Int), .int .i64 (o' : Int), .int .i64 (n' : Int), .slice x.A l' x.cap]) (by simp) hw); have HS102 := Lib.hid (HS101.out.flip.told hw hp hd hnw).flip; clear hd hfz hnw hw hp)
              refine norm_up (hK1 _ _ (Lr_early (by decide) HK2.out) ?_)
              clear hK1 K1
              refine t3_base ?_
              refine tr_twoE fun K1 hK1 K2 hK2 => ?_
              simp only [sel, List.map_cons, List.map_nil, List.getD_cons_succ, List.getD_cons_zero]
              refine wpQuiet_nil ⟨?_, ?_⟩
              · clear hK2 K2
                go_wp2
                have HS103 := Lib.hid (HS102.out.add (w' := v2.alloc (.cells #[.int .i64 0, .int .i64 0, .int .i64 0, .slice none 0 0] 27)) ((Kept.refl _ _).alloc _) (Blk.new v2 27 [.int .i64 0, .int .i64 0, .int .i64 0, .slice none 0 0]))
                refine norm_up (hK1 _ _ (Lr_early (by decide) ((Kept.refl _ _).alloc _)) ?_)
                generalize v2.alloc (.cells #[.int .i64 0, .int .i64 0, .int .i64 0, .slice none 0 0] 27) = v3 at HS103 ⊢
                generalize v2.heap.size = b15 at HS103 ⊢
                clear hK1 K1
                refine tr_oneE fun K1 hK1 => ?_
                simp only [sel, List.map_cons, List.map_nil, List.getD_cons_succ, List.getD_cons_zero]
                refine wpQuiet_nil ?_
                go_wp2
                have HS104 := Lib.hid (HS103.out.add (w' := v3.alloc (.cells #[.int .i64 0, .int .i64 0, .int .i64 0, .slice none 0 0] 27)) ((Kept.refl _ _).alloc _) (Blk.new v3 27 [.int .i64 0, .int .i64 0, .int .i64 0, .slice none 0 0]))
                have hne : b15 < v3.heap.size := (HS103.out.x (b15, 27, [.int .i64 0, .int .i64 0, .int .i64 0, .slice none 0 0]) (by simp)).1.lt
                refine norm_up (hK1 _ _ (Lr_early (by decide) ((Kept.refl _ _).alloc _)) ?_)
                generalize v3.alloc (.cells #[.int .i64 0, .int .i64 0, .int .i64 0, .slice none 0 0] 27) = v4 at HS104 ⊢
                generalize v3.heap.size = b16 at hne HS104 ⊢
                have HNE : Hid (b15 ≠ b16) := by intro e; omega
                clear hK1 K1 hne
                have hfin := fin_two (xs := [.int .i64 rc, .int .i64 rp, .int .i64 rh, .slice A1 n1 k1]) (ys := [.int .i64 rc, .int .i64 rp, .int .i64 rh, .slice A2 n2 k2]) HS104.out (b1 := b15) (b2 := b16) (by simp) (by simp) HNE.out
                have HFIN := Lib.hid hfin
                have HZ1 := Lib.hid (HS104.out.x (b15, 27, [.int .i64 0, .int .i64 0, .int .i64 0, .slice none 0 0]) (by simp)).1
                have HZ2 := Lib.hid hfin.1
                have HNG : Hid (b15 ≠ g ∧ b16 ≠ g) := box_ne (cs := [.int .i64 (c' : Int), .int .i64 (k' : Int), .int .i64 (p' : Int), .int .i64 (h' : Int), .int .i64 (o' : Int), .int .i64 (n' : Int), .slice x.A l' x.cap]) HS104.out (by simp) (by simp) (by simp)
                clear hfin
                refine tr_oneE fun K hK => ?_
                simp only [sel, List.map_cons, List.map_nil, List.getD_cons_succ, List.getD_cons_zero]
                refine wpQuiet_nil ?_
                go_wp2_with (refine wpList_store_row rfl 27 _ _ rfl b15 #[.int .i64 rc, .int .i64 rp, .int .i64 rh, .slice A1 n1 k1] rfl rfl _ _ HZ1.out MdC.res_size rfl (by simp [Value.oneCell']) ?_)
                refine norm_up (hK _ _ (Lr_early (by decide) ((RgB.set_row HZ1.out #[.int .i64 rc, .int .i64 rp, .int .i64 rh, .slice A1 n1 k1]).2.mono fun i _ e => by rw [e]; exact HNG.out.1)) ?_)
                clear hK K
                refine tr_oneE fun K hK => ?_
                simp only [sel, List.map_cons, List.map_nil, List.getD_cons_succ, List.getD_cons_zero]
                refine wpQuiet_nil ?_
                go_wp2_with (refine wpList_store_row rfl 27 _ _ rfl b16 #[.int .i64 rc, .int .i64 rp, .int .i64 rh, .slice A2 n2 k2] rfl rfl _ _ HZ2.out MdC.res_size rfl (by simp [Value.oneCell']) ?_)
                refine norm_up (hK _ _ (Lr_early (by decide) ((RgB.set_row HZ2.out #[.int .i64 rc, .int .i64 rp, .int .i64 rh, .slice A2 n2 k2]).2.mono fun i _ e => by rw [e]; exact HNG.out.2)) ?_)
                clear hK K
                refine tr_lastL fun K hK => ?_
                simp only [sel, List.map_nil]
                refine wpQuiet_nil (hK _ ?_)
                clear hK K
                go_wp2
                go_meet
                exact ⟨b15, b16, rc, rp, rh, rd, A1, A2, n1, k1, n2, k2, _, _, _, _, rfl, rfl, HFIN.out.2.1, HFIN.out.2.2.1, (HFIN.out.2.2.2.y (A1, n1, rd) (by simp)).1, (HFIN.out.2.2.2.y (A2, n2, rd) (by simp)).1, HFQ5.out, HFIN.out.2.2.2.less.up (by omega) (by omega)⟩
              · clear hK1 K1
                go_wp2
                have HS105 := Lib.hid (HS102.out.add (w' := v2.alloc (.cells #[.int .i64 0, .int .i64 0, .int .i64 0, .slice none 0 0] 27)) ((Kept.refl _ _).alloc _) (Blk.new v2 27 [.int .i64 0, .int .i64 0, .int .i64 0, .slice none 0 0]))
                refine norm_up (hK2 _ _ (Lr_early (by decide) ((Kept.refl _ _).alloc _)) ?_)
                generalize v2.alloc (.cells #[.int .i64 0, .int .i64 0, .int .i64 0, .slice none 0 0] 27) = v5 at HS105 ⊢
                generalize v2.heap.size = b16 at HS105 ⊢
                clear hK2 K2
                refine tr_oneE fun K1 hK1 => ?_
                simp only [sel, List.map_cons, List.map_nil, List.getD_cons_succ, List.getD_cons_zero]
                refine wpQuiet_nil ?_
                go_wp2
                have HS106 := Lib.hid (HS105.out.add (w' := v5.alloc (.cells #[.int .i64 0, .int .i64 0, .int .i64 0, .slice none 0 0] 27)) ((Kept.refl _ _).alloc _) (Blk.new v5 27 [.int .i64 0, .int .i64 0, .int .i64 0, .slice none 0 0]))
                have hne : b16 < v5.heap.size := (HS105.out.x (b16, 27, [.int .i64 0, .int .i64 0, .int .i64 0, .slice none 0 0]) (by simp)).1.lt
                refine norm_up (hK1 _ _ (Lr_early (by decide) ((Kept.refl _ _).alloc _)) ?_)
                generalize v5.alloc (.cells #[.int .i64 0, .int .i64 0, .int .i64 0, .slice none 0 0] 27) = v6 at HS106 ⊢
                generalize v5.heap.size = b15 at hne HS106 ⊢
                have HNE : Hid (b15 ≠ b16) := by intro e; omega
                clear hK1 K1 hne
                have hfin := fin_two (xs := [.int .i64 rc, .int .i64 rp, .int .i64 rh, .slice A1 n1 k1]) (ys := [.int .i64 rc, .int .i64 rp, .int .i64 rh, .slice A2 n2 k2]) HS106.out (b1 := b15) (b2 := b16) (by simp) (by simp) HNE.out
                have HFIN := Lib.hid hfin
                have HZ1 := Lib.hid (HS106.out.x (b15, 27, [.int .i64 0, .int .i64 0, .int .i64 0, .slice none 0 0]) (by simp)).1
                have HZ2 := Lib.hid hfin.1
                have HNG : Hid (b15 ≠ g ∧ b16 ≠ g) := box_ne (cs := [.int .i64 (c' : Int), .int .i64 (k' : Int), .int .i64 (p' : Int), .int .i64 (h' : Int), .int .i64 (o' : Int), .int .i64 (n' : Int), .slice x.A l' x.cap]) HS106.out (by simp) (by simp) (by simp)
                clear hfin
                refine tr_oneE fun K hK => ?_
                simp only [sel, List.map_cons, List.map_nil, List.getD_cons_succ, List.getD_cons_zero]
                refine wpQuiet_nil ?_
                go_wp2_with (refine wpList_store_row rfl 27 _ _ rfl b15 #[.int .i64 rc, .int .i64 rp, .int .i64 rh, .slice A1 n1 k1] rfl rfl _ _ HZ1.out MdC.res_size rfl (by simp [Value.oneCell']) ?_)
                refine norm_up (hK _ _ (Lr_early (by decide) ((RgB.set_row HZ1.out #[.int .i64 rc, .int .i64 rp, .int .i64 rh, .slice A1 n1 k1]).2.mono fun i _ e => by rw [e]; exact HNG.out.1)) ?_)
                clear hK K
                refine tr_oneE fun K hK => ?_
                simp only [sel, List.map_cons, List.map_nil, List.getD_cons_succ, List.getD_cons_zero]
                refine wpQuiet_nil ?_
                go_wp2_with (refine wpList_store_row rfl 27 _ _ rfl b16 #[.int .i64 rc, .int .i64 rp, .int .i64 rh, .slice A2 n2 k2] rfl rfl _ _ HZ2.out MdC.res_size rfl (by simp [Value.oneCell']) ?_)
                refine norm_up (hK _ _ (Lr_early (by decide) ((RgB.set_row HZ2.out #[.int .i64 rc, .int .i64 rp, .int .i64 rh, .slice A2 n2 k2]).2.mono fun i _ e => by rw [e]; exact HNG.out.2)) ?_)
                clear hK K
                refine tr_lastL fun K hK => ?_
                simp only [sel, List.map_nil]
                refine wpQuiet_nil (hK _ ?_)
                clear hK K
                go_wp2
                go_meet
                exact ⟨b15, b16, rc, rp, rh, rd, A1, A2, n1, k1, n2, k2, _, _, _, _, rfl, rfl, HFIN.out.2.1, HFIN.out.2.2.1, (HFIN.out.2.2.2.y (A1, n1, rd) (by simp)).1, (HFIN.out.2.2.2.y (A2, n2, rd) (by simp)).1, HFQ5.out, HFIN.out.2.2.2.less.up (by omega) (by omega)⟩
            · clear hK1 K1 hK3 K3
              go_wp2
              have HS107 := Lib.hid (HS101.out.add (w' := v1.alloc (.cells #[.int .i64 0, .int .i64 0, .int .i64 0, .slice none 0 0] 27)) ((Kept.refl _ _).alloc _) (Blk.new v1 27 [.int .i64 0, .int .i64 0, .int .i64 0, .slice none 0 0]))
              refine norm_up (hK2 _ _ (Lr_early (by decide) ((Kept.refl _ _).alloc _)) ?_)
              generalize v1.alloc (.cells #[.int .i64 0, .int .i64 0, .int .i64 0, .slice none 0 0] 27) = v7 at HS107 ⊢
              generalize v1.heap.size = b15 at HS107 ⊢
              clear hK2 K2
              refine tr_twoE fun K1 hK1 K2 hK2 => ?_
              simp only [sel, List.map_cons, List.map_nil, List.getD_cons_succ, List.getD_cons_zero]
              refine wpQuiet_nil ⟨?_, ?_⟩
              · clear hK2 K2
                go_wp2_with (go_at_call 13; (with_reducible refine (CB.out _ _ _ _ _ _ _ HS107.out).mono ?_); rintro e v8 ⟨A2, n2, k2, d8, rfl, hd, hfz, hnw, hw, hp⟩; have HK8 := Lib.hid (kept_ne HS107.out.flip (t := 57) (g := g) (cs := [.int .i64 (c' : Int), .int .i64 (k' : Int), .int .i64 (p' : Int), .int .i64 (h' : Int), .int .i64 (o' : Int), .int .i64 (n' : Int), .slice x.A l' x.cap]) (by simp) hw); have HS108 := Lib.hid (HS107.out.flip.told hw hp hd hnw).flip; clear hd hfz hnw hw hp)
                refine norm_up (hK1 _ _ (Lr_early (by decide) HK8.out) ?_)
                clear hK1 K1
                refine tr_oneE fun K1 hK1 => ?_
                simp only [sel, List.map_cons, List.map_nil, List.getD_cons_succ, List.getD_cons_zero]
                refine wpQuiet_nil ?_
                go_wp2
                have HS109 := Lib.hid (HS108.out.add (w' := v8.alloc (.cells #[.int .i64 0, .int .i64 0, .int .i64 0, .slice none 0 0] 27)) ((Kept.refl _ _).alloc _) (Blk.new v8 27 [.int .i64 0, .int .i64 0, .int .i64 0, .slice none 0 0]))
                have hne : b15 < v8.heap.size := (HS108.out.x (b15, 27, [.int .i64 0, .int .i64 0, .int .i64 0, .slice none 0 0]) (by simp)).1.lt
                refine norm_up (hK1 _ _ (Lr_early (by decide) ((Kept.refl _ _).alloc _)) ?_)
                generalize v8.alloc (.cells #[.int .i64 0, .int .i64 0, .int .i64 0, .slice none 0 0] 27) = v9 at HS109 ⊢
                generalize v8.heap.size = b16 at hne HS109 ⊢
                have HNE : Hid (b15 ≠ b16) := by intro e; omega
                clear hK1 K1 hne
                have hfin := fin_two (xs := [.int .i64 rc, .int .i64 rp, .int .i64 rh, .slice A1 n1 k1]) (ys := [.int .i64 rc, .int .i64 rp, .int .i64 rh, .slice A2 n2 k2]) HS109.out (b1 := b15) (b2 := b16) (by simp) (by simp) HNE.out
                have HFIN := Lib.hid hfin
                have HZ1 := Lib.hid (HS109.out.x (b15, 27, [.int .i64 0, .int .i64 0, .int .i64 0, .slice none 0 0]) (by simp)).1
                have HZ2 := Lib.hid hfin.1
                have HNG : Hid (b15 ≠ g ∧ b16 ≠ g) := box_ne (cs := [.int .i64 (c' : Int), .int .i64 (k' : Int), .int .i64 (p' : Int), .int .i64 (h' : Int), .int .i64 (o' : Int), .int .i64 (n' : Int), .slice x.A l' x.cap]) HS109.out (by simp) (by simp) (by simp)
                clear hfin
                refine tr_oneE fun K hK => ?_
                simp only [sel, List.map_cons, List.map_nil, List.getD_cons_succ, List.getD_cons_zero]
                refine wpQuiet_nil ?_
                go_wp2_with (refine wpList_store_row rfl 27 _ _ rfl b15 #[.int .i64 rc, .int .i64 rp, .int .i64 rh, .slice A1 n1 k1] rfl rfl _ _ HZ1.out MdC.res_size rfl (by simp [Value.oneCell']) ?_)
                refine norm_up (hK _ _ (Lr_early (by decide) ((RgB.set_row HZ1.out #[.int .i64 rc, .int .i64 rp, .int .i64 rh, .slice A1 n1 k1]).2.mono fun i _ e => by rw [e]; exact HNG.out.1)) ?_)
                clear hK K
                refine tr_oneE fun K hK => ?_
                simp only [sel, List.map_cons, List.map_nil, List.getD_cons_succ, List.getD_cons_zero]
                refine wpQuiet_nil ?_
                go_wp2_with (refine wpList_store_row rfl 27 _ _ rfl b16 #[.int .i64 rc, .int .i64 rp, .int .i64 rh, .slice A2 n2 k2] rfl rfl _ _ HZ2.out MdC.res_size rfl (by simp [Value.oneCell']) ?_)
                refine norm_up (hK _ _ (Lr_early (by decide) ((RgB.set_row HZ2.out #[.int .i64 rc, .int .i64 rp, .int .i64 rh, .slice A2 n2 k2]).2.mono fun i _ e => by rw [e]; exact HNG.out.2)) ?_)
                clear hK K
                refine tr_lastL fun K hK => ?_
                simp only [sel, List.map_nil]
                refine wpQuiet_nil (hK _ ?_)
                clear hK K
                go_wp2
                go_meet
                exact ⟨b15, b16, rc, rp, rh, rd, A1, A2, n1, k1, n2, k2, _, _, _, _, rfl, rfl, HFIN.out.2.1, HFIN.out.2.2.1, (HFIN.out.2.2.2.y (A1, n1, rd) (by simp)).1, (HFIN.out.2.2.2.y (A2, n2, rd) (by simp)).1, HFQ5.out, HFIN.out.2.2.2.less.up (by omega) (by omega)⟩
              · clear hK1 K1
                go_wp2
                have HS110 := Lib.hid (HS107.out.add (w' := v7.alloc (.cells #[.int .i64 0, .int .i64 0, .int .i64 0, .slice none 0 0] 27)) ((Kept.refl _ _).alloc _) (Blk.new v7 27 [.int .i64 0, .int .i64 0, .int .i64 0, .slice none 0 0]))
                have hne : b15 < v7.heap.size := (HS107.out.x (b15, 27, [.int .i64 0, .int .i64 0, .int .i64 0, .slice none 0 0]) (by simp)).1.lt
                refine norm_up (hK2 _ _ (Lr_early (by decide) ((Kept.refl _ _).alloc _)) ?_)
                generalize v7.alloc (.cells #[.int .i64 0, .int .i64 0, .int .i64 0, .slice none 0 0] 27) = v10 at HS110 ⊢
                generalize v7.heap.size = b16 at hne HS110 ⊢
                have HNE : Hid (b15 ≠ b16) := by intro e; omega
                clear hK2 K2 hne
                refine tr_oneE fun K1 hK1 => ?_
                simp only [sel, List.map_cons, List.map_nil, List.getD_cons_succ, List.getD_cons_zero]
                refine wpQuiet_nil ?_
                go_wp2_with (go_at_call 13; (with_reducible refine (CB.out _ _ _ _ _ _ _ HS110.out).mono ?_); rintro e v11 ⟨A2, n2, k2, d11, rfl, hd, hfz, hnw, hw, hp⟩; have HK11 := Lib.hid (kept_ne HS110.out.flip (t := 57) (g := g) (cs := [.int .i64 (c' : Int), .int .i64 (k' : Int), .int .i64 (p' : Int), .int .i64 (h' : Int), .int .i64 (o' : Int), .int .i64 (n' : Int), .slice x.A l' x.cap]) (by simp) hw); have HS111 := Lib.hid (HS110.out.flip.told hw hp hd hnw).flip; clear hd hfz hnw hw hp)
                refine norm_up (hK1 _ _ (Lr_early (by decide) HK11.out) ?_)
                clear hK1 K1
                have hfin := fin_two (xs := [.int .i64 rc, .int .i64 rp, .int .i64 rh, .slice A1 n1 k1]) (ys := [.int .i64 rc, .int .i64 rp, .int .i64 rh, .slice A2 n2 k2]) HS111.out (b1 := b15) (b2 := b16) (by simp) (by simp) HNE.out
                have HFIN := Lib.hid hfin
                have HZ1 := Lib.hid (HS111.out.x (b15, 27, [.int .i64 0, .int .i64 0, .int .i64 0, .slice none 0 0]) (by simp)).1
                have HZ2 := Lib.hid hfin.1
                have HNG : Hid (b15 ≠ g ∧ b16 ≠ g) := box_ne (cs := [.int .i64 (c' : Int), .int .i64 (k' : Int), .int .i64 (p' : Int), .int .i64 (h' : Int), .int .i64 (o' : Int), .int .i64 (n' : Int), .slice x.A l' x.cap]) HS111.out (by simp) (by simp) (by simp)
                clear hfin
                refine tr_oneE fun K hK => ?_
                simp only [sel, List.map_cons, List.map_nil, List.getD_cons_succ, List.getD_cons_zero]
                refine wpQuiet_nil ?_
                go_wp2_with (refine wpList_store_row rfl 27 _ _ rfl b15 #[.int .i64 rc, .int .i64 rp, .int .i64 rh, .slice A1 n1 k1] rfl rfl _ _ HZ1.out MdC.res_size rfl (by simp [Value.oneCell']) ?_)
                refine norm_up (hK _ _ (Lr_early (by decide) ((RgB.set_row HZ1.out #[.int .i64 rc, .int .i64 rp, .int .i64 rh, .slice A1 n1 k1]).2.mono fun i _ e => by rw [e]; exact HNG.out.1)) ?_)
                clear hK K
                refine tr_oneE fun K hK => ?_
                simp only [sel, List.map_cons, List.map_nil, List.getD_cons_succ, List.getD_cons_zero]
                refine wpQuiet_nil ?_
                go_wp2_with (refine wpList_store_row rfl 27 _ _ rfl b16 #[.int .i64 rc, .int .i64 rp, .int .i64 rh, .slice A2 n2 k2] rfl rfl _ _ HZ2.out MdC.res_size rfl (by simp [Value.oneCell']) ?_)
                refine norm_up (hK _ _ (Lr_early (by decide) ((RgB.set_row HZ2.out #[.int .i64 rc, .int .i64 rp, .int .i64 rh, .slice A2 n2 k2]).2.mono fun i _ e => by rw [e]; exact HNG.out.2)) ?_)
                clear hK K
                refine tr_lastL fun K hK => ?_
                simp only [sel, List.map_nil]
                refine wpQuiet_nil (hK _ ?_)
                clear hK K
                go_wp2
                go_meet
                exact ⟨b15, b16, rc, rp, rh, rd, A1, A2, n1, k1, n2, k2, _, _, _, _, rfl, rfl, HFIN.out.2.1, HFIN.out.2.2.1, (HFIN.out.2.2.2.y (A1, n1, rd) (by simp)).1, (HFIN.out.2.2.2.y (A2, n2, rd) (by simp)).1, HFQ5.out, HFIN.out.2.2.2.less.up (by omega) (by omega)⟩
            · clear hK1 K1 hK2 K2
              go_wp2
              have HS112 := Lib.hid (HS101.out.add (w' := v1.alloc (.cells #[.int .i64 0, .int .i64 0, .int .i64 0, .slice none 0 0] 27)) ((Kept.refl _ _).alloc _) (Blk.new v1 27 [.int .i64 0, .int .i64 0, .int .i64 0, .slice none 0 0]))
              refine norm_up (hK3 _ _ (Lr_early (by decide) ((Kept.refl _ _).alloc _)) ?_)
              generalize v1.alloc (.cells #[.int .i64 0, .int .i64 0, .int .i64 0, .slice none 0 0] 27) = v12 at HS112 ⊢
              generalize v1.heap.size = b16 at HS112 ⊢
              clear hK3 K3
              refine tr_twoE fun K1 hK1 K2 hK2 => ?_
              simp only [sel, List.map_cons, List.map_nil, List.getD_cons_succ, List.getD_cons_zero]
              refine wpQuiet_nil ⟨?_, ?_⟩
              · clear hK2 K2
                go_wp2_with (go_at_call 13; (with_reducible refine (CB.out _ _ _ _ _ _ _ HS112.out).mono ?_); rintro e v13 ⟨A2, n2, k2, d13, rfl, hd, hfz, hnw, hw, hp⟩; have HK13 := Lib.hid (kept_ne HS112.out.flip (t := 57) (g := g) (cs := [.int .i64 (c' : Int), .int .i64 (k' : Int), .int .i64 (p' : Int), .int .i64 (h' : Int), .int .i64 (o' : Int), .int .i64 (n' : Int), .slice x.A l' x.cap]) (by simp) hw); have HS113 := Lib.hid (HS112.out.flip.told hw hp hd hnw).flip; clear hd hfz hnw hw hp)
                refine norm_up (hK1 _ _ (Lr_early (by decide) HK13.out) ?_)
                clear hK1 K1
                refine tr_oneE fun K1 hK1 => ?_
                simp only [sel, List.map_cons, List.map_nil, List.getD_cons_succ, List.getD_cons_zero]
                refine wpQuiet_nil ?_
                go_wp2
                have HS114 := Lib.hid (HS113.out.add (w' := v13.alloc (.cells #[.int .i64 0, .int .i64 0, .int .i64 0, .slice none 0 0] 27)) ((Kept.refl _ _).alloc _) (Blk.new v13 27 [.int .i64 0, .int .i64 0, .int .i64 0, .slice none 0 0]))
                have hne : b16 < v13.heap.size := (HS113.out.x (b16, 27, [.int .i64 0, .int .i64 0, .int .i64 0, .slice none 0 0]) (by simp)).1.lt
                refine norm_up (hK1 _ _ (Lr_early (by decide) ((Kept.refl _ _).alloc _)) ?_)
                generalize v13.alloc (.cells #[.int .i64 0, .int .i64 0, .int .i64 0, .slice none 0 0] 27) = v14 at HS114 ⊢
                generalize v13.heap.size = b15 at hne HS114 ⊢
                have HNE : Hid (b15 ≠ b16) := by intro e; omega
                clear hK1 K1 hne
                have hfin := fin_two (xs := [.int .i64 rc, .int .i64 rp, .int .i64 rh, .slice A1 n1 k1]) (ys := [.int .i64 rc, .int .i64 rp, .int .i64 rh, .slice A2 n2 k2]) HS114.out (b1 := b15) (b2 := b16) (by simp) (by simp) HNE.out
                have HFIN := Lib.hid hfin
                have HZ1 := Lib.hid (HS114.out.x (b15, 27, [.int .i64 0, .int .i64 0, .int .i64 0, .slice none 0 0]) (by simp)).1
                have HZ2 := Lib.hid hfin.1
                have HNG : Hid (b15 ≠ g ∧ b16 ≠ g) := box_ne (cs := [.int .i64 (c' : Int), .int .i64 (k' : Int), .int .i64 (p' : Int), .int .i64 (h' : Int), .int .i64 (o' : Int), .int .i64 (n' : Int), .slice x.A l' x.cap]) HS114.out (by simp) (by simp) (by simp)
                clear hfin
                refine tr_oneE fun K hK => ?_
                simp only [sel, List.map_cons, List.map_nil, List.getD_cons_succ, List.getD_cons_zero]
                refine wpQuiet_nil ?_
                go_wp2_with (refine wpList_store_row rfl 27 _ _ rfl b15 #[.int .i64 rc, .int .i64 rp, .int .i64 rh, .slice A1 n1 k1] rfl rfl _ _ HZ1.out MdC.res_size rfl (by simp [Value.oneCell']) ?_)
                refine norm_up (hK _ _ (Lr_early (by decide) ((RgB.set_row HZ1.out #[.int .i64 rc, .int .i64 rp, .int .i64 rh, .slice A1 n1 k1]).2.mono fun i _ e => by rw [e]; exact HNG.out.1)) ?_)
                clear hK K
                refine tr_oneE fun K hK => ?_
                simp only [sel, List.map_cons, List.map_nil, List.getD_cons_succ, List.getD_cons_zero]
                refine wpQuiet_nil ?_
                go_wp2_with (refine wpList_store_row rfl 27 _ _ rfl b16 #[.int .i64 rc, .int .i64 rp, .int .i64 rh, .slice A2 n2 k2] rfl rfl _ _ HZ2.out MdC.res_size rfl (by simp [Value.oneCell']) ?_)
                refine norm_up (hK _ _ (Lr_early (by decide) ((RgB.set_row HZ2.out #[.int .i64 rc, .int .i64 rp, .int .i64 rh, .slice A2 n2 k2]).2.mono fun i _ e => by rw [e]; exact HNG.out.2)) ?_)
                clear hK K
                refine tr_lastL fun K hK => ?_
                simp only [sel, List.map_nil]
                refine wpQuiet_nil (hK _ ?_)
                clear hK K
                go_wp2
                go_meet
                exact ⟨b15, b16, rc, rp, rh, rd, A1, A2, n1, k1, n2, k2, _, _, _, _, rfl, rfl, HFIN.out.2.1, HFIN.out.2.2.1, (HFIN.out.2.2.2.y (A1, n1, rd) (by simp)).1, (HFIN.out.2.2.2.y (A2, n2, rd) (by simp)).1, HFQ5.out, HFIN.out.2.2.2.less.up (by omega) (by omega)⟩
              · clear hK1 K1
                go_wp2
                have HS115 := Lib.hid (HS112.out.add (w' := v12.alloc (.cells #[.int .i64 0, .int .i64 0, .int .i64 0, .slice none 0 0] 27)) ((Kept.refl _ _).alloc _) (Blk.new v12 27 [.int .i64 0, .int .i64 0, .int .i64 0, .slice none 0 0]))
                have hne : b16 < v12.heap.size := (HS112.out.x (b16, 27, [.int .i64 0, .int .i64 0, .int .i64 0, .slice none 0 0]) (by simp)).1.lt
                refine norm_up (hK2 _ _ (Lr_early (by decide) ((Kept.refl _ _).alloc _)) ?_)
                generalize v12.alloc (.cells #[.int .i64 0, .int .i64 0, .int .i64 0, .slice none 0 0] 27) = v15 at HS115 ⊢
                generalize v12.heap.size = b15 at hne HS115 ⊢
                have HNE : Hid (b15 ≠ b16) := by intro e; omega
                clear hK2 K2 hne
                refine tr_oneE fun K1 hK1 => ?_
                simp only [sel, List.map_cons, List.map_nil, List.getD_cons_succ, List.getD_cons_zero]
                refine wpQuiet_nil ?_
                go_wp2_with (go_at_call 13; (with_reducible refine (CB.out _ _ _ _ _ _ _ HS115.out).mono ?_); rintro e v16 ⟨A2, n2, k2, d16, rfl, hd, hfz, hnw, hw, hp⟩; have HK16 := Lib.hid (kept_ne HS115.out.flip (t := 57) (g := g) (cs := [.int .i64 (c' : Int), .int .i64 (k' : Int), .int .i64 (p' : Int), .int .i64 (h' : Int), .int .i64 (o' : Int), .int .i64 (n' : Int), .slice x.A l' x.cap]) (by simp) hw); have HS116 := Lib.hid (HS115.out.flip.told hw hp hd hnw).flip; clear hd hfz hnw hw hp)
                refine norm_up (hK1 _ _ (Lr_early (by decide) HK16.out) ?_)
                clear hK1 K1
                have hfin := fin_two (xs := [.int .i64 rc, .int .i64 rp, .int .i64 rh, .slice A1 n1 k1]) (ys := [.int .i64 rc, .int .i64 rp, .int .i64 rh, .slice A2 n2 k2]) HS116.out (b1 := b15) (b2 := b16) (by simp) (by simp) HNE.out
                have HFIN := Lib.hid hfin
                have HZ1 := Lib.hid (HS116.out.x (b15, 27, [.int .i64 0, .int .i64 0, .int .i64 0, .slice none 0 0]) (by simp)).1
                have HZ2 := Lib.hid hfin.1
                have HNG : Hid (b15 ≠ g ∧ b16 ≠ g) := box_ne (cs := [.int .i64 (c' : Int), .int .i64 (k' : Int), .int .i64 (p' : Int), .int .i64 (h' : Int), .int .i64 (o' : Int), .int .i64 (n' : Int), .slice x.A l' x.cap]) HS116.out (by simp) (by simp) (by simp)
                clear hfin
                refine tr_oneE fun K hK => ?_
                simp only [sel, List.map_cons, List.map_nil, List.getD_cons_succ, List.getD_cons_zero]
                refine wpQuiet_nil ?_
                go_wp2_with (refine wpList_store_row rfl 27 _ _ rfl b15 #[.int .i64 rc, .int .i64 rp, .int .i64 rh, .slice A1 n1 k1] rfl rfl _ _ HZ1.out MdC.res_size rfl (by simp [Value.oneCell']) ?_)
                refine norm_up (hK _ _ (Lr_early (by decide) ((RgB.set_row HZ1.out #[.int .i64 rc, .int .i64 rp, .int .i64 rh, .slice A1 n1 k1]).2.mono fun i _ e => by rw [e]; exact HNG.out.1)) ?_)
                clear hK K
                refine tr_oneE fun K hK => ?_
                simp only [sel, List.map_cons, List.map_nil, List.getD_cons_succ, List.getD_cons_zero]
                refine wpQuiet_nil ?_
                go_wp2_with (refine wpList_store_row rfl 27 _ _ rfl b16 #[.int .i64 rc, .int .i64 rp, .int .i64 rh, .slice A2 n2 k2] rfl rfl _ _ HZ2.out MdC.res_size rfl (by simp [Value.oneCell']) ?_)
                refine norm_up (hK _ _ (Lr_early (by decide) ((RgB.set_row HZ2.out #[.int .i64 rc, .int .i64 rp, .int .i64 rh, .slice A2 n2 k2]).2.mono fun i _ e => by rw [e]; exact HNG.out.2)) ?_)
                clear hK K
                refine tr_lastL fun K hK => ?_
                simp only [sel, List.map_nil]
                refine wpQuiet_nil (hK _ ?_)
                clear hK K
                go_wp2
                go_meet
                exact ⟨b15, b16, rc, rp, rh, rd, A1, A2, n1, k1, n2, k2, _, _, _, _, rfl, rfl, HFIN.out.2.1, HFIN.out.2.2.1, (HFIN.out.2.2.2.y (A1, n1, rd) (by simp)).1, (HFIN.out.2.2.2.y (A2, n2, rd) (by simp)).1, HFQ5.out, HFIN.out.2.2.2.less.up (by omega) (by omega)⟩
          · clear hK1 K1 hK3 K3
            go_wp2
            have HS117 := Lib.hid (HS0.out.add (w' := wd.alloc (.cells #[.int .i64 0, .int .i64 0, .int .i64 0, .slice none 0 0] 27)) ((Kept.refl _ _).alloc _) (Blk.new wd 27 [.int .i64 0, .int .i64 0, .int .i64 0, .slice none 0 0]))
            refine norm_up (hK2 _ _ (Lr_early (by decide) ((Kept.refl _ _).alloc _)) ?_)
            generalize wd.alloc (.cells #[.int .i64 0, .int .i64 0, .int .i64 0, .slice none 0 0] 27) = v17 at HS117 ⊢
            generalize wd.heap.size = b15 at HS117 ⊢
            clear hK2 K2
            refine tr_twoE fun K1 hK1 K2 hK2 => ?_
            simp only [sel, List.map_cons, List.map_nil, List.getD_cons_succ, List.getD_cons_zero]
            refine wpQuiet_nil ⟨?_, ?_⟩
            · clear hK2 K2
              go_wp2_with (go_at_call 13; (with_reducible refine (CA.out _ _ _ _ _ _ _ HS117.out).mono ?_); rintro e v18 ⟨A1, n1, k1, d18, rfl, hd, hfz, hnw, hw, hp⟩; have HK18 := Lib.hid (kept_ne HS117.out (t := 57) (g := g) (cs := [.int .i64 (c' : Int), .int .i64 (k' : Int), .int .i64 (p' : Int), .int .i64 (h' : Int), .int .i64 (o' : Int), .int .i64 (n' : Int), .slice x.A l' x.cap]) (by simp) hw); have HS118 := Lib.hid (HS117.out.told hw hp hd hnw); clear hd hfz hnw hw hp)
              refine norm_up (hK1 _ _ (Lr_early (by decide) HK18.out) ?_)
              clear hK1 K1
              refine tr_twoE fun K1 hK1 K2 hK2 => ?_
              simp only [sel, List.map_cons, List.map_nil, List.getD_cons_succ, List.getD_cons_zero]
              refine wpQuiet_nil ⟨?_, ?_⟩
              · clear hK2 K2
                go_wp2_with (go_at_call 13; (with_reducible refine (CB.out _ _ _ _ _ _ _ HS118.out).mono ?_); rintro e v19 ⟨A2, n2, k2, d19, rfl, hd, hfz, hnw, hw, hp⟩; have HK19 := Lib.hid (kept_ne HS118.out.flip (t := 57) (g := g) (cs := [.int .i64 (c' : Int), .int .i64 (k' : Int), .int .i64 (p' : Int), .int .i64 (h' : Int), .int .i64 (o' : Int), .int .i64 (n' : Int), .slice x.A l' x.cap]) (by simp) hw); have HS119 := Lib.hid (HS118.out.flip.told hw hp hd hnw).flip; clear hd hfz hnw hw hp)
                refine norm_up (hK1 _ _ (Lr_early (by decide) HK19.out) ?_)
                clear hK1 K1
                refine tr_oneE fun K1 hK1 => ?_
                simp only [sel, List.map_cons, List.map_nil, List.getD_cons_succ, List.getD_cons_zero]
                refine wpQuiet_nil ?_
                go_wp2
                have HS120 := Lib.hid (HS119.out.add (w' := v19.alloc (.cells #[.int .i64 0, .int .i64 0, .int .i64 0, .slice none 0 0] 27)) ((Kept.refl _ _).alloc _) (Blk.new v19 27 [.int .i64 0, .int .i64 0, .int .i64 0, .slice none 0 0]))
                have hne : b15 < v19.heap.size := (HS119.out.x (b15, 27, [.int .i64 0, .int .i64 0, .int .i64 0, .slice none 0 0]) (by simp)).1.lt
                refine norm_up (hK1 _ _ (Lr_early (by decide) ((Kept.refl _ _).alloc _)) ?_)
                generalize v19.alloc (.cells #[.int .i64 0, .int .i64 0, .int .i64 0, .slice none 0 0] 27) = v20 at HS120 ⊢
                generalize v19.heap.size = b16 at hne HS120 ⊢
                have HNE : Hid (b15 ≠ b16) := by intro e; omega
                clear hK1 K1 hne
                have hfin := fin_two (xs := [.int .i64 rc, .int .i64 rp, .int .i64 rh, .slice A1 n1 k1]) (ys := [.int .i64 rc, .int .i64 rp, .int .i64 rh, .slice A2 n2 k2]) HS120.out (b1 := b15) (b2 := b16) (by simp) (by simp) HNE.out
                have HFIN := Lib.hid hfin
                have HZ1 := Lib.hid (HS120.out.x (b15, 27, [.int .i64 0, .int .i64 0, .int .i64 0, .slice none 0 0]) (by simp)).1
                have HZ2 := Lib.hid hfin.1
                have HNG : Hid (b15 ≠ g ∧ b16 ≠ g) := box_ne (cs := [.int .i64 (c' : Int), .int .i64 (k' : Int), .int .i64 (p' : Int), .int .i64 (h' : Int), .int .i64 (o' : Int), .int .i64 (n' : Int), .slice x.A l' x.cap]) HS120.out (by simp) (by simp) (by simp)
                clear hfin
                refine tr_oneE fun K hK => ?_
                simp only [sel, List.map_cons, List.map_nil, List.getD_cons_succ, List.getD_cons_zero]
                refine wpQuiet_nil ?_
                go_wp2_with (refine wpList_store_row rfl 27 _ _ rfl b15 #[.int .i64 rc, .int .i64 rp, .int .i64 rh, .slice A1 n1 k1] rfl rfl _ _ HZ1.out MdC.res_size rfl (by simp [Value.oneCell']) ?_)
                refine norm_up (hK _ _ (Lr_early (by decide) ((RgB.set_row HZ1.out #[.int .i64 rc, .int .i64 rp, .int .i64 rh, .slice A1 n1 k1]).2.mono fun i _ e => by rw [e]; exact HNG.out.1)) ?_)
                clear hK K
                refine tr_oneE fun K hK => ?_
                simp only [sel, List.map_cons, List.map_nil, List.getD_cons_succ, List.getD_cons_zero]
                refine wpQuiet_nil ?_
                go_wp2_with (refine wpList_store_row rfl 27 _ _ rfl b16 #[.int .i64 rc, .int .i64 rp, .int .i64 rh, .slice A2 n2 k2] rfl rfl _ _ HZ2.out MdC.res_size rfl (by simp [Value.oneCell']) ?_)
                refine norm_up (hK _ _ (Lr_early (by decide) ((RgB.set_row HZ2.out #[.int .i64 rc, .int .i64 rp, .int .i64 rh, .slice A2 n2 k2]).2.mono fun i _ e => by rw [e]; exact HNG.out.2)) ?_)
                clear hK K
                refine tr_lastL fun K hK => ?_
                simp only [sel, List.map_nil]
                refine wpQuiet_nil (hK _ ?_)
                clear hK K
                go_wp2
                go_meet
                exact ⟨b15, b16, rc, rp, rh, rd, A1, A2, n1, k1, n2, k2, _, _, _, _, rfl, rfl, HFIN.out.2.1, HFIN.out.2.2.1, (HFIN.out.2.2.2.y (A1, n1, rd) (by simp)).1, (HFIN.out.2.2.2.y (A2, n2, rd) (by simp)).1, HFQ5.out, HFIN.out.2.2.2.less.up (by omega) (by omega)⟩
              · clear hK1 K1
                go_wp2
                have HS121 := Lib.hid (HS118.out.add (w' := v18.alloc (.cells #[.int .i64 0, .int .i64 0, .int .i64 0, .slice none 0 0] 27)) ((Kept.refl _ _).alloc _) (Blk.new v18 27 [.int .i64 0, .int .i64 0, .int .i64 0, .slice none 0 0]))
                have hne : b15 < v18.heap.size := (HS118.out.x (b15, 27, [.int .i64 0, .int .i64 0, .int .i64 0, .slice none 0 0]) (by simp)).1.lt
                refine norm_up (hK2 _ _ (Lr_early (by decide) ((Kept.refl _ _).alloc _)) ?_)
                generalize v18.alloc (.cells #[.int .i64 0, .int .i64 0, .int .i64 0, .slice none 0 0] 27) = v21 at HS121 ⊢
                generalize v18.heap.size = b16 at hne HS121 ⊢
                have HNE : Hid (b15 ≠ b16) := by intro e; omega
                clear hK2 K2 hne
                refine tr_oneE fun K1 hK1 => ?_
                simp only [sel, List.map_cons, List.map_nil, List.getD_cons_succ, List.getD_cons_zero]
                refine wpQuiet_nil ?_
                go_wp2_with (go_at_call 13; (with_reducible refine (CB.out _ _ _ _ _ _ _ HS121.out).mono ?_); rintro e v22 ⟨A2, n2, k2, d22, rfl, hd, hfz, hnw, hw, hp⟩; have HK22 := Lib.hid (kept_ne HS121.out.flip (t := 57) (g := g) (cs := [.int .i64 (c' : Int), .int .i64 (k' : Int), .int .i64 (p' : Int), .int .i64 (h' : Int), .int .i64 (o' : Int), .int .i64 (n' : Int), .slice x.A l' x.cap]) (by simp) hw); have HS122 := Lib.hid (HS121.out.flip.told hw hp hd hnw).flip; clear hd hfz hnw hw hp)
                refine norm_up (hK1 _ _ (Lr_early (by decide) HK22.out) ?_)
                clear hK1 K1
                have hfin := fin_two (xs := [.int .i64 rc, .int .i64 rp, .int .i64 rh, .slice A1 n1 k1]) (ys := [.int .i64 rc, .int .i64 rp, .int .i64 rh, .slice A2 n2 k2]) HS122.out (b1 := b15) (b2 := b16) (by simp) (by simp) HNE.out
                have HFIN := Lib.hid hfin
                have HZ1 := Lib.hid (HS122.out.x (b15, 27, [.int .i64 0, .int .i64 0, .int .i64 0, .slice none 0 0]) (by simp)).1
                have HZ2 := Lib.hid hfin.1
                have HNG : Hid (b15 ≠ g ∧ b16 ≠ g) := box_ne (cs := [.int .i64 (c' : Int), .int .i64 (k' : Int), .int .i64 (p' : Int), .int .i64 (h' : Int), .int .i64 (o' : Int), .int .i64 (n' : Int), .slice x.A l' x.cap]) HS122.out (by simp) (by simp) (by simp)
                clear hfin
                refine tr_oneE fun K hK => ?_
                simp only [sel, List.map_cons, List.map_nil, List.getD_cons_succ, List.getD_cons_zero]
                refine wpQuiet_nil ?_
                go_wp2_with (refine wpList_store_row rfl 27 _ _ rfl b15 #[.int .i64 rc, .int .i64 rp, .int .i64 rh, .slice A1 n1 k1] rfl rfl _ _ HZ1.out MdC.res_size rfl (by simp [Value.oneCell']) ?_)
                refine norm_up (hK _ _ (Lr_early (by decide) ((RgB.set_row HZ1.out #[.int .i64 rc, .int .i64 rp, .int .i64 rh, .slice A1 n1 k1]).2.mono fun i _ e => by rw [e]; exact HNG.out.1)) ?_)
                clear hK K
                refine tr_oneE fun K hK => ?_
                simp only [sel, List.map_cons, List.map_nil, List.getD_cons_succ, List.getD_cons_zero]
                refine wpQuiet_nil ?_
                go_wp2_with (refine wpList_store_row rfl 27 _ _ rfl b16 #[.int .i64 rc, .int .i64 rp, .int .i64 rh, .slice A2 n2 k2] rfl rfl _ _ HZ2.out MdC.res_size rfl (by simp [Value.oneCell']) ?_)
                refine norm_up (hK _ _ (Lr_early (by decide) ((RgB.set_row HZ2.out #[.int .i64 rc, .int .i64 rp, .int .i64 rh, .slice A2 n2 k2]).2.mono fun i _ e => by rw [e]; exact HNG.out.2)) ?_)
                clear hK K
                refine tr_lastL fun K hK => ?_
                simp only [sel, List.map_nil]
                refine wpQuiet_nil (hK _ ?_)
                clear hK K
                go_wp2
                go_meet
                exact ⟨b15, b16, rc, rp, rh, rd, A1, A2, n1, k1, n2, k2, _, _, _, _, rfl, rfl, HFIN.out.2.1, HFIN.out.2.2.1, (HFIN.out.2.2.2.y (A1, n1, rd) (by simp)).1, (HFIN.out.2.2.2.y (A2, n2, rd) (by simp)).1, HFQ5.out, HFIN.out.2.2.2.less.up (by omega) (by omega)⟩
            · clear hK1 K1
              go_wp2
              have HS123 := Lib.hid (HS117.out.add (w' := v17.alloc (.cells #[.int .i64 0, .int .i64 0, .int .i64 0, .slice none 0 0] 27)) ((Kept.refl _ _).alloc _) (Blk.new v17 27 [.int .i64 0, .int .i64 0, .int .i64 0, .slice none 0 0]))
              have hne : b15 < v17.heap.size := (HS117.out.x (b15, 27, [.int .i64 0, .int .i64 0, .int .i64 0, .slice none 0 0]) (by simp)).1.lt
              refine norm_up (hK2 _ _ (Lr_early (by decide) ((Kept.refl _ _).alloc _)) ?_)
              generalize v17.alloc (.cells #[.int .i64 0, .int .i64 0, .int .i64 0, .slice none 0 0] 27) = v23 at HS123 ⊢
              generalize v17.heap.size = b16 at hne HS123 ⊢
              have HNE : Hid (b15 ≠ b16) := by intro e; omega
              clear hK2 K2 hne
              refine tr_oneE fun K1 hK1 => ?_
              simp only [sel, List.map_cons, List.map_nil, List.getD_cons_succ, List.getD_cons_zero]
              refine wpQuiet_nil ?_
              go_wp2_with (go_at_call 13; (with_reducible refine (CA.out _ _ _ _ _ _ _ HS123.out).mono ?_); rintro e v24 ⟨A1, n1, k1, d24, rfl, hd, hfz, hnw, hw, hp⟩; have HK24 := Lib.hid (kept_ne HS123.out (t := 57) (g := g) (cs := [.int .i64 (c' : Int), .int .i64 (k' : Int), .int .i64 (p' : Int), .int .i64 (h' : Int), .int .i64 (o' : Int), .int .i64 (n' : Int), .slice x.A l' x.cap]) (by simp) hw); have HS124 := Lib.hid (HS123.out.told hw hp hd hnw); clear hd hfz hnw hw hp)
              refine norm_up (hK1 _ _ (Lr_early (by decide) HK24.out) ?_)
              clear hK1 K1
              refine tr_oneE fun K1 hK1 => ?_
              simp only [sel, List.map_cons, List.map_nil, List.getD_cons_succ, List.getD_cons_zero]
              refine wpQuiet_nil ?_
              go_wp2_with (go_at_call 13; (with_reducible refine (CB.out _ _ _ _ _ _ _ HS124.out).mono ?_); rintro e v25 ⟨A2, n2, k2, d25, rfl, hd, hfz, hnw, hw, hp⟩; have HK25 := Lib.hid (kept_ne HS124.out.flip (t := 57) (g := g) (cs := [.int .i64 (c' : Int), .int .i64 (k' : Int), .int .i64 (p' : Int), .int .i64 (h' : Int), .int .i64 (o' : Int), .int .i64 (n' : Int), .slice x.A l' x.cap]) (by simp) hw); have HS125 := Lib.hid (HS124.out.flip.told hw hp hd hnw).flip; clear hd hfz hnw hw hp)
              refine norm_up (hK1 _ _ (Lr_early (by decide) HK25.out) ?_)
              clear hK1 K1
              have hfin := fin_two (xs := [.int .i64 rc, .int .i64 rp, .int .i64 rh, .slice A1 n1 k1]) (ys := [.int .i64 rc, .int .i64 rp, .int .i64 rh, .slice A2 n2 k2]) HS125.out (b1 := b15) (b2 := b16) (by simp) (by simp) HNE.out
              have HFIN := Lib.hid hfin
              have HZ1 := Lib.hid (HS125.out.x (b15, 27, [.int .i64 0, .int .i64 0, .int .i64 0, .slice none 0 0]) (by simp)).1
              have HZ2 := Lib.hid hfin.1
              have HNG : Hid (b15 ≠ g ∧ b16 ≠ g) := box_ne (cs := [.int .i64 (c' : Int), .int .i64 (k' : Int), .int .i64 (p' : Int), .int .i64 (h' : Int), .int .i64 (o' : Int), .int .i64 (n' : Int), .slice x.A l' x.cap]) HS125.out (by simp) (by simp) (by simp)
              clear hfin
              refine tr_oneE fun K hK => ?_
              simp only [sel, List.map_cons, List.map_nil, List.getD_cons_succ, List.getD_cons_zero]
              refine wpQuiet_nil ?_
              go_wp2_with (refine wpList_store_row rfl 27 _ _ rfl b15 #[.int .i64 rc, .int .i64 rp, .int .i64 rh, .slice A1 n1 k1] rfl rfl _ _ HZ1.out MdC.res_size rfl (by simp [Value.oneCell']) ?_)
              refine norm_up (hK _ _ (Lr_early (by decide) ((RgB.set_row HZ1.out #[.int .i64 rc, .int .i64 rp, .int .i64 rh, .slice A1 n1 k1]).2.mono fun i _ e => by rw [e]; exact HNG.out.1)) ?_)
              clear hK K
              refine tr_oneE fun K hK => ?_
              simp only [sel, List.map_cons, List.map_nil, List.getD_cons_succ, List.getD_cons_zero]
              refine wpQuiet_nil ?_
              go_wp2_with (refine wpList_store_row rfl 27 _ _ rfl b16 #[.int .i64 rc, .int .i64 rp, .int .i64 rh, .slice A2 n2 k2] rfl rfl _ _ HZ2.out MdC.res_size rfl (by simp [Value.oneCell']) ?_)
              refine norm_up (hK _ _ (Lr_early (by decide) ((RgB.set_row HZ2.out #[.int .i64 rc, .int .i64 rp, .int .i64 rh, .slice A2 n2 k2]).2.mono fun i _ e => by rw [e]; exact HNG.out.2)) ?_)
              clear hK K
              refine tr_lastL fun K hK => ?_
              simp only [sel, List.map_nil]
              refine wpQuiet_nil (hK _ ?_)
              clear hK K
              go_wp2
              go_meet
              exact ⟨b15, b16, rc, rp, rh, rd, A1, A2, n1, k1, n2, k2, _, _, _, _, rfl, rfl, HFIN.out.2.1, HFIN.out.2.2.1, (HFIN.out.2.2.2.y (A1, n1, rd) (by simp)).1, (HFIN.out.2.2.2.y (A2, n2, rd) (by simp)).1, HFQ5.out, HFIN.out.2.2.2.less.up (by omega) (by omega)⟩
          · clear hK1 K1 hK2 K2
            go_wp2
            have HS126 := Lib.hid (HS0.out.add (w' := wd.alloc (.cells #[.int .i64 0, .int .i64 0, .int .i64 0, .slice none 0 0] 27)) ((Kept.refl _ _).alloc _) (Blk.new wd 27 [.int .i64 0, .int .i64 0, .int .i64 0, .slice none 0 0]))
            refine norm_up (hK3 _ _ (Lr_early (by decide) ((Kept.refl _ _).alloc _)) ?_)
            generalize wd.alloc (.cells #[.int .i64 0, .int .i64 0, .int .i64 0, .slice none 0 0] 27) = v26 at HS126 ⊢
            generalize wd.heap.size = b16 at HS126 ⊢
            clear hK3 K3
            refine tr_twoE fun K1 hK1 K2 hK2 => ?_
            simp only [sel, List.map_cons, List.map_nil, List.getD_cons_succ, List.getD_cons_zero]
            refine wpQuiet_nil ⟨?_, ?_⟩
            · clear hK2 K2
              go_wp2_with (go_at_call 13; (with_reducible refine (CA.out _ _ _ _ _ _ _ HS126.out).mono ?_); rintro e v27 ⟨A1, n1, k1, d27, rfl, hd, hfz, hnw, hw, hp⟩; have HK27 := Lib.hid (kept_ne HS126.out (t := 57) (g := g) (cs := [.int .i64 (c' : Int), .int .i64 (k' : Int), .int .i64 (p' : Int), .int .i64 (h' : Int), .int .i64 (o' : Int), .int .i64 (n' : Int), .slice x.A l' x.cap]) (by simp) hw); have HS127 := Lib.hid (HS126.out.told hw hp hd hnw); clear hd hfz hnw hw hp)
              refine norm_up (hK1 _ _ (Lr_early (by decide) HK27.out) ?_)
              clear hK1 K1
              refine tr_twoE fun K1 hK1 K2 hK2 => ?_
              simp only [sel, List.map_cons, List.map_nil, List.getD_cons_succ, List.getD_cons_zero]
              refine wpQuiet_nil ⟨?_, ?_⟩
              · clear hK2 K2
                go_wp2_with (go_at_call 13; (with_reducible refine (CB.out _ _ _ _ _ _ _ HS127.out).mono ?_); rintro e v28 ⟨A2, n2, k2, d28, rfl, hd, hfz, hnw, hw, hp⟩; have HK28 := Lib.hid (kept_ne HS127.out.flip (t := 57) (g := g) (cs := [.int .i64 (c' : Int), .int .i64 (k' : Int), .int .i64 (p' : Int), .int .i64 (h' : Int), .int .i64 (o' : Int), .int .i64 (n' : Int), .slice x.A l' x.cap]) (by simp) hw); have HS128 := Lib.hid (HS127.out.flip.told hw hp hd hnw).flip; clear hd hfz hnw hw hp)
                refine norm_up (hK1 _ _ (Lr_early (by decide) HK28.out) ?_)
                clear hK1 K1
                refine tr_oneE fun K1 hK1 => ?_
                simp only [sel, List.map_cons, List.map_nil, List.getD_cons_succ, List.getD_cons_zero]
                refine wpQuiet_nil ?_
                go_wp2
                have HS129 := Lib.hid (HS128.out.add (w' := v28.alloc (.cells #[.int .i64 0, .int .i64 0, .int .i64 0, .slice none 0 0] 27)) ((Kept.refl _ _).alloc _) (Blk.new v28 27 [.int .i64 0, .int .i64 0, .int .i64 0, .slice none 0 0]))
                have hne : b16 < v28.heap.size := (HS128.out.x (b16, 27, [.int .i64 0, .int .i64 0, .int .i64 0, .slice none 0 0]) (by simp)).1.lt
                refine norm_up (hK1 _ _ (Lr_early (by decide) ((Kept.refl _ _).alloc _)) ?_)
                generalize v28.alloc (.cells #[.int .i64 0, .int .i64 0, .int .i64 0, .slice none 0 0] 27) = v29 at HS129 ⊢
                generalize v28.heap.size = b15 at hne HS129 ⊢
                have HNE : Hid (b15 ≠ b16) := by intro e; omega
                clear hK1 K1 hne
                have hfin := fin_two (xs := [.int .i64 rc, .int .i64 rp, .int .i64 rh, .slice A1 n1 k1]) (ys := [.int .i64 rc, .int .i64 rp, .int .i64 rh, .slice A2 n2 k2]) HS129.out (b1 := b15) (b2 := b16) (by simp) (by simp) HNE.out
                have HFIN := Lib.hid hfin
                have HZ1 := Lib.hid (HS129.out.x (b15, 27, [.int .i64 0, .int .i64 0, .int .i64 0, .slice none 0 0]) (by simp)).1
                have HZ2 := Lib.hid hfin.1
                have HNG : Hid (b15 ≠ g ∧ b16 ≠ g) := box_ne (cs := [.int .i64 (c' : Int), .int .i64 (k' : Int), .int .i64 (p' : Int), .int .i64 (h' : Int), .int .i64 (o' : Int), .int .i64 (n' : Int), .slice x.A l' x.cap]) HS129.out (by simp) (by simp) (by simp)
                clear hfin
                refine tr_oneE fun K hK => ?_
                simp only [sel, List.map_cons, List.map_nil, List.getD_cons_succ, List.getD_cons_zero]
                refine wpQuiet_nil ?_
                go_wp2_with (refine wpList_store_row rfl 27 _ _ rfl b15 #[.int .i64 rc, .int .i64 rp, .int .i64 rh, .slice A1 n1 k1] rfl rfl _ _ HZ1.out MdC.res_size rfl (by simp [Value.oneCell']) ?_)
                refine norm_up (hK _ _ (Lr_early (by decide) ((RgB.set_row HZ1.out #[.int .i64 rc, .int .i64 rp, .int .i64 rh, .slice A1 n1 k1]).2.mono fun i _ e => by rw [e]; exact HNG.out.1)) ?_)
                clear hK K
                refine tr_oneE fun K hK => ?_
                simp only [sel, List.map_cons, List.map_nil, List.getD_cons_succ, List.getD_cons_zero]
                refine wpQuiet_nil ?_
                go_wp2_with (refine wpList_store_row rfl 27 _ _ rfl b16 #[.int .i64 rc, .int .i64 rp, .int .i64 rh, .slice A2 n2 k2] rfl rfl _ _ HZ2.out MdC.res_size rfl (by simp [Value.oneCell']) ?_)
                refine norm_up (hK _ _ (Lr_early (by decide) ((RgB.set_row HZ2.out #[.int .i64 rc, .int .i64 rp, .int .i64 rh, .slice A2 n2 k2]).2.mono fun i _ e => by rw [e]; exact HNG.out.2)) ?_)
                clear hK K
                refine tr_lastL fun K hK => ?_
                simp only [sel, List.map_nil]
                refine wpQuiet_nil (hK _ ?_)
                clear hK K
                go_wp2
                go_meet
                exact ⟨b15, b16, rc, rp, rh, rd, A1, A2, n1, k1, n2, k2, _, _, _, _, rfl, rfl, HFIN.out.2.1, HFIN.out.2.2.1, (HFIN.out.2.2.2.y (A1, n1, rd) (by simp)).1, (HFIN.out.2.2.2.y (A2, n2, rd) (by simp)).1, HFQ5.out, HFIN.out.2.2.2.less.up (by omega) (by omega)⟩
              · clear hK1 K1
                go_wp2
                have HS130 := Lib.hid (HS127.out.add (w' := v27.alloc (.cells #[.int .i64 0, .int .i64 0, .int .i64 0, .slice none 0 0] 27)) ((Kept.refl _ _).alloc _) (Blk.new v27 27 [.int .i64 0, .int .i64 0, .int .i64 0, .slice none 0 0]))
                have hne : b16 < v27.heap.size := (HS127.out.x (b16, 27, [.int .i64 0, .int .i64 0, .int .i64 0, .slice none 0 0]) (by simp)).1.lt
                refine norm_up (hK2 _ _ (Lr_early (by decide) ((Kept.refl _ _).alloc _)) ?_)
                generalize v27.alloc (.cells #[.int .i64 0, .int .i64 0, .int .i64 0, .slice none 0 0] 27) = v30 at HS130 ⊢
                generalize v27.heap.size = b15 at hne HS130 ⊢
                have HNE : Hid (b15 ≠ b16) := by intro e; omega
                clear hK2 K2 hne
                refine tr_oneE fun K1 hK1 => ?_
                simp only [sel, List.map_cons, List.map_nil, List.getD_cons_succ, List.getD_cons_zero]
                refine wpQuiet_nil ?_
                go_wp2_with (go_at_call 13; (with_reducible refine (CB.out _ _ _ _ _ _ _ HS130.out).mono ?_); rintro e v31 ⟨A2, n2, k2, d31, rfl, hd, hfz, hnw, hw, hp⟩; have HK31 := Lib.hid (kept_ne HS130.out.flip (t := 57) (g := g) (cs := [.int .i64 (c' : Int), .int .i64 (k' : Int), .int .i64 (p' : Int), .int .i64 (h' : Int), .int .i64 (o' : Int), .int .i64 (n' : Int), .slice x.A l' x.cap]) (by simp) hw); have HS131 := Lib.hid (HS130.out.flip.told hw hp hd hnw).flip; clear hd hfz hnw hw hp)
                refine norm_up (hK1 _ _ (Lr_early (by decide) HK31.out) ?_)
                clear hK1 K1
                have hfin := fin_two (xs := [.int .i64 rc, .int .i64 rp, .int .i64 rh, .slice A1 n1 k1]) (ys := [.int .i64 rc, .int .i64 rp, .int .i64 rh, .slice A2 n2 k2]) HS131.out (b1 := b15) (b2 := b16) (by simp) (by simp) HNE.out
                have HFIN := Lib.hid hfin
                have HZ1 := Lib.hid (HS131.out.x (b15, 27, [.int .i64 0, .int .i64 0, .int .i64 0, .slice none 0 0]) (by simp)).1
                have HZ2 := Lib.hid hfin.1
                have HNG : Hid (b15 ≠ g ∧ b16 ≠ g) := box_ne (cs := [.int .i64 (c' : Int), .int .i64 (k' : Int), .int .i64 (p' : Int), .int .i64 (h' : Int), .int .i64 (o' : Int), .int .i64 (n' : Int), .slice x.A l' x.cap]) HS131.out (by simp) (by simp) (by simp)
                clear hfin
                refine tr_oneE fun K hK => ?_
                simp only [sel, List.map_cons, List.map_nil, List.getD_cons_succ, List.getD_cons_zero]
                refine wpQuiet_nil ?_
                go_wp2_with (refine wpList_store_row rfl 27 _ _ rfl b15 #[.int .i64 rc, .int .i64 rp, .int .i64 rh, .slice A1 n1 k1] rfl rfl _ _ HZ1.out MdC.res_size rfl (by simp [Value.oneCell']) ?_)
                refine norm_up (hK _ _ (Lr_early (by decide) ((RgB.set_row HZ1.out #[.int .i64 rc, .int .i64 rp, .int .i64 rh, .slice A1 n1 k1]).2.mono fun i _ e => by rw [e]; exact HNG.out.1)) ?_)
                clear hK K
                refine tr_oneE fun K hK => ?_
                simp only [sel, List.map_cons, List.map_nil, List.getD_cons_succ, List.getD_cons_zero]
                refine wpQuiet_nil ?_
                go_wp2_with (refine wpList_store_row rfl 27 _ _ rfl b16 #[.int .i64 rc, .int .i64 rp, .int .i64 rh, .slice A2 n2 k2] rfl rfl _ _ HZ2.out MdC.res_size rfl (by simp [Value.oneCell']) ?_)
                refine norm_up (hK _ _ (Lr_early (by decide) ((RgB.set_row HZ2.out #[.int .i64 rc, .int .i64 rp, .int .i64 rh, .slice A2 n2 k2]).2.mono fun i _ e => by rw [e]; exact HNG.out.2)) ?_)
                clear hK K
                refine tr_lastL fun K hK => ?_
                simp only [sel, List.map_nil]
                refine wpQuiet_nil (hK _ ?_)
                clear hK K
                go_wp2
                go_meet
                exact ⟨b15, b16, rc, rp, rh, rd, A1, A2, n1, k1, n2, k2, _, _, _, _, rfl, rfl, HFIN.out.2.1, HFIN.out.2.2.1, (HFIN.out.2.2.2.y (A1, n1, rd) (by simp)).1, (HFIN.out.2.2.2.y (A2, n2, rd) (by simp)).1, HFQ5.out, HFIN.out.2.2.2.less.up (by omega) (by omega)⟩
            · clear hK1 K1
              go_wp2
              have HS132 := Lib.hid (HS126.out.add (w' := v26.alloc (.cells #[.int .i64 0, .int .i64 0, .int .i64 0, .slice none 0 0] 27)) ((Kept.refl _ _).alloc _) (Blk.new v26 27 [.int .i64 0, .int .i64 0, .int .i64 0, .slice none 0 0]))
              have hne : b16 < v26.heap.size := (HS126.out.x (b16, 27, [.int .i64 0, .int .i64 0, .int .i64 0, .slice none 0 0]) (by simp)).1.lt
              refine norm_up (hK2 _ _ (Lr_early (by decide) ((Kept.refl _ _).alloc _)) ?_)
              generalize v26.alloc (.cells #[.int .i64 0, .int .i64 0, .int .i64 0, .slice none 0 0] 27) = v32 at HS132 ⊢
              generalize v26.heap.size = b15 at hne HS132 ⊢
              have HNE : Hid (b15 ≠ b16) := by intro e; omega
              clear hK2 K2 hne
              refine tr_oneE fun K1 hK1 => ?_
              simp only [sel, List.map_cons, List.map_nil, List.getD_cons_succ, List.getD_cons_zero]
              refine wpQuiet_nil ?_
              go_wp2_with (go_at_call 13; (with_reducible refine (CA.out _ _ _ _ _ _ _ HS132.out).mono ?_); rintro e v33 ⟨A1, n1, k1, d33, rfl, hd, hfz, hnw, hw, hp⟩; have HK33 := Lib.hid (kept_ne HS132.out (t := 57) (g := g) (cs := [.int .i64 (c' : Int), .int .i64 (k' : Int), .int .i64 (p' : Int), .int .i64 (h' : Int), .int .i64 (o' : Int), .int .i64 (n' : Int), .slice x.A l' x.cap]) (by simp) hw); have HS133 := Lib.hid (HS132.out.told hw hp hd hnw); clear hd hfz hnw hw hp)
              refine norm_up (hK1 _ _ (Lr_early (by decide) HK33.out) ?_)
              clear hK1 K1
              refine tr_oneE fun K1 hK1 => ?_
              simp only [sel, List.map_cons, List.map_nil, List.getD_cons_succ, List.getD_cons_zero]
              refine wpQuiet_nil ?_
              go_wp2_with (go_at_call 13; (with_reducible refine (CB.out _ _ _ _ _ _ _ HS133.out).mono ?_); rintro e v34 ⟨A2, n2, k2, d34, rfl, hd, hfz, hnw, hw, hp⟩; have HK34 := Lib.hid (kept_ne HS133.out.flip (t := 57) (g := g) (cs := [.int .i64 (c' : Int), .int .i64 (k' : Int), .int .i64 (p' : Int), .int .i64 (h' : Int), .int .i64 (o' : Int), .int .i64 (n' : Int), .slice x.A l' x.cap]) (by simp) hw); have HS134 := Lib.hid (HS133.out.flip.told hw hp hd hnw).flip; clear hd hfz hnw hw hp)
              refine norm_up (hK1 _ _ (Lr_early (by decide) HK34.out) ?_)
              clear hK1 K1
              have hfin := fin_two (xs := [.int .i64 rc, .int .i64 rp, .int .i64 rh, .slice A1 n1 k1]) (ys := [.int .i64 rc, .int .i64 rp, .int .i64 rh, .slice A2 n2 k2]) HS134.out (b1 := b15) (b2 := b16) (by simp) (by simp) HNE.out
              have HFIN := Lib.hid hfin
              have HZ1 := Lib.hid (HS134.out.x (b15, 27, [.int .i64 0, .int .i64 0, .int .i64 0, .slice none 0 0]) (by simp)).1
              have HZ2 := Lib.hid hfin.1
              have HNG : Hid (b15 ≠ g ∧ b16 ≠ g) := box_ne (cs := [.int .i64 (c' : Int), .int .i64 (k' : Int), .int .i64 (p' : Int), .int .i64 (h' : Int), .int .i64 (o' : Int), .int .i64 (n' : Int), .slice x.A l' x.cap]) HS134.out (by simp) (by simp) (by simp)
              clear hfin
              refine tr_oneE fun K hK => ?_
              simp only [sel, List.map_cons, List.map_nil, List.getD_cons_succ, List.getD_cons_zero]
              refine wpQuiet_nil ?_
              go_wp2_with (refine wpList_store_row rfl 27 _ _ rfl b15 #[.int .i64 rc, .int .i64 rp, .int .i64 rh, .slice A1 n1 k1] rfl rfl _ _ HZ1.out MdC.res_size rfl (by simp [Value.oneCell']) ?_)
              refine norm_up (hK _ _ (Lr_early (by decide) ((RgB.set_row HZ1.out #[.int .i64 rc, .int .i64 rp, .int .i64 rh, .slice A1 n1 k1]).2.mono fun i _ e => by rw [e]; exact HNG.out.1)) ?_)
              clear hK K
              refine tr_oneE fun K hK => ?_
              simp only [sel, List.map_cons, List.map_nil, List.getD_cons_succ, List.getD_cons_zero]
              refine wpQuiet_nil ?_
              go_wp2_with (refine wpList_store_row rfl 27 _ _ rfl b16 #[.int .i64 rc, .int .i64 rp, .int .i64 rh, .slice A2 n2 k2] rfl rfl _ _ HZ2.out MdC.res_size rfl (by simp [Value.oneCell']) ?_)
              refine norm_up (hK _ _ (Lr_early (by decide) ((RgB.set_row HZ2.out #[.int .i64 rc, .int .i64 rp, .int .i64 rh, .slice A2 n2 k2]).2.mono fun i _ e => by rw [e]; exact HNG.out.2)) ?_)
              clear hK K
              refine tr_lastL fun K hK => ?_
              simp only [sel, List.map_nil]
              refine wpQuiet_nil (hK _ ?_)
              clear hK K
              go_wp2
              go_meet
              exact ⟨b15, b16, rc, rp, rh, rd, A1, A2, n1, k1, n2, k2, _, _, _, _, rfl, rfl, HFIN.out.2.1, HFIN.out.2.2.1, (HFIN.out.2.2.2.y (A1, n1, rd) (by simp)).1, (HFIN.out.2.2.2.y (A2, n2, rd) (by simp)).1, HFQ5.out, HFIN.out.2.2.2.less.up (by omega) (by omega)⟩
        case rest =>
          obtain ⟨b1, b2, rc, rp, rh, rd, A1, A2, n1, k1, n2, k2, ea, eb, cA5, cB5, rfl, rfl, hb1, hb2, hs1, hs2, hfq, hs⟩ := hcut
          have HFQ5 := Lib.hid hfq
          have HS5 := Lib.hid hs
          have x0 := hb1.cell 0
          have x1 := hb1.cell 1
          have x2 := hb1.cell 2
          have x3 := hb1.cell 3
          have z0 := hb2.cell 0
          have z1 := hb2.cell 1
          have z2 := hb2.cell 2
          have z3 := hb2.cell 3
          simp only [List.getElem?_cons_zero, List.getElem?_cons_succ] at x0 x1 x2 x3 z0 z1 z2 z3
          have e0 : (rc != rc) = false := by simp
          have e1 : (rp != rp) = false := by simp
          have e2 : (rh != rh) = false := by simp
          have cs1 := hs1.str (P := Tryz.prog) 22 9 5 Tryz.underlying22 Tryz.underlying5 Tryz.underlying9 k1
          have cs2 := hs2.str (P := Tryz.prog) 22 9 5 Tryz.underlying22 Tryz.underlying5 Tryz.underlying9 k2
          generalize strOfNums rd = st at cs1 cs2
          clear hb1 hb2 hs1 hs2 hfq hs HS4
          go_wp2
          go_roundg (len - (j + 1))
          case measure => have := HG.out; have := HJ.out; omega
          case rel => exact ⟨j + 1, _, _, _, _, by have := HG.out; have := HJ.out; omega, by go_num, HFQ5.out, HS5.out⟩
    · obtain rfl : j = len := by have := HG.out; omega
      clear hj
      go_wp2_with (go_at_call 11; (with_reducible refine (told_any _).mono ?_); rintro e wt ⟨rfl, hge⟩; have HGE := Lib.hid hge; clear hge)
      go_ret
      exact ⟨rfl, Grow.below (HI.out.a.g.trans HGE.out)⟩
end
end Go.Proofs.YtbnkpnllgoghnaaGreat.LwFaults
