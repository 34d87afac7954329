import Derived.Test.YtbnkpnllgoghnaaGreatPg
import Derived.Shelf.Sort.Plain
import Derived.LoopN
set_option linter.unusedVariables false
namespace Go.Proofs.YtbnkpnllgoghnaaGreat
open Go.Lib (hid)
namespace RgG
open Go.ChangeShapes Go.WideShapes Go.ChangeAt Go.RowKit
open Mem Blk Cells Orow RfP RgP RgS RgA RgB RgC RgO RgD RgE RgF Stages
open ArM (Ar Fr fUsed fFree)
open ArC (ArAt FR)
open Dev (Dv DevAt)
open ListM (outL frontL okO okF)
open HdM (Hs)
open RgH (hs)
open MdM (Md MdOp Re)
open RfM (Pl)
open RfI (InvE Inv)
open RgM (Bnd saveC saveS)
section
variable {w w' : World} {col col' : Nat → Nat} {ν : Nm} {S : Dv} {A : Ar} {L : List Nat} {H : Hs} {T : Nat → Bool} {p : Pl} {h : Option Nat} {f q k n b c g : Nat}
theorem page_cases (X : Md) (pg : Int) (F : Nat → Re × Md) : (findC X.n X.T pg ≠ 0 ∧ X.onPage pg F = (MdM.err (findC X.n X.T pg),X)) ∨ ∃ q : Nat,pg = (q : Int) ∧ q < X.n ∧ X.T q = true ∧ findC X.n X.T pg = 0 ∧ X.onPage pg F = F q := by
 by_cases h : 0 ≤ pg ∧ pg < (X.n : Int)
 ·obtain ⟨q,rfl⟩ := Int.eq_ofNat_of_zero_le h.1
  have hn : ¬ ¬ (0 ≤ (q : Int) ∧ (q : Int) < (X.n : Int)) := fun e => e h
  cases ht : X.T q with
  | true => exact .inr ⟨q,rfl,by omega,ht,by unfold findC;rw [if_neg hn,Int.toNat_natCast,ht];rfl,by unfold Md.onPage;rw [if_neg hn,Int.toNat_natCast,ht];rfl⟩
  | false =>
   have e : findC X.n X.T (q : Int) = 2 := by unfold findC;rw [if_neg hn,Int.toNat_natCast,ht];rfl
   exact .inl ⟨by rw [e];decide,by rw [e];unfold Md.onPage;rw [if_neg hn,Int.toNat_natCast,ht];rfl⟩
 ·have e : findC X.n X.T pg = 1 := if_pos h
  exact .inl ⟨by rw [e];decide,by rw [e];exact if_pos h⟩
theorem find_neg (i : Inv p) : p.A.find (-1) = -1 := ArM.find_none fun x hx hs => by have := i.ga.use x hx hs;omega
def CodePost (ν : Nm) (w : World) (col : Nat → Nat) (y : Re × Pl) : Ending → World → Prop := Post ν w col (.int .i64 y.1.c) y.2.D y.2.A y.2.L (hs y.2.X) y.2.X.T
theorem run_bad {o : MdOp} {z : Int} (hz : z ≠ 0) (hr : (p.X.run (c : Int) o) = (MdM.err z,p.X)) : p.run (c : Int) o = (MdM.err z,p) := by
 unfold Pl.run
 rw [hr,if_pos (by exact hz)]
set_option maxRecDepth 100000 in
set_option maxHeartbeats 1000000 in
theorem fetch_any {o : MdOp} (x : MP w col ν p) (i : Inv p) (ft : Fit ν p) (hc : c < p.X.N) (ho : o.k = 2) (hl : Bnd p.D k) (hk : k ≤ 100000) :
  Calls Tryz.prog 41 #[.pointer (some ⟨ν.r,0,none⟩),.int .i64 (c : Int),.int .i64 o.p] w (RunPost ν w col (p.run (c : Int) o)) := by
 have hr : p.X.run (c : Int) o = p.X.onPage o.p (p.X.fetch c) := by
  unfold Md.run
  rw [if_neg (by rw [ho];omega),if_neg (by rw [ho];decide),if_pos ho,Int.toNat_natCast]
 have hn48 := i.gx.n.2
 have hb := Blk.new w 27 [.int .i64 0,.int .i64 0,.int .i64 0,.slice none 0 0]
 have hg : Grow w (w.alloc (.cells #[.int .i64 0,.int .i64 0,.int .i64 0,.slice none 0 0] 27)) := (Kept.refl _ _).alloc _
 have hx := x.grow hg
 have HX := hid hx
 have HW := hid (Went.grow (col := col) hg)
 have HC : Hid (paint w.heap.size 0 col w.heap.size < 6 ∨ 11 < paint w.heap.size 0 col w.heap.size) := .inl (by rw [paint_new (Nat.le_refl _)];decide)
 have HB := hid hb
 have HLT : Hid (w.heap.size < (w.alloc (.cells #[.int .i64 0,.int .i64 0,.int .i64 0,.slice none 0 0] 27)).heap.size) := hb.lt
 have HFI := hid (find_any hx o.p (by rw [ft.n];exact hn48))
 have HRO := hid (HdO.room_any hx.hand (c : Int))
 have e2 := hx.c2
 rw [RgH.hs_room hc] at HRO
 unfold RunPost
 rcases page_cases p.X o.p (p.X.fetch c) with ⟨hz,hpg⟩ | ⟨q,hoq,hqn,hT,hz,hpg⟩
 ·have E := hid (run_bad hz (hr.trans hpg))
  rw [E.out]
  rw [ft.n] at HFI
  have hzb : (findC p.X.n p.X.T o.p != 0) = true := by simpa using hz
  clear x i ft hc ho hl hk hr hb hg hx E hn48 hz hpg
  generalize findC p.X.n p.X.T o.p = z at *
  go_enter Tryz.func41,Tryz.ntmps41
  go_upto_region 1 with (fail)
  generalize w.alloc (.cells #[.int .i64 0,.int .i64 0,.int .i64 0,.slice none 0 0] 27) = w0 at *
  generalize paint w.heap.size 0 col = c0 at *
  have HWL := HW
  have HXL := HX
  have HBL := hid (And.intro HB.out HC.out)
  go_wp2_with (first
   | (go_at_call 93;(with_reducible refine HFI.out.mono ?_);rintro e w1 ⟨rfl,rfl⟩)
   | (go_at_call 39;(with_reducible refine (code_any _ _).mono ?_);rintro e wz ⟨rfl,hg⟩;have HG := hid hg;have HWZ := hid (HWL.out.trans (Went.grow hg));have HXZ := hid (HXL.out.grow hg);have HBZ := hid (Went.blk (Went.grow hg) HBL.out.1 HBL.out.2);clear hg)
   | (refine wpList_store_row rfl 27 _ _ rfl w.heap.size #[.int .i64 z,.int .i64 0,.int .i64 0,.slice none 0 0] rfl rfl _ _ HBZ.out.1 MdC.res_size rfl (by simp [Value.oneCell']) ?_))
  obtain ⟨f1,f2⟩ := fin_r HWZ.out HXZ.out HBZ.out.1 HBZ.out.2 (Nat.le_refl _) (resv_none _ (w.heap.size + 1) _ z 0 0) (Nat.lt_succ_self _)
  exact MdC.ret_res (g := w.heap.size) rfl rfl f1 rfl f2
 ·rw [ft.n,hz] at HFI
  rw [hoq] at HFI ⊢
  rcases HdM.hnd_cases (p.X.H c) 6 with ⟨e,_⟩ | ⟨j,hj,e,hH,_⟩
  ·have e : p.X.free c = -1 := e
   have hnw : p.X.fetch c q = (MdM.err 4,p.X) := by unfold Md.fetch;rw [if_pos e]
   have E := hid (run_bad (by decide) (hr.trans (hpg.trans hnw)))
   rw [E.out]
   rw [e] at HRO
   simp only [decide_true,Bool.not_true] at HRO
   clear x i ft hc ho hl hk hr hb hg hx e E hnw hn48 hz hpg hqn hT hoq
   go_enter Tryz.func41,Tryz.ntmps41
   go_upto_region 1 with (fail)
   generalize w.alloc (.cells #[.int .i64 0,.int .i64 0,.int .i64 0,.slice none 0 0] 27) = w0 at *
   generalize paint w.heap.size 0 col = c0 at *
   have HWL := HW
   have HXL := HX
   have HBL := hid (And.intro HB.out HC.out)
   go_wp2_with (first
    | (go_at_call 93;(with_reducible refine HFI.out.mono ?_);rintro e w1 ⟨rfl,rfl⟩)
    | (go_at_call 89;(with_reducible refine HRO.out.mono ?_);rintro e w1 ⟨rfl,rfl⟩)
    | (go_at_call 39;(with_reducible refine (code_any _ _).mono ?_);rintro e wz ⟨rfl,hg⟩;have HG := hid hg;have HWZ := hid (HWL.out.trans (Went.grow hg));have HXZ := hid (HXL.out.grow hg);have HBZ := hid (Went.blk (Went.grow hg) HBL.out.1 HBL.out.2);clear hg)
    | (refine wpList_store_row rfl 27 _ _ rfl w.heap.size #[.int .i64 4,.int .i64 0,.int .i64 0,.slice none 0 0] rfl rfl _ _ HBZ.out.1 MdC.res_size rfl (by simp [Value.oneCell']) ?_))
   obtain ⟨f1,f2⟩ := fin_r HWZ.out HXZ.out HBZ.out.1 HBZ.out.2 (Nat.le_refl _) (resv_none _ (w.heap.size + 1) _ 4 0 0) (Nat.lt_succ_self _)
   exact MdC.ret_res (g := w.heap.size) rfl rfl f1 rfl f2
  ·have e : p.X.free c = (j : Int) := e
   rw [e] at HRO
   rw [decide_eq_false (show ¬ ((j : Int) = -1) by omega)] at HRO
   simp only [Bool.not_false] at HRO
   have hnw : p.X.fetch c q = (⟨0,q,(j : Int),[]⟩,p.X.putH c j q) := by
    unfold Md.fetch
    rw [if_neg (by rw [e];omega),e,Int.toNat_natCast]
   have hrr := hr.trans (hpg.trans hnw)
   have hc0 : (p.X.run (c : Int) o).1.c = 0 := by rw [hrr]
   have HRM := hid (bring_any hx i hqn ft.K hl hk)
   unfold RoomPost at HRM
   have hgv : (hs p.X).give (c : Int) (q : Int) = (j : Int) := by rw [RgH.hs_give hc (by omega),e]
   have hgd : (hs p.X).gave (c : Int) (q : Int) = hs (p.X.putH c j (q : Int)) := RgH.hs_gave hc (by omega) e
   have hact : p.act (c : Int) o (p.X.run (c : Int) o).1 = p.fetch (q : Int) := by
    unfold Pl.act
    rw [if_neg (by rw [ho];decide),if_pos ho,hoq]
   have bad : ∀ (z : Int) (p' : Pl),z ≠ 0 → p'.X = p.X → p.fetch (q : Int) = ((-1,z),p') → Calls Tryz.prog 41 #[.pointer (some ⟨ν.r,0,none⟩),.int .i64 (c : Int),.int .i64 (q : Int)] w (RPost ν w col (p.run (c : Int) o).1 (p.run (c : Int) o).2.D (p.run (c : Int) o).2.A (p.run (c : Int) o).2.L (hs (p.run (c : Int) o).2.X) (p.run (c : Int) o).2.X.T) := fun z p' hz0 hX hf => by
    rw [hf] at hact HRM
    have E : Hid (p.run (c : Int) o = (MdM.err z,p')) := by
     unfold Hid
     rw [RfX.run_ok hc0,hact,RfX.fin_bad hz0]
    rw [E.out,hX]
    have hzb : (z != 0) = true := by simpa using hz0
    clear x i ft hc ho hl hk hr hb hg hx e E hnw hn48 hz hpg hqn hT hrr hc0 hgv hgd hact hX hf hoq
    go_enter Tryz.func41,Tryz.ntmps41
    go_upto_region 1 with (fail)
    generalize w.alloc (.cells #[.int .i64 0,.int .i64 0,.int .i64 0,.slice none 0 0] 27) = w0 at *
    generalize paint w.heap.size 0 col = c0 at *
    go_wp2_with (first
     | (go_at_call 93;(with_reducible refine HFI.out.mono ?_);rintro e w1 ⟨rfl,rfl⟩)
     | (go_at_call 89;(with_reducible refine HRO.out.mono ?_);rintro e w1 ⟨rfl,rfl⟩)
     | (go_at_call 94;(with_reducible refine HRM.out.mono ?_);rintro e w2 ⟨rfl,c2',hw2,hm2⟩;have HWL := hid (HW.out.trans hw2);have HBL := hid (Went.blk hw2 HB.out HC.out);have HXL := hid hm2;have HLT2 : Hid (w.heap.size < w2.heap.size) := Nat.lt_of_lt_of_le HLT.out hw2.kept.size;clear hw2 hm2)
     | (go_at_call 39;(with_reducible refine (code_any _ _).mono ?_);rintro e wz ⟨rfl,hg⟩;have HG := hid hg;have HWZ := hid (HWL.out.trans (Went.grow hg));have HXZ := hid (HXL.out.grow hg);have HBZ := hid (Went.blk (Went.grow hg) HBL.out.1 HBL.out.2);clear hg)
     | (refine wpList_store_row rfl 27 _ _ rfl w.heap.size #[.int .i64 z,.int .i64 0,.int .i64 0,.slice none 0 0] rfl rfl _ _ HBZ.out.1 MdC.res_size rfl (by simp [Value.oneCell']) ?_))
    obtain ⟨f1,f2⟩ := fin_r HWZ.out HXZ.out HBZ.out.1 HBZ.out.2 (Nat.le_refl _) (resv_none _ (w.heap.size + 1) _ z 0 0) (Nat.lt_succ_self _)
    exact MdC.ret_res (g := w.heap.size) rfl rfl f1 rfl f2
   rcases RfF.fetch_spec i hqn hT with ⟨f,p',hf,hgo,_⟩ | ⟨hf,_⟩ | ⟨p',hf,hgo,_⟩
   ·rw [hf] at hact HRM
    have E : Hid (p.run (c : Int) o = (⟨0,q,(j : Int),[]⟩,⟨p.X.putH c j q,p'.D,p'.A.pin (f : Int),p'.L⟩)) := by
     unfold Hid
     rw [RfX.run_ok hc0,hact,RfX.fin_ok rfl,hrr]
     dsimp only
     rw [if_pos (by omega)]
    rw [E.out]
    have HGV := hid hgv
    have HGD := hid hgd
    clear x i ft hc ho hl hk hr hb hg hx e E hnw hn48 hz hpg hqn hT hrr hc0 hgv hgd hact hf hoq bad hgo
    go_enter Tryz.func41,Tryz.ntmps41
    go_upto_region 1 with (fail)
    generalize w.alloc (.cells #[.int .i64 0,.int .i64 0,.int .i64 0,.slice none 0 0] 27) = w0 at *
    generalize paint w.heap.size 0 col = c0 at *
    go_wp2_with (first
     | (go_at_call 93;(with_reducible refine HFI.out.mono ?_);rintro e w1 ⟨rfl,rfl⟩)
     | (go_at_call 89;(with_reducible refine HRO.out.mono ?_);rintro e w1 ⟨rfl,rfl⟩)
     | (go_at_call 94;(with_reducible refine HRM.out.mono ?_);rintro e w2 ⟨rfl,c2',hw2,hm2⟩;have HWL := hid (HW.out.trans hw2);have HBL := hid (Went.blk hw2 HB.out HC.out);have HXL := hid hm2;have HLT2 : Hid (w.heap.size < w2.heap.size) := Nat.lt_of_lt_of_le HLT.out hw2.kept.size;have HWH := HWL;have HBH := HBL;have HLT5 := HLT2;have HHA := hid (hand_any hm2 (c : Int) (q : Int) (f : Int));rw [HGV.out] at HHA;clear hw2 hm2)
     | (go_at_call 92;(with_reducible refine HHA.out.mono ?_);rintro e w5 ⟨rv,c5,rfl,hv,hw5,hm5⟩;obtain ⟨A5,n5,k5,rfl,hv2⟩ := hv;have HV5 : Hid (ResV w5 _ c5 _ _) := ⟨A5,n5,k5,rfl,hv2⟩;have HW5 := hid (HWH.out.trans hw5);have HX5 := hid hm5;have HB5 := hid (Went.blk hw5 HBH.out.1 HBH.out.2);clear hv2 hw5 hm5)
     | (refine wpList_store_row rfl 27 _ _ rfl w.heap.size #[.int .i64 0,.int .i64 (q : Int),.int .i64 (j : Int),.slice A5 n5 k5] rfl rfl _ _ HB5.out.1 MdC.res_size rfl (by simp [Value.oneCell']) ?_))
    obtain ⟨f1,f2⟩ := fin_r HW5.out HX5.out HB5.out.1 HB5.out.2 (Nat.le_refl _) HV5.out HLT5.out
    refine MdC.ret_res (g := w.heap.size) rfl rfl f1 rfl ?_
    rw [HGD.out] at f2
    exact f2
   ·exact bad 8 p (by decide) rfl hf
   ·exact bad 9 p' (by decide) hgo.X hf
theorem held_none (i : Inv p) {cc hh : Int} (h0 : p.X.held cc hh < 0) : p.A.find ((hs p.X).page cc hh) = -1 := by
 rw [RgH.hs_page]
 have e : p.X.held cc hh = -1 := by
  rcases MdM.held_cases i.gx cc hh with e | ⟨k,j,q,_,_,_,_,e,_⟩
  ·exact e
  ·omega
 rw [e]
 exact find_neg i
theorem hand_bad {o : MdOp} {F : Nat → Re × Md} (hr : p.X.run (c : Int) o = p.X.onHand (c : Int) o.h F) (h0 : p.X.held (c : Int) o.h < 0) : p.run (c : Int) o = (MdM.err 5,p) :=
 run_bad (by decide) (hr.trans (by unfold Md.onHand;rw [if_pos h0]))
set_option maxRecDepth 100000 in
theorem unpin_any {o : MdOp} (x : MP w col ν p) (i : Inv p) (hc : c < p.X.N) (ho : o.k = 5) :
  Calls Tryz.prog 44 #[.pointer (some ⟨ν.r,0,none⟩),.int .i64 (c : Int),.int .i64 o.h] w (CodePost ν w col (p.run (c : Int) o)) := by
 have hr : p.X.run (c : Int) o = p.X.onHand (c : Int) o.h fun _ => (MdM.err 0,p.X.putH (c : Int).toNat o.h.toNat (-1)) := by
  unfold Md.run
  rw [if_neg (by rw [ho];omega),if_neg (by rw [ho];decide),if_neg (by rw [ho];decide),if_neg (by rw [ho];decide),if_neg (by rw [ho];decide),if_pos ho]
 have HX := hid x
 have HFR := hid (frame_any x (c : Int) o.h)
 unfold CodePost
 by_cases h0 : p.X.held (c : Int) o.h < 0
 ·have E := hid (hand_bad hr h0)
  rw [E.out]
  rw [held_none i h0] at HFR
  clear x i hc ho hr h0 E
  go_enter Tryz.func44,Tryz.ntmps44
  go_wp2_with (go_at_call 95;(with_reducible refine HFR.out.mono ?_);rintro e w1 ⟨rfl,hg⟩;obtain ⟨cw,hww,hmw⟩ := HX.out.grow' hg;have HW1 := hid hww;have HM1 := hid hmw;clear hg hww hmw)
  go_ret
  exact ⟨rfl,cw,HW1.out,HM1.out⟩
 ·obtain ⟨k',j,q,f,e1,e2,hk',hj,e3,e4,hq,hT,hf,hs',hp,hfd,hpos⟩ := RfX.held_frame i h0
  have hrun : p.X.run (c : Int) o = (MdM.err 0,p.X.putH (c : Int).toNat o.h.toNat (-1)) := by rw [hr];unfold Md.onHand;rw [if_neg h0]
  have hact : p.act (c : Int) o (p.X.run (c : Int) o).1 = ((-1,0),⟨p.X,p.D,p.A.unpin (f : Int),p.L⟩) := by
   unfold Pl.act
   rw [if_neg (by rw [ho];decide),if_neg (by rw [ho];decide),if_neg (by rw [ho];decide),if_neg (by rw [ho];decide),if_pos ho,e3,hfd]
  have E : Hid (p.run (c : Int) o = (MdM.err 0,⟨p.X.putH (c : Int).toNat o.h.toNat (-1),p.D,p.A.unpin (f : Int),p.L⟩)) := by
   unfold Hid
   rw [RfX.run_ok (by rw [hrun];rfl),hact,RfX.fin_ok rfl,hrun]
   dsimp only
   rw [if_neg (by decide)]
  have hfr : p.A.find ((hs p.X).page (c : Int) o.h) = (f : Int) := by rw [RgH.hs_page,e3,hfd]
  have hpn : (p.A.F f).pn = (p.X.pins (q : Int) : Int) := (i.use f q hf hs' hp (by simp)).2.1
  have huc : p.A.unpinC (f : Int) = 0 := by
   unfold Ar.unpinC
   rw [if_pos (ArM.used_iff.2 ⟨f,rfl,hf,hs'⟩),Int.toNat_natCast,if_neg (by omega)]
  have hbk : (hs p.X).back (c : Int) o.h = hs (p.X.putH (c : Int).toNat o.h.toNat (-1)) := RgH.hs_back (by omega)
  have HBK := hid hbk
  have HUC := hid huc
  have hfb : ((f : Int) == -1) = false := by simp
  rw [hfr] at HFR
  rw [E.out]
  clear x i hc ho hr h0 E hrun hact hfr hpn huc hbk e1 e2 hk' hj e3 e4 hq hT hf hs' hp hfd hpos
  go_enter Tryz.func44,Tryz.ntmps44
  go_wp2_with (first
   | (go_at_call 95;(with_reducible refine HFR.out.mono ?_);rintro e w1 ⟨rfl,hg⟩;obtain ⟨cw,hww,hmw⟩ := HX.out.grow' hg;have HW1 := hid hww;have HM1 := hid hmw;have d2 := hmw.c2;have HBA := hid (HdO.back_any hmw.hand (c : Int) o.h);clear hg hww hmw)
   | (go_at_call 99;(with_reducible refine HBA.out.mono ?_);rintro e w2 ⟨rfl,ha,hk⟩;obtain ⟨c2,hw2,hm2⟩ := HM1.out.setH ha hk;have HW2 := hid (HW1.out.trans hw2);have d1 := hm2.c1;have HUN := hid (ArD.unpin_any hm2.arena (f : Int));rw [HUC.out] at HUN;have HM2 := hid hm2;clear ha hk hw2 hm2 d2)
   | (go_at_call 100;(with_reducible refine HUN.out.mono ?_);rintro e w3 ⟨rfl,ha,hk⟩;obtain ⟨c3,hw3,hm3⟩ := HM2.out.setA ha hk;have HW3 := hid (HW2.out.trans hw3);have HM3 := hid hm3;clear ha hk hw3 hm3 d1))
  go_ret
  have h3 := HM3.out
  rw [HBK.out] at h3
  exact ⟨rfl,c3,HW3.out,h3⟩
theorem drop_neg : p.A.drop (-1) = p.A ∧ outL p.L (-1) = p.L := by
 constructor
 ·unfold Ar.drop Ar.dropC Ar.used
  simp
 ·unfold outL okO
  simp
set_option maxRecDepth 100000 in
theorem remove_any {o : MdOp} (x : MP w col ν p) (i : Inv p) (ft : Fit ν p) (hc : c < p.X.N) (ho : o.k = 8) :
  Calls Tryz.prog 47 #[.pointer (some ⟨ν.r,0,none⟩),.int .i64 o.p] w (CodePost ν w col (p.run (c : Int) o)) := by
 have hr : p.X.run (c : Int) o = p.X.onPage o.p p.X.del := by
  unfold Md.run
  rw [if_neg (by rw [ho];omega),if_neg (by rw [ho];decide),if_neg (by rw [ho];decide),if_neg (by rw [ho];decide),if_neg (by rw [ho];decide),if_neg (by rw [ho];decide),if_neg (by rw [ho];decide),if_neg (by rw [ho];decide)]
 have HX := hid x
 have hn48 := i.gx.n.2
 have HFI := hid (find_any x o.p (by rw [ft.n];exact hn48))
 have c2 := x.c2
 unfold CodePost
 rcases page_cases p.X o.p p.X.del with ⟨hz,hpg⟩ | ⟨q,hoq,hqn,hT,hz,hpg⟩
 ·have E := hid (run_bad hz (hr.trans hpg))
  rw [E.out]
  rw [ft.n] at HFI
  have hzb : (findC p.X.n p.X.T o.p != 0) = true := by simpa using hz
  show Calls _ _ _ _ (Post ν w col (.int .i64 (findC p.X.n p.X.T o.p)) _ _ _ _ _)
  clear x i ft hc ho hr E hn48 hz hpg
  generalize findC p.X.n p.X.T o.p = z at *
  go_enter Tryz.func47,Tryz.ntmps47
  go_wp2_with (go_at_call 93;(with_reducible refine HFI.out.mono ?_);rintro e w1 ⟨rfl,rfl⟩)
  go_ret
  exact ⟨rfl,col,Went.refl _ _,HX.out⟩
 ·rw [ft.n,hz] at HFI
  have HPI := hid (HdO.pins_any x.hand o.p)
  rw [hoq,RgH.hs_pins] at HPI
  rw [hoq] at HFI ⊢
  by_cases hpin : 0 < p.X.pins (q : Int)
  ·have hnw : p.X.del q = (MdM.err 7,p.X) := by unfold Md.del;rw [if_pos hpin]
   have E := hid (run_bad (by decide) (hr.trans (hpg.trans hnw)))
   rw [E.out]
   have hpb : (p.X.pins (q : Int) : Int) > 0 := by omega
   clear x i ft hc ho hr E hn48 hz hpg hnw hpin hoq hqn hT
   generalize p.X.pins (q : Int) = m at *
   go_enter Tryz.func47,Tryz.ntmps47
   go_wp2_with (first
    | (go_at_call 93;(with_reducible refine HFI.out.mono ?_);rintro e w1 ⟨rfl,rfl⟩)
    | (go_at_call 106;(with_reducible refine HPI.out.mono ?_);rintro e w1 ⟨rfl,rfl⟩))
   go_ret
   exact ⟨rfl,col,Went.refl _ _,HX.out⟩
  ·have hp0 : p.X.pins (q : Int) = 0 := by omega
   rw [hp0] at HPI
   have hnw : p.X.del q = (MdM.err 0,p.X.putT q false) := by unfold Md.del;rw [if_neg hpin]
   have hrr := hr.trans (hpg.trans hnw)
   have hact : p.act (c : Int) o (p.X.run (c : Int) o).1 = ((-1,0),⟨p.X,p.D,p.A.drop (p.A.find (q : Int)),outL p.L (p.A.find (q : Int))⟩) := by
    unfold Pl.act
    rw [if_neg (by rw [ho];decide),if_neg (by rw [ho];decide),if_neg (by rw [ho];decide),if_neg (by rw [ho];decide),if_neg (by rw [ho];decide),if_neg (by rw [ho];decide),if_neg (by rw [ho];decide),hoq]
    rcases ArM.find_cases p.A (q : Int) with ⟨e,_⟩ | ⟨f,_,_,_,e⟩
    ·rw [e,drop_neg.1,drop_neg.2];rfl
    ·rw [e,if_pos (by omega),Int.toNat_natCast];rfl
   have E : Hid (p.run (c : Int) o = (MdM.err 0,⟨p.X.putT q false,p.D,p.A.drop (p.A.find (q : Int)),outL p.L (p.A.find (q : Int))⟩)) := by
    unfold Hid
    rw [RfX.run_ok (by rw [hrr];rfl),hact,RfX.fin_ok rfl,hrr]
    dsimp only
    rw [if_neg (by decide)]
   rw [E.out]
   have c1 := x.c1
   have HFA := hid (ArD.find_any x.arena (q : Int))
   have HDR := hid (drop_any x (p.A.find (q : Int)))
   have HQ : Hid (q < ν.n) := by show q < ν.n;rw [ft.n];exact hqn
   have hqz : (q : Int) < (ν.n : Int) := by rw [ft.n];omega
   clear x i ft hc ho hr E hn48 hz hpg hnw hpin hoq hqn hT hrr hact hp0
   generalize p.A.find (q : Int) = ff at *
   go_enter Tryz.func47,Tryz.ntmps47
   go_upto_region 7 with (first
    | (go_at_call 93;(with_reducible refine HFI.out.mono ?_);rintro e w1 ⟨rfl,rfl⟩)
    | (go_at_call 106;(with_reducible refine HPI.out.mono ?_);rintro e w1 ⟨rfl,rfl⟩)
    | (go_at_call 102;(with_reducible refine HFA.out.mono ?_);rintro e w1 ⟨rfl,rfl⟩)
    | (go_at_call 107;(with_reducible refine HDR.out.mono ?_);rintro e w2 ⟨rfl,c2',hw2,hm2⟩;have HW2 := hid hw2;have HM2 := hid hm2;have d4 := hm2.c4;have t3 := hm2.th.cell HQ.out;have z3 := hm2.th.frozen q;clear hw2 hm2))
   unfold tcell at t3
   clear c1 c2
   go_wp2
   obtain ⟨c3,hw3,hm3⟩ := HM2.out.setT q false
   go_ret
   exact ⟨rfl,c3,HW2.out.trans hw3,hm3⟩
theorem sync_is (i : Inv p) : p.sync.1 = 0 ∨ p.sync.1 = 9 := by
 rcases RfM.acc_cases i.dn with ⟨h,_⟩ | ⟨h,_⟩
 ·exact .inl h
 ·exact .inr h
theorem flush_is (q : Int) : (p.flush q).1 = (if 0 ≤ p.A.find q then saveC p (p.A.find q).toNat else 0) ∧ (p.flush q).2 = if 0 ≤ p.A.find q then saveS p (p.A.find q).toNat else p := by
 unfold Pl.flush saveC saveS
 by_cases h : 0 ≤ p.A.find q
 ·by_cases hd : (p.A.F (p.A.find q).toNat).di = true
  ·simp [h,hd]
  ·simp [h,hd]
 ·simp [h]
theorem save_page (x : MAt w col ν p.D p.A p.L H T) (i : Inv p) (q : Int) (hl : Bnd p.D k) (hk : k ≤ 1000000) :
  Calls Tryz.prog 101 #[.pointer (some ⟨ν.r,0,none⟩),.int .i64 (p.A.find q)] w (Post ν w col (.int .i64 (p.flush q).1) (p.flush q).2.D (p.flush q).2.A (p.flush q).2.L H T) := by
 obtain ⟨h1,h2⟩ := flush_is (p := p) q
 rw [h1,h2]
 rcases ArM.find_cases p.A q with ⟨e,_⟩ | ⟨f,hf,hs',hp,e⟩
 ·rw [e,if_neg (by decide),if_neg (by decide)]
  exact (save_none ν.r w).mono fun e w' ⟨he,hw⟩ => ⟨he,col,hw ▸ Went.refl _ _,hw ▸ x⟩
 ·rw [e,if_pos (by omega),if_pos (by omega),Int.toNat_natCast]
  exact save_any x i hf (bytes_of i hf hs') hl hk
theorem dsync_at (x : MAt w col ν p.D p.A p.L H T) (hl : Bnd p.D k) (hk : k ≤ 1000000) : Calls Tryz.prog 104 #[.pointer (some ⟨ν.d,0,none⟩)] w (Post ν w col (.int .i64 p.sync.1) p.sync.2.D p.sync.2.A p.sync.2.L H T) :=
 (Plays.dsync_any x.dev (by have := hl.1;omega) (by have := hl.2;omega)).mono fun e w' ⟨he,hd,hk⟩ => ⟨he,x.setD hd hk⟩
theorem sync_run {o : MdOp} {y : Int × Pl} (hr : p.X.run (c : Int) o = (MdM.err 0,p.X)) (hact : p.act (c : Int) o (p.X.run (c : Int) o).1 = Pl.synced y) (hX : y.2.X = p.X) :
  p.run (c : Int) o = if y.1 = 0 then (if y.2.sync.1 = 0 then (MdM.err 0,y.2.sync.2) else (MdM.err y.2.sync.1,y.2.sync.2)) else (MdM.err y.1,y.2) := by
 rw [RfX.run_ok (by rw [hr];rfl),hact]
 unfold Pl.synced
 by_cases h1 : y.1 = 0
 ·rw [if_pos h1,if_pos h1]
  by_cases h2 : y.2.sync.1 = 0
  ·rw [if_pos h2,RfX.fin_ok h2,hr]
   dsimp only
   rw [if_neg (by decide),← hX]
   rfl
  ·rw [if_neg h2,RfX.fin_bad h2]
 ·rw [if_neg h1,if_neg h1,RfX.fin_bad h1]
set_option maxRecDepth 100000 in
theorem flush_any {o : MdOp} (x : MP w col ν p) (i : Inv p) (ft : Fit ν p) (hc : c < p.X.N) (ho : o.k = 6) (hl : Bnd p.D k) (hk : k ≤ 100000) :
  Calls Tryz.prog 45 #[.pointer (some ⟨ν.r,0,none⟩),.int .i64 o.p] w (CodePost ν w col (p.run (c : Int) o)) := by
 have hr : p.X.run (c : Int) o = p.X.onPage o.p fun _ => (MdM.err 0,p.X) := by
  unfold Md.run
  rw [if_neg (by rw [ho];omega),if_neg (by rw [ho];decide),if_neg (by rw [ho];decide),if_neg (by rw [ho];decide),if_neg (by rw [ho];decide),if_neg (by rw [ho];decide),if_pos ho]
 have HX := hid x
 have hn48 := i.gx.n.2
 have HFI := hid (find_any x o.p (by rw [ft.n];exact hn48))
 have c1 := x.c1
 unfold CodePost
 rcases page_cases p.X o.p (fun _ => (MdM.err 0,p.X)) with ⟨hz,hpg⟩ | ⟨q,hoq,hqn,hT,hz,hpg⟩
 ·have E := hid (run_bad hz (hr.trans hpg))
  rw [E.out]
  rw [ft.n] at HFI
  have hzb : (findC p.X.n p.X.T o.p != 0) = true := by simpa using hz
  show Calls _ _ _ _ (Post ν w col (.int .i64 (findC p.X.n p.X.T o.p)) _ _ _ _ _)
  clear x i ft hc ho hr E hn48 hz hpg hl hk
  generalize findC p.X.n p.X.T o.p = z at *
  go_enter Tryz.func45,Tryz.ntmps45
  go_wp2_with (go_at_call 93;(with_reducible refine HFI.out.mono ?_);rintro e w1 ⟨rfl,rfl⟩)
  go_ret
  exact ⟨rfl,col,Went.refl _ _,HX.out⟩
 ·rw [ft.n,hz] at HFI
  have hact : p.act (c : Int) o (p.X.run (c : Int) o).1 = Pl.synced (p.flush (q : Int)) := by
   unfold Pl.act
   rw [if_neg (by rw [ho];decide),if_neg (by rw [ho];decide),if_neg (by rw [ho];decide),if_neg (by rw [ho];decide),if_neg (by rw [ho];decide),if_pos ho,hoq]
  have E0 := sync_run (hr.trans hpg) hact (RfF.flush_spec i q).1.X
  have hX1 := (RfF.flush_spec i q).1.X
  have i1 := (RfF.flush_spec i q).2.1
  have HFA := hid (ArD.find_any x.arena (q : Int))
  have HSA := hid (save_page x i (q : Int) hl (by omega))
  have CS : Hid (∀ wx cx,MAt wx cx ν (p.flush (q : Int)).2.D (p.flush (q : Int)).2.A (p.flush (q : Int)).2.L (hs p.X) p.X.T → Calls Tryz.prog 104 #[.pointer (some ⟨ν.d,0,none⟩)] wx (Post ν wx cx (.int .i64 (p.flush (q : Int)).2.sync.1) (p.flush (q : Int)).2.sync.2.D (p.flush (q : Int)).2.sync.2.A (p.flush (q : Int)).2.sync.2.L (hs p.X) p.X.T)) := fun wx cx y => dsync_at y (hl.flush (q : Int)) (by omega)
  have his := sync_is i1
  rw [hoq] at HFI ⊢
  generalize p.flush (q : Int) = y at *
  generalize p.A.find (q : Int) = ff at *
  by_cases h1 : y.1 = 0
  ·rw [if_pos h1] at E0
   rw [h1] at HSA
   generalize hsy : y.2.sync = s at *
   have hX2 : s.2.X = p.X := by rw [← hsy];exact hX1
   rcases his with h2 | h2
   ·rw [if_pos h2] at E0
    have E := hid E0
    rw [h2] at CS
    rw [E.out,hX2]
    clear x i ft hc ho hr E E0 hn48 hz hpg hl hk hact hX1 i1 h1 h2 hX2 hsy hoq hqn hT
    go_enter Tryz.func45,Tryz.ntmps45
    go_wp2_with (first
     | (go_at_call 93;(with_reducible refine HFI.out.mono ?_);rintro e w1 ⟨rfl,rfl⟩)
     | (go_at_call 102;(with_reducible refine HFA.out.mono ?_);rintro e w1 ⟨rfl,rfl⟩)
     | (go_at_call 101;(with_reducible refine HSA.out.mono ?_);rintro e w2 ⟨rfl,c2',hw2,hm2⟩;have HW2 := hid hw2;have d0 := hm2.c0;have HSY := hid (CS.out w2 c2' hm2);clear hw2 hm2)
     | (go_at_call 104;(with_reducible refine HSY.out.mono ?_);rintro e w3 ⟨rfl,c3,hw3,hm3⟩;have HW3 := hid (HW2.out.trans hw3);have HM3 := hid hm3;clear hw3 hm3 d0)
     | (go_at_call 103;(with_reducible refine (heard0 _).mono ?_);rintro e w4 ⟨rfl,rfl⟩))
    go_ret
    exact ⟨rfl,c3,HW3.out,HM3.out⟩
   ·rw [if_neg (by rw [h2];decide),h2] at E0
    have E := hid E0
    rw [h2] at CS
    rw [E.out,hX2]
    clear x i ft hc ho hr E E0 hn48 hz hpg hl hk hact hX1 i1 h1 h2 hX2 hsy hoq hqn hT
    go_enter Tryz.func45,Tryz.ntmps45
    go_wp2_with (first
     | (go_at_call 93;(with_reducible refine HFI.out.mono ?_);rintro e w1 ⟨rfl,rfl⟩)
     | (go_at_call 102;(with_reducible refine HFA.out.mono ?_);rintro e w1 ⟨rfl,rfl⟩)
     | (go_at_call 101;(with_reducible refine HSA.out.mono ?_);rintro e w2 ⟨rfl,c2',hw2,hm2⟩;have HW2 := hid hw2;have d0 := hm2.c0;have HSY := hid (CS.out w2 c2' hm2);clear hw2 hm2)
     | (go_at_call 104;(with_reducible refine HSY.out.mono ?_);rintro e w3 ⟨rfl,c3,hw3,hm3⟩;have HW3 := hid (HW2.out.trans hw3);have HM3 := hid hm3;clear hw3 hm3 d0)
     | (go_at_call 103;(with_reducible refine (heard9 _).mono ?_);rintro e w4 ⟨rfl,rfl⟩))
    go_ret
    exact ⟨rfl,c3,HW3.out,HM3.out⟩
  ·rw [if_neg h1] at E0
   have E := hid E0
   rw [E.out,hX1]
   have hzb : (y.1 != 0) = true := by simpa using h1
   show Calls _ _ _ _ (Post ν w col (.int .i64 y.1) _ _ _ _ _)
   clear x i ft hc ho hr E E0 hn48 hz hpg hl hk hact hX1 i1 h1 hoq hqn hT CS his
   generalize y.1 = z at *
   go_enter Tryz.func45,Tryz.ntmps45
   go_wp2_with (first
    | (go_at_call 93;(with_reducible refine HFI.out.mono ?_);rintro e w1 ⟨rfl,rfl⟩)
    | (go_at_call 102;(with_reducible refine HFA.out.mono ?_);rintro e w1 ⟨rfl,rfl⟩)
    | (go_at_call 101;(with_reducible refine HSA.out.mono ?_);rintro e w2 ⟨rfl,c2',hw2,hm2⟩;have HW2 := hid hw2;have HM2 := hid hm2;clear hw2 hm2))
   go_ret
   exact ⟨rfl,c2',HW2.out,HM2.out⟩
end
end RgG
namespace RgJ
open Go.ChangeShapes Go.WideShapes Go.ChangeAt Go.RowKit
open Mem Blk Cells Orow RfP RgP RgS RgA RgB RgC RgO RgD RgE RgF RgG Stages
open ArM (Ar Fr fUsed fFree)
open ArC (ArAt FR)
open Dev (Dv DevAt)
open ListM (outL frontL okO okF)
open HdM (Hs)
open RgH (hs)
open MdM (Md MdOp Re)
open RfM (Pl)
open RfI (InvE Inv)
open RgM (Bnd saveC saveS)
section
variable {w w' : World} {col col' : Nat → Nat} {ν : Nm} {S : Dv} {A : Ar} {L : List Nat} {H : Hs} {T : Nat → Bool} {p : Pl} {h : Option Nat} {f q k n b c g dl dc : Nat} {D : Option Addr}
theorem read_res {gb cb a m b : Nat} {zs : List Int} (h : OR w gb 5 1 cb 16 (ArB.bcell zs)) (hl : zs.length = 16) (hb : b < gb) (hc : col gb = 0) (P : Addr) (cc : Nat) (hP : m = 0 ∨ (P = ⟨gb,a,none⟩ ∧ a + m ≤ 16)) (hPb : P.block = gb) :
  ResV w (b + 1) col (.agg #[.int .i64 0,.int .i64 0,.int .i64 0,.slice (some P) m cc]) ⟨0,0,0,(zs.drop a).take m⟩ := by
 refine ⟨some P,m,cc,rfl,?_,fun y ey _ => ?_,fun _ y ey j => ?_⟩
 ·rcases hP with rfl | ⟨rfl,hm⟩
  ·rw [List.take_zero];exact Sl.nil _ _ _ _
  ·refine ⟨by rw [List.length_take,List.length_drop,hl];omega,fun _ => ⟨gb,a,rfl,h.lt,fun j hj => ?_⟩⟩
   rw [h.cell (by omega)]
   unfold ArB.bcell
   simp [List.getD_eq_getElem?_getD,hj,List.getElem?_drop]
 ·injection ey with ey
  subst ey
  rw [hPb]
  exact ⟨hb,.inl (by rw [hc];decide)⟩
 ·injection ey with ey
  subst ey
  rw [hPb]
  exact h.frozen j
set_option maxRecDepth 100000 in
set_option maxHeartbeats 2000000 in
theorem read_any {o : MdOp} (x : MP w col ν p) (i : Inv p) (ft : Fit ν p) (hc : c < p.X.N) (ho : o.k = 3) (h63 : o.o ≤ 9223372036854775807) :
  Calls Tryz.prog 42 #[.pointer (some ⟨ν.r,0,none⟩),.int .i64 (c : Int),.agg #[.int .i64 o.k,.int .i64 o.p,.int .i64 o.h,.int .i64 o.o,.int .i64 o.n,.slice D dl dc]] w (RunPost ν w col (p.run (c : Int) o)) := by
 have hr : p.X.run (c : Int) o = p.X.onHand (c : Int) o.h (p.X.read o.o o.n) := by
  unfold Md.run
  rw [if_neg (by rw [ho];omega),if_neg (by rw [ho];decide),if_neg (by rw [ho];decide),if_pos ho]
 have hb5 := Blk.new w 30 [.int .i64 o.k,.int .i64 o.p,.int .i64 o.h,.int .i64 o.o,.int .i64 o.n,.slice D dl dc]
 have hb6 := Blk.new (w.alloc (.cells #[.int .i64 o.k,.int .i64 o.p,.int .i64 o.h,.int .i64 o.o,.int .i64 o.n,.slice D dl dc] 30)) 27 [.int .i64 0,.int .i64 0,.int .i64 0,.slice none 0 0]
 have hs5 : (w.alloc (.cells #[.int .i64 o.k,.int .i64 o.p,.int .i64 o.h,.int .i64 o.o,.int .i64 o.n,.slice D dl dc] 30)).heap.size = w.heap.size + 1 := by simp
 rw [hs5] at hb6
 have hb5 := hb5.alloc (.cells #[.int .i64 0,.int .i64 0,.int .i64 0,.slice none 0 0] 27)
 have hg : Grow w ((w.alloc (.cells #[.int .i64 o.k,.int .i64 o.p,.int .i64 o.h,.int .i64 o.o,.int .i64 o.n,.slice D dl dc] 30)).alloc (.cells #[.int .i64 0,.int .i64 0,.int .i64 0,.slice none 0 0] 27)) := ((Kept.refl _ _).alloc _).alloc _
 have hx := x.grow hg
 have HX := hid hx
 have HW := hid (Went.grow (col := col) hg)
 have HC5 : Hid (paint w.heap.size 0 col w.heap.size < 6 ∨ 11 < paint w.heap.size 0 col w.heap.size) := .inl (by rw [paint_new (Nat.le_refl _)];decide)
 have HC : Hid (paint w.heap.size 0 col (w.heap.size + 1) < 6 ∨ 11 < paint w.heap.size 0 col (w.heap.size + 1)) := .inl (by rw [paint_new (Nat.le_succ _)];decide)
 have HB := hid hb6
 have HB5 := hid hb5
 have o2 := hb5.cell 2
 have o3 := hb5.cell 3
 have o4 := hb5.cell 4
 simp only [List.getElem?_cons_succ,List.getElem?_cons_zero] at o2 o3 o4
 have HFR := hid (frame_any hx (c : Int) o.h)
 have HLT : Hid (w.heap.size + 1 < ((w.alloc (.cells #[.int .i64 o.k,.int .i64 o.p,.int .i64 o.h,.int .i64 o.o,.int .i64 o.n,.slice D dl dc] 30)).alloc (.cells #[.int .i64 0,.int .i64 0,.int .i64 0,.slice none 0 0] 27)).heap.size) := hb6.lt
 have HS5 := hid hs5
 unfold RunPost
 by_cases h0 : p.X.held (c : Int) o.h < 0
 ·have E := hid (hand_bad hr h0)
  rw [E.out]
  rw [held_none i h0] at HFR
  clear x i ft hc ho hr hb5 hb6 hg hx h0 hs5 E h63
  go_enter Tryz.func42,Tryz.ntmps42
  go_upto_region 1 with (fail)
  rw [HS5.out] at *
  generalize ((w.alloc (.cells #[.int .i64 o.k,.int .i64 o.p,.int .i64 o.h,.int .i64 o.o,.int .i64 o.n,.slice D dl dc] 30)).alloc (.cells #[.int .i64 0,.int .i64 0,.int .i64 0,.slice none 0 0] 27)) = w0 at *
  generalize paint w.heap.size 0 col = c0 at *
  go_wp2_with (first
   | (go_at_call 95;(with_reducible refine HFR.out.mono ?_);rintro e w1 ⟨rfl,hg⟩;have HWL := hid (HW.out.trans (Went.grow hg));have HXL := hid (HX.out.grow hg);have HBL := hid (Went.blk (Went.grow hg) HB.out HC.out);have HB5L := hid (Went.blk (Went.grow hg) HB5.out HC5.out);have o3 := hg.cellN o3 id;have o4 := hg.cellN o4 id;have HLT1 : Hid (w.heap.size + 1 < w1.heap.size) := Nat.lt_of_lt_of_le HLT.out hg.size;clear hg o2)
   | (go_at_call 39;(with_reducible refine (code_any _ _).mono ?_);rintro e wz ⟨rfl,hg⟩;have HG := hid hg;have HWZ := hid (HWL.out.trans (Went.grow hg));have HXZ := hid (HXL.out.grow hg);have HBZ := hid (Went.blk (Went.grow hg) HBL.out.1 HBL.out.2);clear hg)
   | (refine wpList_store_row rfl 27 _ _ rfl (w.heap.size + 1) #[.int .i64 5,.int .i64 0,.int .i64 0,.slice none 0 0] rfl rfl _ _ HBZ.out.1 MdC.res_size rfl (by simp [Value.oneCell']) ?_))
  obtain ⟨f1,f2⟩ := fin_r HWZ.out HXZ.out HBZ.out.1 HBZ.out.2 (Nat.le_succ _) (resv_none _ (w.heap.size + 1 + 1) _ 5 0 0) (Nat.lt_succ_self _)
  exact MdC.ret_res (g := w.heap.size + 1) rfl rfl f1 rfl f2
 ·obtain ⟨k',j,q,f,e1,e2,hk',hj,e3,e4,hq,hT,hf,hs',hp,hfd,hpos⟩ := RfX.held_frame i h0
  have hh : p.X.onHand (c : Int) o.h (p.X.read o.o o.n) = p.X.read o.o o.n q := by unfold Md.onHand;rw [if_neg h0,e3,Int.toNat_natCast]
  have hfr : p.A.find ((hs p.X).page (c : Int) o.h) = (f : Int) := by rw [RgH.hs_page,e3,hfd]
  have hfb : ((f : Int) == -1) = false := by simp
  rw [hfr] at HFR
  by_cases hbad : o.o < 0 ∨ o.n < 0 ∨ 16 - o.o < o.n
  ·have hm : p.X.read o.o o.n q = (MdM.err 6,p.X) := by unfold Md.read;rw [if_pos (by omega)]
   have E := hid (run_bad (by decide) (hr.trans (hh.trans hm)))
   rw [E.out]
   clear x i ft hc ho hr hb5 hb6 hg hx h0 hs5 E hh hfr e1 e2 hk' hj e3 e4 hq hT hf hs' hp hfd hpos hm
   by_cases n1 : o.o < 0
   ·clear hbad
    go_enter Tryz.func42,Tryz.ntmps42
    go_upto_region 1 with (fail)
    rw [HS5.out] at *
    generalize ((w.alloc (.cells #[.int .i64 o.k,.int .i64 o.p,.int .i64 o.h,.int .i64 o.o,.int .i64 o.n,.slice D dl dc] 30)).alloc (.cells #[.int .i64 0,.int .i64 0,.int .i64 0,.slice none 0 0] 27)) = w0 at *
    generalize paint w.heap.size 0 col = c0 at *
    go_wp2_with (first
     | (go_at_call 95;(with_reducible refine HFR.out.mono ?_);rintro e w1 ⟨rfl,hg⟩;have HWL := hid (HW.out.trans (Went.grow hg));have HXL := hid (HX.out.grow hg);have HBL := hid (Went.blk (Went.grow hg) HB.out HC.out);have HB5L := hid (Went.blk (Went.grow hg) HB5.out HC5.out);have o3 := hg.cellN o3 id;have o4 := hg.cellN o4 id;have HLT1 : Hid (w.heap.size + 1 < w1.heap.size) := Nat.lt_of_lt_of_le HLT.out hg.size;clear hg o2)
     | (go_at_call 39;(with_reducible refine (code_any _ _).mono ?_);rintro e wz ⟨rfl,hg⟩;have HG := hid hg;have HWZ := hid (HWL.out.trans (Went.grow hg));have HXZ := hid (HXL.out.grow hg);have HBZ := hid (Went.blk (Went.grow hg) HBL.out.1 HBL.out.2);clear hg)
     | (refine wpList_store_row rfl 27 _ _ rfl (w.heap.size + 1) #[.int .i64 6,.int .i64 0,.int .i64 0,.slice none 0 0] rfl rfl _ _ HBZ.out.1 MdC.res_size rfl (by simp [Value.oneCell']) ?_))
    obtain ⟨f1,f2⟩ := fin_r HWZ.out HXZ.out HBZ.out.1 HBZ.out.2 (Nat.le_succ _) (resv_none _ (w.heap.size + 1 + 1) _ 6 0 0) (Nat.lt_succ_self _)
    exact MdC.ret_res (g := w.heap.size + 1) rfl rfl f1 rfl f2
   ·by_cases n2 : o.n < 0
    ·clear hbad
     go_enter Tryz.func42,Tryz.ntmps42
     go_upto_region 1 with (fail)
     rw [HS5.out] at *
     generalize ((w.alloc (.cells #[.int .i64 o.k,.int .i64 o.p,.int .i64 o.h,.int .i64 o.o,.int .i64 o.n,.slice D dl dc] 30)).alloc (.cells #[.int .i64 0,.int .i64 0,.int .i64 0,.slice none 0 0] 27)) = w0 at *
     generalize paint w.heap.size 0 col = c0 at *
     go_wp2_with (first
      | (go_at_call 95;(with_reducible refine HFR.out.mono ?_);rintro e w1 ⟨rfl,hg⟩;have HWL := hid (HW.out.trans (Went.grow hg));have HXL := hid (HX.out.grow hg);have HBL := hid (Went.blk (Went.grow hg) HB.out HC.out);have HB5L := hid (Went.blk (Went.grow hg) HB5.out HC5.out);have o3 := hg.cellN o3 id;have o4 := hg.cellN o4 id;have HLT1 : Hid (w.heap.size + 1 < w1.heap.size) := Nat.lt_of_lt_of_le HLT.out hg.size;clear hg o2)
      | (go_at_call 39;(with_reducible refine (code_any _ _).mono ?_);rintro e wz ⟨rfl,hg⟩;have HG := hid hg;have HWZ := hid (HWL.out.trans (Went.grow hg));have HXZ := hid (HXL.out.grow hg);have HBZ := hid (Went.blk (Went.grow hg) HBL.out.1 HBL.out.2);clear hg)
      | (refine wpList_store_row rfl 27 _ _ rfl (w.heap.size + 1) #[.int .i64 6,.int .i64 0,.int .i64 0,.slice none 0 0] rfl rfl _ _ HBZ.out.1 MdC.res_size rfl (by simp [Value.oneCell']) ?_))
     obtain ⟨f1,f2⟩ := fin_r HWZ.out HXZ.out HBZ.out.1 HBZ.out.2 (Nat.le_succ _) (resv_none _ (w.heap.size + 1 + 1) _ 6 0 0) (Nat.lt_succ_self _)
     exact MdC.ret_res (g := w.heap.size + 1) rfl rfl f1 rfl f2
    ·have n3 : 16 - o.o < o.n := by omega
     clear hbad
     go_enter Tryz.func42,Tryz.ntmps42
     go_upto_region 1 with (fail)
     rw [HS5.out] at *
     generalize ((w.alloc (.cells #[.int .i64 o.k,.int .i64 o.p,.int .i64 o.h,.int .i64 o.o,.int .i64 o.n,.slice D dl dc] 30)).alloc (.cells #[.int .i64 0,.int .i64 0,.int .i64 0,.slice none 0 0] 27)) = w0 at *
     generalize paint w.heap.size 0 col = c0 at *
     go_wp2_with (first
      | (go_at_call 95;(with_reducible refine HFR.out.mono ?_);rintro e w1 ⟨rfl,hg⟩;have HWL := hid (HW.out.trans (Went.grow hg));have HXL := hid (HX.out.grow hg);have HBL := hid (Went.blk (Went.grow hg) HB.out HC.out);have HB5L := hid (Went.blk (Went.grow hg) HB5.out HC5.out);have o3 := hg.cellN o3 id;have o4 := hg.cellN o4 id;have HLT1 : Hid (w.heap.size + 1 < w1.heap.size) := Nat.lt_of_lt_of_le HLT.out hg.size;clear hg o2)
      | (go_at_call 39;(with_reducible refine (code_any _ _).mono ?_);rintro e wz ⟨rfl,hg⟩;have HG := hid hg;have HWZ := hid (HWL.out.trans (Went.grow hg));have HXZ := hid (HXL.out.grow hg);have HBZ := hid (Went.blk (Went.grow hg) HBL.out.1 HBL.out.2);clear hg)
      | (refine wpList_store_row rfl 27 _ _ rfl (w.heap.size + 1) #[.int .i64 6,.int .i64 0,.int .i64 0,.slice none 0 0] rfl rfl _ _ HBZ.out.1 MdC.res_size rfl (by simp [Value.oneCell']) ?_))
     obtain ⟨f1,f2⟩ := fin_r HWZ.out HXZ.out HBZ.out.1 HBZ.out.2 (Nat.le_succ _) (resv_none _ (w.heap.size + 1 + 1) _ 6 0 0) (Nat.lt_succ_self _)
     exact MdC.ret_res (g := w.heap.size + 1) rfl rfl f1 rfl f2
  ·obtain ⟨a,ha⟩ := Int.eq_ofNat_of_zero_le (by omega : 0 ≤ o.o)
   obtain ⟨m,hm⟩ := Int.eq_ofNat_of_zero_le (by omega : 0 ≤ o.n)
   have ham : a + m ≤ 16 := by omega
   have hrd : p.X.read o.o o.n q = (⟨0,0,0,((p.X.B q).drop a).take m⟩,p.X) := by
    unfold Md.read
    rw [if_neg (by omega),ha,hm,Int.toNat_natCast,Int.toNat_natCast]
   have hrr := hr.trans (hh.trans hrd)
   have hB : p.A.B f = p.X.B q := (i.use f q hf hs' hp (by simp)).2.2.1
   have hlen : (p.A.B f).length = 16 := i.ga.b f
   have hact : p.act (c : Int) o (p.X.run (c : Int) o).1 = ((-1,0),p.front (f : Int)) := by
    unfold Pl.act
    rw [if_neg (by rw [ho];decide),if_neg (by rw [ho];decide),if_pos ho,e3,hfd]
   obtain ⟨t1,t2,t3⟩ := touched i hf hs' ft.K
   have E : Hid (p.run (c : Int) o = (⟨0,0,0,((p.A.B f).drop a).take m⟩,⟨p.X,p.D,p.A,frontL ν.K (outL p.L (f : Int)) (f : Int)⟩)) := by
    unfold Hid
    rw [RfX.run_ok (by rw [hrr]),hact,RfX.fin_ok rfl,hrr,hB,t1]
    dsimp only
    rw [if_neg (by decide),t2,t3]
   rw [E.out]
   have HF := hid hf
   have HST := hid hs'
   have HLEN := hid hlen
   have HNC : Hid (ν.r ≠ w.heap.size + 1) := by have := x.own.lt;show _ ≠ _;omega
   have HHA := hid ha
   have HHM := hid hm
   have hamz : ¬ (16 - (a : Int) < (m : Int)) := by omega
   have haz : (a : Int) ≤ 16 := by omega
   have hmz : (m : Int) ≤ 16 := by omega
   have hamz2 : (a : Int) + (m : Int) ≤ 16 := by omega
   clear x i ft hc ho hr hb5 hb6 hg hx h0 hs5 E hh hfr e1 e2 hk' hj e3 e4 hq hT hf hs' hp hfd hpos hm ha hrd hrr hB hlen hact t1 t2 t3 hbad h63
   go_enter Tryz.func42,Tryz.ntmps42
   go_upto_region 1 with (fail)
   rw [HS5.out] at *
   generalize ((w.alloc (.cells #[.int .i64 o.k,.int .i64 o.p,.int .i64 o.h,.int .i64 o.o,.int .i64 o.n,.slice D dl dc] 30)).alloc (.cells #[.int .i64 0,.int .i64 0,.int .i64 0,.slice none 0 0] 27)) = w0 at *
   generalize paint w.heap.size 0 col = c0 at *
   rw [HHA.out] at o3 HB5
   rw [HHM.out] at o4 HB5
   go_upto_region 2 with (go_at_call 95;(with_reducible refine HFR.out.mono ?_);rintro e w1 ⟨rfl,hg⟩;have HWL := hid (HW.out.trans (Went.grow hg));have HXL := hid (HX.out.grow hg);have HBL := hid (Went.blk (Went.grow hg) HB.out HC.out);have HB5L := hid (Went.blk (Went.grow hg) HB5.out HC5.out);have o3 := hg.cellN o3 id;have o4 := hg.cellN o4 id;have HLT1 : Hid (w.heap.size + 1 < w1.heap.size) := Nat.lt_of_lt_of_le HLT.out hg.size;clear hg o2)
   have HTO := hid (touch_any HXL.out (f : Int))
   go_upto_region 7 with (first
    | (go_at_call 96;(with_reducible refine HTO.out.mono ?_);rintro e w2 ⟨rfl,c2,hw2,hm2⟩;have HW2 := hid (HWL.out.trans hw2);have HB2 := hid (Went.blk hw2 HBL.out.1 HBL.out.2);have hb52 := Went.blk hw2 HB5L.out.1 HB5L.out.2;have p3 := hb52.1.cell 3;have p4 := hb52.1.cell 4;simp only [List.getElem?_cons_succ,List.getElem?_cons_zero] at p3 p4;have d1 := hm2.c1;have HLT2 : Hid (w.heap.size + 1 < w2.heap.size) := Nat.lt_of_lt_of_le HLT1.out hw2.kept.size;have HBO := hid (body_at hm2.drew.arena HF.out HST.out);have HM2 := hid hm2;clear hw2 hm2 hb52 o3 o4))
   have u1 := up_cell (F := (· = w.heap.size + 1)) (w := w2.drew) (p := ⟨ν.r,1,none⟩) d1 HNC.out
   have u3 := up_cell (F := (· = w.heap.size + 1)) (w := w2.drew) (p := ⟨w.heap.size,3,none⟩) p3 (fun e => by have e : w.heap.size = w.heap.size + 1 := e;omega)
   have u4 := up_cell (F := (· = w.heap.size + 1)) (w := w2.drew) (p := ⟨w.heap.size,4,none⟩) p4 (fun e => by have e : w.heap.size = w.heap.size + 1 := e;omega)
   refine wp_region_stages (Kept (· = w.heap.size + 1)) (kept_refl _) (kept_trans _) [([0,1,2,3,4,6,7,8,9,10,11,12],5),([13,14],15)] [] (by kernel_rfl) (by kernel_rfl) ?_
   simp only [selSt,sel,ZmC,ZmN,ZgS,ZgZ]
   refine st_cons fun K1 hK1 => ?_
   repeat (go_big_quiet_step (fail))
   refine wpQuiet_nil ?_
   clear u1 u3 u4
   go_wp2_with (go_at_call 97;(with_reducible refine HBO.out.mono ?_);rintro e w3 ⟨gb,cb,rfl,hob,hgb,hg3⟩;have HOB := hid hob;have HGB := hid hgb;have HG3 := hid hg3;clear hob hgb hg3)
   refine norm_up (hK1 _ _ (Grow.kept HG3.out) (st_cons fun K2 hK2 => ?_))
   clear hK1 K1
   have hcb := HOB.out.le.1
   have hcm := HOB.out.le.2
   unfold maxLen at hcm
   repeat (go_big_quiet_step (fail))
   refine wpQuiet_nil ?_
   have HB3 := hid (HB2.out.1.grow ((Kept.drew' w2).trans HG3.out))
   have hW3 := HW2.out.trans ((Went.drew w2 c2).trans (Went.grow HG3.out))
   have hM3 := HM2.out.drew.grow HG3.out
   have HC3 : Hid (paint w2.drew.heap.size 0 c2 (w.heap.size + 1) < 6 ∨ 11 < paint w2.drew.heap.size 0 c2 (w.heap.size + 1)) := by
    have h1 := HB2.out.2
    unfold Hid
    rw [paint_old (show w.heap.size + 1 < w2.drew.heap.size from HLT2.out)]
    exact h1
   have HCG : Hid (paint w2.drew.heap.size 0 c2 gb = 0) := paint_new HGB.out
   have HLTG : Hid (w.heap.size + 1 < gb) := Nat.lt_of_lt_of_le HLT2.out HGB.out
   have HW3 := hid hW3
   have HM3 := hid hM3
   clear hW3 hM3
   generalize paint w2.drew.heap.size 0 c2 = c3 at *
   by_cases hca : cb = a
   ·have hm0 : m = 0 := by omega
    subst hm0
    go_wp2_with (refine wpList_store_row rfl 27 _ _ rfl (w.heap.size + 1) #[.int .i64 0,.int .i64 0,.int .i64 0,_] rfl rfl _ _ HB3.out MdC.res_size rfl (by simp [Value.oneCell']) ?_)
    refine norm_up (hK2 _ _ (set_row HB3.out _).2 (st_nil fun K4 hK4 => wpQuiet_nil (hK4 _ ?_)))
    clear hK2 K2 hK4 K4
    go_wp2
    obtain ⟨f1,f2⟩ := fin_r HW3.out HM3.out HB3.out HC3.out (Nat.le_succ _) (read_res HOB.out HLEN.out HLTG.out HCG.out ⟨gb,0,none⟩ 0 (.inl rfl) rfl) (Nat.lt_succ_self _)
    exact MdC.ret_res (g := w.heap.size + 1) rfl rfl f1 rfl f2
   ·go_wp2_with (refine wpList_store_row rfl 27 _ _ rfl (w.heap.size + 1) #[.int .i64 0,.int .i64 0,.int .i64 0,_] rfl rfl _ _ HB3.out MdC.res_size rfl (by simp [Value.oneCell']) ?_)
    refine norm_up (hK2 _ _ (set_row HB3.out _).2 (st_nil fun K4 hK4 => wpQuiet_nil (hK4 _ ?_)))
    clear hK2 K2 hK4 K4
    go_wp2
    obtain ⟨f1,f2⟩ := fin_r HW3.out HM3.out HB3.out HC3.out (Nat.le_succ _) (read_res HOB.out HLEN.out HLTG.out HCG.out ⟨gb,a,none⟩ (cb - a) (.inr ⟨rfl,ham⟩) rfl) (Nat.lt_succ_self _)
    exact MdC.ret_res (g := w.heap.size + 1) rfl rfl f1 rfl f2
set_option maxRecDepth 100000 in
set_option maxHeartbeats 2000000 in
theorem write_any {o : MdOp} (x : MP w col ν p) (i : Inv p) (ft : Fit ν p) (hc : c < p.X.N) (ho : o.k = 4) (hd : Sl w w.heap.size .u8 D dl o.d) (hdl : dl ≤ 1000000) :
  Calls Tryz.prog 43 #[.pointer (some ⟨ν.r,0,none⟩),.int .i64 (c : Int),.agg #[.int .i64 o.k,.int .i64 o.p,.int .i64 o.h,.int .i64 o.o,.int .i64 o.n,.slice D dl dc]] w (CodePost ν w col (p.run (c : Int) o)) := by
 have hr : p.X.run (c : Int) o = p.X.onHand (c : Int) o.h (p.X.write o.o o.d) := by
  unfold Md.run
  rw [if_neg (by rw [ho];omega),if_neg (by rw [ho];decide),if_neg (by rw [ho];decide),if_neg (by rw [ho];decide),if_pos ho]
 have hb5 := Blk.new w 30 [.int .i64 o.k,.int .i64 o.p,.int .i64 o.h,.int .i64 o.o,.int .i64 o.n,.slice D dl dc]
 have hg : Grow w (w.alloc (.cells #[.int .i64 o.k,.int .i64 o.p,.int .i64 o.h,.int .i64 o.o,.int .i64 o.n,.slice D dl dc] 30)) := (Kept.refl _ _).alloc _
 have hx := x.grow hg
 have HX := hid hx
 have HW := hid (Went.grow (col := col) hg)
 have HC5 : Hid (paint w.heap.size 0 col w.heap.size < 6 ∨ 11 < paint w.heap.size 0 col w.heap.size) := .inl (by rw [paint_new (Nat.le_refl _)];decide)
 have HB5 := hid hb5
 have o2 := hb5.cell 2
 have o3 := hb5.cell 3
 have o5 := hb5.cell 5
 simp only [List.getElem?_cons_succ,List.getElem?_cons_zero] at o2 o3 o5
 have HLT : Hid (w.heap.size < (w.alloc (.cells #[.int .i64 o.k,.int .i64 o.p,.int .i64 o.h,.int .i64 o.o,.int .i64 o.n,.slice D dl dc] 30)).heap.size) := hb5.lt
 have HFR := hid (frame_any hx (c : Int) o.h)
 have HSL : Hid (Sl (w.alloc (.cells #[.int .i64 o.k,.int .i64 o.p,.int .i64 o.h,.int .i64 o.o,.int .i64 o.n,.slice D dl dc] 30)) w.heap.size .u8 D dl o.d) := Sl.kept hd hg (Nat.le_refl _) fun _ _ e => e
 unfold CodePost
 by_cases h0 : p.X.held (c : Int) o.h < 0
 ·have E := hid (hand_bad hr h0)
  rw [E.out]
  rw [held_none i h0] at HFR
  clear x i ft hc ho hr hb5 hg hx h0 hd hdl E
  go_enter Tryz.func43,Tryz.ntmps43
  go_upto_region 1 with (fail)
  generalize (w.alloc (.cells #[.int .i64 o.k,.int .i64 o.p,.int .i64 o.h,.int .i64 o.o,.int .i64 o.n,.slice D dl dc] 30)) = w0 at *
  generalize paint w.heap.size 0 col = c0 at *
  go_wp2_with (go_at_call 95;(with_reducible refine HFR.out.mono ?_);rintro e w1 ⟨rfl,hg⟩;have HW1 := hid (HW.out.trans (Went.grow hg));have HX1 := hid (HX.out.grow hg);clear hg o2)
  go_ret
  exact ⟨rfl,_,HW1.out,HX1.out⟩
 ·obtain ⟨k',j,q,f,e1,e2,hk',hj,e3,e4,hq,hT,hf,hs',hp,hfd,hpos⟩ := RfX.held_frame i h0
  have hh : p.X.onHand (c : Int) o.h (p.X.write o.o o.d) = p.X.write o.o o.d q := by unfold Md.onHand;rw [if_neg h0,e3,Int.toNat_natCast]
  have hfr : p.A.find ((hs p.X).page (c : Int) o.h) = (f : Int) := by rw [RgH.hs_page,e3,hfd]
  have hfb : ((f : Int) == -1) = false := by simp
  have hu : p.A.used (f : Int) = true := ArM.used_iff.2 ⟨f,rfl,hf,hs'⟩
  have HDL := hid hdl
  rw [hfr] at HFR
  by_cases hbad : o.o < 0 ∨ 16 < o.o ∨ 16 - o.o < (o.d.length : Int)
  ·have hm : p.X.write o.o o.d q = (MdM.err 6,p.X) := by unfold Md.write;rw [if_pos hbad]
   have hst : p.A.setC (f : Int) o.o o.d = 6 := by unfold Ar.setC;rw [if_pos hu,if_neg (by omega)]
   have hsa : p.A.set (f : Int) o.o o.d = p.A := by unfold Ar.set;rw [hst];rfl
   have HS := hid (And.intro hst hsa)
   have E := hid (run_bad (by decide) (hr.trans (hh.trans hm)))
   rw [E.out]
   clear x i ft hc ho hr hb5 hg hx h0 hd hdl E hh hfr e1 e2 hk' hj e3 e4 hq hT hf hs' hp hfd hpos hm hst hsa hu hbad
   go_enter Tryz.func43,Tryz.ntmps43
   go_upto_region 1 with (fail)
   generalize (w.alloc (.cells #[.int .i64 o.k,.int .i64 o.p,.int .i64 o.h,.int .i64 o.o,.int .i64 o.n,.slice D dl dc] 30)) = w0 at *
   generalize paint w.heap.size 0 col = c0 at *
   have HB51 : Hid (paint w0.heap.size 0 c0 w.heap.size < 6 ∨ 11 < paint w0.heap.size 0 c0 w.heap.size) := by
    unfold Hid
    rw [paint_old HLT.out]
    exact HC5.out
   go_upto_region 4 with (go_at_call 95;(with_reducible refine HFR.out.mono ?_);rintro e w1 ⟨rfl,hg⟩;have HW1 := hid (HW.out.trans (Went.grow hg));have HX1 := hid (HX.out.grow hg);have d1 := HX1.out.c1;have p3 := hg.cellN o3 id;have p5 := hg.cellN o5 id;have HSL1 := hid ((Sl.kept (Sl.more HSL.out (Nat.le_of_lt HLT.out)) hg (Nat.le_refl _) fun _ _ e => e).more hg.size);clear hg o2)
   clear o3 o5
   generalize paint w0.heap.size 0 c0 = c1 at *
   have HSE := hid (ArB.set_any HX1.out.drew.arena (f : Int) o.o D dl dc w1.heap.size o.d (Sl.kept HSL1.out (Kept.drew' (F := fun _ => False) w1) (Nat.le_refl _) fun _ _ e => e) HDL.out)
   rw [HS.out.1] at HSE
   have u1 := up_cell (F := fun k => c1 k = 8) (w := w1.drew) (p := ⟨ν.r,1,none⟩) d1 (fun e => by have h1 := e;rw [show c1 ν.r = 6 from HX1.out.cr] at h1;omega)
   have u3 := up_cell (F := fun k => c1 k = 8) (w := w1.drew) (p := ⟨w.heap.size,3,none⟩) p3 (fun e => by have h1 := e;have h2 := HB51.out;rw [show c1 w.heap.size = 8 from h1] at h2;omega)
   have u5 := up_cell (F := fun k => c1 k = 8) (w := w1.drew) (p := ⟨w.heap.size,5,none⟩) p5 (fun e => by have h1 := e;have h2 := HB51.out;rw [show c1 w.heap.size = 8 from h1] at h2;omega)
   refine wp_region_stages (Kept fun k => c1 k = 8) (kept_refl _) (kept_trans _) [([0,1,2,3,4,5,6,7,8],9)] [10] (by kernel_rfl) (by kernel_rfl) ?_
   simp only [selSt,sel,ZmC,ZmN,ZgS,ZgZ]
   refine st_cons fun K1 hK1 => ?_
   repeat (go_big_quiet_step (fail))
   refine wpQuiet_nil ?_
   clear u1 u3 u5
   go_wp2_with (go_at_call 98;(with_reducible refine HSE.out.mono ?_);rintro e w2 ⟨rfl,ha,hk⟩;obtain ⟨c2,hw2,hm2⟩ := HX1.out.drew.setA ha hk;have HK2 := hid (hk.mono (G := fun k => c1 k = 8) fun _ _ e => e.2);have HW2 := hid (HW1.out.trans ((Went.drew w1 _).trans hw2));have HM2 := hid hm2;clear ha hk hw2 hm2)
   refine norm_up (hK1 _ _ HK2.out (st_nil fun K4 hK4 => ?_))
   clear hK1 K1
   repeat (go_big_quiet_step (fail))
   refine wpQuiet_nil (hK4 _ ?_)
   clear hK4 K4
   go_wp2
   go_ret
   have h2 := HM2.out
   rw [HS.out.2] at h2
   exact ⟨rfl,c2,HW2.out,h2⟩
  ·have hm : p.X.write o.o o.d q = (MdM.err 0,p.X.putB q (MdM.splice (p.X.B q) o.o.toNat o.d)) := by unfold Md.write;rw [if_neg hbad]
   have hst : p.A.setC (f : Int) o.o o.d = 0 := by unfold Ar.setC;rw [if_pos hu,if_pos (by omega)]
   have hrr := hr.trans (hh.trans hm)
   have hact : p.act (c : Int) o (p.X.run (c : Int) o).1 = ((-1,0),(⟨p.X,p.D,p.A.set (f : Int) o.o o.d,p.L⟩ : Pl).front (f : Int)) := by
    unfold Pl.act
    rw [if_neg (by rw [ho];decide),if_neg (by rw [ho];decide),if_neg (by rw [ho];decide),if_pos ho,e3,hfd]
   obtain ⟨t1,_,_⟩ := touched i hf hs' ft.K
   have E : Hid (p.run (c : Int) o = (MdM.err 0,⟨p.X.putB q (MdM.splice (p.X.B q) o.o.toNat o.d),p.D,p.A.set (f : Int) o.o o.d,frontL ν.K (outL p.L (f : Int)) (f : Int)⟩)) := by
    unfold Hid
    rw [RfX.run_ok (by rw [hrr];rfl),hact,RfX.fin_ok rfl,hrr,t1]
    dsimp only
    rw [if_neg (by decide)]
    rfl
   have HS := hid (And.intro hst trivial)
   rw [E.out]
   clear x i ft hc ho hr hb5 hg hx h0 hd hdl E hh hfr e1 e2 hk' hj e3 e4 hq hT hf hs' hp hfd hpos hm hst hu hbad hrr hact t1
   go_enter Tryz.func43,Tryz.ntmps43
   go_upto_region 1 with (fail)
   generalize (w.alloc (.cells #[.int .i64 o.k,.int .i64 o.p,.int .i64 o.h,.int .i64 o.o,.int .i64 o.n,.slice D dl dc] 30)) = w0 at *
   generalize paint w.heap.size 0 col = c0 at *
   have HB51 : Hid (paint w0.heap.size 0 c0 w.heap.size < 6 ∨ 11 < paint w0.heap.size 0 c0 w.heap.size) := by
    unfold Hid
    rw [paint_old HLT.out]
    exact HC5.out
   go_upto_region 4 with (go_at_call 95;(with_reducible refine HFR.out.mono ?_);rintro e w1 ⟨rfl,hg⟩;have HW1 := hid (HW.out.trans (Went.grow hg));have HX1 := hid (HX.out.grow hg);have d1 := HX1.out.c1;have p3 := hg.cellN o3 id;have p5 := hg.cellN o5 id;have HSL1 := hid ((Sl.kept (Sl.more HSL.out (Nat.le_of_lt HLT.out)) hg (Nat.le_refl _) fun _ _ e => e).more hg.size);clear hg o2)
   clear o3 o5
   generalize paint w0.heap.size 0 c0 = c1 at *
   have HSE := hid (ArB.set_any HX1.out.drew.arena (f : Int) o.o D dl dc w1.heap.size o.d (Sl.kept HSL1.out (Kept.drew' (F := fun _ => False) w1) (Nat.le_refl _) fun _ _ e => e) HDL.out)
   rw [HS.out.1] at HSE
   have u1 := up_cell (F := fun k => c1 k = 8) (w := w1.drew) (p := ⟨ν.r,1,none⟩) d1 (fun e => by have h1 := e;rw [show c1 ν.r = 6 from HX1.out.cr] at h1;omega)
   have u3 := up_cell (F := fun k => c1 k = 8) (w := w1.drew) (p := ⟨w.heap.size,3,none⟩) p3 (fun e => by have h1 := e;have h2 := HB51.out;rw [show c1 w.heap.size = 8 from h1] at h2;omega)
   have u5 := up_cell (F := fun k => c1 k = 8) (w := w1.drew) (p := ⟨w.heap.size,5,none⟩) p5 (fun e => by have h1 := e;have h2 := HB51.out;rw [show c1 w.heap.size = 8 from h1] at h2;omega)
   refine wp_region_stages (Kept fun k => c1 k = 8) (kept_refl _) (kept_trans _) [([0,1,2,3,4,5,6,7,8],9)] [10] (by kernel_rfl) (by kernel_rfl) ?_
   simp only [selSt,sel,ZmC,ZmN,ZgS,ZgZ]
   refine st_cons fun K1 hK1 => ?_
   repeat (go_big_quiet_step (fail))
   refine wpQuiet_nil ?_
   clear u1 u3 u5
   go_wp2_with (go_at_call 98;(with_reducible refine HSE.out.mono ?_);rintro e w2 ⟨rfl,ha,hk⟩;obtain ⟨c2,hw2,hm2⟩ := HX1.out.drew.setA ha hk;have HK2 := hid (hk.mono (G := fun k => c1 k = 8) fun _ _ e => e.2);have HW2 := hid (HW1.out.trans ((Went.drew w1 _).trans hw2));have HM2 := hid hm2;clear ha hk hw2 hm2)
   refine norm_up (hK1 _ _ HK2.out (st_nil fun K4 hK4 => ?_))
   clear hK1 K1
   repeat (go_big_quiet_step (fail))
   refine wpQuiet_nil (hK4 _ ?_)
   clear hK4 K4
   have HTO := hid (touch_any HM2.out (f : Int))
   go_wp2_with (go_at_call 96;(with_reducible refine HTO.out.mono ?_);rintro e w3 ⟨rfl,c3,hw3,hm3⟩;have HW3 := hid (HW2.out.trans hw3);have HM3 := hid hm3;clear hw3 hm3)
   go_ret
   exact ⟨rfl,c3,HW3.out,HM3.out⟩
end
end RgJ
namespace RgY
open Go.Shelf
def sortRen : Go.Shelf.Ren := ⟨fun | 189 => 158 | 125 => 187 | 257 => 186 | 128 => 205 | 129 => 206 | 294 => 196 | 295 => 197 | 296 => 198 | 297 => 199 | 298 => 200 | 299 => 201 | 216 => 202 | 300 => 203 | 301 => 204 | 328 => 210 | 329 => 211 | 330 => 212 | 331 => 213 | 332 => 214 | 215 => 215 | 343 => 217 | n => n,fun | 28 => 33 | 3 => 3 | 46 => 44 | 0 => 0 | 51 => 149 | 53 => 163 | 4 => 4 | 183 => 188 | 182 => 187 | 131 => 192 | 5 => 5 | 9 => 9 | 218 => 197 | 222 => 201 | 228 => 203 | 229 => 103 | n => n,fun | n => n⟩
theorem sortInt : Go.Proofs.Lays.n189 Tryz.prog sortRen := {
 mixed := by kernel_rfl
 f125 := Tryz.func187.trans (congrArg some (by kernel_rfl))
 f128 := Tryz.func205.trans (congrArg some (by kernel_rfl))
 f129 := Tryz.func206.trans (congrArg some (by kernel_rfl))
 f189 := Tryz.func158.trans (congrArg some (by kernel_rfl))
 f215 := Tryz.func215.trans (congrArg some (by kernel_rfl))
 f216 := Tryz.func202.trans (congrArg some (by kernel_rfl))
 f257 := Tryz.func186.trans (congrArg some (by kernel_rfl))
 f294 := Tryz.func196.trans (congrArg some (by kernel_rfl))
 f295 := Tryz.func197.trans (congrArg some (by kernel_rfl))
 f296 := Tryz.func198.trans (congrArg some (by kernel_rfl))
 f297 := Tryz.func199.trans (congrArg some (by kernel_rfl))
 f298 := Tryz.func200.trans (congrArg some (by kernel_rfl))
 f299 := Tryz.func201.trans (congrArg some (by kernel_rfl))
 f300 := Tryz.func203.trans (congrArg some (by kernel_rfl))
 f301 := Tryz.func204.trans (congrArg some (by kernel_rfl))
 f328 := Tryz.func210.trans (congrArg some (by kernel_rfl))
 f329 := Tryz.func211.trans (congrArg some (by kernel_rfl))
 f330 := Tryz.func212.trans (congrArg some (by kernel_rfl))
 f331 := Tryz.func213.trans (congrArg some (by kernel_rfl))
 f332 := Tryz.func214.trans (congrArg some (by kernel_rfl))
 f343 := Tryz.func217.trans (congrArg some (by kernel_rfl))
 t0 := Tryz.underlying0
 a0 := Tryz.isAgg0
 z0 := Tryz.sizeOf0
 v0 := Tryz.zeroValue0
 t3 := Tryz.underlying3
 a3 := Tryz.isAgg3
 z3 := Tryz.sizeOf3
 v3 := Tryz.zeroValue3
 t4 := Tryz.underlying4
 a4 := Tryz.isAgg4
 z4 := Tryz.sizeOf4
 v4 := Tryz.zeroValue4
 t5 := Tryz.underlying5
 a5 := Tryz.isAgg5
 z5 := Tryz.sizeOf5
 v5 := Tryz.zeroValue5
 t9 := Tryz.underlying9
 a9 := Tryz.isAgg9
 z9 := Tryz.sizeOf9
 v9 := Tryz.zeroValue9
 t28 := Tryz.underlying33
 a28 := Tryz.isAgg33
 z28 := Tryz.sizeOf33
 v28 := Tryz.zeroValue33
 t46 := Tryz.underlying44
 a46 := Tryz.isAgg44
 z46 := Tryz.sizeOf44
 v46 := Tryz.zeroValue44
 t51 := Tryz.underlying149
 a51 := Tryz.isAgg149
 z51 := Tryz.sizeOf149
 v51 := Tryz.zeroValue149
 t53 := Tryz.underlying163
 a53 := Tryz.isAgg163
 z53 := Tryz.sizeOf163
 v53 := Tryz.zeroValue163
 t131 := Tryz.underlying192
 a131 := Tryz.isAgg192
 z131 := Tryz.sizeOf192
 v131 := Tryz.zeroValue192
 t182 := Tryz.underlying187
 a182 := Tryz.isAgg187
 z182 := Tryz.sizeOf187
 v182 := Tryz.zeroValue187
 t183 := Tryz.underlying188
 a183 := Tryz.isAgg188
 z183 := Tryz.sizeOf188
 v183 := Tryz.zeroValue188
 t218 := Tryz.underlying197
 a218 := Tryz.isAgg197
 z218 := Tryz.sizeOf197
 v218 := Tryz.zeroValue197
 t222 := Tryz.underlying201
 a222 := Tryz.isAgg201
 z222 := Tryz.sizeOf201
 v222 := Tryz.zeroValue201
 t228 := Tryz.underlying203
 a228 := Tryz.isAgg203
 z228 := Tryz.sizeOf203
 v228 := Tryz.zeroValue203
 t229 := Tryz.underlying103
 a229 := Tryz.isAgg103
 z229 := Tryz.sizeOf103
 v229 := Tryz.zeroValue103 }
end RgY
namespace RgH
open Go.ChangeShapes Go.WideShapes Go.ChangeAt Go.RowKit Go.Shelf
open Mem Blk Cells Orow RfP RgP RgS RgA RgB RgY Stages
open ArM (Ar Fr)
open ArC (ArAt FR)
open Dev (Dv DevAt)
open HdM (Hs)
open RfM (Pl)
open RfI (InvE Inv)
theorem len_zero (w : World) : Calls Tryz.prog 187 #[.int .u64 0] w fun e w' => e = .returned (.int .i64 (Lib.bitLen 0)) ∧ w' = w :=
 calls_of_every_depth fun D => AnyS.bits_LenIn { sortInt with } D 0 w (by decide) (by decide)
theorem insertion_none (p : Option Addr) (cap : Nat) (w : World) : Calls Tryz.prog 196 #[.slice p 0 cap,.int .i64 0,.int .i64 0] w fun e w' => e = .returned (.tuple #[]) ∧ w = w' := by
 go_enter Tryz.func196,Tryz.ntmps196
 go_wp2
 refine wp_loop_rounds 1 ?_
 rw [rounds_succ]
 go_wp2
 go_end0
 exact ⟨rfl,rfl⟩
theorem pdq_none (p : Option Addr) (cap : Nat) (z : Int) (w : World) : Calls Tryz.prog 186 #[.slice p 0 cap,.int .i64 0,.int .i64 0,.int .i64 z] w fun e w' => e = .returned (.tuple #[]) ∧ w = w' := by
 go_enter Tryz.func186,Tryz.ntmps186
 go_wp2
 refine wp_loop_rounds 1 ?_
 rw [rounds_succ]
 go_wp2_with (go_at_call 196;(with_reducible refine (insertion_none p cap _).mono ?_);rintro e w' ⟨rfl,rfl⟩)
 (try simp only [Exit.inBlock,Exit.then]);refine bodyPost_ret (results_none rfl _ _ _) rfl ?_
 exact ⟨rfl,rfl⟩
theorem sort_none (p : Option Addr) (cap : Nat) (w : World) : Calls Tryz.prog 158 #[.slice p 0 cap] w fun e w' => e = .returned (.tuple #[]) ∧ w = w' := by
 generalize hz : Lib.bitLen 0 = z
 have HLEN : Hid (∀ w,Calls Tryz.prog 187 #[.int .u64 0] w fun e w' => e = .returned (.int .i64 z) ∧ w' = w) := fun w => hz ▸ len_zero w
 clear hz
 go_enter Tryz.func158,Tryz.ntmps158
 go_wp2_with (first
  | (go_at_call 187;(with_reducible refine (HLEN.out _).mono ?_);rintro e w' ⟨rfl,rfl⟩)
  | (go_at_call 186;(with_reducible refine (pdq_none p cap _ _).mono ?_);rintro e w' ⟨rfl,rfl⟩))
 go_end0
 exact ⟨rfl,rfl⟩
def SortP (zs : List Int) (g : Nat) (w : World) (e : Ending) (w' : World) : Prop :=
 e = .returned (.tuple #[]) ∧ (∀ j,j < zs.length → w'.cell? ⟨g,j,none⟩ = some (.int .i64 ((zs.mergeSort fun x y => decide (x ≤ y)).getD j 0))) ∧ Kept (fun k => k = g) w w'
section
variable {w w' : World} {col col' : Nat → Nat} {ν : Nm} {H : Hs} {T : Nat → Bool} {p : Pl} {n k g : Nat} {zs : List Int}
theorem sort_any {cap : Nat} (h0 : 0 < zs.length) (hl : zs.length ≤ 100000) (hc : ∀ j,j < zs.length → w.cell? ⟨g,j,none⟩ = some (.int .i64 (zs.getD j 0))) (hf : ∀ j,w.frozen? ⟨g,j,none⟩ = false) :
  Calls Tryz.prog 158 #[.slice (some ⟨g,0,none⟩) zs.length cap] w (SortP zs g w) := by
 have hg : g < w.heap.size := block_lt_of_cell (hc 0 h0)
 have hH : Sort.Holds (Value.int .i64) w g 0 zs.toArray := fun j hj => by
  have hj : j < zs.length := by simpa using hj
  refine ⟨?_,hf _⟩
  rw [Nat.zero_add,hc j hj,getElem!_pos zs.toArray j (by simpa using hj),List.getD_eq_getElem?_getD,List.getElem?_eq_getElem hj]
  rfl
 refine (Any.slices_Sort_int sortInt g 0 cap zs w hH hg (by omega)).mono ?_
 rintro e w' ⟨he,m,os,rfl⟩
 have hsz : (zs.mergeSort fun x y => decide (x ≤ y)).toArray.size = zs.toArray.size := by simp
 have hh : Sort.Holds (Value.int .i64) (Sort.grow (Sort.putRow (Value.int .i64) (Sort.ahead w m) g 0 (zs.mergeSort fun x y => decide (x ≤ y)).toArray) os) g 0 (zs.mergeSort fun x y => decide (x ≤ y)).toArray := by
  rw [← Sort.putRow_grow (Value.int .i64) (Sort.ahead w m) os g 0 _ hg]
  exact Sort.holds_putRow (Value.int .i64) _ g 0 _ _ (Sort.holds_grow (Value.int .i64) _ _ g 0 _ hg (Sort.holds_ahead (Value.int .i64) w m g 0 _ hH)) hsz
 refine ⟨he,fun j hj => ?_,⟨rfl,rfl,rfl,by simp [Sort.grow,Sort.putRow,Sort.mapBlock,Sort.ahead],fun k hk hne => ?_⟩⟩
 ·have := (hh j (by rw [hsz];simpa using hj)).1
  rw [Nat.zero_add] at this
  have hj2 : j < (zs.mergeSort fun x y => decide (x ≤ y)).length := by simpa using hj
  rw [this,getElem!_pos _ j (by simpa using hj2),List.getD_eq_getElem?_getD,List.getElem?_eq_getElem hj2]
  rfl
 ·have hne : k ≠ g := hne
  show ((w.heap.modify g (Sort.onCells _)) ++ os)[k]? = w.heap[k]?
  rw [Array.getElem?_append_left (by simpa using hk),Array.getElem?_modify,if_neg (fun e => hne e.symm)]
def dirtL (F : Nat → Fr) : Nat → List Int
 | 0 => []
 | j + 1 => if (F j).di = true then dirtL F j ++ [(F j).pg] else dirtL F j
theorem dirtL_le (F : Nat → Fr) : ∀ j,(dirtL F j).length ≤ j
 | 0 => Nat.le_refl _
 | j + 1 => by
  have := dirtL_le F j
  unfold dirtL
  split
  ·simp;omega
  ·omega
theorem dirtL_mem (F : Nat → Fr) (z : Int) : ∀ j,z ∈ dirtL F j ↔ ∃ f,f < j ∧ (F f).di = true ∧ (F f).pg = z
 | 0 => ⟨fun h => (by cases h),fun ⟨f,h,_⟩ => absurd h (Nat.not_lt_zero f)⟩
 | j + 1 => by
  have ih := dirtL_mem F z j
  unfold dirtL
  split
  ·next hd =>
   rw [List.mem_append,ih,List.mem_singleton]
   refine ⟨fun h => h.elim (fun ⟨f,h1,h2⟩ => ⟨f,by omega,h2⟩) fun e => ⟨j,by omega,hd,e.symm⟩,fun ⟨f,h1,h2,h3⟩ => ?_⟩
   by_cases e : f = j
   ·subst e;exact .inr h3.symm
   ·exact .inl ⟨f,by omega,h2,h3⟩
  ·next hd =>
   rw [ih]
   refine ⟨fun ⟨f,h1,h2⟩ => ⟨f,by omega,h2⟩,fun ⟨f,h1,h2,h3⟩ => ?_⟩
   by_cases e : f = j
   ·subst e;exact absurd h2 hd
   ·exact ⟨f,by omega,h2,h3⟩
theorem dirtL_nodup {F : Nat → Fr} : ∀ j,(∀ f f',f < j → f' < j → (F f).di = true → (F f').di = true → (F f).pg = (F f').pg → f = f') → (dirtL F j).Nodup
 | 0,_ => List.nodup_nil
 | j + 1,h => by
  have ih := dirtL_nodup j fun f f' h1 h2 => h f f' (by omega) (by omega)
  unfold dirtL
  split
  ·next hd =>
   rw [List.nodup_append]
   refine ⟨ih,by simp,fun a ha b hb => ?_⟩
   rw [List.mem_singleton] at hb
   obtain ⟨f,h1,h2,h3⟩ := (dirtL_mem F a j).1 ha
   intro e
   have := h f j (by omega) (by omega) h2 hd (by rw [h3,e,hb])
   omega
  ·exact ih
def dirtP (p : Pl) : List Nat := ((dirtL p.A.F p.A.n).mergeSort fun x y => decide (x ≤ y)).map Int.toNat
theorem dirt_used (i : Inv p) {f : Nat} (hf : f < p.A.n) (hd : (p.A.F f).di = true) : (p.A.F f).st = 1 := by
 rcases i.st f hf with e | e
 ·have := (i.ga.rest f hf (by omega)).2.2
  rw [hd] at this
  cases this
 ·exact e
theorem dirtP_spec (i : Inv p) : (dirtP p).Pairwise (· < ·) ∧ (∀ q ∈ dirtP p,q < p.X.n) ∧ (∀ q,RgM.Di p q → q ∈ dirtP p) ∧ ListM.ints (dirtP p) = (dirtL p.A.F p.A.n).mergeSort fun x y => decide (x ≤ y) := by
 have hm : ∀ z,z ∈ (dirtL p.A.F p.A.n).mergeSort (fun x y => decide (x ≤ y)) ↔ ∃ f,f < p.A.n ∧ (p.A.F f).di = true ∧ (p.A.F f).pg = z := fun z => by
  rw [(List.mergeSort_perm _ _).mem_iff,dirtL_mem]
 have hq : ∀ z,z ∈ (dirtL p.A.F p.A.n).mergeSort (fun x y => decide (x ≤ y)) → ∃ q : Nat,z = (q : Int) ∧ q < p.X.n := fun z hz => by
  obtain ⟨f,hf,hd,e⟩ := (hm z).1 hz
  obtain ⟨q,hq,e2⟩ := i.pg f hf (dirt_used i hf hd)
  exact ⟨q,by rw [← e,e2],hq⟩
 have hnd : ((dirtL p.A.F p.A.n).mergeSort (fun x y => decide (x ≤ y))).Nodup := by
  rw [(List.mergeSort_perm _ _).nodup_iff]
  exact dirtL_nodup _ fun f f' h1 h2 h3 h4 e => i.ga.uq f f' h1 h2 (dirt_used i h1 h3) (dirt_used i h2 h4) e
 have hle : ((dirtL p.A.F p.A.n).mergeSort (fun x y => decide (x ≤ y))).Pairwise (fun x y => decide (x ≤ y) = true) := List.pairwise_mergeSort (fun a b c h1 h2 => by simp at *;omega) (fun a b => by simp;omega) _
 refine ⟨?_,fun q hqm => ?_,fun q ⟨f,hf,hs,hp,hd⟩ => ?_,?_⟩
 ·unfold dirtP
  rw [List.pairwise_map]
  have hlt := hle.and hnd
  refine List.Pairwise.imp_of_mem (fun {a b} ha hb hab => ?_) hlt
  obtain ⟨x,rfl,_⟩ := hq a ha
  obtain ⟨y,rfl,_⟩ := hq b hb
  have h1 := of_decide_eq_true hab.1
  have h2 := hab.2
  simp only [Int.toNat_natCast]
  omega
 ·obtain ⟨z,hz,e⟩ := List.mem_map.1 hqm
  obtain ⟨x,rfl,hx⟩ := hq z hz
  rw [Int.toNat_natCast] at e
  omega
 ·exact List.mem_map.2 ⟨(q : Int),(hm _).2 ⟨f,hf,hd,hp⟩,Int.toNat_natCast q⟩
 ·unfold ListM.ints dirtP
  rw [List.map_map]
  conv => rhs;rw [← List.map_id ((dirtL p.A.F p.A.n).mergeSort fun x y => decide (x ≤ y))]
  refine List.map_congr_left fun z hz => ?_
  obtain ⟨x,rfl,_⟩ := hq z hz
  rfl
def PagesOf (w : World) (l : List Nat) (e : Ending) (w' : World) : Prop :=
 ∃ A c,e = .returned (.slice A l.length c) ∧ Sl w' w'.heap.size .i64 A l.length (ListM.ints l) ∧ (∀ x,A = some x → w.heap.size ≤ x.block) ∧ Grow w w'
theorem infoI : (Tryz.prog.info? 3).map (fun i => (i.zero,i.size,i.bytes)) = some (some (.int .i64 0),1,8) := by kernel_rfl
theorem pages_end {l : List Nat} {zs : List Int} {P : Option Addr} {cap : Nat} {wa : World} (hown : wa.ownsRow w.heap.size 3 1 (.slice P zs.length cap) zs.length (zs.map (Value.int .i64))) (hb : Grow w wa) (hz : ListM.ints l = zs.mergeSort fun x y => decide (x ≤ y)) (hlen : zs.length ≤ 1000) :
  Calls Tryz.prog 158 #[.slice P zs.length cap] wa fun e w' => e = .returned (.tuple #[]) ∧ PagesOf w l (.returned (.slice P zs.length cap)) w' := by
 have hll : l.length = zs.length := by
  have := congrArg List.length hz
  unfold ListM.ints at this
  simpa using this
 rcases Nat.eq_zero_or_pos zs.length with h0 | h0
 ·have hl0 : l = [] := List.eq_nil_of_length_eq_zero (by omega)
  rw [h0]
  refine (sort_none P cap wa).mono fun e w' ⟨he,hw⟩ => ⟨he,P,cap,by rw [hl0];rfl,by rw [hl0];exact Sl.nil _ _ _ _,fun x ex => ?_,hw ▸ hb⟩
  exact (World.ownsRow.lt hown x.block (by rw [ex];rfl)).1
 ·obtain ⟨g,c2,e,hg,cur,h1,h2,h3⟩ : ∃ g c2,(Value.slice P zs.length cap) = .slice (some ⟨g,0,none⟩) zs.length c2 ∧ w.heap.size ≤ g ∧ ∃ cur,wa.heap[g]? = some (.cells cur 3 (0,0)) ∧ (∀ j,j < zs.length → wa.cell? ⟨g,j,none⟩ = some (.int .i64 (zs.getD j 0))) ∧ True := by
   obtain ⟨g,c2,e,_,_⟩ := hown.form h0
   rcases hown.2 with ⟨x,_⟩ | ⟨g',cap',cur,e',hb',hg',hn',hm',hs',hl'⟩
   ·rw [e] at x;cases x
   ·refine ⟨g',cap',e',hb',cur,hg',fun j hj => ?_,trivial⟩
    have h5 : (cur.toList.take (zs.length * 1))[j]? = (zs.map (Value.int .i64))[j]? := by rw [hl']
    rw [List.getElem?_take,if_pos (by omega),List.getElem?_map,List.getElem?_eq_getElem hj] at h5
    rw [cell_of_row _ _ _ _ _ _ hg',← Array.getElem?_toList,h5,List.getD_eq_getElem?_getD,List.getElem?_eq_getElem hj]
    rfl
  injection e with e1 e2 e3
  subst e1
  refine (sort_any h0 (by omega) h2 fun j => frozen_of_row wa g j cur _ h1).mono fun e w' ⟨he,hc,hk⟩ => ⟨he,_,cap,by rw [hll],⟨by unfold ListM.ints;simp,fun _ => ⟨g,0,rfl,?_,fun j hj => ?_⟩⟩,fun x ex => ?_,?_⟩
  ·exact Nat.lt_of_lt_of_le (block_lt_of_cell (h2 0 h0)) hk.size
  ·rw [Nat.zero_add,hc j (by omega),hz]
  ·injection ex with ex;subst ex;exact hg
  ·exact hb.then hk fun k h5 h6 => by omega
theorem own_mono {wa : World} {b b' : Nat} {v : Value} {m : Nat} {xs : List Value} (h : wa.ownsRow b 3 1 v m xs) (hk : b' ≤ b) : wa.ownsRow b' 3 1 v m xs := by
 rcases h.2 with ⟨e,x⟩ | ⟨g',cap',cur,e',hb',hr⟩
 ·exact ⟨h.1,.inl ⟨e,x⟩⟩
 ·exact ⟨h.1,.inr ⟨g',cap',cur,e',Nat.le_trans hk hb',hr⟩⟩
theorem own_grow {wa wb : World} {b : Nat} {v : Value} {m : Nat} {xs : List Value} (h : wa.ownsRow b 3 1 v m xs) (hk : Grow wa wb) : wb.ownsRow b 3 1 v m xs := by
 rcases h.2 with ⟨e,x⟩ | ⟨g',cap',cur,e',hb',hg',hr⟩
 ·exact ⟨h.1,.inl ⟨e,x⟩⟩
 ·exact ⟨h.1,.inr ⟨g',cap',cur,e',hb',(hk.block g' (Array.getElem?_eq_some_iff.1 hg').1 id).trans hg',hr⟩⟩
set_option maxRecDepth 100000 in
set_option maxHeartbeats 1000000 in
theorem dirty_any {L : List Nat} {S : Dv} (x : MAt w col ν S p.A L H T) (i : Inv p) : Calls Tryz.prog 105 #[.pointer (some ⟨ν.r,0,none⟩)] w (PagesOf w (dirtP p)) := by
 have c1 := x.c1
 have hn32 := i.ga.n
 have HF := hid (frames_at x.arena i.n1)
 have HZ := hid (dirtP_spec i).2.2.2
 clear x i
 go_enter Tryz.func105,Tryz.ntmps105
 go_wp2
 go_step3
 go_wp2
 go_step3
 go_wp2_with (go_at_call 48;(with_reducible refine HF.out.mono ?_);rintro e w1 ⟨g,c,rfl,ho,hg,hgr⟩;have HO := hid ho;have HGR := hid hgr;clear ho hg hgr)
 clear c1
 go_loopg [3,12] p.A.n (fun gx v i wr => ∃ j : Nat,j + gx = p.A.n ∧ i = .int .i64 (j : Int) ∧ wr.ownsRow w1.heap.size 3 1 v (dirtL p.A.F j).length ((dirtL p.A.F j).map (Value.int .i64)) ∧ Below w1.heap.size w1 wr)
 case atStart => exact ⟨0,by omega,rfl,World.ownsRow_nil _ _ _ _,Below.refl _ _⟩
 case round =>
  obtain ⟨j,hg,rfl,hown,hbel⟩ := hrel
  have HOW := hid hown
  have HB := hid hbel
  have HG := hid hg
  have HWR : Hid (Grow w wr) := HGR.out.trans (Kept.of_below hbel)
  by_cases hj : j < p.A.n
  ·have hjz : (j : Int) < (p.A.n : Int) := by omega
   have hnz : (p.A.n : Int) ≤ 32 := by omega
   have hoW := HO.out.kept (Kept.of_below hbel : Grow w1 wr) id
   have k0 := FR.c0 hoW hj
   have k1 := FR.c1 hoW hj
   have k2 := FR.c2 hoW hj
   have k3 := FR.c3 hoW hj
   have k4 := FR.c4 hoW hj
   have hbx := Blk.new wr 36 [.int .i64 0,.int .i64 0,.int .i64 0,.int .i64 0,.bool false]
   have HBX := hid hbx
   have hle := dirtL_le p.A.F j
   have hws : w.heap.size ≤ wr.heap.size := HWR.out.size
   have h1s : w1.heap.size ≤ wr.heap.size := hbel.size
   have HR := fun b => hid (set_row HBX.out #[.int .i64 (p.A.F j).st,.int .i64 (p.A.F j).pg,.int .i64 (p.A.F j).pn,.int .i64 0,.bool b])
   have kfr : ∀ b,Kept (fun k => k = wr.heap.size) wr ((wr.alloc (.cells #[.int .i64 0,.int .i64 0,.int .i64 0,.int .i64 0,.bool false] 36)).setRow wr.heap.size #[.int .i64 (p.A.F j).st,.int .i64 (p.A.F j).pg,.int .i64 (p.A.F j).pn,.int .i64 0,.bool b]) := fun b => ((Kept.refl _ wr).alloc _).trans (HR b).out.2
   have gfr : ∀ b,Grow wr ((wr.alloc (.cells #[.int .i64 0,.int .i64 0,.int .i64 0,.int .i64 0,.bool false] 36)).setRow wr.heap.size #[.int .i64 (p.A.F j).st,.int .i64 (p.A.F j).pg,.int .i64 (p.A.F j).pn,.int .i64 0,.bool b]) := fun b => (kfr b).mono fun k hk e => by omega
   cases hdi : (p.A.F j).di with
   | false =>
    have HE : Hid (dirtL p.A.F (j + 1) = dirtL p.A.F j) := by unfold Hid;rw [dirtL,hdi];rfl
    have HGF := hid (gfr false)
    have HRF := HR false
    rw [hdi] at k4
    clear hdi hoW hbx HR kfr gfr hown hbel hg
    go_upto_region 5 with (refine wpList_store_row rfl 36 _ _ rfl wr.heap.size #[.int .i64 (p.A.F j).st,.int .i64 (p.A.F j).pg,.int .i64 (p.A.F j).pn,.int .i64 0,.bool false] rfl rfl _ _ HBX.out fr_size rfl (by simp [Value.oneCell']) ?_)
    have b4 := HRF.out.1.cell 4
    simp only [List.getElem?_cons_succ,List.getElem?_cons_zero] at b4
    clear k0 k1 k2 k3 k4
    have HSZ : Hid (wr.heap.size < ((wr.alloc (.cells #[.int .i64 0,.int .i64 0,.int .i64 0,.int .i64 0,.bool false] 36)).setRow wr.heap.size #[.int .i64 (p.A.F j).st,.int .i64 (p.A.F j).pg,.int .i64 (p.A.F j).pn,.int .i64 0,.bool false]).heap.size) := HRF.out.1.lt
    generalize (wr.alloc (.cells #[.int .i64 0,.int .i64 0,.int .i64 0,.int .i64 0,.bool false] 36)).setRow wr.heap.size #[.int .i64 (p.A.F j).st,.int .i64 (p.A.F j).pg,.int .i64 (p.A.F j).pn,.int .i64 0,.bool false] = w2 at *
    go_wp2
    go_roundg (gk - 1)
    case measure => have := HG.out;omega
    case rel => exact ⟨j + 1,by have := HG.out;omega,by go_num,by rw [HE.out];exact own_grow HOW.out HGF.out,HB.out.trans ((Grow.below HGF.out).mono h1s)⟩
   | true =>
    have HE : Hid (dirtL p.A.F (j + 1) = dirtL p.A.F j ++ [(p.A.F j).pg]) := by unfold Hid;rw [dirtL,hdi];rfl
    have HGF := hid (gfr true)
    have HRF := HR true
    rw [hdi] at k4
    clear hdi hoW hbx HR kfr gfr hown hbel hg
    go_upto_region 5 with (refine wpList_store_row rfl 36 _ _ rfl wr.heap.size #[.int .i64 (p.A.F j).st,.int .i64 (p.A.F j).pg,.int .i64 (p.A.F j).pn,.int .i64 0,.bool true] rfl rfl _ _ HBX.out fr_size rfl (by simp [Value.oneCell']) ?_)
    have b4 := HRF.out.1.cell 4
    have b1 := HRF.out.1.cell 1
    simp only [List.getElem?_cons_succ,List.getElem?_cons_zero] at b4 b1
    clear k0 k1 k2 k3 k4
    generalize (wr.alloc (.cells #[.int .i64 0,.int .i64 0,.int .i64 0,.int .i64 0,.bool false] 36)).setRow wr.heap.size #[.int .i64 (p.A.F j).st,.int .i64 (p.A.F j).pg,.int .i64 (p.A.F j).pn,.int .i64 0,.bool true] = w2 at *
    have HO2 := hid (own_grow HOW.out HGF.out)
    have hws2 : w.heap.size ≤ w2.heap.size := Nat.le_trans hws HGF.out.size
    have h1s2 : w1.heap.size ≤ w2.heap.size := Nat.le_trans h1s HGF.out.size
    generalize dirtL p.A.F j = l at *
    generalize (p.A.F j).pg = pg at *
    go_wp2_with (at_builtin;refine wpList_append_one rfl (.tmp 19) (.tmp 22) 33 rfl w1.heap.size 3 (.int .i64 0) 8 Tryz.underlying33 infoI rfl _ l.length _ rfl (World.ownsRow.alloc HO2.out _) w2.heap.size (.int .i64 pg) rfl (cell_new1 _ _ _) rfl (by unfold maxLen;omega) (by omega) (by simp;omega) ?_;intro g cap w3 hown hbel;have HOW3 := hid hown;have HBW3 := hid hbel;clear hown hbel)
    go_roundg (gk - 1)
    case measure => have := HG.out;omega
    case rel => exact ⟨j + 1,by have := HG.out;omega,by go_num,by rw [HE.out];simpa using HOW3.out,HB.out.trans (((Grow.below HGF.out).mono h1s).trans (((Below.refl _ w2).alloc h1s2 _).trans HBW3.out))⟩
  ·have hjN : j = p.A.n := by omega
   subst hjN
   obtain ⟨A,c,rfl,_⟩ := Sl.of_row1 hown
   have hle := dirtL_le p.A.F p.A.n
   have HPE := hid (pages_end (own_mono hown HGR.out.size) HWR.out HZ.out (by omega))
   clear hown hbel hg hle
   go_wp2_with (go_at_call 158;(with_reducible refine HPE.out.mono ?_);rintro e w4 ⟨rfl,hp⟩;have HP4 := hid hp;clear hp)
   rw [Exit.noGoto_ret]
   go_ret
   exact HP4.out
end
end RgH
namespace RgI
open Go.ChangeShapes Go.WideShapes Go.ChangeAt Go.RowKit
open Mem Blk Cells Orow RfP RgP RgS RgA RgB RgF RgG RgH Stages
open ArM (Ar Fr)
open Dev (Dv DevAt)
open HdM (Hs)
open MdM (Md MdOp Re)
open RfM (Pl)
open RfI (InvE Inv)
open RgM (Bnd saves)
section
variable {w w' : World} {col col' : Nat → Nat} {ν : Nm} {H : Hs} {T : Nat → Bool} {p : Pl} {c k q : Nat} {l : List Nat}
theorem saves_go (i : Inv p) (hb : Bnd p.D k) : (saves p l).2.X = p.X ∧ Inv (saves p l).2 ∧ Bnd (saves p l).2.D (k + l.length) := by
 induction l generalizing p k with
 | nil => exact ⟨rfl,i,hb⟩
 | cons a l ih =>
  obtain ⟨g,i1,_⟩ := RfF.flush_spec i a
  have hb1 := hb.flush (a : Int)
  unfold saves
  split
  ·obtain ⟨h1,h2,h3⟩ := ih i1 hb1
   exact ⟨h1.trans g.X,h2,h3.up (by rw [List.length_cons];omega)⟩
  ·exact ⟨g.X,i1,hb1.up (by rw [List.length_cons];omega)⟩
theorem saves_stop {a b : List Nat} (h : (saves p a).1 ≠ 0) : saves p (a ++ b) = saves p a := by
 induction a generalizing p with
 | nil => exact absurd rfl h
 | cons x a ih =>
  rw [List.cons_append]
  unfold saves at h ⊢
  split
  ·next hx =>
   rw [if_pos hx] at h
   exact ih h
  ·rfl
theorem take_more {j : Nat} (hj : j < l.length) : l.take (j + 1) = l.take j ++ [l.getD j 0] := by
 rw [List.take_add_one,List.getElem?_eq_getElem hj,List.getD_eq_getElem?_getD,List.getElem?_eq_getElem hj]
 rfl
theorem saves_next {j : Nat} (hj : j < l.length) (h : (saves p (l.take j)).1 = 0) : saves p (l.take (j + 1)) = (saves p (l.take j)).2.flush ((l.getD j 0 : Nat) : Int) := by
 rw [take_more hj,RgM.saves_snoc,if_pos h]
theorem dirtP_len (i : Inv p) : (dirtP p).length ≤ 32 := by
 unfold dirtP
 have := dirtL_le p.A.F p.A.n
 have := i.ga.n
 simp
 omega
set_option maxRecDepth 100000 in
set_option maxHeartbeats 1000000 in
theorem flushAll_any {o : MdOp} (x : MP w col ν p) (i : Inv p) (hc : c < p.X.N) (ho : o.k = 7) (hl : Bnd p.D k) (hk : k ≤ 100000) :
  Calls Tryz.prog 46 #[.pointer (some ⟨ν.r,0,none⟩)] w (CodePost ν w col (p.run (c : Int) o)) := by
 have hr : p.X.run (c : Int) o = (MdM.err 0,p.X) := by
  unfold Md.run
  rw [if_neg (by rw [ho];omega),if_neg (by rw [ho];decide),if_neg (by rw [ho];decide),if_neg (by rw [ho];decide),if_neg (by rw [ho];decide),if_neg (by rw [ho];decide),if_neg (by rw [ho];decide),if_pos ho]
 obtain ⟨hs1,hs2,hs3,_⟩ := dirtP_spec i
 have hall := RgM.saves_all i hs1 hs2 fun q _ => hs3 q
 have hact : p.act (c : Int) o (p.X.run (c : Int) o).1 = Pl.synced (saves p (dirtP p)) := by
  rw [hall]
  unfold Pl.act
  rw [if_neg (by rw [ho];decide),if_neg (by rw [ho];decide),if_neg (by rw [ho];decide),if_neg (by rw [ho];decide),if_neg (by rw [ho];decide),if_neg (by rw [ho];decide),if_pos ho]
 have E0 := sync_run hr hact (saves_go i hl).1
 have HD := hid (dirty_any x i)
 have HX := hid x
 have hlen := dirtP_len i
 have HI := hid i
 have HL := hid hl
 unfold CodePost
 generalize dirtP p = l at *
 have hlz : (l.length : Int) ≤ 32 := by omega
 have HE := hid E0
 have HKK : Hid (k ≤ 100000) := hk
 generalize hPP : Post ν w col _ _ _ _ _ _ = PP
 have HPQ := hid hPP
 clear x i hc ho hl hk hr hs1 hs2 hs3 hall hact E0 hPP
 go_enter Tryz.func46,Tryz.ntmps46
 go_wp2_with (go_at_call 105;(with_reducible refine HD.out.mono ?_);rintro e w1 ⟨A,ca,rfl,hsl,hA,hg⟩;have HSL := hid hsl;have HA := hid hA;have HG1 := hid hg;clear hsl hA hg)
 have HX1 := hid (HX.out.grow HG1.out)
 have HW1 : Hid (Went w col w1 (paint w.heap.size 0 col)) := Went.grow HG1.out
 have HNM : Hid (∀ x,A = some x → ¬ Mine w1 (paint w.heap.size 0 col) x.block) := fun x ex m => by
  have h1 := HA.out x ex
  have h2 := m.2
  rw [paint_new h1] at h2
  omega
 generalize paint w.heap.size 0 col = col1 at *
 go_loopg [9] l.length (fun gx i wr => ∃ (j : Nat) (cj : Nat → Nat),j + gx = l.length ∧ i = .int .i64 (j : Int) ∧ (saves p (l.take j)).1 = 0 ∧ Went w1 col1 wr cj ∧ MAt wr cj ν (saves p (l.take j)).2.D (saves p (l.take j)).2.A (saves p (l.take j)).2.L (RgH.hs p.X) p.X.T)
 case atStart => exact ⟨0,col1,by omega,rfl,rfl,Went.refl _ _,HX1.out⟩
 case round =>
  obtain ⟨j,cj,hg,rfl,h0,hw,hm⟩ := hrel
  have HG := hid hg
  have HW := hid hw
  have HM := hid hm
  have H0 := hid h0
  have hsl : Sl wr w1.heap.size .i64 A l.length (ListM.ints l) := sl_off HSL.out hw.kept HNM.out
  by_cases hj : j < l.length
  ·have hjz : (j : Int) < (l.length : Int) := by omega
   obtain ⟨b,off,rfl,_,hcs⟩ := hsl.at_ (by omega)
   have r1 := hcs j hj
   rw [ListM.ints_get] at r1
   have HN := hid (saves_next (p := p) hj h0)
   obtain ⟨y1,y2,y3⟩ := saves_go (l := l.take j) HI.out HL.out
   have hbb : Bnd (saves p (l.take j)).2.D (k + 32) := y3.up (by simp;omega)
   have HSA := hid (save_page hm y2 ((l.getD j 0 : Nat) : Int) hbb (by have := HKK.out;omega))
   have HFA := hid (ArD.find_any hm.arena ((l.getD j 0 : Nat) : Int))
   have d1 := hm.c1
   have HST : Hid ((saves p (l.take (j + 1))).1 ≠ 0 → saves p l = saves p (l.take (j + 1))) := fun h => by
    have := saves_stop (p := p) (b := l.drop (j + 1)) h
    rwa [List.take_append_drop] at this
   have HHJ := hid hj
   clear hsl hcs hw hm h0 hg y1 y2 y3 hbb
   rw [← HN.out] at HSA
   generalize (saves p (l.take j)).2.A.find ((l.getD j 0 : Nat) : Int) = ff at *
   generalize l.getD j 0 = q at *
   by_cases hz : (saves p (l.take (j + 1))).1 = 0
   ·have HZ := hid hz
    rw [hz] at HSA
    clear hz
    go_wp2_with (first
     | (go_at_call 102;(with_reducible refine HFA.out.mono ?_);rintro e w2 ⟨rfl,rfl⟩)
     | (go_at_call 101;(with_reducible refine HSA.out.mono ?_);rintro e w2 ⟨rfl,c2',hw2,hm2⟩;have HW2 := hid (HW.out.trans hw2);have HM2 := hid hm2;clear hw2 hm2))
    go_roundg (gk - 1)
    case measure => have := HG.out;omega
    case rel => exact ⟨j + 1,c2',by have := HG.out;have := HHJ.out;omega,by go_num,HZ.out,HW2.out,HM2.out⟩
   ·have HS := hid (HST.out hz)
    have hzb : ((saves p (l.take (j + 1))).1 != 0) = true := by simpa using hz
    have HZ := hid hz
    obtain ⟨y1,_,_⟩ := saves_go (l := l.take (j + 1)) HI.out HL.out
    have HX3 := hid y1
    clear hz y1
    generalize hsv : saves p (l.take (j + 1)) = s at *
    generalize hs1 : s.1 = z at *
    have HS1 := hid hs1
    clear hsv hs1
    go_wp2_with (first
     | (go_at_call 102;(with_reducible refine HFA.out.mono ?_);rintro e w2 ⟨rfl,rfl⟩)
     | (go_at_call 101;(with_reducible refine HSA.out.mono ?_);rintro e w2 ⟨rfl,c2',hw2,hm2⟩;have HW2 := hid (HW.out.trans hw2);have HM2 := hid hm2;clear hw2 hm2))
    have hrun : p.run (c : Int) o = (MdM.err z,s.2) := by
     have h := HE.out
     rw [HS.out,if_neg (by rw [HS1.out];exact HZ.out),HS1.out] at h
     exact h
    rw [← HPQ.out,hrun]
    dsimp only
    rw [HX3.out]
    exact ⟨rfl,c2',HW1.out.trans HW2.out,HM2.out⟩
  ·have hjl : j = l.length := by have := HG.out;omega
   subst hjl
   rw [List.take_of_length_le (Nat.le_refl _)] at hm h0
   obtain ⟨y1,y2,y3⟩ := saves_go (l := l) HI.out HL.out
   have HSY := hid (dsync_at hm y3 (by have := HKK.out;omega))
   have d0 := hm.c0
   have hsx : (saves p l).2.sync.2.X = p.X := y1
   have HSX := hid hsx
   have HWJ := hid hw
   have hh := HE.out
   rw [if_pos h0] at hh
   rcases sync_is y2 with hz | hz
   ·rw [if_pos hz] at hh
    have HR := hid hh
    rw [hz] at HSY
    clear hh hz hsx y1 y2 y3 hm h0 hw hg hsl HM H0 hj
    generalize (saves p l).2.sync.2 = s at *
    go_wp2_with (first
     | (go_at_call 104;(with_reducible refine HSY.out.mono ?_);rintro e w3 ⟨rfl,c3,hw3,hm3⟩;have HW3 := hid (HWJ.out.trans hw3);have HM3 := hid hm3;clear hw3 hm3)
     | (go_at_call 103;(with_reducible refine (heard0 _).mono ?_);rintro e w4 ⟨rfl,rfl⟩))
    try rw [Exit.noGoto_ret]
    rw [← HPQ.out,HR.out]
    dsimp only
    rw [HSX.out]
    try go_ret
    exact ⟨rfl,c3,HW1.out.trans HW3.out,HM3.out⟩
   ·rw [if_neg (by rw [hz];decide),hz] at hh
    have HR := hid hh
    rw [hz] at HSY
    clear hh hz hsx y1 y2 y3 hm h0 hw hg hsl HM H0 hj
    generalize (saves p l).2.sync.2 = s at *
    go_wp2_with (first
     | (go_at_call 104;(with_reducible refine HSY.out.mono ?_);rintro e w3 ⟨rfl,c3,hw3,hm3⟩;have HW3 := hid (HWJ.out.trans hw3);have HM3 := hid hm3;clear hw3 hm3)
     | (go_at_call 103;(with_reducible refine (heard9 _).mono ?_);rintro e w4 ⟨rfl,rfl⟩))
    try rw [Exit.noGoto_ret]
    rw [← HPQ.out,HR.out]
    dsimp only
    rw [HSX.out]
    try go_ret
    exact ⟨rfl,c3,HW1.out.trans HW3.out,HM3.out⟩
end
end RgI
namespace RgK
open Go.ChangeShapes Go.WideShapes Go.ChangeAt Go.RowKit
open Mem Blk Cells Orow RfP RgP RgS RgA RgB RgC RgO RgD RgE RgF RgG RgI RgJ Stages
open ArM (Ar Fr fUsed fFree)
open ArC (ArAt FR)
open Dev (Dv DevAt)
open ListM (outL frontL okO okF)
open HdM (Hs)
open RgH (hs)
open MdM (Md MdOp Re)
open RfM (Pl)
open RfI (InvE Inv)
open RgM (Bnd saveC saveS)
section
variable {w w' : World} {col col' : Nat → Nat} {ν : Nm} {S : Dv} {A : Ar} {L : List Nat} {H : Hs} {T : Nat → Bool} {p : Pl} {h : Option Nat} {f q k n b g dl dc : Nat} {D : Option Addr}
theorem md_code {a : Md} {c : Int} {o : MdOp} (ho : o.k ≠ 1 ∧ o.k ≠ 2 ∧ o.k ≠ 3) : ∃ z,(a.run c o).1 = MdM.err z := by
 have hp : ∀ (pg : Int) (f : Nat → Re × Md),(∀ q,∃ z,(f q).1 = MdM.err z) → ∃ z,(a.onPage pg f).1 = MdM.err z := fun pg f h => by
  unfold Md.onPage
  split
  ·exact ⟨_,rfl⟩
  ·split
   ·exact ⟨_,rfl⟩
   ·exact h _
 have hh : ∀ (c h : Int) (f : Nat → Re × Md),(∀ q,∃ z,(f q).1 = MdM.err z) → ∃ z,(a.onHand c h f).1 = MdM.err z := fun c h f hf => by
  unfold Md.onHand
  split
  ·exact ⟨_,rfl⟩
  ·exact hf _
 unfold Md.run
 split
 ·exact ⟨_,rfl⟩
 rw [if_neg ho.1,if_neg ho.2.1,if_neg ho.2.2]
 split
 ·exact hh _ _ _ fun q => by
   unfold Md.write
   split
   ·exact ⟨_,rfl⟩
   ·exact ⟨_,rfl⟩
 split
 ·exact hh _ _ _ fun q => ⟨_,rfl⟩
 split
 ·exact hp _ _ fun q => ⟨_,rfl⟩
 split
 ·exact ⟨_,rfl⟩
 ·exact hp _ _ fun q => by
   unfold Md.del
   split
   ·exact ⟨_,rfl⟩
   ·exact ⟨_,rfl⟩
theorem run_code {c : Int} {o : MdOp} (ho : o.k ≠ 1 ∧ o.k ≠ 2 ∧ o.k ≠ 3) : (p.run c o).1 = MdM.err (p.run c o).1.c := by
 obtain ⟨z,hz⟩ := md_code (a := p.X) (c := c) ho
 unfold Pl.run
 split
 ·rw [hz];rfl
 ·unfold Pl.fin
  split
  ·rfl
  ·dsimp only;rw [hz];rfl
theorem run_wild {c : Int} {o : MdOp} (h : ¬ (0 ≤ c ∧ c < (p.X.N : Int)) ∨ o.k < 1 ∨ 8 < o.k) : p.run c o = (MdM.err 1,p) := by
 have hr : p.X.run c o = (MdM.err 1,p.X) := by unfold Md.run;rw [if_pos h]
 unfold Pl.run
 rw [hr,if_pos (by exact (by decide : (1 : Int) ≠ 0))]
set_option maxRecDepth 100000 in
set_option maxHeartbeats 4000000 in
theorem do_any {o : MdOp} (x : MP w col ν p) (i : Inv p) (ft : Fit ν p) (c : Int) (hd : Sl w w.heap.size .u8 D dl o.d) (hdl : dl ≤ 1000000) (h63 : o.o ≤ 9223372036854775807) (hl : Bnd p.D k) (hk : k ≤ 100000) :
  Calls Tryz.prog 13 #[.pointer (some ⟨ν.r,0,none⟩),.int .i64 c,.agg #[.int .i64 o.k,.int .i64 o.p,.int .i64 o.h,.int .i64 o.o,.int .i64 o.n,.slice D dl dc]] w (RunPost ν w col (p.run c o)) := by
 have hb5 := Blk.new w 30 [.int .i64 o.k,.int .i64 o.p,.int .i64 o.h,.int .i64 o.o,.int .i64 o.n,.slice D dl dc]
 have hb6 := Blk.new (w.alloc (.cells #[.int .i64 o.k,.int .i64 o.p,.int .i64 o.h,.int .i64 o.o,.int .i64 o.n,.slice D dl dc] 30)) 27 [.int .i64 0,.int .i64 0,.int .i64 0,.slice none 0 0]
 have hs5 : (w.alloc (.cells #[.int .i64 o.k,.int .i64 o.p,.int .i64 o.h,.int .i64 o.o,.int .i64 o.n,.slice D dl dc] 30)).heap.size = w.heap.size + 1 := by simp
 rw [hs5] at hb6
 have hb5 := hb5.alloc (.cells #[.int .i64 0,.int .i64 0,.int .i64 0,.slice none 0 0] 27)
 have hg : Grow w ((w.alloc (.cells #[.int .i64 o.k,.int .i64 o.p,.int .i64 o.h,.int .i64 o.o,.int .i64 o.n,.slice D dl dc] 30)).alloc (.cells #[.int .i64 0,.int .i64 0,.int .i64 0,.slice none 0 0] 27)) := ((Kept.refl _ _).alloc _).alloc _
 have hx := x.grow hg
 have HX := hid hx
 have HW := hid (Went.grow (col := col) hg)
 have HC5 : Hid (paint w.heap.size 0 col w.heap.size < 6 ∨ 11 < paint w.heap.size 0 col w.heap.size) := .inl (by rw [paint_new (Nat.le_refl _)];decide)
 have HC : Hid (paint w.heap.size 0 col (w.heap.size + 1) < 6 ∨ 11 < paint w.heap.size 0 col (w.heap.size + 1)) := .inl (by rw [paint_new (Nat.le_succ _)];decide)
 have HB := hid hb6
 have HB5 := hid hb5
 have o0 := hb5.cell 0
 have o1 := hb5.cell 1
 have o2 := hb5.cell 2
 have o3 := hb5.cell 3
 have o4 := hb5.cell 4
 have o5 := hb5.cell 5
 simp only [List.getElem?_cons_succ,List.getElem?_cons_zero] at o0 o1 o2 o3 o4 o5
 have e5 := hx.c5
 have HLT : Hid (w.heap.size + 1 < ((w.alloc (.cells #[.int .i64 o.k,.int .i64 o.p,.int .i64 o.h,.int .i64 o.o,.int .i64 o.n,.slice D dl dc] 30)).alloc (.cells #[.int .i64 0,.int .i64 0,.int .i64 0,.slice none 0 0] 27)).heap.size) := hb6.lt
 have HS5 := hid hs5
 have hN6 := i.gx.N.2
 rw [ft.N] at e5
 have hNz : (p.X.N : Int) ≤ 6 := by omega
 by_cases hout : ¬ (0 ≤ c ∧ c < (p.X.N : Int))
 ·have E := hid (run_wild (p := p) (o := o) (.inl hout))
  unfold RunPost
  rw [E.out]
  by_cases c0 : c < 0
  ·clear x i ft hd hdl hl hk hb5 hb6 hg hx hs5 h63 hN6 hout E
   go_enter Tryz.func13,Tryz.ntmps13
   go_upto_region 1 with (fail)
   rw [HS5.out] at *
   generalize ((w.alloc (.cells #[.int .i64 o.k,.int .i64 o.p,.int .i64 o.h,.int .i64 o.o,.int .i64 o.n,.slice D dl dc] 30)).alloc (.cells #[.int .i64 0,.int .i64 0,.int .i64 0,.slice none 0 0] 27)) = w0 at *
   generalize paint w.heap.size 0 col = c0 at *
   have HWL := HW
   have HXL := HX
   have HBL := hid (And.intro HB.out HC.out)
   go_wp2_with (first
    | (go_at_call 39;(with_reducible refine (code_any _ _).mono ?_);rintro e wz ⟨rfl,hg⟩;have HG := hid hg;have HWZ := hid (HWL.out.trans (Went.grow hg));have HXZ := hid (HXL.out.grow hg);have HBZ := hid (Went.blk (Went.grow hg) HBL.out.1 HBL.out.2);clear hg)
    | (refine wpList_store_row rfl 27 _ _ rfl (w.heap.size + 1) #[.int .i64 1,.int .i64 0,.int .i64 0,.slice none 0 0] rfl rfl _ _ HBZ.out.1 MdC.res_size rfl (by simp [Value.oneCell']) ?_))
   obtain ⟨f1,f2⟩ := fin_r HWZ.out HXZ.out HBZ.out.1 HBZ.out.2 (Nat.le_succ _) (resv_none _ (w.heap.size + 1 + 1) _ 1 0 0) (Nat.lt_succ_self _)
   exact MdC.ret_res (g := w.heap.size + 1) rfl rfl f1 rfl f2
  ·have c1 : (p.X.N : Int) ≤ c := by omega
   clear x i ft hd hdl hl hk hb5 hb6 hg hx hs5 h63 hN6 hout E
   go_enter Tryz.func13,Tryz.ntmps13
   go_upto_region 1 with (fail)
   rw [HS5.out] at *
   generalize ((w.alloc (.cells #[.int .i64 o.k,.int .i64 o.p,.int .i64 o.h,.int .i64 o.o,.int .i64 o.n,.slice D dl dc] 30)).alloc (.cells #[.int .i64 0,.int .i64 0,.int .i64 0,.slice none 0 0] 27)) = w0 at *
   generalize paint w.heap.size 0 col = c0 at *
   have HWL := HW
   have HXL := HX
   have HBL := hid (And.intro HB.out HC.out)
   go_wp2_with (first
    | (go_at_call 39;(with_reducible refine (code_any _ _).mono ?_);rintro e wz ⟨rfl,hg⟩;have HG := hid hg;have HWZ := hid (HWL.out.trans (Went.grow hg));have HXZ := hid (HXL.out.grow hg);have HBZ := hid (Went.blk (Went.grow hg) HBL.out.1 HBL.out.2);clear hg)
    | (refine wpList_store_row rfl 27 _ _ rfl (w.heap.size + 1) #[.int .i64 1,.int .i64 0,.int .i64 0,.slice none 0 0] rfl rfl _ _ HBZ.out.1 MdC.res_size rfl (by simp [Value.oneCell']) ?_))
   obtain ⟨f1,f2⟩ := fin_r HWZ.out HXZ.out HBZ.out.1 HBZ.out.2 (Nat.le_succ _) (resv_none _ (w.heap.size + 1 + 1) _ 1 0 0) (Nat.lt_succ_self _)
   exact MdC.ret_res (g := w.heap.size + 1) rfl rfl f1 rfl f2
 ·have hcc : 0 ≤ c ∧ c < (p.X.N : Int) := by omega
  obtain ⟨cn,rfl⟩ := Int.eq_ofNat_of_zero_le hcc.1
  have hcn : cn < p.X.N := by omega
  have hcz : (cn : Int) < (p.X.N : Int) := hcc.2
  by_cases hwild : o.k < 1 ∨ 8 < o.k
  ·have E := hid (run_wild (p := p) (c := (cn : Int)) (o := o) (.inr hwild))
   unfold RunPost
   rw [E.out]
   have k1 : (o.k == 1) = false := by simp;omega
   have k2 : (o.k == 2) = false := by simp;omega
   have k3 : (o.k == 3) = false := by simp;omega
   have k4 : (o.k == 4) = false := by simp;omega
   have k5 : (o.k == 5) = false := by simp;omega
   have k6 : (o.k == 6) = false := by simp;omega
   have k7 : (o.k == 7) = false := by simp;omega
   have k8 : (o.k == 8) = false := by simp;omega
   clear x i ft hd hdl hl hk hb5 hb6 hg hx hs5 h63 hN6 hout E hwild hcc hcn
   generalize o.k = ok at *
   go_enter Tryz.func13,Tryz.ntmps13
   go_upto_region 1 with (fail)
   rw [HS5.out] at *
   generalize ((w.alloc (.cells #[.int .i64 o.k,.int .i64 o.p,.int .i64 o.h,.int .i64 o.o,.int .i64 o.n,.slice D dl dc] 30)).alloc (.cells #[.int .i64 0,.int .i64 0,.int .i64 0,.slice none 0 0] 27)) = w0 at *
   generalize paint w.heap.size 0 col = c0 at *
   have HWL := HW
   have HXL := HX
   have HBL := hid (And.intro HB.out HC.out)
   go_wp2_with (first
    | (go_at_call 39;(with_reducible refine (code_any _ _).mono ?_);rintro e wz ⟨rfl,hg⟩;have HG := hid hg;have HWZ := hid (HWL.out.trans (Went.grow hg));have HXZ := hid (HXL.out.grow hg);have HBZ := hid (Went.blk (Went.grow hg) HBL.out.1 HBL.out.2);clear hg)
    | (refine wpList_store_row rfl 27 _ _ rfl (w.heap.size + 1) #[.int .i64 1,.int .i64 0,.int .i64 0,.slice none 0 0] rfl rfl _ _ HBZ.out.1 MdC.res_size rfl (by simp [Value.oneCell']) ?_))
   obtain ⟨f1,f2⟩ := fin_r HWZ.out HXZ.out HBZ.out.1 HBZ.out.2 (Nat.le_succ _) (resv_none _ (w.heap.size + 1 + 1) _ 1 0 0) (Nat.lt_succ_self _)
   exact MdC.ret_res (g := w.heap.size + 1) rfl rfl f1 rfl f2
  ·have hk18 : o.k = 1 ∨ o.k = 2 ∨ o.k = 3 ∨ o.k = 4 ∨ o.k = 5 ∨ o.k = 6 ∨ o.k = 7 ∨ o.k = 8 := by omega
   have hd0 : Sl ((w.alloc (.cells #[.int .i64 o.k,.int .i64 o.p,.int .i64 o.h,.int .i64 o.o,.int .i64 o.n,.slice D dl dc] 30)).alloc (.cells #[.int .i64 0,.int .i64 0,.int .i64 0,.slice none 0 0] 27)) ((w.alloc (.cells #[.int .i64 o.k,.int .i64 o.p,.int .i64 o.h,.int .i64 o.o,.int .i64 o.n,.slice D dl dc] 30)).alloc (.cells #[.int .i64 0,.int .i64 0,.int .i64 0,.slice none 0 0] 27)).heap.size .u8 D dl o.d := (Sl.kept hd hg (Nat.le_refl _) fun _ _ e => e).more hg.size
   rcases hk18 with hko | hko | hko | hko | hko | hko | hko | hko
   ·have HCA := hid (create_any hx i ft hcn hko hl hk)
    unfold RunPost at HCA ⊢
    have HKO := hid hko
    clear x i ft hd hdl hl hk hb5 hb6 hg hx hs5 h63 hN6 hout hwild hcc hcn hko hd0
    generalize p.run (cn : Int) o = y at *
    go_enter Tryz.func13,Tryz.ntmps13
    go_upto_region 1 with (fail)
    rw [HS5.out] at *
    generalize ((w.alloc (.cells #[.int .i64 o.k,.int .i64 o.p,.int .i64 o.h,.int .i64 o.o,.int .i64 o.n,.slice D dl dc] 30)).alloc (.cells #[.int .i64 0,.int .i64 0,.int .i64 0,.slice none 0 0] 27)) = w0 at *
    generalize paint w.heap.size 0 col = c0 at *
    rw [HKO.out] at o0
    go_wp2_with (first
     | (go_at_call 40;(with_reducible refine HCA.out.mono ?_);rintro e w5 ⟨rv,c5,rfl,hv,hw5,hm5⟩;obtain ⟨A5,n5,k5,rfl,hv2⟩ := hv;have HV5 : Hid (ResV w5 _ c5 _ _) := ⟨A5,n5,k5,rfl,hv2⟩;have HW5 := hid (HW.out.trans hw5);have HX5 := hid hm5;have HB5 := hid (Went.blk hw5 HB.out HC.out);clear hv2 hw5 hm5)
     | (refine wpList_store_row rfl 27 _ _ rfl (w.heap.size + 1) #[.int .i64 y.1.c,.int .i64 y.1.p,.int .i64 y.1.h,.slice A5 n5 k5] rfl rfl _ _ HB5.out.1 MdC.res_size rfl (by simp [Value.oneCell']) ?_))
    obtain ⟨f1,f2⟩ := fin_r HW5.out HX5.out HB5.out.1 HB5.out.2 (Nat.le_succ _) HV5.out HLT.out
    exact MdC.ret_res (g := w.heap.size + 1) rfl rfl f1 rfl f2
   ·have HCA := hid (fetch_any hx i ft hcn hko hl hk)
    unfold RunPost at HCA ⊢
    have HKO := hid hko
    clear x i ft hd hdl hl hk hb5 hb6 hg hx hs5 h63 hN6 hout hwild hcc hcn hko hd0
    generalize p.run (cn : Int) o = y at *
    go_enter Tryz.func13,Tryz.ntmps13
    go_upto_region 1 with (fail)
    rw [HS5.out] at *
    generalize ((w.alloc (.cells #[.int .i64 o.k,.int .i64 o.p,.int .i64 o.h,.int .i64 o.o,.int .i64 o.n,.slice D dl dc] 30)).alloc (.cells #[.int .i64 0,.int .i64 0,.int .i64 0,.slice none 0 0] 27)) = w0 at *
    generalize paint w.heap.size 0 col = c0 at *
    rw [HKO.out] at o0
    go_wp2_with (first
     | (go_at_call 41;(with_reducible refine HCA.out.mono ?_);rintro e w5 ⟨rv,c5,rfl,hv,hw5,hm5⟩;obtain ⟨A5,n5,k5,rfl,hv2⟩ := hv;have HV5 : Hid (ResV w5 _ c5 _ _) := ⟨A5,n5,k5,rfl,hv2⟩;have HW5 := hid (HW.out.trans hw5);have HX5 := hid hm5;have HB5 := hid (Went.blk hw5 HB.out HC.out);clear hv2 hw5 hm5)
     | (refine wpList_store_row rfl 27 _ _ rfl (w.heap.size + 1) #[.int .i64 y.1.c,.int .i64 y.1.p,.int .i64 y.1.h,.slice A5 n5 k5] rfl rfl _ _ HB5.out.1 MdC.res_size rfl (by simp [Value.oneCell']) ?_))
    obtain ⟨f1,f2⟩ := fin_r HW5.out HX5.out HB5.out.1 HB5.out.2 (Nat.le_succ _) HV5.out HLT.out
    exact MdC.ret_res (g := w.heap.size + 1) rfl rfl f1 rfl f2
   ·have HCA := hid (read_any (D := D) (dl := dl) (dc := dc) hx i ft hcn hko h63)
    unfold RunPost at HCA ⊢
    have HKO := hid hko
    clear x i ft hd hdl hl hk hb5 hb6 hg hx hs5 h63 hN6 hout hwild hcc hcn hko hd0
    generalize p.run (cn : Int) o = y at *
    go_enter Tryz.func13,Tryz.ntmps13
    go_upto_region 1 with (fail)
    rw [HS5.out] at *
    generalize ((w.alloc (.cells #[.int .i64 o.k,.int .i64 o.p,.int .i64 o.h,.int .i64 o.o,.int .i64 o.n,.slice D dl dc] 30)).alloc (.cells #[.int .i64 0,.int .i64 0,.int .i64 0,.slice none 0 0] 27)) = w0 at *
    generalize paint w.heap.size 0 col = c0 at *
    rw [HKO.out] at o0 HCA
    go_wp2_with (first
     | (go_at_call 42;(with_reducible refine HCA.out.mono ?_);rintro e w5 ⟨rv,c5,rfl,hv,hw5,hm5⟩;obtain ⟨A5,n5,k5,rfl,hv2⟩ := hv;have HV5 : Hid (ResV w5 _ c5 _ _) := ⟨A5,n5,k5,rfl,hv2⟩;have HW5 := hid (HW.out.trans hw5);have HX5 := hid hm5;have HB5 := hid (Went.blk hw5 HB.out HC.out);clear hv2 hw5 hm5)
     | (refine wpList_store_row rfl 27 _ _ rfl (w.heap.size + 1) #[.int .i64 y.1.c,.int .i64 y.1.p,.int .i64 y.1.h,.slice A5 n5 k5] rfl rfl _ _ HB5.out.1 MdC.res_size rfl (by simp [Value.oneCell']) ?_))
    obtain ⟨f1,f2⟩ := fin_r HW5.out HX5.out HB5.out.1 HB5.out.2 (Nat.le_succ _) HV5.out HLT.out
    exact MdC.ret_res (g := w.heap.size + 1) rfl rfl f1 rfl f2
   ·have HCA := hid (write_any (dc := dc) hx i ft hcn hko hd0 hdl)
    have HRC := hid (run_code (p := p) (c := (cn : Int)) (o := o) (by omega))
    unfold CodePost at HCA
    unfold RunPost
    have HKO := hid hko
    clear x i ft hd hdl hl hk hb5 hb6 hg hx hs5 h63 hN6 hout hwild hcc hcn hko hd0
    generalize p.run (cn : Int) o = y at *
    go_enter Tryz.func13,Tryz.ntmps13
    go_upto_region 1 with (fail)
    rw [HS5.out] at *
    generalize ((w.alloc (.cells #[.int .i64 o.k,.int .i64 o.p,.int .i64 o.h,.int .i64 o.o,.int .i64 o.n,.slice D dl dc] 30)).alloc (.cells #[.int .i64 0,.int .i64 0,.int .i64 0,.slice none 0 0] 27)) = w0 at *
    generalize paint w.heap.size 0 col = c0 at *
    rw [HKO.out] at o0 HCA
    go_wp2_with (first
     | (go_at_call 43;(with_reducible refine HCA.out.mono ?_);rintro e w2 ⟨rfl,c2',hw2,hm2⟩;have HWL := hid (HW.out.trans hw2);have HBL := hid (Went.blk hw2 HB.out HC.out);have HXL := hid hm2;clear hw2 hm2)
     | (go_at_call 39;(with_reducible refine (code_any _ _).mono ?_);rintro e wz ⟨rfl,hg⟩;have HG := hid hg;have HWZ := hid (HWL.out.trans (Went.grow hg));have HXZ := hid (HXL.out.grow hg);have HBZ := hid (Went.blk (Went.grow hg) HBL.out.1 HBL.out.2);clear hg)
     | (refine wpList_store_row rfl 27 _ _ rfl (w.heap.size + 1) #[.int .i64 y.1.c,.int .i64 0,.int .i64 0,.slice none 0 0] rfl rfl _ _ HBZ.out.1 MdC.res_size rfl (by simp [Value.oneCell']) ?_))
    obtain ⟨f1,f2⟩ := fin_r HWZ.out HXZ.out HBZ.out.1 HBZ.out.2 (Nat.le_succ _) (resv_none _ (w.heap.size + 1 + 1) _ y.1.c 0 0) (Nat.lt_succ_self _)
    rw [HRC.out]
    exact MdC.ret_res (g := w.heap.size + 1) rfl rfl f1 rfl f2
   ·have HCA := hid (unpin_any hx i hcn hko)
    have HRC := hid (run_code (p := p) (c := (cn : Int)) (o := o) (by omega))
    unfold CodePost at HCA
    unfold RunPost
    have HKO := hid hko
    clear x i ft hd hdl hl hk hb5 hb6 hg hx hs5 h63 hN6 hout hwild hcc hcn hko hd0
    generalize p.run (cn : Int) o = y at *
    go_enter Tryz.func13,Tryz.ntmps13
    go_upto_region 1 with (fail)
    rw [HS5.out] at *
    generalize ((w.alloc (.cells #[.int .i64 o.k,.int .i64 o.p,.int .i64 o.h,.int .i64 o.o,.int .i64 o.n,.slice D dl dc] 30)).alloc (.cells #[.int .i64 0,.int .i64 0,.int .i64 0,.slice none 0 0] 27)) = w0 at *
    generalize paint w.heap.size 0 col = c0 at *
    rw [HKO.out] at o0
    go_wp2_with (first
     | (go_at_call 44;(with_reducible refine HCA.out.mono ?_);rintro e w2 ⟨rfl,c2',hw2,hm2⟩;have HWL := hid (HW.out.trans hw2);have HBL := hid (Went.blk hw2 HB.out HC.out);have HXL := hid hm2;clear hw2 hm2)
     | (go_at_call 39;(with_reducible refine (code_any _ _).mono ?_);rintro e wz ⟨rfl,hg⟩;have HG := hid hg;have HWZ := hid (HWL.out.trans (Went.grow hg));have HXZ := hid (HXL.out.grow hg);have HBZ := hid (Went.blk (Went.grow hg) HBL.out.1 HBL.out.2);clear hg)
     | (refine wpList_store_row rfl 27 _ _ rfl (w.heap.size + 1) #[.int .i64 y.1.c,.int .i64 0,.int .i64 0,.slice none 0 0] rfl rfl _ _ HBZ.out.1 MdC.res_size rfl (by simp [Value.oneCell']) ?_))
    obtain ⟨f1,f2⟩ := fin_r HWZ.out HXZ.out HBZ.out.1 HBZ.out.2 (Nat.le_succ _) (resv_none _ (w.heap.size + 1 + 1) _ y.1.c 0 0) (Nat.lt_succ_self _)
    rw [HRC.out]
    exact MdC.ret_res (g := w.heap.size + 1) rfl rfl f1 rfl f2
   ·have HCA := hid (flush_any hx i ft hcn hko hl hk)
    have HRC := hid (run_code (p := p) (c := (cn : Int)) (o := o) (by omega))
    unfold CodePost at HCA
    unfold RunPost
    have HKO := hid hko
    clear x i ft hd hdl hl hk hb5 hb6 hg hx hs5 h63 hN6 hout hwild hcc hcn hko hd0
    generalize p.run (cn : Int) o = y at *
    go_enter Tryz.func13,Tryz.ntmps13
    go_upto_region 1 with (fail)
    rw [HS5.out] at *
    generalize ((w.alloc (.cells #[.int .i64 o.k,.int .i64 o.p,.int .i64 o.h,.int .i64 o.o,.int .i64 o.n,.slice D dl dc] 30)).alloc (.cells #[.int .i64 0,.int .i64 0,.int .i64 0,.slice none 0 0] 27)) = w0 at *
    generalize paint w.heap.size 0 col = c0 at *
    rw [HKO.out] at o0
    go_wp2_with (first
     | (go_at_call 45;(with_reducible refine HCA.out.mono ?_);rintro e w2 ⟨rfl,c2',hw2,hm2⟩;have HWL := hid (HW.out.trans hw2);have HBL := hid (Went.blk hw2 HB.out HC.out);have HXL := hid hm2;clear hw2 hm2)
     | (go_at_call 39;(with_reducible refine (code_any _ _).mono ?_);rintro e wz ⟨rfl,hg⟩;have HG := hid hg;have HWZ := hid (HWL.out.trans (Went.grow hg));have HXZ := hid (HXL.out.grow hg);have HBZ := hid (Went.blk (Went.grow hg) HBL.out.1 HBL.out.2);clear hg)
     | (refine wpList_store_row rfl 27 _ _ rfl (w.heap.size + 1) #[.int .i64 y.1.c,.int .i64 0,.int .i64 0,.slice none 0 0] rfl rfl _ _ HBZ.out.1 MdC.res_size rfl (by simp [Value.oneCell']) ?_))
    obtain ⟨f1,f2⟩ := fin_r HWZ.out HXZ.out HBZ.out.1 HBZ.out.2 (Nat.le_succ _) (resv_none _ (w.heap.size + 1 + 1) _ y.1.c 0 0) (Nat.lt_succ_self _)
    rw [HRC.out]
    exact MdC.ret_res (g := w.heap.size + 1) rfl rfl f1 rfl f2
   ·have HCA := hid (flushAll_any hx i hcn hko hl hk)
    have HRC := hid (run_code (p := p) (c := (cn : Int)) (o := o) (by omega))
    unfold CodePost at HCA
    unfold RunPost
    have HKO := hid hko
    clear x i ft hd hdl hl hk hb5 hb6 hg hx hs5 h63 hN6 hout hwild hcc hcn hko hd0
    generalize p.run (cn : Int) o = y at *
    go_enter Tryz.func13,Tryz.ntmps13
    go_upto_region 1 with (fail)
    rw [HS5.out] at *
    generalize ((w.alloc (.cells #[.int .i64 o.k,.int .i64 o.p,.int .i64 o.h,.int .i64 o.o,.int .i64 o.n,.slice D dl dc] 30)).alloc (.cells #[.int .i64 0,.int .i64 0,.int .i64 0,.slice none 0 0] 27)) = w0 at *
    generalize paint w.heap.size 0 col = c0 at *
    rw [HKO.out] at o0
    go_wp2_with (first
     | (go_at_call 46;(with_reducible refine HCA.out.mono ?_);rintro e w2 ⟨rfl,c2',hw2,hm2⟩;have HWL := hid (HW.out.trans hw2);have HBL := hid (Went.blk hw2 HB.out HC.out);have HXL := hid hm2;clear hw2 hm2)
     | (go_at_call 39;(with_reducible refine (code_any _ _).mono ?_);rintro e wz ⟨rfl,hg⟩;have HG := hid hg;have HWZ := hid (HWL.out.trans (Went.grow hg));have HXZ := hid (HXL.out.grow hg);have HBZ := hid (Went.blk (Went.grow hg) HBL.out.1 HBL.out.2);clear hg)
     | (refine wpList_store_row rfl 27 _ _ rfl (w.heap.size + 1) #[.int .i64 y.1.c,.int .i64 0,.int .i64 0,.slice none 0 0] rfl rfl _ _ HBZ.out.1 MdC.res_size rfl (by simp [Value.oneCell']) ?_))
    obtain ⟨f1,f2⟩ := fin_r HWZ.out HXZ.out HBZ.out.1 HBZ.out.2 (Nat.le_succ _) (resv_none _ (w.heap.size + 1 + 1) _ y.1.c 0 0) (Nat.lt_succ_self _)
    rw [HRC.out]
    exact MdC.ret_res (g := w.heap.size + 1) rfl rfl f1 rfl f2
   ·have HCA := hid (remove_any hx i ft hcn hko)
    have HRC := hid (run_code (p := p) (c := (cn : Int)) (o := o) (by omega))
    unfold CodePost at HCA
    unfold RunPost
    have HKO := hid hko
    clear x i ft hd hdl hl hk hb5 hb6 hg hx hs5 h63 hN6 hout hwild hcc hcn hko hd0
    generalize p.run (cn : Int) o = y at *
    go_enter Tryz.func13,Tryz.ntmps13
    go_upto_region 1 with (fail)
    rw [HS5.out] at *
    generalize ((w.alloc (.cells #[.int .i64 o.k,.int .i64 o.p,.int .i64 o.h,.int .i64 o.o,.int .i64 o.n,.slice D dl dc] 30)).alloc (.cells #[.int .i64 0,.int .i64 0,.int .i64 0,.slice none 0 0] 27)) = w0 at *
    generalize paint w.heap.size 0 col = c0 at *
    rw [HKO.out] at o0
    go_wp2_with (first
     | (go_at_call 47;(with_reducible refine HCA.out.mono ?_);rintro e w2 ⟨rfl,c2',hw2,hm2⟩;have HWL := hid (HW.out.trans hw2);have HBL := hid (Went.blk hw2 HB.out HC.out);have HXL := hid hm2;clear hw2 hm2)
     | (go_at_call 39;(with_reducible refine (code_any _ _).mono ?_);rintro e wz ⟨rfl,hg⟩;have HG := hid hg;have HWZ := hid (HWL.out.trans (Went.grow hg));have HXZ := hid (HXL.out.grow hg);have HBZ := hid (Went.blk (Went.grow hg) HBL.out.1 HBL.out.2);clear hg)
     | (refine wpList_store_row rfl 27 _ _ rfl (w.heap.size + 1) #[.int .i64 y.1.c,.int .i64 0,.int .i64 0,.slice none 0 0] rfl rfl _ _ HBZ.out.1 MdC.res_size rfl (by simp [Value.oneCell']) ?_))
    obtain ⟨f1,f2⟩ := fin_r HWZ.out HXZ.out HBZ.out.1 HBZ.out.2 (Nat.le_succ _) (resv_none _ (w.heap.size + 1 + 1) _ y.1.c 0 0) (Nat.lt_succ_self _)
    rw [HRC.out]
    exact MdC.ret_res (g := w.heap.size + 1) rfl rfl f1 rfl f2
end
end RgK
end Go.Proofs.YtbnkpnllgoghnaaGreat
