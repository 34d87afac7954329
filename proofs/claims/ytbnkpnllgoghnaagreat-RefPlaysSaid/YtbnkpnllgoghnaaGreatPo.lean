import Derived.Test.YtbnkpnllgoghnaaGreatPn
import Derived.ChangeArms
set_option linter.unusedVariables false
namespace Go.Proofs.YtbnkpnllgoghnaaGreat
open Go.Lib (hid)
namespace RdI
open Go.ChangeShapes Go.WideShapes Go.ChangeAt Go.RowKit
open Mem Blk Cells Orow RfP RdS RdA RdB RdC RdG RgS RgQ RgN RgTw Stages
open ArC (FR)
open RfM (Pl)
open RgV (OwnFrames orderL thereL)
section
variable {w : World} {cA cB : Nat → Nat} {ν : Nm} {ρ : Rn} {p : Pl} {k : Nat}
set_option maxRecDepth 100000 in
set_option maxHeartbeats 4000000 in
theorem same_any (x : PAt w cA ν p k) (y : RdP w cB ρ p) : Calls Tryz.prog 24 #[.pointer (some ⟨ν.r,0,none⟩),.pointer (some ⟨ρ.m,0,none⟩)] w fun e w' => e = .returned (.bool true) ∧ Grow w w' := by
 have HP := hid x
 have HR := hid y
 have hn := x.i.ga.n
 have hn1 := x.i.n1
 have hnz : (p.A.n : Int) ≤ 32 := by omega
 have HN48 : Hid (p.D.N ≤ 48) := by show p.D.N ≤ 48;rw [x.i.dN];exact x.i.gx.n.2
 have hlo : (orderL p.A.F p.L).length ≤ 100000 := by rw [RgV.orderL_len];have := RgD.len32 x.i;omega
 have hlt : (thereL p.X.T p.X.n).length ≤ 100000 := by have := RgV.thereL_le p.X.T p.X.n;have := x.i.gx.n.2;omega
 have hlw : (Dev.waitL p.D p.D.N).length ≤ 100000 := by have := DevY.waitL_le p.D p.D.N;have := HN48.out;omega
 have HLN := hid (And.intro hlo (And.intro hlt hlw))
 clear hlo hlt hlw
 have HFM := hid (pframes x)
 have HDK : Hid (∀ wx,Grow w wx → Calls Tryz.prog 17 #[.pointer (some ⟨ν.r,0,none⟩)] wx fun e w' => e = .returned (.pointer (some ⟨ν.d,0,none⟩)) ∧ wx = w') := fun wx hk => RgV.disk_any (HP.out.grow hk).m
 have HOR : Hid (∀ wx,Grow w wx → Calls Tryz.prog 33 #[.pointer (some ⟨ν.r,0,none⟩)] wx (IntsP wx (orderL p.A.F p.L))) := fun wx hk => own_p (porder (HP.out.grow hk))
 have HOD : Hid (∀ wx,Grow w wx → Calls Tryz.prog 68 #[.pointer (some ⟨ρ.m,0,none⟩)] wx (IntsP wx (orderL p.A.F p.L))) := fun wx hk => rorder_any (HR.out.grow hk) hn1 hn (fun f hf => ((HP.out.i.mem f).1 hf).1) (RgD.len32 HP.out.i)
 have HTH : Hid (∀ wx,Grow w wx → Calls Tryz.prog 15 #[.pointer (some ⟨ν.r,0,none⟩)] wx (IntsP wx (thereL p.X.T p.X.n))) := fun wx hk => own_p (pthere (HP.out.grow hk))
 have HAC : Hid (∀ wx,Grow w wx → Calls Tryz.prog 70 #[.pointer (some ⟨ν.d,0,none⟩)] wx fun e w' => e = .returned (.int .i64 (p.D.n : Int)) ∧ wx = w') := fun wx hk => DevC.accesses_any (HP.out.grow hk).m.dev
 have HDU : Hid (∀ wx,Grow w wx → Calls Tryz.prog 29 #[.pointer (some ⟨ν.d,0,none⟩)] wx (DevY.DurOf wx p.D.N p.D.dur)) := fun wx hk => DevY.durable_any (HP.out.grow hk).m.dev
 have HWA : Hid (∀ wx,Grow w wx → Calls Tryz.prog 31 #[.pointer (some ⟨ν.d,0,none⟩)] wx (IntsP wx (Dev.waitL p.D p.D.N))) := fun wx hk => of_p (DevY.waits_any (HP.out.grow hk).m.dev)
 have HWD : Hid (∀ wx,Grow w wx → Calls Tryz.prog 72 #[.pointer (some ⟨ρ.r.m,0,none⟩)] wx (IntsP wx (Dev.waitL p.D p.D.N))) := fun wx hk => of_p (RefM.rwaits_any (HR.out.grow hk).t.d.1)
 obtain ⟨x0,y0,z0,hown,hxat⟩ := y.own
 obtain ⟨gT,cT,gB,cB',gH,cH,q0,p0,hv,_⟩ := hxat.mem
 unfold MdC.sval at hv
 simp only [Value.agg.injEq,Array.mk.injEq,List.cons.injEq,and_true] at hv
 obtain ⟨rfl,rfl,rfl⟩ := hv
 have HPG : Hid (∀ wx,Grow w wx → Calls Tryz.prog 69 #[.agg #[.slice (some ⟨gT,0,none⟩) p.X.n cT,.slice (some ⟨gB,0,none⟩) p.X.n cB',.slice (some ⟨gH,0,none⟩) p.X.N cH]] wx (IntsP wx (thereL p.X.T p.X.n))) := fun wx hk => rpages_any (hxat.grow hk)
 obtain ⟨gF,cF,gB2,cB2,a0,_,hfr,_,_⟩ := parts y hn1
 have t0 := hown.cell 0
 have t1 := hown.cell 1
 have t2 := hown.cell 2
 simp only [dcells,ZeZ,ZeS] at t0 t1 t2
 obtain ⟨tl,h3,_⟩ := y.t.d.1
 have HC := hid (And.intro t0 (And.intro t1 (And.intro t2 (And.intro y.c3 (And.intro y.c4 (And.intro a0 (And.intro h3.c0 h3.c3)))))))
 have HSF := hid h3.safe
 have HFR := hid hfr
 clear x y hown hxat a0 hfr t0 t1 t2 h3
 go_enter Tryz.func24,Tryz.ntmps24
 go_upto_region 2 with (go_at_call 14;(with_reducible refine HFM.out.mono ?_);rintro e w1 ⟨g,c,rfl,ho,_,hg⟩;have HO := hid ho;have HG1 := hid hg;clear ho hg)
 simp only [List.append]
 refine wp_region_stages Grow (kept_refl _) (kept_trans _) [([0],1),([2,3,4,5,6,7,8,9,10,11,12,13,14,15,16,17,19],18),([],20),([],21),([22,23,24,25,27,28,29,30],26),([],31),([],32),([33,34,35,36,39,40,41,42,43,44,45],37),([],38),([46,47,48,49,52,53,54,55,56,57,58],50),([],51),([],59),([60,61,62,63,66,67,68,69],64),([],65),([],70),([],71)] [72,73] (by kernel_rfl) (by kernel_rfl) ?_
 simp only [selSt,sel,ZmC,ZmN,ZgS,ZgZ]
 have HGX : Hid (Grow w1 w1.drew) := Kept.drew' w1
 generalize w1.drew = u0 at *
 have H0 : Hid (Grow w u0) := HG1.out.trans HGX.out
 refine st_cons fun K1 hK1 => ?_
 repeat (go_big_quiet_step (fail))
 refine wpQuiet_nil ?_
 go_wp2_with (go_at_call 17;(with_reducible refine (HDK.out _ H0.out).mono ?_);rintro e w' ⟨rfl,rfl⟩)
 refine norm_up (hK1 _ _ (Kept.refl _ _) (st_cons fun K2 hK2 => ?_))
 clear hK1 K1
 have qm4 := up_cell (F := fun _ => False) (w := u0) (H0.out.cellN HC.out.2.2.2.2.1 id) id
 have qa0 := up_cell (F := fun _ => False) (w := u0) (H0.out.cellN HC.out.2.2.2.2.2.1 id) id
 repeat (go_big_quiet_step (fail))
 refine wpQuiet_nil ?_
 clear qm4 qa0
 go_wp2_with (go_at_call 33;(with_reducible refine (HOR.out _ H0.out).mono ?_);rintro e u1 ⟨A1,c1,rfl,hs,hg⟩;have HS1 := hid hs;have HX1 := hid hg;clear hs hg)
 refine norm_up (hK2 _ _ HX1.out (st_cons fun K3 hK3 => ?_))
 clear hK2 K2
 have H1 : Hid (Grow w u1) := H0.out.trans HX1.out
 repeat (go_big_quiet_step (fail))
 refine wpQuiet_nil ?_
 go_wp2_with (go_at_call 68;(with_reducible refine (HOD.out _ H1.out).mono ?_);rintro e u2 ⟨A2,c2,rfl,hs,hg⟩;have HS2 := hid hs;have HX2 := hid hg;clear hs hg)
 refine norm_up (hK3 _ _ HX2.out (st_cons fun K4 hK4 => ?_))
 clear hK3 K3
 have H2 : Hid (Grow w u2) := H1.out.trans HX2.out
 repeat (go_big_quiet_step (fail))
 refine wpQuiet_nil ?_
 go_wp2_with (go_at_call 67;(with_reducible refine (IntsC.ints_true A1 A2 _ c1 c2 _ _ (orderL p.A.F p.L) HLN.out.1 (Sl.kept HS1.out HX2.out (Nat.le_refl _) fun _ _ e => e) HS2.out).mono ?_);rintro e u3 ⟨rfl,hg⟩;have HX3 := hid hg;clear hg)
 refine norm_up (hK4 _ _ HX3.out (st_cons fun K5 hK5 => ?_))
 clear hK4 K4
 have H3 : Hid (Grow w u3) := H2.out.trans HX3.out
 clear HS1 HS2
 have qm0 := up_cell (F := fun _ => False) (w := u3) (H3.out.cellN HC.out.1 id) id
 have qm1 := up_cell (F := fun _ => False) (w := u3) (H3.out.cellN HC.out.2.1 id) id
 have qm2 := up_cell (F := fun _ => False) (w := u3) (H3.out.cellN HC.out.2.2.1 id) id
 repeat (go_big_quiet_step (fail))
 refine wpQuiet_nil ?_
 clear qm0 qm1 qm2
 go_wp2_with (go_at_call 15;(with_reducible refine (HTH.out _ H3.out).mono ?_);rintro e u4 ⟨A3,c3,rfl,hs,hg⟩;have HS3 := hid hs;have HX4 := hid hg;clear hs hg)
 refine norm_up (hK5 _ _ HX4.out (st_cons fun K6 hK6 => ?_))
 clear hK5 K5
 have H4 : Hid (Grow w u4) := H3.out.trans HX4.out
 repeat (go_big_quiet_step (fail))
 refine wpQuiet_nil ?_
 go_wp2_with (go_at_call 69;(with_reducible refine (HPG.out _ H4.out).mono ?_);rintro e u5 ⟨A4,c4,rfl,hs,hg⟩;have HS4 := hid hs;have HX5 := hid hg;clear hs hg)
 refine norm_up (hK6 _ _ HX5.out (st_cons fun K7 hK7 => ?_))
 clear hK6 K6
 have H5 : Hid (Grow w u5) := H4.out.trans HX5.out
 repeat (go_big_quiet_step (fail))
 refine wpQuiet_nil ?_
 go_wp2_with (go_at_call 67;(with_reducible refine (IntsC.ints_true A3 A4 _ c3 c4 _ _ (thereL p.X.T p.X.n) HLN.out.2.1 (Sl.kept HS3.out HX5.out (Nat.le_refl _) fun _ _ e => e) HS4.out).mono ?_);rintro e u6 ⟨rfl,hg⟩;have HX6 := hid hg;clear hg)
 refine norm_up (hK7 _ _ HX6.out (st_cons fun K8 hK8 => ?_))
 clear hK7 K7
 have H6 : Hid (Grow w u6) := H5.out.trans HX6.out
 clear HS3 HS4
 have qm3 := up_cell (F := fun _ => False) (w := u6) (H6.out.cellN HC.out.2.2.2.1 id) id
 have qd3 := up_cell (F := fun _ => False) (w := u6) (H6.out.cellN HC.out.2.2.2.2.2.2.2 id) id
 repeat (go_big_quiet_step (fail))
 refine wpQuiet_nil ?_
 clear qm3 qd3
 go_wp2_with (go_at_call 17;(with_reducible refine (HDK.out _ H6.out).mono ?_);rintro e w' ⟨rfl,rfl⟩)
 refine norm_up (hK8 _ _ (Kept.refl _ _) (st_cons fun K9 hK9 => ?_))
 clear hK8 K8
 repeat (go_big_quiet_step (fail))
 refine wpQuiet_nil ?_
 go_wp2_with (go_at_call 70;(with_reducible refine (HAC.out _ H6.out).mono ?_);rintro e w' ⟨rfl,rfl⟩)
 refine norm_up (hK9 _ _ (Kept.refl _ _) (st_cons fun K10 hK10 => ?_))
 clear hK9 K9
 have qm3 := up_cell (F := fun _ => False) (w := u6) (H6.out.cellN HC.out.2.2.2.1 id) id
 have qd0 := up_cell (F := fun _ => False) (w := u6) (H6.out.cellN HC.out.2.2.2.2.2.2.1 id) id
 repeat (go_big_quiet_step (fail))
 refine wpQuiet_nil ?_
 clear qm3 qd0
 go_wp2_with (go_at_call 17;(with_reducible refine (HDK.out _ H6.out).mono ?_);rintro e w' ⟨rfl,rfl⟩)
 refine norm_up (hK10 _ _ (Kept.refl _ _) (st_cons fun K11 hK11 => ?_))
 clear hK10 K10
 repeat (go_big_quiet_step (fail))
 refine wpQuiet_nil ?_
 go_wp2_with (go_at_call 29;(with_reducible refine (HDU.out _ H6.out).mono ?_);rintro e u7 ⟨g5,c5,f5,rfl,_,hrow,hfr,hg⟩;have HRW := hid hrow;have HFF := hid hfr;have HX7 := hid hg;clear hrow hfr hg)
 refine norm_up (hK11 _ _ HX7.out (st_cons fun K12 hK12 => ?_))
 clear hK11 K11
 have H7 : Hid (Grow w u7) := H6.out.trans HX7.out
 repeat (go_big_quiet_step (fail))
 refine wpQuiet_nil ?_
 go_wp2_with (go_at_call 71;(with_reducible refine (texts_true g5 ρ.r.A p.D.N c5 ρ.r.cA f5 p.D.dur HN48.out HRW.out HFF.out (HSF.out.grow H7.out)).mono ?_);rintro e u8 ⟨rfl,hg⟩;have HX8 := hid hg;clear hg)
 refine norm_up (hK12 _ _ HX8.out (st_cons fun K13 hK13 => ?_))
 clear hK12 K12
 have H8 : Hid (Grow w u8) := H7.out.trans HX8.out
 clear HRW HFF
 have qm3 := up_cell (F := fun _ => False) (w := u8) (H8.out.cellN HC.out.2.2.2.1 id) id
 repeat (go_big_quiet_step (fail))
 refine wpQuiet_nil ?_
 clear qm3
 go_wp2_with (go_at_call 17;(with_reducible refine (HDK.out _ H8.out).mono ?_);rintro e w' ⟨rfl,rfl⟩)
 refine norm_up (hK13 _ _ (Kept.refl _ _) (st_cons fun K14 hK14 => ?_))
 clear hK13 K13
 repeat (go_big_quiet_step (fail))
 refine wpQuiet_nil ?_
 go_wp2_with (go_at_call 31;(with_reducible refine (HWA.out _ H8.out).mono ?_);rintro e u9 ⟨A6,c6,rfl,hs,hg⟩;have HS6 := hid hs;have HX9 := hid hg;clear hs hg)
 refine norm_up (hK14 _ _ HX9.out (st_cons fun K15 hK15 => ?_))
 clear hK14 K14
 have H9 : Hid (Grow w u9) := H8.out.trans HX9.out
 repeat (go_big_quiet_step (fail))
 refine wpQuiet_nil ?_
 go_wp2_with (go_at_call 72;(with_reducible refine (HWD.out _ H9.out).mono ?_);rintro e u10 ⟨A7,c7,rfl,hs,hg⟩;have HS7 := hid hs;have HX10 := hid hg;clear hs hg)
 refine norm_up (hK15 _ _ HX10.out (st_cons fun K16 hK16 => ?_))
 clear hK15 K15
 have H10 : Hid (Grow w u10) := H9.out.trans HX10.out
 repeat (go_big_quiet_step (fail))
 refine wpQuiet_nil ?_
 go_wp2_with (go_at_call 67;(with_reducible refine (IntsC.ints_true A6 A7 _ c6 c7 _ _ (Dev.waitL p.D p.D.N) HLN.out.2.2 (Sl.kept HS6.out HX10.out (Nat.le_refl _) fun _ _ e => e) HS7.out).mono ?_);rintro e u11 ⟨rfl,hg⟩;have HX11 := hid hg;clear hg)
 refine norm_up (hK16 _ _ HX11.out (st_nil fun K17 hK17 => ?_))
 clear hK16 K16
 have H11 : Hid (Grow w u11) := H10.out.trans HX11.out
 repeat (go_big_quiet_step (fail))
 refine wpQuiet_nil (hK17 _ ?_)
 clear hK17 K17 HS6 HS7
 go_wp2
 have HOW : Hid (FR u11 g c p.A.n p.A.F) := HO.out.kept (HGX.out.trans (HX1.out.trans (HX2.out.trans (HX3.out.trans (HX4.out.trans (HX5.out.trans (HX6.out.trans (HX7.out.trans (HX8.out.trans (HX9.out.trans (HX10.out.trans (HX11.out)))))))))))) id
 go_loopg [6] p.A.n (fun gx i wr => ∃ j : Nat,j + gx = p.A.n ∧ i = .int .i64 (j : Int) ∧ Grow u11 wr)
 case atStart => exact ⟨0,by omega,rfl,Kept.refl _ _⟩
 case round =>
  obtain ⟨j,hg,rfl,hgr⟩ := hrel
  have HG := hid hg
  have HGR := hid hgr
  have HWR : Hid (Grow w wr) := H11.out.trans hgr
  clear hg hgr
  by_cases hj : j < p.A.n
  ·have HJ := hid hj
   have hjz : (j : Int) < (p.A.n : Int) := by omega
   have up := fun (pp : Addr) (v : Value) (h : w.cell? pp = some v) => up_cell (F := fun _ => False) (w := wr.drew) (p := pp) (v := v) (HWR.out.drew.cellN h id) id
   have upx := fun (pp : Addr) (v : Value) (h : u11.cell? pp = some v) => up_cell (F := fun _ => False) (w := wr.drew) (p := pp) (v := v) (HGR.out.drew.cellN h id) id
   have q4 := up _ _ HC.out.2.2.2.2.1
   have q0 := up _ _ HC.out.2.2.2.2.2.1
   have x0 := upx _ _ (FR.c0 HOW.out hj)
   have x1 := upx _ _ (FR.c1 HOW.out hj)
   have x2 := upx _ _ (FR.c2 HOW.out hj)
   have x3 := upx _ _ (FR.c3 HOW.out hj)
   have x4 := upx _ _ (FR.c4 HOW.out hj)
   have y0 := up _ _ (FR.c0 HFR.out hj)
   have y1 := up _ _ (FR.c1 HFR.out hj)
   have y2 := up _ _ (FR.c2 HFR.out hj)
   have y3 := up _ _ (FR.c3 HFR.out hj)
   have y4 := up _ _ (FR.c4 HFR.out hj)
   clear up upx hj
   generalize p.A.F j = fr at x0 x1 x2 x3 x4 y0 y1 y2 y3 y4
   obtain ⟨st,pg,pn,di⟩ := fr
   dsimp only at x0 x1 x2 x4 y0 y1 y2 y4
   go_upto_region 7 with (fail)
   refine wp_region_stages Grow (kept_refl _) (kept_trans _) [] [0,1,2,3,4,5,6,7,8,9,10,11,12,13,14] (by kernel_rfl) (by kernel_rfl) ?_
   simp only [selSt,sel,ZmC,ZmN,ZgS,ZgZ]
   refine st_nil fun K4 hK4 => ?_
   repeat (go_big_quiet_step (fail))
   refine wpQuiet_nil (hK4 _ ?_)
   clear hK4 K4 q4 q0 x0 x1 x2 x3 x4 y0 y1 y2 y3 y4
   go_wp2
   go_roundg (gk - 1)
   case measure => have := HG.out;have := HJ.out;omega
   case rel => exact ⟨j + 1,by have := HG.out;have := HJ.out;omega,by go_num,HGR.out.drew⟩
  ·obtain rfl : j = p.A.n := by have := HG.out;omega
   go_wp2
   go_ret
   exact ⟨rfl,HWR.out⟩
end
end RdI
namespace RgMd
open Go.ChangeShapes Go.WideShapes Go.ChangeAt Go.RowKit
open Mem Blk Cells Orow Calls13 MdNear RfP RgS RgQ RgN
open MdM (Md MdOp Re)
open RfM (Pl)
section
variable {w w' w0 : World} {c c' : Nat → Nat} {m g n n' j j' l : Nat} {a U : Md} {F : Nat → Prop} {A A' : Option Addr} {zs d : List Int}
theorem bytes_take (h : BytesAt w A n n') (hl : l ≤ n) (hk : Kept F w w') (hF : ∀ k,k < w.heap.size → ¬ F k) : ∃ d,Sl w' w.heap.size .u8 A l d ∧ MdM.Bytes d ∧ l ≤ n' ∧ n' ≤ maxLen := by
 obtain ⟨d,hs,hb,h1,h2⟩ := h
 refine ⟨d.take l,⟨by rw [List.length_take,hs.len];omega,fun h0 => ?_⟩,fun z hz => hb z (List.mem_of_mem_take hz),by omega,h2⟩
 obtain ⟨b,off,rfl,hlt,hc⟩ := hs.at_ (by omega)
 refine ⟨b,off,rfl,hlt,fun j hj => ?_⟩
 rw [show (d.take l).getD j 0 = d.getD j 0 by simp [List.getD_eq_getElem?_getD,hj]]
 exact hk.cellN (hc j (by omega)) (hF b hlt)
end
def FineQ (w : World) (A : Option Addr) (len : Nat) (m : Int) (e : Ending) (w' : World) : Prop := w = w' ∧ ∃ b,e = .returned (.bool b) ∧ (b = true → (len : Int) ≤ m ∧ ∀ b off,A = some ⟨b,off,none⟩ → ∀ i,i < len → ∀ x,CallAt w b (off + i * 7) x → x.len ≤ 40)
theorem fine_q {w : World} {A : Option Addr} {len cap : Nat} (m : Int) (h : CallsAt w A len cap) : Calls Tryz.prog 18 #[.slice A len cap,.int .i64 m] w (FineQ w A len m) :=
 (fine_any m h).mono fun e w' ⟨h1,h2⟩ => ⟨h1,by
   rcases h2 with rfl | ⟨rfl,h3⟩
   ·exact ⟨false,rfl,fun h => by cases h⟩
   ·exact ⟨true,rfl,fun _ => h3⟩⟩
end RgMd
namespace Args13
open Go.ChangeShapes Go.WideShapes Go.ChangeAt Go.RowKit Go.Deep
open Mem Blk MdM Calls13
section
variable {H : Type} {enc : TypeId × Value → H} {w : World} {base : Nat} {spare : Nat → Bool} {held : Bool}
theorem plain_spot {a : Addr} {v : Value} (h : w.cell? a = some v) : ∃ b off,a = ⟨b,off,none⟩ := by
 obtain ⟨b,off,spot⟩ := a
 have hspot : spot = none := by simpa [Addr.add] using World.cell?_spot h
 subst hspot
 exact ⟨b,off,rfl⟩
theorem add_plain (b off q : Nat) : (⟨b,off,none⟩ : Addr).add q = ⟨b,off + q,none⟩ := by unfold Addr.add;split <;> simp_all
theorem add_zero (a : Addr) : a.add 0 = a := by unfold Addr.add;simp
theorem ints_open {A : Option Addr} {len cap fuel : Nat} {x : DataW H × List MemPlace} (h : DataW.trod enc Tryz.prog w base spare held fuel 33 [.slice A len cap] = some x) : ∃ d,Sl w w.heap.size .i64 A len d := by
 have hc1 : Tryz.prog.cellsOf 3 = 1 := by kernel_rfl
 rcases open_slice1 Tryz.underlying33 hc1 h with ⟨h0,_⟩ | ⟨a,l,c,m,n,V,D,Pl,hcs,_,hl,hm,hmm,_,hi⟩
 ·simp at h0
  obtain ⟨rfl,rfl,rfl⟩ := h0
  exact ⟨[],Sl.nil _ _ _ _⟩
 ·simp at hcs
  obtain ⟨rfl,rfl,rfl⟩ := hcs
  have hlm : len ≤ m := by rw [hmm];split <;> omega
  have key : ∀ i,i < len → V i = .int .i64 (num (V i)) := fun i hil => by
   obtain ⟨_,ht⟩ := hi i (by omega)
   obtain ⟨z,e,_,_⟩ := DataW.trod_int Tryz.underlying3 ht
   simp at e
   rw [e]
   rfl
  refine ⟨(List.range len).map fun i => num (V i),⟨by simp,fun h0 => ?_⟩⟩
  have a0 := (hi 0 (by omega)).1
  rw [add_zero] at a0
  obtain ⟨b,off,rfl⟩ := plain_spot a0
  refine ⟨b,off,rfl,block_lt_of_cell a0,fun j hj => ?_⟩
  have aj := (hi j (by omega)).1
  rw [add_plain] at aj
  rw [aj,key j hj]
  simp [List.getD_eq_getElem?_getD,hj]
end
end Args13
end Go.Proofs.YtbnkpnllgoghnaaGreat
