import Derived.Test.YtbnkpnllgoghnaaGreatPi
set_option linter.unusedVariables false
namespace Go.Proofs.YtbnkpnllgoghnaaGreat
open Go.Lib (hid)
namespace Told16
open Go.ChangeShapes Go.WideShapes Go.ChangeAt Go.RowKit
open Mem Blk Cells Orow RfP RgP RgS RgV RgQ
open MdM (Md MdOp Re)
open RfM (Pl)
def s0 : Pl := RfM.fresh 3 1 1
def s1 : Pl := (s0.run 0 ⟨1,0,0,0,0,[]⟩).2
def s2 : Pl := (s1.run 0 ⟨1,0,0,0,0,[]⟩).2
def s3 : Pl := (s2.run 0 ⟨4,0,0,0,0,[120]⟩).2
def s4 : Pl := (s3.run 0 ⟨5,0,0,0,0,[]⟩).2
def s5 : Pl := (s4.run 0 ⟨1,0,0,0,0,[]⟩).2
def s6 : Pl := (s5.run 0 ⟨5,0,0,0,0,[]⟩).2
def s7 : Pl := (s6.run 0 ⟨2,0,0,0,0,[]⟩).2
def s8 : Pl := (s7.run 0 ⟨3,0,0,0,1,[]⟩).2
theorem re_eq {a b : Re} (h : a.c = b.c ∧ a.p = b.p ∧ a.h = b.h ∧ a.d = b.d) : a = b := by
 obtain ⟨c,p,h',d⟩ := a
 obtain ⟨h1,h2,h3,h4⟩ := h
 simp only at h1 h2 h3 h4
 rw [h1,h2,h3,h4]
set_option maxRecDepth 100000 in
theorem r1 : (s0.run 0 ⟨1,0,0,0,0,[]⟩).1 = ⟨0,0,0,[]⟩ := re_eq (by decide +kernel)
set_option maxRecDepth 100000 in
theorem r2 : (s1.run 0 ⟨1,0,0,0,0,[]⟩).1 = ⟨8,0,0,[]⟩ := re_eq (by decide +kernel)
set_option maxRecDepth 100000 in
theorem r3 : (s2.run 0 ⟨4,0,0,0,0,[120]⟩).1 = ⟨0,0,0,[]⟩ := re_eq (by decide +kernel)
set_option maxRecDepth 100000 in
theorem r4 : (s3.run 0 ⟨5,0,0,0,0,[]⟩).1 = ⟨0,0,0,[]⟩ := re_eq (by decide +kernel)
set_option maxRecDepth 100000 in
theorem r5 : (s4.run 0 ⟨1,0,0,0,0,[]⟩).1 = ⟨0,1,0,[]⟩ := re_eq (by decide +kernel)
set_option maxRecDepth 100000 in
theorem r6 : (s5.run 0 ⟨5,0,0,0,0,[]⟩).1 = ⟨0,0,0,[]⟩ := re_eq (by decide +kernel)
set_option maxRecDepth 100000 in
theorem r7 : (s6.run 0 ⟨2,0,0,0,0,[]⟩).1 = ⟨0,0,0,[]⟩ := re_eq (by decide +kernel)
set_option maxRecDepth 100000 in
theorem r8 : (s7.run 0 ⟨3,0,0,0,1,[]⟩).1 = ⟨0,0,0,[120]⟩ := re_eq (by decide +kernel)
set_option maxRecDepth 100000 in
theorem waits5 : Dev.waitL s5.D s5.D.N = [0] := by decide +kernel
set_option maxRecDepth 100000 in
theorem ends8 : s8.A.n = 1 ∧ s8.L = [0] ∧ orderL s8.A.F s8.L = [0] ∧ thereL s8.X.T s8.X.n = [0,1] := by decide +kernel
section
variable {w : World}
theorem field_res (w : World) (x y z v : Value) : (Instr.field 27 (.agg #[x,y,z,v]) 0).run Tryz.prog w = .ok x w := by
 simp [Instr.field,asAgg,part,isAgg,run_underlying Tryz.underlying27,run_underlying Tryz.underlying3]
theorem sl_const (w : World) : Sl (w.alloc (.cells #[.int .u8 120] 5 (1,2))) (w.alloc (.cells #[.int .u8 120] 5 (1,2))).heap.size .u8 (some ⟨w.heap.size,0,none⟩) 1 [120] :=
 ⟨rfl,fun _ => ⟨w.heap.size,0,rfl,by simp,fun j hj => by
  obtain rfl : j = 0 := by omega
  rw [cell_of_row _ _ _ _ _ _ (heap_alloc_new w _)]
  rfl⟩⟩
set_option maxRecDepth 100000 in
set_option maxHeartbeats 4000000 in
theorem told_any (w : World) : Calls Tryz.prog 11 #[] w fun e w' => e = .returned (.bool true) ∧ Grow w w' := by
 have HNEW := hid (pnew 3 1 1 (by decide) (by decide) (by decide) (by decide) (by decide) (by decide) w)
 simp only [Int.cast_ofNat_Int] at HNEW
 go_enter Tryz.func11,Tryz.ntmps11
 go_upto_region 2 with (go_at_call 12;(with_reducible refine HNEW.out.mono ?_);rintro e w0 ⟨ν,c0,rfl,hp,hg,hz⟩;have HDK := hid (disk_any hp.m);have HP0 : Hid (PAt w0 c0 ν s0 0) := hp;have HG0 := hid hg;have HZ0 := hid hz;clear hp hg hz)
 go_upto_region 4 with (go_at_call 17;(with_reducible refine HDK.out.mono ?_);rintro e w1 ⟨rfl,rfl⟩)
 have HW0 : Hid (Went w0 c0 w0 c0) := Went.refl _ _
 have HB0 : Hid (Boxes w0 c0 []) := Boxes.nil _ _
 have HDO := hid (pdo0 (p' := s1) HP0.out (by decide) (by decide) r1 rfl)
 go_upto_region 5 with (first
  | (go_at_call 13;(with_reducible refine HDO.out.mono ?_);rintro e v1 ⟨A1,n1,k1,d1,rfl,hd,_,_,hw,hp⟩;have HPX := hid hp;have HD1 := hid hd;have HWY := hid (HW0.out.trans hw);have HBY := hid (HB0.out.went hw);have HLW := hid hw;obtain ⟨w1,hv,hg,hb,hb0⟩ := box_res v1 d1 #[.int .i64 0,.int .i64 0,.int .i64 0,.slice A1 n1 k1];have HV := hid hv;have HGB := hid hg;have HBB := hid hb;have HZZ := hid hb0;clear hd hw hp hv hg hb hb0)
  | (refine wpList_store_row rfl 27 _ _ rfl v1.heap.size #[.int .i64 0,.int .i64 0,.int .i64 0,.slice A1 n1 k1] rfl rfl _ _ HZZ.out MdC.res_size rfl (by simp [Value.oneCell']) ?_))
 rw [HV.out]
 obtain ⟨c1,hcn⟩ : ∃ c1,paint v1.heap.size 0 d1 = c1 := ⟨_,rfl⟩
 have HP1 := hid (HPX.out.grow HGB.out)
 have HW1 := hid (HWY.out.trans (Went.grow HGB.out))
 have HB1 := hid (HBY.out.add HGB.out HBB.out)
 have HLX := hid (HLW.out.trans (Went.grow (col := d1) HGB.out))
 rw [hcn] at HP1 HW1 HB1 HLX
 generalize v1.heap.size = g1 at HB1 ⊢
 clear HV HGB HBB HZZ HPX HWY HBY HLW HDO hcn
 have HDO := hid (pdo0 (p' := s2) HP1.out (by decide) (by decide) r2 rfl)
 go_upto_region 6 with (first
  | (go_at_call 13;(with_reducible refine HDO.out.mono ?_);rintro e v2 ⟨A2,n2,k2,d2,rfl,hd,_,_,hw,hp⟩;have HPX := hid hp;have HD2 := hid hd;have HWY := hid (HW1.out.trans hw);have HBY := hid (HB1.out.went hw);have HLW := hid hw;obtain ⟨w2,hv,hg,hb,hb0⟩ := box_res v2 d2 #[.int .i64 8,.int .i64 0,.int .i64 0,.slice A2 n2 k2];have HV := hid hv;have HGB := hid hg;have HBB := hid hb;have HZZ := hid hb0;clear hd hw hp hv hg hb hb0)
  | (refine wpList_store_row rfl 27 _ _ rfl v2.heap.size #[.int .i64 8,.int .i64 0,.int .i64 0,.slice A2 n2 k2] rfl rfl _ _ HZZ.out MdC.res_size rfl (by simp [Value.oneCell']) ?_))
 rw [HV.out]
 obtain ⟨c2,hcn⟩ : ∃ c2,paint v2.heap.size 0 d2 = c2 := ⟨_,rfl⟩
 have HP2 := hid (HPX.out.grow HGB.out)
 have HW2 := hid (HWY.out.trans (Went.grow HGB.out))
 have HB2 := hid (HBY.out.add HGB.out HBB.out)
 have HLX := hid (HLW.out.trans (Went.grow (col := d2) HGB.out))
 rw [hcn] at HP2 HW2 HB2 HLX
 generalize v2.heap.size = g2 at HB2 ⊢
 clear HV HGB HBB HZZ HPX HWY HBY HLW HDO hcn
 have hgx : Grow w2 (w2.alloc (.cells #[.int .u8 120] 5 (1,2))) := (Kept.refl _ _).alloc _
 have HDO := hid (pdo_is (dc := 1) (p' := s3) (HP2.out.grow hgx) (sl_const w2) (by decide) (by decide) (fun c hc => by simp at hc;omega) (by decide) r3 rfl)
 have hcv := fun (w : World) (C : Array Value) (n c : Nat) => Lib.run_convert_bytes_const w 22 5 C n c Tryz.underlying22 Tryz.underlying5
 have HWX := hid (HW2.out.trans (Went.grow (col := c2) hgx))
 have HBX := hid (HB2.out.went (Went.grow (col := c2) hgx))
 clear hgx
 go_upto_region 7 with (first
  | (simp only [])
  | (go_at_call 13;(with_reducible refine HDO.out.mono ?_);rintro e w3 ⟨A3,n3,k3,c3,rfl,hd,_,_,hw,hp⟩;have HP3 := hid hp;have HD3 := hid hd;have HW3 := hid (HWX.out.trans hw);have HB3 := hid (HBX.out.went hw);have HLX := hid hw;clear hd hw hp))
 clear HDO hcv
 clear HWX HBX
 have HDO := hid (pdo0 (p' := s4) HP3.out (by decide) (by decide) r4 rfl)
 go_upto_region 8 with (go_at_call 13;(with_reducible refine HDO.out.mono ?_);rintro e w4 ⟨A4,n4,k4,c4,rfl,hd,_,_,hw,hp⟩;have HP4 := hid hp;have HD4 := hid hd;have HW4 := hid (HW3.out.trans hw);have HB4 := hid (HB3.out.went hw);have HLX := hid hw;clear hd hw hp)
 clear HDO
 have HDO := hid (pdo0 (p' := s5) HP4.out (by decide) (by decide) r5 rfl)
 go_upto_region 9 with (first
  | (go_at_call 13;(with_reducible refine HDO.out.mono ?_);rintro e v5 ⟨A5,n5,k5,d5,rfl,hd,_,_,hw,hp⟩;have HPX := hid hp;have HD5 := hid hd;have HWY := hid (HW4.out.trans hw);have HBY := hid (HB4.out.went hw);have HLW := hid hw;obtain ⟨w5,hv,hg,hb,hb0⟩ := box_res v5 d5 #[.int .i64 0,.int .i64 1,.int .i64 0,.slice A5 n5 k5];have HV := hid hv;have HGB := hid hg;have HBB := hid hb;have HZZ := hid hb0;clear hd hw hp hv hg hb hb0)
  | (refine wpList_store_row rfl 27 _ _ rfl v5.heap.size #[.int .i64 0,.int .i64 1,.int .i64 0,.slice A5 n5 k5] rfl rfl _ _ HZZ.out MdC.res_size rfl (by simp [Value.oneCell']) ?_))
 rw [HV.out]
 obtain ⟨c5,hcn⟩ : ∃ c5,paint v5.heap.size 0 d5 = c5 := ⟨_,rfl⟩
 have HP5 := hid (HPX.out.grow HGB.out)
 have HW5 := hid (HWY.out.trans (Went.grow HGB.out))
 have HB5 := hid (HBY.out.add HGB.out HBB.out)
 have HLX := hid (HLW.out.trans (Went.grow (col := d5) HGB.out))
 rw [hcn] at HP5 HW5 HB5 HLX
 generalize v5.heap.size = g5 at HB5 ⊢
 clear HV HGB HBB HZZ HPX HWY HBY HLW HDO hcn
 have HDK := hid (disk_any HP5.out.m)
 have HWT := hid (DevY.waits_any HP5.out.m.dev)
 rw [waits5] at HWT
 go_upto_region 10 with (first
  | (go_at_call 17;(with_reducible refine HDK.out.mono ?_);rintro e wx ⟨rfl,rfl⟩)
  | (go_at_call 31;(with_reducible refine HWT.out.mono ?_);rintro e wq ⟨AW,nW,cW,rfl,hs,hA,hg⟩;have HGQ := hid hg;have HSW := hid (Dt.fresh (col := c5) hs fun _ => hA);clear hs hA hg))
 have hnw : nW = 1 := HSW.out.s.len.symm
 subst hnw
 have HPQ := hid (HP5.out.grow HGQ.out)
 have HWQ := hid (HW5.out.trans (Went.grow HGQ.out))
 have HBQ := hid (HB5.out.went (Went.grow HGQ.out))
 generalize paint w5.heap.size 0 c5 = cq at *
 clear HDK HWT
 have HP6 := HPQ
 have HW6 := HWQ
 have HB6 := HBQ
 clear HPQ HWQ HBQ
 obtain ⟨w6,hwn⟩ : ∃ w6,w6 = wq := ⟨_,rfl⟩
 obtain ⟨c6,hcn⟩ : ∃ c6,c6 = cq := ⟨_,rfl⟩
 rw [← hwn,← hcn] at HP6 HW6 HB6 HSW
 rw [← hwn]
 clear hwn hcn
 have HDO := hid (pdo0 (p' := s6) HP6.out (by decide) (by decide) r6 rfl)
 go_upto_region 11 with (go_at_call 13;(with_reducible refine HDO.out.mono ?_);rintro e w7 ⟨A7,n7,k7,c7,rfl,hd,_,_,hw,hp⟩;have HP7 := hid hp;have HD7 := hid hd;have HW7 := hid (HW6.out.trans hw);have HB7 := hid (HB6.out.went hw);have HLX := hid hw;clear hd hw hp)
 clear HDO
 have HSW := hid (HSW.out.went HLX.out)
 have HDO := hid (pdo0 (p' := s7) HP7.out (by decide) (by decide) r7 rfl)
 go_upto_region 12 with (first
  | (go_at_call 13;(with_reducible refine HDO.out.mono ?_);rintro e v8 ⟨A8,n8,k8,d8,rfl,hd,_,_,hw,hp⟩;have HPX := hid hp;have HD8 := hid hd;have HWY := hid (HW7.out.trans hw);have HBY := hid (HB7.out.went hw);have HLW := hid hw;obtain ⟨w8,hv,hg,hb,hb0⟩ := box_res v8 d8 #[.int .i64 0,.int .i64 0,.int .i64 0,.slice A8 n8 k8];have HV := hid hv;have HGB := hid hg;have HBB := hid hb;have HZZ := hid hb0;clear hd hw hp hv hg hb hb0)
  | (refine wpList_store_row rfl 27 _ _ rfl v8.heap.size #[.int .i64 0,.int .i64 0,.int .i64 0,.slice A8 n8 k8] rfl rfl _ _ HZZ.out MdC.res_size rfl (by simp [Value.oneCell']) ?_))
 rw [HV.out]
 obtain ⟨c8,hcn⟩ : ∃ c8,paint v8.heap.size 0 d8 = c8 := ⟨_,rfl⟩
 have HP8 := hid (HPX.out.grow HGB.out)
 have HW8 := hid (HWY.out.trans (Went.grow HGB.out))
 have HB8 := hid (HBY.out.add HGB.out HBB.out)
 have HLX := hid (HLW.out.trans (Went.grow (col := d8) HGB.out))
 rw [hcn] at HP8 HW8 HB8 HLX
 generalize v8.heap.size = g8 at HB8 ⊢
 clear HV HGB HBB HZZ HPX HWY HBY HLW HDO hcn
 have HSW := hid (HSW.out.went HLX.out)
 have HDO := hid (pdo0 (p' := s8) HP8.out (by decide) (by decide) r8 rfl)
 go_upto_region 13 with (first
  | (go_at_call 13;(with_reducible refine HDO.out.mono ?_);rintro e v9 ⟨A9,n9,k9,d9,rfl,hd,_,_,hw,hp⟩;have HPX := hid hp;have HD9 := hid hd;have HWY := hid (HW8.out.trans hw);have HBY := hid (HB8.out.went hw);have HLW := hid hw;obtain ⟨w9,hv,hg,hb,hb0⟩ := box_res v9 d9 #[.int .i64 0,.int .i64 0,.int .i64 0,.slice A9 n9 k9];have HV := hid hv;have HGB := hid hg;have HBB := hid hb;have HZZ := hid hb0;clear hd hw hp hv hg hb hb0)
  | (refine wpList_store_row rfl 27 _ _ rfl v9.heap.size #[.int .i64 0,.int .i64 0,.int .i64 0,.slice A9 n9 k9] rfl rfl _ _ HZZ.out MdC.res_size rfl (by simp [Value.oneCell']) ?_))
 rw [HV.out]
 obtain ⟨c9,hcn⟩ : ∃ c9,paint v9.heap.size 0 d9 = c9 := ⟨_,rfl⟩
 have HP9 := hid (HPX.out.grow HGB.out)
 have HW9 := hid (HWY.out.trans (Went.grow HGB.out))
 have HB9 := hid (HBY.out.add HGB.out HBB.out)
 have HLX := hid (HLW.out.trans (Went.grow (col := d9) HGB.out))
 have HDD := hid (HD9.out.grow HGB.out)
 rw [hcn] at HP9 HW9 HB9 HLX HDD
 generalize v9.heap.size = g9 at HB9 ⊢
 clear HV HGB HBB HZZ HPX HWY HBY HLW HDO hcn
 have HSW := hid (HSW.out.went HLX.out)
 have hbb := HB9.out
 have b1 := (hbb.get (b := (g1,[.int .i64 0,.int .i64 0,.int .i64 0,.slice A1 n1 k1])) (by simp)).cell 0
 have b2 := (hbb.get (b := (g2,[.int .i64 8,.int .i64 0,.int .i64 0,.slice A2 n2 k2])) (by simp)).cell 0
 have b5 := (hbb.get (b := (g5,[.int .i64 0,.int .i64 1,.int .i64 0,.slice A5 n5 k5])) (by simp)).cell 0
 have b5p := (hbb.get (b := (g5,[.int .i64 0,.int .i64 1,.int .i64 0,.slice A5 n5 k5])) (by simp)).cell 1
 have b8 := (hbb.get (b := (g8,[.int .i64 0,.int .i64 0,.int .i64 0,.slice A8 n8 k8])) (by simp)).cell 0
 have b9 := (hbb.get (b := (g9,[.int .i64 0,.int .i64 0,.int .i64 0,.slice A9 n9 k9])) (by simp)).cell 3
 simp only [List.getElem?_cons_succ,List.getElem?_cons_zero] at b1 b2 b5 b5p b8 b9
 clear hbb
 obtain ⟨AW',offW,rfl,_,hw0⟩ := HSW.out.s.at_ (by decide)
 have hw0 := hw0 0 (by decide)
 have hst := HDD.out.s.str (P := Tryz.prog) 22 9 5 Tryz.underlying22 Tryz.underlying5 Tryz.underlying9 k9
 rw [show strOfNums [120] = ({ data := #[120] } : ByteArray) from rfl] at hst
 obtain ⟨q1,q2,q3,q4⟩ := ends8
 have CF : Hid (∀ wx,Grow w9 wx → Calls Tryz.prog 14 #[.pointer (some ⟨ν.r,0,none⟩)] wx (OwnFrames wx s8.A)) := fun wx hg => pframes (HP9.out.grow hg)
 have CO : Hid (∀ wx,Grow w9 wx → Calls Tryz.prog 33 #[.pointer (some ⟨ν.r,0,none⟩)] wx (IntsAre wx [0])) := fun wx hg => by have h := porder (HP9.out.grow hg);rw [q3] at h;exact ints_are h (by decide)
 have CT : Hid (∀ wx,Grow w9 wx → Calls Tryz.prog 15 #[.pointer (some ⟨ν.r,0,none⟩)] wx (IntsAre wx [0,1])) := fun wx hg => by have h := pthere (HP9.out.grow hg);rw [q4] at h;exact ints_are h (by decide)
 have CN := fun wx => hid (RgL.new_bad 0 1 1 (by decide) wx)
 have HQ1 := hid q1
 have HGE := hid (new_grow HG0.out HZ0.out HW9.out)
 clear q1 q2 q3 q4
 go_upto_region 14 with (fail)
 have hfl := field_res
 try simp only [List.append]
 go_wp2_with (first
  | (go_at_call 14;(with_reducible refine (CF.out _ (Kept.refl _ _)).mono ?_);rintro e x1 ⟨gf,cf,rfl,hfr,_,hg⟩;rw [HQ1.out];have HX1 := hid hg;clear hfr hg)
  | (go_at_call 33;(with_reducible refine (CO.out _ HX1.out).mono ?_);rintro e x2 ⟨g2',cc2,rfl,_,_,hc2,_,hg⟩;have HX2 := hid (HX1.out.trans hg);clear hc2 hg HX1)
  | (go_at_call 33;(with_reducible refine (CO.out _ HX2.out).mono ?_);rintro e x3 ⟨g3',cc3,rfl,_,_,hc3,_,hg⟩;have HX3 := hid (HX2.out.trans hg);have hc3 := hc3 0 (by decide);clear hg HX2)
  | (go_at_call 15;(with_reducible refine (CT.out _ HX3.out).mono ?_);rintro e x4 ⟨g4',cc4,rfl,_,_,hc4,_,hg⟩;have HX4 := hid (HX3.out.trans hg);clear hc4 hg HX3)
  | (go_at_call 12;(with_reducible refine (CN _).out.mono ?_);rintro e x5 ⟨rfl,rfl⟩)
  | (go_at_call 13;(with_reducible refine (do_nil _ _ _ _ _ _ _).mono ?_);rintro e x6 ⟨rfl,hg⟩;have HX6 := hid (HX4.out.trans hg);clear hg HX4)
  | (go_at_call 17;(with_reducible refine (disk_nil _).mono ?_);rintro e x7 ⟨rfl,rfl⟩)
  | (simp only []))
 go_ret
 exact ⟨rfl,HGE.out.trans HX6.out⟩
end
end Told16
namespace RdS
open Go.ChangeShapes Go.WideShapes Go.ChangeAt Go.RowKit
open Mem Blk Cells Orow RfP
open MdM (Md MdOp Re)
open ArM (Ar Fr)
open Dev (Dv)
open RefD (Rf POwn)
open ArRefC (RAt RMem)
structure Rn where
 m : Nat
 r : Rf
 a : Nat
 l : Nat
def dcells (ρ : Rn) (x y z : Value) : List Value := [x,y,z,.pointer (some ⟨ρ.r.m,0,none⟩),.pointer (some ⟨ρ.a,0,none⟩),.pointer (some ⟨ρ.l,0,none⟩)]
structure RdAt (w : World) (col : Nat → Nat) (ρ : Rn) (X : Md) (D : Dv) (A : Ar) (L : List Nat) : Prop where
 own : ∃ x y z,Blk w ρ.m 55 (dcells ρ x y z) ∧ XAt w col 2 (.agg #[x,y,z]) X
 t : Three w col ρ.r ρ.a ρ.l D A L
 c : col ρ.m = 1
def MineD (w : World) (col : Nat → Nat) (k : Nat) : Prop := k < w.heap.size ∧ 1 ≤ col k ∧ col k ≤ 5
structure WentD (w : World) (col : Nat → Nat) (w' : World) (col' : Nat → Nat) : Prop where
 old : ∀ k,k < w.heap.size → col' k = col k
 kept : Kept (MineD w col) w w'
def PostD (ρ : Rn) (w : World) (col : Nat → Nat) (v : Value) (X : Md) (D : Dv) (A : Ar) (L : List Nat) (e : Ending) (w' : World) : Prop :=
 e = .returned v ∧ ∃ col',WentD w col w' col' ∧ RdAt w' col' ρ X D A L
section
variable {w w' : World} {F : Nat → Prop} {col col' : Nat → Nat} {c : Nat} {ρ : Rn} {X X' : Md} {D D' : Dv} {A A' : Ar} {L L' : List Nat}
theorem WentD.refl (w : World) (col : Nat → Nat) : WentD w col w col := ⟨fun _ _ => rfl,Kept.refl _ _⟩
theorem WentD.trans {a b c : World} {x y z : Nat → Nat} (h : WentD a x b y) (k : WentD b y c z) : WentD a x c z :=
 ⟨fun i hi => (k.old i (Nat.lt_of_lt_of_le hi h.kept.size)).trans (h.old i hi),h.kept.then k.kept fun i hi m => ⟨hi,by have := m.2;rw [h.old i hi] at this;exact this⟩⟩
theorem wentD (hk : Kept F w w') (hF : ∀ k,k < w.heap.size → F k → 1 ≤ col k ∧ col k ≤ 5) (c : Nat) : WentD w col w' (paint w.heap.size c col) :=
 ⟨fun _ h => paint_old h,hk.mono fun k h1 h2 => ⟨h1,hF k h1 h2⟩⟩
theorem WentD.grow (hk : Grow w w') : WentD w col w' (paint w.heap.size 0 col) := ⟨fun _ h => paint_old h,Grow.kept hk⟩
theorem WentD.drew (w : World) (col : Nat → Nat) : WentD w col w.drew col := ⟨fun _ _ => rfl,Kept.drew' w⟩
theorem RdAt.keep (h : RdAt w col ρ X D A L) (hk : Kept F w w') (hF : ∀ k,k < w.heap.size → F k → col k < 1 ∨ 5 < col k) (c : Nat) : RdAt w' (paint w.heap.size c col) ρ X D A L := by
 obtain ⟨x,y,z,h1,h2⟩ := h.own
 exact ⟨⟨x,y,z,h1.kept hk fun e => by have := hF _ h1.lt e;have := h.c;omega,h2.keep hk (fun k h1 h2 => by have := hF k h1 h2;omega) c⟩,h.t.keep hk (fun k h1 h2 => by have := hF k h1 h2;omega) c,by rw [paint_old h1.lt];exact h.c⟩
theorem RdAt.grow (h : RdAt w col ρ X D A L) (hk : Grow w w') : RdAt w' (paint w.heap.size 0 col) ρ X D A L := h.keep hk (fun _ _ e => e.elim) 0
theorem RdAt.drew (h : RdAt w col ρ X D A L) : RdAt w.drew col ρ X D A L := by
 have hk : Grow w w.drew := Kept.drew' w
 obtain ⟨x,y,z,h1,h2⟩ := h.own
 have ht : Three w.drew (paint w.heap.size 0 col) ρ.r ρ.a ρ.l D A L := h.t.keep hk (fun _ _ e => e.elim) 0
 have hs : w.drew.heap.size = w.heap.size := rfl
 refine ⟨⟨x,y,z,h1.grow hk,h2.same hk fun _ _ e => e.elim⟩,⟨⟨ht.d.1,h.t.d.2⟩,rat_mono ht.a fun k h1 h2 => ⟨h1,by have := h2.2;rw [paint_old (by rw [← hs];exact h1)] at this;exact this⟩,ListR.RefAt.widen ht.l fun k h1 h2 => ⟨h1,by rw [paint_old (by rw [← hs];exact h1)];exact h2.2⟩⟩,h.c⟩
theorem RdAt.rest (h : RdAt w col ρ X D A L) (hk : Kept F w w') (hF : ∀ k,k < w.heap.size → F k → 3 ≤ col k ∧ col k ≤ 5) (c : Nat) (ht : Three w' (paint w.heap.size c col) ρ.r ρ.a ρ.l D' A' L') : RdAt w' (paint w.heap.size c col) ρ X D' A' L' := by
 obtain ⟨x,y,z,h1,h2⟩ := h.own
 exact ⟨⟨x,y,z,h1.kept hk fun e => by have := hF _ h1.lt e;have := h.c;omega,h2.keep hk (fun k h1 h2 => by have := hF k h1 h2;omega) c⟩,ht,by rw [paint_old h1.lt];exact h.c⟩
theorem RdAt.setD (h : RdAt w col ρ X D A L) (h' : RefD.RefAt w' ρ.r D') (hk : Kept (POwn ρ.r) w w') : ∃ col',WentD w col w' col' ∧ RdAt w' col' ρ X D' A L :=
 have h3 := fun k y => h.t.d.2 k y
 ⟨_,wentD hk (fun k _ y => by rw [h3 k y];omega) 0,h.rest hk (fun k _ y => by rw [h3 k y];omega) 0 (h.t.setD h' hk 0)⟩
theorem RdAt.setA (h : RdAt w col ρ X D A L) (h' : RAt w' (RfP.Own w.heap.size 4 col) ρ.a A') (hk : Kept (RfP.Own w.heap.size 4 col) w w') : ∃ col',WentD w col w' col' ∧ RdAt w' col' ρ X D A' L :=
 ⟨_,wentD hk (fun k hk y => by rw [own_old hk y];omega) 4,h.rest hk (fun k hk y => by rw [own_old hk y];omega) 4 (h.t.setA h' hk)⟩
theorem RdAt.setL (h : RdAt w col ρ X D A L) (h' : ListR.RefAt w' ρ.l 32 (fun k => k < w.heap.size ∧ col k ≠ 5) L') (hk : Kept (· = ρ.l) w w') : ∃ col',WentD w col w' col' ∧ RdAt w' col' ρ X D A L' :=
 ⟨_,wentD hk (fun k _ y => by rw [y,h.t.l.at_.2];omega) 5,h.rest hk (fun k _ y => by rw [y,h.t.l.at_.2];omega) 5 (h.t.setL h' hk)⟩
theorem RdAt.c3 (h : RdAt w col ρ X D A L) : w.cell? ⟨ρ.m,3,none⟩ = some (.pointer (some ⟨ρ.r.m,0,none⟩)) := by
 obtain ⟨x,y,z,h1,_⟩ := h.own
 have := h1.cell 3
 exact this
theorem RdAt.c4 (h : RdAt w col ρ X D A L) : w.cell? ⟨ρ.m,4,none⟩ = some (.pointer (some ⟨ρ.a,0,none⟩)) := by
 obtain ⟨x,y,z,h1,_⟩ := h.own
 have := h1.cell 4
 exact this
theorem RdAt.c5 (h : RdAt w col ρ X D A L) : w.cell? ⟨ρ.m,5,none⟩ = some (.pointer (some ⟨ρ.l,0,none⟩)) := by
 obtain ⟨x,y,z,h1,_⟩ := h.own
 have := h1.cell 5
 exact this
end
end RdS
namespace ListS
open Go.ChangeShapes Go.WideShapes Go.ChangeAt Go.RowKit
open Mem Blk ListM Rowed ListC ListD ListR Stages
section
variable {w : World} {m n : Nat} {F : Nat → Prop} {zs : List Nat}
def RPost (m n : Nat) (F : Nat → Prop) (w : World) (v : Value) (zs : List Nat) (e : Ending) (w' : World) : Prop :=
 e = .returned v ∧ RefAt w' m n F zs ∧ Kept (· = m) w w'
theorem rfront_bad (h : RefAt w m n F zs) (k : Int) (hn : zs.Nodup) (hl : zs.length ≤ 1024) (hk : okF n zs k = false) (hlt : ∀ x ∈ zs,x < n) :
  Calls Tryz.prog 117 #[.pointer (some ⟨m,0,none⟩),.int .i64 k] w fun e w' => e = .returned (.bool false) ∧ w = w' := by
 obtain ⟨A,c,h1,h2,h3,h4⟩ := h.hd
 have c0 := h1.cell (i := 0) (by omega)
 have c1 := h1.cell (i := 1) (by omega)
 simp only [Nat.one_ne_zero,if_false,if_true] at c1 c0
 have HP := hid (place_any A c _ zs k hn (by omega) h2)
 clear h1 h4 h
 by_cases h0 : k < 0
 ·clear hk
  go_enter Tryz.func117,Tryz.ntmps117
  go_wp2
  go_ret
  exact ⟨rfl,rfl⟩
 ·by_cases hN : (n : Int) ≤ k
  ·clear hk
   go_enter Tryz.func117,Tryz.ntmps117
   go_wp2
   go_ret
   exact ⟨rfl,rfl⟩
  ·have ho : okO zs k = true := by
    unfold okF at hk
    unfold okO
    simpa [show 0 ≤ k by omega,show k < (n : Int) by omega] using hk
   have hp : placeI zs k = ((zs.idxOf k.toNat : Nat) : Int) := by unfold placeI;rw [if_pos ho]
   rw [hp] at HP
   generalize zs.idxOf k.toNat = i at *
   have h0' : 0 ≤ k := by omega
   have hN' : k < (n : Int) := by omega
   clear hk ho hp hlt hn h2
   go_enter Tryz.func117,Tryz.ntmps117
   go_wp2_with (go_at_call 163;(with_reducible refine HP.out.mono ?_);rintro e w' ⟨rfl,rfl⟩)
   go_ret
   exact ⟨rfl,rfl⟩
theorem rfront_good (h : RefAt w m n F zs) (k : Nat) (hkn : k < n) (hkz : k ∉ zs) (hn : zs.Nodup) (hl : zs.length ≤ 1024) (low : ∀ k,F k → k < w.heap.size) :
  Calls Tryz.prog 117 #[.pointer (some ⟨m,0,none⟩),.int .i64 (k : Int)] w (RPost m n F w (.bool true) (k :: zs)) := by
 obtain ⟨A,c,h1,h2,h3,h4⟩ := h.hd
 have c0 := h1.cell (i := 0) (by omega)
 have c1 := h1.cell (i := 1) (by omega)
 simp only [Nat.one_ne_zero,if_false,if_true] at c1 c0
 have HP := hid (place_any A c _ zs (k : Int) hn (by omega) h2)
 have hp : placeI zs (k : Int) = -1 := by unfold placeI okO;simp [hkz]
 rw [hp] at HP
 have hkz' : (k : Int) < (n : Int) := by omega
 have HLT := hid h.lt
 have HLOW := hid low
 have HA := hid h2
 have H := hid h
 clear h1 h4 h2 h3 hp low
 go_enter Tryz.func117,Tryz.ntmps117
 go_upto_region 3 with (go_at_call 163;(with_reducible refine HP.out.mono ?_);rintro e w' ⟨rfl,rfl⟩)
 have hga : Grow w (w.alloc (.cells #[.int .i64 (k : Int)] 3)) := (Kept.refl _ _).alloc _
 have hown := World.ownsRow_lit (base := w.heap.size) (e := 3) (size := 1) w #[.int .i64 (k : Int)] 1 (Nat.le_refl _) (by unfold maxLen;omega) rfl
 obtain ⟨v',w1,hr,ho1,hb1⟩ := append_sl (m := zs.length) (A := A) (B := w.heap.size) (c := c) (ys := [(k : Int)]) 33 hown (Sl.kept HA.out hga (Nat.le_refl _) (fun _ _ x => x)) (by omega) (by simp)
 have HG1 : Hid (Grow w w1) := Kept.of_below (hga.below.trans hb1)
 obtain ⟨A1,c1',rfl,hs1,hc1,hm1,hx1⟩ := own_form ho1
 have hlen : 1 + zs.length = (k :: zs).length := by rw [List.length_cons];omega
 rw [hlen] at hr hs1 hc1
 have HR := hid hr
 have HS1 := hid (And.intro hs1 (And.intro hc1 (And.intro hm1 hx1)))
 have ca := hga.cellN c1 id
 clear hr hs1 hc1 hm1 hx1 ho1 hb1 hown hga hlen
 obtain ⟨A0,c00,hrow,_⟩ := (H.out.grow HG1.out).hd
 have r1 := hrow.cell (i := 1) (by omega)
 have f1 := hrow.frozen 1
 clear hrow
 have HF : Hid (RefAt (w1.setCell ⟨m,1,none⟩ (.slice A1 (k :: zs).length c1')) m n F (k :: zs)) := (H.out.grow HG1.out).put HS1.out.1 ⟨HS1.out.2.1,HS1.out.2.2.1⟩ (fun x _ hx => by
  have h1 := HS1.out.2.2.2 x hx
  have h2 := HLT.out
  refine ⟨by omega,fun hf => ?_⟩
  have := HLOW.out _ hf
  omega)
 have HK : Hid (Kept (· = m) w (w1.setCell ⟨m,1,none⟩ (.slice A1 (k :: zs).length c1'))) := Kept.setCell (F := (· = m)) (Grow.kept HG1.out) (p := ⟨m,1,none⟩) (fun _ => rfl) _
 generalize (k :: zs).length = L at *
 go_wp2_with (at_builtin;refine Lib.wpList_append_run _ rfl _ _ _ _ rfl _ _ rfl rfl _ _ HR.out ?_)
 go_ret
 exact ⟨rfl,HF.out,HK.out⟩
end
end ListS
namespace ListT
open Go.ChangeShapes Go.WideShapes Go.ChangeAt Go.RowKit
open Mem Blk ListM Rowed ListC ListD ListR ListS Stages
section
variable {w : World} {m n : Nat} {F : Nat → Prop} {zs : List Nat}
def Without (w : World) (i : Nat) (zs : List Nat) (e : Ending) (w' : World) : Prop :=
 ∃ A c,e = .returned (.slice A (zs.length - 1) c) ∧ Sl w' w'.heap.size .i64 A (zs.length - 1) (ints (zs.eraseIdx i)) ∧ zs.length - 1 ≤ c ∧ c ≤ maxLen ∧ (∀ x,A = some x → w.heap.size ≤ x.block) ∧ Grow w w'
theorem without_any {w : World} (A : Option Addr) (c B : Nat) (i : Nat) (hi : i < zs.length) (hl : zs.length ≤ 1024) (hc : zs.length ≤ c ∧ c ≤ maxLen) (h : Sl w B .i64 A zs.length (ints zs)) (hB : B ≤ w.heap.size) :
  Calls Tryz.prog 164 #[.slice A zs.length c,.int .i64 (i : Int)] w (Without w i zs) := by
 have hiz : (i : Int) < (zs.length : Int) := by omega
 have hlz : (zs.length : Int) ≤ 1024 := by omega
 obtain ⟨h1,h2⟩ := hc
 unfold maxLen at h2
 have hcz : (zs.length : Int) ≤ (c : Int) := by omega
 have hcm : (c : Int) ≤ 9223372036854775807 := by omega
 have H := hid h
 obtain ⟨b,off,rfl,hb,_⟩ := h.2 (by omega)
 clear h
 have HCUT : Hid (Sl w B .i64 (if c = i + 1 then (some ⟨b,off,none⟩ : Option Addr) else some ⟨b,off + (i + 1),none⟩) (zs.length - (i + 1)) ((ints zs).drop (i + 1))) := by
  have := Sl.cut H.out (m := i + 1) (cap := c) (by omega) h1
  have e : Option.map (fun x : Addr => x.add (i + 1)) (some (⟨b,off,none⟩ : Addr)) = some ⟨b,off + (i + 1),none⟩ := by simp [Addr.add]
  rw [e] at this
  exact this
 have hga : Grow w (w.alloc (.cells #[] 3)).drew := ((Kept.refl _ _).alloc _).drew
 have hown := World.ownsRow_lit (base := w.heap.size) (e := 3) (size := 1) w #[] 0 (Nat.le_refl _) (by unfold maxLen;omega) rfl
 have hown' : (w.alloc (.cells #[] 3)).drew.ownsRow w.heap.size 3 1 (.slice (some ⟨w.heap.size,0,none⟩) 0 0) 0 ([].map (Value.int .i64)) := hown
 obtain ⟨v',w1,hr,ho1,hb1⟩ := append_sl (m := i) (A := some ⟨b,off,none⟩) (B := B) (c := c) (ys := []) 33 hown' (Sl.kept (Sl.take H.out (m := i) (by omega)) hga hB (fun _ _ x => x)) (by omega) (by simp)
 have HG1 : Hid (Grow w w1) := Kept.of_below (hga.below.trans hb1)
 have HB1 : Hid (Kept (· = w.heap.size) (w.alloc (.cells #[] 3)).drew w1) := by
  have := hb1
  refine ⟨this.os,this.tape,this.output,this.size,fun k hk hne => this.block k ?_⟩
  simp at hk
  omega
 have HR := hid hr
 have HO1 := hid ho1
 clear hr ho1 hb1 hown hown' hga
 go_enter Tryz.func164,Tryz.ntmps164
 go_upto_region 1 with (fail)
 refine wp_region_stages (Kept (w.heap.size ≤ ·)) (kept_refl _) (kept_trans _) [([1,2,3,5,6,7,8],0),([],4),([],9)] [10] (by kernel_rfl) (by kernel_rfl) ?_
 simp only [selSt,sel,ZmC,ZmN,ZgS,ZgZ]
 refine st_cons fun K1 hK1 => ?_
 repeat (go_big_quiet_step (fail))
 refine wpQuiet_nil ?_
 generalize (if c = i + 1 then (some ⟨b,off,none⟩ : Option Addr) else some ⟨b,off + (i + 1),none⟩) = A2 at HCUT ⊢
 go_wp2
 refine norm_up (hK1 _ _ ((Kept.refl _ _).alloc _) (st_cons fun K2 hK2 => wpQuiet_nil ?_))
 clear hK1 K1
 go_wp2_with (at_builtin;refine Lib.wpList_append_run _ rfl _ _ _ _ rfl _ _ rfl rfl _ _ HR.out ?_)
 refine norm_up (hK2 _ _ (HB1.out.mono fun k _ e => by omega) (st_cons fun K3 hK3 => wpQuiet_nil ?_))
 clear hK2 K2
 obtain ⟨v2,w2,hr2,ho2,hb2⟩ := append_sl (m := zs.length - (i + 1)) (A := A2) (B := B) (c := c - (i + 1)) 33 HO1.out (Sl.kept HCUT.out HG1.out hB (fun _ _ x => x)) (by omega) HG1.out.size
 have HG2 : Hid (Grow w w2) := Kept.of_below (HG1.out.below.trans hb2)
 have HB2 : Hid (Kept (w.heap.size ≤ ·) w1 w2) := by
  have := hb2
  refine ⟨this.os,this.tape,this.output,this.size,fun k hk hne => this.block k ?_⟩
  omega
 obtain ⟨A3,c3,rfl,hs3,hc3,hm3,hx3⟩ := own_form ho2
 have hlen : 0 + i + (zs.length - (i + 1)) = zs.length - 1 := by omega
 have hz : [] ++ (ints zs).take i ++ (ints zs).drop (i + 1) = ints (zs.eraseIdx i) := by
  rw [List.nil_append,List.eraseIdx_eq_take_drop_succ]
  unfold ints
  rw [List.map_append,List.map_take,List.map_drop]
 rw [hlen] at hr2 hs3 hc3
 rw [hz] at hs3
 have HR2 := hid hr2
 have HS3 := hid (And.intro hs3 (And.intro hc3 (And.intro hm3 hx3)))
 clear hr2 hs3 hc3 hm3 hx3 ho2 hb2 hlen hz
 go_wp2_with (at_builtin;refine Lib.wpList_append_run _ rfl _ _ _ _ rfl _ _ rfl rfl _ _ HR2.out ?_)
 refine norm_up (hK3 _ _ HB2.out (st_nil fun K4 hK4 => ?_))
 clear hK3 K3
 repeat (go_big_quiet_step (fail))
 refine wpQuiet_nil (hK4 _ ?_)
 clear hK4 K4
 go_wp2
 go_ret
 exact ⟨A3,c3,rfl,HS3.out.1,HS3.out.2.1,HS3.out.2.2.1,HS3.out.2.2.2,HG2.out⟩
theorem erase_idx (hn : zs.Nodup) {k : Nat} (hk : k ∈ zs) : zs.eraseIdx (zs.idxOf k) = zs.erase k := by
 rw [List.erase_eq_eraseIdx_of_idxOf rfl]
set_option maxRecDepth 100000 in
theorem rout_any (h : RefAt w m n F zs) (k : Int) (hn : zs.Nodup) (hl : zs.length ≤ 1024) (low : ∀ k,F k → k < w.heap.size) :
  Calls Tryz.prog 121 #[.pointer (some ⟨m,0,none⟩),.int .i64 k] w (RPost m n F w (.bool (okO zs k)) (outL zs k)) := by
 obtain ⟨A,c,h1,h2,h3,h4⟩ := h.hd
 have c1 := h1.cell (i := 1) (by omega)
 simp only [Nat.one_ne_zero,if_false] at c1
 have HP := hid (place_any A c _ zs k hn (by omega) h2)
 have H := hid h
 cases hk : okO zs k with
 | false =>
  have hp : placeI zs k = -1 := by unfold placeI;rw [hk];rfl
  have HE : Hid (outL zs k = zs) := by show _ = _;unfold outL;rw [hk];rfl
  rw [hp] at HP
  clear h1 h2 h3 h4 h hp hk low
  go_enter Tryz.func121,Tryz.ntmps121
  go_wp2_with (go_at_call 163;(with_reducible refine HP.out.mono ?_);rintro e w' ⟨rfl,rfl⟩)
  go_ret
  rw [HE.out]
  exact ⟨rfl,H.out,Kept.refl _ _⟩
 | true =>
  have hk' := hk
  simp only [okO,Bool.and_eq_true,decide_eq_true_eq] at hk'
  have hp : placeI zs k = ((zs.idxOf k.toNat : Nat) : Int) := by unfold placeI;rw [if_pos hk]
  have HE : Hid (outL zs k = zs.eraseIdx (zs.idxOf k.toNat)) := by
   show _ = _
   unfold outL
   rw [hk,if_pos rfl,erase_idx hn hk'.2]
  rw [hp] at HP
  have hi : zs.idxOf k.toNat < zs.length := List.idxOf_lt_length_iff.2 hk'.2
  generalize zs.idxOf k.toNat = i at *
  have HW := hid (without_any A c _ i hi hl h3 h2 (Nat.le_refl _))
  have hll : zs.length - 1 = (zs.eraseIdx i).length := by rw [List.length_eraseIdx,if_pos hi]
  have HLL := hid hll
  have HLOW := hid low
  have HLT := hid h.lt
  clear h1 h2 h3 h4 h hp hk hk' low hll
  go_enter Tryz.func121,Tryz.ntmps121
  go_upto_region 4 with (go_at_call 163;(with_reducible refine HP.out.mono ?_);rintro e w' ⟨rfl,rfl⟩)
  have f1 : Hid (∀ wx,Grow w wx → wx.cell? ⟨m,1,none⟩ = some (.slice A zs.length c) ∧ wx.frozen? ⟨m,1,none⟩ = false) := fun wx hg => by
   obtain ⟨A0,c0,hrow,_⟩ := (H.out.grow hg).hd
   exact ⟨hg.cellN c1 id,hrow.frozen 1⟩
  go_wp2_with (go_at_call 164;(with_reducible refine HW.out.mono ?_);rintro e w1 ⟨A1,c1',rfl,hs1,hc1,hm1,hx1,hg1⟩;have HS1 := hid (And.intro hs1 (And.intro hc1 (And.intro hm1 hx1)));have HG1 := hid hg1;obtain ⟨r1,r2⟩ := f1.out _ hg1;clear hs1 hc1 hm1 hx1 hg1)
  go_ret
  refine ⟨rfl,?_,Kept.setCell (F := (· = m)) (Grow.kept HG1.out) (p := ⟨m,1,none⟩) (fun _ => rfl) _⟩
  have hs := HS1.out
  rw [HLL.out] at hs ⊢
  rw [HE.out]
  refine (H.out.grow HG1.out).put hs.1 ⟨hs.2.1,hs.2.2.1⟩ (fun x _ hx => ?_)
  have h1 := hs.2.2.2 x hx
  have h2 := HLT.out
  refine ⟨by omega,fun hf => ?_⟩
  have := HLOW.out _ hf
  omega
theorem rfront_any (h : RefAt w m n F zs) (k : Int) (hn : zs.Nodup) (hl : zs.length ≤ 1024) (hlt : ∀ x ∈ zs,x < n) (low : ∀ k,F k → k < w.heap.size) :
  Calls Tryz.prog 117 #[.pointer (some ⟨m,0,none⟩),.int .i64 k] w (RPost m n F w (.bool (okF n zs k)) (frontL n zs k)) := by
 cases hk : okF n zs k with
 | true =>
  have hk' := hk
  simp only [okF,Bool.and_eq_true,decide_eq_true_eq,Bool.not_eq_true',decide_eq_false_iff_not] at hk'
  obtain ⟨K,rfl⟩ := Int.eq_ofNat_of_zero_le hk'.1.1
  have := rfront_good h K (by omega) hk'.2 hn hl low
  unfold frontL
  rw [hk]
  exact this
 | false =>
  have HE : frontL n zs k = zs := by unfold frontL;rw [hk];rfl
  rw [HE]
  refine (rfront_bad h k hn hl hk hlt).mono ?_
  rintro e w' ⟨rfl,rfl⟩
  exact ⟨rfl,h,Kept.refl _ _⟩
end
end ListT
namespace ArRefT
open Go.ChangeShapes Go.WideShapes Go.ChangeAt Go.RowKit
open Mem Blk Cells Orow TabM ArM ArC ArRefC Txt Stages Trees
open ListM (ints ints_len ints_get)
section
variable {w w' : World} {G H F : Nat → Prop} {m c g cap gB cB : Nat} {vL vB : Value} {A : Option Addr} {S : Nat → List Int} {a : Ar}
theorem RMem.bod {S' : Nat → List Int} {B' : Nat → List Int} (h : RMem w G m vL (.slice (some ⟨gB,0,none⟩) a.n cB) A c S a) (hf : OR w' gB 9 1 cB a.n (scell S')) (hk : Kept (· = gB) w w') (hs : ∀ x,x < a.n → (a.F x).st = 1 → S' x = B' x) : RMem w' G m vL (.slice (some ⟨gB,0,none⟩) a.n cB) A c S' ⟨a.n,a.F,B',a.Q⟩ := by
 have hb : G gB ∧ gB ≠ m := by
  rcases h.bo with ⟨e,_⟩ | ⟨g',c',e,_,hb⟩
  ·cases e
  ·injection e with e1
   injection e1 with e1
   injection e1 with e1
   subst e1
   exact hb
 refine ⟨h.hd.kept hk hb.2.symm,?_,.inr ⟨gB,cB,rfl,hf,hb⟩,hs,sl_at h.id hk fun x e x2 => (h.off x e).2.2.2 (by rw [← x2];rfl),h.cc,h.off,h.inG,fun x e => Nat.lt_of_lt_of_le (h.lt x e) hk.size⟩
 rcases h.fr with h' | ⟨g',c',e,ho,hb'⟩
 ·exact .inl h'
 ·exact .inr ⟨g',c',e,ho.kept hk fun x => hb'.2.2 (by rw [x];rfl),hb'⟩
theorem RMem.any {B' : Nat → List Int} (h : RMem w G m vL vB A c S a) (hs : ∀ x,x < a.n → (a.F x).st = 1 → S x = B' x) : RMem w G m vL vB A c S ⟨a.n,a.F,B',a.Q⟩ := ⟨h.hd,h.fr,h.bo,hs,h.id,h.cc,h.off,h.inG,h.lt⟩
theorem scell_set {S : Nat → List Int} {f : Nat} {zs : List Int} (i : Nat) : (if i = f then Value.string (strOfNums zs) else scell S i) = scell (upd S f zs) i := by
 unfold scell
 by_cases e : i = f
 ·subst e;rw [if_pos rfl,upd_same]
 ·rw [if_neg e,upd_other _ _ e]
theorem scell_at (S : Nat → List Int) (f : Nat) : scell S f = .string (strOfNums (S f)) := rfl
theorem rtake_bad (h : RAt w G m a) (p : Int) (hc : a.can p = false) : Calls Tryz.prog 116 #[.pointer (some ⟨m,0,none⟩),.int .i64 p] w fun e w' => e = .returned (.int .i64 (-1)) ∧ w = w' := by
 have HF := hid (rfind_any h p)
 by_cases h0 : p < 0
 ·clear h hc
  go_enter Tryz.func116,Tryz.ntmps116
  go_wp2
  go_ret
  exact ⟨rfl,rfl⟩
 ·have h0' : 0 ≤ p := by omega
  by_cases h1 : 48 ≤ p
  ·clear h hc h0
   go_enter Tryz.func116,Tryz.ntmps116
   go_wp2
   go_ret
   exact ⟨rfl,rfl⟩
  ·have h1' : p < 48 := by omega
   have h2 : 0 ≤ a.find p := by
    have : ¬ a.find p < 0 := fun x => by
     unfold Ar.can at hc
     rw [decide_eq_true h0',decide_eq_true h1',decide_eq_true x] at hc
     cases hc
    omega
   clear h hc h0 h1
   generalize a.find p = q at *
   go_enter Tryz.func116,Tryz.ntmps116
   go_wp2_with (go_at_call 59;(with_reducible refine HF.out.mono ?_);rintro e w' ⟨rfl,rfl⟩)
   go_ret
   exact ⟨rfl,rfl⟩
theorem can_find {p : Int} (h : a.can p = true) : 0 ≤ p ∧ p < 48 ∧ a.find p = -1 := by
 simp only [Ar.can,Bool.and_eq_true,decide_eq_true_eq] at h
 refine ⟨h.1.1,h.1.2,?_⟩
 rcases find_cases a p with h' | ⟨x,_,_,_,e⟩
 ·exact h'.1
 ·omega
theorem rtake_none (h : RAt w G m a) (p : Int) (hc : a.can p = true) (hq : a.Q = []) : Calls Tryz.prog 116 #[.pointer (some ⟨m,0,none⟩),.int .i64 p] w fun e w' => e = .returned (.int .i64 (-1)) ∧ w = w' := by
 have HF := hid (rfind_any h p)
 obtain ⟨h0,h1,h2⟩ := can_find hc
 rw [h2] at HF
 obtain ⟨vL,vB,A,c,S,hb⟩ := h.mem
 have c2 := hb.c2
 rw [hq] at c2
 clear h hc hb h2
 go_enter Tryz.func116,Tryz.ntmps116
 go_wp2_with (go_at_call 59;(with_reducible refine HF.out.mono ?_);rintro e w' ⟨rfl,rfl⟩)
 go_ret
 exact ⟨rfl,rfl⟩
set_option maxHeartbeats 2000000 in
theorem rtake_good (h : RAt w G m a) (p : Int) (hc : a.can p = true) (f : Nat) (q : List Nat) (hq : a.Q = f :: q) : Calls Tryz.prog 116 #[.pointer (some ⟨m,0,none⟩),.int .i64 p] w (RPost G m w (.int .i64 (f : Int)) ⟨a.n,upd a.F f (fUsed p),upd a.B f zeros,q⟩) := by
 obtain ⟨hf,hs,_,_⟩ := h.good.head hq
 have HG := hid (h.good.takeF hc hq)
 have HF := hid (rfind_any h p)
 obtain ⟨h0,h1,h2⟩ := can_find hc
 rw [h2] at HF
 obtain ⟨vL,vB,A,c,S,hb⟩ := h.mem
 have hn32 := h.good.n
 have c2 := hb.c2
 obtain ⟨gL,cL,rfl,hfr,hgL⟩ := hb.fr.form (by omega)
 obtain ⟨gB,cB,rfl,hbo,hgB⟩ := hb.bo.form (by omega)
 obtain ⟨b,off,rfl,_,hcl⟩ := hb.id.at_ (by rw [hq];simp)
 have r0 := hcl 0 (by rw [hq];simp)
 rw [ints_get,hq,List.getD_cons_zero,Nat.add_zero] at r0
 have hcc := hb.cc
 rw [hq] at hcc c2
 have hne : gL ≠ gB := fun e => hgL.2.2 (by rw [e];rfl)
 have H1 := hid (hb.cut1 hq)
 have hk := kept_set w m 2 (.slice (if c = 1 then some ⟨b,off,none⟩ else some ⟨b,off + 1,none⟩) q.length (c - 1))
 have HFR := hid (OR.kept hfr hk (fun e => hgL.2.1 e))
 have HBO := hid (OR.kept hbo hk (fun e => hgB.2 e))
 have HK1 : Hid (Kept G w (w.setCell ⟨m,2,none⟩ (.slice (if c = 1 then some ⟨b,off,none⟩ else some ⟨b,off + 1,none⟩) q.length (c - 1)))) := hk.mono fun k _ e => by subst e;exact hb.inG
 have HSB : Hid (∀ x,x < a.n → (upd a.F f (fUsed p) x).st = 1 → upd S f zeros x = upd a.B f zeros x) := fun x hx hs1 => by
  by_cases e : x = f
  ·subst e;rw [upd_same,upd_same]
  ·rw [upd_other _ _ e] at hs1 ⊢
   rw [upd_other _ _ e]
   exact hb.sb x hx hs1
 have mz := hb.hd.frozen 2
 have hfz : (f : Int) < (a.n : Int) := by omega
 have hnz : (a.n : Int) ≤ 32 := by omega
 have hlc : q.length + 1 ≤ c := by have := hcc.1;simpa using this
 have hlcz : (q.length : Int) + 1 ≤ (c : Int) := by omega
 have hqz : ((q.length : Int) + 1 == 0) = false := by rw [beq_eq_false_iff_ne];omega
 have hcz := hcc.2
 unfold maxLen at hcz
 simp only [List.length_cons] at c2
 have hgLG := hgL.1
 have hgBG := hgB.1
 have hgLm := hgL.2.1
 have hgBm := hgB.2
 clear h hb hq hcl hcc hk hfr hbo hs hc h2 hgL hgB
 go_enter Tryz.func116,Tryz.ntmps116
 go_upto_region 5 with (go_at_call 59;(with_reducible refine HF.out.mono ?_);rintro e w' ⟨rfl,rfl⟩)
 clear c2 r0 mz
 generalize (if c = 1 then (some ⟨b,off,none⟩ : Option Addr) else some ⟨b,off + 1,none⟩) = A' at *
 generalize w.setCell ⟨m,2,none⟩ (.slice A' q.length (c - 1)) = w1 at *
 have c0 := H1.out.c0
 have f0 := FR.c0 HFR.out hf
 have f1 := FR.c1 HFR.out hf
 have f2 := FR.c2 HFR.out hf
 have f3 := FR.c3 HFR.out hf
 have f4 := FR.c4 HFR.out hf
 have fz := OR.frozen HFR.out
 go_upto_region 6 with (fail)
 rw [show (((((w1.setCell ⟨gL,f * 5,none⟩ (.int .i64 1)).setCell ⟨gL,f * 5 + 1,none⟩ (.int .i64 p)).setCell ⟨gL,f * 5 + 2,none⟩ (.int .i64 0)).setCell ⟨gL,f * 5 + 3,none⟩ (.int .i64 0)).setCell ⟨gL,f * 5 + 4,none⟩ (.bool false)) = setF w1 gL f (fUsed p) from rfl]
 clear c0 f0 f1 f2 f3 f4 fz
 have HK2 := hid (kept_setF w1 gL f (fUsed p))
 have HBO2 := hid (OR.kept HBO.out HK2.out (fun e => hne e.symm))
 have c1 := HK2.out.cellN (p := ⟨m,1,none⟩) H1.out.c1 (fun e => hgLm e.symm)
 have HFRs := hid (FR.setF HFR.out f (fUsed p))
 generalize setF w1 gL f (fUsed p) = w2 at *
 have q1 := up_cell (F := fun _ => False) (w := w2.drew) (p := ⟨m,1,none⟩) c1 id
 refine wp_region_stages (Kept (· = gB)) (kept_refl _) (kept_trans _) [([0,1,2,3,4],5),([6],7)] [] (by kernel_rfl) (by kernel_rfl) ?_
 simp only [selSt,sel,ZmC,ZmN,ZgS,ZgZ]
 refine st_cons fun K1 hK1 => ?_
 have q1 := up_cell (F := (· = gB)) (w := w2.drew) (p := ⟨m,1,none⟩) c1 (fun e => hgBm e.symm)
 repeat (go_big_quiet_step (fail))
 refine wpQuiet_nil ?_
 clear q1
 go_wp2_with (go_at_call 162;(with_reducible refine zeros_any.mono ?_);rintro e w3 ⟨rfl,hg⟩;have HG3 := hid hg;clear hg)
 refine norm_up (hK1 _ _ HG3.out.kept (st_cons fun K2 hK2 => ?_))
 clear hK1 K1
 have HBO3 := hid (OR.grow HBO2.out ((Kept.drew' w2).trans HG3.out))
 have s0 := OR.cell HBO3.out (i := f) (by omega)
 have sz := OR.frozen HBO3.out f
 repeat (go_big_quiet_step (fail))
 refine wpQuiet_nil ?_
 go_wp2
 refine norm_up (hK2 _ _ (kept_set _ _ _ _) (st_nil fun K4 hK4 => wpQuiet_nil (hK4 _ ?_)))
 clear hK2 hK4 K2 K4 s0 sz
 have HKB : Hid (Kept (· = gB) w2 (w3.setCell ⟨gB,f,none⟩ (.string (strOfNums zeros)))) := ((Kept.drew' w2).trans HG3.out.kept).trans (kept_set _ _ _ _)
 have HBO4 : Hid (OR (w3.setCell ⟨gB,f,none⟩ (.string (strOfNums zeros))) gB 9 1 cB a.n (scell (upd S f zeros))) := (OR.set HBO3.out f _).congr fun i _ => scell_set i
 have H2 : RMem w2 G m (.slice (some ⟨gL,0,none⟩) a.n cL) (.slice (some ⟨gB,0,none⟩) a.n cB) A' (c - 1) S ⟨a.n,upd a.F f (fUsed p),S,q⟩ := RMem.frm (a := ⟨a.n,a.F,S,q⟩) (RMem.any (a := ⟨a.n,a.F,a.B,q⟩) H1.out fun _ _ _ => rfl) HFRs.out HK2.out fun _ _ _ => rfl
 have H3 := hid (RMem.bod (a := ⟨a.n,upd a.F f (fUsed p),S,q⟩) (B' := upd a.B f zeros) H2 HBO4.out HKB.out HSB.out)
 clear H2
 go_wp2
 go_ret
 exact ⟨rfl,⟨HG.out,_,_,_,_,_,H3.out⟩,(HK1.out.trans (HK2.out.mono fun k _ e => by subst e;exact hgLG)).trans (HKB.out.mono fun k _ e => by subst e;exact hgBG)⟩
theorem rtake_any (h : RAt w G m a) (p : Int) : Calls Tryz.prog 116 #[.pointer (some ⟨m,0,none⟩),.int .i64 p] w (RPost G m w (.int .i64 (a.takeC p)) (a.take p)) := by
 cases hc : a.can p with
 | false =>
  have e1 : a.takeC p = -1 := by unfold Ar.takeC;rw [hc];rfl
  have e2 : a.take p = a := by unfold Ar.take;rw [hc];rfl
  rw [e1,e2]
  exact (rtake_bad h p hc).mono fun e w' ⟨h1,h2⟩ => ⟨h1,h2 ▸ h,h2 ▸ Kept.refl _ _⟩
 | true =>
  cases hq : a.Q with
  | nil =>
   have e1 : a.takeC p = -1 := by unfold Ar.takeC;rw [if_pos hc,hq];rfl
   have e2 : a.take p = a := by unfold Ar.take;rw [if_pos hc,hq];rfl
   rw [e1,e2]
   exact (rtake_none h p hc hq).mono fun e w' ⟨h1,h2⟩ => ⟨h1,h2 ▸ h,h2 ▸ Kept.refl _ _⟩
  | cons f q =>
   have e1 : a.takeC p = (f : Int) := by unfold Ar.takeC;rw [if_pos hc,hq];rfl
   have e2 : a.take p = ⟨a.n,upd a.F f (fUsed p),upd a.B f zeros,q⟩ := by unfold Ar.take;rw [if_pos hc,hq];rfl
   rw [e1,e2]
   exact rtake_good h p hc f q hq
set_option maxHeartbeats 2000000 in
theorem rset_any (h : RAt w G m a) (k off : Int) (zs : List Int) (hn : zs.length ≤ 1000) : Calls Tryz.prog 60 #[.pointer (some ⟨m,0,none⟩),.int .i64 k,.int .i64 off,.string (strOfNums zs)] w (RPost G m w (.int .i64 (a.setC k off zs)) (a.set k off zs)) := by
 have HU := hid (rused_any h k)
 have hsz := str_size zs
 have hlz : (zs.length : Int) ≤ 1000 := by omega
 cases hu : a.used k with
 | false =>
  have e1 : a.setC k off zs = 2 := by unfold Ar.setC;rw [hu];rfl
  have e2 : a.set k off zs = a := by unfold Ar.set;rw [e1];rfl
  rw [e1,e2]
  rw [hu] at HU
  have HA := hid h
  clear h hu e1 e2
  go_enter Tryz.func60,Tryz.ntmps60
  go_wp2_with (go_at_call 118;(with_reducible refine HU.out.mono ?_);rintro e w' ⟨rfl,rfl⟩)
  go_ret
  exact ⟨rfl,HA.out,Kept.refl _ _⟩
 | true =>
  rw [hu] at HU
  obtain ⟨f,rfl,hf,hs⟩ := used_iff.1 hu
  have HG := hid (h.good.set (f : Int) off zs)
  have hn32 := h.good.n
  by_cases hin : 0 ≤ off ∧ off + (zs.length : Int) ≤ 16
  ·obtain ⟨o,rfl⟩ := Int.eq_ofNat_of_zero_le hin.1
   have ho : o + zs.length ≤ 16 := by omega
   have e1 : a.setC (f : Int) (o : Int) zs = 0 := by unfold Ar.setC;rw [if_pos hu,if_pos hin]
   have e2 : a.set (f : Int) (o : Int) zs = ⟨a.n,upd a.F f ⟨(a.F f).st,(a.F f).pg,(a.F f).pn,true⟩,upd a.B f (ArM.splice (a.B f) o zs),a.Q⟩ := by unfold Ar.set;rw [if_pos e1,Int.toNat_natCast,Int.toNat_natCast]
   rw [e2] at HG
   rw [e1,e2]
   obtain ⟨vL,vB,A,c,S,hb⟩ := h.mem
   obtain ⟨gL,cL,rfl,hfr,hgL⟩ := hb.fr.form (by omega)
   obtain ⟨gB,cB,rfl,hbo,hgB⟩ := hb.bo.form (by omega)
   have hne : gL ≠ gB := fun e => hgL.2.2 (by rw [e];rfl)
   have hb16 := h.good.b f
   have hSf := hb.sb f hf hs
   have s0 := OR.cell hbo (i := f) (by omega)
   rw [scell_at,hSf] at s0
   have sz := OR.frozen hbo f
   have c1 := hb.c1
   have HBO : Hid (OR (w.setCell ⟨gB,f,none⟩ (.string (strOfNums (ArM.splice (a.B f) o zs)))).drew gB 9 1 cB a.n (scell (upd S f (ArM.splice (a.B f) o zs)))) := OR.grow ((OR.set hbo f _).congr fun i _ => scell_set i) (Kept.drew' _)
   have HKB : Hid (Kept (· = gB) w (w.setCell ⟨gB,f,none⟩ (.string (strOfNums (ArM.splice (a.B f) o zs)))).drew) := (kept_set _ _ _ _).drew
   have H1 := hid (RMem.bod (B' := upd a.B f (ArM.splice (a.B f) o zs)) hb HBO.out HKB.out fun x hx hs1 => by
    by_cases e : x = f
    ·subst e;rw [upd_same,upd_same]
    ·rw [upd_other _ _ e,upd_other _ _ e];exact hb.sb x hx hs1)
   have HFR := hid (OR.kept hfr HKB.out hne)
   have hx1 : ∀ w,(Instr.sliceAt 9 (.string (strOfNums (a.B f))) none (some (.int .i64 (o : Int))) none).run Tryz.prog w = .ok (.string (strOfNums ((a.B f).take o))) w := fun w => by
    have := run_slice_string_h (P := Tryz.prog) w 9 (strOfNums (a.B f)) Tryz.underlying9 .i64 (o : Int) (by omega) (by rw [str_size];omega)
    rw [run_sliceAt_string w 9 _ _ _ _ Tryz.underlying9,this,Int.toNat_natCast,str_take]
   have hx2 : ∀ w,(Instr.sliceAt 9 (.string (strOfNums (a.B f))) (some (.int .i64 ((o : Int) + (zs.length : Int)))) none none).run Tryz.prog w = .ok (.string (strOfNums ((a.B f).drop (o + zs.length)))) w := fun w => by
    have := run_slice_string_l (P := Tryz.prog) w 9 (strOfNums (a.B f)) Tryz.underlying9 .i64 ((o : Int) + (zs.length : Int)) (by omega) (by rw [str_size];omega)
    rw [run_sliceAt_string w 9 _ _ _ _ Tryz.underlying9,this,show ((o : Int) + (zs.length : Int)).toNat = o + zs.length by omega,str_size,str_drop _ _ _ rfl (by omega)]
   have hszB : (strOfNums (a.B f)).size = 16 := by rw [str_size];exact hb16
   have hext1 : (strOfNums (a.B f)).extract 0 o = strOfNums ((a.B f).take o) := str_take _ _
   have hext2 : (strOfNums (a.B f)).extract (o + zs.length) 16 = strOfNums ((a.B f).drop (o + zs.length)) := str_drop _ _ _ hb16 (by omega)
   have htn : ((o : Int) + (zs.length : Int)).toNat = o + zs.length := by omega
   have hoz0 : (o : Int) ≤ 16 := by omega
   have hoz3 : (0 : Int) ≤ (o : Int) + (zs.length : Int) := by omega
   have hsz1 : ((strOfNums ((a.B f).take o)).size : Int) ≤ 8388608 := by rw [str_size,List.length_take];omega
   have hsz2 : ((strOfNums zs).size : Int) ≤ 8388608 := by rw [str_size];omega
   have hsz3 : ((strOfNums ((a.B f).take o ++ zs)).size : Int) ≤ 8388608 := by rw [str_size,List.length_append,List.length_take];omega
   have hsz4 : ((strOfNums ((a.B f).drop (o + zs.length))).size : Int) ≤ 8388608 := by rw [str_size,List.length_drop];omega
   have hap1 := str_append ((a.B f).take o) zs
   have hap2 : strOfNums ((a.B f).take o ++ zs) ++ strOfNums ((a.B f).drop (o + zs.length)) = strOfNums (ArM.splice (a.B f) o zs) := by
    rw [str_append]
    unfold ArM.splice
    rw [List.append_assoc]
   have hl8 : (zs.length : Int) ≤ 8388608 := by omega
   have hoz : (o : Int) + (zs.length : Int) ≤ 16 := by omega
   have hfz : (f : Int) < (a.n : Int) := by omega
   have hnz : (a.n : Int) ≤ 32 := by omega
   have hgLG := hgL.1
   have hgBG := hgB.1
   have hgBm := hgB.2
   have hgLm := hgL.2.1
   clear h hb hfr hbo hu hs e1 e2 hin hgL hgB hb16 hSf ho hn
   go_enter Tryz.func60,Tryz.ntmps60
   go_upto_region 5 with (go_at_call 118;(with_reducible refine HU.out.mono ?_);rintro e w' ⟨rfl,rfl⟩)
   have q0 := up_cell (F := fun _ => False) (w := w.drew) (p := ⟨gB,f,none⟩) s0 id
   have q1 := up_cell (F := fun _ => False) (w := w.drew) (p := ⟨m,1,none⟩) c1 id
   have q2 := up_run (F := fun _ => False) (P := Tryz.prog) (w := w.drew) fun w' _ => hx1 w'
   have q3 := up_run (F := fun _ => False) (P := Tryz.prog) (w := w.drew) fun w' _ => hx2 w'
   clear hx1 hx2 q2 q3
   refine wp_region_tree Grow (Kept (· = gB)) (kept_refl _) (kept_trans _) (kept_refl _) (kept_trans _) (fun _ _ h => h.mono fun _ _ x => x.elim) [30]
    (.one true [0,1,2,3,4,5,6,7,8,9,10,11,12,13,14,15,16,17,18,19,20,21,22,23,24,25,26,27,28,29] 30 (.last false [])) (by kernel_rfl) (by kernel_rfl) ?_
   refine tr_oneE fun K hK => ?_
   simp only [sel,ZmC,ZmN,ZgS,ZgZ]
   repeat (go_big_quiet_step (fail))
   refine wpQuiet_nil ?_
   clear q0 q1 hap1 hap2 hext1 hext2
   go_wp2
   refine norm_up (hK _ _ (Lr_late (by decide) (kept_set _ _ _ _)) ?_)
   clear hK K s0 sz c1
   refine tr_lastL fun K hK => ?_
   simp only [sel,ZmN]
   refine wpQuiet_nil (hK _ ?_)
   clear hK K
   generalize (w.setCell ⟨gB,f,none⟩ (.string (strOfNums (ArM.splice (a.B f) o zs)))).drew = w1 at *
   have c0 := H1.out.c0
   have f4 := FR.c4 HFR.out hf
   have fz := OR.frozen HFR.out
   have HK4 := hid (kept_set w1 gL (f * 5 + 4) (.bool true))
   have H2 := hid (RMem.frm (a := ⟨a.n,a.F,upd a.B f (ArM.splice (a.B f) o zs),a.Q⟩) H1.out (FR.set4 HFR.out f true) HK4.out fun x hx hs1 => H1.out.sb x hx (by
    by_cases e : x = f
    ·subst e;rw [upd_same] at hs1;exact hs1
    ·rw [upd_other _ _ e] at hs1;exact hs1))
   go_wp2
   go_ret
   exact ⟨rfl,⟨HG.out,_,_,_,_,_,H2.out⟩,(HKB.out.mono fun k _ e => by subst e;exact hgBG).trans (HK4.out.mono fun k _ e => by subst e;exact hgLG)⟩
  ·have e1 : a.setC (f : Int) off zs = 6 := by unfold Ar.setC;rw [if_pos hu,if_neg hin]
   have e2 : a.set (f : Int) off zs = a := by unfold Ar.set;rw [e1];rfl
   rw [e1,e2]
   have HA := hid h
   clear h hu hs e1 e2 HG
   by_cases h0 : off < 0
   ·clear hin
    go_enter Tryz.func60,Tryz.ntmps60
    go_wp2_with (go_at_call 118;(with_reducible refine HU.out.mono ?_);rintro e w' ⟨rfl,rfl⟩)
    go_ret
    exact ⟨rfl,HA.out,Kept.refl _ _⟩
   ·have h0' : 0 ≤ off := by omega
    by_cases h16 : 16 < off
    ·clear hin h0
     go_enter Tryz.func60,Tryz.ntmps60
     go_wp2_with (go_at_call 118;(with_reducible refine HU.out.mono ?_);rintro e w' ⟨rfl,rfl⟩)
     go_ret
     exact ⟨rfl,HA.out,Kept.refl _ _⟩
    ·have h16' : off ≤ 16 := by omega
     have hbad : 16 - off < (zs.length : Int) := by omega
     clear hin h0 h16
     go_enter Tryz.func60,Tryz.ntmps60
     go_wp2_with (go_at_call 118;(with_reducible refine HU.out.mono ?_);rintro e w' ⟨rfl,rfl⟩)
     go_ret
     exact ⟨rfl,HA.out,Kept.refl _ _⟩
end
end ArRefT
namespace ArRefA
open Go.ChangeShapes Go.WideShapes Go.ChangeAt Go.RowKit
open Mem Blk Cells Orow TabM ArM ArC ArRefC ArRefT Txt Stages Trees
open ListM (ints ints_len ints_get)
theorem infoI : (Tryz.prog.info? 3).map (fun i => (i.zero,i.size,i.bytes)) = some (some (.int .i64 0),1,8) := by kernel_rfl
section
variable {w w' : World} {G H F : Nat → Prop} {m c g cap gB cB : Nat} {vL vB : Value} {A : Option Addr} {S : Nat → List Int} {a : Ar}
theorem RMem.idle {w4 : World} {A4 : Option Addr} {c4 f : Nat} (h : RMem w G m vL vB A c S a) (hnew : ∀ k,w.heap.size ≤ k → G k) (hg : Grow w w4) (hs : Sl w4 w4.heap.size .i64 A4 (a.Q.length + 1) (ints (a.Q ++ [f]))) (hc : a.Q.length + 1 ≤ c4 ∧ c4 ≤ maxLen) (hA : ∀ x,A4 = some x → w.heap.size ≤ x.block ∧ x.block < w4.heap.size) :
  RMem (w4.setCell ⟨m,2,none⟩ (.slice A4 (a.Q.length + 1) c4)) G m vL vB A4 c4 S ⟨a.n,a.F,a.B,a.Q ++ [f]⟩ := by
 have hk := kept_set w4 m 2 (.slice A4 (a.Q.length + 1) c4)
 have hl : (a.Q ++ [f]).length = a.Q.length + 1 := by simp
 have hm := h.hd.lt
 refine ⟨((h.hd.kept hg (fun x => x)).set 2 _).congr fun i hi => ?_,(h.fr.kept hg fun _ _ x => x).kept hk fun k x y => x.2.1 y,(h.bo.kept hg fun _ _ x => x).kept hk fun k x y => x.2 y,h.sb,?_,by rw [hl];exact hc,fun x hx => ?_,h.inG,fun x hx => Nat.lt_of_lt_of_le (hA x hx).2 hk.size⟩
 ·rw [hl]
  have : i = 0 ∨ i = 1 ∨ i = 2 := by omega
  rcases this with rfl | rfl | rfl <;> rfl
 ·rw [hl]
  exact sl_at hs hk fun x e y => by have := (hA x e).1;omega
 ·have h1 := (hA x hx).1
  exact ⟨hnew _ h1,by omega,fun e => by have := (h.fr.own.2 _ e).2;omega,fun e => by have := (h.bo.own.2 _ e).2;omega⟩
theorem copy_idle (h : RMem w G m vL vB A c S a) (hn : a.Q.length ≤ 1000) : ∃ v' w2,(∀ ty,(Builtin.append_ #[33,33] ty #[.slice (some ⟨w.heap.size,0,none⟩) 0 0,.slice A a.Q.length c]).run Tryz.prog (w.alloc (.cells #[] 3)) = .ok v' w2) ∧ w2.ownsRow w.heap.size 3 1 v' a.Q.length ((ints a.Q).map (Value.int .i64)) ∧ Grow w w2 := by
 have hga : Grow w (w.alloc (.cells #[] 3)) := (Kept.refl _ _).alloc _
 have hown := World.ownsRow_lit (base := w.heap.size) (e := 3) (size := 1) w #[] 0 (Nat.le_refl _) (by unfold maxLen;omega) rfl
 have hown' : (w.alloc (.cells #[] 3)).ownsRow w.heap.size 3 1 (.slice (some ⟨w.heap.size,0,none⟩) 0 0) 0 ([].map (Value.int .i64)) := hown
 have hsl : Sl (w.alloc (.cells #[] 3)) w.heap.size .i64 A a.Q.length (ints a.Q) := Sl.kept h.id hga (Nat.le_refl _) (fun _ _ x => x)
 have key := fun ty => ListR.append_sl (m := a.Q.length) (A := A) (B := w.heap.size) (c := c) (ys := []) ty hown' hsl (by omega) (by simp)
 obtain ⟨v',w2,hr,ho,hb⟩ := key 0
 rw [Nat.zero_add,List.nil_append] at ho
 refine ⟨v',w2,fun ty => ?_,ho,hga.then (F := fun _ => False) (G := (w.heap.size ≤ ·)) ⟨hb.os,hb.tape,hb.output,hb.size,fun k hk hF => hb.block k (by omega)⟩ fun k hk x => by omega⟩
 rw [← hr]
 rfl
theorem below_grow {N : Nat} {w0 w w' : World} (h0 : Grow w0 w) (hN : w0.heap.size ≤ N) (h : Below N w w') : Grow w0 w' := h0.then (F := fun _ => False) (G := (N ≤ ·)) ⟨h.os,h.tape,h.output,h.size,fun k hk hF => h.block k (by omega)⟩ fun k hk x => by omega
theorem own_sl {N n c g f : Nat} {q : List Nat} {w : World} (h : w.ownsRow N 3 1 (.slice (some ⟨g,0,none⟩) n c) n ((ints q).map (Value.int .i64) ++ [.int .i64 (f : Int)])) : Sl w w.heap.size .i64 (some ⟨g,0,none⟩) n (ints (q ++ [f])) ∧ (n ≤ c ∧ c ≤ maxLen) ∧ ∀ x,(some ⟨g,0,none⟩ : Option Addr) = some x → N ≤ x.block ∧ x.block < w.heap.size := by
 have hlt := h.lt g rfl
 rw [show (ints q).map (Value.int .i64) ++ [Value.int .i64 (f : Int)] = (ints (q ++ [f])).map (Value.int .i64) by simp [ints]] at h
 obtain ⟨A,c',e,h1,h2,h3,h4⟩ := ListR.own_form h
 injection e with e1 e2 e3
 subst e1 e3
 exact ⟨h1,⟨h2,h3⟩,fun x hx => ⟨h4 x hx,by injection hx with hx;subst hx;exact hlt.2⟩⟩
set_option maxRecDepth 100000 in
theorem rdrop_any (h : RAt w G m a) (hnew : ∀ k,w.heap.size ≤ k → G k) (k : Int) : Calls Tryz.prog 123 #[.pointer (some ⟨m,0,none⟩),.int .i64 k] w (RPost G m w (.int .i64 (a.dropC k)) (a.drop k)) := by
 have HU := hid (rused_any h k)
 cases hu : a.used k with
 | false =>
  have e1 : a.dropC k = 2 := by unfold Ar.dropC;rw [hu];rfl
  have e2 : a.drop k = a := by unfold Ar.drop;rw [e1];rfl
  rw [e1,e2]
  rw [hu] at HU
  have HA := hid h
  clear h hu e1 e2
  go_enter Tryz.func123,Tryz.ntmps123
  go_wp2_with (go_at_call 118;(with_reducible refine HU.out.mono ?_);rintro e w' ⟨rfl,rfl⟩)
  go_ret
  exact ⟨rfl,HA.out,Kept.refl _ _⟩
 | true =>
  rw [hu] at HU
  obtain ⟨f,rfl,hf,hs⟩ := used_iff.1 hu
  have HG := hid (h.good.drop (f : Int))
  have hbd := h.good.use f hf hs
  have hn32 := h.good.n
  have HQL : Hid (a.Q.length ≤ 32) := by show _ ≤ _;rw [h.good.free];exact Nat.le_trans (cnt_le _ _) hn32
  obtain ⟨g,cap,vB,A,c,S,hb,hfr,hgG⟩ := h.form (by omega)
  have c0 := hb.c0
  have f2 := FR.c2 hfr hf
  have hfz : (f : Int) < (a.n : Int) := by omega
  have hnz : (a.n : Int) ≤ 32 := by omega
  by_cases hpos : 0 < (a.F f).pn
  ·have e1 : a.dropC (f : Int) = 7 := by unfold Ar.dropC;rw [if_pos hu,Int.toNat_natCast,if_pos hpos]
   have e2 : a.drop (f : Int) = a := by unfold Ar.drop;rw [e1];rfl
   have HA := hid h
   rw [e1,e2]
   clear h hb hfr hbd e1 e2 HG hu hs
   generalize (a.F f).pn = pn at *
   go_enter Tryz.func123,Tryz.ntmps123
   go_wp2_with (go_at_call 118;(with_reducible refine HU.out.mono ?_);rintro e w' ⟨rfl,rfl⟩)
   go_ret
   exact ⟨rfl,HA.out,Kept.refl _ _⟩
  ·have e1 : a.dropC (f : Int) = 0 := by unfold Ar.dropC;rw [if_pos hu,Int.toNat_natCast,if_neg hpos]
   have e2 : a.drop (f : Int) = ⟨a.n,upd a.F f fFree,a.B,a.Q ++ [f]⟩ := by unfold Ar.drop;rw [if_pos e1,Int.toNat_natCast];rfl
   rw [e2] at HG
   rw [e1,e2]
   have h0 : (a.F f).pn = 0 := by omega
   rw [h0] at f2
   have f0 := FR.c0 hfr hf
   have f1 := FR.c1 hfr hf
   have f3 := FR.c3 hfr hf
   have f4 := FR.c4 hfr hf
   have fz := OR.frozen hfr
   have HK1 := hid (kept_setF w g f fFree)
   have H1 := hid (RMem.frm hb (FR.setF hfr f fFree) HK1.out fun x hx hs1 => hb.sb x hx (by
    by_cases e : x = f
    ·subst e;rw [upd_same] at hs1;have : (0 : Int) = 1 := hs1;omega
    ·rw [upd_other _ _ e] at hs1;exact hs1))
   have HNW := hid hnew
   clear h hb hfr hu hs hbd hpos h0 hnew e1 e2
   go_enter Tryz.func123,Tryz.ntmps123
   go_upto_region 6 with (go_at_call 118;(with_reducible refine HU.out.mono ?_);rintro e w' ⟨rfl,rfl⟩)
   rw [show (((((w.setCell ⟨g,f * 5,none⟩ (.int .i64 0)).setCell ⟨g,f * 5 + 1,none⟩ (.int .i64 (-1))).setCell ⟨g,f * 5 + 2,none⟩ (.int .i64 0)).setCell ⟨g,f * 5 + 3,none⟩ (.int .i64 0)).setCell ⟨g,f * 5 + 4,none⟩ (.bool false)) = setF w g f fFree from rfl]
   have HKG : Hid (Kept G w (setF w g f fFree)) := HK1.out.mono fun k _ e => by subst e;exact hgG
   clear c0 f0 f1 f2 f3 f4 fz HU HK1
   generalize setF w g f fFree = w1 at *
   have HNW1 : Hid (∀ k,w1.heap.size ≤ k → G k) := fun k hk => HNW.out k (Nat.le_trans HKG.out.size hk)
   have c2 : w1.cell? ⟨m,2,none⟩ = some (.slice A a.Q.length c) := H1.out.c2
   obtain ⟨v2,w2,hr2,ho2,hg2⟩ := copy_idle (a := ⟨a.n,upd a.F f fFree,a.B,a.Q⟩) H1.out (Nat.le_trans HQL.out (by omega))
   have c2a : (w1.alloc (.cells #[] 3)).cell? ⟨m,2,none⟩ = some (.slice A a.Q.length c) := Lib.cell?_alloc_some _ c2
   clear c2
   have HR2 := hid hr2
   have HO2 := hid ho2
   have HG2 := hid hg2
   clear hr2 ho2 hg2
   go_wp2_with (first
    | (at_builtin;refine Lib.wpList_append_run _ rfl _ _ _ _ rfl _ _ rfl rfl _ _ (HR2.out _) ?_)
    | (at_builtin;refine wpList_append_one rfl _ _ 33 rfl w1.heap.size 3 (.int .i64 0) 8 Tryz.underlying33 infoI rfl _ a.Q.length _ rfl (World.ownsRow.alloc HO2.out _) w2.heap.size (.int .i64 (f : Int)) rfl (cell_new1 _ _ _) rfl (by have := HQL.out;unfold maxLen;omega) (by have := HQL.out;omega) (by have := HG2.out.size;simp;omega) ?_;intro g4 cap4 w4 hown hbel;have HOW4 := hid hown;have HG4 := hid (below_grow (HG2.out.trans ((Kept.refl _ w2).alloc _)) (Nat.le_refl _) hbel);clear hown hbel c2a;have e2 : w4.cell? ⟨m,2,none⟩ = some (.slice A a.Q.length c) := (H1.out.hd.kept HG4.out (fun x => x)).cell (i := 2) (by omega);have mz := (H1.out.hd.kept HG4.out (fun x => x)).frozen 2))
   obtain ⟨hs4,hc4,hA4⟩ := own_sl HOW4.out
   have H4 := hid (RMem.idle (a := ⟨a.n,upd a.F f fFree,a.B,a.Q⟩) H1.out HNW1.out HG4.out hs4 hc4 hA4)
   have HK4 : Hid (Kept G w1 (w4.setCell ⟨m,2,none⟩ (.slice (some ⟨g4,0,none⟩) (a.Q.length + 1) cap4))) := HG4.out.kept.trans ((kept_set _ _ _ _).mono fun k _ e => by subst e;exact H1.out.inG)
   clear hs4 hc4 hA4 e2 mz
   go_ret
   exact ⟨rfl,⟨HG.out,_,_,_,_,_,H4.out⟩,HKG.out.trans HK4.out⟩
end
end ArRefA
namespace RdA
open Go.ChangeShapes Go.WideShapes Go.ChangeAt Go.RowKit
open Mem Blk Cells Orow RfP RdS
open MdM (Md MdOp Re)
open ArM (Ar Fr)
open Dev (Dv)
open ListM (outL frontL okO okF)
structure LOk (L : List Nat) : Prop where
 nd : L.Nodup
 lt : ∀ x ∈ L,x < 32
 len : L.length ≤ 1024
theorem LOk.out {L : List Nat} (h : LOk L) (f : Int) : LOk (outL L f) := by
 unfold outL
 split
 ·exact ⟨h.nd.erase _,fun x hx => h.lt x (List.mem_of_mem_erase hx),Nat.le_trans (List.erase_sublist.length_le) h.len⟩
 ·exact h
section
variable {w : World} {col : Nat → Nat} {ρ : Rn} {X : Md} {D : Dv} {A : Ar} {L : List Nat}
set_option maxRecDepth 100000 in
theorem drop_any (x : RdAt w col ρ X D A L) (ho : LOk L) (f : Int) : Calls Tryz.prog 64 #[.pointer (some ⟨ρ.m,0,none⟩),.int .i64 f] w (PostD ρ w col (.tuple #[]) X D (A.drop f) (outL L f)) := by
 have c4 := x.c4
 have HO := hid (ArRefA.rdrop_any x.t.a.use own_new f)
 have HX := hid x
 have HL := hid ho
 clear x ho
 go_enter Tryz.func64,Tryz.ntmps64
 go_wp2_with (first
  | (go_at_call 123;(with_reducible refine HO.out.mono ?_);rintro e w1 ⟨rfl,hl,hk⟩;obtain ⟨c1,hw1,hm1⟩ := HX.out.setA hl hk;have HW1 := hid hw1;have d5 := hm1.c5;have HF := hid (ListT.rout_any hm1.t.l f HL.out.nd HL.out.len LAt.low);have HM1 := hid hm1;clear hl hk hw1 hm1)
  | (go_at_call 121;(with_reducible refine HF.out.mono ?_);rintro e w2 ⟨rfl,hl,hk⟩;obtain ⟨c2,hw2,hm2⟩ := HM1.out.setL hl hk;have HW2 := hid hw2;have HM2 := hid hm2;clear hl hk hw2 hm2 d5))
 go_end0
 exact ⟨rfl,c2,HW1.out.trans HW2.out,HM2.out⟩
set_option maxRecDepth 100000 in
theorem front_any (x : RdAt w col ρ X D A L) (ho : LOk L) (f : Int) : Calls Tryz.prog 58 #[.pointer (some ⟨ρ.m,0,none⟩),.int .i64 f] w (PostD ρ w col (.tuple #[]) X D A (if okO L f = true then frontL 32 (outL L f) f else L)) := by
 have c5 := x.c5
 have HO := hid (ListT.rout_any x.t.l f ho.nd ho.len LAt.low)
 have HX := hid x
 have HL := hid (ho.out f)
 clear x ho
 cases hk : okO L f with
 | false =>
  have HE : Hid (outL L f = L) := by show outL L f = L;unfold outL;rw [hk];rfl
  rw [hk] at HO
  clear hk
  go_enter Tryz.func58,Tryz.ntmps58
  go_wp2_with (go_at_call 121;(with_reducible refine HO.out.mono ?_);rintro e w1 ⟨rfl,hl,hk⟩;obtain ⟨c1,hw1,hm1⟩ := HX.out.setL hl hk;have HW1 := hid hw1;have HM1 := hid hm1;clear hl hk hw1 hm1)
  go_end0
  have h := HM1.out
  rw [HE.out] at h
  exact ⟨rfl,c1,HW1.out,h⟩
 | true =>
  rw [hk] at HO
  clear hk
  go_enter Tryz.func58,Tryz.ntmps58
  go_wp2_with (first
   | (go_at_call 121;(with_reducible refine HO.out.mono ?_);rintro e w1 ⟨rfl,hl,hk⟩;obtain ⟨c1,hw1,hm1⟩ := HX.out.setL hl hk;have HW1 := hid hw1;have d5 := hm1.c5;have HF := hid (ListT.rfront_any hm1.t.l f HL.out.nd HL.out.len HL.out.lt LAt.low);have HM1 := hid hm1;clear hl hk hw1 hm1)
   | (go_at_call 117;(with_reducible refine HF.out.mono ?_);rintro e w2 ⟨rfl,hl,hk⟩;obtain ⟨c2,hw2,hm2⟩ := HM1.out.setL hl hk;have HW2 := hid hw2;have HM2 := hid hm2;clear hl hk hw2 hm2 d5))
  go_end0
  exact ⟨rfl,c2,HW1.out.trans HW2.out,HM2.out⟩
end
end RdA
namespace PageR
open Go.ChangeShapes Go.WideShapes Go.ChangeAt Go.RowKit
open SumM Mem SumC Blk PageM PageC
set_option maxHeartbeats 1000000 in
theorem low_any (s : Int) (n : Nat) (w : World) (h0 : 0 ≤ s) (h1 : s < 4294967296) (hn : n ≤ 4) :
  Calls Tryz.prog 189 #[.int .u32 s,.int .i64 (n : Int)] w fun e w' => e = .returned (.string (strOfNums ((le4 s).take n))) ∧ Below w.heap.size w w' := by
 have hcs := fun (w1 : World) B A (n : Nat) zs c (h : Sl w1 B .u8 A n zs) => h.str (P := Tryz.prog) 22 9 5 Tryz.underlying22 Tryz.underlying5 Tryz.underlying9 c
 have HCS := hid hcs
 clear hcs
 go_enter Tryz.func189,Tryz.ntmps189
 go_wp2
 go_loopg [5,6] n (fun g v i wr => ∃ j : Nat,j + g = n ∧ i = .int .i64 (j : Int) ∧ wr.ownsRow w.heap.size 5 1 v j (((le4 s).take j).map (Value.int .u8)) ∧ Below w.heap.size w wr)
 case atStart => exact ⟨0,by omega,rfl,World.ownsRow_nil _ _ _ _,Below.refl _ _⟩
 case round =>
  obtain ⟨j,hg,rfl,hown,hbel⟩ := hrel
  by_cases hj : j < n
  ·have HO := hid hown
   have HB := hid hbel
   have HG := hid hg
   clear hown hbel hg
   have hbs : w.heap.size ≤ wr.heap.size := HB.out.size
   match j,hj with
   | 0,hj =>
    have E : Hid (((le4 s).take 0).map (Value.int .u8) ++ [.int .u8 (s % 256)] = ((le4 s).take 1).map (Value.int .u8)) := by
     show ((le4 s).take 0).map (Value.int .u8) ++ [Value.int .u8 (s % 256)] = ((le4 s).take 1).map (Value.int .u8)
     simp [le4]
    simp only [Int.cast_ofNat_Int] at *
    go_wp2_with (at_builtin;refine wpList_append_one rfl (.tmp 12) (.tmp 19) 22 rfl w.heap.size 5 (.int .u8 0) 1 Tryz.underlying22 infoU8 rfl _ 0 _ rfl (World.ownsRow.alloc HO.out _) wr.heap.size (.int .u8 (s % 256)) rfl (cell_new1 _ _ _) rfl (by unfold maxLen;omega) (by omega) (by simp;omega) ?_;intro g cap w2 hown hbel;rw [E.out] at hown;have HOW := hid hown;have HBW := hid hbel;clear hown hbel)
    go_roundg (gk - 1)
    case measure => have := HG.out;omega
    case rel => exact ⟨1,by have := HG.out;omega,by go_num,HOW.out,(HB.out.alloc hbs _).trans HBW.out⟩
   | 1,hj =>
    have E : Hid (((le4 s).take 1).map (Value.int .u8) ++ [.int .u8 (s / 256 % 256)] = ((le4 s).take 2).map (Value.int .u8)) := by
     show ((le4 s).take 1).map (Value.int .u8) ++ [Value.int .u8 (s / 256 % 256)] = ((le4 s).take 2).map (Value.int .u8)
     simp [le4]
    simp only [Int.cast_ofNat_Int] at *
    go_wp2_with (at_builtin;refine wpList_append_one rfl (.tmp 12) (.tmp 19) 22 rfl w.heap.size 5 (.int .u8 0) 1 Tryz.underlying22 infoU8 rfl _ 1 _ rfl (World.ownsRow.alloc HO.out _) wr.heap.size (.int .u8 (s / 256 % 256)) rfl (cell_new1 _ _ _) rfl (by unfold maxLen;omega) (by omega) (by simp;omega) ?_;intro g cap w2 hown hbel;rw [E.out] at hown;have HOW := hid hown;have HBW := hid hbel;clear hown hbel)
    go_roundg (gk - 1)
    case measure => have := HG.out;omega
    case rel => exact ⟨2,by have := HG.out;omega,by go_num,HOW.out,(HB.out.alloc hbs _).trans HBW.out⟩
   | 2,hj =>
    have E : Hid (((le4 s).take 2).map (Value.int .u8) ++ [.int .u8 (s / 65536 % 256)] = ((le4 s).take 3).map (Value.int .u8)) := by
     show ((le4 s).take 2).map (Value.int .u8) ++ [Value.int .u8 (s / 65536 % 256)] = ((le4 s).take 3).map (Value.int .u8)
     simp [le4]
    simp only [Int.cast_ofNat_Int] at *
    go_wp2_with (at_builtin;refine wpList_append_one rfl (.tmp 12) (.tmp 19) 22 rfl w.heap.size 5 (.int .u8 0) 1 Tryz.underlying22 infoU8 rfl _ 2 _ rfl (World.ownsRow.alloc HO.out _) wr.heap.size (.int .u8 (s / 65536 % 256)) rfl (cell_new1 _ _ _) rfl (by unfold maxLen;omega) (by omega) (by simp;omega) ?_;intro g cap w2 hown hbel;rw [E.out] at hown;have HOW := hid hown;have HBW := hid hbel;clear hown hbel)
    go_roundg (gk - 1)
    case measure => have := HG.out;omega
    case rel => exact ⟨3,by have := HG.out;omega,by go_num,HOW.out,(HB.out.alloc hbs _).trans HBW.out⟩
   | 3,hj =>
    have E : Hid (((le4 s).take 3).map (Value.int .u8) ++ [.int .u8 (s / 16777216)] = ((le4 s).take 4).map (Value.int .u8)) := by
     show ((le4 s).take 3).map (Value.int .u8) ++ [Value.int .u8 (s / 16777216)] = ((le4 s).take 4).map (Value.int .u8)
     have hq : s / 16777216 % 256 = s / 16777216 := by omega
     simp [le4,hq]
    simp only [Int.cast_ofNat_Int] at *
    go_wp2_with (at_builtin;refine wpList_append_one rfl (.tmp 12) (.tmp 19) 22 rfl w.heap.size 5 (.int .u8 0) 1 Tryz.underlying22 infoU8 rfl _ 3 _ rfl (World.ownsRow.alloc HO.out _) wr.heap.size (.int .u8 (s / 16777216)) rfl (cell_new1 _ _ _) rfl (by unfold maxLen;omega) (by omega) (by simp;omega) ?_;intro g cap w2 hown hbel;rw [E.out] at hown;have HOW := hid hown;have HBW := hid hbel;clear hown hbel)
    go_roundg (gk - 1)
    case measure => have := HG.out;omega
    case rel => exact ⟨4,by have := HG.out;omega,by go_num,HOW.out,(HB.out.alloc hbs _).trans HBW.out⟩
   | j + 4,hj => exact absurd hj (by omega)
  ·obtain rfl : j = n := by omega
   obtain ⟨A,c,rfl,hsl⟩ := Sl.of_row1 hown
   have hcv := HCS.out _ _ _ _ _ c hsl
   have HB := hid hbel
   clear hown hbel hsl hg
   go_wp2
   go_ret
   exact ⟨rfl,HB.out⟩
theorem str_append (a b : List Int) : strOfNums a ++ strOfNums b = strOfNums (a ++ b) := by
 apply ByteArray.ext
 rw [ByteArray.data_append]
 simp [strOfNums]
theorem str_sign : (⟨#[90,165]⟩ : ByteArray) = strOfNums [90,165] := by decide
theorem refBlank_any (w : World) : Calls Tryz.prog 110 #[] w fun e w' => e = .returned (.string (strOfNums (zeros 24))) ∧ Below w.heap.size w w' := by
 have hmk := fun w => run_make_row' (P := Tryz.prog) 22 5 (.int .u8 0) 1 Tryz.underlying22 infoU8 rfl .i64 .i64 24 (by omega) (by omega) w
 simp only [Int.cast_ofNat_Int] at hmk
 have hb := NBlk.made w 5 .u8 24
 have hbel : Below w.heap.size w (w.alloc (.cells (madeCells #[Value.int .u8 0] 24) 5)) := (Below.refl _ _).alloc (Nat.le_refl _) _
 have hcv := (Sl.of_blk0 (B := w.heap.size + 1) hb (n := 24) (by simp) (by omega)).str (P := Tryz.prog) 22 9 5 Tryz.underlying22 Tryz.underlying5 Tryz.underlying9 24
 have HB := hid hbel
 clear hb hbel
 go_enter Tryz.func110,Tryz.ntmps110
 go_wp2
 go_ret
 exact ⟨rfl,HB.out⟩
set_option maxHeartbeats 1000000 in
theorem refSeal_good (id : Int) (zs : List Int) (w : World) (h0 : 0 ≤ id) (h1 : id < 48) (hz : Bytes zs) (hl : zs.length = 16) :
  Calls Tryz.prog 160 #[.int .i64 id,.string (strOfNums zs)] w fun e w' => e = .returned (.tuple #[.string (strOfNums (sealI id zs)),.int .i64 0]) ∧ Below w.heap.size w w' := by
 have hsz : (strOfNums zs).size = 16 := by rw [strOfNums_size,hl]
 have hl2 := fun w => low_any (id + 1) 2 w (by omega) (by omega) (by omega)
 have e2 : (le4 (id + 1)).take 2 = [id + 1,0] := by
  have q1 : (id + 1) % 256 = id + 1 := by omega
  have q2 : (id + 1) / 256 % 256 = 0 := by omega
  simp [le4,q1,q2]
 rw [e2] at hl2
 simp only [Int.cast_ofNat_Int] at hl2
 have HL2 := hid hl2
 have hcat : strOfNums [id + 1,0] ++ ⟨#[90,165]⟩ ++ strOfNums zs = strOfNums (tail id zs) := by rw [str_sign,str_append,str_append];rfl
 have ht := tail_bytes h0 h1 hz
 have hu := ofI_u32 ht
 have ho := fun w => refOf_any (strOfNums (tail id zs)) w (by rw [strOfNums_size,tail_len,hl];unfold maxLen;omega)
 rw [strNums_ofNums ht] at ho
 have hl4 := fun w => low_any (ofI (tail id zs)) 4 w hu.1 hu.2 (by omega)
 simp only [Int.cast_ofNat_Int] at hl4
 have HO := hid ho
 have HL4 := hid hl4
 have hfin : strOfNums ((le4 (ofI (tail id zs))).take 4) ++ strOfNums (tail id zs) = strOfNums (sealI id zs) := by rw [str_append];rfl
 have HFIN := hid hfin
 have hz2 : (strOfNums [id + 1,0]).size = 2 := by rw [strOfNums_size];rfl
 have hz20 : (strOfNums (tail id zs)).size = 20 := by rw [strOfNums_size,tail_len,hl]
 have hz4 : (strOfNums ((le4 (ofI (tail id zs))).take 4)).size = 4 := by rw [strOfNums_size];rfl
 clear hl2 ho hl4 hfin e2 hu ht hz hl
 generalize ofI (tail id zs) = s at HO HL4 HFIN hz4
 go_enter Tryz.func160,Tryz.ntmps160
 go_wp2_with (first
  | (go_at_call 189;(with_reducible refine (HL2.out _).mono ?_);rintro e w1 ⟨rfl,hb1⟩;have HB1 := hid hb1;clear hb1)
  | (go_at_call 190;(with_reducible refine (HO.out _).mono ?_);rintro e w' ⟨rfl,rfl⟩)
  | (go_at_call 189;(with_reducible refine (HL4.out _).mono ?_);rintro e w2 ⟨rfl,hb2⟩;have HB2 := hid hb2;clear hb2))
 go_ret2
 exact ⟨by rw [← HFIN.out];rfl,HB1.out.trans (HB2.out.mono HB1.out.size)⟩
theorem refSeal_bad (id : Int) (zs : List Int) (w : World) (hlo : -9223372036854775808 ≤ id) (hhi : id < 9223372036854775808) (hl : zs.length ≤ maxLen) (hbad : ¬ (0 ≤ id ∧ id < 48 ∧ zs.length = 16)) :
  Calls Tryz.prog 160 #[.int .i64 id,.string (strOfNums zs)] w fun e w' => e = .returned (.tuple #[.string ⟨#[]⟩,.int .i64 1]) ∧ w = w' := by
 unfold maxLen at hl
 have hsz : (strOfNums zs).size = zs.length := strOfNums_size zs
 by_cases h0 : 0 ≤ id
 ·by_cases h1 : id < 48
  ·have hne : ((zs.length : Int) != 16) = true := by simpa [bne_iff_ne] using (by omega : ¬ (zs.length : Int) = 16)
   clear hbad
   generalize zs.length = n at *
   go_enter Tryz.func160,Tryz.ntmps160
   go_wp2
   go_ret2
   exact ⟨rfl,rfl⟩
  ·have h1' : 48 ≤ id := by omega
   clear hbad
   go_enter Tryz.func160,Tryz.ntmps160
   go_wp2
   go_ret2
   exact ⟨rfl,rfl⟩
 ·have h0' : id < 0 := by omega
  clear hbad
  go_enter Tryz.func160,Tryz.ntmps160
  go_wp2
  go_ret2
  exact ⟨rfl,rfl⟩
theorem str_inj {a b : List Int} (ha : Bytes a) (hb : Bytes b) (h : strOfNums a = strOfNums b) : a = b := by
 have := congrArg strNums h
 rwa [strNums_ofNums ha,strNums_ofNums hb] at this
theorem str_eq {a b : List Int} (ha : Bytes a) (hb : Bytes b) : ((strOfNums a).toList == (strOfNums b).toList) = decide (a = b) := by
 rw [Bool.eq_iff_iff,beq_iff_eq,decide_eq_true_iff]
 constructor
 ·intro h
  refine str_inj ha hb ?_
  rw [ByteArray.toList_eq,ByteArray.toList_eq] at h
  apply ByteArray.ext
  exact Array.ext' h
 ·intro h;rw [h]
theorem str_drop (zs : List Int) (k n : Nat) (hn : zs.length = n) (hk : k ≤ n) : (strOfNums zs).extract k n = strOfNums (zs.drop k) := by
 apply ByteArray.ext
 rw [ByteArray.data_extract]
 apply Array.ext'
 simp [strOfNums,List.map_drop]
 rw [List.take_of_length_le (by simp [hn])]
theorem refOpen_bad (id : Int) (zs : List Int) (w : World) (hlo : -9223372036854775808 ≤ id) (hhi : id < 9223372036854775808) (hl : zs.length ≤ maxLen) (hbad : ¬ (0 ≤ id ∧ id < 48 ∧ zs.length = 24)) :
  Calls Tryz.prog 120 #[.int .i64 id,.string (strOfNums zs)] w fun e w' => e = .returned (.tuple #[.string ⟨#[]⟩,.int .i64 1]) ∧ w = w' := by
 unfold maxLen at hl
 have hsz : (strOfNums zs).size = zs.length := strOfNums_size zs
 by_cases h0 : 0 ≤ id
 ·by_cases h1 : id < 48
  ·have hne : ((zs.length : Int) != 24) = true := by simpa [bne_iff_ne] using (by omega : ¬ (zs.length : Int) = 24)
   clear hbad
   generalize zs.length = n at *
   go_enter Tryz.func120,Tryz.ntmps120
   go_wp2
   go_ret2
   exact ⟨rfl,rfl⟩
  ·have h1' : 48 ≤ id := by omega
   clear hbad
   go_enter Tryz.func120,Tryz.ntmps120
   go_wp2
   go_ret2
   exact ⟨rfl,rfl⟩
 ·have h0' : id < 0 := by omega
  clear hbad
  go_enter Tryz.func120,Tryz.ntmps120
  go_wp2
  go_ret2
  exact ⟨rfl,rfl⟩
set_option maxHeartbeats 1000000 in
theorem refOpen_good (id : Int) (zs : List Int) (w : World) (h0 : 0 ≤ id) (h1 : id < 48) (hz : Bytes zs) (hl : zs.length = 24) :
  Calls Tryz.prog 120 #[.int .i64 id,.string (strOfNums zs)] w fun e w' => e = .returned (.tuple #[.string (strOfNums (openB id zs)),.int .i64 (openC id zs)]) ∧ Below w.heap.size w w' := by
 have hsz : (strOfNums zs).size = 24 := by rw [strOfNums_size,hl]
 have hz8 : Bytes (zs.drop 8) := fun c hc => hz c (List.mem_of_mem_drop hc)
 have hx := str_drop zs 8 24 hl (by omega)
 have HL := hid (fun w => refSeal_good id (zs.drop 8) w h0 h1 hz8 (by rw [List.length_drop,hl]))
 have hbz := str_eq hz (zeros_bytes 24)
 have hbs := str_eq (seal_bytes h0 h1 hz8) hz
 have hoc := openC_good h0 h1 hl
 have hob : openB id zs = if openC id zs = 0 then zs.drop 8 else [] := rfl
 by_cases e1 : zs = zeros 24
 ·rw [decide_eq_true e1] at hbz
  rw [if_pos e1] at hoc
  rw [hoc,if_neg (by decide)] at hob
  have HOC := hid hoc
  have HOB := hid hob
  clear hoc hob e1 hbs hz hl
  go_enter Tryz.func120,Tryz.ntmps120
  go_wp2_with (go_at_call 110;(with_reducible refine (refBlank_any _).mono ?_);rintro e w1 ⟨rfl,hb1⟩;have HB1 := hid hb1;clear hb1)
  go_ret2
  exact ⟨by rw [HOC.out,HOB.out];rfl,HB1.out⟩
 ·rw [decide_eq_false e1] at hbz
  rw [if_neg e1] at hoc
  by_cases e2 : zs = sealI id (zs.drop 8)
  ·rw [decide_eq_true e2.symm] at hbs
   rw [if_pos e2] at hoc
   rw [hoc,if_pos rfl] at hob
   have HOC := hid hoc
   have HOB := hid hob
   clear hoc hob e1 e2 hz hl
   go_enter Tryz.func120,Tryz.ntmps120
   go_wp2_with (first
    | (go_at_call 110;(with_reducible refine (refBlank_any _).mono ?_);rintro e w1 ⟨rfl,hb1⟩;have HB1 := hid hb1;clear hb1)
    | (go_at_call 160;(with_reducible refine (HL.out _).mono ?_);rintro e w2 ⟨rfl,hb2⟩;have HB2 := hid hb2;clear hb2))
   go_ret2
   exact ⟨by rw [HOC.out,HOB.out];rfl,HB1.out.trans (HB2.out.mono HB1.out.size)⟩
  ·rw [decide_eq_false (fun h => e2 h.symm)] at hbs
   rw [if_neg e2] at hoc
   rw [hoc,if_neg (by decide)] at hob
   have HOC := hid hoc
   have HOB := hid hob
   clear hoc hob e1 e2 hz hl
   go_enter Tryz.func120,Tryz.ntmps120
   go_wp2_with (first
    | (go_at_call 110;(with_reducible refine (refBlank_any _).mono ?_);rintro e w1 ⟨rfl,hb1⟩;have HB1 := hid hb1;clear hb1)
    | (go_at_call 160;(with_reducible refine (HL.out _).mono ?_);rintro e w2 ⟨rfl,hb2⟩;have HB2 := hid hb2;clear hb2))
   go_ret2
   exact ⟨by rw [HOC.out,HOB.out];rfl,HB1.out.trans (HB2.out.mono HB1.out.size)⟩
theorem sealB_good {id : Int} {zs : List Int} (h : 0 ≤ id ∧ id < 48 ∧ zs.length = 16) : sealB id zs = sealI id zs ∧ sealC id zs.length = 0 := by
 have : sealOk id zs.length = true := by simp [sealOk,isPage,h]
 simp [sealB,sealC,this]
theorem sealB_bad {id : Int} {zs : List Int} (h : ¬ (0 ≤ id ∧ id < 48 ∧ zs.length = 16)) : sealB id zs = [] ∧ sealC id zs.length = 1 := by
 have : sealOk id zs.length = false := by
  rw [← Bool.not_eq_true]
  simpa [sealOk,isPage,and_assoc] using h
 simp [sealB,sealC,this]
theorem refSeal_any (id : Int) (zs : List Int) (w : World) (hlo : -9223372036854775808 ≤ id) (hhi : id < 9223372036854775808) (hz : Bytes zs) (hl : zs.length ≤ maxLen) :
  Calls Tryz.prog 160 #[.int .i64 id,.string (strOfNums zs)] w fun e w' => e = .returned (.tuple #[.string (strOfNums (sealB id zs)),.int .i64 (sealC id zs.length)]) ∧ Grow w w' := by
 by_cases hg : 0 ≤ id ∧ id < 48 ∧ zs.length = 16
 ·obtain ⟨h1,h2⟩ := sealB_good hg
  rw [h1,h2]
  exact (refSeal_good id zs w hg.1 hg.2.1 hz hg.2.2).mono fun e w' ⟨h3,h4⟩ => ⟨h3,Kept.of_below h4⟩
 ·obtain ⟨h1,h2⟩ := sealB_bad hg
  rw [h1,h2]
  exact (refSeal_bad id zs w hlo hhi hl hg).mono fun e w' ⟨h3,h4⟩ => ⟨h3,h4 ▸ Kept.refl _ _⟩
theorem refOpen_any (id : Int) (zs : List Int) (w : World) (hlo : -9223372036854775808 ≤ id) (hhi : id < 9223372036854775808) (hz : Bytes zs) (hl : zs.length ≤ maxLen) :
  Calls Tryz.prog 120 #[.int .i64 id,.string (strOfNums zs)] w fun e w' => e = .returned (.tuple #[.string (strOfNums (openB id zs)),.int .i64 (openC id zs)]) ∧ Grow w w' := by
 by_cases hg : 0 ≤ id ∧ id < 48 ∧ zs.length = 24
 ·exact (refOpen_good id zs w hg.1 hg.2.1 hz hg.2.2).mono fun e w' ⟨h3,h4⟩ => ⟨h3,Kept.of_below h4⟩
 ·have hc := openC_bad (id := id) (zs := zs) hg
  have hb : openB id zs = [] := by unfold openB;rw [hc,if_neg (by omega)]
  rw [hc,hb]
  exact (refOpen_bad id zs w hlo hhi hl hg).mono fun e w' ⟨h3,h4⟩ => ⟨h3,h4 ▸ Kept.refl _ _⟩
end PageR
namespace RdB
open Go.ChangeShapes Go.WideShapes Go.ChangeAt Go.RowKit
open Mem Blk Cells Orow RfP RdS RdA Stages
open MdM (Md MdOp Re)
open ArM (Ar Fr)
open ArC (FR)
open Dev (Dv)
open ListM (outL frontL okO okF)
open RgM (Bnd)
open RefD (POwn)
section
variable {w : World} {col : Nat → Nat} {ρ : Rn} {X : Md} {D : Dv} {A : Ar} {L : List Nat} {k f : Nat}
theorem parts (x : RdAt w col ρ X D A L) (h0 : 0 < A.n) : ∃ gF cF gB cB,w.cell? ⟨ρ.a,0,none⟩ = some (.slice (some ⟨gF,0,none⟩) A.n cF) ∧ w.cell? ⟨ρ.a,1,none⟩ = some (.slice (some ⟨gB,0,none⟩) A.n cB) ∧ FR w gF cF A.n A.F ∧ (col gF = 4 ∧ col gB = 4 ∧ col ρ.a = 4) ∧ ∀ f,f < A.n → (A.F f).st = 1 → w.cell? ⟨gB,f,none⟩ = some (.string (strOfNums (A.B f))) := by
 obtain ⟨g,cap,vB,B,c,S,hm,hfr,hg⟩ := ArRefC.RAt.form x.t.a h0
 have h1 := hm.c1
 obtain ⟨gB,cB,rfl,ho,hgB⟩ := OS.form hm.bo h0
 refine ⟨g,cap,gB,cB,hm.c0,h1,hfr,⟨hg.2,hgB.1.2,x.t.a.at_.2⟩,fun f hf hs => ?_⟩
 rw [OR.cell ho (by omega)]
 unfold ArRefC.scell
 rw [hm.sb f hf hs]
def img (A : Ar) (f : Nat) : List Int := PageM.sealB (A.F f).pg (A.B f)
def wrC (D : Dv) (A : Ar) (f : Nat) : Int := Dev.writeC D (A.F f).pg (img A f).length
theorem write_any (x : RdAt w col ρ X D A L) (hf : f < A.n) (hs : (A.F f).st = 1) (hp : 0 ≤ (A.F f).pg ∧ (A.F f).pg < 48) (hz : MdM.Bytes (A.B f)) (h16 : (A.B f).length = 16) (hb : Bnd D k) (hk : k ≤ 1000000) :
  Calls Tryz.prog 115 #[.pointer (some ⟨ρ.m,0,none⟩),.int .i64 (f : Int)] w (PostD ρ w col (.int .i64 (wrC D A f)) X (Dev.writeS D (A.F f).pg (img A f)) (if wrC D A f = 0 then A.mark (f : Int) false else A) L) := by
 have h0 : 0 < A.n := by omega
 obtain ⟨gF,cF,gB,cB,a0,a1,hfr,hcol,hbod⟩ := parts x h0
 have f1 := FR.c1 hfr hf
 have bf := hbod f hf hs
 have c3 := x.c3
 have c4 := x.c4
 have HCOL := hid hcol
 have HX := hid x
 have hfz : (f : Int) < (A.n : Int) := by omega
 have HSEAL : Hid (∀ wx,Calls Tryz.prog 160 #[.int .i64 (A.F f).pg,.string (strOfNums (A.B f))] wx fun e w' => e = .returned (.tuple #[.string (strOfNums (img A f)),.int .i64 (PageM.sealC (A.F f).pg 16)]) ∧ Grow wx w') := fun wx => by
  have h := PageR.refSeal_any (A.F f).pg (A.B f) wx (by omega) (by omega) hz (by rw [h16];unfold maxLen;omega)
  rw [h16] at h
  exact h
 have hil : (img A f).length ≤ maxLen := by
  unfold img PageM.sealB
  split
  ·rw [PageM.seal_len,h16];unfold maxLen;omega
  ·exact Nat.zero_le _
 have HWR : Hid (∀ wx cx,RdAt wx cx ρ X D A L → Calls Tryz.prog 161 #[.pointer (some ⟨ρ.r.m,0,none⟩),.int .i64 (A.F f).pg,.string (strOfNums (img A f))] wx (RefD.RefPost ρ.r wx (.int .i64 (wrC D A f)) (Dev.writeS D (A.F f).pg (img A f)))) := fun wx cx h => RefM.rwrite_any h.t.d.1 (A.F f).pg (img A f) (by omega) (by omega) hil (by have := hb.1;omega) (by have := hb.2;omega)
 have HMK : Hid (∀ wx cx D',RdAt wx cx ρ X D' A L → Calls Tryz.prog 56 #[.pointer (some ⟨ρ.a,0,none⟩),.int .i64 (f : Int),.bool false] wx (ArRefC.RPost (RfP.Own wx.heap.size 4 cx) ρ.a wx (.int .i64 (A.markC (f : Int))) (A.mark (f : Int) false))) := fun wx cx D' h => ArRefC.rmark_any h.t.a.use (f : Int) false
 have HF1 := hid f1
 have HA0 := hid a0
 have HA1 := hid a1
 have HC3 := hid c3
 have HC4 := hid c4
 have HBF := hid bf
 clear x hf hs hp hz h16 hb hk h0 hfr hcol hbod hil
 generalize (A.F f).pg = pg at *
 generalize strOfNums (img A f) = si at *
 generalize strOfNums (A.B f) = sb at *
 generalize wrC D A f = wc at *
 clear f1 a0 a1 c3 c4 bf
 obtain ⟨A1,hA1⟩ : ∃ A1,(if wc = 0 then A.mark (f : Int) false else A) = A1 := ⟨_,rfl⟩
 rw [hA1]
 have HA := hid hA1
 clear hA1
 go_enter Tryz.func115,Tryz.ntmps115
 go_upto_region 1 with (fail)
 have q3 := up_cell (F := fun _ => False) (w := w.drew) HC3.out id
 have q4 := up_cell (F := fun _ => False) (w := w.drew) HC4.out id
 have q0 := up_cell (F := fun _ => False) (w := w.drew) HA0.out id
 have q1 := up_cell (F := fun _ => False) (w := w.drew) HA1.out id
 have qf := up_cell (F := fun _ => False) (w := w.drew) HF1.out id
 have qb := up_cell (F := fun _ => False) (w := w.drew) HBF.out id
 refine wp_region_stages Grow (kept_refl _) (kept_trans _) [([0,1,2,3,4,5,6,7,8,9,10,11,12,13,14,15,16,17,18,19,20],21)] [22,23,24,25,26] (by kernel_rfl) (by kernel_rfl) ?_
 simp only [selSt,sel,ZmC,ZmN,ZgS,ZgZ]
 refine st_cons fun K1 hK1 => ?_
 repeat (go_big_quiet_step (fail))
 refine wpQuiet_nil ?_
 clear q3 q4 q0 q1 qf qb
 go_wp2_with (go_at_call 160;(with_reducible refine (HSEAL.out _).mono ?_);rintro e w1 ⟨rfl,hg⟩;have HG1 := hid hg;clear hg)
 refine norm_up (hK1 _ _ HG1.out (st_nil fun K2 hK2 => ?_))
 clear hK1 K1
 repeat (go_big_quiet_step (fail))
 refine wpQuiet_nil (hK2 _ ?_)
 clear hK2 K2
 have HG : Hid (Grow w w1) := (Kept.drew' w).trans HG1.out
 have HX1 := hid (HX.out.grow HG.out)
 have HCX : Hid (paint w.heap.size 0 col gF = 4 ∧ paint w.heap.size 0 col ρ.a = 4) := ⟨(paint_old (block_lt_of_cell HF1.out)).trans HCOL.out.1,(paint_old (block_lt_of_cell HA0.out)).trans HCOL.out.2.2⟩
 have HW1 : Hid (WentD w col w1 (paint w.heap.size 0 col)) := WentD.grow HG.out
 generalize paint w.heap.size 0 col = cx at HX1 HCX HW1
 have h3 := HX1.out.t.d.2
 have nm : ¬ POwn ρ.r ρ.m := fun e => by have := h3 _ e;have := HX1.out.c;omega
 have na : ¬ POwn ρ.r ρ.a := fun e => by have := h3 _ e;have := HCX.out.2;omega
 have nf : ¬ POwn ρ.r gF := fun e => by have := h3 _ e;have := HCX.out.1;omega
 have hd1 : Grow w w1.drew := HG.out.drew
 have q3 := up_cell (F := POwn ρ.r) (w := w1.drew) (hd1.cellN HC3.out id) nm
 have q4 := up_cell (F := POwn ρ.r) (w := w1.drew) (hd1.cellN HC4.out id) nm
 have q0 := up_cell (F := POwn ρ.r) (w := w1.drew) (hd1.cellN HA0.out id) na
 have qf := up_cell (F := POwn ρ.r) (w := w1.drew) (hd1.cellN HF1.out id) nf
 have HX2 : Hid (RdAt w1.drew cx ρ X D A L) := HX1.out.drew
 clear h3 nm na nf hd1
 go_upto_region 2 with (fail)
 refine wp_region_stages (Kept (POwn ρ.r)) (kept_refl _) (kept_trans _) [([0,1,2,3,4,5,6,7,8,9,10,11,12,13,14,15],16)] [17] (by kernel_rfl) (by kernel_rfl) ?_
 simp only [selSt,sel,ZmC,ZmN,ZgS,ZgZ]
 refine st_cons fun K1 hK1 => ?_
 repeat (go_big_quiet_step (fail))
 refine wpQuiet_nil ?_
 clear q3 q4 q0 qf
 go_wp2_with (go_at_call 161;(with_reducible refine (HWR.out _ _ HX2.out).mono ?_);rintro e w2 ⟨rfl,hd,hk⟩;obtain ⟨c2,hw2,hm2⟩ := HX2.out.setD hd hk;have HK2 := hid hk;have HW2 := hid hw2;have HM2 := hid hm2;clear hd hk hw2 hm2)
 refine norm_up (hK1 _ _ HK2.out (st_nil fun K2 hK2 => ?_))
 clear hK1 K1
 repeat (go_big_quiet_step (fail))
 refine wpQuiet_nil (hK2 _ ?_)
 clear hK2 K2
 have HW : Hid (WentD w col w2 c2) := (HW1.out.trans (WentD.drew w1 cx)).trans HW2.out
 by_cases h0 : wc = 0
 ·subst h0
  have d4 := HM2.out.c4
  go_wp2_with (go_at_call 56;(with_reducible refine (HMK.out _ _ _ HM2.out).mono ?_);rintro e w3 ⟨rfl,hr,hk⟩;obtain ⟨c3,hw3,hm3⟩ := HM2.out.setA hr hk;have HW3 := hid hw3;have HM3 := hid hm3;clear hr hk hw3 hm3)
  go_ret
  have hA : A.mark (f : Int) false = A1 := by simpa using HA.out
  exact ⟨rfl,c3,HW.out.trans HW3.out,hA ▸ HM3.out⟩
 ·have hb : (wc == 0) = false := by rw [beq_eq_false_iff_ne];exact h0
  have HE : Hid (A = A1) := (if_neg h0).symm.trans HA.out
  clear h0
  go_wp2
  go_ret
  exact ⟨rfl,c2,HW.out,HE.out ▸ HM2.out⟩
end
section
open RfM (Pl)
open RfI (InvE Inv)
variable {w : World} {col : Nat → Nat} {ρ : Rn} {p : Pl} {h : Option Nat} {k f q : Nat}
abbrev RdP (w : World) (col : Nat → Nat) (ρ : Rn) (p : Pl) : Prop := RdAt w col ρ p.X p.D p.A p.L
def PPost (ρ : Rn) (w : World) (col : Nat → Nat) (v : Value) (p : Pl) : Ending → World → Prop := PostD ρ w col v p.X p.D p.A p.L
theorem lok (i : InvE p h) : LOk p.L := ⟨i.nd,fun x hx => by have := ((i.mem x).1 hx).1;have := i.ga.n;omega,by have := RgD.len32 i;omega⟩
theorem pwrite (x : RdP w col ρ p) (i : InvE p h) (hf : f < p.A.n) (hs : (p.A.F f).st = 1) (hq : q < p.X.n) (hpg : (p.A.F f).pg = (q : Int)) (hn : h ≠ some q) (hb : Bnd p.D k) (hk : k ≤ 1000000) :
  Calls Tryz.prog 115 #[.pointer (some ⟨ρ.m,0,none⟩),.int .i64 (f : Int)] w (PPost ρ w col (.int .i64 (p.wrC f)) (p.wr f)) := by
 have h48 : q < 48 := by have := i.gx.n.2;omega
 have hB := (i.use f q hf hs hpg hn).2.2.1
 exact write_any x hf hs (by rw [hpg];omega) (by rw [hB];exact i.gx.byt q) (by rw [hB];exact i.gx.len q) hb hk
set_option maxRecDepth 100000 in
theorem flush_any (x : RdP w col ρ p) (i : Inv p) (pg : Int) (hb : Bnd p.D k) (hk : k ≤ 1000000) : Calls Tryz.prog 62 #[.pointer (some ⟨ρ.m,0,none⟩),.int .i64 pg] w (PPost ρ w col (.int .i64 (p.flush pg).1) (p.flush pg).2) := by
 have c4 := x.c4
 have HFD := hid (ArRefC.rfind_any x.t.a.use pg)
 have HX := hid x
 rcases ArM.find_cases p.A pg with ⟨e,hno⟩ | ⟨f,hf,hs,hp,e⟩
 ·have HE : Hid (p.flush pg = (0,p)) := by show p.flush pg = (0,p);unfold Pl.flush;rw [if_neg (by omega)]
  rw [HE.out]
  rw [e] at HFD
  clear x e hno
  go_enter Tryz.func62,Tryz.ntmps62
  go_wp2_with (go_at_call 59;(with_reducible refine HFD.out.mono ?_);rintro e w1 ⟨rfl,rfl⟩)
  go_ret
  exact ⟨rfl,col,WentD.refl _ _,HX.out⟩
 ·obtain ⟨gF,cF,gB,cB,a0,a1,hfr,hcol,hbod⟩ := parts x (by omega)
  have f4 := FR.c4 hfr hf
  rw [e] at HFD
  have hfz : (f : Int) < (p.A.n : Int) := by omega
  have hf0 : (0 : Int) ≤ (f : Int) := by omega
  obtain ⟨q,hq,hpq⟩ := i.pg f hf hs
  have HWR := hid (pwrite x i hf hs hq hpq (by simp) hb hk)
  cases hd : (p.A.F f).di with
  | true =>
   have HE : Hid (p.flush pg = (p.wrC f,p.wr f)) := by show p.flush pg = _;unfold Pl.flush;rw [e,Int.toNat_natCast,if_pos ⟨by omega,hd⟩]
   rw [HE.out]
   rw [hd] at f4
   clear x e hf hs hp hpq hq hb hk hd hfr hcol hbod a1 i
   go_enter Tryz.func62,Tryz.ntmps62
   go_wp2_with (first
    | (go_at_call 59;(with_reducible refine HFD.out.mono ?_);rintro e w1 ⟨rfl,rfl⟩)
    | (go_at_call 115;(with_reducible refine HWR.out.mono ?_);rintro e w2 ⟨rfl,c2,hw,hm⟩;have HW := hid hw;have HM := hid hm;clear hw hm))
   go_ret
   exact ⟨rfl,c2,HW.out,HM.out⟩
  | false =>
   have HE : Hid (p.flush pg = (0,p)) := by show p.flush pg = _;unfold Pl.flush;rw [e,Int.toNat_natCast,if_neg (fun h => by rw [hd] at h;cases h.2)]
   rw [HE.out]
   rw [hd] at f4
   clear x e hf hs hp hpq hq hb hk hd hfr hcol hbod a1 i HWR
   go_enter Tryz.func62,Tryz.ntmps62
   go_wp2_with (go_at_call 59;(with_reducible refine HFD.out.mono ?_);rintro e w1 ⟨rfl,rfl⟩)
   go_ret
   exact ⟨rfl,col,WentD.refl _ _,HX.out⟩
end
end RdB
namespace RdC
open Go.ChangeShapes Go.WideShapes Go.ChangeAt Go.RowKit
open Mem Blk Cells Orow RfP RdS RdA RdB Stages
open MdM (Md MdOp Re)
open ArM (Ar Fr)
open ArC (FR)
open ListM (outL frontL okO okF)
open RgM (Bnd)
open RfM (Pl)
open RfI (InvE Inv)
def vicTo (p : Pl) (j : Nat) : Option Nat := ((p.L.take j).filter fun f => decide ((p.A.F f).pn = 0)).getLast?
def vv : Option Nat → Int
 | none => -1
 | some f => (f : Int)
theorem vic_all (p : Pl) : vicTo p p.L.length = p.vic := by unfold vicTo Pl.vic;rw [List.take_length]
theorem vic_step {p : Pl} {j : Nat} (hj : j < p.L.length) : vicTo p (j + 1) = if (p.A.F (p.L.getD j 0)).pn = 0 then some (p.L.getD j 0) else vicTo p j := by
 unfold vicTo
 rw [List.take_add_one,List.getElem?_eq_getElem hj,Option.toList_some,List.filter_append,List.getD_eq_getElem?_getD,List.getElem?_eq_getElem hj,Option.getD_some]
 by_cases h : (p.A.F p.L[j]).pn = 0
 ·rw [if_pos h]
  simp [h]
 ·rw [if_neg h]
  simp [h]
theorem vic_mem {p : Pl} {v : Nat} (h : p.vic = some v) : v ∈ p.L := by
 unfold Pl.vic at h
 exact (List.mem_filter.1 (List.mem_of_getLast? h)).1
section
variable {w : World} {col : Nat → Nat} {ρ : Rn} {p : Pl} {k f q : Nat}
theorem orders (x : RdP w col ρ p) : ∃ A c,w.cell? ⟨ρ.l,1,none⟩ = some (.slice A p.L.length c) ∧ Sl w w.heap.size .i64 A p.L.length (ListM.ints p.L) := by
 obtain ⟨A,c,h1,h2,_,_⟩ := x.t.l.hd
 have h3 := h1.cell (i := 1) (by omega)
 simp only [Nat.one_ne_zero,if_false] at h3
 exact ⟨A,c,h3,h2⟩
theorem idles (x : RdP w col ρ p) : ∃ A c,w.cell? ⟨ρ.a,2,none⟩ = some (.slice A p.A.Q.length c) := by
 obtain ⟨vL,vB,A,c,S,hm⟩ := x.t.a.mem
 exact ⟨A,c,hm.c2⟩
def VLoop (w0 : World) (p : Pl) (g : Nat) (v i : Value) (wx : World) : Prop := ∃ j : Nat,j + g = p.L.length ∧ i = .int .i64 (j : Int) ∧ v = .int .i64 (vv (vicTo p j)) ∧ Grow w0 wx
def TakeR (ρ : Rn) (w : World) (col : Nat → Nat) (p : Pl) (q : Nat) (wx : World) : Prop := ∃ (c' : Nat → Nat) (p' : Pl),WentD w col wx c' ∧ RdP wx c' ρ p' ∧ LOk p'.L ∧ p.room (q : Int) = p'.take (q : Int)
set_option maxRecDepth 100000 in
set_option maxHeartbeats 4000000 in
theorem room_any (x : RdP w col ρ p) (i : Inv p) (q : Nat) (hb : Bnd p.D k) (hk : k ≤ 1000000) : Calls Tryz.prog 55 #[.pointer (some ⟨ρ.m,0,none⟩),.int .i64 (q : Int)] w (PPost ρ w col (.tuple #[.int .i64 (p.room (q : Int)).1.1,.int .i64 (p.room (q : Int)).1.2]) (p.room (q : Int)).2) := by
 have c4 := x.c4
 have c5 := x.c5
 obtain ⟨AQ,cQ,a2⟩ := idles x
 obtain ⟨AL,cL,l1,hsl⟩ := orders x
 have HX := hid x
 have HI := hid i
 have HLO := hid (lok i)
 have hlen : p.L.length ≤ 1024 := (lok i).len
 have HB := hid (And.intro hb hk)
 have HSL := hid hsl
 have HL1 := hid l1
 have HC4 := hid c4
 have HC5 := hid c5
 obtain ⟨G,hG⟩ : ∃ G,G = PPost ρ w col (.tuple #[.int .i64 (p.room (q : Int)).1.1,.int .i64 (p.room (q : Int)).1.2]) (p.room (q : Int)).2 := ⟨_,rfl⟩
 rw [← hG]
 have HG := hid hG
 clear x i hb hk hsl hG
 go_enter Tryz.func55,Tryz.ntmps55
 go_upto_if 18 with (fail)
 go_cut [6,7,8] from 18 to 84 (fun _ _ _ wx => TakeR ρ w col p q wx)
 case first =>
  by_cases hQ : p.A.Q = []
  ·have hq0 : ((p.A.Q.length : Int) == 0) = true := by rw [hQ];rfl
   have HQ := hid hQ
   have hn0 : 0 < p.A.n := HI.out.n1
   obtain ⟨gF,cF,gB,cB,a0,a1,hfr,_,_⟩ := parts HX.out hn0
   have HA0 := hid a0
   have HFR := hid hfr
   clear hQ a0 a1 hfr a2 l1 c4 c5
   go_wp2
   clear hq0
   go_loopg [6,7] p.L.length (VLoop w p)
   case atStart => exact ⟨0,by omega,rfl,rfl,Kept.refl _ _⟩
   case round =>
    obtain ⟨j,hg,rfl,rfl,hgr⟩ := hrel
    have HGJ := hid hg
    have HGR := hid hgr
    clear hg hgr
    by_cases hj : j < p.L.length
    ·have hjz : (j : Int) < (p.L.length : Int) := by omega
     have HJ := hid hj
     obtain ⟨f,hf⟩ : ∃ f,f = p.L.getD j 0 := ⟨_,rfl⟩
     have hfn : f < p.A.n := by
      refine ((HI.out.mem f).1 ?_).1
      rw [hf,List.getD_eq_getElem?_getD,List.getElem?_eq_getElem hj]
      exact List.getElem_mem _
     have hfz : (f : Int) < (p.A.n : Int) := by omega
     have hf0 : (0 : Int) ≤ (f : Int) := by omega
     obtain ⟨b,o,rfl,_,hc⟩ := HSL.out.at_ (by omega)
     have le := hc j hj
     rw [ListM.ints_get,← hf] at le
     have f2 := FR.c2 HFR.out hfn
     have HVS := hid (vic_step hj)
     rw [← hf] at HVS
     have c5 := HGR.out.cellN HC5.out id
     have l1 := HGR.out.cellN HL1.out id
     have hgd := HGR.out.drew
     have q4 := up_cell (F := fun _ => False) (w := wr.drew) (hgd.cellN HC4.out id) id
     have q5 := up_cell (F := fun _ => False) (w := wr.drew) (hgd.cellN HC5.out id) id
     have q0 := up_cell (F := fun _ => False) (w := wr.drew) (hgd.cellN HA0.out id) id
     have q1 := up_cell (F := fun _ => False) (w := wr.drew) (hgd.cellN HL1.out id) id
     have qe := up_cell (F := fun _ => False) (w := wr.drew) (hgd.cellN le id) id
     have q2 := up_cell (F := fun _ => False) (w := wr.drew) (hgd.cellN f2 id) id
     have HLE := hid le
     have HGD := hid hgd
     generalize (p.A.F f).pn = pn at q2 f2 HVS
     clear hj hf hfn hc le f2 hgd
     go_upto_region 6 with (fail)
     refine wp_region_stages (Kept fun _ => False) (kept_refl _) (kept_trans _) [] [0,1,2,3,4,5,6,7,8,9,10,11,12,13,14,15,16,17,18,19,20] (by kernel_rfl) (by kernel_rfl) ?_
     simp only [selSt,sel,ZmC,ZmN,ZgS,ZgZ]
     refine st_nil fun K4 hK4 => ?_
     repeat (go_big_quiet_step (fail))
     refine wpQuiet_nil (hK4 _ ?_)
     clear hK4 K4 q4 q5 q0 q1 qe q2 c5 l1
     by_cases hp : pn = 0
     ·have hb : (pn == 0) = true := by simpa using hp
      have HV : Hid (vicTo p (j + 1) = some f) := HVS.out.trans (if_pos hp)
      have c5 := HGD.out.cellN HC5.out id
      have l1 := HGD.out.cellN HL1.out id
      have le := HGD.out.cellN HLE.out id
      clear hp
      go_wp2
      go_roundg (gk - 1)
      case measure => have := HGJ.out;have := HJ.out;omega
      case rel => exact ⟨j + 1,by have := HGJ.out;have := HJ.out;omega,by go_num,by rw [HV.out];rfl,HGD.out⟩
     ·have hb : (pn == 0) = false := by simpa using hp
      have HV : Hid (vicTo p (j + 1) = vicTo p j) := HVS.out.trans (if_neg hp)
      clear hp
      go_wp2
      go_roundg (gk - 1)
      case measure => have := HGJ.out;have := HJ.out;omega
      case rel => exact ⟨j + 1,by have := HGJ.out;have := HJ.out;omega,by go_num,by rw [HV.out],HGD.out⟩
    ·obtain rfl : j = p.L.length := by have := HGJ.out;omega
     have c5 := HGR.out.cellN HC5.out id
     have l1 := HGR.out.cellN HL1.out id
     have HX1 := hid (HX.out.grow HGR.out)
     have HW1 : Hid (WentD w col wr (paint w.heap.size 0 col)) := WentD.grow HGR.out
     generalize paint w.heap.size 0 col = c1 at HX1 HW1
     rw [vic_all]
     clear hj
     cases hv : p.vic with
     | none =>
      have HE : Hid (p.room (q : Int) = ((-1,8),p)) := by show p.room _ = _;unfold Pl.room;rw [if_pos HQ.out,hv]
      have hG := HG.out
      rw [HE.out] at hG
      have HG2 := hid hG
      clear hG hv
      show Code.wp _ _ _ _ _
      simp only [vv]
      go_wp2
      rw [HG2.out]
      exact ⟨rfl,c1,HW1.out,HX1.out⟩
     | some v =>
      obtain ⟨hvn,hvs⟩ := (HI.out.mem v).1 (vic_mem hv)
      obtain ⟨qv,hqv,hpv⟩ := HI.out.pg v hvn hvs
      have HWR := hid (pwrite HX1.out HI.out hvn hvs hqv hpv (by simp) HB.out.1 HB.out.2)
      have HDR : Hid (∀ wx cx (p1 : Pl),RdP wx cx ρ p1 → LOk p1.L → Calls Tryz.prog 64 #[.pointer (some ⟨ρ.m,0,none⟩),.int .i64 (v : Int)] wx (PPost ρ wx cx (.tuple #[]) (p1.drop v))) := fun wx cx p1 h1 h2 => drop_any h1 h2 (v : Int)
      have hvz : (v : Int) < (p.A.n : Int) := by omega
      have hv0 : (0 : Int) ≤ (v : Int) := by omega
      have f4 := HGR.out.cellN (FR.c4 HFR.out hvn) id
      have c4 := HGR.out.cellN HC4.out id
      have a0 := HGR.out.cellN HA0.out id
      have hroom : p.room (q : Int) = p.evict (q : Int) v := by unfold Pl.room;rw [if_pos HQ.out,hv]
      unfold Pl.evict at hroom
      simp only [vv]
      cases hd : (p.A.F v).di with
      | false =>
       rw [if_neg (by rw [hd];decide)] at hroom
       have HRM := hid hroom
       rw [hd] at f4
       clear hroom hv hvn hvs hqv hpv hd HWR
       go_wp2_with (go_at_call 64;(with_reducible refine (HDR.out _ _ _ HX1.out HLO.out).mono ?_);rintro e w2 ⟨rfl,c2,hw,hm⟩;have HW2 := hid hw;have HM2 := hid hm;clear hw hm)
       go_meet
       exact ⟨c2,p.drop v,HW1.out.trans HW2.out,HM2.out,HLO.out.out _,HRM.out⟩
      | true =>
       rw [if_pos hd] at hroom
       rw [hd] at f4
       by_cases hc : p.wrC v = 0
       ·rw [if_pos hc] at hroom
        have HRM := hid hroom
        rw [hc] at HWR
        have HLW : Hid (LOk (p.wr v).L) := HLO.out
        clear hroom hv hvn hvs hqv hpv hd hc
        go_wp2_with (first
         | (go_at_call 115;(with_reducible refine HWR.out.mono ?_);rintro e w2 ⟨rfl,c2,hw,hm⟩;have HW2 := hid hw;have HM2 := hid hm;clear hw hm)
         | (go_at_call 64;(with_reducible refine (HDR.out _ _ _ HM2.out HLW.out).mono ?_);rintro e w3 ⟨rfl,c3,hw,hm⟩;have HW3 := hid hw;have HM3 := hid hm;clear hw hm))
        go_meet
        exact ⟨c3,(p.wr v).drop v,(HW1.out.trans HW2.out).trans HW3.out,HM3.out,HLO.out.out _,HRM.out⟩
       ·rw [if_neg hc] at hroom
        have hG := HG.out
        rw [hroom] at hG
        have HG2 := hid hG
        have hcb : (p.wrC v != 0) = true := by simpa using hc
        clear hroom hv hvn hvs hqv hpv hd hG
        have HC := hid hc
        clear hc
        go_wp2_with (go_at_call 115;(with_reducible refine HWR.out.mono ?_);rintro e w2 ⟨rfl,c2,hw,hm⟩;have HW2 := hid hw;have HM2 := hid hm;clear hw hm)
        rw [HG2.out]
        exact ⟨rfl,c2,HW1.out.trans HW2.out,HM2.out⟩
  ·have hq0 : ((p.A.Q.length : Int) == 0) = false := by
    rw [beq_eq_false_iff_ne]
    intro e
    exact hQ (List.length_eq_zero_iff.1 (by omega))
   have HE : Hid (p.room (q : Int) = p.take (q : Int)) := by show p.room _ = _;unfold Pl.room;rw [if_neg hQ]
   clear hQ
   go_wp2
   go_meet
   exact ⟨col,p,WentD.refl _ _,HX.out,HLO.out,HE.out⟩
 case rest =>
  obtain ⟨c',p',hw,hx,hlo,hroom⟩ := hcut
  have hG := HG.out
  rw [hroom] at hG
  have HG2 := hid hG
  have HX2 := hid hx
  have HW2 := hid hw
  have HL2 := hid hlo
  have d4 := hx.c4
  have HTK := hid (ArRefT.rtake_any hx.t.a.use (q : Int))
  clear hG hroom hx hw hlo c4 c5 a2 l1
  go_wp2_with (first
   | (go_at_call 116;(with_reducible refine HTK.out.mono ?_);rintro e w3 ⟨rfl,hr,hk⟩;obtain ⟨c3,hw3,hm3⟩ := HX2.out.setA hr hk;have HW3 := hid hw3;have d5 := hm3.c5;have HFR := hid (ListT.rfront_any hm3.t.l (p'.A.takeC (q : Int)) HL2.out.nd HL2.out.len HL2.out.lt LAt.low);have HM3 := hid hm3;clear hr hk hw3 hm3)
   | (go_at_call 117;(with_reducible refine HFR.out.mono ?_);rintro e w4 ⟨rfl,hl,hk⟩;obtain ⟨c4,hw4,hm4⟩ := HM3.out.setL hl hk;have HW4 := hid hw4;have HM4 := hid hm4;clear hl hk hw4 hm4 d5))
  rw [HG2.out]
  exact ⟨rfl,c4,(HW2.out.trans HW3.out).trans HW4.out,HM4.out⟩
end
end RdC
namespace RdD
open Go.ChangeShapes Go.WideShapes Go.ChangeAt Go.RowKit
open Mem Blk Cells Orow RfP RdS RdA RdB RdC Stages
open MdM (Md MdOp Re)
open ArM (Ar Fr)
open ArC (FR)
open ListM (outL frontL okO okF)
open RgM (Bnd)
open RfM (Pl)
open RfI (InvE Inv)
section
variable {w : World} {col : Nat → Nat} {ρ : Rn} {p : Pl} {k f q : Nat} {z : List Int}
theorem set_body (x : RdP w col ρ p) (hf : f < p.A.n) (hz : z.length = 16) {gB cB : Nat} (h1 : w.cell? ⟨ρ.a,1,none⟩ = some (.slice (some ⟨gB,0,none⟩) p.A.n cB)) :
  (∀ j,w.frozen? ⟨gB,j,none⟩ = false) ∧ (∃ v,w.cell? ⟨gB,f,none⟩ = some v) ∧ ∃ col',WentD w col (w.setCell ⟨gB,f,none⟩ (.string (strOfNums z))) col' ∧ RdAt (w.setCell ⟨gB,f,none⟩ (.string (strOfNums z))) col' ρ p.X p.D ⟨p.A.n,p.A.F,TabM.upd p.A.B f z,p.A.Q⟩ p.L := by
 have h0 : 0 < p.A.n := by omega
 obtain ⟨hg,vL,vB,A,c,S,hm⟩ := x.t.a.use
 obtain ⟨gB',cB',rfl,ho,hgB⟩ := OS.form hm.bo h0
 have h2 := hm.c1
 rw [h1] at h2
 simp only [Option.some.injEq,Value.slice.injEq,Addr.mk.injEq,and_true] at h2
 obtain ⟨rfl,_,rfl⟩ := h2
 have hk : Kept (· = gB) w (w.setCell ⟨gB,f,none⟩ (.string (strOfNums z))) := Cells.kept_set w gB f _
 have hs := OR.congr (f' := ArRefC.scell (TabM.upd S f z)) (ho.set f (.string (strOfNums z))) fun i _ => ArRefT.scell_set i
 have hm2 := ArRefT.RMem.bod (B' := TabM.upd p.A.B f z) hm hs hk fun y hy hst => by
  by_cases e : y = f
  ·subst e;rw [TabM.upd_same,TabM.upd_same]
  ·rw [TabM.upd_other _ _ e,TabM.upd_other _ _ e];exact hm.sb y hy hst
 have hgood : ArM.Good ⟨p.A.n,p.A.F,TabM.upd p.A.B f z,p.A.Q⟩ := ⟨hg.n,hg.nd,hg.q,hg.st,hg.rest,hg.use,hg.uq,fun y => by
  show (TabM.upd p.A.B f z y).length = 16
  by_cases e : y = f
  ·subst e;rw [TabM.upd_same];exact hz
  ·rw [TabM.upd_other _ _ e];exact hg.b y⟩
 refine ⟨fun j => ho.frozen j,⟨_,ho.cell (by omega)⟩,?_⟩
 exact x.setA ⟨hgood,_,_,_,_,_,hm2⟩ (hk.mono fun i _ e => by rw [e];exact hgB.1)
set_option maxRecDepth 100000 in
set_option maxHeartbeats 4000000 in
theorem fetch_any (x : RdP w col ρ p) (i : Inv p) (hq : q < p.X.n) (hT : p.X.T q = true) (hby : (Dev.cur p.D q).length = 24 ∧ MdM.Bytes (Dev.cur p.D q)) (hb : Bnd p.D k) (hk : k ≤ 100000) :
  Calls Tryz.prog 57 #[.pointer (some ⟨ρ.m,0,none⟩),.int .i64 (q : Int)] w (PPost ρ w col (.tuple #[.int .i64 (p.fetch (q : Int)).1.1,.int .i64 (p.fetch (q : Int)).1.2]) (p.fetch (q : Int)).2) := by
 have c4 := x.c4
 have HF := hid (ArRefC.rfind_any x.t.a.use (q : Int))
 have HX := hid x
 rcases ArM.find_cases p.A (q : Int) with ⟨e,hno⟩ | ⟨f,hf,hs,hp,e⟩
 ·have HR := hid (room_any x i q hb (by omega))
  have E0 : p.fetch (q : Int) = if (p.room (q : Int)).1.2 ≠ 0 then ((-1,(p.room (q : Int)).1.2),(p.room (q : Int)).2) else (p.room (q : Int)).2.load (q : Int) (p.room (q : Int)).1.1.toNat := by
   unfold Pl.fetch
   rw [e,if_neg (by decide)]
  rw [e] at HF
  have hb2 := hb.room (q : Int)
  have hP := RfF.pins_out i hq hno
  have hsay := i.rest q hq (by simp) hT hno
  have bad : ∀ (z : Int) (p' : Pl),z ≠ 0 → p.room (q : Int) = ((-1,z),p') → Calls Tryz.prog 57 #[.pointer (some ⟨ρ.m,0,none⟩),.int .i64 (q : Int)] w (PPost ρ w col (.tuple #[.int .i64 (p.fetch (q : Int)).1.1,.int .i64 (p.fetch (q : Int)).1.2]) (p.fetch (q : Int)).2) := fun z p' hz hr => by
   rw [hr] at E0 HR
   have E : Hid (p.fetch (q : Int) = ((-1,z),p')) := E0.trans (if_pos hz)
   rw [E.out]
   have hzb : (z != 0) = true := by simpa using hz
   clear x i hq hb hk e hno hb2 E0 hr E hP hsay hT hby
   go_enter Tryz.func57,Tryz.ntmps57
   go_wp2_with (first
    | (go_at_call 59;(with_reducible refine HF.out.mono ?_);rintro e w1 ⟨rfl,rfl⟩)
    | (go_at_call 55;(with_reducible refine HR.out.mono ?_);rintro e w1 ⟨rfl,c1',hw1,hm1⟩;have HW1 := hid hw1;have HM1 := hid hm1;clear hw1 hm1))
   go_ret2
   exact ⟨rfl,c1',HW1.out,HM1.out⟩
  rcases RfR.room_spec i hq hno with ⟨f,p',hr,hg,i',hcur,hf,hF,hB,_⟩ | ⟨hr,_⟩ | ⟨p',hr,_⟩
  ·rw [hr] at E0 HR hb2
   have hb2 : Bnd p'.D (k + 1) := hb2
   have hqN : q < p'.D.N := by rw [i'.dN,hg.X];exact hq
   have hl := lok i'
   have E1 : p.fetch (q : Int) = p'.load (q : Int) f := by
    rw [E0,if_neg (fun z => z rfl)]
    dsimp only
    rw [Int.toNat_natCast]
   have HRD : Hid (∀ wx cx,RdP wx cx ρ p' → Calls Tryz.prog 119 #[.pointer (some ⟨ρ.r.m,0,none⟩),.int .i64 (q : Int)] wx (RefD.RefPost ρ.r wx (.tuple #[.string (strOfNums (Dev.readB p'.D (q : Int))),.int .i64 (Dev.readC p'.D (q : Int))]) (Dev.readS p'.D (q : Int)))) := fun wx cx h => RefM.rread_any h.t.d.1 (q : Int) (by omega) (by have := i.q48 hq;omega) (by have := hb2.1;omega) (by have := hb2.2;omega)
   have hrc : Dev.readC p'.D (q : Int) = Dev.accC p'.D := by unfold Dev.readC;rw [RfM.has_nat hqN];rfl
   by_cases hc : Dev.readC p'.D (q : Int) = 0
   ·have hbody : Dev.readB p'.D (q : Int) = Dev.cur p.D q := by unfold Dev.readB;rw [if_pos hc,Int.toNat_natCast,hcur]
    obtain ⟨ho,hbd⟩ := hsay
    have E2 : p'.load (q : Int) f = (((f : Int),0),⟨p'.X,Dev.readS p'.D q,⟨p'.A.n,p'.A.F,TabM.upd p'.A.B f (p.X.B q),p'.A.Q⟩,p'.L⟩) := by
     unfold Pl.load
     rw [if_neg (fun z => z hc),hbody,if_pos ho,hbd]
    have E := hid (E1.trans E2)
    have HOP : Hid (∀ wx,Calls Tryz.prog 120 #[.int .i64 (q : Int),.string (strOfNums (Dev.cur p.D q))] wx fun e w' => e = .returned (.tuple #[.string (strOfNums (p.X.B q)),.int .i64 0]) ∧ Grow wx w') := fun wx => by
     have h := PageR.refOpen_any (q : Int) (Dev.cur p.D q) wx (by omega) (by have := i.q48 hq;omega) hby.2 (by rw [hby.1];unfold maxLen;omega)
     rw [ho,hbd] at h
     exact h
    rw [hbody,hc] at HRD
    have hz := i.gx.len q
    have HSB : Hid (∀ wx cx,RdAt wx cx ρ p'.X (Dev.readS p'.D q) p'.A p'.L → ∃ gB cB,wx.cell? ⟨ρ.a,1,none⟩ = some (.slice (some ⟨gB,0,none⟩) p'.A.n cB) ∧ (∀ j,wx.frozen? ⟨gB,j,none⟩ = false) ∧ (∃ v,wx.cell? ⟨gB,f,none⟩ = some v) ∧ ∃ col',WentD wx cx (wx.setCell ⟨gB,f,none⟩ (.string (strOfNums (p.X.B q)))) col' ∧ RdAt (wx.setCell ⟨gB,f,none⟩ (.string (strOfNums (p.X.B q)))) col' ρ p'.X (Dev.readS p'.D q) ⟨p'.A.n,p'.A.F,TabM.upd p'.A.B f (p.X.B q),p'.A.Q⟩ p'.L) := fun wx cx h => by
     obtain ⟨gF,cF,gB,cB,_,a1,_⟩ := parts h (by omega)
     have := set_body (p := ⟨p'.X,Dev.readS p'.D q,p'.A,p'.L⟩) h hf hz a1
     exact ⟨gB,cB,a1,this.1,this.2.1,this.2.2⟩
    have hfz : (f : Int) < (p'.A.n : Int) := by omega
    have hf0 : (0 : Int) ≤ (f : Int) := by omega
    rw [E.out]
    clear x i hq hb hk e hno hb2 E0 hr E E1 E2 bad hg i' hcur hf hF hB hP hT hby hqN hl hrc hc hbody ho hbd hz
    generalize strOfNums (Dev.cur p.D q) = si at *
    generalize hsb : strOfNums (p.X.B q) = sb at *
    clear hsb
    go_enter Tryz.func57,Tryz.ntmps57
    go_wp2_with (first
     | (go_at_call 59;(with_reducible refine HF.out.mono ?_);rintro e w1 ⟨rfl,rfl⟩)
     | (go_at_call 55;(with_reducible refine HR.out.mono ?_);rintro e w1 ⟨rfl,c1',hw1,hm1⟩;have HW1 := hid hw1;have HM1 := hid hm1;have d3 := hm1.c3;clear hw1 hm1 c4)
     | (go_at_call 119;(with_reducible refine (HRD.out _ _ HM1.out).mono ?_);rintro e w2 ⟨rfl,hd,hk⟩;obtain ⟨c2,hw2,hm2⟩ := HM1.out.setD hd hk;have HW2 := hid (HW1.out.trans hw2);have HM2 := hid hm2;clear hd hk hw2 hm2 d3)
     | (go_at_call 120;(with_reducible refine (HOP.out _).mono ?_);rintro e w3 ⟨rfl,hg⟩;have HM3 := hid (HM2.out.grow hg);have HW3 := hid (HW2.out.trans (WentD.grow (col := c2) hg));have e4 := HM3.out.c4;obtain ⟨gB,cB,a1,fr,⟨v,cv⟩,HS⟩ := HSB.out _ _ HM3.out;have HS := hid HS;have fr1 := fr f;clear hg))
    obtain ⟨c4,h1,h2⟩ := HS.out
    go_ret2
    exact ⟨rfl,c4,HW3.out.trans h1,h2⟩
   ·have E2 : p'.load (q : Int) f = ((-1,Dev.readC p'.D (q : Int)),(⟨p'.X,Dev.readS p'.D q,p'.A,p'.L⟩ : Pl).drop f) := by
     unfold Pl.load
     rw [if_pos hc]
    have E := hid (E1.trans E2)
    have HDR : Hid (∀ wx cx,RdAt wx cx ρ p'.X (Dev.readS p'.D q) p'.A p'.L → Calls Tryz.prog 64 #[.pointer (some ⟨ρ.m,0,none⟩),.int .i64 (f : Int)] wx (PPost ρ wx cx (.tuple #[]) ((⟨p'.X,Dev.readS p'.D q,p'.A,p'.L⟩ : Pl).drop f))) := fun wx cx h => drop_any h hl (f : Int)
    have hcb : (Dev.readC p'.D (q : Int) != 0) = true := by simpa using hc
    rw [E.out]
    clear x i hq hb hk e hno hb2 E0 hr E E1 E2 bad hg i' hcur hf hF hB hP hT hby hqN hl hrc hc hsay
    generalize Dev.readC p'.D (q : Int) = z at *
    generalize strOfNums (Dev.readB p'.D (q : Int)) = si at *
    go_enter Tryz.func57,Tryz.ntmps57
    go_wp2_with (first
     | (go_at_call 59;(with_reducible refine HF.out.mono ?_);rintro e w1 ⟨rfl,rfl⟩)
     | (go_at_call 55;(with_reducible refine HR.out.mono ?_);rintro e w1 ⟨rfl,c1',hw1,hm1⟩;have HW1 := hid hw1;have HM1 := hid hm1;have d3 := hm1.c3;clear hw1 hm1 c4)
     | (go_at_call 119;(with_reducible refine (HRD.out _ _ HM1.out).mono ?_);rintro e w2 ⟨rfl,hd,hk⟩;obtain ⟨c2,hw2,hm2⟩ := HM1.out.setD hd hk;have HW2 := hid (HW1.out.trans hw2);have HM2 := hid hm2;clear hd hk hw2 hm2 d3)
     | (go_at_call 64;(with_reducible refine (HDR.out _ _ HM2.out).mono ?_);rintro e w3 ⟨rfl,c3,hw3,hm3⟩;have HW3 := hid (HW2.out.trans hw3);have HM3 := hid hm3;clear hw3 hm3))
    go_ret2
    exact ⟨rfl,c3,HW3.out,HM3.out⟩
  ·exact bad 8 p (by decide) hr
  ·exact bad 9 p' (by decide) hr
 ·have E : Hid (p.fetch (q : Int) = (((f : Int),0),p.front (f : Int))) := by unfold Hid Pl.fetch;rw [e,if_pos (by omega)]
  have HT := hid (front_any x (lok i) (f : Int))
  rw [E.out]
  have hfb : (f : Int) ≥ 0 := by omega
  rw [e] at HF
  clear x i hq hb hk e hf hs hp E hT hby
  go_enter Tryz.func57,Tryz.ntmps57
  go_wp2_with (first
   | (go_at_call 59;(with_reducible refine HF.out.mono ?_);rintro e w1 ⟨rfl,rfl⟩)
   | (go_at_call 58;(with_reducible refine HT.out.mono ?_);rintro e w3 ⟨rfl,c3,hw3,hm3⟩;have HW3 := hid hw3;have HM3 := hid hm3;clear hw3 hm3))
  go_ret2
  exact ⟨rfl,c3,HW3.out,HM3.out⟩
end
end RdD
end Go.Proofs.YtbnkpnllgoghnaaGreat
