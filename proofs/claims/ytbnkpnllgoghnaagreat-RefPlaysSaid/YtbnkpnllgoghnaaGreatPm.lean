import Derived.Test.YtbnkpnllgoghnaaGreatPl
set_option linter.unusedVariables false
namespace Go.Proofs.YtbnkpnllgoghnaaGreat
open Go.Lib (hid)
namespace MdF
open Go.ChangeShapes Go.WideShapes Go.ChangeAt Go.RowKit
open Mem Blk Cells Orow GrC Txt MdM MdC MdR MdD Stages Trees
open HdM (lst hnd cnt sum lst_eq hnd_at hnd_none hnd_cases cnt_yes cnt_no cnt_le sum_le)
section
variable {w : World} {G : Nat → Prop} {gT cT gB cB gH cH : Nat} {q cp : Nat → Nat} {a : Md} {o : MdOp} {D : Option Addr} {dl dc : Nat}
set_option maxHeartbeats 4000000 in
set_option maxRecDepth 100000 in
theorem do_3a (hm : SM w G gT cT gB cB gH cH q cp a) (hg : MdM.Good a) (hlt : ∀ k,G k → k < w.heap.size) (hd : Sl w w.heap.size .u8 D dl o.d) (kc : Nat) (hkc : (kc : Int) < (a.N : Int)) (hk : o.k = 3) (p : Nat) (_hpn : p < a.n) (hh : a.held (kc : Int) o.h = (p : Int)) (h : o.o < 0) :
  Calls Tryz.prog 53 #[sval gT cT gB cB gH cH a,.int .i64 (kc : Int),.agg #[.int .i64 o.k,.int .i64 o.p,.int .i64 o.h,.int .i64 o.o,.int .i64 o.n,.slice D dl dc]] w (DoPost G (sval gT cT gB cB gH cH a) w (err 6,a)) := by
 have HB := hid (bx_new (dc := dc) hm hlt hd)
 have HGD := hid hg
 obtain ⟨P,hP⟩ : ∃ P,P = DoPost G (sval gT cT gB cB gH cH a) w (err 6,a) := ⟨_,rfl⟩
 have HP := hid hP
 rw [← hP]
 have HYhk := hid hk
 clear hk
 have HYhh := hid hh
 clear hh
 clear hm hg hlt hd hP
 go_enter Tryz.func53,Tryz.ntmps53
 go_upto_region 1 with (fail)
 generalize ((w.alloc (.cells #[.slice (some ⟨gT,0,none⟩) a.n cT,.slice (some ⟨gB,0,none⟩) a.n cB,.slice (some ⟨gH,0,none⟩) a.N cH] 50)).alloc (.cells #[.int .i64 o.k,.int .i64 o.p,.int .i64 o.h,.int .i64 o.o,.int .i64 o.n,.slice D dl dc] 30)).alloc (.cells #[.int .i64 0,.int .i64 0,.int .i64 0,.slice none 0 0] 27) = w0 at HB ⊢
 generalize w.heap.size = s at HB ⊢
 have s0 := HB.out.s0
 have s1 := HB.out.s1
 have s2 := HB.out.s2
 have o0 := HB.out.o0
 have o1 := HB.out.o1
 have o2 := HB.out.o2
 have o3 := HB.out.o3
 have o4 := HB.out.o4
 have o5 := HB.out.o5
 have hh := HYhh.out
 have hk := HYhk.out
 rw [hk] at o0
 have HHE := hid (held_any (HB.out.sat HGD.out) (kc : Int) o.h)
 rw [hh] at HHE
 clear hh HYhh
 clear _hpn
 go_wp2_with (first
  | (go_at_call 54;(with_reducible refine HHE.out.mono ?_);rintro e wh ⟨rfl,hgh⟩;have HGH := hid hgh;have s0 := hgh.cellN s0 id;have s1 := hgh.cellN s1 id;have s2 := hgh.cellN s2 id;have o0 := hgh.cellN o0 id;have o2 := hgh.cellN o2 id;have o3 := hgh.cellN o3 id;have o4 := hgh.cellN o4 id;have o5 := hgh.cellN o5 id;clear hgh)
  | (go_at_call 65;(with_reducible refine (fail_any _ 6).mono ?_);rintro e wf ⟨rfl,hgf⟩;obtain ⟨t0,t1,t2,t3,tf⟩ := HB.out.res (HGH.out.trans hgf);have HGF := hid (HGH.out.trans hgf);clear hgf))
 rw [HP.out]
 exact ret_res rfl rfl (HB.out.bad HGD.out HGF.out 6).1 rfl (HB.out.bad HGD.out HGF.out 6).2
set_option maxHeartbeats 4000000 in
set_option maxRecDepth 100000 in
theorem do_3b (hm : SM w G gT cT gB cB gH cH q cp a) (hg : MdM.Good a) (hlt : ∀ k,G k → k < w.heap.size) (hd : Sl w w.heap.size .u8 D dl o.d) (kc : Nat) (hkc : (kc : Int) < (a.N : Int)) (hk : o.k = 3) (p : Nat) (_hpn : p < a.n) (hh : a.held (kc : Int) o.h = (p : Int)) (h0 : 0 ≤ o.o) (h : o.n < 0) :
  Calls Tryz.prog 53 #[sval gT cT gB cB gH cH a,.int .i64 (kc : Int),.agg #[.int .i64 o.k,.int .i64 o.p,.int .i64 o.h,.int .i64 o.o,.int .i64 o.n,.slice D dl dc]] w (DoPost G (sval gT cT gB cB gH cH a) w (err 6,a)) := by
 have HB := hid (bx_new (dc := dc) hm hlt hd)
 have HGD := hid hg
 obtain ⟨P,hP⟩ : ∃ P,P = DoPost G (sval gT cT gB cB gH cH a) w (err 6,a) := ⟨_,rfl⟩
 have HP := hid hP
 rw [← hP]
 have HYhk := hid hk
 clear hk
 have HYhh := hid hh
 clear hh
 clear hm hg hlt hd hP
 go_enter Tryz.func53,Tryz.ntmps53
 go_upto_region 1 with (fail)
 generalize ((w.alloc (.cells #[.slice (some ⟨gT,0,none⟩) a.n cT,.slice (some ⟨gB,0,none⟩) a.n cB,.slice (some ⟨gH,0,none⟩) a.N cH] 50)).alloc (.cells #[.int .i64 o.k,.int .i64 o.p,.int .i64 o.h,.int .i64 o.o,.int .i64 o.n,.slice D dl dc] 30)).alloc (.cells #[.int .i64 0,.int .i64 0,.int .i64 0,.slice none 0 0] 27) = w0 at HB ⊢
 generalize w.heap.size = s at HB ⊢
 have s0 := HB.out.s0
 have s1 := HB.out.s1
 have s2 := HB.out.s2
 have o0 := HB.out.o0
 have o1 := HB.out.o1
 have o2 := HB.out.o2
 have o3 := HB.out.o3
 have o4 := HB.out.o4
 have o5 := HB.out.o5
 have hh := HYhh.out
 have hk := HYhk.out
 rw [hk] at o0
 have HHE := hid (held_any (HB.out.sat HGD.out) (kc : Int) o.h)
 rw [hh] at HHE
 clear hh HYhh
 clear _hpn
 go_wp2_with (first
  | (go_at_call 54;(with_reducible refine HHE.out.mono ?_);rintro e wh ⟨rfl,hgh⟩;have HGH := hid hgh;have s0 := hgh.cellN s0 id;have s1 := hgh.cellN s1 id;have s2 := hgh.cellN s2 id;have o0 := hgh.cellN o0 id;have o2 := hgh.cellN o2 id;have o3 := hgh.cellN o3 id;have o4 := hgh.cellN o4 id;have o5 := hgh.cellN o5 id;clear hgh)
  | (go_at_call 65;(with_reducible refine (fail_any _ 6).mono ?_);rintro e wf ⟨rfl,hgf⟩;obtain ⟨t0,t1,t2,t3,tf⟩ := HB.out.res (HGH.out.trans hgf);have HGF := hid (HGH.out.trans hgf);clear hgf))
 rw [HP.out]
 exact ret_res rfl rfl (HB.out.bad HGD.out HGF.out 6).1 rfl (HB.out.bad HGD.out HGF.out 6).2
set_option maxHeartbeats 4000000 in
set_option maxRecDepth 100000 in
theorem do_3c (hm : SM w G gT cT gB cB gH cH q cp a) (hg : MdM.Good a) (hlt : ∀ k,G k → k < w.heap.size) (hd : Sl w w.heap.size .u8 D dl o.d) (kc : Nat) (hkc : (kc : Int) < (a.N : Int)) (hk : o.k = 3) (p : Nat) (_hpn : p < a.n) (hh : a.held (kc : Int) o.h = (p : Int)) (h0 : 0 ≤ o.o) (h1 : 0 ≤ o.n) (h : 16 < o.o) :
  Calls Tryz.prog 53 #[sval gT cT gB cB gH cH a,.int .i64 (kc : Int),.agg #[.int .i64 o.k,.int .i64 o.p,.int .i64 o.h,.int .i64 o.o,.int .i64 o.n,.slice D dl dc]] w (DoPost G (sval gT cT gB cB gH cH a) w (err 6,a)) := by
 have HB := hid (bx_new (dc := dc) hm hlt hd)
 have HGD := hid hg
 obtain ⟨P,hP⟩ : ∃ P,P = DoPost G (sval gT cT gB cB gH cH a) w (err 6,a) := ⟨_,rfl⟩
 have HP := hid hP
 rw [← hP]
 have HYhk := hid hk
 clear hk
 have HYhh := hid hh
 clear hh
 clear hm hg hlt hd hP
 go_enter Tryz.func53,Tryz.ntmps53
 go_upto_region 1 with (fail)
 generalize ((w.alloc (.cells #[.slice (some ⟨gT,0,none⟩) a.n cT,.slice (some ⟨gB,0,none⟩) a.n cB,.slice (some ⟨gH,0,none⟩) a.N cH] 50)).alloc (.cells #[.int .i64 o.k,.int .i64 o.p,.int .i64 o.h,.int .i64 o.o,.int .i64 o.n,.slice D dl dc] 30)).alloc (.cells #[.int .i64 0,.int .i64 0,.int .i64 0,.slice none 0 0] 27) = w0 at HB ⊢
 generalize w.heap.size = s at HB ⊢
 have s0 := HB.out.s0
 have s1 := HB.out.s1
 have s2 := HB.out.s2
 have o0 := HB.out.o0
 have o1 := HB.out.o1
 have o2 := HB.out.o2
 have o3 := HB.out.o3
 have o4 := HB.out.o4
 have o5 := HB.out.o5
 have hh := HYhh.out
 have hk := HYhk.out
 rw [hk] at o0
 have HHE := hid (held_any (HB.out.sat HGD.out) (kc : Int) o.h)
 rw [hh] at HHE
 clear hh HYhh
 clear _hpn
 go_wp2_with (first
  | (go_at_call 54;(with_reducible refine HHE.out.mono ?_);rintro e wh ⟨rfl,hgh⟩;have HGH := hid hgh;have s0 := hgh.cellN s0 id;have s1 := hgh.cellN s1 id;have s2 := hgh.cellN s2 id;have o0 := hgh.cellN o0 id;have o2 := hgh.cellN o2 id;have o3 := hgh.cellN o3 id;have o4 := hgh.cellN o4 id;have o5 := hgh.cellN o5 id;clear hgh)
  | (go_at_call 65;(with_reducible refine (fail_any _ 6).mono ?_);rintro e wf ⟨rfl,hgf⟩;obtain ⟨t0,t1,t2,t3,tf⟩ := HB.out.res (HGH.out.trans hgf);have HGF := hid (HGH.out.trans hgf);clear hgf))
 rw [HP.out]
 exact ret_res rfl rfl (HB.out.bad HGD.out HGF.out 6).1 rfl (HB.out.bad HGD.out HGF.out 6).2
set_option maxHeartbeats 4000000 in
set_option maxRecDepth 100000 in
theorem do_3d (hm : SM w G gT cT gB cB gH cH q cp a) (hg : MdM.Good a) (hlt : ∀ k,G k → k < w.heap.size) (hd : Sl w w.heap.size .u8 D dl o.d) (kc : Nat) (hkc : (kc : Int) < (a.N : Int)) (hk : o.k = 3) (p : Nat) (_hpn : p < a.n) (hh : a.held (kc : Int) o.h = (p : Int)) (h0 : 0 ≤ o.o) (h1 : 0 ≤ o.n) (h2 : o.o ≤ 16) (h : 16 - o.o < o.n) :
  Calls Tryz.prog 53 #[sval gT cT gB cB gH cH a,.int .i64 (kc : Int),.agg #[.int .i64 o.k,.int .i64 o.p,.int .i64 o.h,.int .i64 o.o,.int .i64 o.n,.slice D dl dc]] w (DoPost G (sval gT cT gB cB gH cH a) w (err 6,a)) := by
 have HB := hid (bx_new (dc := dc) hm hlt hd)
 have HGD := hid hg
 obtain ⟨P,hP⟩ : ∃ P,P = DoPost G (sval gT cT gB cB gH cH a) w (err 6,a) := ⟨_,rfl⟩
 have HP := hid hP
 rw [← hP]
 have HYhk := hid hk
 clear hk
 have HYhh := hid hh
 clear hh
 clear hm hg hlt hd hP
 go_enter Tryz.func53,Tryz.ntmps53
 go_upto_region 1 with (fail)
 generalize ((w.alloc (.cells #[.slice (some ⟨gT,0,none⟩) a.n cT,.slice (some ⟨gB,0,none⟩) a.n cB,.slice (some ⟨gH,0,none⟩) a.N cH] 50)).alloc (.cells #[.int .i64 o.k,.int .i64 o.p,.int .i64 o.h,.int .i64 o.o,.int .i64 o.n,.slice D dl dc] 30)).alloc (.cells #[.int .i64 0,.int .i64 0,.int .i64 0,.slice none 0 0] 27) = w0 at HB ⊢
 generalize w.heap.size = s at HB ⊢
 have s0 := HB.out.s0
 have s1 := HB.out.s1
 have s2 := HB.out.s2
 have o0 := HB.out.o0
 have o1 := HB.out.o1
 have o2 := HB.out.o2
 have o3 := HB.out.o3
 have o4 := HB.out.o4
 have o5 := HB.out.o5
 have hh := HYhh.out
 have hk := HYhk.out
 rw [hk] at o0
 have HHE := hid (held_any (HB.out.sat HGD.out) (kc : Int) o.h)
 rw [hh] at HHE
 clear hh HYhh
 clear _hpn
 go_wp2_with (first
  | (go_at_call 54;(with_reducible refine HHE.out.mono ?_);rintro e wh ⟨rfl,hgh⟩;have HGH := hid hgh;have s0 := hgh.cellN s0 id;have s1 := hgh.cellN s1 id;have s2 := hgh.cellN s2 id;have o0 := hgh.cellN o0 id;have o2 := hgh.cellN o2 id;have o3 := hgh.cellN o3 id;have o4 := hgh.cellN o4 id;have o5 := hgh.cellN o5 id;clear hgh)
  | (go_at_call 65;(with_reducible refine (fail_any _ 6).mono ?_);rintro e wf ⟨rfl,hgf⟩;obtain ⟨t0,t1,t2,t3,tf⟩ := HB.out.res (HGH.out.trans hgf);have HGF := hid (HGH.out.trans hgf);clear hgf))
 rw [HP.out]
 exact ret_res rfl rfl (HB.out.bad HGD.out HGF.out 6).1 rfl (HB.out.bad HGD.out HGF.out 6).2
set_option maxHeartbeats 4000000 in
set_option maxRecDepth 100000 in
theorem do_4a (hm : SM w G gT cT gB cB gH cH q cp a) (hg : MdM.Good a) (hlt : ∀ k,G k → k < w.heap.size) (hd : Sl w w.heap.size .u8 D dl o.d) (kc : Nat) (hkc : (kc : Int) < (a.N : Int)) (hk : o.k = 4) (p : Nat) (_hpn : p < a.n) (hh : a.held (kc : Int) o.h = (p : Int)) (h : o.o < 0) :
  Calls Tryz.prog 53 #[sval gT cT gB cB gH cH a,.int .i64 (kc : Int),.agg #[.int .i64 o.k,.int .i64 o.p,.int .i64 o.h,.int .i64 o.o,.int .i64 o.n,.slice D dl dc]] w (DoPost G (sval gT cT gB cB gH cH a) w (err 6,a)) := by
 have HB := hid (bx_new (dc := dc) hm hlt hd)
 have HGD := hid hg
 obtain ⟨P,hP⟩ : ∃ P,P = DoPost G (sval gT cT gB cB gH cH a) w (err 6,a) := ⟨_,rfl⟩
 have HP := hid hP
 rw [← hP]
 have HYhk := hid hk
 clear hk
 have HYhh := hid hh
 clear hh
 clear hm hg hlt hd hP
 go_enter Tryz.func53,Tryz.ntmps53
 go_upto_region 1 with (fail)
 generalize ((w.alloc (.cells #[.slice (some ⟨gT,0,none⟩) a.n cT,.slice (some ⟨gB,0,none⟩) a.n cB,.slice (some ⟨gH,0,none⟩) a.N cH] 50)).alloc (.cells #[.int .i64 o.k,.int .i64 o.p,.int .i64 o.h,.int .i64 o.o,.int .i64 o.n,.slice D dl dc] 30)).alloc (.cells #[.int .i64 0,.int .i64 0,.int .i64 0,.slice none 0 0] 27) = w0 at HB ⊢
 generalize w.heap.size = s at HB ⊢
 have s0 := HB.out.s0
 have s1 := HB.out.s1
 have s2 := HB.out.s2
 have o0 := HB.out.o0
 have o1 := HB.out.o1
 have o2 := HB.out.o2
 have o3 := HB.out.o3
 have o4 := HB.out.o4
 have o5 := HB.out.o5
 have hh := HYhh.out
 have hk := HYhk.out
 rw [hk] at o0
 have HHE := hid (held_any (HB.out.sat HGD.out) (kc : Int) o.h)
 rw [hh] at HHE
 clear hh HYhh
 clear _hpn
 go_wp2_with (first
  | (go_at_call 54;(with_reducible refine HHE.out.mono ?_);rintro e wh ⟨rfl,hgh⟩;have HGH := hid hgh;have s0 := hgh.cellN s0 id;have s1 := hgh.cellN s1 id;have s2 := hgh.cellN s2 id;have o0 := hgh.cellN o0 id;have o2 := hgh.cellN o2 id;have o3 := hgh.cellN o3 id;have o4 := hgh.cellN o4 id;have o5 := hgh.cellN o5 id;clear hgh)
  | (go_at_call 65;(with_reducible refine (fail_any _ 6).mono ?_);rintro e wf ⟨rfl,hgf⟩;obtain ⟨t0,t1,t2,t3,tf⟩ := HB.out.res (HGH.out.trans hgf);have HGF := hid (HGH.out.trans hgf);clear hgf))
 rw [HP.out]
 exact ret_res rfl rfl (HB.out.bad HGD.out HGF.out 6).1 rfl (HB.out.bad HGD.out HGF.out 6).2
set_option maxHeartbeats 4000000 in
set_option maxRecDepth 100000 in
theorem do_4b (hm : SM w G gT cT gB cB gH cH q cp a) (hg : MdM.Good a) (hlt : ∀ k,G k → k < w.heap.size) (hd : Sl w w.heap.size .u8 D dl o.d) (kc : Nat) (hkc : (kc : Int) < (a.N : Int)) (hk : o.k = 4) (p : Nat) (_hpn : p < a.n) (hh : a.held (kc : Int) o.h = (p : Int)) (h0 : 0 ≤ o.o) (h : 16 < o.o) :
  Calls Tryz.prog 53 #[sval gT cT gB cB gH cH a,.int .i64 (kc : Int),.agg #[.int .i64 o.k,.int .i64 o.p,.int .i64 o.h,.int .i64 o.o,.int .i64 o.n,.slice D dl dc]] w (DoPost G (sval gT cT gB cB gH cH a) w (err 6,a)) := by
 have HB := hid (bx_new (dc := dc) hm hlt hd)
 have HGD := hid hg
 obtain ⟨P,hP⟩ : ∃ P,P = DoPost G (sval gT cT gB cB gH cH a) w (err 6,a) := ⟨_,rfl⟩
 have HP := hid hP
 rw [← hP]
 have HYhk := hid hk
 clear hk
 have HYhh := hid hh
 clear hh
 clear hm hg hlt hd hP
 go_enter Tryz.func53,Tryz.ntmps53
 go_upto_region 1 with (fail)
 generalize ((w.alloc (.cells #[.slice (some ⟨gT,0,none⟩) a.n cT,.slice (some ⟨gB,0,none⟩) a.n cB,.slice (some ⟨gH,0,none⟩) a.N cH] 50)).alloc (.cells #[.int .i64 o.k,.int .i64 o.p,.int .i64 o.h,.int .i64 o.o,.int .i64 o.n,.slice D dl dc] 30)).alloc (.cells #[.int .i64 0,.int .i64 0,.int .i64 0,.slice none 0 0] 27) = w0 at HB ⊢
 generalize w.heap.size = s at HB ⊢
 have s0 := HB.out.s0
 have s1 := HB.out.s1
 have s2 := HB.out.s2
 have o0 := HB.out.o0
 have o1 := HB.out.o1
 have o2 := HB.out.o2
 have o3 := HB.out.o3
 have o4 := HB.out.o4
 have o5 := HB.out.o5
 have hh := HYhh.out
 have hk := HYhk.out
 rw [hk] at o0
 have HHE := hid (held_any (HB.out.sat HGD.out) (kc : Int) o.h)
 rw [hh] at HHE
 clear hh HYhh
 clear _hpn
 go_wp2_with (first
  | (go_at_call 54;(with_reducible refine HHE.out.mono ?_);rintro e wh ⟨rfl,hgh⟩;have HGH := hid hgh;have s0 := hgh.cellN s0 id;have s1 := hgh.cellN s1 id;have s2 := hgh.cellN s2 id;have o0 := hgh.cellN o0 id;have o2 := hgh.cellN o2 id;have o3 := hgh.cellN o3 id;have o4 := hgh.cellN o4 id;have o5 := hgh.cellN o5 id;clear hgh)
  | (go_at_call 65;(with_reducible refine (fail_any _ 6).mono ?_);rintro e wf ⟨rfl,hgf⟩;obtain ⟨t0,t1,t2,t3,tf⟩ := HB.out.res (HGH.out.trans hgf);have HGF := hid (HGH.out.trans hgf);clear hgf))
 rw [HP.out]
 exact ret_res rfl rfl (HB.out.bad HGD.out HGF.out 6).1 rfl (HB.out.bad HGD.out HGF.out 6).2
set_option maxHeartbeats 4000000 in
set_option maxRecDepth 100000 in
theorem do_4c (hm : SM w G gT cT gB cB gH cH q cp a) (hg : MdM.Good a) (hlt : ∀ k,G k → k < w.heap.size) (hd : Sl w w.heap.size .u8 D dl o.d) (kc : Nat) (hkc : (kc : Int) < (a.N : Int)) (hk : o.k = 4) (p : Nat) (_hpn : p < a.n) (hh : a.held (kc : Int) o.h = (p : Int)) (h0 : 0 ≤ o.o) (h1 : o.o ≤ 16) (h : 16 - o.o < (dl : Int)) :
  Calls Tryz.prog 53 #[sval gT cT gB cB gH cH a,.int .i64 (kc : Int),.agg #[.int .i64 o.k,.int .i64 o.p,.int .i64 o.h,.int .i64 o.o,.int .i64 o.n,.slice D dl dc]] w (DoPost G (sval gT cT gB cB gH cH a) w (err 6,a)) := by
 have HB := hid (bx_new (dc := dc) hm hlt hd)
 have HGD := hid hg
 obtain ⟨P,hP⟩ : ∃ P,P = DoPost G (sval gT cT gB cB gH cH a) w (err 6,a) := ⟨_,rfl⟩
 have HP := hid hP
 rw [← hP]
 have HYhk := hid hk
 clear hk
 have HYhh := hid hh
 clear hh
 clear hm hg hlt hd hP
 go_enter Tryz.func53,Tryz.ntmps53
 go_upto_region 1 with (fail)
 generalize ((w.alloc (.cells #[.slice (some ⟨gT,0,none⟩) a.n cT,.slice (some ⟨gB,0,none⟩) a.n cB,.slice (some ⟨gH,0,none⟩) a.N cH] 50)).alloc (.cells #[.int .i64 o.k,.int .i64 o.p,.int .i64 o.h,.int .i64 o.o,.int .i64 o.n,.slice D dl dc] 30)).alloc (.cells #[.int .i64 0,.int .i64 0,.int .i64 0,.slice none 0 0] 27) = w0 at HB ⊢
 generalize w.heap.size = s at HB ⊢
 have s0 := HB.out.s0
 have s1 := HB.out.s1
 have s2 := HB.out.s2
 have o0 := HB.out.o0
 have o1 := HB.out.o1
 have o2 := HB.out.o2
 have o3 := HB.out.o3
 have o4 := HB.out.o4
 have o5 := HB.out.o5
 have hh := HYhh.out
 have hk := HYhk.out
 rw [hk] at o0
 have HHE := hid (held_any (HB.out.sat HGD.out) (kc : Int) o.h)
 rw [hh] at HHE
 clear hh HYhh
 clear _hpn
 go_wp2_with (first
  | (go_at_call 54;(with_reducible refine HHE.out.mono ?_);rintro e wh ⟨rfl,hgh⟩;have HGH := hid hgh;have s0 := hgh.cellN s0 id;have s1 := hgh.cellN s1 id;have s2 := hgh.cellN s2 id;have o0 := hgh.cellN o0 id;have o2 := hgh.cellN o2 id;have o3 := hgh.cellN o3 id;have o4 := hgh.cellN o4 id;have o5 := hgh.cellN o5 id;clear hgh)
  | (go_at_call 65;(with_reducible refine (fail_any _ 6).mono ?_);rintro e wf ⟨rfl,hgf⟩;obtain ⟨t0,t1,t2,t3,tf⟩ := HB.out.res (HGH.out.trans hgf);have HGF := hid (HGH.out.trans hgf);clear hgf))
 rw [HP.out]
 exact ret_res rfl rfl (HB.out.bad HGD.out HGF.out 6).1 rfl (HB.out.bad HGD.out HGF.out 6).2
set_option maxHeartbeats 4000000 in
set_option maxRecDepth 100000 in
theorem do_3 (hm : SM w G gT cT gB cB gH cH q cp a) (hg : MdM.Good a) (hlt : ∀ k,G k → k < w.heap.size) (hd : Sl w w.heap.size .u8 D dl o.d) (kc : Nat) (hkc : (kc : Int) < (a.N : Int)) (hk : o.k = 3) (p : Nat) (hpn : p < a.n) (hh : a.held (kc : Int) o.h = (p : Int)) (u m : Nat) (ho : o.o = (u : Int)) (hn : o.n = (m : Int)) (hum : u + m ≤ 16) :
  Calls Tryz.prog 53 #[sval gT cT gB cB gH cH a,.int .i64 (kc : Int),.agg #[.int .i64 o.k,.int .i64 o.p,.int .i64 o.h,.int .i64 o.o,.int .i64 o.n,.slice D dl dc]] w (DoPost G (sval gT cT gB cB gH cH a) w (⟨0,0,0,((a.B p).drop u).take m⟩,a)) := by
 have HB := hid (bx_new (dc := dc) hm hlt hd)
 have HGD := hid hg
 obtain ⟨P,hP⟩ : ∃ P,P = DoPost G (sval gT cT gB cB gH cH a) w (⟨0,0,0,((a.B p).drop u).take m⟩,a) := ⟨_,rfl⟩
 have HP := hid hP
 rw [← hP]
 have HYhk := hid hk
 clear hk
 have HYhh := hid hh
 clear hh
 have HYho := hid ho
 clear ho
 have HYhn := hid hn
 clear hn
 clear hm hg hlt hd hP
 go_enter Tryz.func53,Tryz.ntmps53
 go_upto_region 1 with (fail)
 generalize ((w.alloc (.cells #[.slice (some ⟨gT,0,none⟩) a.n cT,.slice (some ⟨gB,0,none⟩) a.n cB,.slice (some ⟨gH,0,none⟩) a.N cH] 50)).alloc (.cells #[.int .i64 o.k,.int .i64 o.p,.int .i64 o.h,.int .i64 o.o,.int .i64 o.n,.slice D dl dc] 30)).alloc (.cells #[.int .i64 0,.int .i64 0,.int .i64 0,.slice none 0 0] 27) = w0 at HB ⊢
 generalize w.heap.size = s at HB ⊢
 have s0 := HB.out.s0
 have s1 := HB.out.s1
 have s2 := HB.out.s2
 have o0 := HB.out.o0
 have o1 := HB.out.o1
 have o2 := HB.out.o2
 have o3 := HB.out.o3
 have o4 := HB.out.o4
 have o5 := HB.out.o5
 have hn := HYhn.out
 have ho := HYho.out
 have hh := HYhh.out
 have hk := HYhk.out
 rw [hk] at o0
 rw [ho] at o3
 rw [hn] at o4
 have HHE := hid (held_any (HB.out.sat HGD.out) (kc : Int) o.h)
 rw [hh] at HHE
 clear hh HYhh
 have cb : w0.cell? ⟨gB,p,none⟩ = some (.string (strOfNums (a.B p))) := HB.out.sm.bb.cell (i := p) (by omega)
 clear ho hn hk HYho HYhn HYhk
 have hl16 := HGD.out.len p
 have HBY := hid (HGD.out.byt p)
 have hz1 : (u : Int) ≤ 16 := by omega
 have hz2 : (m : Int) ≤ 16 - (u : Int) := by omega
 have hpz : (p : Int) < (a.n : Int) := by omega
 have hszB : (strOfNums (a.B p)).size = 16 := by rw [str_size];exact hl16
 have hext : (strOfNums (a.B p)).extract u (u + m) = strOfNums (((a.B p).drop u).take m) := str_mid _ _ _ (by omega)
 have htn : ((u : Int) + (m : Int)).toNat = u + m := by omega
 have HUM := hid hum
 have HL := hid hl16
 clear hum hl16 hpn
 have HNE := hid (And.intro (HB.out.lt _ HB.out.sm.inG.2.1) HB.out.sz)
 go_upto_region 31 with ((go_at_call 54;(with_reducible refine HHE.out.mono ?_);rintro e wh ⟨rfl,hgh⟩;have HGH := hid hgh;have s0 := hgh.cellN s0 id;have s1 := hgh.cellN s1 id;have s2 := hgh.cellN s2 id;have o0 := hgh.cellN o0 id;have o2 := hgh.cellN o2 id;have o3 := hgh.cellN o3 id;have o4 := hgh.cellN o4 id;have o5 := hgh.cellN o5 id;have cb := hgh.cellN cb id;clear hgh))
 have q0 := up_cell (F := fun k => k = s + 1 + 1) (w := wh.drew) (p := ⟨s,1,none⟩) s1 (fun e => by have e : s = s + 1 + 1 := e;omega)
 have q1 := up_cell (F := fun k => k = s + 1 + 1) (w := wh.drew) (p := ⟨s + 1,3,none⟩) o3 (fun e => by have e : s + 1 = s + 1 + 1 := e;omega)
 have q2 := up_cell (F := fun k => k = s + 1 + 1) (w := wh.drew) (p := ⟨s + 1,4,none⟩) o4 (fun e => by have e : s + 1 = s + 1 + 1 := e;omega)
 have q3 := up_cell (F := fun k => k = s + 1 + 1) (w := wh.drew) (p := ⟨gB,p,none⟩) cb (fun e => by have e : gB = s + 1 + 1 := e;have := HNE.out.1;omega)
 have HGD2 : Hid (Grow w0 wh.drew) := HGH.out.drew
 refine wp_region_stages (Kept (fun k => k = s + 1 + 1)) (kept_refl _) (kept_trans _) [([0,1,2,3,4,5,6,7,8,9,10,11,12],13),([14],15)] [] (by kernel_rfl) (by kernel_rfl) ?_
 simp only [selSt,sel,ZmC,ZmN,ZgS,ZgZ]
 refine st_cons fun K1 hK1 => ?_
 repeat (go_big_quiet_step (fail))
 refine wpQuiet_nil ?_
 clear q0 q1 q2 q3 s1 o3 o4 cb
 have hcv := fun (wx : World) => Lib.run_convert_string_bytes (P := Tryz.prog) wx 9 22 5 (strOfNums (((a.B p).drop u).take m)) Tryz.underlying9 Tryz.underlying22 Tryz.underlying5
 go_wp2
 clear hcv
 have hlen : (((a.B p).drop u).take m).length = m := by rw [List.length_take,List.length_drop];have h1 := HL.out;have h2 := HUM.out;omega
 have hsl := bytes_sl wh.drew 5 (zs := ((a.B p).drop u).take m) fun c hc => HBY.out c (List.mem_of_mem_drop (List.mem_of_mem_take hc))
 rw [hlen] at hsl
 have HSL : Hid (Sl (Lib.bytesWorld wh.drew 5 (strOfNums (((a.B p).drop u).take m))) (Lib.bytesWorld wh.drew 5 (strOfNums (((a.B p).drop u).take m))).heap.size .u8 (some ⟨wh.heap.size,0,none⟩) m (((a.B p).drop u).take m)) := hsl
 clear hsl
 have HGB := hid (bytes_grow wh.drew 5 (strOfNums (((a.B p).drop u).take m)))
 have hsize : (strOfNums (((a.B p).drop u).take m)).size = m := by rw [str_size];exact hlen
 rw [hsize]
 have HW : Hid (s + 1 + 1 < wh.heap.size) := Nat.lt_of_lt_of_le HB.out.rb.lt HGH.out.size
 refine norm_up (hK1 _ _ (Grow.kept HGB.out) ?_)
 clear hK1 K1
 generalize hw5 : Lib.bytesWorld wh.drew 5 (strOfNums (((a.B p).drop u).take m)) = w5 at *
 generalize grownCap wh.drew _ 0 5 = cap5 at *
 have HG5 : Hid (Grow w0 w5) := HGD2.out.trans HGB.out
 generalize wh.heap.size = b5 at *
 clear hw5 hsize HGB hlen
 obtain ⟨t0,t1,t2,t3,tf⟩ := HB.out.res HG5.out
 refine st_cons fun K2 hK2 => ?_
 repeat (go_big_quiet_step (fail))
 refine wpQuiet_nil ?_
 go_wp2
 refine norm_up (hK2 _ _ (put4_kept _ _ _ _ _ _) (st_nil fun K3 hK3 => wpQuiet_nil (hK3 _ ?_)))
 clear hK2 K2 hK3 K3
 go_wp2
 rw [HP.out]
 have hfin := HB.out.finD (cap := cap5) HGD.out HG5.out HSL.out (fun _ x e => by injection e with e;subst e;have h1 := HW.out;have h2 := HNE.out.2;exact ⟨by show w.heap.size ≤ b5;omega,by show b5 ≠ s + 1 + 1;omega⟩)
 exact ret_res rfl rfl hfin.1 rfl hfin.2
set_option maxHeartbeats 4000000 in
set_option maxRecDepth 100000 in
theorem do_5 (hm : SM w G gT cT gB cB gH cH q cp a) (hg : MdM.Good a) (hlt : ∀ k,G k → k < w.heap.size) (hd : Sl w w.heap.size .u8 D dl o.d) (kc : Nat) (hkc : (kc : Int) < (a.N : Int)) (hk : o.k = 5) (p : Nat) (_hpn : p < a.n) (hh : a.held (kc : Int) o.h = (p : Int)) (j : Nat) (hj : o.h = (j : Int)) (hj6 : (j : Int) < 6) :
  Calls Tryz.prog 53 #[sval gT cT gB cB gH cH a,.int .i64 (kc : Int),.agg #[.int .i64 o.k,.int .i64 o.p,.int .i64 o.h,.int .i64 o.o,.int .i64 o.n,.slice D dl dc]] w (DoPost G (sval gT cT gB cB gH cH a) w (err 0,a.putH kc j (-1))) := by
 have HB := hid (bx_new (dc := dc) hm hlt hd)
 have HGD := hid hg
 obtain ⟨P,hP⟩ : ∃ P,P = DoPost G (sval gT cT gB cB gH cH a) w (err 0,a.putH kc j (-1)) := ⟨_,rfl⟩
 have HP := hid hP
 rw [← hP]
 have HYhk := hid hk
 clear hk
 have HYhh := hid hh
 clear hh
 have HYhj := hid hj
 clear hj
 clear hm hg hlt hd hP
 go_enter Tryz.func53,Tryz.ntmps53
 go_upto_region 1 with (fail)
 generalize ((w.alloc (.cells #[.slice (some ⟨gT,0,none⟩) a.n cT,.slice (some ⟨gB,0,none⟩) a.n cB,.slice (some ⟨gH,0,none⟩) a.N cH] 50)).alloc (.cells #[.int .i64 o.k,.int .i64 o.p,.int .i64 o.h,.int .i64 o.o,.int .i64 o.n,.slice D dl dc] 30)).alloc (.cells #[.int .i64 0,.int .i64 0,.int .i64 0,.slice none 0 0] 27) = w0 at HB ⊢
 generalize w.heap.size = s at HB ⊢
 have s0 := HB.out.s0
 have s1 := HB.out.s1
 have s2 := HB.out.s2
 have o0 := HB.out.o0
 have o1 := HB.out.o1
 have o2 := HB.out.o2
 have o3 := HB.out.o3
 have o4 := HB.out.o4
 have o5 := HB.out.o5
 have hj := HYhj.out
 have hh := HYhh.out
 have hk := HYhk.out
 rw [hk] at o0
 have HHE := hid (held_any (HB.out.sat HGD.out) (kc : Int) o.h)
 rw [hh] at HHE
 clear hh HYhh
 rw [hj] at o2 HHE
 have hkN : kc < a.N := by omega
 have cs : w0.cell? ⟨gH,kc,none⟩ = some (.slice (some ⟨q kc,0,none⟩) 6 (cp kc)) := HB.out.sm.hb.cell (i := kc) (by omega)
 have HKN := hid hkN
 have HNE := hid (And.intro (HB.out.lt _ (HB.out.sm.qG kc hkN)) (HB.out.sm.nq kc hkN).2.2)
 have HGN := hid (HGD.out.putH kc j (.inl rfl))
 clear hj hk _hpn HYhj HYhk hkN
 go_upto_region 37 with ((go_at_call 54;(with_reducible refine HHE.out.mono ?_);rintro e wh ⟨rfl,hgh⟩;have HGH := hid hgh;have s0 := hgh.cellN s0 id;have s1 := hgh.cellN s1 id;have s2 := hgh.cellN s2 id;have o0 := hgh.cellN o0 id;have o2 := hgh.cellN o2 id;have o3 := hgh.cellN o3 id;have o4 := hgh.cellN o4 id;have o5 := hgh.cellN o5 id;have cs := hgh.cellN cs id;clear hgh))
 have HGH2 : Hid (Grow w0 wh.drew) := HGH.out.drew
 have HSM : Hid (SM (wh.setCell ⟨q kc,j,none⟩ (.int .i64 (-1))).drew G gT cT gB cB gH cH q cp (a.putH kc j (-1))) := (HB.out.sm.kept HGH2.out fun _ _ x => x).putH HKN.out j (-1)
 have hr := (HB.out.sm.rb kc HKN.out).kept HGH2.out id
 have hc := hcell_get hr (j := j) (by omega)
 have hfz := hr.frozen j
 generalize a.H kc j = hold at hc
 have q0 := up_cell (F := fun k => k = q kc) (w := wh.drew) (p := ⟨s,2,none⟩) s2 (fun e => by have e : s = q kc := e;have := HNE.out.1;omega)
 have q1 := up_cell (F := fun k => k = q kc) (w := wh.drew) (p := ⟨s + 1,2,none⟩) o2 (fun e => by have e : s + 1 = q kc := e;have := HNE.out.1;omega)
 have q2 := up_cell (F := fun k => k = q kc) (w := wh.drew) (p := ⟨gH,kc,none⟩) cs (fun e => HNE.out.2 (by have e : gH = q kc := e;exact e.symm))
 refine wp_region_stages (Kept (fun k => k = q kc)) (kept_refl _) (kept_trans _) [([0,1,2,3,4,5,6,7],8)] [] (by kernel_rfl) (by kernel_rfl) ?_
 simp only [selSt,sel,ZmC,ZmN,ZgS,ZgZ]
 refine st_cons fun K1 hK1 => ?_
 repeat (go_big_quiet_step (fail))
 refine wpQuiet_nil ?_
 clear q0 q1 q2
 go_wp2
 refine norm_up (hK1 _ _ (kept_set wh.drew (q kc) j (.int .i64 (-1))) (st_nil fun K3 hK3 => wpQuiet_nil (hK3 _ ?_)))
 clear hK1 K1 hK3 K3
 have HK5 : Hid (Kept G w0 (wh.setCell ⟨q kc,j,none⟩ (.int .i64 (-1))).drew) := HGH2.out.kept.trans ((kept_set wh.drew (q kc) j (.int .i64 (-1))).mono fun k _ e => by rw [e];exact HB.out.sm.qG kc HKN.out)
 generalize (wh.setCell ⟨q kc,j,none⟩ (.int .i64 (-1))).drew = w5 at HSM HK5 ⊢
 obtain ⟨t0,t1,t2,t3,tf⟩ := HB.out.resK HK5.out
 go_wp2
 rw [HP.out]
 have hfin := HB.out.fin HSM.out HGN.out rfl rfl HK5.out 0 0 0
 exact ret_res rfl rfl hfin.1 rfl hfin.2
set_option maxHeartbeats 4000000 in
set_option maxRecDepth 100000 in
theorem do_8p (hm : SM w G gT cT gB cB gH cH q cp a) (hg : MdM.Good a) (hlt : ∀ k,G k → k < w.heap.size) (hd : Sl w w.heap.size .u8 D dl o.d) (kc : Nat) (hkc : (kc : Int) < (a.N : Int)) (hk : o.k = 8) (p : Nat) (hp : o.p = (p : Int)) (hpn : (p : Int) < (a.n : Int)) (hT : a.T p = true) (hpi : 0 < a.pins (p : Int)) :
  Calls Tryz.prog 53 #[sval gT cT gB cB gH cH a,.int .i64 (kc : Int),.agg #[.int .i64 o.k,.int .i64 o.p,.int .i64 o.h,.int .i64 o.o,.int .i64 o.n,.slice D dl dc]] w (DoPost G (sval gT cT gB cB gH cH a) w (err 7,a)) := by
 have HB := hid (bx_new (dc := dc) hm hlt hd)
 have HGD := hid hg
 obtain ⟨P,hP⟩ : ∃ P,P = DoPost G (sval gT cT gB cB gH cH a) w (err 7,a) := ⟨_,rfl⟩
 have HP := hid hP
 rw [← hP]
 have HPN := hid (show p < a.n by omega)
 have HYhk := hid hk
 clear hk
 have HYhp := hid hp
 clear hp
 have HYhT := hid hT
 clear hT
 clear hm hg hlt hd hP
 go_enter Tryz.func53,Tryz.ntmps53
 go_upto_region 1 with (fail)
 generalize ((w.alloc (.cells #[.slice (some ⟨gT,0,none⟩) a.n cT,.slice (some ⟨gB,0,none⟩) a.n cB,.slice (some ⟨gH,0,none⟩) a.N cH] 50)).alloc (.cells #[.int .i64 o.k,.int .i64 o.p,.int .i64 o.h,.int .i64 o.o,.int .i64 o.n,.slice D dl dc] 30)).alloc (.cells #[.int .i64 0,.int .i64 0,.int .i64 0,.slice none 0 0] 27) = w0 at HB ⊢
 generalize w.heap.size = s at HB ⊢
 have s0 := HB.out.s0
 have s1 := HB.out.s1
 have s2 := HB.out.s2
 have o0 := HB.out.o0
 have o1 := HB.out.o1
 have o2 := HB.out.o2
 have o3 := HB.out.o3
 have o4 := HB.out.o4
 have o5 := HB.out.o5
 have hT := HYhT.out
 have hp := HYhp.out
 have hk := HYhk.out
 rw [hk] at o0
 rw [hp] at o1
 have tp : w0.cell? ⟨gT,p,none⟩ = some (.bool true) := by
  have := HB.out.sm.tb.cell (i := p) (by have := HPN.out;omega)
  unfold tcell at this
  rw [hT] at this
  exact this
 clear hT hp HYhT HYhp
 have HPI := hid (pins_any (HB.out.sat HGD.out) (p : Int))
 generalize a.pins (p : Int) = m at HPI hpi
 have hmz : 0 < (m : Int) := by omega
 clear hpi
 go_wp2_with (first
  | (go_at_call 114;(with_reducible refine HPI.out.mono ?_);rintro e wp ⟨rfl,hgp⟩;have HGP := hid hgp;have s0 := hgp.cellN s0 id;have s1 := hgp.cellN s1 id;have s2 := hgp.cellN s2 id;clear hgp)
  | (go_at_call 65;(with_reducible refine (fail_any _ 7).mono ?_);rintro e wf ⟨rfl,hgf⟩;obtain ⟨t0,t1,t2,t3,tf⟩ := HB.out.res (HGP.out.trans hgf);have HGF := hid (HGP.out.trans hgf);clear hgf))
 rw [HP.out]
 exact ret_res rfl rfl (HB.out.bad HGD.out HGF.out 7).1 rfl (HB.out.bad HGD.out HGF.out 7).2
set_option maxHeartbeats 4000000 in
set_option maxRecDepth 100000 in
theorem do_8 (hm : SM w G gT cT gB cB gH cH q cp a) (hg : MdM.Good a) (hlt : ∀ k,G k → k < w.heap.size) (hd : Sl w w.heap.size .u8 D dl o.d) (kc : Nat) (hkc : (kc : Int) < (a.N : Int)) (hk : o.k = 8) (p : Nat) (hp : o.p = (p : Int)) (hpn : (p : Int) < (a.n : Int)) (hT : a.T p = true) (hpi : a.pins (p : Int) = 0) :
  Calls Tryz.prog 53 #[sval gT cT gB cB gH cH a,.int .i64 (kc : Int),.agg #[.int .i64 o.k,.int .i64 o.p,.int .i64 o.h,.int .i64 o.o,.int .i64 o.n,.slice D dl dc]] w (DoPost G (sval gT cT gB cB gH cH a) w (err 0,a.putT p false)) := by
 have HB := hid (bx_new (dc := dc) hm hlt hd)
 have HGD := hid hg
 obtain ⟨P,hP⟩ : ∃ P,P = DoPost G (sval gT cT gB cB gH cH a) w (err 0,a.putT p false) := ⟨_,rfl⟩
 have HP := hid hP
 rw [← hP]
 have HPN := hid (show p < a.n by omega)
 have HYhk := hid hk
 clear hk
 have HYhp := hid hp
 clear hp
 have HYhT := hid hT
 clear hT
 clear hm hg hlt hd hP
 go_enter Tryz.func53,Tryz.ntmps53
 go_upto_region 1 with (fail)
 generalize ((w.alloc (.cells #[.slice (some ⟨gT,0,none⟩) a.n cT,.slice (some ⟨gB,0,none⟩) a.n cB,.slice (some ⟨gH,0,none⟩) a.N cH] 50)).alloc (.cells #[.int .i64 o.k,.int .i64 o.p,.int .i64 o.h,.int .i64 o.o,.int .i64 o.n,.slice D dl dc] 30)).alloc (.cells #[.int .i64 0,.int .i64 0,.int .i64 0,.slice none 0 0] 27) = w0 at HB ⊢
 generalize w.heap.size = s at HB ⊢
 have s0 := HB.out.s0
 have s1 := HB.out.s1
 have s2 := HB.out.s2
 have o0 := HB.out.o0
 have o1 := HB.out.o1
 have o2 := HB.out.o2
 have o3 := HB.out.o3
 have o4 := HB.out.o4
 have o5 := HB.out.o5
 have hT := HYhT.out
 have hp := HYhp.out
 have hk := HYhk.out
 rw [hk] at o0
 rw [hp] at o1
 have tp : w0.cell? ⟨gT,p,none⟩ = some (.bool true) := by
  have := HB.out.sm.tb.cell (i := p) (by have := HPN.out;omega)
  unfold tcell at this
  rw [hT] at this
  exact this
 clear hT hp HYhT HYhp
 have HPI := hid (pins_any (HB.out.sat HGD.out) (p : Int))
 have HGN := hid (HGD.out.putT p false (.inr (pins_zero hpi)))
 rw [hpi] at HPI
 clear hpi
 go_upto_region 41 with (go_at_call 114;(with_reducible refine HPI.out.mono ?_);rintro e wp ⟨rfl,hgp⟩;have HGP := hid hgp;have s0 := hgp.cellN s0 id;have s1 := hgp.cellN s1 id;have s2 := hgp.cellN s2 id;clear hgp)
 have HNE := hid (And.intro (HB.out.lt _ HB.out.sm.inG.1) (HB.out.lt _ HB.out.sm.inG.2.1))
 have HG2 : Hid (Grow w0 wp.drew) := HGP.out.drew
 have q0 := up_cell (F := fun k => k = gT ∨ k = gB) (w := wp.drew) (p := ⟨s,0,none⟩) s0 (fun e => by have e : s = gT ∨ s = gB := e;have h1 := HNE.out;omega)
 have q1 := up_cell (F := fun k => k = gT ∨ k = gB) (w := wp.drew) (p := ⟨s,1,none⟩) s1 (fun e => by have e : s = gT ∨ s = gB := e;have h1 := HNE.out;omega)
 refine wp_region_stages (Kept (fun k => k = gT ∨ k = gB)) (kept_refl _) (kept_trans _) [([0,1,2,3,4,5],6),([7],8),([9],10)] [] (by kernel_rfl) (by kernel_rfl) ?_
 simp only [selSt,sel,ZmC,ZmN,ZgS,ZgZ]
 refine st_cons fun K1 hK1 => ?_
 repeat (go_big_quiet_step (fail))
 refine wpQuiet_nil ?_
 clear q0 q1
 go_wp2_with (go_at_call 109;(with_reducible refine (zeros_any _).mono ?_);rintro e wz ⟨rfl,hgz⟩;have HGZ := hid hgz;clear hgz)
 refine norm_up (hK1 _ _ HGZ.out.kept ?_)
 clear hK1 K1
 have HG3 : Hid (Grow w0 wz) := HG2.out.trans HGZ.out
 have HS3 := hid (HB.out.sm.kept HG3.out fun _ _ x => x)
 have hr1 := HS3.out.tb.cell (i := p) (by have := HPN.out;omega)
 have hf1 := HS3.out.tb.frozen p
 unfold tcell at hr1
 have HS4 : Hid (SM (wz.setCell ⟨gT,p,none⟩ (.bool false)) G gT cT gB cB gH cH q cp ⟨a.n,a.N,upd a.T p false,a.B,a.H⟩) := HS3.out.flag p false
 have HK4 : Hid (Kept (fun k => k = gT ∨ k = gB) wz (wz.setCell ⟨gT,p,none⟩ (.bool false))) := (kept_set wz gT p (.bool false)).mono fun k _ e => .inl e
 refine st_cons fun K2 hK2 => ?_
 repeat (go_big_quiet_step (fail))
 refine wpQuiet_nil ?_
 generalize a.T p = told at hr1
 go_wp2
 clear hr1 hf1
 refine norm_up (hK2 _ _ HK4.out ?_)
 clear hK2 K2
 generalize wz.setCell ⟨gT,p,none⟩ (.bool false) = wy at HS4 HK4 ⊢
 have hr2 := HS4.out.bb.cell (i := p) (by have := HPN.out;show p < a.n * 1;omega)
 have hf2 := HS4.out.bb.frozen p
 unfold bcell at hr2
 have HS5 : Hid (SM (wy.setCell ⟨gB,p,none⟩ (.string (strOfNums zeros))) G gT cT gB cB gH cH q cp (a.putT p false)) := HS4.out.putB p zeros
 have HK5 : Hid (Kept (fun k => k = gT ∨ k = gB) wy (wy.setCell ⟨gB,p,none⟩ (.string (strOfNums zeros)))) := (kept_set wy gB p (.string (strOfNums zeros))).mono fun k _ e => .inr e
 refine st_cons fun K3 hK3 => ?_
 repeat (go_big_quiet_step (fail))
 refine wpQuiet_nil ?_
 generalize strOfNums ((⟨a.n,a.N,upd a.T p false,a.B,a.H⟩ : Md).B p) = sold at hr2
 go_wp2
 clear hr2 hf2
 refine norm_up (hK3 _ _ HK5.out (st_nil fun K4 hK4 => wpQuiet_nil (hK4 _ ?_)))
 clear hK3 K3 hK4 K4
 have HK6 : Hid (Kept G w0 (wy.setCell ⟨gB,p,none⟩ (.string (strOfNums zeros)))) := HG3.out.kept.trans ((HK4.out.trans HK5.out).mono fun k _ e => by
  rcases e with e | e
  ·rw [e];exact HB.out.sm.inG.1
  ·rw [e];exact HB.out.sm.inG.2.1)
 generalize wy.setCell ⟨gB,p,none⟩ (.string (strOfNums zeros)) = w5 at HS5 HK6 ⊢
 clear HS4 HK4 HK5
 obtain ⟨t0,t1,t2,t3,tf⟩ := HB.out.resK HK6.out
 go_wp2
 rw [HP.out]
 have hfin := HB.out.fin HS5.out HGN.out rfl rfl HK6.out 0 0 0
 exact ret_res rfl rfl hfin.1 rfl hfin.2
end
end MdF
namespace MdG
open Go.ChangeShapes Go.WideShapes Go.ChangeAt Go.RowKit
open Mem Blk Cells Orow GrC Txt MdM MdC MdR MdD Stages Trees
open HdM (lst hnd cnt sum lst_eq hnd_at hnd_none hnd_cases cnt_yes cnt_no cnt_le sum_le)
section
variable {w : World} {G : Nat → Prop} {gT cT gB cB gH cH : Nat} {q cp : Nat → Nat} {a : Md} {o : MdOp} {D : Option Addr} {dl dc : Nat}
set_option maxHeartbeats 4000000 in
set_option maxRecDepth 100000 in
theorem do_4 (hm : SM w G gT cT gB cB gH cH q cp a) (hg : MdM.Good a) (hlt : ∀ k,G k → k < w.heap.size) (hd : Sl w w.heap.size .u8 D dl o.d) (kc : Nat) (hkc : (kc : Int) < (a.N : Int)) (hk : o.k = 4) (p : Nat) (hpn : p < a.n) (hh : a.held (kc : Int) o.h = (p : Int)) (hT : a.T p = true) (u : Nat) (ho : o.o = (u : Int)) (hum : u + dl ≤ 16) (hby : Bytes o.d) :
  Calls Tryz.prog 53 #[sval gT cT gB cB gH cH a,.int .i64 (kc : Int),.agg #[.int .i64 o.k,.int .i64 o.p,.int .i64 o.h,.int .i64 o.o,.int .i64 o.n,.slice D dl dc]] w (DoPost G (sval gT cT gB cB gH cH a) w (err 0,a.putB p (MdM.splice (a.B p) u o.d))) := by
 have HB := hid (bx_new (dc := dc) hm hlt hd)
 have HGD := hid hg
 obtain ⟨P,hP⟩ : ∃ P,P = DoPost G (sval gT cT gB cB gH cH a) w (err 0,a.putB p (MdM.splice (a.B p) u o.d)) := ⟨_,rfl⟩
 have HP := hid hP
 rw [← hP]
 have HBYT := hid hby
 clear hby
 have HYhk := hid hk
 clear hk
 have HYhh := hid hh
 clear hh
 have HYhT := hid hT
 clear hT
 have HYho := hid ho
 clear ho
 clear hm hg hlt hd hP
 go_enter Tryz.func53,Tryz.ntmps53
 go_upto_region 1 with (fail)
 generalize ((w.alloc (.cells #[.slice (some ⟨gT,0,none⟩) a.n cT,.slice (some ⟨gB,0,none⟩) a.n cB,.slice (some ⟨gH,0,none⟩) a.N cH] 50)).alloc (.cells #[.int .i64 o.k,.int .i64 o.p,.int .i64 o.h,.int .i64 o.o,.int .i64 o.n,.slice D dl dc] 30)).alloc (.cells #[.int .i64 0,.int .i64 0,.int .i64 0,.slice none 0 0] 27) = w0 at HB ⊢
 generalize w.heap.size = s at HB ⊢
 have s0 := HB.out.s0
 have s1 := HB.out.s1
 have s2 := HB.out.s2
 have o0 := HB.out.o0
 have o1 := HB.out.o1
 have o2 := HB.out.o2
 have o3 := HB.out.o3
 have o4 := HB.out.o4
 have o5 := HB.out.o5
 have ho := HYho.out
 have hT := HYhT.out
 have hh := HYhh.out
 have hk := HYhk.out
 rw [hk] at o0
 rw [ho] at o3
 have HHE := hid (held_any (HB.out.sat HGD.out) (kc : Int) o.h)
 rw [hh] at HHE
 clear hh HYhh
 have cb : w0.cell? ⟨gB,p,none⟩ = some (.string (strOfNums (a.B p))) := HB.out.sm.bb.cell (i := p) (by omega)
 have hdl : o.d.length = dl := HB.out.da.len
 have hl16 := HGD.out.len p
 have HGN := hid (HGD.out.putB (q := p) (b := MdM.splice (a.B p) u o.d) hT (splice_len (b := a.B p) (d := o.d) (o := u) hl16 (by rw [hdl];exact hum)) (splice_bytes (HGD.out.byt p) HBYT.out))
 have HPN := hid hpn
 have hpz : (p : Int) < (a.n : Int) := by omega
 have hszB : (strOfNums (a.B p)).size = 16 := by rw [str_size];exact hl16
 have hext1 : (strOfNums (a.B p)).extract 0 u = strOfNums ((a.B p).take u) := str_take _ _
 have hext2 : (strOfNums (a.B p)).extract (u + dl) 16 = strOfNums ((a.B p).drop (u + dl)) := str_drop _ _ _ hl16 (by omega)
 have htn : ((u : Int) + (dl : Int)).toNat = u + dl := by omega
 have hoz0 : (u : Int) ≤ 16 := by omega
 have hoz1 : (dl : Int) ≤ 16 - (u : Int) := by omega
 have hoz3 : (0 : Int) ≤ (u : Int) + (dl : Int) := by omega
 have hsz1 : ((strOfNums ((a.B p).take u)).size : Int) ≤ 8388608 := by rw [str_size,List.length_take];omega
 have hsz2 : ((strOfNums o.d).size : Int) ≤ 8388608 := by rw [str_size];omega
 have hsz3 : ((strOfNums ((a.B p).take u ++ o.d)).size : Int) ≤ 8388608 := by rw [str_size,List.length_append,List.length_take];omega
 have hsz4 : ((strOfNums ((a.B p).drop (u + dl))).size : Int) ≤ 8388608 := by rw [str_size,List.length_drop];omega
 have hap1 := str_append ((a.B p).take u) o.d
 have hap2 : strOfNums ((a.B p).take u ++ o.d) ++ strOfNums ((a.B p).drop (u + dl)) = strOfNums (MdM.splice (a.B p) u o.d) := by
  rw [str_append]
  unfold MdM.splice
  rw [hdl]
 have hoz : (u : Int) + (dl : Int) ≤ 16 := by omega
 clear ho hk hum hl16 hpn HYho HYhk hdl
 go_upto_region 35 with ((go_at_call 54;(with_reducible refine HHE.out.mono ?_);rintro e wh ⟨rfl,hgh⟩;have HGH := hid hgh;have s0 := hgh.cellN s0 id;have s1 := hgh.cellN s1 id;have s2 := hgh.cellN s2 id;have o0 := hgh.cellN o0 id;have o2 := hgh.cellN o2 id;have o3 := hgh.cellN o3 id;have o4 := hgh.cellN o4 id;have o5 := hgh.cellN o5 id;have cb := hgh.cellN cb id;have HDA := hid (Blk.Sl.kept HB.out.da hgh (Nat.le_of_lt HB.out.sb.lt) fun _ _ x => x);clear hgh))
 have HGD2 : Hid (Grow w0 wh.drew) := HGH.out.drew
 have HNE := hid (HB.out.lt _ HB.out.sm.inG.2.1)
 have hb5 := (HB.out.sm.bb.kept HGD2.out id)
 have hf5 := hb5.frozen p
 have q0 := up_cell (F := fun _ => False) (w := wh.drew) (p := ⟨s,1,none⟩) s1 id
 have q1 := up_cell (F := fun _ => False) (w := wh.drew) (p := ⟨s + 1,3,none⟩) o3 id
 have q2 := up_cell (F := fun _ => False) (w := wh.drew) (p := ⟨s + 1,5,none⟩) o5 id
 have q3 := up_cell (F := fun _ => False) (w := wh.drew) (p := ⟨gB,p,none⟩) cb id
 have q4 := up_run (F := fun _ => False) (P := Tryz.prog) (w := wh.drew) fun w' hk => (Blk.Sl.kept HDA.out ((Kept.drew' wh).trans hk) (Nat.le_trans (Nat.le_of_lt HB.out.sb.lt) HGH.out.size) (fun _ _ x => x)).str 22 9 5 Tryz.underlying22 Tryz.underlying5 Tryz.underlying9 dc
 have HSM : Hid (SM (wh.setCell ⟨gB,p,none⟩ (.string (strOfNums (MdM.splice (a.B p) u o.d)))).drew G gT cT gB cB gH cH q cp (a.putB p (MdM.splice (a.B p) u o.d))) := (HB.out.sm.kept HGD2.out fun _ _ x => x).putB p (MdM.splice (a.B p) u o.d)
 clear hb5
 refine wp_region_tree Grow (Kept (· = gB)) (kept_refl _) (kept_trans _) (kept_refl _) (kept_trans _) (fun _ _ h => h.mono fun _ _ x => x.elim) [29]
  (.one true [0,1,2,3,4,5,6,7,8,9,10,11,12,13,14,15,16,17,18,19,20,21,22,23,24,25,26,27,28] 29 (.last false [])) (by kernel_rfl) (by kernel_rfl) ?_
 refine tr_oneE fun K hK => ?_
 simp only [sel,ZmC,ZmN,ZgS,ZgZ]
 repeat (go_big_quiet_step (fail))
 refine wpQuiet_nil ?_
 clear q0 q1 q2 q3 q4 hap1 hap2 hext1 hext2
 go_wp2
 refine norm_up (hK _ _ (Lr_late (by decide) (kept_set wh.drew gB p (.string (strOfNums (MdM.splice (a.B p) u o.d))))) ?_)
 clear hK K cb hf5 s1 o3 o5
 refine tr_lastL fun K hK => ?_
 simp only [sel,List.map_nil]
 refine wpQuiet_nil (hK _ ?_)
 clear hK K
 have HK5 : Hid (Kept G w0 (wh.setCell ⟨gB,p,none⟩ (.string (strOfNums (MdM.splice (a.B p) u o.d)))).drew) := HGD2.out.kept.trans ((kept_set wh.drew gB p (.string (strOfNums (MdM.splice (a.B p) u o.d)))).mono fun k _ e => by rw [e];exact HB.out.sm.inG.2.1)
 generalize (wh.setCell ⟨gB,p,none⟩ (.string (strOfNums (MdM.splice (a.B p) u o.d)))).drew = w5 at HSM HK5 ⊢
 obtain ⟨t0,t1,t2,t3,tf⟩ := HB.out.resK HK5.out
 go_wp2
 rw [HP.out]
 have hfin := HB.out.fin HSM.out HGN.out rfl rfl HK5.out 0 0 0
 exact ret_res rfl rfl hfin.1 rfl hfin.2
set_option maxHeartbeats 4000000 in
set_option maxRecDepth 100000 in
theorem do_1f (hm : SM w G gT cT gB cB gH cH q cp a) (hg : MdM.Good a) (hlt : ∀ k,G k → k < w.heap.size) (hd : Sl w w.heap.size .u8 D dl o.d) (kc : Nat) (hkc : (kc : Int) < (a.N : Int)) (hk : o.k = 1) (hf : a.free kc = -1) :
  Calls Tryz.prog 53 #[sval gT cT gB cB gH cH a,.int .i64 (kc : Int),.agg #[.int .i64 o.k,.int .i64 o.p,.int .i64 o.h,.int .i64 o.o,.int .i64 o.n,.slice D dl dc]] w (DoPost G (sval gT cT gB cB gH cH a) w (err 4,a)) := by
 have HB := hid (bx_new (dc := dc) hm hlt hd)
 have HGD := hid hg
 obtain ⟨P,hP⟩ : ∃ P,P = DoPost G (sval gT cT gB cB gH cH a) w (err 4,a) := ⟨_,rfl⟩
 have HP := hid hP
 rw [← hP]
 have HRM0 := hid (show kc < a.N by omega)
 have HYhk := hid hk
 clear hk
 have HYhf := hid hf
 clear hf
 clear hm hg hlt hd hP
 go_enter Tryz.func53,Tryz.ntmps53
 go_upto_region 1 with (fail)
 generalize ((w.alloc (.cells #[.slice (some ⟨gT,0,none⟩) a.n cT,.slice (some ⟨gB,0,none⟩) a.n cB,.slice (some ⟨gH,0,none⟩) a.N cH] 50)).alloc (.cells #[.int .i64 o.k,.int .i64 o.p,.int .i64 o.h,.int .i64 o.o,.int .i64 o.n,.slice D dl dc] 30)).alloc (.cells #[.int .i64 0,.int .i64 0,.int .i64 0,.slice none 0 0] 27) = w0 at HB ⊢
 generalize w.heap.size = s at HB ⊢
 have s0 := HB.out.s0
 have s1 := HB.out.s1
 have s2 := HB.out.s2
 have o0 := HB.out.o0
 have o1 := HB.out.o1
 have o2 := HB.out.o2
 have o3 := HB.out.o3
 have o4 := HB.out.o4
 have o5 := HB.out.o5
 have hf := HYhf.out
 have hk := HYhk.out
 rw [hk] at o0
 clear hk HYhk
 have HRM := hid (room_any (HB.out.sat HGD.out) HRM0.out)
 rw [show (!decide (a.free kc = -1)) = false by rw [hf];rfl] at HRM
 clear hf
 go_wp2_with (first
  | (go_at_call 112;(with_reducible refine HRM.out.mono ?_);rintro e wr ⟨rfl,hgr⟩;have HGR := hid hgr;have s0 := hgr.cellN s0 id;have s1 := hgr.cellN s1 id;have s2 := hgr.cellN s2 id;have o0 := hgr.cellN o0 id;clear hgr)
  | (go_at_call 65;(with_reducible refine (fail_any _ 4).mono ?_);rintro e wf ⟨rfl,hgf⟩;obtain ⟨t0,t1,t2,t3,tf⟩ := HB.out.res (HGR.out.trans hgf);have HGF := hid (HGR.out.trans hgf);clear hgf))
 rw [HP.out]
 exact ret_res rfl rfl (HB.out.bad HGD.out HGF.out 4).1 rfl (HB.out.bad HGD.out HGF.out 4).2
set_option maxHeartbeats 4000000 in
set_option maxRecDepth 100000 in
theorem do_1g (hm : SM w G gT cT gB cB gH cH q cp a) (hg : MdM.Good a) (hlt : ∀ k,G k → k < w.heap.size) (hd : Sl w w.heap.size .u8 D dl o.d) (kc : Nat) (hkc : (kc : Int) < (a.N : Int)) (hk : o.k = 1) (j : Nat) (hf : a.free kc = (j : Int)) (hgap : a.gap = a.n) :
  Calls Tryz.prog 53 #[sval gT cT gB cB gH cH a,.int .i64 (kc : Int),.agg #[.int .i64 o.k,.int .i64 o.p,.int .i64 o.h,.int .i64 o.o,.int .i64 o.n,.slice D dl dc]] w (DoPost G (sval gT cT gB cB gH cH a) w (err 3,a)) := by
 have HB := hid (bx_new (dc := dc) hm hlt hd)
 have HGD := hid hg
 obtain ⟨P,hP⟩ : ∃ P,P = DoPost G (sval gT cT gB cB gH cH a) w (err 3,a) := ⟨_,rfl⟩
 have HP := hid hP
 rw [← hP]
 have HRM0 := hid (show kc < a.N by omega)
 have HGA := hid (gap_le a)
 have HYhk := hid hk
 clear hk
 have HYhf := hid hf
 clear hf
 have HYhgap := hid hgap
 clear hgap
 clear hm hg hlt hd hP
 go_enter Tryz.func53,Tryz.ntmps53
 go_upto_region 1 with (fail)
 generalize ((w.alloc (.cells #[.slice (some ⟨gT,0,none⟩) a.n cT,.slice (some ⟨gB,0,none⟩) a.n cB,.slice (some ⟨gH,0,none⟩) a.N cH] 50)).alloc (.cells #[.int .i64 o.k,.int .i64 o.p,.int .i64 o.h,.int .i64 o.o,.int .i64 o.n,.slice D dl dc] 30)).alloc (.cells #[.int .i64 0,.int .i64 0,.int .i64 0,.slice none 0 0] 27) = w0 at HB ⊢
 generalize w.heap.size = s at HB ⊢
 have s0 := HB.out.s0
 have s1 := HB.out.s1
 have s2 := HB.out.s2
 have o0 := HB.out.o0
 have o1 := HB.out.o1
 have o2 := HB.out.o2
 have o3 := HB.out.o3
 have o4 := HB.out.o4
 have o5 := HB.out.o5
 have hgap := HYhgap.out
 have hf := HYhf.out
 have hk := HYhk.out
 rw [hk] at o0
 clear hk HYhk
 have HRM := hid (room_any (HB.out.sat HGD.out) HRM0.out)
 rw [show (!decide (a.free kc = -1)) = true by rw [hf];simp] at HRM
 clear hf hgap
 go_wp2_with (go_at_call 112;(with_reducible refine HRM.out.mono ?_);rintro e wr ⟨rfl,hgr⟩;have HGR := hid hgr;have s0 := hgr.cellN s0 id;have s1 := hgr.cellN s1 id;have s2 := hgr.cellN s2 id;have o0 := hgr.cellN o0 id;clear hgr)
 have HTB := hid (HB.out.sm.tb.kept HGR.out id)
 have hnz : (a.n : Int) ≤ 48 := by have := HGD.out.n;omega
 obtain ⟨wq,rfl⟩ : ∃ wq,wq = wr := ⟨_,rfl⟩
 go_loopg [7] a.n (fun gx i wr => ∃ t : Nat,t + gx = a.n ∧ i = .int .i64 (t : Int) ∧ wq = wr ∧ t ≤ a.gap)
 case atStart => exact ⟨0,by omega,rfl,rfl,Nat.zero_le _⟩
 case round =>
  obtain ⟨t,hg,rfl,rfl,hle⟩ := hrel
  have HG := hid hg
  have HLE := hid hle
  clear hg hle
  by_cases ht : t < a.gap
  ·have htn : t < a.n := Nat.lt_of_lt_of_le ht HGA.out
   have htz : (t : Int) < (a.n : Int) := by omega
   have hc := HTB.out.cell (i := t) (by omega)
   unfold tcell at hc
   rw [gap_there ht] at hc
   have HT := hid ht
   clear ht htn
   go_wp2
   go_roundg (gk - 1)
   case measure => have := HG.out;have := HT.out;have := HGA.out;omega
   case rel => exact ⟨t + 1,by have := HG.out;have := HT.out;have := HGA.out;omega,by go_num,rfl,by have := HT.out;omega⟩
  ·have he : t = a.n := by have := HLE.out;have := HYhgap.out;omega
   subst he
   clear ht HYhgap
   go_wp2_with (go_at_call 65;(with_reducible refine (fail_any _ 3).mono ?_);rintro e wf ⟨rfl,hgf⟩;obtain ⟨t0,t1,t2,t3,tf⟩ := HB.out.res (HGR.out.trans hgf);have HGF := hid (HGR.out.trans hgf);clear hgf)
   rw [HP.out]
   exact ret_res rfl rfl (HB.out.bad HGD.out HGF.out 3).1 rfl (HB.out.bad HGD.out HGF.out 3).2
set_option maxHeartbeats 4000000 in
set_option maxRecDepth 100000 in
theorem do_1 (hm : SM w G gT cT gB cB gH cH q cp a) (hg : MdM.Good a) (hlt : ∀ k,G k → k < w.heap.size) (hd : Sl w w.heap.size .u8 D dl o.d) (kc : Nat) (hkc : (kc : Int) < (a.N : Int)) (hk : o.k = 1) (j : Nat) (hf : a.free kc = (j : Int)) (p : Nat) (hgap : a.gap = p) (hpn : p < a.n) :
  Calls Tryz.prog 53 #[sval gT cT gB cB gH cH a,.int .i64 (kc : Int),.agg #[.int .i64 o.k,.int .i64 o.p,.int .i64 o.h,.int .i64 o.o,.int .i64 o.n,.slice D dl dc]] w (DoPost G (sval gT cT gB cB gH cH a) w (⟨0,(p : Int),(j : Int),[]⟩,(a.putT p true).putH kc j (p : Int))) := by
 have HB := hid (bx_new (dc := dc) hm hlt hd)
 have HGD := hid hg
 obtain ⟨P,hP⟩ : ∃ P,P = DoPost G (sval gT cT gB cB gH cH a) w (⟨0,(p : Int),(j : Int),[]⟩,(a.putT p true).putH kc j (p : Int)) := ⟨_,rfl⟩
 have HP := hid hP
 rw [← hP]
 have HRM0 := hid (show kc < a.N by omega)
 have HGA := hid (gap_le a)
 have HYhk := hid hk
 clear hk
 have HYhf := hid hf
 clear hf
 have HYhgap := hid hgap
 clear hgap
 clear hm hg hlt hd hP
 go_enter Tryz.func53,Tryz.ntmps53
 go_upto_region 1 with (fail)
 generalize ((w.alloc (.cells #[.slice (some ⟨gT,0,none⟩) a.n cT,.slice (some ⟨gB,0,none⟩) a.n cB,.slice (some ⟨gH,0,none⟩) a.N cH] 50)).alloc (.cells #[.int .i64 o.k,.int .i64 o.p,.int .i64 o.h,.int .i64 o.o,.int .i64 o.n,.slice D dl dc] 30)).alloc (.cells #[.int .i64 0,.int .i64 0,.int .i64 0,.slice none 0 0] 27) = w0 at HB ⊢
 generalize w.heap.size = s at HB ⊢
 have s0 := HB.out.s0
 have s1 := HB.out.s1
 have s2 := HB.out.s2
 have o0 := HB.out.o0
 have o1 := HB.out.o1
 have o2 := HB.out.o2
 have o3 := HB.out.o3
 have o4 := HB.out.o4
 have o5 := HB.out.o5
 have hgap := HYhgap.out
 have hf := HYhf.out
 have hk := HYhk.out
 rw [hk] at o0
 clear hk HYhk
 have HRM := hid (room_any (HB.out.sat HGD.out) HRM0.out)
 rw [show (!decide (a.free kc = -1)) = true by rw [hf];simp] at HRM
 clear hf hgap
 have HPN := hid hpn
 clear hpn
 go_wp2_with (go_at_call 112;(with_reducible refine HRM.out.mono ?_);rintro e wr ⟨rfl,hgr⟩;have HGR := hid hgr;have s0 := hgr.cellN s0 id;have s1 := hgr.cellN s1 id;have s2 := hgr.cellN s2 id;have o0 := hgr.cellN o0 id;clear hgr)
 have HTB := hid (HB.out.sm.tb.kept HGR.out id)
 have hnz : (a.n : Int) ≤ 48 := by have := HGD.out.n;omega
 obtain ⟨wq,rfl⟩ : ∃ wq,wq = wr := ⟨_,rfl⟩
 go_loopg [7] a.n (fun gx i wr => ∃ t : Nat,t + gx = a.n ∧ i = .int .i64 (t : Int) ∧ wq = wr ∧ t ≤ a.gap)
 case atStart => exact ⟨0,by omega,rfl,rfl,Nat.zero_le _⟩
 case round =>
  obtain ⟨t,hg,rfl,rfl,hle⟩ := hrel
  have HG := hid hg
  have HLE := hid hle
  clear hg hle
  by_cases ht : t < a.gap
  ·have htn : t < a.n := Nat.lt_of_lt_of_le ht HGA.out
   have htz : (t : Int) < (a.n : Int) := by omega
   have hc := HTB.out.cell (i := t) (by omega)
   unfold tcell at hc
   rw [gap_there ht] at hc
   have HT := hid ht
   clear ht htn
   go_wp2
   go_roundg (gk - 1)
   case measure => have := HG.out;have := HT.out;have := HGA.out;omega
   case rel => exact ⟨t + 1,by have := HG.out;have := HT.out;have := HGA.out;omega,by go_num,rfl,by have := HT.out;omega⟩
  ·have he : t = p := by have := HLE.out;have := HYhgap.out;omega
   subst he
   have hc := HTB.out.cell (i := t) (by have := HPN.out;omega)
   unfold tcell at hc
   rw [gap_free HYhgap.out HPN.out] at hc
   have htz : (t : Int) < (a.n : Int) := by have := HPN.out;omega
   have hne : ((t : Int) == (a.n : Int)) = false := by rw [beq_eq_false_iff_ne];omega
   have HGN := hid (HGD.out.putT t true (.inl rfl))
   clear ht
   go_upto_region 22 with (fail)
   clear hc
   have HNE := hid (And.intro (HB.out.lt _ HB.out.sm.inG.1) (HB.out.lt _ HB.out.sm.inG.2.1))
   have HG2 : Hid (Grow w0 wq.drew) := HGR.out.drew
   have q0 := up_cell (F := fun k => k = gT ∨ k = gB) (w := wq.drew) (p := ⟨s,0,none⟩) s0 (fun e => by have e : s = gT ∨ s = gB := e;have h1 := HNE.out;omega)
   have q1 := up_cell (F := fun k => k = gT ∨ k = gB) (w := wq.drew) (p := ⟨s,1,none⟩) s1 (fun e => by have e : s = gT ∨ s = gB := e;have h1 := HNE.out;omega)
   refine wp_region_stages (Kept (fun k => k = gT ∨ k = gB)) (kept_refl _) (kept_trans _) [([0,1,2,3,4,5],6),([7],8),([9],10)] [] (by kernel_rfl) (by kernel_rfl) ?_
   simp only [selSt,sel,ZmC,ZmN,ZgS,ZgZ]
   refine st_cons fun K1 hK1 => ?_
   repeat (go_big_quiet_step (fail))
   refine wpQuiet_nil ?_
   clear q0 q1
   go_wp2_with (go_at_call 109;(with_reducible refine (zeros_any _).mono ?_);rintro e wz ⟨rfl,hgz⟩;have HGZ := hid hgz;clear hgz)
   refine norm_up (hK1 _ _ HGZ.out.kept ?_)
   clear hK1 K1
   have HG3 : Hid (Grow w0 wz) := HG2.out.trans HGZ.out
   have HS3 := hid (HB.out.sm.kept HG3.out fun _ _ x => x)
   have hr1 := HS3.out.tb.cell (i := t) (by have := HPN.out;omega)
   have hf1 := HS3.out.tb.frozen t
   unfold tcell at hr1
   have HS4 : Hid (SM (wz.setCell ⟨gT,t,none⟩ (.bool true)) G gT cT gB cB gH cH q cp ⟨a.n,a.N,upd a.T t true,a.B,a.H⟩) := HS3.out.flag t true
   have HK4 : Hid (Kept (fun k => k = gT ∨ k = gB) wz (wz.setCell ⟨gT,t,none⟩ (.bool true))) := (kept_set wz gT t (.bool true)).mono fun k _ e => .inl e
   refine st_cons fun K2 hK2 => ?_
   repeat (go_big_quiet_step (fail))
   refine wpQuiet_nil ?_
   generalize a.T t = told at hr1
   go_wp2
   clear hr1 hf1
   refine norm_up (hK2 _ _ HK4.out ?_)
   clear hK2 K2
   generalize wz.setCell ⟨gT,t,none⟩ (.bool true) = wy at HS4 HK4 ⊢
   have hr2 := HS4.out.bb.cell (i := t) (by have := HPN.out;show t < a.n * 1;omega)
   have hf2 := HS4.out.bb.frozen t
   unfold bcell at hr2
   have HS5 : Hid (SM (wy.setCell ⟨gB,t,none⟩ (.string (strOfNums zeros))) G gT cT gB cB gH cH q cp (a.putT t true)) := HS4.out.putB t zeros
   have HK5 : Hid (Kept (fun k => k = gT ∨ k = gB) wy (wy.setCell ⟨gB,t,none⟩ (.string (strOfNums zeros)))) := (kept_set wy gB t (.string (strOfNums zeros))).mono fun k _ e => .inr e
   refine st_cons fun K3 hK3 => ?_
   repeat (go_big_quiet_step (fail))
   refine wpQuiet_nil ?_
   generalize strOfNums ((⟨a.n,a.N,upd a.T t true,a.B,a.H⟩ : Md).B t) = sold at hr2
   go_wp2
   clear hr2 hf2
   refine norm_up (hK3 _ _ HK5.out (st_nil fun K4 hK4 => wpQuiet_nil (hK4 _ ?_)))
   clear hK3 K3 hK4 K4
   have HK6 : Hid (Kept G w0 (wy.setCell ⟨gB,t,none⟩ (.string (strOfNums zeros)))) := HG3.out.kept.trans ((HK4.out.trans HK5.out).mono fun k _ e => by
    rcases e with e | e
    ·rw [e];exact HB.out.sm.inG.1
    ·rw [e];exact HB.out.sm.inG.2.1)
   generalize wy.setCell ⟨gB,t,none⟩ (.string (strOfNums zeros)) = w5 at HS5 HK6 ⊢
   clear HS4 HK4 HK5
   have HGV := hid (give_any (v := sval gT cT gB cB gH cH a) (a := a.putT t true) ⟨HGN.out,gT,cT,gB,cB,gH,cH,q,cp,rfl,HS5.out⟩ (k := kc) (j := j) HRM0.out HYhf.out HPN.out (upd_same a.T t true))
   have z0 := HB.out.s0K HK6.out
   have z1 := HB.out.s1K HK6.out
   have z2 := HB.out.s2K HK6.out
   go_wp2_with (go_at_call 113;(with_reducible refine HGV.out.mono ?_);rintro e wg ⟨rfl,hsg,hkg⟩;have HSG := hid hsg;have HKG := hid (HK6.out.trans hkg);obtain ⟨t0,t1,t2,t3,tf⟩ := HB.out.resK (HK6.out.trans hkg);clear hsg hkg)
   rw [HP.out]
   have hfin := HB.out.finS HSG.out rfl rfl HKG.out 0 (t : Int) (j : Int)
   exact ret_res rfl rfl hfin.1 rfl hfin.2
end
end MdG
namespace MdH
open Go.ChangeShapes Go.WideShapes Go.ChangeAt Go.RowKit
open Mem Blk Cells Orow GrC MdM MdC MdR MdD MdE MdF MdG PmI PmU PmV PmW Stages
section
variable {w : World} {G : Nat → Prop} {v ov : Value} {a : Md} {o : MdOp}
theorem rdo_any (h : SAt w G v a) (hlt : ∀ k,G k → k < w.heap.size) (c : Int) (ho : OpV w w.heap.size ov o) : Calls Tryz.prog 53 #[v,.int .i64 c,ov] w (DoPost G v w (a.run c o)) := by
 have hg := h.good
 obtain ⟨gT,cT,gB,cB,gH,cH,q,cp,rfl,hm⟩ := h.mem
 obtain ⟨D,dl,dc,rfl,hd,hby,hl,hmx⟩ := ho
 have hdl : o.d.length = dl := hd.len
 by_cases c0 : c < 0
 ·rw [run_out (by omega)]
  exact do_c0 hm hg hlt hd c c0
 by_cases c1 : (a.N : Int) ≤ c
 ·rw [run_out (by omega)]
  exact do_c1 hm hg hlt hd c (by omega) c1
 obtain ⟨kc,rfl⟩ := Int.eq_ofNat_of_zero_le (show 0 ≤ c by omega)
 have hkc : (kc : Int) < (a.N : Int) := by omega
 have hkn : kc < a.N := by omega
 by_cases k0 : o.k < 1
 ·rw [run_none (by omega) (by omega) (by omega) (by omega) (by omega) (by omega) (by omega) (by omega)]
  exact do_k0 hm hg hlt hd kc hkc k0
 by_cases k9 : 8 < o.k
 ·rw [run_none (by omega) (by omega) (by omega) (by omega) (by omega) (by omega) (by omega) (by omega)]
  exact do_k9 hm hg hlt hd kc hkc k9
 have page : ∀ f : Nat → Re × Md,(o.k = 2 ∨ o.k = 6 ∨ o.k = 8) →
   (∀ p : Nat,o.p = (p : Int) → (p : Int) < (a.n : Int) → a.T p = true → Calls Tryz.prog 53 #[sval gT cT gB cB gH cH a,.int .i64 (kc : Int),.agg #[.int .i64 o.k,.int .i64 o.p,.int .i64 o.h,.int .i64 o.o,.int .i64 o.n,.slice D dl dc]] w (DoPost G (sval gT cT gB cB gH cH a) w (f p))) →
   Calls Tryz.prog 53 #[sval gT cT gB cB gH cH a,.int .i64 (kc : Int),.agg #[.int .i64 o.k,.int .i64 o.p,.int .i64 o.h,.int .i64 o.o,.int .i64 o.n,.slice D dl dc]] w (DoPost G (sval gT cT gB cB gH cH a) w (a.onPage o.p f)) := fun f hk hgo => by
  by_cases p0 : o.p < 0
  ·have e : a.onPage o.p f = (err 1,a) := if_pos (by omega)
   rw [e]
   exact do_p0 hm hg hlt hd kc hkc hk p0
  ·by_cases p1 : (a.n : Int) ≤ o.p
   ·have e : a.onPage o.p f = (err 1,a) := if_pos (by omega)
    rw [e]
    exact do_p1 hm hg hlt hd kc hkc hk (by omega) p1
   ·obtain ⟨p,hp⟩ := Int.eq_ofNat_of_zero_le (show 0 ≤ o.p by omega)
    cases hT : a.T p with
    | false =>
     have e : a.onPage o.p f = (err 2,a) := by
      unfold Md.onPage
      rw [hp,if_neg (by omega),Int.toNat_natCast,if_pos hT]
     rw [e]
     exact do_p2 hm hg hlt hd kc hkc hk p hp (by omega) hT
    | true =>
     have e : a.onPage o.p f = f p := by
      rw [hp]
      exact onPage_good (by omega) hT
     rw [e]
     exact hgo p hp (by omega) hT
 have hand : ∀ f : Nat → Re × Md,(o.k = 3 ∨ o.k = 4 ∨ o.k = 5) →
   (∀ p j : Nat,p < a.n → a.T p = true → a.held (kc : Int) o.h = (p : Int) → o.h = (j : Int) → j < 6 → Calls Tryz.prog 53 #[sval gT cT gB cB gH cH a,.int .i64 (kc : Int),.agg #[.int .i64 o.k,.int .i64 o.p,.int .i64 o.h,.int .i64 o.o,.int .i64 o.n,.slice D dl dc]] w (DoPost G (sval gT cT gB cB gH cH a) w (f p))) →
   Calls Tryz.prog 53 #[sval gT cT gB cB gH cH a,.int .i64 (kc : Int),.agg #[.int .i64 o.k,.int .i64 o.p,.int .i64 o.h,.int .i64 o.o,.int .i64 o.n,.slice D dl dc]] w (DoPost G (sval gT cT gB cB gH cH a) w (a.onHand (kc : Int) o.h f)) := fun f hk hgo => by
  rcases held_cases hg (kc : Int) o.h with hh | ⟨k',j,p,_,e2,_,hj,hh,_,hp,hT⟩
  ·rw [onHand_bad hh]
   exact do_h0 hm hg hlt hd kc hkc hk hh
  ·rw [onHand_good hh]
   exact hgo p j hp hT hh e2 hj
 have hk : o.k = 1 ∨ o.k = 2 ∨ o.k = 3 ∨ o.k = 4 ∨ o.k = 5 ∨ o.k = 6 ∨ o.k = 7 ∨ o.k = 8 := by omega
 rcases hk with hk | hk | hk | hk | hk | hk | hk | hk
 ·rw [run_1 hkn hk]
  rcases free_cases a kc with hf | ⟨j,hj,hf⟩
  ·have e : a.new kc = (err 4,a) := if_pos hf
   rw [e]
   exact do_1f hm hg hlt hd kc hkc hk hf
  ·by_cases hga : a.gap = a.n
   ·have e : a.new kc = (err 3,a) := by unfold Md.new;rw [if_neg (by omega),if_pos hga]
    rw [e]
    exact do_1g hm hg hlt hd kc hkc hk j hf hga
   ·have e : a.new kc = (⟨0,(a.gap : Int),(j : Int),[]⟩,(a.putT a.gap true).putH kc j (a.gap : Int)) := by unfold Md.new;rw [if_neg (by omega),if_neg hga,hf,Int.toNat_natCast]
    rw [e]
    exact do_1 hm hg hlt hd kc hkc hk j hf a.gap rfl (Nat.lt_of_le_of_ne (gap_le a) hga)
 ·rw [run_2 hkn hk]
  refine page _ (.inl hk) fun p hp hpn hT => ?_
  rcases free_cases a kc with hf | ⟨j,hj,hf⟩
  ·have e : a.fetch kc p = (err 4,a) := if_pos hf
   rw [e]
   exact do_2f hm hg hlt hd kc hkc hk p hp hpn hT hf
  ·have e : a.fetch kc p = (⟨0,(p : Int),(j : Int),[]⟩,a.putH kc j (p : Int)) := by unfold Md.fetch;rw [if_neg (by omega),hf,Int.toNat_natCast]
   rw [e]
   exact do_2 hm hg hlt hd kc hkc hk p hp hpn hT j hf
 ·rw [run_3 hkn hk]
  refine hand _ (.inl hk) fun p j hpn hT hh _ _ => ?_
  by_cases hf : fits o.o o.n
  ·rw [read_good hf]
   obtain ⟨u,hu⟩ := Int.eq_ofNat_of_zero_le hf.1
   obtain ⟨m,hmm⟩ := Int.eq_ofNat_of_zero_le hf.2.1
   have := hf.2.2
   have := do_3 (dc := dc) hm hg hlt hd kc hkc hk p hpn hh u m hu hmm (by omega)
   rw [hu,hmm,Int.toNat_natCast,Int.toNat_natCast]
   rw [hu,hmm] at this
   exact this
  ·rw [read_bad hf]
   by_cases h1 : o.o < 0
   ·exact do_3a hm hg hlt hd kc hkc hk p hpn hh h1
   by_cases h2 : o.n < 0
   ·exact do_3b hm hg hlt hd kc hkc hk p hpn hh (by omega) h2
   by_cases h3 : 16 < o.o
   ·exact do_3c hm hg hlt hd kc hkc hk p hpn hh (by omega) (by omega) h3
   exact do_3d hm hg hlt hd kc hkc hk p hpn hh (by omega) (by omega) (by omega) (by unfold fits at hf;omega)
 ·rw [run_4 hkn hk]
  refine hand _ (.inr (.inl hk)) fun p j hpn hT hh _ _ => ?_
  by_cases hf : fits o.o (o.d.length : Int)
  ·rw [write_good hf]
   obtain ⟨u,hu⟩ := Int.eq_ofNat_of_zero_le hf.1
   have := hf.2.2
   have := do_4 (dc := dc) hm hg hlt hd kc hkc hk p hpn hh hT u hu (by omega) hby
   rw [hu,Int.toNat_natCast]
   rw [hu] at this
   exact this
  ·rw [write_bad hf]
   by_cases h1 : o.o < 0
   ·exact do_4a hm hg hlt hd kc hkc hk p hpn hh h1
   by_cases h2 : 16 < o.o
   ·exact do_4b hm hg hlt hd kc hkc hk p hpn hh (by omega) h2
   exact do_4c hm hg hlt hd kc hkc hk p hpn hh (by omega) (by omega) (by unfold fits at hf;omega)
 ·rw [run_5 hkn hk]
  refine hand _ (.inr (.inr hk)) fun p j hpn hT hh hj hj6 => ?_
  have := do_5 (dc := dc) hm hg hlt hd kc hkc hk p hpn hh j hj (by omega)
  rw [Int.toNat_natCast,show o.h.toNat = j by omega]
  exact this
 ·rw [run_6 hkn hk]
  exact page _ (.inr (.inl hk)) fun p hp hpn hT => do_6 hm hg hlt hd kc hkc hk p hp hpn hT
 ·rw [run_7 hkn hk]
  exact do_7 hm hg hlt hd kc hkc hk
 ·rw [run_8 hkn hk]
  refine page _ (.inr (.inr hk)) fun p hp hpn hT => ?_
  by_cases hpi : a.pins (p : Int) = 0
  ·have e : a.del p = (err 0,a.putT p false) := if_neg (by omega)
   rw [e]
   exact do_8 hm hg hlt hd kc hkc hk p hp hpn hT hpi
  ·have e : a.del p = (err 7,a) := if_pos (by omega)
   rw [e]
   exact do_8p hm hg hlt hd kc hkc hk p hp hpn hT (by omega)
end
end MdH
namespace RdE
open Go.ChangeShapes Go.WideShapes Go.ChangeAt Go.RowKit
open Mem Blk Cells Orow RfP RdS RdA RdB RdC RdD Stages
open MdM (Md MdOp Re Bytes err)
open MdC (SAt ReV)
open MdD (OpV DoPost)
open ArM (Ar Fr)
open RgM (Bnd)
open RgS (sl_off)
open RgB (set_row)
open RfM (Pl)
open RfI (InvE Inv)
def opL (o : MdOp) (D : Option Addr) (dl dc : Nat) : List Value := [.int .i64 o.k,.int .i64 o.p,.int .i64 o.h,.int .i64 o.o,.int .i64 o.n,.slice D dl dc]
def reL (r : Re) (A : Option Addr) (n cap : Nat) : List Value := [.int .i64 r.c,.int .i64 r.p,.int .i64 r.h,.slice A n cap]
theorem sl_off' {w w1 w' : World} {F : Nat → Prop} {m : Nat} {P : Option Addr} {n : Nat} {zs : List Int} (h : Sl w m .u8 P n zs) (hg : Grow w w1) (hk : Kept F w1 w') (ho : 0 < n → ∀ x,P = some x → ¬ F x.block) : Sl w' m .u8 P n zs := by
 have h1 : Sl w1 m .u8 P n zs := sl_off h hg fun _ _ e => e
 by_cases h0 : 0 < n
 ·exact sl_off h1 hk fun x ex => ho h0 x ex
 ·exact ⟨h1.1,fun e => absurd e h0⟩
def DPost (ρ : Rn) (w : World) (col : Nat → Nat) (y : Re × Pl) (e : Ending) (w' : World) : Prop := ∃ rv,e = .returned rv ∧ ReV w' w.heap.size rv y.1 ∧ ∃ col',WentD w col w' col' ∧ RdP w' col' ρ y.2
structure DBox (wx : World) (cx : Nat → Nat) (m b7 b8 : Nat) (o : MdOp) (D : Option Addr) (dl dc : Nat) (x y z : Value) (Y : Md) (r : Re) (A : Option Addr) (n cap : Nat) : Prop where
 ob : Blk wx m 30 (opL o D dl dc) ∧ cx m = 0
 rb : Blk wx (m + 1) 27 [.int .i64 0,.int .i64 0,.int .i64 0,.slice none 0 0] ∧ cx (m + 1) = 0
 yb : Blk wx b7 50 [x,y,z] ∧ cx b7 = 0 ∧ m + 1 < b7
 sb : Blk wx b8 27 (reL r A n cap) ∧ cx b8 = 0 ∧ m + 1 < b8
 ys : SAt wx (fun k => k < wx.heap.size ∧ cx k = 0 ∧ m + 1 < k) (.agg #[x,y,z]) Y
 rd : Sl wx wx.heap.size .u8 A n r.d ∧ (0 < n → ∀ a,A = some a → m + 1 < a.block ∧ cx a.block = 0)
section
variable {w wx wy : World} {col cx cy : Nat → Nat} {ρ : Rn} {p : Pl} {k q m b7 b8 : Nat} {o : MdOp} {D A : Option Addr} {dl dc n cap : Nat} {x y z : Value} {Y : Md} {r : Re} {c : Int}
theorem DBox.went (h : DBox wx cx m b7 b8 o D dl dc x y z Y r A n cap) (hw : WentD wx cx wy cy) : DBox wy cy m b7 b8 o D dl dc x y z Y r A n cap := by
 have hn : ∀ i,i < wx.heap.size → cx i = 0 → ¬ MineD wx cx i := fun i _ e h => by have := h.2.1;omega
 refine ⟨⟨h.ob.1.kept hw.kept (hn _ h.ob.1.lt h.ob.2),(hw.old _ h.ob.1.lt).trans h.ob.2⟩,⟨h.rb.1.kept hw.kept (hn _ h.rb.1.lt h.rb.2),(hw.old _ h.rb.1.lt).trans h.rb.2⟩,⟨h.yb.1.kept hw.kept (hn _ h.yb.1.lt h.yb.2.1),(hw.old _ h.yb.1.lt).trans h.yb.2.1,h.yb.2.2⟩,⟨h.sb.1.kept hw.kept (hn _ h.sb.1.lt h.sb.2.1),(hw.old _ h.sb.1.lt).trans h.sb.2.1,h.sb.2.2⟩,?_,?_⟩
 ·exact (SAt.kept h.ys hw.kept fun i hi hm => hn i hi.1 hi.2.1 hm).mono fun i h1 h2 => ⟨h1,(hw.old i h2.1).trans h2.2.1,h2.2.2⟩
 ·refine ⟨?_,fun hn0 a ea => ⟨(h.rd.2 hn0 a ea).1,(hw.old _ (PmT.sl_lt h.rd.1 hn0 ea)).trans (h.rd.2 hn0 a ea).2⟩⟩
  by_cases h0 : 0 < n
  ·exact (sl_off h.rd.1 hw.kept fun a ea hm => hn _ (PmT.sl_lt h.rd.1 h0 ea) (h.rd.2 h0 a ea).2 hm).more hw.kept.size
  ·exact ⟨h.rd.1.1,fun h1 => absurd h1 h0⟩
theorem head_box {w0 w1 w2 w3 w4 : World} (hg0 : Grow w w0) (hm : m = w.heap.size) (hz : m + 2 ≤ w0.heap.size) (h1 : Blk w0 m 30 (opL o D dl dc)) (h2 : Blk w0 (m + 1) 27 [.int .i64 0,.int .i64 0,.int .i64 0,.slice none 0 0]) (hg1 : Grow w0 w1) (hg2 : Grow w1 w2)
  (hyb : Blk w2 b7 50 [x,y,z]) (h7 : b7 = w1.heap.size) (hs : SAt w3 (fun k => w0.heap.size ≤ k ∧ k < w1.heap.size) (.agg #[x,y,z]) Y) (hk3 : Kept (fun k => w0.heap.size ≤ k ∧ k < w1.heap.size) w2 w3) (hrd : Sl w3 w3.heap.size .u8 A n r.d) (hbs : 0 < n → ∀ a,A = some a → w2.heap.size ≤ a.block)
  (hg4 : Grow w3 w4) (hsb : Blk w4 b8 27 (reL r A n cap)) (h8 : b8 = w3.heap.size) (hx : RdP w col ρ p) :
  WentD w col w4 (paint w.heap.size 0 col) ∧ RdP w4 (paint w.heap.size 0 col) ρ p ∧ DBox w4 (paint w.heap.size 0 col) m b7 b8 o D dl dc x y z Y r A n cap ∧ Grow w w4 := by
 have z1 := hg0.size
 have z2 := hg1.size
 have z3 := hg2.size
 have z4 := hk3.size
 have z5 := hg4.size
 have z6 := hyb.lt
 have hk24 : Kept (fun k => w0.heap.size ≤ k ∧ k < w1.heap.size) w2 w4 := hk3.trans (Grow.kept hg4)
 have hgr : Grow w w4 := ((hg0.trans hg1).trans hg2).then hk24 fun i hi e => by omega
 have h02 : Grow w0 w2 := hg1.trans hg2
 refine ⟨WentD.grow hgr,hx.grow hgr,⟨⟨(h1.grow h02).kept hk24 (fun e => by omega),paint_new (by omega)⟩,⟨(h2.grow h02).kept hk24 (fun e => by omega),paint_new (by omega)⟩,⟨hyb.kept hk24 (fun e => by omega),paint_new (by omega),by omega⟩,⟨hsb,paint_new (by omega),by omega⟩,?_,?_⟩,hgr⟩
 ·exact (SAt.grow hs hg4).mono fun i h1 h2 => ⟨h1,paint_new (by omega),by omega⟩
 ·refine ⟨(Sl.kept hrd hg4 (Nat.le_refl _) fun _ _ e => e).more hg4.size,fun h0 a ea => ?_⟩
  have := hbs h0 a ea
  exact ⟨by omega,paint_new (by omega)⟩
theorem fin_d {rr : Re} {p' : Pl} {B : Option Addr} {nb cb : Nat} {cs : List Value} (hm : m = w.heap.size) (hW : WentD w col wx cx) (h' : RdP wx cx ρ p') (hb : Blk wx (m + 1) 27 cs) (hc : cx (m + 1) = 0) (hs : Sl wx wx.heap.size .u8 B nb rr.d) (hn : 0 < nb → ∀ a,B = some a → m + 1 < a.block) :
  Blk (wx.setRow (m + 1) #[.int .i64 rr.c,.int .i64 rr.p,.int .i64 rr.h,.slice B nb cb]) (m + 1) 27 [.int .i64 rr.c,.int .i64 rr.p,.int .i64 rr.h,.slice B nb cb] ∧
  DPost ρ w col (rr,p') (.returned (.agg #[.int .i64 rr.c,.int .i64 rr.p,.int .i64 rr.h,.slice B nb cb])) (wx.setRow (m + 1) #[.int .i64 rr.c,.int .i64 rr.p,.int .i64 rr.h,.slice B nb cb]) := by
 obtain ⟨h1,hk⟩ := set_row hb #[.int .i64 rr.c,.int .i64 rr.p,.int .i64 rr.h,.slice B nb cb]
 refine ⟨h1,_,rfl,⟨B,nb,cb,rfl,?_,fun h0 a ea => by have := hn h0 a ea;omega⟩,paint wx.heap.size 0 cx,⟨fun i hi => (paint_old (Nat.lt_of_lt_of_le hi hW.kept.size)).trans (hW.old i hi),hW.kept.then hk fun i hi e => by omega⟩,h'.keep hk (fun i _ e => by rw [e,hc];omega) 0⟩
 by_cases h0 : 0 < nb
 ·exact (sl_off hs hk fun a ea e => by have := hn h0 a ea;omega).more hk.size
 ·exact ⟨hs.1,fun h1 => absurd h1 h0⟩
theorem kinds (X : Md) (c : Int) (o : MdOp) (h : (X.run c o).1.c = 0) : o.k = 1 ∨ o.k = 2 ∨ o.k = 3 ∨ o.k = 4 ∨ o.k = 5 ∨ o.k = 6 ∨ o.k = 7 ∨ o.k = 8 := by
 unfold Md.run at h
 by_cases h0 : ¬ (0 ≤ c ∧ c < (X.N : Int)) ∨ o.k < 1 ∨ 8 < o.k
 ·rw [if_pos h0] at h
  exact absurd h (by intro e;cases e)
 ·omega
theorem new_q (X : Md) (c : Int) (o : MdOp) (h : (X.run c o).1.c = 0) (ho : o.k = 1) : ∃ q : Nat,(X.run c o).1.p = (q : Int) := by
 unfold Md.run at h ⊢
 by_cases h0 : ¬ (0 ≤ c ∧ c < (X.N : Int)) ∨ o.k < 1 ∨ 8 < o.k
 ·rw [if_pos h0] at h
  exact absurd h (by intro e;cases e)
 ·rw [if_neg h0,if_pos ho] at h ⊢
  unfold Md.new at h ⊢
  by_cases h1 : X.free c.toNat = -1
  ·rw [if_pos h1] at h;exact absurd h (by intro e;cases e)
  ·rw [if_neg h1] at h ⊢
   by_cases h2 : X.gap = X.n
   ·rw [if_pos h2] at h;exact absurd h (by intro e;cases e)
   ·rw [if_neg h2];exact ⟨_,rfl⟩
theorem fetch_q (X : Md) (c : Int) (o : MdOp) (h : (X.run c o).1.c = 0) (ho : o.k = 2) : ∃ q : Nat,o.p = (q : Int) ∧ q < X.n ∧ X.T q = true := by
 unfold Md.run at h
 by_cases h0 : ¬ (0 ≤ c ∧ c < (X.N : Int)) ∨ o.k < 1 ∨ 8 < o.k
 ·rw [if_pos h0] at h
  exact absurd h (by intro e;cases e)
 ·rw [if_neg h0,if_neg (by omega),if_pos ho] at h
  rcases RgG.page_cases X o.p (X.fetch c.toNat) with ⟨h1,h2⟩ | ⟨q,h1,h2,h3,_⟩
  ·rw [h2] at h
   exact absurd h h1
  ·exact ⟨q,h1,h2,h3⟩
theorem write_len (X : Md) (c : Int) (o : MdOp) (h : (X.run c o).1.c = 0) (ho : o.k = 4) : o.d.length ≤ 16 := by
 unfold Md.run at h
 by_cases h0 : ¬ (0 ≤ c ∧ c < (X.N : Int)) ∨ o.k < 1 ∨ 8 < o.k
 ·rw [if_pos h0] at h
  exact absurd h (by intro e;cases e)
 ·rw [if_neg h0,if_neg (by omega),if_neg (by omega),if_neg (by omega),if_pos ho] at h
  unfold Md.onHand Md.write at h
  split at h
  ·exact absurd h (by intro e;cases e)
  ·split at h
   ·exact absurd h (by intro e;cases e)
   ·omega
theorem flush_stop (p : Pl) {j : Nat} (h : (p.flushTo j).1 ≠ 0) : ∀ d,p.flushTo (j + d) = p.flushTo j
 | 0 => rfl
 | d + 1 => by
  show p.flushTo ((j + d) + 1) = _
  have ih := flush_stop p h d
  rw [Pl.flushTo,ih,if_neg h]
theorem flush_next (p : Pl) {j : Nat} (h : (p.flushTo j).1 = 0) : p.flushTo (j + 1) = (p.flushTo j).2.flush (j : Int) := by
 rw [Pl.flushTo,if_pos h]
theorem sync_any (x : RdP w col ρ p) (hb : Bnd p.D k) (hk : k ≤ 1000000) : Calls Tryz.prog 63 #[.pointer (some ⟨ρ.r.m,0,none⟩)] w (PPost ρ w col (.int .i64 p.sync.1) p.sync.2) :=
 (RefY.rsync_any x.t.d.1 (by have := hb.1;omega) (by have := hb.2;omega)).mono fun e w' ⟨he,hd,hk⟩ => ⟨he,x.setD hd hk⟩
theorem front_p (x : RdP w col ρ p) (i : LOk p.L) (f : Int) : Calls Tryz.prog 58 #[.pointer (some ⟨ρ.m,0,none⟩),.int .i64 f] w (PPost ρ w col (.tuple #[]) (p.front f)) := front_any x i f
theorem drop_p (x : RdP w col ρ p) (i : LOk p.L) (f : Nat) : Calls Tryz.prog 64 #[.pointer (some ⟨ρ.m,0,none⟩),.int .i64 (f : Int)] w (PPost ρ w col (.tuple #[]) (p.drop f)) := drop_any x i (f : Int)
theorem three_recol {a l : Nat} {rf : RefD.Rf} {D0 : Dev.Dv} {A0 : Ar} {L0 : List Nat} (h : Three w col rf a l D0 A0 L0) (h1 : ∀ k,k < w.heap.size → 3 ≤ col k → cx k = col k) (h2 : ∀ k,k < w.heap.size → 3 ≤ cx k → cx k = col k) : Three w cx rf a l D0 A0 L0 := by
 refine ⟨⟨h.d.1,fun k hk => (h1 k (h.d.1.lt k hk) (by rw [h.d.2 k hk];omega)).trans (h.d.2 k hk)⟩,rat_mono h.a fun k hk h3 => ⟨hk,(h1 k hk (by rw [h3.2];omega)).trans h3.2⟩,ListR.RefAt.widen h.l fun k hk h3 => ⟨hk,fun e => h3.2 ((h1 k hk (by omega)).trans e)⟩⟩
def cFin (cx : Nat → Nat) (m : Nat) (k : Nat) : Nat := if cx k = 0 ∧ m + 1 < k then 2 else cx k
theorem put_state (hm : m = w.heap.size) (hW : WentD w col wx cx) (h : RdP wx cx ρ p) (hB : DBox wx cx m b7 b8 o D dl dc x y z Y r A n cap) :
  (∀ i,wx.frozen? ⟨ρ.m,i,none⟩ = false) ∧ (∃ a b c,wx.cell? ⟨ρ.m,0,none⟩ = some a ∧ wx.cell? ⟨ρ.m,1,none⟩ = some b ∧ wx.cell? ⟨ρ.m,2,none⟩ = some c) ∧
  WentD w col (((wx.setCell ⟨ρ.m,0,none⟩ x).setCell ⟨ρ.m,1,none⟩ y).setCell ⟨ρ.m,2,none⟩ z) (cFin cx m) ∧
  RdP (((wx.setCell ⟨ρ.m,0,none⟩ x).setCell ⟨ρ.m,1,none⟩ y).setCell ⟨ρ.m,2,none⟩ z) (cFin cx m) ρ ⟨Y,p.D,p.A,p.L⟩ ∧
  Blk (((wx.setCell ⟨ρ.m,0,none⟩ x).setCell ⟨ρ.m,1,none⟩ y).setCell ⟨ρ.m,2,none⟩ z) (m + 1) 27 [.int .i64 0,.int .i64 0,.int .i64 0,.slice none 0 0] ∧ cFin cx m (m + 1) = 0 ∧
  Blk (((wx.setCell ⟨ρ.m,0,none⟩ x).setCell ⟨ρ.m,1,none⟩ y).setCell ⟨ρ.m,2,none⟩ z) b8 27 (reL r A n cap) ∧
  Sl (((wx.setCell ⟨ρ.m,0,none⟩ x).setCell ⟨ρ.m,1,none⟩ y).setCell ⟨ρ.m,2,none⟩ z) (((wx.setCell ⟨ρ.m,0,none⟩ x).setCell ⟨ρ.m,1,none⟩ y).setCell ⟨ρ.m,2,none⟩ z).heap.size .u8 A n r.d := by
 obtain ⟨x0,y0,z0,hown,hxat⟩ := h.own
 have c0 := hown.cell 0
 have c1 := hown.cell 1
 have c2 := hown.cell 2
 simp only [dcells,ZeZ,ZeS] at c0 c1 c2
 have hb := ((hown.set 0 x).set 1 y).set 2 z
 have hk : Kept (fun k => k = ρ.m) wx (((wx.setCell ⟨ρ.m,0,none⟩ x).setCell ⟨ρ.m,1,none⟩ y).setCell ⟨ρ.m,2,none⟩ z) := ((Cells.kept_set wx ρ.m 0 x).trans (Cells.kept_set _ ρ.m 1 y)).trans (Cells.kept_set _ ρ.m 2 z)
 have hc := h.c
 have hsz : (((wx.setCell ⟨ρ.m,0,none⟩ x).setCell ⟨ρ.m,1,none⟩ y).setCell ⟨ρ.m,2,none⟩ z).heap.size = wx.heap.size := by simp
 refine ⟨fun i => hown.frozen i,⟨_,_,_,c0,c1,c2⟩,?_⟩
 generalize ((wx.setCell ⟨ρ.m,0,none⟩ x).setCell ⟨ρ.m,1,none⟩ y).setCell ⟨ρ.m,2,none⟩ z = wy at hb hk hsz ⊢
 have hlt := hown.lt
 have hs : wx.heap.size ≤ wy.heap.size := hk.size
 have hold : ∀ k,k < w.heap.size → cFin cx m k = col k := fun k hk => by
  unfold cFin
  rw [if_neg (by omega)]
  exact hW.old k hk
 have hys := SAt.kept hB.ys hk fun k h1 h2 => by have := h1.2.1;rw [h2] at this;omega
 refine ⟨⟨hold,hW.kept.then hk fun k h1 h2 => ⟨h1,?_⟩⟩,⟨⟨x,y,z,hb,?_⟩,?_,?_⟩,hB.rb.1.kept hk (fun e => by have := hB.rb.2;rw [e] at this;omega),?_,hB.sb.1.kept hk (fun e => by have := hB.sb.2.1;rw [e] at this;omega),?_⟩
 ·have := hW.old k h1
  have h2 : k = ρ.m := h2
  rw [← this,h2,hc]
  omega
 ·exact hys.mono fun k h1 h2 => ⟨h1,if_pos h2.2⟩
 ·have ht := h.t.keep hk (fun k _ e => by have e : k = ρ.m := e;rw [e,hc];omega) 0
  refine three_recol ht (fun k h1 h2 => ?_) fun k h1 h2 => ?_
  ·unfold cFin
   by_cases h3 : k < wx.heap.size
   ·rw [paint_old h3] at h2 ⊢
    rw [if_neg (by omega)]
   ·rw [paint_new (by omega)] at h2
    omega
  ·unfold cFin at h2 ⊢
   by_cases h3 : k < wx.heap.size
   ·rw [paint_old h3]
    split at h2
    ·omega
    ·next h4 => rw [if_neg h4]
   ·omega
 ·unfold cFin
  rw [if_neg (by omega),hc]
 ·unfold cFin
  rw [if_neg (by omega)]
  exact hB.rb.2
 ·by_cases h0 : 0 < n
  ·exact (sl_off hB.rd.1 hk fun a ea e => by have := (hB.rd.2 h0 a ea).2;have e : a.block = ρ.m := e;rw [e] at this;omega).more hs
  ·exact ⟨hB.rd.1.1,fun e => absurd e h0⟩
def SwR (w : World) (col : Nat → Nat) (ρ : Rn) (a : (Int × Int) × Pl) (m b7 b8 : Nat) (o : MdOp) (D : Option Addr) (dl dc : Nat) (x y z : Value) (Y : Md) (r : Re) (A : Option Addr) (n cap : Nat) (s10 s11 : Value) (wx : World) : Prop :=
 s10 = .int .i64 a.1.1 ∧ s11 = .int .i64 a.1.2 ∧ ∃ cx,WentD w col wx cx ∧ RdP wx cx ρ a.2 ∧ DBox wx cx m b7 b8 o D dl dc x y z Y r A n cap
theorem SwR.mk {a : (Int × Int) × Pl} {f e : Int} {p' : Pl} (ha : a = ((f,e),p')) (hW : WentD w col wx cx) (hB : DBox wx cx m b7 b8 o D dl dc x y z Y r A n cap) (hw : WentD wx cx wy cy) (hx : RdP wy cy ρ p') : SwR w col ρ a m b7 b8 o D dl dc x y z Y r A n cap (.int .i64 f) (.int .i64 e) wy := by
 subst ha
 exact ⟨rfl,rfl,cy,hW.trans hw,hx,hB.went hw⟩
set_option maxRecDepth 100000 in
set_option maxHeartbeats 4000000 in
theorem do_any (hx : RdP w col ρ p) (i : Inv p) (hd : Sl w w.heap.size .u8 D dl o.d) (hdb : Bytes o.d) (hdl : dl ≤ dc) (hmx : dc ≤ maxLen) (hdc : 0 < dl → ∀ a,D = some a → col a.block < 1 ∨ 5 < col a.block) (hby : ∀ q,q < p.X.n → (Dev.cur p.D q).length = 24 ∧ Bytes (Dev.cur p.D q)) (hb : Bnd p.D k) (hk : k ≤ 90000) :
  Calls Tryz.prog 23 #[.pointer (some ⟨ρ.m,0,none⟩),.int .i64 c,.agg #[.int .i64 o.k,.int .i64 o.p,.int .i64 o.h,.int .i64 o.o,.int .i64 o.n,.slice D dl dc]] w (DPost ρ w col (p.run c o)) := by
 have HDC := hid hdc
 clear hdc
 have hb1 := Blk.new w 30 (opL o D dl dc)
 have hb2 := Blk.new (w.alloc (.cells (opL o D dl dc).toArray 30)) 27 [.int .i64 0,.int .i64 0,.int .i64 0,.slice none 0 0]
 have hz1 : (w.alloc (.cells (opL o D dl dc).toArray 30)).heap.size = w.heap.size + 1 := by simp
 rw [hz1] at hb2
 have hg1 : Grow w (w.alloc (.cells (opL o D dl dc).toArray 30)) := (Kept.refl _ _).alloc _
 have hg2 : Grow (w.alloc (.cells (opL o D dl dc).toArray 30)) ((w.alloc (.cells (opL o D dl dc).toArray 30)).alloc (.cells #[.int .i64 0,.int .i64 0,.int .i64 0,.slice none 0 0] 27)) := (Kept.refl _ _).alloc _
 have HB1 := hid (hb1.grow hg2)
 have HB2 := hid hb2
 have HG0 := hid (hg1.trans hg2)
 have hz2 : ((w.alloc (.cells (opL o D dl dc).toArray 30)).alloc (.cells #[.int .i64 0,.int .i64 0,.int .i64 0,.slice none 0 0] 27)).heap.size = w.heap.size + 2 := by simp
 have HZ := hid hz2
 simp only [opL,List.toArray] at HB1 HB2 HG0 HZ
 clear hb1 hb2 hz1 hg1 hg2 hz2
 have HX := hid hx
 have HD := hid hd
 obtain ⟨G,hG⟩ : ∃ G,G = DPost ρ w col (p.run c o) := ⟨_,rfl⟩
 rw [← hG]
 have HG := hid hG
 clear hx hd hG
 go_enter Tryz.func23,Tryz.ntmps23
 go_upto_region 1 with (fail)
 generalize (w.alloc (.cells #[.int .i64 o.k,.int .i64 o.p,.int .i64 o.h,.int .i64 o.o,.int .i64 o.n,.slice D dl dc] 30)).alloc (.cells #[.int .i64 0,.int .i64 0,.int .i64 0,.slice none 0 0] 27) = w0 at *
 have HX0 := hid (HX.out.grow HG0.out)
 have HOB := hid (show Blk w0 w.heap.size 30 (opL o D dl dc) from HB1.out)
 have hzz : w.heap.size + 2 ≤ w0.heap.size := by rw [HZ.out];omega
 obtain ⟨m,hm⟩ : ∃ m,m = w.heap.size := ⟨_,rfl⟩
 rw [← hm] at HB1 HB2 HOB hzz ⊢
 have HM := hid hm
 have HZZ := hid hzz
 clear hm hzz HZ
 obtain ⟨x0,y0,z0,hown,hxat⟩ := HX0.out.own
 obtain ⟨gT,cT,gB,cB,gH,cH,q0,p0,hv,hm0⟩ := hxat.mem
 unfold MdC.sval at hv
 simp only [Value.agg.injEq,Array.mk.injEq,List.cons.injEq,and_true] at hv
 obtain ⟨rfl,rfl,rfl⟩ := hv
 have HSX : Hid (SAt w0 (fun k => k < w0.heap.size ∧ paint w.heap.size 0 col k = 2) (.agg #[.slice (some ⟨gT,0,none⟩) p.X.n cT,.slice (some ⟨gB,0,none⟩) p.X.n cB,.slice (some ⟨gH,0,none⟩) p.X.N cH]) p.X) := hxat
 have HCP := hid (MdCopy.copy_any hxat)
 have HOWN := hid hown
 have t0 := hown.cell 0
 have t1 := hown.cell 1
 have t2 := hown.cell 2
 simp only [dcells,ZeZ,ZeS] at t0 t1 t2
 clear hm0 hxat hown
 go_upto_region 2 with (go_at_call 52;(with_reducible refine HCP.out.mono ?_);rintro e w1 ⟨vy,rfl,hsy,hg⟩;have HSY0 := hid hsy;have HG1 := hid hg;obtain ⟨hT,dT,hB,dB,hH,dH,q1,p1,hvy,hm1⟩ := hsy.mem;unfold MdC.sval at hvy;subst hvy;clear hsy hg hm1)
 have hyb := Blk.new w1 50 [.slice (some ⟨hT,0,none⟩) p.X.n dT,.slice (some ⟨hB,0,none⟩) p.X.n dB,.slice (some ⟨hH,0,none⟩) p.X.N dH]
 have hg2 : Grow w1 (w1.alloc (.cells #[.slice (some ⟨hT,0,none⟩) p.X.n dT,.slice (some ⟨hB,0,none⟩) p.X.n dB,.slice (some ⟨hH,0,none⟩) p.X.N dH] 50)) := (Kept.refl _ _).alloc _
 generalize w1.alloc (.cells #[.slice (some ⟨hT,0,none⟩) p.X.n dT,.slice (some ⟨hB,0,none⟩) p.X.n dB,.slice (some ⟨hH,0,none⟩) p.X.N dH] 50) = w2 at hyb hg2 ⊢
 obtain ⟨b7,h7⟩ : ∃ b7,b7 = w1.heap.size := ⟨_,rfl⟩
 rw [← h7] at hyb ⊢
 have HYB := hid hyb
 have HG2 := hid hg2
 have H7 := hid h7
 have HS2 : Hid (SAt w2 (fun k => w0.heap.size ≤ k ∧ k < w1.heap.size) (.agg #[.slice (some ⟨hT,0,none⟩) p.X.n dT,.slice (some ⟨hB,0,none⟩) p.X.n dB,.slice (some ⟨hH,0,none⟩) p.X.N dH]) p.X) := SAt.grow (HSY0.out.mono fun k h1 h2 => ⟨h2,h1⟩) hg2
 have HOP : Hid (OpV w2 w2.heap.size (.agg #[.int .i64 o.k,.int .i64 o.p,.int .i64 o.h,.int .i64 o.o,.int .i64 o.n,.slice D dl dc]) o) := ⟨D,dl,dc,rfl,(Sl.kept HD.out ((HG0.out.trans HG1.out).trans hg2) (Nat.le_refl _) fun _ _ e => e).more ((HG0.out.trans HG1.out).trans hg2).size,hdb,hdl,hmx⟩
 obtain ⟨r,Y,hrun⟩ : ∃ r Y,p.X.run c o = (r,Y) := ⟨_,_,rfl⟩
 have HDO := hid (MdH.rdo_any HS2.out (fun k h => by have := hg2.size;omega) c HOP.out)
 rw [hrun] at HDO
 have HRUN := hid hrun
 obtain ⟨rc,rp,rh,rdd⟩ := r
 have s0 := HYB.out.cell 0
 have s1 := HYB.out.cell 1
 have s2 := HYB.out.cell 2
 have HOB2 := hid ((HOB.out.grow HG1.out).grow hg2)
 have u0 := HOB2.out.cell 0
 have u1 := HOB2.out.cell 1
 have u2 := HOB2.out.cell 2
 have u3 := HOB2.out.cell 3
 have u4 := HOB2.out.cell 4
 have u5 := HOB2.out.cell 5
 simp only [opL,ZeZ,ZeS] at s0 s1 s2 u0 u1 u2 u3 u4 u5
 clear hyb hg2 h7 hrun t0 t1 t2
 go_upto_region 3 with (go_at_call 53;(with_reducible refine HDO.out.mono ?_);rintro e w3 ⟨⟨rv,rfl,⟨A,n,cap,rfl,hsl,hbs⟩⟩,hsa,hk3⟩;have HSL := hid hsl;have HBS := hid hbs;have HSA := hid hsa;have HK3 := hid hk3;clear hsl hbs hsa hk3)
 have hsb := Blk.new w3 27 [.int .i64 rc,.int .i64 rp,.int .i64 rh,.slice A n cap]
 have hg4 : Grow w3 (w3.alloc (.cells #[.int .i64 rc,.int .i64 rp,.int .i64 rh,.slice A n cap] 27)) := (Kept.refl _ _).alloc _
 generalize w3.alloc (.cells #[.int .i64 rc,.int .i64 rp,.int .i64 rh,.slice A n cap] 27) = w4 at hsb hg4 ⊢
 obtain ⟨b8,h8⟩ : ∃ b8,b8 = w3.heap.size := ⟨_,rfl⟩
 rw [← h8] at hsb ⊢
 obtain ⟨f1,f2,f3,f4⟩ := head_box (r := ⟨rc,rp,rh,rdd⟩) HG0.out HM.out HZZ.out HOB.out HB2.out HG1.out HG2.out HYB.out H7.out HSA.out HK3.out HSL.out HBS.out hg4 hsb h8 HX.out
 have HW4 := hid f1
 have HX4 := hid f2
 have HB4 := hid f3
 have HG4 := hid f4
 have v0 := f3.sb.1.cell 0
 have v1 := f3.sb.1.cell 1
 have v2 := f3.sb.1.cell 2
 have v3 := f3.sb.1.cell 3
 simp only [reL,ZeZ,ZeS] at v0 v1 v2 v3
 clear hsb hg4 h8 f1 f2 f3 f4 HK3 HSA HBS HSL HDO HOP HS2 HG2 HYB HSY0 HG1 HOWN HCP HSX HX0 HB1 HB2 HOB HOB2 HG0 HZZ H7 s0 s1 s2 u0 u1 u2 u3 u4 u5
 generalize paint w.heap.size 0 col = c4 at *
 by_cases hrc : rc = 0
 ·subst hrc
  obtain ⟨x0,y0,z0,hown,hxat⟩ := HX4.out.own
  obtain ⟨gT,cT,gB,cB,gH,cH,q0,p0,hv,hm0⟩ := hxat.mem
  unfold MdC.sval at hv
  simp only [Value.agg.injEq,Array.mk.injEq,List.cons.injEq,and_true] at hv
  obtain ⟨rfl,rfl,rfl⟩ := hv
  have HSX := hid hxat
  have HHE : Hid (∀ wx,Grow w4 wx → Calls Tryz.prog 54 #[.agg #[.slice (some ⟨gT,0,none⟩) p.X.n cT,.slice (some ⟨gB,0,none⟩) p.X.n cB,.slice (some ⟨gH,0,none⟩) p.X.N cH],.int .i64 c,.int .i64 o.h] wx fun e w' => e = .returned (.int .i64 (p.X.held c o.h)) ∧ Grow wx w') := fun wx hg => MdC.held_any (SAt.grow HSX.out hg) c o.h
  have t0 := hown.cell 0
  have t1 := hown.cell 1
  have t2 := hown.cell 2
  have u2 := HB4.out.ob.1.cell 2
  simp only [dcells,opL,ZeZ,ZeS] at t0 t1 t2 u2
  have g0 : Grow w4 w4.drew := Kept.drew' w4
  have e0 := up_cell (F := fun _ => False) (w := w4.drew) (g0.cellN t0 id) id
  have e1 := up_cell (F := fun _ => False) (w := w4.drew) (g0.cellN t1 id) id
  have e2 := up_cell (F := fun _ => False) (w := w4.drew) (g0.cellN t2 id) id
  have e3 := up_cell (F := fun _ => False) (w := w4.drew) (g0.cellN u2 id) id
  clear hm0 hxat hown t0 t1 t2 u2
  go_upto_region 5 with (fail)
  refine wp_region_stages Grow (kept_refl _) (kept_trans _) [([0,1,2,3,4,5,6],7)] [8] (by kernel_rfl) (by kernel_rfl) ?_
  simp only [selSt,sel,ZmC,ZmN,ZgS,ZgZ]
  refine st_cons fun K1 hK1 => ?_
  repeat (go_big_quiet_step (fail))
  refine wpQuiet_nil ?_
  clear e0 e1 e2 e3 v0 v1 v2 v3
  go_wp2_with (go_at_call 54;(with_reducible refine (HHE.out _ g0).mono ?_);rintro e w5 ⟨rfl,hg⟩;have HG1 := hid hg;clear hg)
  refine norm_up (hK1 _ _ HG1.out (st_nil fun K2 hK2 => ?_))
  clear hK1 K1
  repeat (go_big_quiet_step (fail))
  refine wpQuiet_nil (hK2 _ ?_)
  clear hK2 K2
  have hg5 : Grow w4 w5 := g0.trans HG1.out
  have HG5 := hid (HG4.out.trans hg5)
  have HX5 := hid (HX4.out.grow hg5)
  have HW5 := hid (HW4.out.trans (WentD.grow (col := c4) hg5))
  have HB5 := hid (HB4.out.went (WentD.grow (col := c4) hg5))
  have HD5 : Hid (Sl w5 w.heap.size .u8 D dl o.d) := Sl.kept HD.out HG5.out (Nat.le_refl _) fun _ _ e => e
  clear g0 hg5 HG1 HX4 HW4 HB4 HD HG4 HSX HHE
  generalize paint w4.heap.size 0 c4 = c5 at *
  have HRC : Hid ((p.X.run c o).1.c = 0) := by show (p.X.run c o).1.c = 0;rw [HRUN.out]
  obtain ⟨a,ha⟩ : ∃ a,a = p.act c o ⟨0,rp,rh,rdd⟩ := ⟨_,rfl⟩
  have HRN : Hid (p.run c o = Pl.fin ⟨0,rp,rh,rdd⟩ Y a) := by
   show p.run c o = _
   rw [RfX.run_ok HRC.out,HRUN.out,ha]
  have HA := hid ha
  clear ha
  have u0 := HB5.out.ob.1.cell 0
  simp only [opL,List.getElem?_cons_zero] at u0
  go_upto_block 0 with (fail)
  go_cut [2,10,11,12,13,14] from 15 to 162 (fun _ s10 s11 _ _ _ wx => SwR w col ρ a m b7 b8 o D dl dc (.slice (some ⟨hT,0,none⟩) p.X.n dT) (.slice (some ⟨hB,0,none⟩) p.X.n dB) (.slice (some ⟨hH,0,none⟩) p.X.N dH) Y ⟨0,rp,rh,rdd⟩ A n cap s10 s11 wx)
  case first =>
   clear u0
   rcases kinds p.X c o HRC.out with h1 | h1 | h1 | h1 | h1 | h1 | h1 | h1
   ·rw [h1]
    obtain ⟨q,hq⟩ := new_q p.X c o HRC.out h1
    rw [HRUN.out] at hq
    have hq : rp = (q : Int) := hq
    subst hq
    have HR := hid (room_any HX5.out i q hb (by omega))
    have e0 : a = if (p.room (q : Int)).1.2 = 0 then ((p.room (q : Int)).1,⟨(p.room (q : Int)).2.X,(p.room (q : Int)).2.D,(p.room (q : Int)).2.A.mark (p.room (q : Int)).1.1 true,(p.room (q : Int)).2.L⟩) else p.room (q : Int) := by
     rw [HA.out]
     unfold Pl.act
     rw [if_pos h1]
    have v1 := HB5.out.sb.1.cell 1
    simp only [reL,ZeZ,ZeS] at v1
    obtain ⟨yy,hy⟩ : ∃ yy,p.room (q : Int) = yy := ⟨_,rfl⟩
    rw [hy] at HR e0
    obtain ⟨⟨f,e⟩,p1⟩ := yy
    dsimp only at HR e0
    by_cases he : e = 0
    ·subst he
     rw [if_pos rfl] at e0
     have E := hid e0
     clear e0 hy h1
     go_wp2_with (first
      | (go_at_call 55;(with_reducible refine HR.out.mono ?_);rintro e w6 ⟨rfl,c6,hw,hm⟩;have HW6 := hid hw;have HM6 := hid hm;have d4 := hm.c4;have HMK := hid (ArRefC.rmark_any hm.t.a.use f true);clear hw hm)
      | (go_at_call 56;(with_reducible refine HMK.out.mono ?_);rintro e w7 ⟨rfl,hr,hk⟩;obtain ⟨c7,hw7,hm7⟩ := HM6.out.setA hr hk;have HW7 := hid (HW6.out.trans hw7);have HM7 := hid hm7;clear hr hk hw7 hm7))
     go_meet
     exact SwR.mk E.out HW5.out HB5.out HW7.out HM7.out
    ·rw [if_neg he] at e0
     have hcb : (e == 0) = false := by rw [beq_eq_false_iff_ne];exact he
     have E := hid e0
     clear e0 hy h1 he
     go_wp2_with (go_at_call 55;(with_reducible refine HR.out.mono ?_);rintro e w6 ⟨rfl,c6,hw,hm⟩;have HW6 := hid hw;have HM6 := hid hm;clear hw hm)
     go_meet
     exact SwR.mk E.out HW5.out HB5.out HW6.out HM6.out
   ·rw [h1]
    obtain ⟨q,hoq,hqn,hT⟩ := fetch_q p.X c o HRC.out h1
    have e0 : a = p.fetch (q : Int) := by
     rw [HA.out]
     unfold Pl.act
     rw [if_neg (by rw [h1];decide),if_pos h1,hoq]
    have HR := hid (fetch_any HX5.out i hqn hT (hby q hqn) hb (by omega))
    have u1 := HB5.out.ob.1.cell 1
    simp only [opL,ZeZ,ZeS] at u1
    rw [hoq] at u1
    obtain ⟨yy,hy⟩ : ∃ yy,p.fetch (q : Int) = yy := ⟨_,rfl⟩
    rw [hy] at HR e0
    obtain ⟨⟨f,e⟩,p1⟩ := yy
    dsimp only at HR e0
    have E := hid e0
    clear e0 hy h1 hoq hqn hT
    go_wp2_with (go_at_call 57;(with_reducible refine HR.out.mono ?_);rintro e w6 ⟨rfl,c6,hw,hm⟩;have HW6 := hid hw;have HM6 := hid hm;clear hw hm)
    go_meet
    exact SwR.mk E.out HW5.out HB5.out HW6.out HM6.out
   ·rw [h1]
    have e0 : a = ((-1,0),p.front (p.A.find (p.X.held c o.h))) := by
     rw [HA.out]
     unfold Pl.act
     rw [if_neg (by rw [h1];decide),if_neg (by rw [h1];decide),if_pos h1]
    have E := hid e0
    have d4 := HX5.out.c4
    have HFD := hid (ArRefC.rfind_any HX5.out.t.a.use (p.X.held c o.h))
    have HR := hid (front_p HX5.out (lok i) (p.A.find (p.X.held c o.h)))
    clear e0 h1
    go_wp2_with (first
     | (go_at_call 59;(with_reducible refine HFD.out.mono ?_);rintro e w6 ⟨rfl,rfl⟩)
     | (go_at_call 58;(with_reducible refine HR.out.mono ?_);rintro e w6 ⟨rfl,c6,hw,hm⟩;have HW6 := hid hw;have HM6 := hid hm;clear hw hm))
    go_meet
    exact SwR.mk E.out HW5.out HB5.out HW6.out HM6.out
   ·rw [h1]
    have e0 : a = ((-1,0),(⟨p.X,p.D,p.A.set (p.A.find (p.X.held c o.h)) o.o o.d,p.L⟩ : Pl).front (p.A.find (p.X.held c o.h))) := by
     rw [HA.out]
     unfold Pl.act
     rw [if_neg (by rw [h1];decide),if_neg (by rw [h1];decide),if_neg (by rw [h1];decide),if_pos h1]
    have E := hid e0
    have hlen := write_len p.X c o HRC.out h1
    have d4 := HX5.out.c4
    have HFD := hid (ArRefC.rfind_any HX5.out.t.a.use (p.X.held c o.h))
    obtain ⟨f,hf⟩ : ∃ f,f = p.A.find (p.X.held c o.h) := ⟨_,rfl⟩
    rw [← hf] at HFD E
    have HXD := hid HX5.out.drew
    have HST := hid (ArRefT.rset_any HXD.out.t.a.use f o.o o.d (by omega))
    have HFR : Hid (∀ wx cx,RdAt wx cx ρ p.X p.D (p.A.set f o.o o.d) p.L → Calls Tryz.prog 58 #[.pointer (some ⟨ρ.m,0,none⟩),.int .i64 f] wx (PPost ρ wx cx (.tuple #[]) ((⟨p.X,p.D,p.A.set f o.o o.d,p.L⟩ : Pl).front f))) := fun wx cx h => front_p (p := ⟨p.X,p.D,p.A.set f o.o o.d,p.L⟩) h ⟨(lok i).nd,(lok i).lt,(lok i).len⟩ f
    obtain ⟨F,hF⟩ : ∃ F,F = RfP.Own w5.drew.heap.size 4 c5 := ⟨_,rfl⟩
    have HFF := hid hF
    have nF : ∀ k,k < w5.heap.size → c5 k ≠ 4 → ¬ F k := fun k h1 h2 h3 => by
     rw [hF] at h3
     exact h3.elim (fun h4 => h2 h4.2) fun h4 => absurd h1 (Nat.not_lt.2 h4)
    have nm : ¬ F ρ.m := nF _ (block_lt_of_cell d4) (by rw [HX5.out.c];decide)
    have no : ¬ F m := nF _ HB5.out.ob.1.lt (by rw [HB5.out.ob.2];decide)
    have u3 := HB5.out.ob.1.cell 3
    have u5 := HB5.out.ob.1.cell 5
    simp only [opL,ZeZ,ZeS] at u3 u5
    have g0 : Grow w5 w5.drew := Kept.drew' w5
    have q4 := up_cell (F := F) (w := w5.drew) (g0.cellN d4 id) nm
    have q3 := up_cell (F := F) (w := w5.drew) (g0.cellN u3 id) no
    have q5 := up_cell (F := F) (w := w5.drew) (g0.cellN u5 id) no
    have cs := up_run (F := F) (P := Tryz.prog) (w := w5.drew) fun w' hk => (sl_off' HD5.out g0 hk fun h0 y ey => nF y.block (Nat.lt_of_lt_of_le (PmT.sl_lt HD5.out h0 ey) HG5.out.size) (by have h8 := HW5.out.old _ (PmT.sl_lt HD5.out h0 ey);have h9 := HDC.out h0 y ey;omega)).str 22 9 5 Tryz.underlying22 Tryz.underlying5 Tryz.underlying9 dc
    clear e0 h1 hlen u3 u5 g0 nm no nF hf hF
    generalize strOfNums o.d = sd at *
    go_upto_region 18 with (go_at_call 59;(with_reducible refine HFD.out.mono ?_);rintro e w6 ⟨rfl,rfl⟩)
    refine wp_region_stages (Kept F) (kept_refl _) (kept_trans _) [([0,1,2,3,4,5,6,7,8,9],10)] [] (by kernel_rfl) (by kernel_rfl) ?_
    simp only [selSt,sel,ZmC,ZmN,ZgS,ZgZ]
    refine st_cons fun K1 hK1 => ?_
    repeat (go_big_quiet_step (fail))
    refine wpQuiet_nil ?_
    clear q3 q4 q5 cs
    go_wp2_with (go_at_call 60;(with_reducible refine HST.out.mono ?_);rintro e w6 ⟨rfl,hr,hk⟩;have HK6 : Hid (Kept F w5.drew w6) := HFF.out ▸ hk;obtain ⟨c6,hw,hm⟩ := HXD.out.setA hr hk;have HW6 := hid ((WentD.drew w5 c5).trans hw);have HM6 := hid hm;clear hr hk hw hm)
    refine norm_up (hK1 _ _ HK6.out (st_nil fun K2 hK2 => ?_))
    clear hK1 K1
    repeat (go_big_quiet_step (fail))
    refine wpQuiet_nil (hK2 _ ?_)
    clear hK2 K2
    go_wp2_with (go_at_call 58;(with_reducible refine (HFR.out _ _ HM6.out).mono ?_);rintro e w7 ⟨rfl,c7,hw,hm⟩;have HW7 := hid (HW6.out.trans hw);have HM7 := hid hm;clear hw hm)
    go_meet
    exact SwR.mk E.out HW5.out HB5.out HW7.out HM7.out
   ·rw [h1]
    have e0 : a = ((-1,0),⟨p.X,p.D,p.A.unpin (p.A.find (p.X.held c o.h)),p.L⟩) := by
     rw [HA.out]
     unfold Pl.act
     rw [if_neg (by rw [h1];decide),if_neg (by rw [h1];decide),if_neg (by rw [h1];decide),if_neg (by rw [h1];decide),if_pos h1]
    have E := hid e0
    have d4 := HX5.out.c4
    have HXD := hid HX5.out.drew
    have HFD := hid (ArRefC.rfind_any HXD.out.t.a.use (p.X.held c o.h))
    obtain ⟨f,hf⟩ : ∃ f,f = p.A.find (p.X.held c o.h) := ⟨_,rfl⟩
    rw [← hf] at HFD E
    have HST := hid (ArRefC.runpin_any HXD.out.t.a.use f)
    have g0 : Grow w5 w5.drew := Kept.drew' w5
    obtain ⟨F,hF⟩ : ∃ F,F = RfP.Own w5.drew.heap.size 4 c5 := ⟨_,rfl⟩
    have HFF := hid hF
    have q4 := up_cell (F := F) (w := w5.drew) (g0.cellN d4 id) (fun h3 => by rw [hF] at h3;exact h3.elim (fun h4 => by have := h4.2;rw [HX5.out.c] at this;omega) fun h4 => absurd (block_lt_of_cell d4) (Nat.not_lt.2 h4))
    clear e0 h1 g0 hf hF
    go_upto_region 21 with (fail)
    refine wp_region_stages (Kept F) (kept_refl _) (kept_trans _) [([0,1,2,3,4,5,6,7,8],9),([],10)] [] (by kernel_rfl) (by kernel_rfl) ?_
    simp only [selSt,sel,ZmC,ZmN,ZgS,ZgZ]
    refine st_cons fun K1 hK1 => ?_
    repeat (go_big_quiet_step (fail))
    refine wpQuiet_nil ?_
    clear q4
    go_wp2_with (go_at_call 59;(with_reducible refine HFD.out.mono ?_);rintro e w6 ⟨rfl,rfl⟩)
    refine norm_up (hK1 _ _ (Kept.refl _ _) (st_cons fun K2 hK2 => ?_))
    clear hK1 K1
    repeat (go_big_quiet_step (fail))
    refine wpQuiet_nil ?_
    go_wp2_with (go_at_call 61;(with_reducible refine HST.out.mono ?_);rintro e w6 ⟨rfl,hr,hk⟩;have HK6 : Hid (Kept F w5.drew w6) := HFF.out ▸ hk;obtain ⟨c6,hw,hm⟩ := HXD.out.setA hr hk;have HW6 := hid ((WentD.drew w5 c5).trans hw);have HM6 := hid hm;clear hr hk hw hm)
    refine norm_up (hK2 _ _ HK6.out (st_nil fun K3 hK3 => ?_))
    clear hK2 K2
    repeat (go_big_quiet_step (fail))
    refine wpQuiet_nil (hK3 _ ?_)
    clear hK3 K3
    go_wp2
    go_meet
    exact SwR.mk E.out HW5.out HB5.out HW6.out HM6.out
   ·rw [h1]
    have e0 : a = Pl.synced (p.flush o.p) := by
     rw [HA.out]
     unfold Pl.act
     rw [if_neg (by rw [h1];decide),if_neg (by rw [h1];decide),if_neg (by rw [h1];decide),if_neg (by rw [h1];decide),if_neg (by rw [h1];decide),if_pos h1]
    have HR := hid (flush_any HX5.out i o.p hb (by omega))
    have hb1 := hb.flush o.p
    have u1 := HB5.out.ob.1.cell 1
    simp only [opL,ZeZ,ZeS] at u1
    obtain ⟨yy,hy⟩ : ∃ yy,p.flush o.p = yy := ⟨_,rfl⟩
    rw [hy] at HR e0 hb1
    obtain ⟨e,p1⟩ := yy
    unfold Pl.synced at e0
    dsimp only at HR e0 hb1
    have HSY : Hid (∀ wx cx,RdP wx cx ρ p1 → Calls Tryz.prog 63 #[.pointer (some ⟨ρ.r.m,0,none⟩)] wx (PPost ρ wx cx (.int .i64 p1.sync.1) p1.sync.2)) := fun wx cx h => sync_any h hb1 (by omega)
    by_cases he : e = 0
    ·subst he
     rw [if_pos rfl] at e0
     have E := hid e0
     clear e0 hy h1 hb1
     go_wp2_with (first
      | (go_at_call 62;(with_reducible refine HR.out.mono ?_);rintro e w6 ⟨rfl,c6,hw,hm⟩;have HW6 := hid hw;have HM6 := hid hm;have d3 := hm.c3;clear hw hm)
      | (go_at_call 63;(with_reducible refine (HSY.out _ _ HM6.out).mono ?_);rintro e w7 ⟨rfl,c7,hw,hm⟩;have HW7 := hid (HW6.out.trans hw);have HM7 := hid hm;clear hw hm))
     go_meet
     exact SwR.mk E.out HW5.out HB5.out HW7.out HM7.out
    ·rw [if_neg he] at e0
     have hcb : (e == 0) = false := by rw [beq_eq_false_iff_ne];exact he
     have E := hid e0
     clear e0 hy h1 he hb1
     go_wp2_with (go_at_call 62;(with_reducible refine HR.out.mono ?_);rintro e w6 ⟨rfl,c6,hw,hm⟩;have HW6 := hid hw;have HM6 := hid hm;clear hw hm)
     go_meet
     exact SwR.mk E.out HW5.out HB5.out HW6.out HM6.out
   ·rw [h1]
    have e0 : a = Pl.synced (p.flushTo p.X.n) := by
     rw [HA.out]
     unfold Pl.act
     rw [if_neg (by rw [h1];decide),if_neg (by rw [h1];decide),if_neg (by rw [h1];decide),if_neg (by rw [h1];decide),if_neg (by rw [h1];decide),if_neg (by rw [h1];decide),if_pos h1]
    have HE := hid e0
    have HI := hid i
    have HBK := hid (And.intro hb hk)
    have hn48 : p.X.n ≤ 48 := i.gx.n.2
    clear e0 h1
    go_upto_region 27 with (fail)
    go_wp2
    go_loopg [11,13] p.X.n (fun g s11 s13 wx => ∃ (j : Nat) (cx : Nat → Nat),j + g = p.X.n ∧ s13 = .int .i64 (j : Int) ∧ s11 = .int .i64 (p.flushTo j).1 ∧ WentD w5 c5 wx cx ∧ RdP wx cx ρ (p.flushTo j).2)
    case atStart => exact ⟨0,c5,by omega,rfl,rfl,WentD.refl _ _,HX5.out⟩
    case round =>
     obtain ⟨j,cx,hg,rfl,rfl,hwx,hxx⟩ := hrel
     have HG1 := hid hg
     have HWX := hid hwx
     have HXX := hid hxx
     obtain ⟨gj,ij,_⟩ := RfF.flushTo_spec HI.out j
     have hbj := HBK.out.1.flushTo j
     have hXj := gj.X
     have HSY : Hid (∀ wy cy,RdP wy cy ρ (p.flushTo j).2 → Calls Tryz.prog 63 #[.pointer (some ⟨ρ.r.m,0,none⟩)] wy (PPost ρ wy cy (.int .i64 (p.flushTo j).2.sync.1) (p.flushTo j).2.sync.2)) := fun wy cy h => sync_any h hbj (by have := HBK.out.2;omega)
     have HFL := hid (flush_any hxx ij (j : Int) hbj (by have := HBK.out.2;omega))
     obtain ⟨x1,y1,z1,hown,hxat⟩ := hxx.own
     obtain ⟨gT1,cT1,gB1,cB1,gH1,cH1,q2,p2,hv,_⟩ := hxat.mem
     unfold MdC.sval at hv
     simp only [Value.agg.injEq,Array.mk.injEq,List.cons.injEq,and_true] at hv
     obtain ⟨rfl,rfl,rfl⟩ := hv
     have t0 := hown.cell 0
     simp only [dcells,ZeZ] at t0
     rw [hXj] at t0
     clear hown hxat hwx hxx gj ij hbj hXj hg
     by_cases he : (p.flushTo j).1 = 0
     ·have HNX := hid (flush_next p he)
      rw [← HNX.out] at HFL
      have HEZ := hid he
      by_cases hj : j < p.X.n
      ·have hjz : (j : Int) < (p.X.n : Int) := by omega
       rw [he]
       clear he
       go_wp2_with (go_at_call 62;(with_reducible refine HFL.out.mono ?_);rintro e w6 ⟨rfl,c6,hw,hm⟩;have HW6 := hid (HWX.out.trans hw);have HM6 := hid hm;clear hw hm)
       go_roundg (gk - 1)
       case measure => have := HG1.out;omega
       case rel => exact ⟨j + 1,c6,by have := HG1.out;omega,by go_num,rfl,HW6.out,HM6.out⟩
      ·have hjn : j = p.X.n := by have := HG1.out;omega
       have hjz : ¬ (j : Int) < (p.X.n : Int) := by omega
       have E : Hid (a = ((-1,(p.flushTo j).2.sync.1),(p.flushTo j).2.sync.2)) := by
        show a = _
        rw [HE.out,← hjn]
        unfold Pl.synced
        rw [if_pos HEZ.out]
       have d3 := HXX.out.c3
       rw [he]
       clear he hjn
       go_wp2_with (go_at_call 63;(with_reducible refine (HSY.out _ _ HXX.out).mono ?_);rintro e w7 ⟨rfl,c7,hw,hm⟩;have HW7 := hid (HWX.out.trans hw);have HM7 := hid hm;clear hw hm)
       go_meet
       exact SwR.mk E.out HW5.out HB5.out HW7.out HM7.out
     ·have hcb : ((p.flushTo j).1 == 0) = false := by rw [beq_eq_false_iff_ne];exact he
      have E : Hid (a = ((-1,(p.flushTo j).1),(p.flushTo j).2)) := by
       show a = _
       have hs := flush_stop p he (p.X.n - j)
       rw [show j + (p.X.n - j) = p.X.n by have := HG1.out;omega] at hs
       rw [HE.out,hs]
       unfold Pl.synced
       rw [if_neg he]
      clear he
      obtain ⟨z,hz⟩ : ∃ z,z = (p.flushTo j).1 := ⟨_,rfl⟩
      rw [← hz] at hcb E ⊢
      clear hz
      by_cases hj : j < p.X.n
      ·have hjz : (j : Int) < (p.X.n : Int) := by omega
       go_wp2
       go_meet
       exact SwR.mk E.out HW5.out HB5.out HWX.out HXX.out
      ·have hjz : ¬ (j : Int) < (p.X.n : Int) := by omega
       go_wp2
       go_meet
       exact SwR.mk E.out HW5.out HB5.out HWX.out HXX.out
   ·rw [h1]
    have e0 : a = ((-1,0),if 0 ≤ p.A.find o.p then p.drop (p.A.find o.p).toNat else p) := by
     rw [HA.out]
     unfold Pl.act
     rw [if_neg (by rw [h1];decide),if_neg (by rw [h1];decide),if_neg (by rw [h1];decide),if_neg (by rw [h1];decide),if_neg (by rw [h1];decide),if_neg (by rw [h1];decide),if_neg (by rw [h1];decide)]
    have d4 := HX5.out.c4
    have HXD := hid HX5.out.drew
    have HFD := hid (ArRefC.rfind_any HXD.out.t.a.use o.p)
    have u1 := HB5.out.ob.1.cell 1
    simp only [opL,ZeZ,ZeS] at u1
    have g0 : Grow w5 w5.drew := Kept.drew' w5
    have q4 := up_cell (F := fun _ => False) (w := w5.drew) (g0.cellN d4 id) id
    have q1 := up_cell (F := fun _ => False) (w := w5.drew) (g0.cellN u1 id) id
    obtain ⟨f,hf⟩ : ∃ f,f = p.A.find o.p := ⟨_,rfl⟩
    rw [← hf] at HFD e0
    have HE := hid e0
    have HDR : Hid (∀ k : Nat,f = (k : Int) → Calls Tryz.prog 64 #[.pointer (some ⟨ρ.m,0,none⟩),.int .i64 f] w5.drew (PPost ρ w5.drew c5 (.tuple #[]) (p.drop k))) := fun k hk => hk ▸ drop_p HXD.out (lok i) k
    clear e0 h1 g0 hf u1
    go_upto_region 34 with (fail)
    refine wp_region_stages (Kept fun _ => False) (kept_refl _) (kept_trans _) [([0,1,2,3,4,5],6)] [7] (by kernel_rfl) (by kernel_rfl) ?_
    simp only [selSt,sel,ZmC,ZmN,ZgS,ZgZ]
    refine st_cons fun K1 hK1 => ?_
    repeat (go_big_quiet_step (fail))
    refine wpQuiet_nil ?_
    clear q4 q1
    go_wp2_with (go_at_call 59;(with_reducible refine HFD.out.mono ?_);rintro e w6 ⟨rfl,rfl⟩)
    refine norm_up (hK1 _ _ (Kept.refl _ _) (st_nil fun K2 hK2 => ?_))
    clear hK1 K1
    repeat (go_big_quiet_step (fail))
    refine wpQuiet_nil (hK2 _ ?_)
    clear hK2 K2
    by_cases h0 : f ≥ 0
    ·obtain ⟨kf,hkf⟩ := Int.eq_ofNat_of_zero_le h0
     have E : Hid (a = ((-1,0),p.drop kf)) := by
      show a = _
      rw [HE.out,if_pos h0,hkf]
      rfl
     have HD := hid (HDR.out kf hkf)
     clear hkf
     go_wp2_with (go_at_call 64;(with_reducible refine HD.out.mono ?_);rintro e w6 ⟨rfl,c6,hw,hm⟩;have HW6 := hid ((WentD.drew w5 c5).trans hw);have HM6 := hid hm;clear hw hm)
     go_meet
     exact SwR.mk E.out HW5.out HB5.out HW6.out HM6.out
    ·have E : Hid (a = ((-1,0),p)) := by
      show a = _
      rw [HE.out,if_neg h0]
     go_wp2
     go_meet
     exact SwR.mk E.out HW5.out HB5.out (WentD.drew w5 c5) HXD.out
  case rest =>
   obtain ⟨rfl,rfl,c6,hw,hm6,hb6⟩ := hcut
   have HW6 := hid hw
   have HX6 := hid hm6
   have HB6 := hid hb6
   clear hw hm6 hb6 HX5 HW5 HB5 HG5 HD5 HDC u0 HRC HA
   obtain ⟨⟨f,e⟩,p1⟩ := a
   dsimp only at HX6 ⊢
   by_cases he : e = 0
   ·subst he
    have HE : Hid (p.run c o = (⟨0,rp,rh,rdd⟩,⟨Y,p1.D,if 0 ≤ f then p1.A.pin f else p1.A,p1.L⟩)) := HRN.out
    clear HRN HRUN
    by_cases hf : f ≥ 0
    ·have HE1 : Hid ((⟨Y,p1.D,p1.A.pin f,p1.L⟩ : Pl) = ⟨Y,p1.D,if 0 ≤ f then p1.A.pin f else p1.A,p1.L⟩) := by
      show (_ : Pl) = _
      rw [if_pos hf]
     have d4 := HX6.out.c4
     have HPN := hid (ArRefC.rpin_any HX6.out.t.a.use f)
     go_upto_region 41 with (go_at_call 66;(with_reducible refine HPN.out.mono ?_);rintro e w7 ⟨rfl,hr,hk⟩;obtain ⟨c7,hw,hm⟩ := HX6.out.setA hr hk;have HX7 : Hid (RdP w7 c7 ρ ⟨p1.X,p1.D,p1.A.pin f,p1.L⟩) := hm;have HW7 := hid (HW6.out.trans hw);have HB7 := hid (HB6.out.went hw);clear hr hk hw hm d4)
     obtain ⟨fz,⟨ca,cb,cc,k0,k1,k2⟩,g1,g2,g3,g4,g5,g6⟩ := put_state HM.out HW7.out HX7.out HB7.out
     have fz0 := fz 0
     have fz1 := fz 1
     have fz2 := fz 2
     have s0 := HB7.out.yb.1.cell 0
     have s1 := HB7.out.yb.1.cell 1
     have s2 := HB7.out.yb.1.cell 2
     simp only [ZeZ,ZeS] at s0 s1 s2
     have HP := hid (And.intro g1 (And.intro g2 (And.intro g3 (And.intro g4 (And.intro g5 g6)))))
     clear g1 g2 g3 g4 g5 g6 fz
     go_upto_region 42 with (fail)
     clear k0 k1 k2 fz0 fz1 fz2 s0 s1 s2
     generalize ((w7.setCell ⟨ρ.m,0,none⟩ (.slice (some ⟨hT,0,none⟩) p.X.n dT)).setCell ⟨ρ.m,1,none⟩ (.slice (some ⟨hB,0,none⟩) p.X.n dB)).setCell ⟨ρ.m,2,none⟩ (.slice (some ⟨hH,0,none⟩) p.X.N dH) = w8 at HP ⊢
     obtain ⟨g1,g2,g3,g4,g5,g6⟩ := HP.out
     have v0 := g5.cell 0
     have v1 := g5.cell 1
     have v2 := g5.cell 2
     have v3 := g5.cell 3
     simp only [reL,ZeZ,ZeS] at v0 v1 v2 v3
     have HRD : Hid (0 < n → ∀ a,A = some a → m + 1 < a.block) := fun h0 a ea => (HB7.out.rd.2 h0 a ea).1
     clear g1 g2 g3 g4 g5 g6
     go_wp2_with (refine wpList_store_row rfl 27 _ _ rfl (m + 1) #[.int .i64 0,.int .i64 rp,.int .i64 rh,.slice A n cap] rfl rfl _ _ HP.out.2.2.1 MdC.res_size rfl (by simp [Value.oneCell']) ?_)
     obtain ⟨f1,f2⟩ := fin_d (rr := ⟨0,rp,rh,rdd⟩) (cb := cap) HM.out HP.out.1 HP.out.2.1 HP.out.2.2.1 HP.out.2.2.2.1 HP.out.2.2.2.2.2 HRD.out
     rw [HE1.out,← HE.out,← HG.out] at f2
     exact MdC.ret_res (g := m + 1) rfl rfl f1 rfl f2
    ·have HE1 : Hid ((⟨Y,p1.D,p1.A,p1.L⟩ : Pl) = ⟨Y,p1.D,if 0 ≤ f then p1.A.pin f else p1.A,p1.L⟩) := by
      show (_ : Pl) = _
      rw [if_neg hf]
     obtain ⟨fz,⟨ca,cb,cc,k0,k1,k2⟩,g1,g2,g3,g4,g5,g6⟩ := put_state HM.out HW6.out HX6.out HB6.out
     have fz0 := fz 0
     have fz1 := fz 1
     have fz2 := fz 2
     have s0 := HB6.out.yb.1.cell 0
     have s1 := HB6.out.yb.1.cell 1
     have s2 := HB6.out.yb.1.cell 2
     simp only [ZeZ,ZeS] at s0 s1 s2
     have HP := hid (And.intro g1 (And.intro g2 (And.intro g3 (And.intro g4 (And.intro g5 g6)))))
     clear g1 g2 g3 g4 g5 g6 fz
     go_upto_region 42 with (fail)
     clear k0 k1 k2 fz0 fz1 fz2 s0 s1 s2
     generalize ((wc.setCell ⟨ρ.m,0,none⟩ (.slice (some ⟨hT,0,none⟩) p.X.n dT)).setCell ⟨ρ.m,1,none⟩ (.slice (some ⟨hB,0,none⟩) p.X.n dB)).setCell ⟨ρ.m,2,none⟩ (.slice (some ⟨hH,0,none⟩) p.X.N dH) = w8 at HP ⊢
     obtain ⟨g1,g2,g3,g4,g5,g6⟩ := HP.out
     have v0 := g5.cell 0
     have v1 := g5.cell 1
     have v2 := g5.cell 2
     have v3 := g5.cell 3
     simp only [reL,ZeZ,ZeS] at v0 v1 v2 v3
     have HRD : Hid (0 < n → ∀ a,A = some a → m + 1 < a.block) := fun h0 a ea => (HB6.out.rd.2 h0 a ea).1
     clear g1 g2 g3 g4 g5 g6
     go_wp2_with (refine wpList_store_row rfl 27 _ _ rfl (m + 1) #[.int .i64 0,.int .i64 rp,.int .i64 rh,.slice A n cap] rfl rfl _ _ HP.out.2.2.1 MdC.res_size rfl (by simp [Value.oneCell']) ?_)
     obtain ⟨f1,f2⟩ := fin_d (rr := ⟨0,rp,rh,rdd⟩) (cb := cap) HM.out HP.out.1 HP.out.2.1 HP.out.2.2.1 HP.out.2.2.2.1 HP.out.2.2.2.2.2 HRD.out
     rw [HE1.out,← HE.out,← HG.out] at f2
     exact MdC.ret_res (g := m + 1) rfl rfl f1 rfl f2
   ·have HE : Hid (p.run c o = (err e,p1)) := by
     show p.run c o = _
     rw [HRN.out]
     exact RfX.fin_bad he
    have hcb : (e != 0) = true := by simpa using he
    clear he HRN
    go_wp2_with (first
     | (go_at_call 65;(with_reducible refine (MdC.fail_any _ _).mono ?_);rintro e w7 ⟨rfl,hg⟩;have HW7 := hid (HW6.out.trans (WentD.grow (col := c6) hg));have HX7 := hid (HX6.out.grow hg);have HB7 := hid (HB6.out.went (WentD.grow (col := c6) hg));clear hg)
     | (refine wpList_store_row rfl 27 _ _ rfl (m + 1) #[.int .i64 e,.int .i64 0,.int .i64 0,.slice none 0 0] rfl rfl _ _ HB7.out.rb.1 MdC.res_size rfl (by simp [Value.oneCell']) ?_))
    obtain ⟨f1,f2⟩ := fin_d (rr := err e) (B := none) (nb := 0) (cb := 0) HM.out HW7.out HX7.out HB7.out.rb.1 HB7.out.rb.2 (Sl.nil _ _ _ _) (fun h0 => absurd h0 (Nat.lt_irrefl 0))
    rw [← HE.out,← HG.out] at f2
    exact MdC.ret_res (g := m + 1) rfl rfl f1 rfl f2
 ·have hcb : (rc != 0) = true := by simpa using hrc
  have hE : p.run c o = (⟨rc,rp,rh,rdd⟩,p) := by
   unfold Pl.run
   rw [HRUN.out,if_pos hrc]
  have HEQ := hid hE
  clear hrc hE
  go_wp2_with (refine wpList_store_row rfl 27 _ _ rfl (m + 1) #[.int .i64 rc,.int .i64 rp,.int .i64 rh,.slice A n cap] rfl rfl _ _ HB4.out.rb.1 MdC.res_size rfl (by simp [Value.oneCell']) ?_)
  obtain ⟨f1,f2⟩ := fin_d (rr := ⟨rc,rp,rh,rdd⟩) (cb := cap) HM.out HW4.out HX4.out HB4.out.rb.1 HB4.out.rb.2 HB4.out.rd.1 (fun h0 a ea => (HB4.out.rd.2 h0 a ea).1)
  rw [← HEQ.out,← HG.out] at f2
  exact MdC.ret_res (g := m + 1) rfl rfl f1 rfl f2
end
end RdE
end Go.Proofs.YtbnkpnllgoghnaaGreat
