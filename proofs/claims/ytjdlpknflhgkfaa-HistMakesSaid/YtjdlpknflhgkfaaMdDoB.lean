/-
  The document's state (lavaboref13.S): Do, ways that store.
-/
import Derived.Test.YtjdlpknflhgkfaaMdDo
namespace Go.Proofs.Ytjdlpknflhgkfaa.MdF
open Go.ChangeShapes Go.WideShapes Go.ChangeAt Go.RowKit
open Go.Proofs.Ytjdlpknflhgkfaa.Mem Go.Proofs.Ytjdlpknflhgkfaa.Blk Go.Proofs.Ytjdlpknflhgkfaa.Cells Go.Proofs.Ytjdlpknflhgkfaa.Orow Go.Proofs.Ytjdlpknflhgkfaa.GrC Go.Proofs.Ytjdlpknflhgkfaa.Txt Go.Proofs.Ytjdlpknflhgkfaa.MdM Go.Proofs.Ytjdlpknflhgkfaa.MdC Go.Proofs.Ytjdlpknflhgkfaa.MdR Go.Proofs.Ytjdlpknflhgkfaa.MdD Go.Proofs.Ytjdlpknflhgkfaa.Stages Go.Proofs.Ytjdlpknflhgkfaa.Trees
open Go.Proofs.Ytjdlpknflhgkfaa.HdM (lst hnd cnt sum lst_eq hnd_at hnd_none hnd_cases cnt_yes cnt_no cnt_le sum_le)
section
variable {w : World} {G : Nat → Prop} {gT cT gB cB gH cH : Nat} {q cp : Nat → Nat} {a : Md} {o : MdOp} {D : Option Addr} {dl dc : Nat}
set_option maxHeartbeats 4000000 in
set_option maxRecDepth 100000 in
theorem do_3a (hm : SM w G gT cT gB cB gH cH q cp a) (hg : MdM.Good a) (hlt : ∀ k, G k → k < w.heap.size) (hd : Sl w w.heap.size .u8 D dl o.d) (kc : Nat) (hkc : (kc : Int) < (a.N : Int)) (hk : o.k = 3) (p : Nat) (_hpn : p < a.n) (hh : a.held (kc : Int) o.h = (p : Int)) (h : o.o < 0) :
    Calls Try.prog 38 #[sval gT cT gB cB gH cH a, .int .i64 (kc : Int), .agg #[.int .i64 o.k, .int .i64 o.p, .int .i64 o.h, .int .i64 o.o, .int .i64 o.n, .slice D dl dc]] w (DoPost G (sval gT cT gB cB gH cH a) w (err 6, a)) := by
  have HB := Lib.hid (bx_new (dc := dc) hm hlt hd)
  have HGD := Lib.hid hg
  obtain ⟨P, hP⟩ : ∃ P, P = DoPost G (sval gT cT gB cB gH cH a) w (err 6, a) := ⟨_, rfl⟩
  have HP := Lib.hid hP
  rw [← hP]
  have HYhk := Lib.hid hk
  clear hk
  have HYhh := Lib.hid hh
  clear hh
  clear hm hg hlt hd hP
  go_enter Try.func38, Try.ntmps38
  go_upto_region 1 with (fail)
  generalize ((w.alloc (.cells #[.slice (some ⟨gT, 0, none⟩) a.n cT, .slice (some ⟨gB, 0, none⟩) a.n cB, .slice (some ⟨gH, 0, none⟩) a.N cH] 44)).alloc (.cells #[.int .i64 o.k, .int .i64 o.p, .int .i64 o.h, .int .i64 o.o, .int .i64 o.n, .slice D dl dc] 25)).alloc (.cells #[.int .i64 0, .int .i64 0, .int .i64 0, .slice none 0 0] 27) = w0 at HB ⊢
  generalize w.heap.size = s at HB ⊢
  have s0 := HB.out.s0
  have s1 := HB.out.s1
  have s2 := HB.out.s2
  have o0 := HB.out.o0
  have o1 := HB.out.o1
  have o2 := HB.out.o2
  have o3 := HB.out.o3
  have o4 := HB.out.o4
  have o5 := HB.out.o5
  have hh := HYhh.out
  have hk := HYhk.out
  rw [hk] at o0
  have HHE := Lib.hid (held_any (HB.out.sat HGD.out) (kc : Int) o.h)
  rw [hh] at HHE
  clear hh HYhh
  clear _hpn
  go_wp2_with (first
    | (go_at_call 57; (with_reducible refine HHE.out.mono ?_); rintro e wh ⟨rfl, hgh⟩; have HGH := Lib.hid hgh; have s0 := hgh.cellN s0 id; have s1 := hgh.cellN s1 id; have s2 := hgh.cellN s2 id; have o0 := hgh.cellN o0 id; have o2 := hgh.cellN o2 id; have o3 := hgh.cellN o3 id; have o4 := hgh.cellN o4 id; have o5 := hgh.cellN o5 id; clear hgh)
    | (go_at_call 56; (with_reducible refine (fail_any _ 6).mono ?_); rintro e wf ⟨rfl, hgf⟩; obtain ⟨t0, t1, t2, t3, tf⟩ := HB.out.res (HGH.out.trans hgf); have HGF := Lib.hid (HGH.out.trans hgf); clear hgf))
  rw [HP.out]
  exact ret_res rfl rfl (HB.out.bad HGD.out HGF.out 6).1 rfl (HB.out.bad HGD.out HGF.out 6).2
set_option maxHeartbeats 4000000 in
set_option maxRecDepth 100000 in
theorem do_3b (hm : SM w G gT cT gB cB gH cH q cp a) (hg : MdM.Good a) (hlt : ∀ k, G k → k < w.heap.size) (hd : Sl w w.heap.size .u8 D dl o.d) (kc : Nat) (hkc : (kc : Int) < (a.N : Int)) (hk : o.k = 3) (p : Nat) (_hpn : p < a.n) (hh : a.held (kc : Int) o.h = (p : Int)) (h0 : 0 ≤ o.o) (h : o.n < 0) :
    Calls Try.prog 38 #[sval gT cT gB cB gH cH a, .int .i64 (kc : Int), .agg #[.int .i64 o.k, .int .i64 o.p, .int .i64 o.h, .int .i64 o.o, .int .i64 o.n, .slice D dl dc]] w (DoPost G (sval gT cT gB cB gH cH a) w (err 6, a)) := by
  have HB := Lib.hid (bx_new (dc := dc) hm hlt hd)
  have HGD := Lib.hid hg
  obtain ⟨P, hP⟩ : ∃ P, P = DoPost G (sval gT cT gB cB gH cH a) w (err 6, a) := ⟨_, rfl⟩
  have HP := Lib.hid hP
  rw [← hP]
  have HYhk := Lib.hid hk
  clear hk
  have HYhh := Lib.hid hh
  clear hh
  clear hm hg hlt hd hP
  go_enter Try.func38, Try.ntmps38
  go_upto_region 1 with (fail)
  generalize ((w.alloc (.cells #[.slice (some ⟨gT, 0, none⟩) a.n cT, .slice (some ⟨gB, 0, none⟩) a.n cB, .slice (some ⟨gH, 0, none⟩) a.N cH] 44)).alloc (.cells #[.int .i64 o.k, .int .i64 o.p, .int .i64 o.h, .int .i64 o.o, .int .i64 o.n, .slice D dl dc] 25)).alloc (.cells #[.int .i64 0, .int .i64 0, .int .i64 0, .slice none 0 0] 27) = w0 at HB ⊢
  generalize w.heap.size = s at HB ⊢
  have s0 := HB.out.s0
  have s1 := HB.out.s1
  have s2 := HB.out.s2
  have o0 := HB.out.o0
  have o1 := HB.out.o1
  have o2 := HB.out.o2
  have o3 := HB.out.o3
  have o4 := HB.out.o4
  have o5 := HB.out.o5
  have hh := HYhh.out
  have hk := HYhk.out
  rw [hk] at o0
  have HHE := Lib.hid (held_any (HB.out.sat HGD.out) (kc : Int) o.h)
  rw [hh] at HHE
  clear hh HYhh
  clear _hpn
  go_wp2_with (first
    | (go_at_call 57; (with_reducible refine HHE.out.mono ?_); rintro e wh ⟨rfl, hgh⟩; have HGH := Lib.hid hgh; have s0 := hgh.cellN s0 id; have s1 := hgh.cellN s1 id; have s2 := hgh.cellN s2 id; have o0 := hgh.cellN o0 id; have o2 := hgh.cellN o2 id; have o3 := hgh.cellN o3 id; have o4 := hgh.cellN o4 id; have o5 := hgh.cellN o5 id; clear hgh)
    | (go_at_call 56; (with_reducible refine (fail_any _ 6).mono ?_); rintro e wf ⟨rfl, hgf⟩; obtain ⟨t0, t1, t2, t3, tf⟩ := HB.out.res (HGH.out.trans hgf); have HGF := Lib.hid (HGH.out.trans hgf); clear hgf))
  rw [HP.out]
  exact ret_res rfl rfl (HB.out.bad HGD.out HGF.out 6).1 rfl (HB.out.bad HGD.out HGF.out 6).2
set_option maxHeartbeats 4000000 in
set_option maxRecDepth 100000 in
theorem do_3c (hm : SM w G gT cT gB cB gH cH q cp a) (hg : MdM.Good a) (hlt : ∀ k, G k → k < w.heap.size) (hd : Sl w w.heap.size .u8 D dl o.d) (kc : Nat) (hkc : (kc : Int) < (a.N : Int)) (hk : o.k = 3) (p : Nat) (_hpn : p < a.n) (hh : a.held (kc : Int) o.h = (p : Int)) (h0 : 0 ≤ o.o) (h1 : 0 ≤ o.n) (h : 16 < o.o) :
    Calls Try.prog 38 #[sval gT cT gB cB gH cH a, .int .i64 (kc : Int), .agg #[.int .i64 o.k, .int .i64 o.p, .int .i64 o.h, .int .i64 o.o, .int .i64 o.n, .slice D dl dc]] w (DoPost G (sval gT cT gB cB gH cH a) w (err 6, a)) := by
  have HB := Lib.hid (bx_new (dc := dc) hm hlt hd)
  have HGD := Lib.hid hg
  obtain ⟨P, hP⟩ : ∃ P, P = DoPost G (sval gT cT gB cB gH cH a) w (err 6, a) := ⟨_, rfl⟩
  have HP := Lib.hid hP
  rw [← hP]
  have HYhk := Lib.hid hk
  clear hk
  have HYhh := Lib.hid hh
  clear hh
  clear hm hg hlt hd hP
  go_enter Try.func38, Try.ntmps38
  go_upto_region 1 with (fail)
  generalize ((w.alloc (.cells #[.slice (some ⟨gT, 0, none⟩) a.n cT, .slice (some ⟨gB, 0, none⟩) a.n cB, .slice (some ⟨gH, 0, none⟩) a.N cH] 44)).alloc (.cells #[.int .i64 o.k, .int .i64 o.p, .int .i64 o.h, .int .i64 o.o, .int .i64 o.n, .slice D dl dc] 25)).alloc (.cells #[.int .i64 0, .int .i64 0, .int .i64 0, .slice none 0 0] 27) = w0 at HB ⊢
  generalize w.heap.size = s at HB ⊢
  have s0 := HB.out.s0
  have s1 := HB.out.s1
  have s2 := HB.out.s2
  have o0 := HB.out.o0
  have o1 := HB.out.o1
  have o2 := HB.out.o2
  have o3 := HB.out.o3
  have o4 := HB.out.o4
  have o5 := HB.out.o5
  have hh := HYhh.out
  have hk := HYhk.out
  rw [hk] at o0
  have HHE := Lib.hid (held_any (HB.out.sat HGD.out) (kc : Int) o.h)
  rw [hh] at HHE
  clear hh HYhh
  clear _hpn
  go_wp2_with (first
    | (go_at_call 57; (with_reducible refine HHE.out.mono ?_); rintro e wh ⟨rfl, hgh⟩; have HGH := Lib.hid hgh; have s0 := hgh.cellN s0 id; have s1 := hgh.cellN s1 id; have s2 := hgh.cellN s2 id; have o0 := hgh.cellN o0 id; have o2 := hgh.cellN o2 id; have o3 := hgh.cellN o3 id; have o4 := hgh.cellN o4 id; have o5 := hgh.cellN o5 id; clear hgh)
    | (go_at_call 56; (with_reducible refine (fail_any _ 6).mono ?_); rintro e wf ⟨rfl, hgf⟩; obtain ⟨t0, t1, t2, t3, tf⟩ := HB.out.res (HGH.out.trans hgf); have HGF := Lib.hid (HGH.out.trans hgf); clear hgf))
  rw [HP.out]
  exact ret_res rfl rfl (HB.out.bad HGD.out HGF.out 6).1 rfl (HB.out.bad HGD.out HGF.out 6).2
set_option maxHeartbeats 4000000 in
set_option maxRecDepth 100000 in
theorem do_3d (hm : SM w G gT cT gB cB gH cH q cp a) (hg : MdM.Good a) (hlt : ∀ k, G k → k < w.heap.size) (hd : Sl w w.heap.size .u8 D dl o.d) (kc : Nat) (hkc : (kc : Int) < (a.N : Int)) (hk : o.k = 3) (p : Nat) (_hpn : p < a.n) (hh : a.held (kc : Int) o.h = (p : Int)) (h0 : 0 ≤ o.o) (h1 : 0 ≤ o.n) (h2 : o.o ≤ 16) (h : 16 - o.o < o.n) :
    Calls Try.prog 38 #[sval gT cT gB cB gH cH a, .int .i64 (kc : Int), .agg #[.int .i64 o.k, .int .i64 o.p, .int .i64 o.h, .int .i64 o.o, .int .i64 o.n, .slice D dl dc]] w (DoPost G (sval gT cT gB cB gH cH a) w (err 6, a)) := by
  have HB := Lib.hid (bx_new (dc := dc) hm hlt hd)
  have HGD := Lib.hid hg
  obtain ⟨P, hP⟩ : ∃ P, P = DoPost G (sval gT cT gB cB gH cH a) w (err 6, a) := ⟨_, rfl⟩
  have HP := Lib.hid hP
  rw [← hP]
  have HYhk := Lib.hid hk
  clear hk
  have HYhh := Lib.hid hh
  clear hh
  clear hm hg hlt hd hP
  go_enter Try.func38, Try.ntmps38
  go_upto_region 1 with (fail)
  generalize ((w.alloc (.cells #[.slice (some ⟨gT, 0, none⟩) a.n cT, .slice (some ⟨gB, 0, none⟩) a.n cB, .slice (some ⟨gH, 0, none⟩) a.N cH] 44)).alloc (.cells #[.int .i64 o.k, .int .i64 o.p, .int .i64 o.h, .int .i64 o.o, .int .i64 o.n, .slice D dl dc] 25)).alloc (.cells #[.int .i64 0, .int .i64 0, .int .i64 0, .slice none 0 0] 27) = w0 at HB ⊢
  generalize w.heap.size = s at HB ⊢
  have s0 := HB.out.s0
  have s1 := HB.out.s1
  have s2 := HB.out.s2
  have o0 := HB.out.o0
  have o1 := HB.out.o1
  have o2 := HB.out.o2
  have o3 := HB.out.o3
  have o4 := HB.out.o4
  have o5 := HB.out.o5
  have hh := HYhh.out
  have hk := HYhk.out
  rw [hk] at o0
  have HHE := Lib.hid (held_any (HB.out.sat HGD.out) (kc : Int) o.h)
  rw [hh] at HHE
  clear hh HYhh
  clear _hpn
  go_wp2_with (first
    | (go_at_call 57; (with_reducible refine HHE.out.mono ?_); rintro e wh ⟨rfl, hgh⟩; have HGH := Lib.hid hgh; have s0 := hgh.cellN s0 id; have s1 := hgh.cellN s1 id; have s2 := hgh.cellN s2 id; have o0 := hgh.cellN o0 id; have o2 := hgh.cellN o2 id; have o3 := hgh.cellN o3 id; have o4 := hgh.cellN o4 id; have o5 := hgh.cellN o5 id; clear hgh)
    | (go_at_call 56; (with_reducible refine (fail_any _ 6).mono ?_); rintro e wf ⟨rfl, hgf⟩; obtain ⟨t0, t1, t2, t3, tf⟩ := HB.out.res (HGH.out.trans hgf); have HGF := Lib.hid (HGH.out.trans hgf); clear hgf))
  rw [HP.out]
  exact ret_res rfl rfl (HB.out.bad HGD.out HGF.out 6).1 rfl (HB.out.bad HGD.out HGF.out 6).2
set_option maxHeartbeats 4000000 in
set_option maxRecDepth 100000 in
theorem do_4a (hm : SM w G gT cT gB cB gH cH q cp a) (hg : MdM.Good a) (hlt : ∀ k, G k → k < w.heap.size) (hd : Sl w w.heap.size .u8 D dl o.d) (kc : Nat) (hkc : (kc : Int) < (a.N : Int)) (hk : o.k = 4) (p : Nat) (_hpn : p < a.n) (hh : a.held (kc : Int) o.h = (p : Int)) (h : o.o < 0) :
    Calls Try.prog 38 #[sval gT cT gB cB gH cH a, .int .i64 (kc : Int), .agg #[.int .i64 o.k, .int .i64 o.p, .int .i64 o.h, .int .i64 o.o, .int .i64 o.n, .slice D dl dc]] w (DoPost G (sval gT cT gB cB gH cH a) w (err 6, a)) := by
  have HB := Lib.hid (bx_new (dc := dc) hm hlt hd)
  have HGD := Lib.hid hg
  obtain ⟨P, hP⟩ : ∃ P, P = DoPost G (sval gT cT gB cB gH cH a) w (err 6, a) := ⟨_, rfl⟩
  have HP := Lib.hid hP
  rw [← hP]
  have HYhk := Lib.hid hk
  clear hk
  have HYhh := Lib.hid hh
  clear hh
  clear hm hg hlt hd hP
  go_enter Try.func38, Try.ntmps38
  go_upto_region 1 with (fail)
  generalize ((w.alloc (.cells #[.slice (some ⟨gT, 0, none⟩) a.n cT, .slice (some ⟨gB, 0, none⟩) a.n cB, .slice (some ⟨gH, 0, none⟩) a.N cH] 44)).alloc (.cells #[.int .i64 o.k, .int .i64 o.p, .int .i64 o.h, .int .i64 o.o, .int .i64 o.n, .slice D dl dc] 25)).alloc (.cells #[.int .i64 0, .int .i64 0, .int .i64 0, .slice none 0 0] 27) = w0 at HB ⊢
  generalize w.heap.size = s at HB ⊢
  have s0 := HB.out.s0
  have s1 := HB.out.s1
  have s2 := HB.out.s2
  have o0 := HB.out.o0
  have o1 := HB.out.o1
  have o2 := HB.out.o2
  have o3 := HB.out.o3
  have o4 := HB.out.o4
  have o5 := HB.out.o5
  have hh := HYhh.out
  have hk := HYhk.out
  rw [hk] at o0
  have HHE := Lib.hid (held_any (HB.out.sat HGD.out) (kc : Int) o.h)
  rw [hh] at HHE
  clear hh HYhh
  clear _hpn
  go_wp2_with (first
    | (go_at_call 57; (with_reducible refine HHE.out.mono ?_); rintro e wh ⟨rfl, hgh⟩; have HGH := Lib.hid hgh; have s0 := hgh.cellN s0 id; have s1 := hgh.cellN s1 id; have s2 := hgh.cellN s2 id; have o0 := hgh.cellN o0 id; have o2 := hgh.cellN o2 id; have o3 := hgh.cellN o3 id; have o4 := hgh.cellN o4 id; have o5 := hgh.cellN o5 id; clear hgh)
    | (go_at_call 56; (with_reducible refine (fail_any _ 6).mono ?_); rintro e wf ⟨rfl, hgf⟩; obtain ⟨t0, t1, t2, t3, tf⟩ := HB.out.res (HGH.out.trans hgf); have HGF := Lib.hid (HGH.out.trans hgf); clear hgf))
  rw [HP.out]
  exact ret_res rfl rfl (HB.out.bad HGD.out HGF.out 6).1 rfl (HB.out.bad HGD.out HGF.out 6).2
set_option maxHeartbeats 4000000 in
set_option maxRecDepth 100000 in
theorem do_4b (hm : SM w G gT cT gB cB gH cH q cp a) (hg : MdM.Good a) (hlt : ∀ k, G k → k < w.heap.size) (hd : Sl w w.heap.size .u8 D dl o.d) (kc : Nat) (hkc : (kc : Int) < (a.N : Int)) (hk : o.k = 4) (p : Nat) (_hpn : p < a.n) (hh : a.held (kc : Int) o.h = (p : Int)) (h0 : 0 ≤ o.o) (h : 16 < o.o) :
    Calls Try.prog 38 #[sval gT cT gB cB gH cH a, .int .i64 (kc : Int), .agg #[.int .i64 o.k, .int .i64 o.p, .int .i64 o.h, .int .i64 o.o, .int .i64 o.n, .slice D dl dc]] w (DoPost G (sval gT cT gB cB gH cH a) w (err 6, a)) := by
  have HB := Lib.hid (bx_new (dc := dc) hm hlt hd)
  have HGD := Lib.hid hg
  obtain ⟨P, hP⟩ : ∃ P, P = DoPost G (sval gT cT gB cB gH cH a) w (err 6, a) := ⟨_, rfl⟩
  have HP := Lib.hid hP
  rw [← hP]
  have HYhk := Lib.hid hk
  clear hk
  have HYhh := Lib.hid hh
  clear hh
  clear hm hg hlt hd hP
  go_enter Try.func38, Try.ntmps38
  go_upto_region 1 with (fail)
  generalize ((w.alloc (.cells #[.slice (some ⟨gT, 0, none⟩) a.n cT, .slice (some ⟨gB, 0, none⟩) a.n cB, .slice (some ⟨gH, 0, none⟩) a.N cH] 44)).alloc (.cells #[.int .i64 o.k, .int .i64 o.p, .int .i64 o.h, .int .i64 o.o, .int .i64 o.n, .slice D dl dc] 25)).alloc (.cells #[.int .i64 0, .int .i64 0, .int .i64 0, .slice none 0 0] 27) = w0 at HB ⊢
  generalize w.heap.size = s at HB ⊢
  have s0 := HB.out.s0
  have s1 := HB.out.s1
  have s2 := HB.out.s2
  have o0 := HB.out.o0
  have o1 := HB.out.o1
  have o2 := HB.out.o2
  have o3 := HB.out.o3
  have o4 := HB.out.o4
  have o5 := HB.out.o5
  have hh := HYhh.out
  have hk := HYhk.out
  rw [hk] at o0
  have HHE := Lib.hid (held_any (HB.out.sat HGD.out) (kc : Int) o.h)
  rw [hh] at HHE
  clear hh HYhh
  clear _hpn
  go_wp2_with (first
    | (go_at_call 57; (with_reducible refine HHE.out.mono ?_); rintro e wh ⟨rfl, hgh⟩; have HGH := Lib.hid hgh; have s0 := hgh.cellN s0 id; have s1 := hgh.cellN s1 id; have s2 := hgh.cellN s2 id; have o0 := hgh.cellN o0 id; have o2 := hgh.cellN o2 id; have o3 := hgh.cellN o3 id; have o4 := hgh.cellN o4 id; have o5 := hgh.cellN o5 id; clear hgh)
    | (go_at_call 56; (with_reducible refine (fail_any _ 6).mono ?_); rintro e wf ⟨rfl, hgf⟩; obtain ⟨t0, t1, t2, t3, tf⟩ := HB.out.res (HGH.out.trans hgf); have HGF := Lib.hid (HGH.out.trans hgf); clear hgf))
  rw [HP.out]
  exact ret_res rfl rfl (HB.out.bad HGD.out HGF.out 6).1 rfl (HB.out.bad HGD.out HGF.out 6).2
set_option maxHeartbeats 4000000 in
set_option maxRecDepth 100000 in
theorem do_4c (hm : SM w G gT cT gB cB gH cH q cp a) (hg : MdM.Good a) (hlt : ∀ k, G k → k < w.heap.size) (hd : Sl w w.heap.size .u8 D dl o.d) (kc : Nat) (hkc : (kc : Int) < (a.N : Int)) (hk : o.k = 4) (p : Nat) (_hpn : p < a.n) (hh : a.held (kc : Int) o.h = (p : Int)) (h0 : 0 ≤ o.o) (h1 : o.o ≤ 16) (h : 16 - o.o < (dl : Int)) :
    Calls Try.prog 38 #[sval gT cT gB cB gH cH a, .int .i64 (kc : Int), .agg #[.int .i64 o.k, .int .i64 o.p, .int .i64 o.h, .int .i64 o.o, .int .i64 o.n, .slice D dl dc]] w (DoPost G (sval gT cT gB cB gH cH a) w (err 6, a)) := by
  have HB := Lib.hid (bx_new (dc := dc) hm hlt hd)
  have HGD := Lib.hid hg
  obtain ⟨P, hP⟩ : ∃ P, P = DoPost G (sval gT cT gB cB gH cH a) w (err 6, a) := ⟨_, rfl⟩
  have HP := Lib.hid hP
  rw [← hP]
  have HYhk := Lib.hid hk
  clear hk
  have HYhh := Lib.hid hh
  clear hh
  clear hm hg hlt hd hP
  go_enter Try.func38, Try.ntmps38
  go_upto_region 1 with (fail)
  generalize ((w.alloc (.cells #[.slice (some ⟨gT, 0, none⟩) a.n cT, .slice (some ⟨gB, 0, none⟩) a.n cB, .slice (some ⟨gH, 0, none⟩) a.N cH] 44)).alloc (.cells #[.int .i64 o.k, .int .i64 o.p, .int .i64 o.h, .int .i64 o.o, .int .i64 o.n, .slice D dl dc] 25)).alloc (.cells #[.int .i64 0, .int .i64 0, .int .i64 0, .slice none 0 0] 27) = w0 at HB ⊢
  generalize w.heap.size = s at HB ⊢
  have s0 := HB.out.s0
  have s1 := HB.out.s1
  have s2 := HB.out.s2
  have o0 := HB.out.o0
  have o1 := HB.out.o1
  have o2 := HB.out.o2
  have o3 := HB.out.o3
  have o4 := HB.out.o4
  have o5 := HB.out.o5
  have hh := HYhh.out
  have hk := HYhk.out
  rw [hk] at o0
  have HHE := Lib.hid (held_any (HB.out.sat HGD.out) (kc : Int) o.h)
  rw [hh] at HHE
  clear hh HYhh
  clear _hpn
  go_wp2_with (first
    | (go_at_call 57; (with_reducible refine HHE.out.mono ?_); rintro e wh ⟨rfl, hgh⟩; have HGH := Lib.hid hgh; have s0 := hgh.cellN s0 id; have s1 := hgh.cellN s1 id; have s2 := hgh.cellN s2 id; have o0 := hgh.cellN o0 id; have o2 := hgh.cellN o2 id; have o3 := hgh.cellN o3 id; have o4 := hgh.cellN o4 id; have o5 := hgh.cellN o5 id; clear hgh)
    | (go_at_call 56; (with_reducible refine (fail_any _ 6).mono ?_); rintro e wf ⟨rfl, hgf⟩; obtain ⟨t0, t1, t2, t3, tf⟩ := HB.out.res (HGH.out.trans hgf); have HGF := Lib.hid (HGH.out.trans hgf); clear hgf))
  rw [HP.out]
  exact ret_res rfl rfl (HB.out.bad HGD.out HGF.out 6).1 rfl (HB.out.bad HGD.out HGF.out 6).2
set_option maxHeartbeats 4000000 in
set_option maxRecDepth 100000 in
theorem do_3 (hm : SM w G gT cT gB cB gH cH q cp a) (hg : MdM.Good a) (hlt : ∀ k, G k → k < w.heap.size) (hd : Sl w w.heap.size .u8 D dl o.d) (kc : Nat) (hkc : (kc : Int) < (a.N : Int)) (hk : o.k = 3) (p : Nat) (hpn : p < a.n) (hh : a.held (kc : Int) o.h = (p : Int)) (u m : Nat) (ho : o.o = (u : Int)) (hn : o.n = (m : Int)) (hum : u + m ≤ 16) :
    Calls Try.prog 38 #[sval gT cT gB cB gH cH a, .int .i64 (kc : Int), .agg #[.int .i64 o.k, .int .i64 o.p, .int .i64 o.h, .int .i64 o.o, .int .i64 o.n, .slice D dl dc]] w (DoPost G (sval gT cT gB cB gH cH a) w (⟨0, 0, 0, ((a.B p).drop u).take m⟩, a)) := by
  have HB := Lib.hid (bx_new (dc := dc) hm hlt hd)
  have HGD := Lib.hid hg
  obtain ⟨P, hP⟩ : ∃ P, P = DoPost G (sval gT cT gB cB gH cH a) w (⟨0, 0, 0, ((a.B p).drop u).take m⟩, a) := ⟨_, rfl⟩
  have HP := Lib.hid hP
  rw [← hP]
  have HYhk := Lib.hid hk
  clear hk
  have HYhh := Lib.hid hh
  clear hh
  have HYho := Lib.hid ho
  clear ho
  have HYhn := Lib.hid hn
  clear hn
  clear hm hg hlt hd hP
  go_enter Try.func38, Try.ntmps38
  go_upto_region 1 with (fail)
  generalize ((w.alloc (.cells #[.slice (some ⟨gT, 0, none⟩) a.n cT, .slice (some ⟨gB, 0, none⟩) a.n cB, .slice (some ⟨gH, 0, none⟩) a.N cH] 44)).alloc (.cells #[.int .i64 o.k, .int .i64 o.p, .int .i64 o.h, .int .i64 o.o, .int .i64 o.n, .slice D dl dc] 25)).alloc (.cells #[.int .i64 0, .int .i64 0, .int .i64 0, .slice none 0 0] 27) = w0 at HB ⊢
  generalize w.heap.size = s at HB ⊢
  have s0 := HB.out.s0
  have s1 := HB.out.s1
  have s2 := HB.out.s2
  have o0 := HB.out.o0
  have o1 := HB.out.o1
  have o2 := HB.out.o2
  have o3 := HB.out.o3
  have o4 := HB.out.o4
  have o5 := HB.out.o5
  have hn := HYhn.out
  have ho := HYho.out
  have hh := HYhh.out
  have hk := HYhk.out
  rw [hk] at o0
  rw [ho] at o3
  rw [hn] at o4
  have HHE := Lib.hid (held_any (HB.out.sat HGD.out) (kc : Int) o.h)
  rw [hh] at HHE
  clear hh HYhh
  have cb : w0.cell? ⟨gB, p, none⟩ = some (.string (strOfNums (a.B p))) := HB.out.sm.bb.cell (i := p) (by omega)
  clear ho hn hk HYho HYhn HYhk
  have hl16 := HGD.out.len p
  have HBY := Lib.hid (HGD.out.byt p)
  have hz1 : (u : Int) ≤ 16 := by omega
  have hz2 : (m : Int) ≤ 16 - (u : Int) := by omega
  have hpz : (p : Int) < (a.n : Int) := by omega
  have hszB : (strOfNums (a.B p)).size = 16 := by rw [str_size]; exact hl16
  have hext : (strOfNums (a.B p)).extract u (u + m) = strOfNums (((a.B p).drop u).take m) := str_mid _ _ _ (by omega)
  have htn : ((u : Int) + (m : Int)).toNat = u + m := by omega
  have HUM := Lib.hid hum
  have HL := Lib.hid hl16
  clear hum hl16 hpn
  have HNE := Lib.hid (And.intro (HB.out.lt _ HB.out.sm.inG.2.1) HB.out.sz)
  go_upto_region 31 with ((go_at_call 57; (with_reducible refine HHE.out.mono ?_); rintro e wh ⟨rfl, hgh⟩; have HGH := Lib.hid hgh; have s0 := hgh.cellN s0 id; have s1 := hgh.cellN s1 id; have s2 := hgh.cellN s2 id; have o0 := hgh.cellN o0 id; have o2 := hgh.cellN o2 id; have o3 := hgh.cellN o3 id; have o4 := hgh.cellN o4 id; have o5 := hgh.cellN o5 id; have cb := hgh.cellN cb id; clear hgh))
  have q0 := up_cell (F := fun k => k = s + 1 + 1) (w := wh.drew) (p := ⟨s, 1, none⟩) s1 (fun e => by have e : s = s + 1 + 1 := e; omega)
  have q1 := up_cell (F := fun k => k = s + 1 + 1) (w := wh.drew) (p := ⟨s + 1, 3, none⟩) o3 (fun e => by have e : s + 1 = s + 1 + 1 := e; omega)
  have q2 := up_cell (F := fun k => k = s + 1 + 1) (w := wh.drew) (p := ⟨s + 1, 4, none⟩) o4 (fun e => by have e : s + 1 = s + 1 + 1 := e; omega)
  have q3 := up_cell (F := fun k => k = s + 1 + 1) (w := wh.drew) (p := ⟨gB, p, none⟩) cb (fun e => by have e : gB = s + 1 + 1 := e; have := HNE.out.1; omega)
  have HGD2 : Hid (Grow w0 wh.drew) := HGH.out.drew
  refine wp_region_stages (Kept (fun k => k = s + 1 + 1)) (kept_refl _) (kept_trans _) [([0, 1, 2, 3, 4, 5, 6, 7, 8, 9, 10, 11, 12], 13), ([14], 15)] [] (by kernel_rfl) (by kernel_rfl) ?_
  simp only [selSt, sel, List.map_cons, List.map_nil, List.getD_cons_succ, List.getD_cons_zero]
  refine st_cons fun K1 hK1 => ?_
  repeat (go_big_quiet_step (fail))
  refine wpQuiet_nil ?_
  clear q0 q1 q2 q3 s1 o3 o4 cb
  have hcv := fun (wx : World) => Lib.run_convert_string_bytes (P := Try.prog) wx 9 23 5 (strOfNums (((a.B p).drop u).take m)) Try.underlying9 Try.underlying23 Try.underlying5
  go_wp2
  clear hcv
  have hlen : (((a.B p).drop u).take m).length = m := by rw [List.length_take, List.length_drop]; have h1 := HL.out; have h2 := HUM.out; omega
  have hsl := bytes_sl wh.drew 5 (zs := ((a.B p).drop u).take m) fun c hc => HBY.out c (List.mem_of_mem_drop (List.mem_of_mem_take hc))
  rw [hlen] at hsl
  have HSL : Hid (Sl (Lib.bytesWorld wh.drew 5 (strOfNums (((a.B p).drop u).take m))) (Lib.bytesWorld wh.drew 5 (strOfNums (((a.B p).drop u).take m))).heap.size .u8 (some ⟨wh.heap.size, 0, none⟩) m (((a.B p).drop u).take m)) := hsl
  clear hsl
  have HGB := Lib.hid (bytes_grow wh.drew 5 (strOfNums (((a.B p).drop u).take m)))
  have hsize : (strOfNums (((a.B p).drop u).take m)).size = m := by rw [str_size]; exact hlen
  rw [hsize]
  have HW : Hid (s + 1 + 1 < wh.heap.size) := Nat.lt_of_lt_of_le HB.out.rb.lt HGH.out.size
  refine norm_up (hK1 _ _ (Grow.kept HGB.out) ?_)
  clear hK1 K1
  generalize hw5 : Lib.bytesWorld wh.drew 5 (strOfNums (((a.B p).drop u).take m)) = w5 at *
  generalize grownCap wh.drew _ 0 5 = cap5 at *
  have HG5 : Hid (Grow w0 w5) := HGD2.out.trans HGB.out
  generalize wh.heap.size = b5 at *
  clear hw5 hsize HGB hlen
  obtain ⟨t0, t1, t2, t3, tf⟩ := HB.out.res HG5.out
  refine st_cons fun K2 hK2 => ?_
  repeat (go_big_quiet_step (fail))
  refine wpQuiet_nil ?_
  go_wp2
  refine norm_up (hK2 _ _ (put4_kept _ _ _ _ _ _) (st_nil fun K3 hK3 => wpQuiet_nil (hK3 _ ?_)))
  clear hK2 K2 hK3 K3
  go_wp2
  rw [HP.out]
  have hfin := HB.out.finD (cap := cap5) HGD.out HG5.out HSL.out (fun _ x e => by injection e with e; subst e; have h1 := HW.out; have h2 := HNE.out.2; exact ⟨by show w.heap.size ≤ b5; omega, by show b5 ≠ s + 1 + 1; omega⟩)
  exact ret_res rfl rfl hfin.1 rfl hfin.2
set_option maxHeartbeats 4000000 in
set_option maxRecDepth 100000 in
theorem do_5 (hm : SM w G gT cT gB cB gH cH q cp a) (hg : MdM.Good a) (hlt : ∀ k, G k → k < w.heap.size) (hd : Sl w w.heap.size .u8 D dl o.d) (kc : Nat) (hkc : (kc : Int) < (a.N : Int)) (hk : o.k = 5) (p : Nat) (_hpn : p < a.n) (hh : a.held (kc : Int) o.h = (p : Int)) (j : Nat) (hj : o.h = (j : Int)) (hj6 : (j : Int) < 6) :
    Calls Try.prog 38 #[sval gT cT gB cB gH cH a, .int .i64 (kc : Int), .agg #[.int .i64 o.k, .int .i64 o.p, .int .i64 o.h, .int .i64 o.o, .int .i64 o.n, .slice D dl dc]] w (DoPost G (sval gT cT gB cB gH cH a) w (err 0, a.putH kc j (-1))) := by
  have HB := Lib.hid (bx_new (dc := dc) hm hlt hd)
  have HGD := Lib.hid hg
  obtain ⟨P, hP⟩ : ∃ P, P = DoPost G (sval gT cT gB cB gH cH a) w (err 0, a.putH kc j (-1)) := ⟨_, rfl⟩
  have HP := Lib.hid hP
  rw [← hP]
  have HYhk := Lib.hid hk
  clear hk
  have HYhh := Lib.hid hh
  clear hh
  have HYhj := Lib.hid hj
  clear hj
  clear hm hg hlt hd hP
  go_enter Try.func38, Try.ntmps38
  go_upto_region 1 with (fail)
  generalize ((w.alloc (.cells #[.slice (some ⟨gT, 0, none⟩) a.n cT, .slice (some ⟨gB, 0, none⟩) a.n cB, .slice (some ⟨gH, 0, none⟩) a.N cH] 44)).alloc (.cells #[.int .i64 o.k, .int .i64 o.p, .int .i64 o.h, .int .i64 o.o, .int .i64 o.n, .slice D dl dc] 25)).alloc (.cells #[.int .i64 0, .int .i64 0, .int .i64 0, .slice none 0 0] 27) = w0 at HB ⊢
  generalize w.heap.size = s at HB ⊢
  have s0 := HB.out.s0
  have s1 := HB.out.s1
  have s2 := HB.out.s2
  have o0 := HB.out.o0
  have o1 := HB.out.o1
  have o2 := HB.out.o2
  have o3 := HB.out.o3
  have o4 := HB.out.o4
  have o5 := HB.out.o5
  have hj := HYhj.out
  have hh := HYhh.out
  have hk := HYhk.out
  rw [hk] at o0
  have HHE := Lib.hid (held_any (HB.out.sat HGD.out) (kc : Int) o.h)
  rw [hh] at HHE
  clear hh HYhh
  rw [hj] at o2 HHE
  have hkN : kc < a.N := by omega
  have cs : w0.cell? ⟨gH, kc, none⟩ = some (.slice (some ⟨q kc, 0, none⟩) 6 (cp kc)) := HB.out.sm.hb.cell (i := kc) (by omega)
  have HKN := Lib.hid hkN
  have HNE := Lib.hid (And.intro (HB.out.lt _ (HB.out.sm.qG kc hkN)) (HB.out.sm.nq kc hkN).2.2)
  have HGN := Lib.hid (HGD.out.putH kc j (.inl rfl))
  clear hj hk _hpn HYhj HYhk hkN
  go_upto_region 37 with ((go_at_call 57; (with_reducible refine HHE.out.mono ?_); rintro e wh ⟨rfl, hgh⟩; have HGH := Lib.hid hgh; have s0 := hgh.cellN s0 id; have s1 := hgh.cellN s1 id; have s2 := hgh.cellN s2 id; have o0 := hgh.cellN o0 id; have o2 := hgh.cellN o2 id; have o3 := hgh.cellN o3 id; have o4 := hgh.cellN o4 id; have o5 := hgh.cellN o5 id; have cs := hgh.cellN cs id; clear hgh))
  have HGH2 : Hid (Grow w0 wh.drew) := HGH.out.drew
  have HSM : Hid (SM (wh.setCell ⟨q kc, j, none⟩ (.int .i64 (-1))).drew G gT cT gB cB gH cH q cp (a.putH kc j (-1))) := (HB.out.sm.kept HGH2.out fun _ _ x => x).putH HKN.out j (-1)
  have hr := (HB.out.sm.rb kc HKN.out).kept HGH2.out id
  have hc := hcell_get hr (j := j) (by omega)
  have hfz := hr.frozen j
  generalize a.H kc j = hold at hc
  have q0 := up_cell (F := fun k => k = q kc) (w := wh.drew) (p := ⟨s, 2, none⟩) s2 (fun e => by have e : s = q kc := e; have := HNE.out.1; omega)
  have q1 := up_cell (F := fun k => k = q kc) (w := wh.drew) (p := ⟨s + 1, 2, none⟩) o2 (fun e => by have e : s + 1 = q kc := e; have := HNE.out.1; omega)
  have q2 := up_cell (F := fun k => k = q kc) (w := wh.drew) (p := ⟨gH, kc, none⟩) cs (fun e => HNE.out.2 (by have e : gH = q kc := e; exact e.symm))
  refine wp_region_stages (Kept (fun k => k = q kc)) (kept_refl _) (kept_trans _) [([0, 1, 2, 3, 4, 5, 6, 7], 8)] [] (by kernel_rfl) (by kernel_rfl) ?_
  simp only [selSt, sel, List.map_cons, List.map_nil, List.getD_cons_succ, List.getD_cons_zero]
  refine st_cons fun K1 hK1 => ?_
  repeat (go_big_quiet_step (fail))
  refine wpQuiet_nil ?_
  clear q0 q1 q2
  go_wp2
  refine norm_up (hK1 _ _ (kept_set wh.drew (q kc) j (.int .i64 (-1))) (st_nil fun K3 hK3 => wpQuiet_nil (hK3 _ ?_)))
  clear hK1 K1 hK3 K3
  have HK5 : Hid (Kept G w0 (wh.setCell ⟨q kc, j, none⟩ (.int .i64 (-1))).drew) := HGH2.out.kept.trans ((kept_set wh.drew (q kc) j (.int .i64 (-1))).mono fun k _ e => by rw [e]; exact HB.out.sm.qG kc HKN.out)
  generalize (wh.setCell ⟨q kc, j, none⟩ (.int .i64 (-1))).drew = w5 at HSM HK5 ⊢
  obtain ⟨t0, t1, t2, t3, tf⟩ := HB.out.resK HK5.out
  go_wp2
  rw [HP.out]
  have hfin := HB.out.fin HSM.out HGN.out rfl rfl HK5.out 0 0 0
  exact ret_res rfl rfl hfin.1 rfl hfin.2
set_option maxHeartbeats 4000000 in
set_option maxRecDepth 100000 in
theorem do_8p (hm : SM w G gT cT gB cB gH cH q cp a) (hg : MdM.Good a) (hlt : ∀ k, G k → k < w.heap.size) (hd : Sl w w.heap.size .u8 D dl o.d) (kc : Nat) (hkc : (kc : Int) < (a.N : Int)) (hk : o.k = 8) (p : Nat) (hp : o.p = (p : Int)) (hpn : (p : Int) < (a.n : Int)) (hT : a.T p = true) (hpi : 0 < a.pins (p : Int)) :
    Calls Try.prog 38 #[sval gT cT gB cB gH cH a, .int .i64 (kc : Int), .agg #[.int .i64 o.k, .int .i64 o.p, .int .i64 o.h, .int .i64 o.o, .int .i64 o.n, .slice D dl dc]] w (DoPost G (sval gT cT gB cB gH cH a) w (err 7, a)) := by
  have HB := Lib.hid (bx_new (dc := dc) hm hlt hd)
  have HGD := Lib.hid hg
  obtain ⟨P, hP⟩ : ∃ P, P = DoPost G (sval gT cT gB cB gH cH a) w (err 7, a) := ⟨_, rfl⟩
  have HP := Lib.hid hP
  rw [← hP]
  have HPN := Lib.hid (show p < a.n by omega)
  have HYhk := Lib.hid hk
  clear hk
  have HYhp := Lib.hid hp
  clear hp
  have HYhT := Lib.hid hT
  clear hT
  clear hm hg hlt hd hP
  go_enter Try.func38, Try.ntmps38
  go_upto_region 1 with (fail)
  generalize ((w.alloc (.cells #[.slice (some ⟨gT, 0, none⟩) a.n cT, .slice (some ⟨gB, 0, none⟩) a.n cB, .slice (some ⟨gH, 0, none⟩) a.N cH] 44)).alloc (.cells #[.int .i64 o.k, .int .i64 o.p, .int .i64 o.h, .int .i64 o.o, .int .i64 o.n, .slice D dl dc] 25)).alloc (.cells #[.int .i64 0, .int .i64 0, .int .i64 0, .slice none 0 0] 27) = w0 at HB ⊢
  generalize w.heap.size = s at HB ⊢
  have s0 := HB.out.s0
  have s1 := HB.out.s1
  have s2 := HB.out.s2
  have o0 := HB.out.o0
  have o1 := HB.out.o1
  have o2 := HB.out.o2
  have o3 := HB.out.o3
  have o4 := HB.out.o4
  have o5 := HB.out.o5
  have hT := HYhT.out
  have hp := HYhp.out
  have hk := HYhk.out
  rw [hk] at o0
  rw [hp] at o1
  have tp : w0.cell? ⟨gT, p, none⟩ = some (.bool true) := by
    have := HB.out.sm.tb.cell (i := p) (by have := HPN.out; omega)
    unfold tcell at this
    rw [hT] at this
    exact this
  clear hT hp HYhT HYhp
  have HPI := Lib.hid (pins_any (HB.out.sat HGD.out) (p : Int))
  generalize a.pins (p : Int) = m at HPI hpi
  have hmz : 0 < (m : Int) := by omega
  clear hpi
  go_wp2_with (first
    | (go_at_call 60; (with_reducible refine HPI.out.mono ?_); rintro e wp ⟨rfl, hgp⟩; have HGP := Lib.hid hgp; have s0 := hgp.cellN s0 id; have s1 := hgp.cellN s1 id; have s2 := hgp.cellN s2 id; clear hgp)
    | (go_at_call 56; (with_reducible refine (fail_any _ 7).mono ?_); rintro e wf ⟨rfl, hgf⟩; obtain ⟨t0, t1, t2, t3, tf⟩ := HB.out.res (HGP.out.trans hgf); have HGF := Lib.hid (HGP.out.trans hgf); clear hgf))
  rw [HP.out]
  exact ret_res rfl rfl (HB.out.bad HGD.out HGF.out 7).1 rfl (HB.out.bad HGD.out HGF.out 7).2
set_option maxHeartbeats 4000000 in
set_option maxRecDepth 100000 in
theorem do_8 (hm : SM w G gT cT gB cB gH cH q cp a) (hg : MdM.Good a) (hlt : ∀ k, G k → k < w.heap.size) (hd : Sl w w.heap.size .u8 D dl o.d) (kc : Nat) (hkc : (kc : Int) < (a.N : Int)) (hk : o.k = 8) (p : Nat) (hp : o.p = (p : Int)) (hpn : (p : Int) < (a.n : Int)) (hT : a.T p = true) (hpi : a.pins (p : Int) = 0) :
    Calls Try.prog 38 #[sval gT cT gB cB gH cH a, .int .i64 (kc : Int), .agg #[.int .i64 o.k, .int .i64 o.p, .int .i64 o.h, .int .i64 o.o, .int .i64 o.n, .slice D dl dc]] w (DoPost G (sval gT cT gB cB gH cH a) w (err 0, a.putT p false)) := by
  have HB := Lib.hid (bx_new (dc := dc) hm hlt hd)
  have HGD := Lib.hid hg
  obtain ⟨P, hP⟩ : ∃ P, P = DoPost G (sval gT cT gB cB gH cH a) w (err 0, a.putT p false) := ⟨_, rfl⟩
  have HP := Lib.hid hP
  rw [← hP]
  have HPN := Lib.hid (show p < a.n by omega)
  have HYhk := Lib.hid hk
  clear hk
  have HYhp := Lib.hid hp
  clear hp
  have HYhT := Lib.hid hT
  clear hT
  clear hm hg hlt hd hP
  go_enter Try.func38, Try.ntmps38
  go_upto_region 1 with (fail)
  generalize ((w.alloc (.cells #[.slice (some ⟨gT, 0, none⟩) a.n cT, .slice (some ⟨gB, 0, none⟩) a.n cB, .slice (some ⟨gH, 0, none⟩) a.N cH] 44)).alloc (.cells #[.int .i64 o.k, .int .i64 o.p, .int .i64 o.h, .int .i64 o.o, .int .i64 o.n, .slice D dl dc] 25)).alloc (.cells #[.int .i64 0, .int .i64 0, .int .i64 0, .slice none 0 0] 27) = w0 at HB ⊢
  generalize w.heap.size = s at HB ⊢
  have s0 := HB.out.s0
  have s1 := HB.out.s1
  have s2 := HB.out.s2
  have o0 := HB.out.o0
  have o1 := HB.out.o1
  have o2 := HB.out.o2
  have o3 := HB.out.o3
  have o4 := HB.out.o4
  have o5 := HB.out.o5
  have hT := HYhT.out
  have hp := HYhp.out
  have hk := HYhk.out
  rw [hk] at o0
  rw [hp] at o1
  have tp : w0.cell? ⟨gT, p, none⟩ = some (.bool true) := by
    have := HB.out.sm.tb.cell (i := p) (by have := HPN.out; omega)
    unfold tcell at this
    rw [hT] at this
    exact this
  clear hT hp HYhT HYhp
  have HPI := Lib.hid (pins_any (HB.out.sat HGD.out) (p : Int))
  have HGN := Lib.hid (HGD.out.putT p false (.inr (pins_zero hpi)))
  rw [hpi] at HPI
  clear hpi
  go_upto_region 41 with (go_at_call 60; (with_reducible refine HPI.out.mono ?_); rintro e wp ⟨rfl, hgp⟩; have HGP := Lib.hid hgp; have s0 := hgp.cellN s0 id; have s1 := hgp.cellN s1 id; have s2 := hgp.cellN s2 id; clear hgp)
  have HNE := Lib.hid (And.intro (HB.out.lt _ HB.out.sm.inG.1) (HB.out.lt _ HB.out.sm.inG.2.1))
  have HG2 : Hid (Grow w0 wp.drew) := HGP.out.drew
  have q0 := up_cell (F := fun k => k = gT ∨ k = gB) (w := wp.drew) (p := ⟨s, 0, none⟩) s0 (fun e => by have e : s = gT ∨ s = gB := e; have h1 := HNE.out; omega)
  have q1 := up_cell (F := fun k => k = gT ∨ k = gB) (w := wp.drew) (p := ⟨s, 1, none⟩) s1 (fun e => by have e : s = gT ∨ s = gB := e; have h1 := HNE.out; omega)
  refine wp_region_stages (Kept (fun k => k = gT ∨ k = gB)) (kept_refl _) (kept_trans _) [([0, 1, 2, 3, 4, 5], 6), ([7], 8), ([9], 10)] [] (by kernel_rfl) (by kernel_rfl) ?_
  simp only [selSt, sel, List.map_cons, List.map_nil, List.getD_cons_succ, List.getD_cons_zero]
  refine st_cons fun K1 hK1 => ?_
  repeat (go_big_quiet_step (fail))
  refine wpQuiet_nil ?_
  clear q0 q1
  go_wp2_with (go_at_call 51; (with_reducible refine (zeros_any _).mono ?_); rintro e wz ⟨rfl, hgz⟩; have HGZ := Lib.hid hgz; clear hgz)
  refine norm_up (hK1 _ _ HGZ.out.kept ?_)
  clear hK1 K1
  have HG3 : Hid (Grow w0 wz) := HG2.out.trans HGZ.out
  have HS3 := Lib.hid (HB.out.sm.kept HG3.out fun _ _ x => x)
  have hr1 := HS3.out.tb.cell (i := p) (by have := HPN.out; omega)
  have hf1 := HS3.out.tb.frozen p
  unfold tcell at hr1
  have HS4 : Hid (SM (wz.setCell ⟨gT, p, none⟩ (.bool false)) G gT cT gB cB gH cH q cp ⟨a.n, a.N, upd a.T p false, a.B, a.H⟩) := HS3.out.flag p false
  have HK4 : Hid (Kept (fun k => k = gT ∨ k = gB) wz (wz.setCell ⟨gT, p, none⟩ (.bool false))) := (kept_set wz gT p (.bool false)).mono fun k _ e => .inl e
  refine st_cons fun K2 hK2 => ?_
  repeat (go_big_quiet_step (fail))
  refine wpQuiet_nil ?_
  generalize a.T p = told at hr1
  go_wp2
  clear hr1 hf1
  refine norm_up (hK2 _ _ HK4.out ?_)
  clear hK2 K2
  generalize wz.setCell ⟨gT, p, none⟩ (.bool false) = wy at HS4 HK4 ⊢
  have hr2 := HS4.out.bb.cell (i := p) (by have := HPN.out; show p < a.n * 1; omega)
  have hf2 := HS4.out.bb.frozen p
  unfold bcell at hr2
  have HS5 : Hid (SM (wy.setCell ⟨gB, p, none⟩ (.string (strOfNums zeros))) G gT cT gB cB gH cH q cp (a.putT p false)) := HS4.out.putB p zeros
  have HK5 : Hid (Kept (fun k => k = gT ∨ k = gB) wy (wy.setCell ⟨gB, p, none⟩ (.string (strOfNums zeros)))) := (kept_set wy gB p (.string (strOfNums zeros))).mono fun k _ e => .inr e
  refine st_cons fun K3 hK3 => ?_
  repeat (go_big_quiet_step (fail))
  refine wpQuiet_nil ?_
  generalize strOfNums ((⟨a.n, a.N, upd a.T p false, a.B, a.H⟩ : Md).B p) = sold at hr2
  go_wp2
  clear hr2 hf2
  refine norm_up (hK3 _ _ HK5.out (st_nil fun K4 hK4 => wpQuiet_nil (hK4 _ ?_)))
  clear hK3 K3 hK4 K4
  have HK6 : Hid (Kept G w0 (wy.setCell ⟨gB, p, none⟩ (.string (strOfNums zeros)))) := HG3.out.kept.trans ((HK4.out.trans HK5.out).mono fun k _ e => by
    rcases e with e | e
    · rw [e]; exact HB.out.sm.inG.1
    · rw [e]; exact HB.out.sm.inG.2.1)
  generalize wy.setCell ⟨gB, p, none⟩ (.string (strOfNums zeros)) = w5 at HS5 HK6 ⊢
  clear HS4 HK4 HK5
  obtain ⟨t0, t1, t2, t3, tf⟩ := HB.out.resK HK6.out
  go_wp2
  rw [HP.out]
  have hfin := HB.out.fin HS5.out HGN.out rfl rfl HK6.out 0 0 0
  exact ret_res rfl rfl hfin.1 rfl hfin.2
end
end Go.Proofs.Ytjdlpknflhgkfaa.MdF
