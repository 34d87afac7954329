/-
  The document's state (lavaboref13.S): Do, the ways without a store of its own.
-/
import Derived.Test.YtjdlpknflhgkfaaMdDo
namespace Go.Proofs.Ytjdlpknflhgkfaa.MdE
open Go.ChangeShapes Go.WideShapes Go.ChangeAt Go.RowKit
open Go.Proofs.Ytjdlpknflhgkfaa.Mem Go.Proofs.Ytjdlpknflhgkfaa.Blk Go.Proofs.Ytjdlpknflhgkfaa.Cells Go.Proofs.Ytjdlpknflhgkfaa.Orow Go.Proofs.Ytjdlpknflhgkfaa.GrC Go.Proofs.Ytjdlpknflhgkfaa.Txt Go.Proofs.Ytjdlpknflhgkfaa.MdM Go.Proofs.Ytjdlpknflhgkfaa.MdC Go.Proofs.Ytjdlpknflhgkfaa.MdR Go.Proofs.Ytjdlpknflhgkfaa.MdD Go.Proofs.Ytjdlpknflhgkfaa.Stages Go.Proofs.Ytjdlpknflhgkfaa.Trees
open Go.Proofs.Ytjdlpknflhgkfaa.HdM (lst hnd cnt sum lst_eq hnd_at hnd_none hnd_cases cnt_yes cnt_no cnt_le sum_le)
section
variable {w : World} {G : Nat → Prop} {gT cT gB cB gH cH : Nat} {q cp : Nat → Nat} {a : Md} {o : MdOp} {D : Option Addr} {dl dc : Nat}
set_option maxHeartbeats 4000000 in
set_option maxRecDepth 100000 in
theorem do_c0 (hm : SM w G gT cT gB cB gH cH q cp a) (hg : MdM.Good a) (hlt : ∀ k, G k → k < w.heap.size) (hd : Sl w w.heap.size .u8 D dl o.d) (c : Int) (h : c < 0) :
    Calls Try.prog 38 #[sval gT cT gB cB gH cH a, .int .i64 c, .agg #[.int .i64 o.k, .int .i64 o.p, .int .i64 o.h, .int .i64 o.o, .int .i64 o.n, .slice D dl dc]] w (DoPost G (sval gT cT gB cB gH cH a) w (err 1, a)) := by
  have HB := Lib.hid (bx_new (dc := dc) hm hlt hd)
  have HGD := Lib.hid hg
  obtain ⟨P, hP⟩ : ∃ P, P = DoPost G (sval gT cT gB cB gH cH a) w (err 1, a) := ⟨_, rfl⟩
  have HP := Lib.hid hP
  rw [← hP]
  clear hm hg hlt hd hP
  go_enter Try.func38, Try.ntmps38
  go_upto_region 1 with (fail)
  generalize ((w.alloc (.cells #[.slice (some ⟨gT, 0, none⟩) a.n cT, .slice (some ⟨gB, 0, none⟩) a.n cB, .slice (some ⟨gH, 0, none⟩) a.N cH] 44)).alloc (.cells #[.int .i64 o.k, .int .i64 o.p, .int .i64 o.h, .int .i64 o.o, .int .i64 o.n, .slice D dl dc] 25)).alloc (.cells #[.int .i64 0, .int .i64 0, .int .i64 0, .slice none 0 0] 27) = w0 at HB ⊢
  generalize w.heap.size = s at HB ⊢
  have s0 := HB.out.s0
  have s1 := HB.out.s1
  have s2 := HB.out.s2
  have o0 := HB.out.o0
  have o1 := HB.out.o1
  have o2 := HB.out.o2
  have o3 := HB.out.o3
  have o4 := HB.out.o4
  have o5 := HB.out.o5
  go_wp2_with (go_at_call 56; (with_reducible refine (fail_any _ 1).mono ?_); rintro e wf ⟨rfl, hgf⟩; obtain ⟨t0, t1, t2, t3, tf⟩ := HB.out.res (hgf); have HGF := Lib.hid (hgf); clear hgf)
  rw [HP.out]
  exact ret_res rfl rfl (HB.out.bad HGD.out HGF.out 1).1 rfl (HB.out.bad HGD.out HGF.out 1).2
set_option maxHeartbeats 4000000 in
set_option maxRecDepth 100000 in
theorem do_c1 (hm : SM w G gT cT gB cB gH cH q cp a) (hg : MdM.Good a) (hlt : ∀ k, G k → k < w.heap.size) (hd : Sl w w.heap.size .u8 D dl o.d) (c : Int) (h0 : 0 ≤ c) (h : (a.N : Int) ≤ c) :
    Calls Try.prog 38 #[sval gT cT gB cB gH cH a, .int .i64 c, .agg #[.int .i64 o.k, .int .i64 o.p, .int .i64 o.h, .int .i64 o.o, .int .i64 o.n, .slice D dl dc]] w (DoPost G (sval gT cT gB cB gH cH a) w (err 1, a)) := by
  have HB := Lib.hid (bx_new (dc := dc) hm hlt hd)
  have HGD := Lib.hid hg
  obtain ⟨P, hP⟩ : ∃ P, P = DoPost G (sval gT cT gB cB gH cH a) w (err 1, a) := ⟨_, rfl⟩
  have HP := Lib.hid hP
  rw [← hP]
  clear hm hg hlt hd hP
  go_enter Try.func38, Try.ntmps38
  go_upto_region 1 with (fail)
  generalize ((w.alloc (.cells #[.slice (some ⟨gT, 0, none⟩) a.n cT, .slice (some ⟨gB, 0, none⟩) a.n cB, .slice (some ⟨gH, 0, none⟩) a.N cH] 44)).alloc (.cells #[.int .i64 o.k, .int .i64 o.p, .int .i64 o.h, .int .i64 o.o, .int .i64 o.n, .slice D dl dc] 25)).alloc (.cells #[.int .i64 0, .int .i64 0, .int .i64 0, .slice none 0 0] 27) = w0 at HB ⊢
  generalize w.heap.size = s at HB ⊢
  have s0 := HB.out.s0
  have s1 := HB.out.s1
  have s2 := HB.out.s2
  have o0 := HB.out.o0
  have o1 := HB.out.o1
  have o2 := HB.out.o2
  have o3 := HB.out.o3
  have o4 := HB.out.o4
  have o5 := HB.out.o5
  go_wp2_with (go_at_call 56; (with_reducible refine (fail_any _ 1).mono ?_); rintro e wf ⟨rfl, hgf⟩; obtain ⟨t0, t1, t2, t3, tf⟩ := HB.out.res (hgf); have HGF := Lib.hid (hgf); clear hgf)
  rw [HP.out]
  exact ret_res rfl rfl (HB.out.bad HGD.out HGF.out 1).1 rfl (HB.out.bad HGD.out HGF.out 1).2
set_option maxHeartbeats 4000000 in
set_option maxRecDepth 100000 in
theorem do_k0 (hm : SM w G gT cT gB cB gH cH q cp a) (hg : MdM.Good a) (hlt : ∀ k, G k → k < w.heap.size) (hd : Sl w w.heap.size .u8 D dl o.d) (kc : Nat) (hkc : (kc : Int) < (a.N : Int)) (h : o.k < 1) :
    Calls Try.prog 38 #[sval gT cT gB cB gH cH a, .int .i64 (kc : Int), .agg #[.int .i64 o.k, .int .i64 o.p, .int .i64 o.h, .int .i64 o.o, .int .i64 o.n, .slice D dl dc]] w (DoPost G (sval gT cT gB cB gH cH a) w (err 1, a)) := by
  have HB := Lib.hid (bx_new (dc := dc) hm hlt hd)
  have HGD := Lib.hid hg
  obtain ⟨P, hP⟩ : ∃ P, P = DoPost G (sval gT cT gB cB gH cH a) w (err 1, a) := ⟨_, rfl⟩
  have HP := Lib.hid hP
  rw [← hP]
  clear hm hg hlt hd hP
  go_enter Try.func38, Try.ntmps38
  go_upto_region 1 with (fail)
  generalize ((w.alloc (.cells #[.slice (some ⟨gT, 0, none⟩) a.n cT, .slice (some ⟨gB, 0, none⟩) a.n cB, .slice (some ⟨gH, 0, none⟩) a.N cH] 44)).alloc (.cells #[.int .i64 o.k, .int .i64 o.p, .int .i64 o.h, .int .i64 o.o, .int .i64 o.n, .slice D dl dc] 25)).alloc (.cells #[.int .i64 0, .int .i64 0, .int .i64 0, .slice none 0 0] 27) = w0 at HB ⊢
  generalize w.heap.size = s at HB ⊢
  have s0 := HB.out.s0
  have s1 := HB.out.s1
  have s2 := HB.out.s2
  have o0 := HB.out.o0
  have o1 := HB.out.o1
  have o2 := HB.out.o2
  have o3 := HB.out.o3
  have o4 := HB.out.o4
  have o5 := HB.out.o5
  go_wp2_with (go_at_call 56; (with_reducible refine (fail_any _ 1).mono ?_); rintro e wf ⟨rfl, hgf⟩; obtain ⟨t0, t1, t2, t3, tf⟩ := HB.out.res (hgf); have HGF := Lib.hid (hgf); clear hgf)
  rw [HP.out]
  exact ret_res rfl rfl (HB.out.bad HGD.out HGF.out 1).1 rfl (HB.out.bad HGD.out HGF.out 1).2
set_option maxHeartbeats 4000000 in
set_option maxRecDepth 100000 in
theorem do_k9 (hm : SM w G gT cT gB cB gH cH q cp a) (hg : MdM.Good a) (hlt : ∀ k, G k → k < w.heap.size) (hd : Sl w w.heap.size .u8 D dl o.d) (kc : Nat) (hkc : (kc : Int) < (a.N : Int)) (h : 8 < o.k) :
    Calls Try.prog 38 #[sval gT cT gB cB gH cH a, .int .i64 (kc : Int), .agg #[.int .i64 o.k, .int .i64 o.p, .int .i64 o.h, .int .i64 o.o, .int .i64 o.n, .slice D dl dc]] w (DoPost G (sval gT cT gB cB gH cH a) w (err 1, a)) := by
  have HB := Lib.hid (bx_new (dc := dc) hm hlt hd)
  have HGD := Lib.hid hg
  obtain ⟨P, hP⟩ : ∃ P, P = DoPost G (sval gT cT gB cB gH cH a) w (err 1, a) := ⟨_, rfl⟩
  have HP := Lib.hid hP
  rw [← hP]
  clear hm hg hlt hd hP
  go_enter Try.func38, Try.ntmps38
  go_upto_region 1 with (fail)
  generalize ((w.alloc (.cells #[.slice (some ⟨gT, 0, none⟩) a.n cT, .slice (some ⟨gB, 0, none⟩) a.n cB, .slice (some ⟨gH, 0, none⟩) a.N cH] 44)).alloc (.cells #[.int .i64 o.k, .int .i64 o.p, .int .i64 o.h, .int .i64 o.o, .int .i64 o.n, .slice D dl dc] 25)).alloc (.cells #[.int .i64 0, .int .i64 0, .int .i64 0, .slice none 0 0] 27) = w0 at HB ⊢
  generalize w.heap.size = s at HB ⊢
  have s0 := HB.out.s0
  have s1 := HB.out.s1
  have s2 := HB.out.s2
  have o0 := HB.out.o0
  have o1 := HB.out.o1
  have o2 := HB.out.o2
  have o3 := HB.out.o3
  have o4 := HB.out.o4
  have o5 := HB.out.o5
  have hk1 : 1 ≤ o.k := by omega
  go_wp2_with (go_at_call 56; (with_reducible refine (fail_any _ 1).mono ?_); rintro e wf ⟨rfl, hgf⟩; obtain ⟨t0, t1, t2, t3, tf⟩ := HB.out.res (hgf); have HGF := Lib.hid (hgf); clear hgf)
  rw [HP.out]
  exact ret_res rfl rfl (HB.out.bad HGD.out HGF.out 1).1 rfl (HB.out.bad HGD.out HGF.out 1).2
set_option maxHeartbeats 4000000 in
set_option maxRecDepth 100000 in
theorem do_p0 (hm : SM w G gT cT gB cB gH cH q cp a) (hg : MdM.Good a) (hlt : ∀ k, G k → k < w.heap.size) (hd : Sl w w.heap.size .u8 D dl o.d) (kc : Nat) (hkc : (kc : Int) < (a.N : Int)) (hk : o.k = 2 ∨ o.k = 6 ∨ o.k = 8) (h : o.p < 0) :
    Calls Try.prog 38 #[sval gT cT gB cB gH cH a, .int .i64 (kc : Int), .agg #[.int .i64 o.k, .int .i64 o.p, .int .i64 o.h, .int .i64 o.o, .int .i64 o.n, .slice D dl dc]] w (DoPost G (sval gT cT gB cB gH cH a) w (err 1, a)) := by
  have HB := Lib.hid (bx_new (dc := dc) hm hlt hd)
  have HGD := Lib.hid hg
  obtain ⟨P, hP⟩ : ∃ P, P = DoPost G (sval gT cT gB cB gH cH a) w (err 1, a) := ⟨_, rfl⟩
  have HP := Lib.hid hP
  rw [← hP]
  have HYhk := Lib.hid hk
  clear hk
  clear hm hg hlt hd hP
  go_enter Try.func38, Try.ntmps38
  go_upto_region 1 with (fail)
  generalize ((w.alloc (.cells #[.slice (some ⟨gT, 0, none⟩) a.n cT, .slice (some ⟨gB, 0, none⟩) a.n cB, .slice (some ⟨gH, 0, none⟩) a.N cH] 44)).alloc (.cells #[.int .i64 o.k, .int .i64 o.p, .int .i64 o.h, .int .i64 o.o, .int .i64 o.n, .slice D dl dc] 25)).alloc (.cells #[.int .i64 0, .int .i64 0, .int .i64 0, .slice none 0 0] 27) = w0 at HB ⊢
  generalize w.heap.size = s at HB ⊢
  have s0 := HB.out.s0
  have s1 := HB.out.s1
  have s2 := HB.out.s2
  have o0 := HB.out.o0
  have o1 := HB.out.o1
  have o2 := HB.out.o2
  have o3 := HB.out.o3
  have o4 := HB.out.o4
  have o5 := HB.out.o5
  have hk := HYhk.out
  rcases hk with hk | hk | hk
  all_goals
    rw [hk] at o0
    go_wp2_with (go_at_call 56; (with_reducible refine (fail_any _ 1).mono ?_); rintro e wf ⟨rfl, hgf⟩; obtain ⟨t0, t1, t2, t3, tf⟩ := HB.out.res (hgf); have HGF := Lib.hid (hgf); clear hgf)
    rw [HP.out]
    exact ret_res rfl rfl (HB.out.bad HGD.out HGF.out 1).1 rfl (HB.out.bad HGD.out HGF.out 1).2
set_option maxHeartbeats 4000000 in
set_option maxRecDepth 100000 in
theorem do_p1 (hm : SM w G gT cT gB cB gH cH q cp a) (hg : MdM.Good a) (hlt : ∀ k, G k → k < w.heap.size) (hd : Sl w w.heap.size .u8 D dl o.d) (kc : Nat) (hkc : (kc : Int) < (a.N : Int)) (hk : o.k = 2 ∨ o.k = 6 ∨ o.k = 8) (h0 : 0 ≤ o.p) (h : (a.n : Int) ≤ o.p) :
    Calls Try.prog 38 #[sval gT cT gB cB gH cH a, .int .i64 (kc : Int), .agg #[.int .i64 o.k, .int .i64 o.p, .int .i64 o.h, .int .i64 o.o, .int .i64 o.n, .slice D dl dc]] w (DoPost G (sval gT cT gB cB gH cH a) w (err 1, a)) := by
  have HB := Lib.hid (bx_new (dc := dc) hm hlt hd)
  have HGD := Lib.hid hg
  obtain ⟨P, hP⟩ : ∃ P, P = DoPost G (sval gT cT gB cB gH cH a) w (err 1, a) := ⟨_, rfl⟩
  have HP := Lib.hid hP
  rw [← hP]
  have HYhk := Lib.hid hk
  clear hk
  clear hm hg hlt hd hP
  go_enter Try.func38, Try.ntmps38
  go_upto_region 1 with (fail)
  generalize ((w.alloc (.cells #[.slice (some ⟨gT, 0, none⟩) a.n cT, .slice (some ⟨gB, 0, none⟩) a.n cB, .slice (some ⟨gH, 0, none⟩) a.N cH] 44)).alloc (.cells #[.int .i64 o.k, .int .i64 o.p, .int .i64 o.h, .int .i64 o.o, .int .i64 o.n, .slice D dl dc] 25)).alloc (.cells #[.int .i64 0, .int .i64 0, .int .i64 0, .slice none 0 0] 27) = w0 at HB ⊢
  generalize w.heap.size = s at HB ⊢
  have s0 := HB.out.s0
  have s1 := HB.out.s1
  have s2 := HB.out.s2
  have o0 := HB.out.o0
  have o1 := HB.out.o1
  have o2 := HB.out.o2
  have o3 := HB.out.o3
  have o4 := HB.out.o4
  have o5 := HB.out.o5
  have hk := HYhk.out
  rcases hk with hk | hk | hk
  all_goals
    rw [hk] at o0
    go_wp2_with (go_at_call 56; (with_reducible refine (fail_any _ 1).mono ?_); rintro e wf ⟨rfl, hgf⟩; obtain ⟨t0, t1, t2, t3, tf⟩ := HB.out.res (hgf); have HGF := Lib.hid (hgf); clear hgf)
    rw [HP.out]
    exact ret_res rfl rfl (HB.out.bad HGD.out HGF.out 1).1 rfl (HB.out.bad HGD.out HGF.out 1).2
set_option maxHeartbeats 4000000 in
set_option maxRecDepth 100000 in
theorem do_p2 (hm : SM w G gT cT gB cB gH cH q cp a) (hg : MdM.Good a) (hlt : ∀ k, G k → k < w.heap.size) (hd : Sl w w.heap.size .u8 D dl o.d) (kc : Nat) (hkc : (kc : Int) < (a.N : Int)) (hk : o.k = 2 ∨ o.k = 6 ∨ o.k = 8) (p : Nat) (hp : o.p = (p : Int)) (hpn : (p : Int) < (a.n : Int)) (hT : a.T p = false) :
    Calls Try.prog 38 #[sval gT cT gB cB gH cH a, .int .i64 (kc : Int), .agg #[.int .i64 o.k, .int .i64 o.p, .int .i64 o.h, .int .i64 o.o, .int .i64 o.n, .slice D dl dc]] w (DoPost G (sval gT cT gB cB gH cH a) w (err 2, a)) := by
  have HB := Lib.hid (bx_new (dc := dc) hm hlt hd)
  have HGD := Lib.hid hg
  obtain ⟨P, hP⟩ : ∃ P, P = DoPost G (sval gT cT gB cB gH cH a) w (err 2, a) := ⟨_, rfl⟩
  have HP := Lib.hid hP
  rw [← hP]
  have HPN := Lib.hid (show p < a.n by omega)
  have HYhk := Lib.hid hk
  clear hk
  have HYhp := Lib.hid hp
  clear hp
  have HYhT := Lib.hid hT
  clear hT
  clear hm hg hlt hd hP
  go_enter Try.func38, Try.ntmps38
  go_upto_region 1 with (fail)
  generalize ((w.alloc (.cells #[.slice (some ⟨gT, 0, none⟩) a.n cT, .slice (some ⟨gB, 0, none⟩) a.n cB, .slice (some ⟨gH, 0, none⟩) a.N cH] 44)).alloc (.cells #[.int .i64 o.k, .int .i64 o.p, .int .i64 o.h, .int .i64 o.o, .int .i64 o.n, .slice D dl dc] 25)).alloc (.cells #[.int .i64 0, .int .i64 0, .int .i64 0, .slice none 0 0] 27) = w0 at HB ⊢
  generalize w.heap.size = s at HB ⊢
  have s0 := HB.out.s0
  have s1 := HB.out.s1
  have s2 := HB.out.s2
  have o0 := HB.out.o0
  have o1 := HB.out.o1
  have o2 := HB.out.o2
  have o3 := HB.out.o3
  have o4 := HB.out.o4
  have o5 := HB.out.o5
  have hT := HYhT.out
  have hp := HYhp.out
  have hk := HYhk.out
  rw [hp] at o1
  have tp : w0.cell? ⟨gT, p, none⟩ = some (.bool false) := by
    have := HB.out.sm.tb.cell (i := p) (by have := HPN.out; omega)
    unfold tcell at this
    rw [hT] at this
    exact this
  clear hT hp HYhT HYhp
  rcases hk with hk | hk | hk
  all_goals
    rw [hk] at o0
    go_wp2_with (go_at_call 56; (with_reducible refine (fail_any _ 2).mono ?_); rintro e wf ⟨rfl, hgf⟩; obtain ⟨t0, t1, t2, t3, tf⟩ := HB.out.res (hgf); have HGF := Lib.hid (hgf); clear hgf)
    rw [HP.out]
    exact ret_res rfl rfl (HB.out.bad HGD.out HGF.out 2).1 rfl (HB.out.bad HGD.out HGF.out 2).2
set_option maxHeartbeats 4000000 in
set_option maxRecDepth 100000 in
theorem do_h0 (hm : SM w G gT cT gB cB gH cH q cp a) (hg : MdM.Good a) (hlt : ∀ k, G k → k < w.heap.size) (hd : Sl w w.heap.size .u8 D dl o.d) (kc : Nat) (hkc : (kc : Int) < (a.N : Int)) (hk : o.k = 3 ∨ o.k = 4 ∨ o.k = 5) (h : a.held (kc : Int) o.h = -1) :
    Calls Try.prog 38 #[sval gT cT gB cB gH cH a, .int .i64 (kc : Int), .agg #[.int .i64 o.k, .int .i64 o.p, .int .i64 o.h, .int .i64 o.o, .int .i64 o.n, .slice D dl dc]] w (DoPost G (sval gT cT gB cB gH cH a) w (err 5, a)) := by
  have HB := Lib.hid (bx_new (dc := dc) hm hlt hd)
  have HGD := Lib.hid hg
  obtain ⟨P, hP⟩ : ∃ P, P = DoPost G (sval gT cT gB cB gH cH a) w (err 5, a) := ⟨_, rfl⟩
  have HP := Lib.hid hP
  rw [← hP]
  have HYhk := Lib.hid hk
  clear hk
  have HYh := Lib.hid h
  clear h
  clear hm hg hlt hd hP
  go_enter Try.func38, Try.ntmps38
  go_upto_region 1 with (fail)
  generalize ((w.alloc (.cells #[.slice (some ⟨gT, 0, none⟩) a.n cT, .slice (some ⟨gB, 0, none⟩) a.n cB, .slice (some ⟨gH, 0, none⟩) a.N cH] 44)).alloc (.cells #[.int .i64 o.k, .int .i64 o.p, .int .i64 o.h, .int .i64 o.o, .int .i64 o.n, .slice D dl dc] 25)).alloc (.cells #[.int .i64 0, .int .i64 0, .int .i64 0, .slice none 0 0] 27) = w0 at HB ⊢
  generalize w.heap.size = s at HB ⊢
  have s0 := HB.out.s0
  have s1 := HB.out.s1
  have s2 := HB.out.s2
  have o0 := HB.out.o0
  have o1 := HB.out.o1
  have o2 := HB.out.o2
  have o3 := HB.out.o3
  have o4 := HB.out.o4
  have o5 := HB.out.o5
  have h := HYh.out
  have hk := HYhk.out
  have HHE := Lib.hid (held_any (HB.out.sat HGD.out) (kc : Int) o.h)
  rw [h] at HHE
  clear h
  rcases hk with hk | hk | hk
  all_goals
    rw [hk] at o0
    go_wp2_with (first
      | (go_at_call 57; (with_reducible refine HHE.out.mono ?_); rintro e wh ⟨rfl, hgh⟩; have HGH := Lib.hid hgh; have s0 := hgh.cellN s0 id; have s1 := hgh.cellN s1 id; have s2 := hgh.cellN s2 id; have o0 := hgh.cellN o0 id; have o2 := hgh.cellN o2 id; have o3 := hgh.cellN o3 id; have o4 := hgh.cellN o4 id; have o5 := hgh.cellN o5 id; clear hgh)
      | (go_at_call 56; (with_reducible refine (fail_any _ 5).mono ?_); rintro e wf ⟨rfl, hgf⟩; obtain ⟨t0, t1, t2, t3, tf⟩ := HB.out.res (HGH.out.trans hgf); have HGF := Lib.hid (HGH.out.trans hgf); clear hgf))
    rw [HP.out]
    exact ret_res rfl rfl (HB.out.bad HGD.out HGF.out 5).1 rfl (HB.out.bad HGD.out HGF.out 5).2
set_option maxHeartbeats 4000000 in
set_option maxRecDepth 100000 in
theorem do_7 (hm : SM w G gT cT gB cB gH cH q cp a) (hg : MdM.Good a) (hlt : ∀ k, G k → k < w.heap.size) (hd : Sl w w.heap.size .u8 D dl o.d) (kc : Nat) (hkc : (kc : Int) < (a.N : Int)) (hk : o.k = 7) :
    Calls Try.prog 38 #[sval gT cT gB cB gH cH a, .int .i64 (kc : Int), .agg #[.int .i64 o.k, .int .i64 o.p, .int .i64 o.h, .int .i64 o.o, .int .i64 o.n, .slice D dl dc]] w (DoPost G (sval gT cT gB cB gH cH a) w (err 0, a)) := by
  have HB := Lib.hid (bx_new (dc := dc) hm hlt hd)
  have HGD := Lib.hid hg
  obtain ⟨P, hP⟩ : ∃ P, P = DoPost G (sval gT cT gB cB gH cH a) w (err 0, a) := ⟨_, rfl⟩
  have HP := Lib.hid hP
  rw [← hP]
  have HYhk := Lib.hid hk
  clear hk
  clear hm hg hlt hd hP
  go_enter Try.func38, Try.ntmps38
  go_upto_region 1 with (fail)
  generalize ((w.alloc (.cells #[.slice (some ⟨gT, 0, none⟩) a.n cT, .slice (some ⟨gB, 0, none⟩) a.n cB, .slice (some ⟨gH, 0, none⟩) a.N cH] 44)).alloc (.cells #[.int .i64 o.k, .int .i64 o.p, .int .i64 o.h, .int .i64 o.o, .int .i64 o.n, .slice D dl dc] 25)).alloc (.cells #[.int .i64 0, .int .i64 0, .int .i64 0, .slice none 0 0] 27) = w0 at HB ⊢
  generalize w.heap.size = s at HB ⊢
  have s0 := HB.out.s0
  have s1 := HB.out.s1
  have s2 := HB.out.s2
  have o0 := HB.out.o0
  have o1 := HB.out.o1
  have o2 := HB.out.o2
  have o3 := HB.out.o3
  have o4 := HB.out.o4
  have o5 := HB.out.o5
  have hk := HYhk.out
  rw [hk] at o0
  obtain ⟨t0, t1, t2, t3, tf⟩ := HB.out.res (kept_refl _ _)
  go_wp2
  rw [HP.out]
  exact ret_res rfl rfl (HB.out.bad HGD.out (kept_refl _ _) 0).1 rfl (HB.out.bad HGD.out (kept_refl _ _) 0).2
set_option maxHeartbeats 4000000 in
set_option maxRecDepth 100000 in
theorem do_6 (hm : SM w G gT cT gB cB gH cH q cp a) (hg : MdM.Good a) (hlt : ∀ k, G k → k < w.heap.size) (hd : Sl w w.heap.size .u8 D dl o.d) (kc : Nat) (hkc : (kc : Int) < (a.N : Int)) (hk : o.k = 6) (p : Nat) (hp : o.p = (p : Int)) (hpn : (p : Int) < (a.n : Int)) (hT : a.T p = true) :
    Calls Try.prog 38 #[sval gT cT gB cB gH cH a, .int .i64 (kc : Int), .agg #[.int .i64 o.k, .int .i64 o.p, .int .i64 o.h, .int .i64 o.o, .int .i64 o.n, .slice D dl dc]] w (DoPost G (sval gT cT gB cB gH cH a) w (err 0, a)) := by
  have HB := Lib.hid (bx_new (dc := dc) hm hlt hd)
  have HGD := Lib.hid hg
  obtain ⟨P, hP⟩ : ∃ P, P = DoPost G (sval gT cT gB cB gH cH a) w (err 0, a) := ⟨_, rfl⟩
  have HP := Lib.hid hP
  rw [← hP]
  have HPN := Lib.hid (show p < a.n by omega)
  have HYhk := Lib.hid hk
  clear hk
  have HYhp := Lib.hid hp
  clear hp
  have HYhT := Lib.hid hT
  clear hT
  clear hm hg hlt hd hP
  go_enter Try.func38, Try.ntmps38
  go_upto_region 1 with (fail)
  generalize ((w.alloc (.cells #[.slice (some ⟨gT, 0, none⟩) a.n cT, .slice (some ⟨gB, 0, none⟩) a.n cB, .slice (some ⟨gH, 0, none⟩) a.N cH] 44)).alloc (.cells #[.int .i64 o.k, .int .i64 o.p, .int .i64 o.h, .int .i64 o.o, .int .i64 o.n, .slice D dl dc] 25)).alloc (.cells #[.int .i64 0, .int .i64 0, .int .i64 0, .slice none 0 0] 27) = w0 at HB ⊢
  generalize w.heap.size = s at HB ⊢
  have s0 := HB.out.s0
  have s1 := HB.out.s1
  have s2 := HB.out.s2
  have o0 := HB.out.o0
  have o1 := HB.out.o1
  have o2 := HB.out.o2
  have o3 := HB.out.o3
  have o4 := HB.out.o4
  have o5 := HB.out.o5
  have hT := HYhT.out
  have hp := HYhp.out
  have hk := HYhk.out
  rw [hk] at o0
  rw [hp] at o1
  have tp : w0.cell? ⟨gT, p, none⟩ = some (.bool true) := by
    have := HB.out.sm.tb.cell (i := p) (by have := HPN.out; omega)
    unfold tcell at this
    rw [hT] at this
    exact this
  clear hT hp HYhT HYhp
  obtain ⟨t0, t1, t2, t3, tf⟩ := HB.out.res (kept_refl _ _)
  go_wp2
  rw [HP.out]
  exact ret_res rfl rfl (HB.out.bad HGD.out (kept_refl _ _) 0).1 rfl (HB.out.bad HGD.out (kept_refl _ _) 0).2
set_option maxHeartbeats 4000000 in
set_option maxRecDepth 100000 in
theorem do_2f (hm : SM w G gT cT gB cB gH cH q cp a) (hg : MdM.Good a) (hlt : ∀ k, G k → k < w.heap.size) (hd : Sl w w.heap.size .u8 D dl o.d) (kc : Nat) (hkc : (kc : Int) < (a.N : Int)) (hk : o.k = 2) (p : Nat) (hp : o.p = (p : Int)) (hpn : (p : Int) < (a.n : Int)) (hT : a.T p = true) (hf : a.free kc = -1) :
    Calls Try.prog 38 #[sval gT cT gB cB gH cH a, .int .i64 (kc : Int), .agg #[.int .i64 o.k, .int .i64 o.p, .int .i64 o.h, .int .i64 o.o, .int .i64 o.n, .slice D dl dc]] w (DoPost G (sval gT cT gB cB gH cH a) w (err 4, a)) := by
  have HB := Lib.hid (bx_new (dc := dc) hm hlt hd)
  have HGD := Lib.hid hg
  obtain ⟨P, hP⟩ : ∃ P, P = DoPost G (sval gT cT gB cB gH cH a) w (err 4, a) := ⟨_, rfl⟩
  have HP := Lib.hid hP
  rw [← hP]
  have HPN := Lib.hid (show p < a.n by omega)
  have HRM0 := Lib.hid (show kc < a.N by omega)
  have HYhk := Lib.hid hk
  clear hk
  have HYhp := Lib.hid hp
  clear hp
  have HYhT := Lib.hid hT
  clear hT
  have HYhf := Lib.hid hf
  clear hf
  clear hm hg hlt hd hP
  go_enter Try.func38, Try.ntmps38
  go_upto_region 1 with (fail)
  generalize ((w.alloc (.cells #[.slice (some ⟨gT, 0, none⟩) a.n cT, .slice (some ⟨gB, 0, none⟩) a.n cB, .slice (some ⟨gH, 0, none⟩) a.N cH] 44)).alloc (.cells #[.int .i64 o.k, .int .i64 o.p, .int .i64 o.h, .int .i64 o.o, .int .i64 o.n, .slice D dl dc] 25)).alloc (.cells #[.int .i64 0, .int .i64 0, .int .i64 0, .slice none 0 0] 27) = w0 at HB ⊢
  generalize w.heap.size = s at HB ⊢
  have s0 := HB.out.s0
  have s1 := HB.out.s1
  have s2 := HB.out.s2
  have o0 := HB.out.o0
  have o1 := HB.out.o1
  have o2 := HB.out.o2
  have o3 := HB.out.o3
  have o4 := HB.out.o4
  have o5 := HB.out.o5
  have hf := HYhf.out
  have hT := HYhT.out
  have hp := HYhp.out
  have hk := HYhk.out
  rw [hk] at o0
  rw [hp] at o1
  have tp : w0.cell? ⟨gT, p, none⟩ = some (.bool true) := by
    have := HB.out.sm.tb.cell (i := p) (by have := HPN.out; omega)
    unfold tcell at this
    rw [hT] at this
    exact this
  clear hT hp HYhT HYhp
  have HRM := Lib.hid (room_any (HB.out.sat HGD.out) HRM0.out)
  rw [show (!decide (a.free kc = -1)) = false by rw [hf]; rfl] at HRM
  clear hf
  go_wp2_with (first
    | (go_at_call 58; (with_reducible refine HRM.out.mono ?_); rintro e wr ⟨rfl, hgr⟩; have HGR := Lib.hid hgr; have s0 := hgr.cellN s0 id; have s1 := hgr.cellN s1 id; have s2 := hgr.cellN s2 id; have o0 := hgr.cellN o0 id; clear hgr)
    | (go_at_call 56; (with_reducible refine (fail_any _ 4).mono ?_); rintro e wf ⟨rfl, hgf⟩; obtain ⟨t0, t1, t2, t3, tf⟩ := HB.out.res (HGR.out.trans hgf); have HGF := Lib.hid (HGR.out.trans hgf); clear hgf))
  rw [HP.out]
  exact ret_res rfl rfl (HB.out.bad HGD.out HGF.out 4).1 rfl (HB.out.bad HGD.out HGF.out 4).2
set_option maxHeartbeats 4000000 in
set_option maxRecDepth 100000 in
theorem do_2 (hm : SM w G gT cT gB cB gH cH q cp a) (hg : MdM.Good a) (hlt : ∀ k, G k → k < w.heap.size) (hd : Sl w w.heap.size .u8 D dl o.d) (kc : Nat) (hkc : (kc : Int) < (a.N : Int)) (hk : o.k = 2) (p : Nat) (hp : o.p = (p : Int)) (hpn : (p : Int) < (a.n : Int)) (hT : a.T p = true) (j : Nat) (hf : a.free kc = (j : Int)) :
    Calls Try.prog 38 #[sval gT cT gB cB gH cH a, .int .i64 (kc : Int), .agg #[.int .i64 o.k, .int .i64 o.p, .int .i64 o.h, .int .i64 o.o, .int .i64 o.n, .slice D dl dc]] w (DoPost G (sval gT cT gB cB gH cH a) w (⟨0, (p : Int), (j : Int), []⟩, a.putH kc j (p : Int))) := by
  have HB := Lib.hid (bx_new (dc := dc) hm hlt hd)
  have HGD := Lib.hid hg
  obtain ⟨P, hP⟩ : ∃ P, P = DoPost G (sval gT cT gB cB gH cH a) w (⟨0, (p : Int), (j : Int), []⟩, a.putH kc j (p : Int)) := ⟨_, rfl⟩
  have HP := Lib.hid hP
  rw [← hP]
  have HPN := Lib.hid (show p < a.n by omega)
  have HRM0 := Lib.hid (show kc < a.N by omega)
  have HYhk := Lib.hid hk
  clear hk
  have HYhp := Lib.hid hp
  clear hp
  have HYhT := Lib.hid hT
  clear hT
  have HYhf := Lib.hid hf
  clear hf
  clear hm hg hlt hd hP
  go_enter Try.func38, Try.ntmps38
  go_upto_region 1 with (fail)
  generalize ((w.alloc (.cells #[.slice (some ⟨gT, 0, none⟩) a.n cT, .slice (some ⟨gB, 0, none⟩) a.n cB, .slice (some ⟨gH, 0, none⟩) a.N cH] 44)).alloc (.cells #[.int .i64 o.k, .int .i64 o.p, .int .i64 o.h, .int .i64 o.o, .int .i64 o.n, .slice D dl dc] 25)).alloc (.cells #[.int .i64 0, .int .i64 0, .int .i64 0, .slice none 0 0] 27) = w0 at HB ⊢
  generalize w.heap.size = s at HB ⊢
  have s0 := HB.out.s0
  have s1 := HB.out.s1
  have s2 := HB.out.s2
  have o0 := HB.out.o0
  have o1 := HB.out.o1
  have o2 := HB.out.o2
  have o3 := HB.out.o3
  have o4 := HB.out.o4
  have o5 := HB.out.o5
  have hf := HYhf.out
  have hT := HYhT.out
  have hp := HYhp.out
  have hk := HYhk.out
  have HTT := Lib.hid hT
  have HFF := Lib.hid hf
  rw [hk] at o0
  rw [hp] at o1
  have tp : w0.cell? ⟨gT, p, none⟩ = some (.bool true) := by
    have := HB.out.sm.tb.cell (i := p) (by have := HPN.out; omega)
    unfold tcell at this
    rw [hT] at this
    exact this
  clear hT hp HYhT HYhp
  have HRM := Lib.hid (room_any (HB.out.sat HGD.out) HRM0.out)
  rw [show (!decide (a.free kc = -1)) = true by rw [hf]; simp] at HRM
  clear hf
  go_wp2_with (first
    | (go_at_call 58; (with_reducible refine HRM.out.mono ?_); rintro e wr ⟨rfl, hgr⟩; have HGR := Lib.hid hgr; have HGV := Lib.hid (give_any ((HB.out.sat HGD.out).grow hgr) HRM0.out HFF.out HPN.out HTT.out); have s0 := hgr.cellN s0 id; have s1 := hgr.cellN s1 id; have s2 := hgr.cellN s2 id; have o0 := hgr.cellN o0 id; clear hgr)
    | (go_at_call 59; (with_reducible refine HGV.out.mono ?_); rintro e wg ⟨rfl, hsg, hkg⟩; have HSG := Lib.hid hsg; have HKG := Lib.hid (HGR.out.kept.trans hkg); obtain ⟨t0, t1, t2, t3, tf⟩ := HB.out.resK (HGR.out.kept.trans hkg); clear hsg hkg))
  rw [HP.out]
  exact ret_res rfl rfl (HB.out.finS HSG.out rfl rfl HKG.out 0 (p : Int) (j : Int)).1 rfl (HB.out.finS HSG.out rfl rfl HKG.out 0 (p : Int) (j : Int)).2
end
end Go.Proofs.Ytjdlpknflhgkfaa.MdE
