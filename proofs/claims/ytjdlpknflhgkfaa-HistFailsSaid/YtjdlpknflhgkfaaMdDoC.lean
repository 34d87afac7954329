/-
  The document's state (lavaboref13.S): Do, ways that store, more.
-/
import Derived.Test.YtjdlpknflhgkfaaMdDo
namespace Go.Proofs.Ytjdlpknflhgkfaa.MdG
open Go.ChangeShapes Go.WideShapes Go.ChangeAt Go.RowKit
open Go.Proofs.Ytjdlpknflhgkfaa.Mem Go.Proofs.Ytjdlpknflhgkfaa.Blk Go.Proofs.Ytjdlpknflhgkfaa.Cells Go.Proofs.Ytjdlpknflhgkfaa.Orow Go.Proofs.Ytjdlpknflhgkfaa.GrC Go.Proofs.Ytjdlpknflhgkfaa.Txt Go.Proofs.Ytjdlpknflhgkfaa.MdM Go.Proofs.Ytjdlpknflhgkfaa.MdC Go.Proofs.Ytjdlpknflhgkfaa.MdR Go.Proofs.Ytjdlpknflhgkfaa.MdD Go.Proofs.Ytjdlpknflhgkfaa.Stages Go.Proofs.Ytjdlpknflhgkfaa.Trees
open Go.Proofs.Ytjdlpknflhgkfaa.HdM (lst hnd cnt sum lst_eq hnd_at hnd_none hnd_cases cnt_yes cnt_no cnt_le sum_le)
section
variable {w : World} {G : Nat → Prop} {gT cT gB cB gH cH : Nat} {q cp : Nat → Nat} {a : Md} {o : MdOp} {D : Option Addr} {dl dc : Nat}
set_option maxHeartbeats 4000000 in
set_option maxRecDepth 100000 in
theorem do_4 (hm : SM w G gT cT gB cB gH cH q cp a) (hg : MdM.Good a) (hlt : ∀ k, G k → k < w.heap.size) (hd : Sl w w.heap.size .u8 D dl o.d) (kc : Nat) (hkc : (kc : Int) < (a.N : Int)) (hk : o.k = 4) (p : Nat) (hpn : p < a.n) (hh : a.held (kc : Int) o.h = (p : Int)) (hT : a.T p = true) (u : Nat) (ho : o.o = (u : Int)) (hum : u + dl ≤ 16) (hby : Bytes o.d) :
    Calls Try.prog 38 #[sval gT cT gB cB gH cH a, .int .i64 (kc : Int), .agg #[.int .i64 o.k, .int .i64 o.p, .int .i64 o.h, .int .i64 o.o, .int .i64 o.n, .slice D dl dc]] w (DoPost G (sval gT cT gB cB gH cH a) w (err 0, a.putB p (MdM.splice (a.B p) u o.d))) := by
  have HB := Lib.hid (bx_new (dc := dc) hm hlt hd)
  have HGD := Lib.hid hg
  obtain ⟨P, hP⟩ : ∃ P, P = DoPost G (sval gT cT gB cB gH cH a) w (err 0, a.putB p (MdM.splice (a.B p) u o.d)) := ⟨_, rfl⟩
  have HP := Lib.hid hP
  rw [← hP]
  have HBYT := Lib.hid hby
  clear hby
  have HYhk := Lib.hid hk
  clear hk
  have HYhh := Lib.hid hh
  clear hh
  have HYhT := Lib.hid hT
  clear hT
  have HYho := Lib.hid ho
  clear ho
  clear hm hg hlt hd hP
  go_enter Try.func38, Try.ntmps38
  go_upto_region 1 with (fail)
  generalize ((w.alloc (.cells #[.slice (some ⟨gT, 0, none⟩) a.n cT, .slice (some ⟨gB, 0, none⟩) a.n cB, .slice (some ⟨gH, 0, none⟩) a.N cH] 44)).alloc (.cells #[.int .i64 o.k, .int .i64 o.p, .int .i64 o.h, .int .i64 o.o, .int .i64 o.n, .slice D dl dc] 25)).alloc (.cells #[.int .i64 0, .int .i64 0, .int .i64 0, .slice none 0 0] 27) = w0 at HB ⊢
  generalize w.heap.size = s at HB ⊢
  have s0 := HB.out.s0
  have s1 := HB.out.s1
  have s2 := HB.out.s2
  have o0 := HB.out.o0
  have o1 := HB.out.o1
  have o2 := HB.out.o2
  have o3 := HB.out.o3
  have o4 := HB.out.o4
  have o5 := HB.out.o5
  have ho := HYho.out
  have hT := HYhT.out
  have hh := HYhh.out
  have hk := HYhk.out
  rw [hk] at o0
  rw [ho] at o3
  have HHE := Lib.hid (held_any (HB.out.sat HGD.out) (kc : Int) o.h)
  rw [hh] at HHE
  clear hh HYhh
  have cb : w0.cell? ⟨gB, p, none⟩ = some (.string (strOfNums (a.B p))) := HB.out.sm.bb.cell (i := p) (by omega)
  have hdl : o.d.length = dl := HB.out.da.len
  have hl16 := HGD.out.len p
  have HGN := Lib.hid (HGD.out.putB (q := p) (b := MdM.splice (a.B p) u o.d) hT (splice_len (b := a.B p) (d := o.d) (o := u) hl16 (by rw [hdl]; exact hum)) (splice_bytes (HGD.out.byt p) HBYT.out))
  have HPN := Lib.hid hpn
  have hpz : (p : Int) < (a.n : Int) := by omega
  have hszB : (strOfNums (a.B p)).size = 16 := by rw [str_size]; exact hl16
  have hext1 : (strOfNums (a.B p)).extract 0 u = strOfNums ((a.B p).take u) := str_take _ _
  have hext2 : (strOfNums (a.B p)).extract (u + dl) 16 = strOfNums ((a.B p).drop (u + dl)) := str_drop _ _ _ hl16 (by omega)
  have htn : ((u : Int) + (dl : Int)).toNat = u + dl := by omega
  have hoz0 : (u : Int) ≤ 16 := by omega
  have hoz1 : (dl : Int) ≤ 16 - (u : Int) := by omega
  have hoz3 : (0 : Int) ≤ (u : Int) + (dl : Int) := by omega
  have hsz1 : ((strOfNums ((a.B p).take u)).size : Int) ≤ 8388608 := by rw [str_size, List.length_take]; omega
  have hsz2 : ((strOfNums o.d).size : Int) ≤ 8388608 := by rw [str_size]; omega
  have hsz3 : ((strOfNums ((a.B p).take u ++ o.d)).size : Int) ≤ 8388608 := by rw [str_size, List.length_append, List.length_take]; omega
  have hsz4 : ((strOfNums ((a.B p).drop (u + dl))).size : Int) ≤ 8388608 := by rw [str_size, List.length_drop]; omega
  have hap1 := str_append ((a.B p).take u) o.d
  have hap2 : strOfNums ((a.B p).take u ++ o.d) ++ strOfNums ((a.B p).drop (u + dl)) = strOfNums (MdM.splice (a.B p) u o.d) := by
    rw [str_append]
    unfold MdM.splice
    rw [hdl]
  have hoz : (u : Int) + (dl : Int) ≤ 16 := by omega
  clear ho hk hum hl16 hpn HYho HYhk hdl
  go_upto_region 35 with ((go_at_call 57; (with_reducible refine HHE.out.mono ?_); rintro e wh ⟨rfl, hgh⟩; have HGH := Lib.hid hgh; have s0 := hgh.cellN s0 id; have s1 := hgh.cellN s1 id; have s2 := hgh.cellN s2 id; have o0 := hgh.cellN o0 id; have o2 := hgh.cellN o2 id; have o3 := hgh.cellN o3 id; have o4 := hgh.cellN o4 id; have o5 := hgh.cellN o5 id; have cb := hgh.cellN cb id; have HDA := Lib.hid (Blk.Sl.kept HB.out.da hgh (Nat.le_of_lt HB.out.sb.lt) fun _ _ x => x); clear hgh))
  have HGD2 : Hid (Grow w0 wh.drew) := HGH.out.drew
  have HNE := Lib.hid (HB.out.lt _ HB.out.sm.inG.2.1)
  have hb5 := (HB.out.sm.bb.kept HGD2.out id)
  have hf5 := hb5.frozen p
  have q0 := up_cell (F := fun _ => False) (w := wh.drew) (p := ⟨s, 1, none⟩) s1 id
  have q1 := up_cell (F := fun _ => False) (w := wh.drew) (p := ⟨s + 1, 3, none⟩) o3 id
  have q2 := up_cell (F := fun _ => False) (w := wh.drew) (p := ⟨s + 1, 5, none⟩) o5 id
  have q3 := up_cell (F := fun _ => False) (w := wh.drew) (p := ⟨gB, p, none⟩) cb id
  have q4 := up_run (F := fun _ => False) (P := Try.prog) (w := wh.drew) fun w' hk => (Blk.Sl.kept HDA.out ((Kept.drew' wh).trans hk) (Nat.le_trans (Nat.le_of_lt HB.out.sb.lt) HGH.out.size) (fun _ _ x => x)).str 23 9 5 Try.underlying23 Try.underlying5 Try.underlying9 dc
  have HSM : Hid (SM (wh.setCell ⟨gB, p, none⟩ (.string (strOfNums (MdM.splice (a.B p) u o.d)))).drew G gT cT gB cB gH cH q cp (a.putB p (MdM.splice (a.B p) u o.d))) := (HB.out.sm.kept HGD2.out fun _ _ x => x).putB p (MdM.splice (a.B p) u o.d)
  clear hb5
  refine wp_region_tree Grow (Kept (· = gB)) (kept_refl _) (kept_trans _) (kept_refl _) (kept_trans _) (fun _ _ h => h.mono fun _ _ x => x.elim) [29]
    (.one true [0, 1, 2, 3, 4, 5, 6, 7, 8, 9, 10, 11, 12, 13, 14, 15, 16, 17, 18, 19, 20, 21, 22, 23, 24, 25, 26, 27, 28] 29 (.last false [])) (by kernel_rfl) (by kernel_rfl) ?_
  refine tr_oneE fun K hK => ?_
  simp only [sel, List.map_cons, List.map_nil, List.getD_cons_succ, List.getD_cons_zero]
  repeat (go_big_quiet_step (fail))
  refine wpQuiet_nil ?_
  clear q0 q1 q2 q3 q4 hap1 hap2 hext1 hext2
  go_wp2
  refine norm_up (hK _ _ (Lr_late (by decide) (kept_set wh.drew gB p (.string (strOfNums (MdM.splice (a.B p) u o.d))))) ?_)
  clear hK K cb hf5 s1 o3 o5
  refine tr_lastL fun K hK => ?_
  simp only [sel, List.map_nil]
  refine wpQuiet_nil (hK _ ?_)
  clear hK K
  have HK5 : Hid (Kept G w0 (wh.setCell ⟨gB, p, none⟩ (.string (strOfNums (MdM.splice (a.B p) u o.d)))).drew) := HGD2.out.kept.trans ((kept_set wh.drew gB p (.string (strOfNums (MdM.splice (a.B p) u o.d)))).mono fun k _ e => by rw [e]; exact HB.out.sm.inG.2.1)
  generalize (wh.setCell ⟨gB, p, none⟩ (.string (strOfNums (MdM.splice (a.B p) u o.d)))).drew = w5 at HSM HK5 ⊢
  obtain ⟨t0, t1, t2, t3, tf⟩ := HB.out.resK HK5.out
  go_wp2
  rw [HP.out]
  have hfin := HB.out.fin HSM.out HGN.out rfl rfl HK5.out 0 0 0
  exact ret_res rfl rfl hfin.1 rfl hfin.2
set_option maxHeartbeats 4000000 in
set_option maxRecDepth 100000 in
theorem do_1f (hm : SM w G gT cT gB cB gH cH q cp a) (hg : MdM.Good a) (hlt : ∀ k, G k → k < w.heap.size) (hd : Sl w w.heap.size .u8 D dl o.d) (kc : Nat) (hkc : (kc : Int) < (a.N : Int)) (hk : o.k = 1) (hf : a.free kc = -1) :
    Calls Try.prog 38 #[sval gT cT gB cB gH cH a, .int .i64 (kc : Int), .agg #[.int .i64 o.k, .int .i64 o.p, .int .i64 o.h, .int .i64 o.o, .int .i64 o.n, .slice D dl dc]] w (DoPost G (sval gT cT gB cB gH cH a) w (err 4, a)) := by
  have HB := Lib.hid (bx_new (dc := dc) hm hlt hd)
  have HGD := Lib.hid hg
  obtain ⟨P, hP⟩ : ∃ P, P = DoPost G (sval gT cT gB cB gH cH a) w (err 4, a) := ⟨_, rfl⟩
  have HP := Lib.hid hP
  rw [← hP]
  have HRM0 := Lib.hid (show kc < a.N by omega)
  have HYhk := Lib.hid hk
  clear hk
  have HYhf := Lib.hid hf
  clear hf
  clear hm hg hlt hd hP
  go_enter Try.func38, Try.ntmps38
  go_upto_region 1 with (fail)
  generalize ((w.alloc (.cells #[.slice (some ⟨gT, 0, none⟩) a.n cT, .slice (some ⟨gB, 0, none⟩) a.n cB, .slice (some ⟨gH, 0, none⟩) a.N cH] 44)).alloc (.cells #[.int .i64 o.k, .int .i64 o.p, .int .i64 o.h, .int .i64 o.o, .int .i64 o.n, .slice D dl dc] 25)).alloc (.cells #[.int .i64 0, .int .i64 0, .int .i64 0, .slice none 0 0] 27) = w0 at HB ⊢
  generalize w.heap.size = s at HB ⊢
  have s0 := HB.out.s0
  have s1 := HB.out.s1
  have s2 := HB.out.s2
  have o0 := HB.out.o0
  have o1 := HB.out.o1
  have o2 := HB.out.o2
  have o3 := HB.out.o3
  have o4 := HB.out.o4
  have o5 := HB.out.o5
  have hf := HYhf.out
  have hk := HYhk.out
  rw [hk] at o0
  clear hk HYhk
  have HRM := Lib.hid (room_any (HB.out.sat HGD.out) HRM0.out)
  rw [show (!decide (a.free kc = -1)) = false by rw [hf]; rfl] at HRM
  clear hf
  go_wp2_with (first
    | (go_at_call 58; (with_reducible refine HRM.out.mono ?_); rintro e wr ⟨rfl, hgr⟩; have HGR := Lib.hid hgr; have s0 := hgr.cellN s0 id; have s1 := hgr.cellN s1 id; have s2 := hgr.cellN s2 id; have o0 := hgr.cellN o0 id; clear hgr)
    | (go_at_call 56; (with_reducible refine (fail_any _ 4).mono ?_); rintro e wf ⟨rfl, hgf⟩; obtain ⟨t0, t1, t2, t3, tf⟩ := HB.out.res (HGR.out.trans hgf); have HGF := Lib.hid (HGR.out.trans hgf); clear hgf))
  rw [HP.out]
  exact ret_res rfl rfl (HB.out.bad HGD.out HGF.out 4).1 rfl (HB.out.bad HGD.out HGF.out 4).2
set_option maxHeartbeats 4000000 in
set_option maxRecDepth 100000 in
theorem do_1g (hm : SM w G gT cT gB cB gH cH q cp a) (hg : MdM.Good a) (hlt : ∀ k, G k → k < w.heap.size) (hd : Sl w w.heap.size .u8 D dl o.d) (kc : Nat) (hkc : (kc : Int) < (a.N : Int)) (hk : o.k = 1) (j : Nat) (hf : a.free kc = (j : Int)) (hgap : a.gap = a.n) :
    Calls Try.prog 38 #[sval gT cT gB cB gH cH a, .int .i64 (kc : Int), .agg #[.int .i64 o.k, .int .i64 o.p, .int .i64 o.h, .int .i64 o.o, .int .i64 o.n, .slice D dl dc]] w (DoPost G (sval gT cT gB cB gH cH a) w (err 3, a)) := by
  have HB := Lib.hid (bx_new (dc := dc) hm hlt hd)
  have HGD := Lib.hid hg
  obtain ⟨P, hP⟩ : ∃ P, P = DoPost G (sval gT cT gB cB gH cH a) w (err 3, a) := ⟨_, rfl⟩
  have HP := Lib.hid hP
  rw [← hP]
  have HRM0 := Lib.hid (show kc < a.N by omega)
  have HGA := Lib.hid (gap_le a)
  have HYhk := Lib.hid hk
  clear hk
  have HYhf := Lib.hid hf
  clear hf
  have HYhgap := Lib.hid hgap
  clear hgap
  clear hm hg hlt hd hP
  go_enter Try.func38, Try.ntmps38
  go_upto_region 1 with (fail)
  generalize ((w.alloc (.cells #[.slice (some ⟨gT, 0, none⟩) a.n cT, .slice (some ⟨gB, 0, none⟩) a.n cB, .slice (some ⟨gH, 0, none⟩) a.N cH] 44)).alloc (.cells #[.int .i64 o.k, .int .i64 o.p, .int .i64 o.h, .int .i64 o.o, .int .i64 o.n, .slice D dl dc] 25)).alloc (.cells #[.int .i64 0, .int .i64 0, .int .i64 0, .slice none 0 0] 27) = w0 at HB ⊢
  generalize w.heap.size = s at HB ⊢
  have s0 := HB.out.s0
  have s1 := HB.out.s1
  have s2 := HB.out.s2
  have o0 := HB.out.o0
  have o1 := HB.out.o1
  have o2 := HB.out.o2
  have o3 := HB.out.o3
  have o4 := HB.out.o4
  have o5 := HB.out.o5
  have hgap := HYhgap.out
  have hf := HYhf.out
  have hk := HYhk.out
  rw [hk] at o0
  clear hk HYhk
  have HRM := Lib.hid (room_any (HB.out.sat HGD.out) HRM0.out)
  rw [show (!decide (a.free kc = -1)) = true by rw [hf]; simp] at HRM
  clear hf hgap
  go_wp2_with (go_at_call 58; (with_reducible refine HRM.out.mono ?_); rintro e wr ⟨rfl, hgr⟩; have HGR := Lib.hid hgr; have s0 := hgr.cellN s0 id; have s1 := hgr.cellN s1 id; have s2 := hgr.cellN s2 id; have o0 := hgr.cellN o0 id; clear hgr)
  have HTB := Lib.hid (HB.out.sm.tb.kept HGR.out id)
  have hnz : (a.n : Int) ≤ 48 := by have := HGD.out.n; omega
  obtain ⟨wq, rfl⟩ : ∃ wq, wq = wr := ⟨_, rfl⟩
  go_loopg [7] a.n (fun gx i wr => ∃ t : Nat, t + gx = a.n ∧ i = .int .i64 (t : Int) ∧ wq = wr ∧ t ≤ a.gap)
  case atStart => exact ⟨0, by omega, rfl, rfl, Nat.zero_le _⟩
  case round =>
    obtain ⟨t, hg, rfl, rfl, hle⟩ := hrel
    have HG := Lib.hid hg
    have HLE := Lib.hid hle
    clear hg hle
    by_cases ht : t < a.gap
    · have htn : t < a.n := Nat.lt_of_lt_of_le ht HGA.out
      have htz : (t : Int) < (a.n : Int) := by omega
      have hc := HTB.out.cell (i := t) (by omega)
      unfold tcell at hc
      rw [gap_there ht] at hc
      have HT := Lib.hid ht
      clear ht htn
      go_wp2
      go_roundg (gk - 1)
      case measure => have := HG.out; have := HT.out; have := HGA.out; omega
      case rel => exact ⟨t + 1, by have := HG.out; have := HT.out; have := HGA.out; omega, by go_num, rfl, by have := HT.out; omega⟩
    · have he : t = a.n := by have := HLE.out; have := HYhgap.out; omega
      subst he
      clear ht HYhgap
      go_wp2_with (go_at_call 56; (with_reducible refine (fail_any _ 3).mono ?_); rintro e wf ⟨rfl, hgf⟩; obtain ⟨t0, t1, t2, t3, tf⟩ := HB.out.res (HGR.out.trans hgf); have HGF := Lib.hid (HGR.out.trans hgf); clear hgf)
      rw [HP.out]
      exact ret_res rfl rfl (HB.out.bad HGD.out HGF.out 3).1 rfl (HB.out.bad HGD.out HGF.out 3).2
set_option maxHeartbeats 4000000 in
set_option maxRecDepth 100000 in
theorem do_1 (hm : SM w G gT cT gB cB gH cH q cp a) (hg : MdM.Good a) (hlt : ∀ k, G k → k < w.heap.size) (hd : Sl w w.heap.size .u8 D dl o.d) (kc : Nat) (hkc : (kc : Int) < (a.N : Int)) (hk : o.k = 1) (j : Nat) (hf : a.free kc = (j : Int)) (p : Nat) (hgap : a.gap = p) (hpn : p < a.n) :
    Calls Try.prog 38 #[sval gT cT gB cB gH cH a, .int .i64 (kc : Int), .agg #[.int .i64 o.k, .int .i64 o.p, .int .i64 o.h, .int .i64 o.o, .int .i64 o.n, .slice D dl dc]] w (DoPost G (sval gT cT gB cB gH cH a) w (⟨0, (p : Int), (j : Int), []⟩, (a.putT p true).putH kc j (p : Int))) := by
  have HB := Lib.hid (bx_new (dc := dc) hm hlt hd)
  have HGD := Lib.hid hg
  obtain ⟨P, hP⟩ : ∃ P, P = DoPost G (sval gT cT gB cB gH cH a) w (⟨0, (p : Int), (j : Int), []⟩, (a.putT p true).putH kc j (p : Int)) := ⟨_, rfl⟩
  have HP := Lib.hid hP
  rw [← hP]
  have HRM0 := Lib.hid (show kc < a.N by omega)
  have HGA := Lib.hid (gap_le a)
  have HYhk := Lib.hid hk
  clear hk
  have HYhf := Lib.hid hf
  clear hf
  have HYhgap := Lib.hid hgap
  clear hgap
  clear hm hg hlt hd hP
  go_enter Try.func38, Try.ntmps38
  go_upto_region 1 with (fail)
  generalize ((w.alloc (.cells #[.slice (some ⟨gT, 0, none⟩) a.n cT, .slice (some ⟨gB, 0, none⟩) a.n cB, .slice (some ⟨gH, 0, none⟩) a.N cH] 44)).alloc (.cells #[.int .i64 o.k, .int .i64 o.p, .int .i64 o.h, .int .i64 o.o, .int .i64 o.n, .slice D dl dc] 25)).alloc (.cells #[.int .i64 0, .int .i64 0, .int .i64 0, .slice none 0 0] 27) = w0 at HB ⊢
  generalize w.heap.size = s at HB ⊢
  have s0 := HB.out.s0
  have s1 := HB.out.s1
  have s2 := HB.out.s2
  have o0 := HB.out.o0
  have o1 := HB.out.o1
  have o2 := HB.out.o2
  have o3 := HB.out.o3
  have o4 := HB.out.o4
  have o5 := HB.out.o5
  have hgap := HYhgap.out
  have hf := HYhf.out
  have hk := HYhk.out
  rw [hk] at o0
  clear hk HYhk
  have HRM := Lib.hid (room_any (HB.out.sat HGD.out) HRM0.out)
  rw [show (!decide (a.free kc = -1)) = true by rw [hf]; simp] at HRM
  clear hf hgap
  have HPN := Lib.hid hpn
  clear hpn
  go_wp2_with (go_at_call 58; (with_reducible refine HRM.out.mono ?_); rintro e wr ⟨rfl, hgr⟩; have HGR := Lib.hid hgr; have s0 := hgr.cellN s0 id; have s1 := hgr.cellN s1 id; have s2 := hgr.cellN s2 id; have o0 := hgr.cellN o0 id; clear hgr)
  have HTB := Lib.hid (HB.out.sm.tb.kept HGR.out id)
  have hnz : (a.n : Int) ≤ 48 := by have := HGD.out.n; omega
  obtain ⟨wq, rfl⟩ : ∃ wq, wq = wr := ⟨_, rfl⟩
  go_loopg [7] a.n (fun gx i wr => ∃ t : Nat, t + gx = a.n ∧ i = .int .i64 (t : Int) ∧ wq = wr ∧ t ≤ a.gap)
  case atStart => exact ⟨0, by omega, rfl, rfl, Nat.zero_le _⟩
  case round =>
    obtain ⟨t, hg, rfl, rfl, hle⟩ := hrel
    have HG := Lib.hid hg
    have HLE := Lib.hid hle
    clear hg hle
    by_cases ht : t < a.gap
    · have htn : t < a.n := Nat.lt_of_lt_of_le ht HGA.out
      have htz : (t : Int) < (a.n : Int) := by omega
      have hc := HTB.out.cell (i := t) (by omega)
      unfold tcell at hc
      rw [gap_there ht] at hc
      have HT := Lib.hid ht
      clear ht htn
      go_wp2
      go_roundg (gk - 1)
      case measure => have := HG.out; have := HT.out; have := HGA.out; omega
      case rel => exact ⟨t + 1, by have := HG.out; have := HT.out; have := HGA.out; omega, by go_num, rfl, by have := HT.out; omega⟩
    · have he : t = p := by have := HLE.out; have := HYhgap.out; omega
      subst he
      have hc := HTB.out.cell (i := t) (by have := HPN.out; omega)
      unfold tcell at hc
      rw [gap_free HYhgap.out HPN.out] at hc
      have htz : (t : Int) < (a.n : Int) := by have := HPN.out; omega
      have hne : ((t : Int) == (a.n : Int)) = false := by rw [beq_eq_false_iff_ne]; omega
      have HGN := Lib.hid (HGD.out.putT t true (.inl rfl))
      clear ht
      go_upto_region 22 with (fail)
      clear hc
      have HNE := Lib.hid (And.intro (HB.out.lt _ HB.out.sm.inG.1) (HB.out.lt _ HB.out.sm.inG.2.1))
      have HG2 : Hid (Grow w0 wq.drew) := HGR.out.drew
      have q0 := up_cell (F := fun k => k = gT ∨ k = gB) (w := wq.drew) (p := ⟨s, 0, none⟩) s0 (fun e => by have e : s = gT ∨ s = gB := e; have h1 := HNE.out; omega)
      have q1 := up_cell (F := fun k => k = gT ∨ k = gB) (w := wq.drew) (p := ⟨s, 1, none⟩) s1 (fun e => by have e : s = gT ∨ s = gB := e; have h1 := HNE.out; omega)
      refine wp_region_stages (Kept (fun k => k = gT ∨ k = gB)) (kept_refl _) (kept_trans _) [([0, 1, 2, 3, 4, 5], 6), ([7], 8), ([9], 10)] [] (by kernel_rfl) (by kernel_rfl) ?_
      simp only [selSt, sel, List.map_cons, List.map_nil, List.getD_cons_succ, List.getD_cons_zero]
      refine st_cons fun K1 hK1 => ?_
      repeat (go_big_quiet_step (fail))
      refine wpQuiet_nil ?_
      clear q0 q1
      go_wp2_with (go_at_call 51; (with_reducible refine (zeros_any _).mono ?_); rintro e wz ⟨rfl, hgz⟩; have HGZ := Lib.hid hgz; clear hgz)
      refine norm_up (hK1 _ _ HGZ.out.kept ?_)
      clear hK1 K1
      have HG3 : Hid (Grow w0 wz) := HG2.out.trans HGZ.out
      have HS3 := Lib.hid (HB.out.sm.kept HG3.out fun _ _ x => x)
      have hr1 := HS3.out.tb.cell (i := t) (by have := HPN.out; omega)
      have hf1 := HS3.out.tb.frozen t
      unfold tcell at hr1
      have HS4 : Hid (SM (wz.setCell ⟨gT, t, none⟩ (.bool true)) G gT cT gB cB gH cH q cp ⟨a.n, a.N, upd a.T t true, a.B, a.H⟩) := HS3.out.flag t true
      have HK4 : Hid (Kept (fun k => k = gT ∨ k = gB) wz (wz.setCell ⟨gT, t, none⟩ (.bool true))) := (kept_set wz gT t (.bool true)).mono fun k _ e => .inl e
      refine st_cons fun K2 hK2 => ?_
      repeat (go_big_quiet_step (fail))
      refine wpQuiet_nil ?_
      generalize a.T t = told at hr1
      go_wp2
      clear hr1 hf1
      refine norm_up (hK2 _ _ HK4.out ?_)
      clear hK2 K2
      generalize wz.setCell ⟨gT, t, none⟩ (.bool true) = wy at HS4 HK4 ⊢
      have hr2 := HS4.out.bb.cell (i := t) (by have := HPN.out; show t < a.n * 1; omega)
      have hf2 := HS4.out.bb.frozen t
      unfold bcell at hr2
      have HS5 : Hid (SM (wy.setCell ⟨gB, t, none⟩ (.string (strOfNums zeros))) G gT cT gB cB gH cH q cp (a.putT t true)) := HS4.out.putB t zeros
      have HK5 : Hid (Kept (fun k => k = gT ∨ k = gB) wy (wy.setCell ⟨gB, t, none⟩ (.string (strOfNums zeros)))) := (kept_set wy gB t (.string (strOfNums zeros))).mono fun k _ e => .inr e
      refine st_cons fun K3 hK3 => ?_
      repeat (go_big_quiet_step (fail))
      refine wpQuiet_nil ?_
      generalize strOfNums ((⟨a.n, a.N, upd a.T t true, a.B, a.H⟩ : Md).B t) = sold at hr2
      go_wp2
      clear hr2 hf2
      refine norm_up (hK3 _ _ HK5.out (st_nil fun K4 hK4 => wpQuiet_nil (hK4 _ ?_)))
      clear hK3 K3 hK4 K4
      have HK6 : Hid (Kept G w0 (wy.setCell ⟨gB, t, none⟩ (.string (strOfNums zeros)))) := HG3.out.kept.trans ((HK4.out.trans HK5.out).mono fun k _ e => by
        rcases e with e | e
        · rw [e]; exact HB.out.sm.inG.1
        · rw [e]; exact HB.out.sm.inG.2.1)
      generalize wy.setCell ⟨gB, t, none⟩ (.string (strOfNums zeros)) = w5 at HS5 HK6 ⊢
      clear HS4 HK4 HK5
      have HGV := Lib.hid (give_any (v := sval gT cT gB cB gH cH a) (a := a.putT t true) ⟨HGN.out, gT, cT, gB, cB, gH, cH, q, cp, rfl, HS5.out⟩ (k := kc) (j := j) HRM0.out HYhf.out HPN.out (upd_same a.T t true))
      have z0 := HB.out.s0K HK6.out
      have z1 := HB.out.s1K HK6.out
      have z2 := HB.out.s2K HK6.out
      go_wp2_with (go_at_call 59; (with_reducible refine HGV.out.mono ?_); rintro e wg ⟨rfl, hsg, hkg⟩; have HSG := Lib.hid hsg; have HKG := Lib.hid (HK6.out.trans hkg); obtain ⟨t0, t1, t2, t3, tf⟩ := HB.out.resK (HK6.out.trans hkg); clear hsg hkg)
      rw [HP.out]
      have hfin := HB.out.finS HSG.out rfl rfl HKG.out 0 (t : Int) (j : Int)
      exact ret_res rfl rfl hfin.1 rfl hfin.2
end
end Go.Proofs.Ytjdlpknflhgkfaa.MdG
