/-
  Package model: step. Written by wip/tools/genpmstep4.py.
-/
import Derived.Test.YtjdlpknflhgkfaaPmStep3
namespace Go.Proofs.Ytjdlpknflhgkfaa.PmW
open Go.ChangeShapes Go.WideShapes Go.ChangeAt Go.RowKit
open Go.Proofs.Ytjdlpknflhgkfaa.Mem Go.Proofs.Ytjdlpknflhgkfaa.Blk Go.Proofs.Ytjdlpknflhgkfaa.Cells Go.Proofs.Ytjdlpknflhgkfaa.Orow Go.Proofs.Ytjdlpknflhgkfaa.GrC Go.Proofs.Ytjdlpknflhgkfaa.MdM Go.Proofs.Ytjdlpknflhgkfaa.MdC Go.Proofs.Ytjdlpknflhgkfaa.MdR Go.Proofs.Ytjdlpknflhgkfaa.MdD Go.Proofs.Ytjdlpknflhgkfaa.PmC Go.Proofs.Ytjdlpknflhgkfaa.PmI Go.Proofs.Ytjdlpknflhgkfaa.PmM Go.Proofs.Ytjdlpknflhgkfaa.PmP Go.Proofs.Ytjdlpknflhgkfaa.PmT Go.Proofs.Ytjdlpknflhgkfaa.PmU Go.Proofs.Ytjdlpknflhgkfaa.PmV Go.Proofs.Ytjdlpknflhgkfaa.Stages

section
variable {w w0 w1 : World} {G F X : Nat → Prop} {v : Value} {gT cT gB cB gH cH r s : Nat} {qb cb q cp : Nat → Nat} {a a' : Md} {k : Nat} {o : MdOp} {D A : Option Addr} {dl dc n cap : Nat} {zs : List Int}
theorem run_1 (hk : k < a.N) (e : o.k = 1) : a.run (k : Int) o = a.new k := by
  unfold Md.run
  rw [if_neg (by omega), if_pos e]
  rw [Int.toNat_natCast]
theorem run_2 (hk : k < a.N) (e : o.k = 2) : a.run (k : Int) o = a.onPage o.p (a.fetch k) := by
  unfold Md.run
  rw [if_neg (by omega), if_neg (by omega), if_pos e]
  rw [Int.toNat_natCast]
theorem run_3 (hk : k < a.N) (e : o.k = 3) : a.run (k : Int) o = a.onHand (k : Int) o.h (a.read o.o o.n) := by
  unfold Md.run
  rw [if_neg (by omega), if_neg (by omega), if_neg (by omega), if_pos e]
theorem run_4 (hk : k < a.N) (e : o.k = 4) : a.run (k : Int) o = a.onHand (k : Int) o.h (a.write o.o o.d) := by
  unfold Md.run
  rw [if_neg (by omega), if_neg (by omega), if_neg (by omega), if_neg (by omega), if_pos e]
theorem run_5 (hk : k < a.N) (e : o.k = 5) : a.run (k : Int) o = a.onHand (k : Int) o.h fun _ => (err 0, a.putH (k : Int).toNat o.h.toNat (-1)) := by
  unfold Md.run
  rw [if_neg (by omega), if_neg (by omega), if_neg (by omega), if_neg (by omega), if_neg (by omega), if_pos e]
theorem run_6 (hk : k < a.N) (e : o.k = 6) : a.run (k : Int) o = a.onPage o.p fun _ => (err 0, a) := by
  unfold Md.run
  rw [if_neg (by omega), if_neg (by omega), if_neg (by omega), if_neg (by omega), if_neg (by omega), if_neg (by omega), if_pos e]
theorem run_7 (hk : k < a.N) (e : o.k = 7) : a.run (k : Int) o = (err 0, a) := by
  unfold Md.run
  rw [if_neg (by omega), if_neg (by omega), if_neg (by omega), if_neg (by omega), if_neg (by omega), if_neg (by omega), if_neg (by omega), if_pos e]
theorem run_8 (hk : k < a.N) (e : o.k = 8) : a.run (k : Int) o = a.onPage o.p a.del := by
  unfold Md.run
  rw [if_neg (by omega), if_neg (by omega), if_neg (by omega), if_neg (by omega), if_neg (by omega), if_neg (by omega), if_neg (by omega), if_neg (by omega)]
theorem run_none {c : Int} (h1 : ¬ o.k = 1) (h2 : ¬ o.k = 2) (h3 : ¬ o.k = 3) (h4 : ¬ o.k = 4) (h5 : ¬ o.k = 5) (h6 : ¬ o.k = 6) (h7 : ¬ o.k = 7) (h8 : ¬ o.k = 8) : a.run c o = (err 1, a) := by
  unfold Md.run
  rw [if_pos (by omega)]
theorem run_out {c : Int} (h : ¬ (0 ≤ c ∧ c < (a.N : Int))) : a.run c o = (err 1, a) := by
  unfold Md.run
  rw [if_pos (.inl h)]
theorem fin_r {x y z d : Value} (hlt : ∀ k, G k → k < w.heap.size) (hb : Blk w1 r 27 [x, y, z, d]) (hr : w.heap.size ≤ r) (hs : PAt w1 G v a') (hk : Kept G w w1) (hz : Sl w1 w1.heap.size .u8 A n zs) (hA : 0 < n → ∀ x, A = some x → w.heap.size ≤ x.block ∧ x.block ≠ r) (hf : Fz w1 A n) (c p h : Int) :
    Blk (put4 w1 r (.int .i64 c) (.int .i64 p) (.int .i64 h) (.slice A n cap)) r 27 [.int .i64 c, .int .i64 p, .int .i64 h, .slice A n cap] ∧
    PPost G v w (⟨c, p, h, zs⟩, a') (.returned (.agg #[.int .i64 c, .int .i64 p, .int .i64 h, .slice A n cap])) (put4 w1 r (.int .i64 c) (.int .i64 p) (.int .i64 h) (.slice A n cap)) := by
  refine ⟨put4_blk hb, ⟨_, rfl, A, n, cap, rfl, ⟨hz.1, fun hn => ?_⟩, fun hn x e => (hA hn x e).1, hf.kept (put4_kept w1 r _ _ _ _) fun hn x e => ⟨sl_lt hz hn e, (hA hn x e).2⟩⟩, hs.kept (put4_kept w1 r _ _ _ _) fun k hG e => ?_, hk.then (put4_kept w1 r _ _ _ _) fun k hk e => ?_⟩
  · obtain ⟨b, off, e, hb, hc⟩ := hz.2 hn
    exact ⟨b, off, e, Nat.lt_of_lt_of_le hb (put4_kept w1 r _ _ _ _).size, fun j hj => (put4_kept w1 r _ _ _ _).cellN (hc j hj) (hA hn _ e).2⟩
  · have := hlt k hG
    have e : k = r := e
    omega
  · have e : k = r := e
    omega
theorem fr2_finR {R : Re} (H : Fr2 w w0 s gT cT gB cB gH cH a o D dl dc) (hlt : ∀ k, G k → k < w.heap.size) (hk : Kept G w0 w1) (hs : PAt w1 G v a') (hz : Sl w1 w1.heap.size .u8 A n R.d) (hA : 0 < n → ∀ x, A = some x → w0.heap.size ≤ x.block) (hf : Fz w1 A n) :
    Blk (put4 w1 (s + 1 + 1) (.int .i64 R.c) (.int .i64 R.p) (.int .i64 R.h) (.slice A n cap)) (s + 1 + 1) 27 [.int .i64 R.c, .int .i64 R.p, .int .i64 R.h, .slice A n cap] ∧
    PPost G v w (R, a') (.returned (.agg #[.int .i64 R.c, .int .i64 R.p, .int .i64 R.h, .slice A n cap])) (put4 w1 (s + 1 + 1) (.int .i64 R.c) (.int .i64 R.p) (.int .i64 R.h) (.slice A n cap)) := by
  have hsz := H.sz
  have hl := H.rb.lt
  exact fin_r hlt (H.rb.kept hk fun x => by have := hlt _ x; omega) (by omega) hs (H.gr.kept.trans hk) hz (fun hn x e => by have := hA hn x e; omega) hf R.c R.p R.h
set_option maxHeartbeats 8000000 in
theorem step_any (h : St0 w G gT cT gB cB gH cH qb cb q cp a) (hk : k < a.N) (h63 : o.o ≤ 9223372036854775807) (hd : Sl w w.heap.size .u8 D dl o.d) (hby : Bytes o.d) : Calls Try.prog 43 #[sval gT cT gB cB gH cH a, .slice (some ⟨q k, 0, none⟩) 6 (cp k), .agg #[.int .i64 o.k, .int .i64 o.p, .int .i64 o.h, .int .i64 o.o, .int .i64 o.n, .slice D dl dc]] w (PPost G (sval gT cT gB cB gH cH a) w (a.run (k : Int) o)) := by
  have HK := Lib.hid hk
  have HS := Lib.hid h
  have H63 := Lib.hid h63
  have HBY := Lib.hid hby
  have HF := Lib.hid (fr2_new w gT cT gB cB gH cH a o D dl dc)
  obtain ⟨P, hP⟩ : ∃ P, P = PPost G (sval gT cT gB cB gH cH a) w (a.run (k : Int) o) := ⟨_, rfl⟩
  have HP := Lib.hid hP
  have HD := Lib.hid hd
  rw [← hP]
  clear h hk hP hd h63 hby
  unfold sval
  go_enter Try.func43, Try.ntmps43
  go_upto_region 1 with (fail)
  generalize ((w.alloc (.cells #[.slice (some ⟨gT, 0, none⟩) a.n cT, .slice (some ⟨gB, 0, none⟩) a.n cB, .slice (some ⟨gH, 0, none⟩) a.N cH] 39)).alloc (.cells #[.int .i64 o.k, .int .i64 o.p, .int .i64 o.h, .int .i64 o.o, .int .i64 o.n, .slice D dl dc] 25)).alloc (.cells #[.int .i64 0, .int .i64 0, .int .i64 0, .slice none 0 0] 27) = w0 at *
  obtain ⟨s, hs⟩ : ∃ s, s = w.heap.size := ⟨_, rfl⟩
  rw [← hs] at HF ⊢
  clear hs
  have HPM := Lib.hid (HS.out.pm.kept HF.out.gr fun _ _ x => x)
  have s0 := (HF.out.sb).cell 0
  have s1 := (HF.out.sb).cell 1
  have s2 := (HF.out.sb).cell 2
  simp only [List.getElem?_cons_zero, List.getElem?_cons_succ] at s0 s1 s2
  have o1 := HF.out.o1
  have o2 := HF.out.o2
  have o3 := HF.out.o3
  have o4 := HF.out.o4
  have o5 := HF.out.o5
  by_cases hk1 : o.k = 1
  · have o0 := HF.out.o0
    rw [hk1] at o0
    rw [run_1 HK.out hk1] at HP
    clear hk1
    go_wp2_with (go_at_call 67; (with_reducible refine (create_any (k := k) ⟨HS.out.good, HPM.out, fun x hx => Nat.lt_of_lt_of_le (HS.out.lt x hx) HF.out.gr.size⟩ HK.out).mono ?_); rintro e wf ⟨⟨rv, rfl, A, n, cap, rfl, hz, hA, hfz⟩, hpa, hkf⟩; have HZ := Lib.hid hz; have HA := Lib.hid hA; have HFZ := Lib.hid hfz; have HPA := Lib.hid hpa; have HKF := Lib.hid hkf; clear hz hA hfz hpa hkf; obtain ⟨t0, t1, t2, t3, tf⟩ := HF.out.resK (G := G) HS.out.lt HKF.out)
    rw [HP.out]
    have hfin := fr2_finR (cap := cap) HF.out HS.out.lt HKF.out HPA.out HZ.out (fun hn x e => HA.out hn x e) HFZ.out
    exact ret_res rfl rfl hfin.1 rfl hfin.2
  by_cases hk2 : o.k = 2
  · have o0 := HF.out.o0
    rw [hk2] at o0
    rw [run_2 HK.out hk2] at HP
    clear hk2
    go_wp2_with (go_at_call 68; (with_reducible refine (fetch_any (k := k) ⟨HS.out.good, HPM.out, fun x hx => Nat.lt_of_lt_of_le (HS.out.lt x hx) HF.out.gr.size⟩ HK.out o.p).mono ?_); rintro e wf ⟨⟨rv, rfl, A, n, cap, rfl, hz, hA, hfz⟩, hpa, hkf⟩; have HZ := Lib.hid hz; have HA := Lib.hid hA; have HFZ := Lib.hid hfz; have HPA := Lib.hid hpa; have HKF := Lib.hid hkf; clear hz hA hfz hpa hkf; obtain ⟨t0, t1, t2, t3, tf⟩ := HF.out.resK (G := G) HS.out.lt HKF.out)
    rw [HP.out]
    have hfin := fr2_finR (cap := cap) HF.out HS.out.lt HKF.out HPA.out HZ.out (fun hn x e => HA.out hn x e) HFZ.out
    exact ret_res rfl rfl hfin.1 rfl hfin.2
  by_cases hk3 : o.k = 3
  · have o0 := HF.out.o0
    rw [hk3] at o0
    rw [run_3 HK.out hk3] at HP
    clear hk3
    go_wp2_with (go_at_call 69; (with_reducible refine (read_any (k := k) (o := ⟨3, o.p, o.h, o.o, o.n, o.d⟩) ⟨HS.out.good, HPM.out, fun x hx => Nat.lt_of_lt_of_le (HS.out.lt x hx) HF.out.gr.size⟩ HK.out H63.out ((Blk.Sl.kept HD.out HF.out.gr (Nat.le_refl _) fun _ _ x => x).more HF.out.gr.size)).mono ?_); rintro e wf ⟨⟨rv, rfl, A, n, cap, rfl, hz, hA, hfz⟩, hpa, hkf⟩; have HZ := Lib.hid hz; have HA := Lib.hid hA; have HFZ := Lib.hid hfz; have HPA := Lib.hid hpa; have HKF := Lib.hid hkf; clear hz hA hfz hpa hkf; obtain ⟨t0, t1, t2, t3, tf⟩ := HF.out.resK (G := G) HS.out.lt HKF.out)
    rw [HP.out]
    have hfin := fr2_finR (cap := cap) HF.out HS.out.lt HKF.out HPA.out HZ.out (fun hn x e => HA.out hn x e) HFZ.out
    exact ret_res rfl rfl hfin.1 rfl hfin.2
  by_cases hk4 : o.k = 4
  · have o0 := HF.out.o0
    rw [hk4] at o0
    rw [run_4 HK.out hk4] at HP
    clear hk4
    go_wp2_with (go_at_call 70; (with_reducible refine (write_any (k := k) (o := ⟨4, o.p, o.h, o.o, o.n, o.d⟩) ⟨HS.out.good, HPM.out, fun x hx => Nat.lt_of_lt_of_le (HS.out.lt x hx) HF.out.gr.size⟩ HK.out H63.out ((Blk.Sl.kept HD.out HF.out.gr (Nat.le_refl _) fun _ _ x => x).more HF.out.gr.size) HBY.out).mono ?_); rintro e wf ⟨⟨rv, rfl, A, n, cap, rfl, hz, hA, hfz⟩, hpa, hkf⟩; have HZ := Lib.hid hz; have HA := Lib.hid hA; have HFZ := Lib.hid hfz; have HPA := Lib.hid hpa; have HKF := Lib.hid hkf; clear hz hA hfz hpa hkf; obtain ⟨t0, t1, t2, t3, tf⟩ := HF.out.resK (G := G) HS.out.lt HKF.out)
    rw [HP.out]
    have hfin := fr2_finR (cap := cap) HF.out HS.out.lt HKF.out HPA.out HZ.out (fun hn x e => HA.out hn x e) HFZ.out
    exact ret_res rfl rfl hfin.1 rfl hfin.2
  by_cases hk5 : o.k = 5
  · have o0 := HF.out.o0
    rw [hk5] at o0
    rw [run_5 HK.out hk5] at HP
    clear hk5
    go_wp2_with (go_at_call 71; (with_reducible refine (unpin_any (k := k) (gT := gT) (cT := cT) (gB := gB) (cB := cB) (gH := gH) (cH := cH) (qb := qb) (cb := cb) ⟨HS.out.good, HPM.out, fun x hx => Nat.lt_of_lt_of_le (HS.out.lt x hx) HF.out.gr.size⟩ HK.out o.h).mono ?_); rintro e wf ⟨⟨rv, rfl, A, n, cap, rfl, hz, hA, hfz⟩, hpa, hkf⟩; have HZ := Lib.hid hz; have HA := Lib.hid hA; have HFZ := Lib.hid hfz; have HPA := Lib.hid hpa; have HKF := Lib.hid hkf; clear hz hA hfz hpa hkf; obtain ⟨t0, t1, t2, t3, tf⟩ := HF.out.resK (G := G) HS.out.lt HKF.out)
    rw [HP.out]
    have hfin := fr2_finR (cap := cap) HF.out HS.out.lt HKF.out HPA.out HZ.out (fun hn x e => HA.out hn x e) HFZ.out
    exact ret_res rfl rfl hfin.1 rfl hfin.2
  by_cases hk6 : o.k = 6
  · have o0 := HF.out.o0
    rw [hk6] at o0
    rw [run_6 HK.out hk6] at HP
    have HFI := Lib.hid (find_any (w := w0) (n := a.n) (T := a.T) (AB := some ⟨gB, 0, none⟩) (nB := a.n) (cB := cB) (AH := some ⟨gH, 0, none⟩) (nH := a.N) (cH := cH) (cT := cT) ((HPM.out.parts HS.out.good).T) o.p)
    clear hk6
    have hpost : a.onPage o.p (fun _ => (err 0, a)) = (err (codeOf a.n a.T o.p), a) := by
      rcases code_cases a.n a.T o.p with hc | hc
      · obtain ⟨pn, e, hpn, hT⟩ := code_zero hc
        rw [hc, e, onPage_good hpn hT]
      · exact onPage_bad hc
    rw [hpost] at HP
    clear hpost
    generalize codeOf a.n a.T o.p = cz at *
    go_wp2_with (first
      | (go_at_call 72; (with_reducible refine HFI.out.mono ?_); rintro e wf ⟨rfl, hgf⟩; have HGF : Hid (Grow w0 wf) := hgf; clear hgf)
      | (go_at_call 42; (with_reducible refine (code_any _ cz).mono ?_); rintro e wc ⟨rfl, hgc⟩; have HGC : Hid (Grow w0 wc) := HGF.out.trans hgc; clear hgc; obtain ⟨t0, t1, t2, t3, tf⟩ := HF.out.resK (G := G) HS.out.lt (Grow.kept HGC.out)))
    rw [HP.out]
    have hfin := HF.out.fin HS.out.lt (Grow.kept HGC.out) (HS.out.at_.grow (HF.out.gr.trans HGC.out)) cz 0 0
    exact ret_res rfl rfl hfin.1 rfl hfin.2
  by_cases hk7 : o.k = 7
  · have o0 := HF.out.o0
    rw [hk7] at o0
    rw [run_7 HK.out hk7] at HP
    clear hk7
    go_wp2_with (go_at_call 42; (with_reducible refine (code_any _ 0).mono ?_); rintro e wc ⟨rfl, hgc⟩; have HGC : Hid (Grow w0 wc) := hgc; clear hgc; obtain ⟨t0, t1, t2, t3, tf⟩ := HF.out.resK (G := G) HS.out.lt (Grow.kept HGC.out))
    rw [HP.out]
    have hfin := HF.out.fin HS.out.lt (Grow.kept HGC.out) (HS.out.at_.grow (HF.out.gr.trans HGC.out)) 0 0 0
    exact ret_res rfl rfl hfin.1 rfl hfin.2
  by_cases hk8 : o.k = 8
  · have o0 := HF.out.o0
    rw [hk8] at o0
    rw [run_8 HK.out hk8] at HP
    clear hk8
    go_wp2_with (go_at_call 73; (with_reducible refine (remove_any ⟨HS.out.good, HPM.out, fun x hx => Nat.lt_of_lt_of_le (HS.out.lt x hx) HF.out.gr.size⟩ o.p).mono ?_); rintro e wf ⟨⟨rv, rfl, A, n, cap, rfl, hz, hA, hfz⟩, hpa, hkf⟩; have HZ := Lib.hid hz; have HA := Lib.hid hA; have HFZ := Lib.hid hfz; have HPA := Lib.hid hpa; have HKF := Lib.hid hkf; clear hz hA hfz hpa hkf; obtain ⟨t0, t1, t2, t3, tf⟩ := HF.out.resK (G := G) HS.out.lt HKF.out)
    rw [HP.out]
    have hfin := fr2_finR (cap := cap) HF.out HS.out.lt HKF.out HPA.out HZ.out (fun hn x e => HA.out hn x e) HFZ.out
    exact ret_res rfl rfl hfin.1 rfl hfin.2
  have o0 := HF.out.o0
  rw [run_none hk1 hk2 hk3 hk4 hk5 hk6 hk7 hk8] at HP
  have n1 : (o.k == 1) = false := by simpa using hk1
  have n2 : (o.k == 2) = false := by simpa using hk2
  have n3 : (o.k == 3) = false := by simpa using hk3
  have n4 : (o.k == 4) = false := by simpa using hk4
  have n5 : (o.k == 5) = false := by simpa using hk5
  have n6 : (o.k == 6) = false := by simpa using hk6
  have n7 : (o.k == 7) = false := by simpa using hk7
  have n8 : (o.k == 8) = false := by simpa using hk8
  generalize o.k = kk at *
  clear hk1 hk2 hk3 hk4 hk5 hk6 hk7 hk8
  go_wp2_with (go_at_call 42; (with_reducible refine (code_any _ 1).mono ?_); rintro e wc ⟨rfl, hgc⟩; have HGC : Hid (Grow w0 wc) := hgc; clear hgc; obtain ⟨t0, t1, t2, t3, tf⟩ := HF.out.resK (G := G) HS.out.lt (Grow.kept HGC.out))
  rw [HP.out]
  have hfin := HF.out.fin HS.out.lt (Grow.kept HGC.out) (HS.out.at_.grow (HF.out.gr.trans HGC.out)) 1 0 0
  exact ret_res rfl rfl hfin.1 rfl hfin.2
end
end Go.Proofs.Ytjdlpknflhgkfaa.PmW
