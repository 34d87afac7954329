/-
  Package model: fetch, remove. Written by wip/tools/genpmstep.py.
-/
import Derived.Test.YtjdlpknflhgkfaaPmStep
namespace Go.Proofs.Ytjdlpknflhgkfaa.PmU
open Go.ChangeShapes Go.WideShapes Go.ChangeAt Go.RowKit
open Go.Proofs.Ytjdlpknflhgkfaa.Mem Go.Proofs.Ytjdlpknflhgkfaa.Blk Go.Proofs.Ytjdlpknflhgkfaa.Cells Go.Proofs.Ytjdlpknflhgkfaa.Orow Go.Proofs.Ytjdlpknflhgkfaa.GrC Go.Proofs.Ytjdlpknflhgkfaa.MdM Go.Proofs.Ytjdlpknflhgkfaa.MdC Go.Proofs.Ytjdlpknflhgkfaa.MdR Go.Proofs.Ytjdlpknflhgkfaa.MdD Go.Proofs.Ytjdlpknflhgkfaa.PmC Go.Proofs.Ytjdlpknflhgkfaa.PmI Go.Proofs.Ytjdlpknflhgkfaa.PmM Go.Proofs.Ytjdlpknflhgkfaa.PmP Go.Proofs.Ytjdlpknflhgkfaa.PmT Go.Proofs.Ytjdlpknflhgkfaa.Stages Go.Proofs.Ytjdlpknflhgkfaa.Trees
open Go.Proofs.Ytjdlpknflhgkfaa.HdM (lst hnd cnt sum lst_eq hnd_at hnd_none hnd_cases cnt_yes cnt_no cnt_le sum_le)

section
variable {w w0 w1 : World} {G F X : Nat → Prop} {v : Value} {gT cT gB cB gH cH r b c : Nat} {qb cb q cp : Nat → Nat} {a a' : Md} {k : Nat} {p : Int} {zs : List Int}
theorem OR.stretch {g s cap n : Nat} {t : TypeId} (vs : List Value) : ∀ {w : World} {f : Nat → Value} (o : Nat), OR w g t s cap n f → OR (w.setCells g o vs) g t s cap n (fun j => if o ≤ j ∧ j < o + vs.length then vs.getD (j - o) (f j) else f j) := by
  induction vs with
  | nil => intro w f o h; exact h.congr fun i _ => by rw [if_neg (by simp only [List.length_nil]; omega)]
  | cons v r ih =>
    intro w f o h
    refine (ih (o + 1) (h.set o v)).congr fun i _ => ?_
    by_cases e : i = o
    · subst e
      have e2 : i ≤ i ∧ i < i + (v :: r).length := by simp only [List.length_cons]; omega
      rw [if_neg (show ¬ (i + 1 ≤ i ∧ i < i + 1 + r.length) by omega), if_pos rfl, if_pos e2, Nat.sub_self]
      rfl
    · by_cases h2 : o + 1 ≤ i ∧ i < o + 1 + r.length
      · have e2 : o ≤ i ∧ i < o + (v :: r).length := by simp only [List.length_cons]; omega
        rw [if_pos h2, if_pos e2, if_neg e, show i - o = (i - (o + 1)) + 1 by omega, List.getD_cons_succ]
      · have e2 : ¬ (o ≤ i ∧ i < o + (v :: r).length) := by simp only [List.length_cons]; omega
        rw [if_neg h2, if_neg e, if_neg e2]
/-- 'clear' of a body. -/
theorem clear_body (h : OR w b 5 1 c 16 (ucell zs)) (cc : Nat) : ∃ w', (∀ ty, (Builtin.clear_ #[23] ty #[.slice (some ⟨b, 0, none⟩) 16 cc]).run Try.prog w = .ok (.tuple #[]) w') ∧ OR w' b 5 1 c 16 (ucell zeros) ∧ Kept (· = b) w w' := by
  have hz : ∀ w, (zeroValue 5).run Try.prog w = .ok (.int .u8 0) w := fun w => by
    obtain ⟨i0, hi, hz0, _, _⟩ := info_parts MdC.infoU8
    simp [zeroValue, typeInfo, hi, hz0]
  have hst := OR.stretch (List.replicate 16 (Value.int .u8 0)) 0 h
  refine ⟨_, fun ty => Lib.run_clear_slice w 23 5 ty (.int .u8 0) Try.underlying23 hz rfl rfl b 0 16 cc (by omega) (fun j hj => by rw [Nat.zero_add, h.cell (by omega)]; rfl) (fun j hj => h.frozen _), hst.congr fun i hi => ?_, GsC.kept_setCells _ _ _ _⟩
  have hi : i < 16 := by omega
  show (if 0 ≤ i ∧ i < 0 + (List.replicate 16 (Value.int .u8 0)).length then (List.replicate 16 (Value.int .u8 0)).getD (i - 0) (ucell zs i) else ucell zs i) = ucell zeros i
  unfold ucell zeros
  rw [List.length_replicate, if_pos (by omega), Nat.sub_zero]
  simp only [List.getD_eq_getElem?_getD, List.getElem?_replicate, if_pos hi]
  rfl
theorem onPage_bad {f : Nat → Re × Md} (hc : codeOf a.n a.T p ≠ 0) : a.onPage p f = (err (codeOf a.n a.T p), a) := by
  unfold Md.onPage
  by_cases h1 : 0 ≤ p ∧ p < (a.n : Int)
  · have e0 : codeOf a.n a.T p = if a.T p.toNat = false then 2 else 0 := if_neg (fun x => x h1)
    rw [e0] at hc ⊢
    rw [if_neg (fun x => x h1)]
    cases hT : a.T p.toNat with
    | false => rfl
    | true => rw [hT] at hc; exact absurd rfl hc
  · rw [if_pos h1, code_out h1]
theorem onPage_good {f : Nat → Re × Md} {p : Nat} (hp : p < a.n) (hT : a.T p = true) : a.onPage (p : Int) f = f p := by
  unfold Md.onPage
  rw [if_neg (by omega), Int.toNat_natCast, if_neg (by rw [hT]; simp)]
theorem onHand_bad {f : Nat → Re × Md} {c h : Int} (hh : a.held c h = -1) : a.onHand c h f = (err 5, a) := by
  unfold Md.onHand
  rw [if_pos (by omega)]
theorem onHand_good {f : Nat → Re × Md} {c h : Int} {p : Nat} (hh : a.held c h = (p : Int)) : a.onHand c h f = f p := by
  unfold Md.onHand
  rw [hh, if_neg (by omega), Int.toNat_natCast]
theorem code_cases (n : Nat) (T : Nat → Bool) (p : Int) : codeOf n T p = 0 ∨ codeOf n T p ≠ 0 := Classical.em _
set_option maxHeartbeats 4000000 in
theorem fetch_any (h : St0 w G gT cT gB cB gH cH qb cb q cp a) (hk : k < a.N) (p : Int) : Calls Try.prog 68 #[sval gT cT gB cB gH cH a, .slice (some ⟨q k, 0, none⟩) 6 (cp k), .int .i64 p] w (PPost G (sval gT cT gB cB gH cH a) w (a.onPage p (a.fetch k))) := by
  have HK := Lib.hid hk
  have HS := Lib.hid h
  have HF := Lib.hid (fr_new w gT cT gB cB gH cH a)
  obtain ⟨P, hP⟩ : ∃ P, P = PPost G (sval gT cT gB cB gH cH a) w (a.onPage p (a.fetch k)) := ⟨_, rfl⟩
  have HP := Lib.hid hP
  rw [← hP]
  clear h hk hP
  unfold sval
  go_enter Try.func68, Try.ntmps68
  go_upto_region 1 with (fail)
  generalize (w.alloc (.cells #[.slice (some ⟨gT, 0, none⟩) a.n cT, .slice (some ⟨gB, 0, none⟩) a.n cB, .slice (some ⟨gH, 0, none⟩) a.N cH] 39)).alloc (.cells #[.int .i64 0, .int .i64 0, .int .i64 0, .slice none 0 0] 27) = w0 at *
  generalize w.heap.size = s at HF ⊢
  have HPM := Lib.hid (HS.out.pm.kept HF.out.gr fun _ _ x => x)
  have HFI := Lib.hid fun (w' : World) (hk : Grow w0 w') => find_any (w := w') (n := a.n) (T := a.T) (AB := some ⟨gB, 0, none⟩) (nB := a.n) (cB := cB) (AH := some ⟨gH, 0, none⟩) (nH := a.N) (cH := cH) (cT := cT) (((HPM.out.parts HS.out.good).grow hk).T) p
  have s0 := HF.out.s0
  have s1 := HF.out.s1
  have s2 := HF.out.s2
  rcases code_cases a.n a.T p with hc | hc
  · obtain ⟨pn, rfl, hpn, hT⟩ := code_zero hc
    have HPN := Lib.hid hpn
    have HT := Lib.hid hT
    rw [onPage_good hpn hT] at HP
    rw [hc] at HFI
    rcases free_good HS.out.good HK.out with hf | ⟨j, hj, hf, hm⟩
    · have e1 : a.fetch k pn = (err 4, a) := if_pos hf
      have HFR := Lib.hid hf
      rw [e1] at HP
      clear hc hpn hT hf e1
      go_wp2_with (first
        | (go_at_call 72; (with_reducible refine (HFI.out _ (Kept.refl _ _)).mono ?_); rintro e wf ⟨rfl, hgf⟩; have HGF : Hid (Grow w0 wf) := hgf; clear hgf)
        | (go_at_call 91; (with_reducible refine (index_any ((HPM.out.rb k HK.out).kept HGF.out id)).mono ?_); rintro e wi ⟨rfl, rfl⟩; rw [free_hnd, HFR.out])
        | (go_at_call 42; (with_reducible refine (code_any _ 4).mono ?_); rintro e wc ⟨rfl, hgc⟩; have HGC : Hid (Grow w0 wc) := HGF.out.trans hgc; clear hgc; obtain ⟨t0, t1, t2, t3, tf⟩ := HF.out.resK (G := G) HS.out.lt (Grow.kept HGC.out)))
      rw [HP.out]
      have hfin := HF.out.fin HS.out.lt (Grow.kept HGC.out) (HS.out.at_.grow (HF.out.gr.trans HGC.out)) 4 0 0
      exact ret_res rfl rfl hfin.1 rfl hfin.2
    · have e1 : a.fetch k pn = (⟨0, pn, a.free k, []⟩, a.putH k (a.free k).toNat pn) := by unfold Md.fetch; rw [if_neg (by omega)]
      have HFR := Lib.hid hf
      rw [hf, Int.toNat_natCast] at e1
      rw [e1] at HP
      have hj1 : ((j : Int) == -1) = false := by simp <;> omega
      have hjz : (j : Int) < 6 := by omega
      have r0 := hcell_get (HPM.out.rb k HK.out) hj
      rw [hm] at r0
      have HR0 := Lib.hid r0
      clear hc hpn hT hf e1 hm hj r0
      go_upto_region 7 with (first
        | (go_at_call 72; (with_reducible refine (HFI.out _ (Kept.refl _ _)).mono ?_); rintro e wf ⟨rfl, hgf⟩; have HGF : Hid (Grow w0 wf) := hgf; clear hgf)
        | (go_at_call 91; (with_reducible refine (index_any ((HPM.out.rb k HK.out).kept HGF.out id)).mono ?_); rintro e wi ⟨rfl, rfl⟩; rw [free_hnd, HFR.out]))
      have r1 := HGF.out.cellN HR0.out id
      have HPM1 := Lib.hid (HPM.out.kept HGF.out fun _ _ x => x)
      have f1 := (HPM1.out.rb k HK.out).frozen j
      have HS2 := Lib.hid (HPM1.out.putH HK.out j (pn : Int))
      have HK2 : Hid (Kept G w0 (wf.setCell ⟨q k, j, none⟩ (.int .i64 (pn : Int)))) := (Grow.kept HGF.out).trans ((kept_set wf (q k) j _).mono fun x _ e => by rw [e]; exact HPM1.out.qG k HK.out)
      have HGN := Lib.hid (HS.out.good.putH k j (p := (pn : Int)) (.inr ⟨pn, rfl, HPN.out, HT.out⟩))
      go_upto_region 8 with (fail)
      clear r1 f1
      generalize wf.setCell ⟨q k, j, none⟩ (.int .i64 (pn : Int)) = w3 at HS2 HK2 ⊢
      obtain ⟨t0, t1, t2, t3, tf⟩ := HF.out.resK (G := G) HS.out.lt HK2.out
      go_wp2
      rw [HP.out]
      have hfin := HF.out.fin HS.out.lt HK2.out ⟨HGN.out, gT, cT, gB, cB, gH, cH, qb, cb, q, cp, rfl, HS2.out⟩ 0 (pn : Int) (j : Int)
      exact ret_res rfl rfl hfin.1 rfl hfin.2
  · rw [onPage_bad hc] at HP
    have hc1 : (codeOf a.n a.T p != 0) = true := by simpa using hc
    have hc2 : (codeOf a.n a.T p == 0) = false := by simpa using hc
    generalize codeOf a.n a.T p = cz at *
    clear hc
    go_wp2_with (first
      | (go_at_call 72; (with_reducible refine (HFI.out _ (Kept.refl _ _)).mono ?_); rintro e wf ⟨rfl, hgf⟩; have HGF : Hid (Grow w0 wf) := hgf; clear hgf)
      | (go_at_call 42; (with_reducible refine (code_any _ cz).mono ?_); rintro e wc ⟨rfl, hgc⟩; have HGC : Hid (Grow w0 wc) := HGF.out.trans hgc; clear hgc; obtain ⟨t0, t1, t2, t3, tf⟩ := HF.out.resK (G := G) HS.out.lt (Grow.kept HGC.out)))
    rw [HP.out]
    have hfin := HF.out.fin HS.out.lt (Grow.kept HGC.out) (HS.out.at_.grow (HF.out.gr.trans HGC.out)) cz 0 0
    exact ret_res rfl rfl hfin.1 rfl hfin.2
set_option maxHeartbeats 4000000 in
theorem remove_any (h : St0 w G gT cT gB cB gH cH qb cb q cp a) (p : Int) : Calls Try.prog 73 #[sval gT cT gB cB gH cH a, .int .i64 p] w (PPost G (sval gT cT gB cB gH cH a) w (a.onPage p a.del)) := by
  have HS := Lib.hid h
  have HF := Lib.hid (fr_new w gT cT gB cB gH cH a)
  obtain ⟨P, hP⟩ : ∃ P, P = PPost G (sval gT cT gB cB gH cH a) w (a.onPage p a.del) := ⟨_, rfl⟩
  have HP := Lib.hid hP
  rw [← hP]
  clear h hP
  unfold sval
  go_enter Try.func73, Try.ntmps73
  go_upto_region 1 with (fail)
  generalize (w.alloc (.cells #[.slice (some ⟨gT, 0, none⟩) a.n cT, .slice (some ⟨gB, 0, none⟩) a.n cB, .slice (some ⟨gH, 0, none⟩) a.N cH] 39)).alloc (.cells #[.int .i64 0, .int .i64 0, .int .i64 0, .slice none 0 0] 27) = w0 at *
  generalize w.heap.size = s at HF ⊢
  have HPM := Lib.hid (HS.out.pm.kept HF.out.gr fun _ _ x => x)
  have HFI := Lib.hid fun (w' : World) (hk : Grow w0 w') => find_any (w := w') (n := a.n) (T := a.T) (AB := some ⟨gB, 0, none⟩) (nB := a.n) (cB := cB) (AH := some ⟨gH, 0, none⟩) (nH := a.N) (cH := cH) (cT := cT) (((HPM.out.parts HS.out.good).grow hk).T) p
  have s0 := HF.out.s0
  have s1 := HF.out.s1
  have s2 := HF.out.s2
  rcases code_cases a.n a.T p with hc | hc
  · obtain ⟨pn, rfl, hpn, hT⟩ := code_zero hc
    have HPN := Lib.hid hpn
    have HT := Lib.hid hT
    rw [onPage_good hpn hT] at HP
    rw [hc] at HFI
    by_cases hpi : a.pins (pn : Int) = 0
    · have e1 : a.del pn = (err 0, a.putT pn false) := if_neg (by omega)
      have HPI : Hid ((a.pins (pn : Int) : Int) = 0) := by show (a.pins (pn : Int) : Int) = 0; rw [hpi]; rfl
      have HGN := Lib.hid (HS.out.good.putT pn false (.inr (pins_zero hpi)))
      rw [e1] at HP
      have hpz : (pn : Int) < (a.n : Int) := by omega
      clear hc hpn hT hpi e1
      go_upto_region 6 with (first
        | (go_at_call 72; (with_reducible refine (HFI.out _ (Kept.refl _ _)).mono ?_); rintro e wf ⟨rfl, hgf⟩; have HGF : Hid (Grow w0 wf) := hgf; have s0 := (HF.out.sb.grow hgf).cell 0; have s1 := (HF.out.sb.grow hgf).cell 1; have s2 := (HF.out.sb.grow hgf).cell 2; clear hgf; simp only [List.getElem?_cons_zero, List.getElem?_cons_succ] at s0 s1 s2)
        | (go_at_call 96; (with_reducible refine (ppins_any ((HPM.out.parts HS.out.good).grow HGF.out) HS.out.good (pn : Int)).mono ?_); rintro e wp ⟨rfl, hgp⟩; rw [HPI.out]; have HGP : Hid (Grow w0 wp) := HGF.out.trans hgp; have s0 := (HF.out.sb.grow HGP.out).cell 0; have s1 := (HF.out.sb.grow HGP.out).cell 1; clear hgp))
      simp only [List.getElem?_cons_zero, List.getElem?_cons_succ] at s0 s1
      have HPM1 := Lib.hid (HPM.out.kept HGP.out fun _ _ x => x)
      have r1 := HPM1.out.tb.cell (i := pn) (by have := HPN.out; omega)
      have f1 := HPM1.out.tb.frozen pn
      unfold tcell at r1
      rw [HT.out] at r1
      have HS2 := Lib.hid (HPM1.out.flag pn false)
      have HK2 : Hid (Kept G wp (wp.setCell ⟨gT, pn, none⟩ (.bool false))) := (kept_set wp gT pn (.bool false)).mono fun x _ e => by rw [e]; exact HPM1.out.inG.1
      go_upto_region 7 with (fail)
      clear r1 f1 s0 s1 s2
      generalize wp.setCell ⟨gT, pn, none⟩ (.bool false) = w2 at HS2 HK2 ⊢
      have HK3 := Lib.hid ((Grow.kept HGP.out).trans HK2.out)
      have s1 := (HF.out.sbK HS.out.lt HK3.out).cell 1
      simp only [List.getElem?_cons_zero, List.getElem?_cons_succ] at s1
      have r2 := HS2.out.bb.cell (i := pn) (by have := HPN.out; show pn < a.n * 1; omega)
      unfold bsl at r2
      obtain ⟨w4, hr4, hb4, hk4⟩ := clear_body (HS2.out.br pn HPN.out) (cb pn)
      have HS4 := Lib.hid (HS2.out.body HPN.out hk4 (b := zeros) hb4)
      have HK4 : Hid (Kept G w0 w4) := HK3.out.trans (hk4.mono fun x _ e => by rw [e]; exact HPM1.out.bG pn HPN.out)
      clear hb4 hk4
      go_upto_region 8 with (fail)
      clear hr4 r2 s1
      go_wp2_with (go_at_call 42; (with_reducible refine (code_any _ 0).mono ?_); rintro e wc ⟨rfl, hgc⟩; have HKC : Hid (Kept G w0 wc) := HK4.out.trans (Grow.kept hgc); have HGC := Lib.hid hgc; clear hgc; obtain ⟨t0, t1, t2, t3, tf⟩ := HF.out.resK (G := G) HS.out.lt HKC.out)
      rw [HP.out]
      have hfin := HF.out.fin HS.out.lt HKC.out (PAt.grow ⟨HGN.out, gT, cT, gB, cB, gH, cH, qb, cb, q, cp, rfl, HS4.out⟩ HGC.out) 0 0 0
      exact ret_res rfl rfl hfin.1 rfl hfin.2
    · have e1 : a.del pn = (err 7, a) := if_pos (by omega)
      rw [e1] at HP
      obtain ⟨m, hm⟩ : ∃ m, m = a.pins (pn : Int) := ⟨_, rfl⟩
      have HPI : Hid ((a.pins (pn : Int) : Int) = (m : Int)) := by show (a.pins (pn : Int) : Int) = (m : Int); rw [hm]
      have hmz : 0 < (m : Int) := by omega
      clear hc hpn hT hpi e1 hm
      go_wp2_with (first
        | (go_at_call 72; (with_reducible refine (HFI.out _ (Kept.refl _ _)).mono ?_); rintro e wf ⟨rfl, hgf⟩; have HGF : Hid (Grow w0 wf) := hgf; have s0 := (HF.out.sb.grow hgf).cell 0; have s1 := (HF.out.sb.grow hgf).cell 1; have s2 := (HF.out.sb.grow hgf).cell 2; clear hgf; simp only [List.getElem?_cons_zero, List.getElem?_cons_succ] at s0 s1 s2)
        | (go_at_call 96; (with_reducible refine (ppins_any ((HPM.out.parts HS.out.good).grow HGF.out) HS.out.good (pn : Int)).mono ?_); rintro e wp ⟨rfl, hgp⟩; rw [HPI.out]; have HGP : Hid (Grow w0 wp) := HGF.out.trans hgp; have s0 := (HF.out.sb.grow HGP.out).cell 0; have s1 := (HF.out.sb.grow HGP.out).cell 1; clear hgp)
        | (go_at_call 42; (with_reducible refine (code_any _ 7).mono ?_); rintro e wc ⟨rfl, hgc⟩; have HGC : Hid (Grow w0 wc) := HGP.out.trans hgc; clear hgc; obtain ⟨t0, t1, t2, t3, tf⟩ := HF.out.resK (G := G) HS.out.lt (Grow.kept HGC.out)))
      rw [HP.out]
      have hfin := HF.out.fin HS.out.lt (Grow.kept HGC.out) (HS.out.at_.grow (HF.out.gr.trans HGC.out)) 7 0 0
      exact ret_res rfl rfl hfin.1 rfl hfin.2
  · rw [onPage_bad hc] at HP
    have hc1 : (codeOf a.n a.T p != 0) = true := by simpa using hc
    have hc2 : (codeOf a.n a.T p == 0) = false := by simpa using hc
    generalize codeOf a.n a.T p = cz at *
    clear hc
    go_wp2_with (first
      | (go_at_call 72; (with_reducible refine (HFI.out _ (Kept.refl _ _)).mono ?_); rintro e wf ⟨rfl, hgf⟩; have HGF : Hid (Grow w0 wf) := hgf; clear hgf)
      | (go_at_call 42; (with_reducible refine (code_any _ cz).mono ?_); rintro e wc ⟨rfl, hgc⟩; have HGC : Hid (Grow w0 wc) := HGF.out.trans hgc; clear hgc; obtain ⟨t0, t1, t2, t3, tf⟩ := HF.out.resK (G := G) HS.out.lt (Grow.kept HGC.out)))
    rw [HP.out]
    have hfin := HF.out.fin HS.out.lt (Grow.kept HGC.out) (HS.out.at_.grow (HF.out.gr.trans HGC.out)) cz 0 0
    exact ret_res rfl rfl hfin.1 rfl hfin.2
end
end Go.Proofs.Ytjdlpknflhgkfaa.PmU
