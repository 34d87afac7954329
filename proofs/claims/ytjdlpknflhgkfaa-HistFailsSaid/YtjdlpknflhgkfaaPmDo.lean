/-
  Package model: Do. Written by wip/tools/genpmdo.py.
-/
import Derived.Test.YtjdlpknflhgkfaaPmOwn
namespace Go.Proofs.Ytjdlpknflhgkfaa.PmE
open Go.ChangeShapes Go.WideShapes Go.ChangeAt Go.RowKit
open Go.Proofs.Ytjdlpknflhgkfaa.Mem Go.Proofs.Ytjdlpknflhgkfaa.Blk Go.Proofs.Ytjdlpknflhgkfaa.Cells Go.Proofs.Ytjdlpknflhgkfaa.Orow Go.Proofs.Ytjdlpknflhgkfaa.GrC Go.Proofs.Ytjdlpknflhgkfaa.MdM Go.Proofs.Ytjdlpknflhgkfaa.MdC Go.Proofs.Ytjdlpknflhgkfaa.MdR Go.Proofs.Ytjdlpknflhgkfaa.MdD Go.Proofs.Ytjdlpknflhgkfaa.PmC Go.Proofs.Ytjdlpknflhgkfaa.PmI Go.Proofs.Ytjdlpknflhgkfaa.PmM Go.Proofs.Ytjdlpknflhgkfaa.PmP Go.Proofs.Ytjdlpknflhgkfaa.PmT Go.Proofs.Ytjdlpknflhgkfaa.PmU Go.Proofs.Ytjdlpknflhgkfaa.PmV Go.Proofs.Ytjdlpknflhgkfaa.PmW Go.Proofs.Ytjdlpknflhgkfaa.PmR Go.Proofs.Ytjdlpknflhgkfaa.PmK Go.Proofs.Ytjdlpknflhgkfaa.PmD Go.Proofs.Ytjdlpknflhgkfaa.Stages Go.Proofs.Ytjdlpknflhgkfaa.Trees

section
variable {w : World} {AT AB AH D : Option Addr} {cT cB cH dl dc : Nat} {z : St} {o : MdOp} {a : Md}
/-- The boxes at the head of a call. -/
structure Fr4 (w w0 : World) (s : Nat) (AT : Option Addr) (cT : Nat) (AB : Option Addr) (cB : Nat) (AH : Option Addr) (cH : Nat) (z : St) (o : MdOp) (D : Option Addr) (dl dc : Nat) : Prop where
  sb : Blk w0 s 39 [.slice AT z.nT cT, .slice AB z.nB cB, .slice AH z.nH cH]
  ob : Blk w0 (s + 1) 25 [.int .i64 o.k, .int .i64 o.p, .int .i64 o.h, .int .i64 o.o, .int .i64 o.n, .slice D dl dc]
  zb : Blk w0 (s + 1 + 1) 39 [.slice none 0 0, .slice none 0 0, .slice none 0 0]
  rb : Blk w0 (s + 1 + 1 + 1) 27 [.int .i64 0, .int .i64 0, .int .i64 0, .slice none 0 0]
  gr : Grow w w0
  sz : s = w.heap.size
theorem fr4_new (w : World) (AT : Option Addr) (cT : Nat) (AB : Option Addr) (cB : Nat) (AH : Option Addr) (cH : Nat) (z : St) (o : MdOp) (D : Option Addr) (dl dc : Nat) : Fr4 w ((((w.alloc (.cells #[.slice AT z.nT cT, .slice AB z.nB cB, .slice AH z.nH cH] 39)).alloc (.cells #[.int .i64 o.k, .int .i64 o.p, .int .i64 o.h, .int .i64 o.o, .int .i64 o.n, .slice D dl dc] 25)).alloc (.cells #[.slice none 0 0, .slice none 0 0, .slice none 0 0] 39)).alloc (.cells #[.int .i64 0, .int .i64 0, .int .i64 0, .slice none 0 0] 27)) w.heap.size AT cT AB cB AH cH z o D dl dc := by
  have b1 := Blk.new w 39 [.slice AT z.nT cT, .slice AB z.nB cB, .slice AH z.nH cH]
  have g1 : Grow w (w.alloc (.cells #[.slice AT z.nT cT, .slice AB z.nB cB, .slice AH z.nH cH] 39)) := (Kept.refl _ _).alloc _
  have z1 : (w.alloc (.cells #[.slice AT z.nT cT, .slice AB z.nB cB, .slice AH z.nH cH] 39)).heap.size = w.heap.size + 1 := by simp
  generalize w.alloc (.cells #[.slice AT z.nT cT, .slice AB z.nB cB, .slice AH z.nH cH] 39) = u1 at *
  have b2 := Blk.new u1 25 [.int .i64 o.k, .int .i64 o.p, .int .i64 o.h, .int .i64 o.o, .int .i64 o.n, .slice D dl dc]
  have g2 : Grow u1 (u1.alloc (.cells #[.int .i64 o.k, .int .i64 o.p, .int .i64 o.h, .int .i64 o.o, .int .i64 o.n, .slice D dl dc] 25)) := (Kept.refl _ _).alloc _
  have z2 : (u1.alloc (.cells #[.int .i64 o.k, .int .i64 o.p, .int .i64 o.h, .int .i64 o.o, .int .i64 o.n, .slice D dl dc] 25)).heap.size = w.heap.size + 1 + 1 := by simp [z1]
  rw [z1] at b2
  generalize u1.alloc (.cells #[.int .i64 o.k, .int .i64 o.p, .int .i64 o.h, .int .i64 o.o, .int .i64 o.n, .slice D dl dc] 25) = u2 at *
  have b3 := Blk.new u2 39 [.slice none 0 0, .slice none 0 0, .slice none 0 0]
  have g3 : Grow u2 (u2.alloc (.cells #[.slice none 0 0, .slice none 0 0, .slice none 0 0] 39)) := (Kept.refl _ _).alloc _
  have z3 : (u2.alloc (.cells #[.slice none 0 0, .slice none 0 0, .slice none 0 0] 39)).heap.size = w.heap.size + 1 + 1 + 1 := by simp [z2]
  rw [z2] at b3
  generalize u2.alloc (.cells #[.slice none 0 0, .slice none 0 0, .slice none 0 0] 39) = u3 at *
  have b4 := Blk.new u3 27 [.int .i64 0, .int .i64 0, .int .i64 0, .slice none 0 0]
  have g4 : Grow u3 (u3.alloc (.cells #[.int .i64 0, .int .i64 0, .int .i64 0, .slice none 0 0] 27)) := (Kept.refl _ _).alloc _
  rw [z3] at b4
  exact ⟨((b1.grow g2).grow g3).grow g4, (b2.grow g3).grow g4, b3.grow g4, b4, ((g1.trans g2).trans g3).trans g4, rfl⟩
theorem Fr4.stK {w0 w1 : World} {s : Nat} (H : Fr4 w w0 s AT cT AB cB AH cH z o D dl dc) (hk : Grow w0 w1) : w1.cell? ⟨s + 1 + 1, 0, none⟩ = some (.slice none 0 0) ∧ w1.cell? ⟨s + 1 + 1, 1, none⟩ = some (.slice none 0 0) ∧ w1.cell? ⟨s + 1 + 1, 2, none⟩ = some (.slice none 0 0) ∧ ∀ j, w1.frozen? ⟨s + 1 + 1, j, none⟩ = false := by
  have hb := H.zb.grow hk
  exact ⟨hb.cell 0, hb.cell 1, hb.cell 2, hb.frozen⟩
/-- What Do makes and tells of what may not be. -/
def DoBad (z : St) (w : World) (e : Ending) (w' : World) : Prop := ∃ sv rv, e = .returned (.tuple #[sv, rv]) ∧ Seen w' sv z ∧ rv = .agg #[.int .i64 1, .int .i64 0, .int .i64 0, .slice none 0 0] ∧ Grow w w'
/-- What Do makes and tells. -/
def DoP (a : Md) (c : Int) (o : MdOp) (w : World) (e : Ending) (w' : World) : Prop := ∃ sv rv, e = .returned (.tuple #[sv, rv]) ∧ PAt w' (w.heap.size ≤ ·) sv (a.run c o).2 ∧ RePV w' w.heap.size rv (a.run c o).1 ∧ Grow w w'
set_option maxHeartbeats 8000000 in
theorem do_bad (hp : Parts w AT cT AB cB AH cH z) (hfw : z.few) (c : Int) (hm : ¬ z.may) : Calls Try.prog 27 #[.agg #[.slice AT z.nT cT, .slice AB z.nB cB, .slice AH z.nH cH], .int .i64 c, .agg #[.int .i64 o.k, .int .i64 o.p, .int .i64 o.h, .int .i64 o.o, .int .i64 o.n, .slice D dl dc]] w (DoBad z w) := by
  have HF := Lib.hid (fr4_new w AT cT AB cB AH cH z o D dl dc)
  have HP0 := Lib.hid (hp.grow HF.out.gr)
  have HFW := Lib.hid hfw
  obtain ⟨P, hP⟩ : ∃ P, P = DoBad z w := ⟨_, rfl⟩
  have HP := Lib.hid hP
  rw [← hP]
  have HMY := Lib.hid hm
  clear hm
  clear hp hfw hP
  go_enter Try.func27, Try.ntmps27
  go_upto_region 1 with (fail)
  generalize (((w.alloc (.cells #[.slice AT z.nT cT, .slice AB z.nB cB, .slice AH z.nH cH] 39)).alloc (.cells #[.int .i64 o.k, .int .i64 o.p, .int .i64 o.h, .int .i64 o.o, .int .i64 o.n, .slice D dl dc] 25)).alloc (.cells #[.slice none 0 0, .slice none 0 0, .slice none 0 0] 39)).alloc (.cells #[.int .i64 0, .int .i64 0, .int .i64 0, .slice none 0 0] 27) = w0 at *
  obtain ⟨s, hs⟩ : ∃ s, s = w.heap.size := ⟨_, rfl⟩
  rw [← hs] at HF ⊢
  have HSZ := Lib.hid hs
  clear hs
  have HCL := Lib.hid (clone_any HP0.out HFW.out)
  have HMAY := Lib.hid fun (w' : World) (hk : Grow w0 w') => may_any (HP0.out.grow hk) HFW.out
  unfold stv at HCL HMAY
  have s0 := HF.out.sb.cell 0
  have s1 := HF.out.sb.cell 1
  have s2 := HF.out.sb.cell 2
  simp only [List.getElem?_cons_zero, List.getElem?_cons_succ] at s0 s1 s2
  go_upto_region 2 with (go_at_call 40; (with_reducible refine HCL.out.mono ?_); rintro e wc ⟨nv, rfl, ⟨AT', cT', AB', cB', AH', cH', rfl, hown⟩, hgc⟩; have HOWN := Lib.hid hown; have HGC := Lib.hid hgc; clear hown hgc)
  have hb8 := Blk.new wc 39 [.slice AT' z.nT cT', .slice AB' z.nB cB', .slice AH' z.nH cH']
  have hg8 : Grow wc (wc.alloc (.cells #[.slice AT' z.nT cT', .slice AB' z.nB cB', .slice AH' z.nH cH'] 39)) := (Kept.refl _ _).alloc _
  have HB8 := Lib.hid hb8
  have HG8 : Hid (Grow w0 (wc.alloc (.cells #[.slice AT' z.nT cT', .slice AB' z.nB cB', .slice AH' z.nH cH'] 39))) := HGC.out.trans hg8
  have HOW := Lib.hid (HOWN.out.grow hg8)
  have HOWG := Lib.hid ((HOWN.out.mono (X := fun k => w0.heap.size ≤ k ∧ k < wc.heap.size) fun k hk h => ⟨h, hk⟩).grow hg8)
  clear hb8 hg8 s0 s1 s2
  obtain ⟨b8, hb⟩ : ∃ b8, b8 = wc.heap.size := ⟨_, rfl⟩
  rw [← hb] at HB8 HOWG ⊢
  have HBE := Lib.hid hb
  clear hb HOWN
  generalize wc.alloc (.cells #[.slice AT' z.nT cT', .slice AB' z.nB cB', .slice AH' z.nH cH'] 39) = w8 at *
  have s0 := (HF.out.sb.grow HG8.out).cell 0
  have s1 := (HF.out.sb.grow HG8.out).cell 1
  have s2 := (HF.out.sb.grow HG8.out).cell 2
  simp only [List.getElem?_cons_zero, List.getElem?_cons_succ] at s0 s1 s2
  have HM := Lib.hid (HMAY.out _ HG8.out)
  go_upto_region 3 with (go_at_call 41; (with_reducible refine HM.out.mono ?_); rintro e wm ⟨⟨bm, rfl, hbm⟩, hgm⟩; have HGM := Lib.hid hgm; have s0 := hgm.cellN s0 id; have s1 := hgm.cellN s1 id; have s2 := hgm.cellN s2 id; have HBM := Lib.hid hbm; clear hgm hbm; obtain rfl : bm = false := by cases bm <;> first | rfl | exact absurd (HBM.out.1 rfl) HMY.out)
  have HGW : Hid (Grow w0 wm) := HG8.out.trans HGM.out
  have b0 := (HB8.out.grow HGM.out).cell 0
  have b1 := (HB8.out.grow HGM.out).cell 1
  have b2 := (HB8.out.grow HGM.out).cell 2
  simp only [List.getElem?_cons_zero, List.getElem?_cons_succ] at b0 b1 b2
  have hb8l := HBE.out
  have hszl := HF.out.rb.lt
  have hgcs := HGC.out.size
  have HLT : Hid (s + 1 + 1 + 1 < b8) := by show s + 1 + 1 + 1 < b8; omega
  clear hb8l hszl hgcs
  have q0 := up_cell (F := fun x => x = s + 1 + 1 ∨ x = s + 1 + 1 + 1) (w := wm.drew) (p := ⟨b8, 0, none⟩) b0 (fun e => by have := HLT.out; rcases e with e | e <;> (have e : b8 = _ := e; omega))
  have q1 := up_cell (F := fun x => x = s + 1 + 1 ∨ x = s + 1 + 1 + 1) (w := wm.drew) (p := ⟨b8, 1, none⟩) b1 (fun e => by have := HLT.out; rcases e with e | e <;> (have e : b8 = _ := e; omega))
  have q2 := up_cell (F := fun x => x = s + 1 + 1 ∨ x = s + 1 + 1 + 1) (w := wm.drew) (p := ⟨b8, 2, none⟩) b2 (fun e => by have := HLT.out; rcases e with e | e <;> (have e : b8 = _ := e; omega))
  refine wp_region_stages (Kept (fun x => x = s + 1 + 1 ∨ x = s + 1 + 1 + 1)) (kept_refl _) (kept_trans _) [([0], 1), ([], 2), ([], 3)] [] (by kernel_rfl) (by kernel_rfl) ?_
  simp only [selSt, sel, List.map_cons, List.map_nil, List.getD_cons_succ, List.getD_cons_zero]
  refine st_cons fun K1 hK1 => ?_
  repeat (go_big_quiet_step (fail))
  refine wpQuiet_nil ?_
  clear q0 q1 q2 b0 b1 b2 s0 s1 s2
  go_wp2_with (go_at_call 42; (with_reducible refine (code_any _ 1).mono ?_); rintro e we ⟨rfl, hge⟩; have HGE := Lib.hid hge; clear hge)
  refine norm_up (hK1 _ _ (Grow.kept HGE.out) ?_)
  clear hK1 K1
  have HGX : Hid (Grow w0 we) := (HGW.out.drew).trans HGE.out
  obtain ⟨z0, z1, z2, zf⟩ := HF.out.stK HGX.out
  refine st_cons fun K2 hK2 => ?_
  refine wpQuiet_nil ?_
  go_wp2
  refine norm_up (hK2 _ _ (put3_kept we (s + 1 + 1) _ _ _ (fun x e => .inl e)) ?_)
  clear hK2 K2 z0 z1 z2 zf
  have HZ3 := Lib.hid (put3_blk (x := .slice AT' z.nT cT') (y := .slice AB' z.nB cB') (u := .slice AH' z.nH cH') (HF.out.zb.grow HGX.out))
  have HK3 : Hid (Kept (fun x => x = s + 1 + 1) we (put3 we (s + 1 + 1) (.slice AT' z.nT cT') (.slice AB' z.nB cB') (.slice AH' z.nH cH'))) := put3_kept we (s + 1 + 1) _ _ _ (fun x e => e)
  have HZ3 : Hid (Blk (((we.setCell ⟨s + 1 + 1, 0, none⟩ (.slice AT' z.nT cT')).setCell ⟨s + 1 + 1, 1, none⟩ (.slice AB' z.nB cB')).setCell ⟨s + 1 + 1, 2, none⟩ (.slice AH' z.nH cH')) (s + 1 + 1) 39 [.slice AT' z.nT cT', .slice AB' z.nB cB', .slice AH' z.nH cH']) := HZ3.out
  have HK3 : Hid (Kept (fun x => x = s + 1 + 1) we (((we.setCell ⟨s + 1 + 1, 0, none⟩ (.slice AT' z.nT cT')).setCell ⟨s + 1 + 1, 1, none⟩ (.slice AB' z.nB cB')).setCell ⟨s + 1 + 1, 2, none⟩ (.slice AH' z.nH cH'))) := HK3.out
  have hrb : Blk (((we.setCell ⟨s + 1 + 1, 0, none⟩ (.slice AT' z.nT cT')).setCell ⟨s + 1 + 1, 1, none⟩ (.slice AB' z.nB cB')).setCell ⟨s + 1 + 1, 2, none⟩ (.slice AH' z.nH cH')) (s + 1 + 1 + 1) 27 [.int .i64 0, .int .i64 0, .int .i64 0, .slice none 0 0] := (HF.out.rb.grow HGX.out).kept HK3.out (fun e => by have e : s + 1 + 1 + 1 = s + 1 + 1 := e; omega)
  generalize ((we.setCell ⟨s + 1 + 1, 0, none⟩ (.slice AT' z.nT cT')).setCell ⟨s + 1 + 1, 1, none⟩ (.slice AB' z.nB cB')).setCell ⟨s + 1 + 1, 2, none⟩ (.slice AH' z.nH cH') = w3 at HZ3 HK3 hrb ⊢
  have HRB := Lib.hid hrb
  have t0 := hrb.cell 0
  have t1 := hrb.cell 1
  have t2 := hrb.cell 2
  have t3 := hrb.cell 3
  have tf := hrb.frozen
  simp only [List.getElem?_cons_zero, List.getElem?_cons_succ] at t0 t1 t2 t3
  clear hrb
  refine st_cons fun K4 hK4 => ?_
  refine wpQuiet_nil ?_
  go_wp2
  refine norm_up (hK4 _ _ ((put4_kept w3 (s + 1 + 1 + 1) (.int .i64 1) (.int .i64 0) (.int .i64 0) (.slice none 0 0)).mono fun x _ e => .inr e) (st_nil fun K5 hK5 => wpQuiet_nil (hK5 _ ?_)))
  clear hK4 K4 hK5 K5 t0 t1 t2 t3 tf
  go_wp2
  have HK6 := Lib.hid (put4_kept w3 (s + 1 + 1 + 1) (.int .i64 1) (.int .i64 0) (.int .i64 0) (.slice none 0 0))
  have hz6 := HZ3.out.kept HK6.out (fun e => by have e : s + 1 + 1 = s + 1 + 1 + 1 := e; omega)
  have hr6 := put4_blk (x := .int .i64 1) (y := .int .i64 0) (z := .int .i64 0) (d := .slice none 0 0) HRB.out
  have hgw : Grow w we := HF.out.gr.trans HGX.out
  have hfin : Grow w (put4 w3 (s + 1 + 1 + 1) (.int .i64 1) (.int .i64 0) (.int .i64 0) (.slice none 0 0)) := (hgw.then HK3.out fun k hk e => by have := HSZ.out; have e : k = s + 1 + 1 := e; omega).then HK6.out fun k hk e => by have := HSZ.out; have e : k = s + 1 + 1 + 1 := e; omega
  have how : Own (put4 w3 (s + 1 + 1 + 1) (.int .i64 1) (.int .i64 0) (.int .i64 0) (.slice none 0 0)) (w0.heap.size ≤ ·) (.agg #[.slice AT' z.nT cT', .slice AB' z.nB cB', .slice AH' z.nH cH']) z := by
    have hl := HF.out.rb.lt
    have h1 := HOW.out.grow ((HGM.out.drew).trans HGE.out)
    have h2 := h1.kept HK3.out (fun k hk e => by have e : k = s + 1 + 1 := e; have hk : w0.heap.size ≤ k := hk; omega)
    exact h2.kept HK6.out (fun k hk e => by have e : k = s + 1 + 1 + 1 := e; have hk : w0.heap.size ≤ k := hk; omega)
  rw [HP.out]
  exact ret_st_res rfl rfl rfl hz6 hr6 rfl ⟨_, _, rfl, how.seen HP0.out.byt, rfl, hfin⟩
set_option maxHeartbeats 8000000 in
theorem do_c0 (hp : Parts w AT cT AB cB AH cH z) (hfw : z.few) (c : Int) (hza : z = stOf a) (hgd : MdM.Good a) (hc : c < 0) : Calls Try.prog 27 #[.agg #[.slice AT z.nT cT, .slice AB z.nB cB, .slice AH z.nH cH], .int .i64 c, .agg #[.int .i64 o.k, .int .i64 o.p, .int .i64 o.h, .int .i64 o.o, .int .i64 o.n, .slice D dl dc]] w (DoP a c o w) := by
  have HF := Lib.hid (fr4_new w AT cT AB cB AH cH z o D dl dc)
  have HP0 := Lib.hid (hp.grow HF.out.gr)
  have HFW := Lib.hid hfw
  obtain ⟨P, hP⟩ : ∃ P, P = DoP a c o w := ⟨_, rfl⟩
  have HP := Lib.hid hP
  rw [← hP]
  have HMY : Hid z.may := hza ▸ good_may hgd
  have HZA := Lib.hid hza
  have HGD := Lib.hid hgd
  have HC : Hid (¬ (0 ≤ c ∧ c < (a.N : Int))) := fun x => by omega
  clear hza hgd
  clear hp hfw hP
  go_enter Try.func27, Try.ntmps27
  go_upto_region 1 with (fail)
  generalize (((w.alloc (.cells #[.slice AT z.nT cT, .slice AB z.nB cB, .slice AH z.nH cH] 39)).alloc (.cells #[.int .i64 o.k, .int .i64 o.p, .int .i64 o.h, .int .i64 o.o, .int .i64 o.n, .slice D dl dc] 25)).alloc (.cells #[.slice none 0 0, .slice none 0 0, .slice none 0 0] 39)).alloc (.cells #[.int .i64 0, .int .i64 0, .int .i64 0, .slice none 0 0] 27) = w0 at *
  obtain ⟨s, hs⟩ : ∃ s, s = w.heap.size := ⟨_, rfl⟩
  rw [← hs] at HF ⊢
  have HSZ := Lib.hid hs
  clear hs
  have HCL := Lib.hid (clone_any HP0.out HFW.out)
  have HMAY := Lib.hid fun (w' : World) (hk : Grow w0 w') => may_any (HP0.out.grow hk) HFW.out
  unfold stv at HCL HMAY
  have s0 := HF.out.sb.cell 0
  have s1 := HF.out.sb.cell 1
  have s2 := HF.out.sb.cell 2
  simp only [List.getElem?_cons_zero, List.getElem?_cons_succ] at s0 s1 s2
  go_upto_region 2 with (go_at_call 40; (with_reducible refine HCL.out.mono ?_); rintro e wc ⟨nv, rfl, ⟨AT', cT', AB', cB', AH', cH', rfl, hown⟩, hgc⟩; have HOWN := Lib.hid hown; have HGC := Lib.hid hgc; clear hown hgc)
  have hb8 := Blk.new wc 39 [.slice AT' z.nT cT', .slice AB' z.nB cB', .slice AH' z.nH cH']
  have hg8 : Grow wc (wc.alloc (.cells #[.slice AT' z.nT cT', .slice AB' z.nB cB', .slice AH' z.nH cH'] 39)) := (Kept.refl _ _).alloc _
  have HB8 := Lib.hid hb8
  have HG8 : Hid (Grow w0 (wc.alloc (.cells #[.slice AT' z.nT cT', .slice AB' z.nB cB', .slice AH' z.nH cH'] 39))) := HGC.out.trans hg8
  have HOW := Lib.hid (HOWN.out.grow hg8)
  have HOWG := Lib.hid ((HOWN.out.mono (X := fun k => w0.heap.size ≤ k ∧ k < wc.heap.size) fun k hk h => ⟨h, hk⟩).grow hg8)
  clear hb8 hg8 s0 s1 s2
  obtain ⟨b8, hb⟩ : ∃ b8, b8 = wc.heap.size := ⟨_, rfl⟩
  rw [← hb] at HB8 HOWG ⊢
  have HBE := Lib.hid hb
  clear hb HOWN
  generalize wc.alloc (.cells #[.slice AT' z.nT cT', .slice AB' z.nB cB', .slice AH' z.nH cH'] 39) = w8 at *
  have s0 := (HF.out.sb.grow HG8.out).cell 0
  have s1 := (HF.out.sb.grow HG8.out).cell 1
  have s2 := (HF.out.sb.grow HG8.out).cell 2
  simp only [List.getElem?_cons_zero, List.getElem?_cons_succ] at s0 s1 s2
  have HM := Lib.hid (HMAY.out _ HG8.out)
  go_upto_region 3 with (go_at_call 41; (with_reducible refine HM.out.mono ?_); rintro e wm ⟨⟨bm, rfl, hbm⟩, hgm⟩; have HGM := Lib.hid hgm; have s0 := hgm.cellN s0 id; have s1 := hgm.cellN s1 id; have s2 := hgm.cellN s2 id; have HBM := Lib.hid hbm; clear hgm hbm; obtain rfl : bm = true := HBM.out.2 HMY.out)
  have HGW : Hid (Grow w0 wm) := HG8.out.trans HGM.out
  have b0 := (HB8.out.grow HGM.out).cell 0
  have b1 := (HB8.out.grow HGM.out).cell 1
  have b2 := (HB8.out.grow HGM.out).cell 2
  simp only [List.getElem?_cons_zero, List.getElem?_cons_succ] at b0 b1 b2
  have hb8l := HBE.out
  have hszl := HF.out.rb.lt
  have hgcs := HGC.out.size
  have HLT : Hid (s + 1 + 1 + 1 < b8) := by show s + 1 + 1 + 1 < b8; omega
  clear hb8l hszl hgcs
  have q0 := up_cell (F := fun x => x = s + 1 + 1 ∨ x = s + 1 + 1 + 1) (w := wm.drew) (p := ⟨b8, 0, none⟩) b0 (fun e => by have := HLT.out; rcases e with e | e <;> (have e : b8 = _ := e; omega))
  have q1 := up_cell (F := fun x => x = s + 1 + 1 ∨ x = s + 1 + 1 + 1) (w := wm.drew) (p := ⟨b8, 1, none⟩) b1 (fun e => by have := HLT.out; rcases e with e | e <;> (have e : b8 = _ := e; omega))
  have q2 := up_cell (F := fun x => x = s + 1 + 1 ∨ x = s + 1 + 1 + 1) (w := wm.drew) (p := ⟨b8, 2, none⟩) b2 (fun e => by have := HLT.out; rcases e with e | e <;> (have e : b8 = _ := e; omega))
  refine wp_region_stages (Kept (fun x => x = s + 1 + 1 ∨ x = s + 1 + 1 + 1)) (kept_refl _) (kept_trans _) [([0], 1), ([], 2), ([], 3)] [] (by kernel_rfl) (by kernel_rfl) ?_
  simp only [selSt, sel, List.map_cons, List.map_nil, List.getD_cons_succ, List.getD_cons_zero]
  refine st_cons fun K1 hK1 => ?_
  repeat (go_big_quiet_step (fail))
  refine wpQuiet_nil ?_
  clear q0 q1 q2 b0 b1 b2 s0 s1 s2
  go_wp2_with (go_at_call 42; (with_reducible refine (code_any _ 1).mono ?_); rintro e we ⟨rfl, hge⟩; have HGE := Lib.hid hge; clear hge)
  refine norm_up (hK1 _ _ (Grow.kept HGE.out) ?_)
  clear hK1 K1
  have HGX : Hid (Grow w0 we) := (HGW.out.drew).trans HGE.out
  obtain ⟨z0, z1, z2, zf⟩ := HF.out.stK HGX.out
  refine st_cons fun K2 hK2 => ?_
  refine wpQuiet_nil ?_
  go_wp2
  refine norm_up (hK2 _ _ (put3_kept we (s + 1 + 1) _ _ _ (fun x e => .inl e)) ?_)
  clear hK2 K2 z0 z1 z2 zf
  have HZ3 := Lib.hid (put3_blk (x := .slice AT' z.nT cT') (y := .slice AB' z.nB cB') (u := .slice AH' z.nH cH') (HF.out.zb.grow HGX.out))
  have HK3 : Hid (Kept (fun x => x = s + 1 + 1) we (put3 we (s + 1 + 1) (.slice AT' z.nT cT') (.slice AB' z.nB cB') (.slice AH' z.nH cH'))) := put3_kept we (s + 1 + 1) _ _ _ (fun x e => e)
  have HZ3 : Hid (Blk (((we.setCell ⟨s + 1 + 1, 0, none⟩ (.slice AT' z.nT cT')).setCell ⟨s + 1 + 1, 1, none⟩ (.slice AB' z.nB cB')).setCell ⟨s + 1 + 1, 2, none⟩ (.slice AH' z.nH cH')) (s + 1 + 1) 39 [.slice AT' z.nT cT', .slice AB' z.nB cB', .slice AH' z.nH cH']) := HZ3.out
  have HK3 : Hid (Kept (fun x => x = s + 1 + 1) we (((we.setCell ⟨s + 1 + 1, 0, none⟩ (.slice AT' z.nT cT')).setCell ⟨s + 1 + 1, 1, none⟩ (.slice AB' z.nB cB')).setCell ⟨s + 1 + 1, 2, none⟩ (.slice AH' z.nH cH'))) := HK3.out
  have hrb : Blk (((we.setCell ⟨s + 1 + 1, 0, none⟩ (.slice AT' z.nT cT')).setCell ⟨s + 1 + 1, 1, none⟩ (.slice AB' z.nB cB')).setCell ⟨s + 1 + 1, 2, none⟩ (.slice AH' z.nH cH')) (s + 1 + 1 + 1) 27 [.int .i64 0, .int .i64 0, .int .i64 0, .slice none 0 0] := (HF.out.rb.grow HGX.out).kept HK3.out (fun e => by have e : s + 1 + 1 + 1 = s + 1 + 1 := e; omega)
  generalize ((we.setCell ⟨s + 1 + 1, 0, none⟩ (.slice AT' z.nT cT')).setCell ⟨s + 1 + 1, 1, none⟩ (.slice AB' z.nB cB')).setCell ⟨s + 1 + 1, 2, none⟩ (.slice AH' z.nH cH') = w3 at HZ3 HK3 hrb ⊢
  have HRB := Lib.hid hrb
  have t0 := hrb.cell 0
  have t1 := hrb.cell 1
  have t2 := hrb.cell 2
  have t3 := hrb.cell 3
  have tf := hrb.frozen
  simp only [List.getElem?_cons_zero, List.getElem?_cons_succ] at t0 t1 t2 t3
  clear hrb
  refine st_cons fun K4 hK4 => ?_
  refine wpQuiet_nil ?_
  go_wp2
  refine norm_up (hK4 _ _ ((put4_kept w3 (s + 1 + 1 + 1) (.int .i64 1) (.int .i64 0) (.int .i64 0) (.slice none 0 0)).mono fun x _ e => .inr e) (st_nil fun K5 hK5 => wpQuiet_nil (hK5 _ ?_)))
  clear hK4 K4 hK5 K5 t0 t1 t2 t3 tf
  go_wp2
  have HK6 := Lib.hid (put4_kept w3 (s + 1 + 1 + 1) (.int .i64 1) (.int .i64 0) (.int .i64 0) (.slice none 0 0))
  have hz6 := HZ3.out.kept HK6.out (fun e => by have e : s + 1 + 1 = s + 1 + 1 + 1 := e; omega)
  have hr6 := put4_blk (x := .int .i64 1) (y := .int .i64 0) (z := .int .i64 0) (d := .slice none 0 0) HRB.out
  have hgw : Grow w we := HF.out.gr.trans HGX.out
  have hfin : Grow w (put4 w3 (s + 1 + 1 + 1) (.int .i64 1) (.int .i64 0) (.int .i64 0) (.slice none 0 0)) := (hgw.then HK3.out fun k hk e => by have := HSZ.out; have e : k = s + 1 + 1 := e; omega).then HK6.out fun k hk e => by have := HSZ.out; have e : k = s + 1 + 1 + 1 := e; omega
  have how : Own (put4 w3 (s + 1 + 1 + 1) (.int .i64 1) (.int .i64 0) (.int .i64 0) (.slice none 0 0)) (w0.heap.size ≤ ·) (.agg #[.slice AT' z.nT cT', .slice AB' z.nB cB', .slice AH' z.nH cH']) z := by
    have hl := HF.out.rb.lt
    have h1 := HOW.out.grow ((HGM.out.drew).trans HGE.out)
    have h2 := h1.kept HK3.out (fun k hk e => by have e : k = s + 1 + 1 := e; have hk : w0.heap.size ≤ k := hk; omega)
    exact h2.kept HK6.out (fun k hk e => by have e : k = s + 1 + 1 + 1 := e; have hk : w0.heap.size ≤ k := hk; omega)
  rw [HP.out]
  refine ret_st_res rfl rfl rfl hz6 hr6 rfl ?_
  have hpa := (how.patZ HZA.out HGD.out).mono (X := fun k => w.heap.size ≤ k) fun k _ (h : w0.heap.size ≤ k) => by have := HF.out.gr.size; omega
  unfold DoP
  rw [run_out HC.out]
  exact ⟨_, _, rfl, hpa, repv_none _ _ _ _ _, hfin⟩
set_option maxHeartbeats 8000000 in
theorem do_c1 (hp : Parts w AT cT AB cB AH cH z) (hfw : z.few) (c : Int) (hza : z = stOf a) (hgd : MdM.Good a) (h0 : 0 ≤ c) (hc : (z.nH : Int) ≤ c) : Calls Try.prog 27 #[.agg #[.slice AT z.nT cT, .slice AB z.nB cB, .slice AH z.nH cH], .int .i64 c, .agg #[.int .i64 o.k, .int .i64 o.p, .int .i64 o.h, .int .i64 o.o, .int .i64 o.n, .slice D dl dc]] w (DoP a c o w) := by
  have HF := Lib.hid (fr4_new w AT cT AB cB AH cH z o D dl dc)
  have HP0 := Lib.hid (hp.grow HF.out.gr)
  have HFW := Lib.hid hfw
  obtain ⟨P, hP⟩ : ∃ P, P = DoP a c o w := ⟨_, rfl⟩
  have HP := Lib.hid hP
  rw [← hP]
  have HMY : Hid z.may := hza ▸ good_may hgd
  have HZA := Lib.hid hza
  have HGD := Lib.hid hgd
  have HC : Hid (¬ (0 ≤ c ∧ c < (a.N : Int))) := fun x => absurd x.2 (by rw [hza] at hc; exact Int.not_lt.2 hc)
  clear hza hgd
  clear hp hfw hP
  go_enter Try.func27, Try.ntmps27
  go_upto_region 1 with (fail)
  generalize (((w.alloc (.cells #[.slice AT z.nT cT, .slice AB z.nB cB, .slice AH z.nH cH] 39)).alloc (.cells #[.int .i64 o.k, .int .i64 o.p, .int .i64 o.h, .int .i64 o.o, .int .i64 o.n, .slice D dl dc] 25)).alloc (.cells #[.slice none 0 0, .slice none 0 0, .slice none 0 0] 39)).alloc (.cells #[.int .i64 0, .int .i64 0, .int .i64 0, .slice none 0 0] 27) = w0 at *
  obtain ⟨s, hs⟩ : ∃ s, s = w.heap.size := ⟨_, rfl⟩
  rw [← hs] at HF ⊢
  have HSZ := Lib.hid hs
  clear hs
  have HCL := Lib.hid (clone_any HP0.out HFW.out)
  have HMAY := Lib.hid fun (w' : World) (hk : Grow w0 w') => may_any (HP0.out.grow hk) HFW.out
  unfold stv at HCL HMAY
  have s0 := HF.out.sb.cell 0
  have s1 := HF.out.sb.cell 1
  have s2 := HF.out.sb.cell 2
  simp only [List.getElem?_cons_zero, List.getElem?_cons_succ] at s0 s1 s2
  go_upto_region 2 with (go_at_call 40; (with_reducible refine HCL.out.mono ?_); rintro e wc ⟨nv, rfl, ⟨AT', cT', AB', cB', AH', cH', rfl, hown⟩, hgc⟩; have HOWN := Lib.hid hown; have HGC := Lib.hid hgc; clear hown hgc)
  have hb8 := Blk.new wc 39 [.slice AT' z.nT cT', .slice AB' z.nB cB', .slice AH' z.nH cH']
  have hg8 : Grow wc (wc.alloc (.cells #[.slice AT' z.nT cT', .slice AB' z.nB cB', .slice AH' z.nH cH'] 39)) := (Kept.refl _ _).alloc _
  have HB8 := Lib.hid hb8
  have HG8 : Hid (Grow w0 (wc.alloc (.cells #[.slice AT' z.nT cT', .slice AB' z.nB cB', .slice AH' z.nH cH'] 39))) := HGC.out.trans hg8
  have HOW := Lib.hid (HOWN.out.grow hg8)
  have HOWG := Lib.hid ((HOWN.out.mono (X := fun k => w0.heap.size ≤ k ∧ k < wc.heap.size) fun k hk h => ⟨h, hk⟩).grow hg8)
  clear hb8 hg8 s0 s1 s2
  obtain ⟨b8, hb⟩ : ∃ b8, b8 = wc.heap.size := ⟨_, rfl⟩
  rw [← hb] at HB8 HOWG ⊢
  have HBE := Lib.hid hb
  clear hb HOWN
  generalize wc.alloc (.cells #[.slice AT' z.nT cT', .slice AB' z.nB cB', .slice AH' z.nH cH'] 39) = w8 at *
  have s0 := (HF.out.sb.grow HG8.out).cell 0
  have s1 := (HF.out.sb.grow HG8.out).cell 1
  have s2 := (HF.out.sb.grow HG8.out).cell 2
  simp only [List.getElem?_cons_zero, List.getElem?_cons_succ] at s0 s1 s2
  have HM := Lib.hid (HMAY.out _ HG8.out)
  go_upto_region 3 with (go_at_call 41; (with_reducible refine HM.out.mono ?_); rintro e wm ⟨⟨bm, rfl, hbm⟩, hgm⟩; have HGM := Lib.hid hgm; have s0 := hgm.cellN s0 id; have s1 := hgm.cellN s1 id; have s2 := hgm.cellN s2 id; have HBM := Lib.hid hbm; clear hgm hbm; obtain rfl : bm = true := HBM.out.2 HMY.out)
  have HGW : Hid (Grow w0 wm) := HG8.out.trans HGM.out
  have b0 := (HB8.out.grow HGM.out).cell 0
  have b1 := (HB8.out.grow HGM.out).cell 1
  have b2 := (HB8.out.grow HGM.out).cell 2
  simp only [List.getElem?_cons_zero, List.getElem?_cons_succ] at b0 b1 b2
  have hb8l := HBE.out
  have hszl := HF.out.rb.lt
  have hgcs := HGC.out.size
  have HLT : Hid (s + 1 + 1 + 1 < b8) := by show s + 1 + 1 + 1 < b8; omega
  clear hb8l hszl hgcs
  have q0 := up_cell (F := fun x => x = s + 1 + 1 ∨ x = s + 1 + 1 + 1) (w := wm.drew) (p := ⟨b8, 0, none⟩) b0 (fun e => by have := HLT.out; rcases e with e | e <;> (have e : b8 = _ := e; omega))
  have q1 := up_cell (F := fun x => x = s + 1 + 1 ∨ x = s + 1 + 1 + 1) (w := wm.drew) (p := ⟨b8, 1, none⟩) b1 (fun e => by have := HLT.out; rcases e with e | e <;> (have e : b8 = _ := e; omega))
  have q2 := up_cell (F := fun x => x = s + 1 + 1 ∨ x = s + 1 + 1 + 1) (w := wm.drew) (p := ⟨b8, 2, none⟩) b2 (fun e => by have := HLT.out; rcases e with e | e <;> (have e : b8 = _ := e; omega))
  refine wp_region_stages (Kept (fun x => x = s + 1 + 1 ∨ x = s + 1 + 1 + 1)) (kept_refl _) (kept_trans _) [([0], 1), ([], 2), ([], 3)] [] (by kernel_rfl) (by kernel_rfl) ?_
  simp only [selSt, sel, List.map_cons, List.map_nil, List.getD_cons_succ, List.getD_cons_zero]
  refine st_cons fun K1 hK1 => ?_
  repeat (go_big_quiet_step (fail))
  refine wpQuiet_nil ?_
  clear q0 q1 q2 b0 b1 b2 s0 s1 s2
  go_wp2_with (go_at_call 42; (with_reducible refine (code_any _ 1).mono ?_); rintro e we ⟨rfl, hge⟩; have HGE := Lib.hid hge; clear hge)
  refine norm_up (hK1 _ _ (Grow.kept HGE.out) ?_)
  clear hK1 K1
  have HGX : Hid (Grow w0 we) := (HGW.out.drew).trans HGE.out
  obtain ⟨z0, z1, z2, zf⟩ := HF.out.stK HGX.out
  refine st_cons fun K2 hK2 => ?_
  refine wpQuiet_nil ?_
  go_wp2
  refine norm_up (hK2 _ _ (put3_kept we (s + 1 + 1) _ _ _ (fun x e => .inl e)) ?_)
  clear hK2 K2 z0 z1 z2 zf
  have HZ3 := Lib.hid (put3_blk (x := .slice AT' z.nT cT') (y := .slice AB' z.nB cB') (u := .slice AH' z.nH cH') (HF.out.zb.grow HGX.out))
  have HK3 : Hid (Kept (fun x => x = s + 1 + 1) we (put3 we (s + 1 + 1) (.slice AT' z.nT cT') (.slice AB' z.nB cB') (.slice AH' z.nH cH'))) := put3_kept we (s + 1 + 1) _ _ _ (fun x e => e)
  have HZ3 : Hid (Blk (((we.setCell ⟨s + 1 + 1, 0, none⟩ (.slice AT' z.nT cT')).setCell ⟨s + 1 + 1, 1, none⟩ (.slice AB' z.nB cB')).setCell ⟨s + 1 + 1, 2, none⟩ (.slice AH' z.nH cH')) (s + 1 + 1) 39 [.slice AT' z.nT cT', .slice AB' z.nB cB', .slice AH' z.nH cH']) := HZ3.out
  have HK3 : Hid (Kept (fun x => x = s + 1 + 1) we (((we.setCell ⟨s + 1 + 1, 0, none⟩ (.slice AT' z.nT cT')).setCell ⟨s + 1 + 1, 1, none⟩ (.slice AB' z.nB cB')).setCell ⟨s + 1 + 1, 2, none⟩ (.slice AH' z.nH cH'))) := HK3.out
  have hrb : Blk (((we.setCell ⟨s + 1 + 1, 0, none⟩ (.slice AT' z.nT cT')).setCell ⟨s + 1 + 1, 1, none⟩ (.slice AB' z.nB cB')).setCell ⟨s + 1 + 1, 2, none⟩ (.slice AH' z.nH cH')) (s + 1 + 1 + 1) 27 [.int .i64 0, .int .i64 0, .int .i64 0, .slice none 0 0] := (HF.out.rb.grow HGX.out).kept HK3.out (fun e => by have e : s + 1 + 1 + 1 = s + 1 + 1 := e; omega)
  generalize ((we.setCell ⟨s + 1 + 1, 0, none⟩ (.slice AT' z.nT cT')).setCell ⟨s + 1 + 1, 1, none⟩ (.slice AB' z.nB cB')).setCell ⟨s + 1 + 1, 2, none⟩ (.slice AH' z.nH cH') = w3 at HZ3 HK3 hrb ⊢
  have HRB := Lib.hid hrb
  have t0 := hrb.cell 0
  have t1 := hrb.cell 1
  have t2 := hrb.cell 2
  have t3 := hrb.cell 3
  have tf := hrb.frozen
  simp only [List.getElem?_cons_zero, List.getElem?_cons_succ] at t0 t1 t2 t3
  clear hrb
  refine st_cons fun K4 hK4 => ?_
  refine wpQuiet_nil ?_
  go_wp2
  refine norm_up (hK4 _ _ ((put4_kept w3 (s + 1 + 1 + 1) (.int .i64 1) (.int .i64 0) (.int .i64 0) (.slice none 0 0)).mono fun x _ e => .inr e) (st_nil fun K5 hK5 => wpQuiet_nil (hK5 _ ?_)))
  clear hK4 K4 hK5 K5 t0 t1 t2 t3 tf
  go_wp2
  have HK6 := Lib.hid (put4_kept w3 (s + 1 + 1 + 1) (.int .i64 1) (.int .i64 0) (.int .i64 0) (.slice none 0 0))
  have hz6 := HZ3.out.kept HK6.out (fun e => by have e : s + 1 + 1 = s + 1 + 1 + 1 := e; omega)
  have hr6 := put4_blk (x := .int .i64 1) (y := .int .i64 0) (z := .int .i64 0) (d := .slice none 0 0) HRB.out
  have hgw : Grow w we := HF.out.gr.trans HGX.out
  have hfin : Grow w (put4 w3 (s + 1 + 1 + 1) (.int .i64 1) (.int .i64 0) (.int .i64 0) (.slice none 0 0)) := (hgw.then HK3.out fun k hk e => by have := HSZ.out; have e : k = s + 1 + 1 := e; omega).then HK6.out fun k hk e => by have := HSZ.out; have e : k = s + 1 + 1 + 1 := e; omega
  have how : Own (put4 w3 (s + 1 + 1 + 1) (.int .i64 1) (.int .i64 0) (.int .i64 0) (.slice none 0 0)) (w0.heap.size ≤ ·) (.agg #[.slice AT' z.nT cT', .slice AB' z.nB cB', .slice AH' z.nH cH']) z := by
    have hl := HF.out.rb.lt
    have h1 := HOW.out.grow ((HGM.out.drew).trans HGE.out)
    have h2 := h1.kept HK3.out (fun k hk e => by have e : k = s + 1 + 1 := e; have hk : w0.heap.size ≤ k := hk; omega)
    exact h2.kept HK6.out (fun k hk e => by have e : k = s + 1 + 1 + 1 := e; have hk : w0.heap.size ≤ k := hk; omega)
  rw [HP.out]
  refine ret_st_res rfl rfl rfl hz6 hr6 rfl ?_
  have hpa := (how.patZ HZA.out HGD.out).mono (X := fun k => w.heap.size ≤ k) fun k _ (h : w0.heap.size ≤ k) => by have := HF.out.gr.size; omega
  unfold DoP
  rw [run_out HC.out]
  exact ⟨_, _, rfl, hpa, repv_none _ _ _ _ _, hfin⟩
set_option maxHeartbeats 8000000 in
theorem do_in (hp : Parts w AT cT AB cB AH cH z) (hfw : z.few) (c : Int) (hza : z = stOf a) (hgd : MdM.Good a) {kc : Nat} (hkc : kc < z.nH) (hcc : c = (kc : Int)) (h63 : o.o ≤ 9223372036854775807) (hd : Sl w w.heap.size .u8 D dl o.d) (hby : Bytes o.d) : Calls Try.prog 27 #[.agg #[.slice AT z.nT cT, .slice AB z.nB cB, .slice AH z.nH cH], .int .i64 c, .agg #[.int .i64 o.k, .int .i64 o.p, .int .i64 o.h, .int .i64 o.o, .int .i64 o.n, .slice D dl dc]] w (DoP a c o w) := by
  have HF := Lib.hid (fr4_new w AT cT AB cB AH cH z o D dl dc)
  have HP0 := Lib.hid (hp.grow HF.out.gr)
  have HFW := Lib.hid hfw
  obtain ⟨P, hP⟩ : ∃ P, P = DoP a c o w := ⟨_, rfl⟩
  have HP := Lib.hid hP
  rw [← hP]
  have HMY : Hid z.may := hza ▸ good_may hgd
  have HZA := Lib.hid hza
  have HGD := Lib.hid hgd
  have HKN : Hid (kc < a.N) := by show kc < (stOf a).nH; rw [← hza]; exact hkc
  have HKC := Lib.hid hkc
  have H63 := Lib.hid h63
  have HD := Lib.hid hd
  have HBY := Lib.hid hby
  subst hcc
  have hkz : (kc : Int) < (z.nH : Int) := by omega
  clear hza hgd hkc h63 hd hby
  clear hp hfw hP
  go_enter Try.func27, Try.ntmps27
  go_upto_region 1 with (fail)
  generalize (((w.alloc (.cells #[.slice AT z.nT cT, .slice AB z.nB cB, .slice AH z.nH cH] 39)).alloc (.cells #[.int .i64 o.k, .int .i64 o.p, .int .i64 o.h, .int .i64 o.o, .int .i64 o.n, .slice D dl dc] 25)).alloc (.cells #[.slice none 0 0, .slice none 0 0, .slice none 0 0] 39)).alloc (.cells #[.int .i64 0, .int .i64 0, .int .i64 0, .slice none 0 0] 27) = w0 at *
  obtain ⟨s, hs⟩ : ∃ s, s = w.heap.size := ⟨_, rfl⟩
  rw [← hs] at HF ⊢
  have HSZ := Lib.hid hs
  clear hs
  have HCL := Lib.hid (clone_any HP0.out HFW.out)
  have HMAY := Lib.hid fun (w' : World) (hk : Grow w0 w') => may_any (HP0.out.grow hk) HFW.out
  unfold stv at HCL HMAY
  have s0 := HF.out.sb.cell 0
  have s1 := HF.out.sb.cell 1
  have s2 := HF.out.sb.cell 2
  simp only [List.getElem?_cons_zero, List.getElem?_cons_succ] at s0 s1 s2
  go_upto_region 2 with (go_at_call 40; (with_reducible refine HCL.out.mono ?_); rintro e wc ⟨nv, rfl, ⟨AT', cT', AB', cB', AH', cH', rfl, hown⟩, hgc⟩; have HOWN := Lib.hid hown; have HGC := Lib.hid hgc; clear hown hgc)
  have hb8 := Blk.new wc 39 [.slice AT' z.nT cT', .slice AB' z.nB cB', .slice AH' z.nH cH']
  have hg8 : Grow wc (wc.alloc (.cells #[.slice AT' z.nT cT', .slice AB' z.nB cB', .slice AH' z.nH cH'] 39)) := (Kept.refl _ _).alloc _
  have HB8 := Lib.hid hb8
  have HG8 : Hid (Grow w0 (wc.alloc (.cells #[.slice AT' z.nT cT', .slice AB' z.nB cB', .slice AH' z.nH cH'] 39))) := HGC.out.trans hg8
  have HOW := Lib.hid (HOWN.out.grow hg8)
  have HOWG := Lib.hid ((HOWN.out.mono (X := fun k => w0.heap.size ≤ k ∧ k < wc.heap.size) fun k hk h => ⟨h, hk⟩).grow hg8)
  clear hb8 hg8 s0 s1 s2
  obtain ⟨b8, hb⟩ : ∃ b8, b8 = wc.heap.size := ⟨_, rfl⟩
  rw [← hb] at HB8 HOWG ⊢
  have HBE := Lib.hid hb
  clear hb HOWN
  generalize wc.alloc (.cells #[.slice AT' z.nT cT', .slice AB' z.nB cB', .slice AH' z.nH cH'] 39) = w8 at *
  have s0 := (HF.out.sb.grow HG8.out).cell 0
  have s1 := (HF.out.sb.grow HG8.out).cell 1
  have s2 := (HF.out.sb.grow HG8.out).cell 2
  simp only [List.getElem?_cons_zero, List.getElem?_cons_succ] at s0 s1 s2
  have HM := Lib.hid (HMAY.out _ HG8.out)
  go_upto_region 4 with (go_at_call 41; (with_reducible refine HM.out.mono ?_); rintro e wm ⟨⟨bm, rfl, hbm⟩, hgm⟩; have HGM := Lib.hid hgm; have s0 := hgm.cellN s0 id; have s1 := hgm.cellN s1 id; have s2 := hgm.cellN s2 id; have HBM := Lib.hid hbm; clear hgm hbm; obtain rfl : bm = true := HBM.out.2 HMY.out)
  have HGW : Hid (Grow w0 wm) := HG8.out.trans HGM.out
  obtain ⟨gT, cT2, gB, cB2, gH, cH2, qb, cb, q, cp, e, hpm⟩ := ((HOWG.out.grow HGM.out.drew).patZ HZA.out HGD.out).mem
  simp only [sval, Value.agg.injEq, Array.mk.injEq, List.cons.injEq, Value.slice.injEq] at e
  obtain ⟨⟨rfl, -, rfl⟩, ⟨rfl, -, rfl⟩, ⟨rfl, -, rfl⟩, -⟩ := e
  have HPM := Lib.hid hpm
  have hrow := hpm.hb.cell (i := kc) (by have := HKN.out; omega)
  unfold scell at hrow
  clear hpm
  have b0 := (HB8.out.grow HGM.out.drew).cell 0
  have b1 := (HB8.out.grow HGM.out.drew).cell 1
  have b2 := (HB8.out.grow HGM.out.drew).cell 2
  have o0 := (HF.out.ob.grow HGW.out.drew).cell 0
  have o1 := (HF.out.ob.grow HGW.out.drew).cell 1
  have o2 := (HF.out.ob.grow HGW.out.drew).cell 2
  have o3 := (HF.out.ob.grow HGW.out.drew).cell 3
  have o4 := (HF.out.ob.grow HGW.out.drew).cell 4
  have o5 := (HF.out.ob.grow HGW.out.drew).cell 5
  simp only [List.getElem?_cons_zero, List.getElem?_cons_succ] at b0 b1 b2 o0 o1 o2 o3 o4 o5
  have hb8l := HBE.out
  have hszl := HF.out.rb.lt
  have hgcs := HGC.out.size
  have HLT : Hid (s + 1 + 1 + 1 < w0.heap.size ∧ w0.heap.size ≤ b8) := by show s + 1 + 1 + 1 < w0.heap.size ∧ w0.heap.size ≤ b8; omega
  clear hb8l hszl hgcs s0 s1 s2
  have HST : Hid (Calls Try.prog 43 #[.agg #[.slice (some ⟨gT, 0, none⟩) z.nT cT', .slice (some ⟨gB, 0, none⟩) z.nB cB', .slice (some ⟨gH, 0, none⟩) z.nH cH'], .slice (some ⟨q kc, 0, none⟩) 6 (cp kc), .agg #[.int .i64 o.k, .int .i64 o.p, .int .i64 o.h, .int .i64 o.o, .int .i64 o.n, .slice D dl dc]] wm.drew (PPost (fun k => w0.heap.size ≤ k ∧ k < b8) (sval gT cT' gB cB' gH cH' a) wm.drew (a.run (kc : Int) o))) := by
    have e5 : z.nT = a.n ∧ z.nB = a.n ∧ z.nH = a.N := by rw [HZA.out]; exact ⟨rfl, rfl, rfl⟩
    rw [e5.1, e5.2.1, e5.2.2]
    exact step_any (k := kc) ⟨HGD.out, HPM.out, fun k hk => Nat.lt_of_lt_of_le hk.2 (by have := (HB8.out.grow HGM.out.drew).lt; omega)⟩ HKN.out H63.out ((Blk.Sl.kept HD.out (HF.out.gr.trans HGW.out.drew) (Nat.le_refl _) fun _ _ x => x).more (HF.out.gr.trans HGW.out.drew).size) HBY.out
  have q0 := up_cell (F := (fun x => (w0.heap.size ≤ x ∧ x < b8) ∨ x = s + 1 + 1 ∨ x = s + 1 + 1 + 1)) (w := wm.drew) (p := ⟨b8, 0, none⟩) b0 (fun e => by have := HLT.out; rcases e with e | e | e; (have e1 : b8 < b8 := e.2; have e2 : w0.heap.size ≤ b8 := e.1; omega); (have e : b8 = s + 1 + 1 := e; omega); (have e : b8 = s + 1 + 1 + 1 := e; omega))
  have q1 := up_cell (F := (fun x => (w0.heap.size ≤ x ∧ x < b8) ∨ x = s + 1 + 1 ∨ x = s + 1 + 1 + 1)) (w := wm.drew) (p := ⟨b8, 1, none⟩) b1 (fun e => by have := HLT.out; rcases e with e | e | e; (have e1 : b8 < b8 := e.2; have e2 : w0.heap.size ≤ b8 := e.1; omega); (have e : b8 = s + 1 + 1 := e; omega); (have e : b8 = s + 1 + 1 + 1 := e; omega))
  have q2 := up_cell (F := (fun x => (w0.heap.size ≤ x ∧ x < b8) ∨ x = s + 1 + 1 ∨ x = s + 1 + 1 + 1)) (w := wm.drew) (p := ⟨b8, 2, none⟩) b2 (fun e => by have := HLT.out; rcases e with e | e | e; (have e1 : b8 < b8 := e.2; have e2 : w0.heap.size ≤ b8 := e.1; omega); (have e : b8 = s + 1 + 1 := e; omega); (have e : b8 = s + 1 + 1 + 1 := e; omega))
  have p0 := up_cell (F := (fun x => (w0.heap.size ≤ x ∧ x < b8) ∨ x = s + 1 + 1 ∨ x = s + 1 + 1 + 1)) (w := wm.drew) (p := ⟨s + 1, 0, none⟩) o0 (fun e => by have := HLT.out; rcases e with e | e | e; (have e1 : s + 1 < b8 := e.2; have e2 : w0.heap.size ≤ s + 1 := e.1; omega); (have e : s + 1 = s + 1 + 1 := e; omega); (have e : s + 1 = s + 1 + 1 + 1 := e; omega))
  have p1 := up_cell (F := (fun x => (w0.heap.size ≤ x ∧ x < b8) ∨ x = s + 1 + 1 ∨ x = s + 1 + 1 + 1)) (w := wm.drew) (p := ⟨s + 1, 1, none⟩) o1 (fun e => by have := HLT.out; rcases e with e | e | e; (have e1 : s + 1 < b8 := e.2; have e2 : w0.heap.size ≤ s + 1 := e.1; omega); (have e : s + 1 = s + 1 + 1 := e; omega); (have e : s + 1 = s + 1 + 1 + 1 := e; omega))
  have p2 := up_cell (F := (fun x => (w0.heap.size ≤ x ∧ x < b8) ∨ x = s + 1 + 1 ∨ x = s + 1 + 1 + 1)) (w := wm.drew) (p := ⟨s + 1, 2, none⟩) o2 (fun e => by have := HLT.out; rcases e with e | e | e; (have e1 : s + 1 < b8 := e.2; have e2 : w0.heap.size ≤ s + 1 := e.1; omega); (have e : s + 1 = s + 1 + 1 := e; omega); (have e : s + 1 = s + 1 + 1 + 1 := e; omega))
  have p3 := up_cell (F := (fun x => (w0.heap.size ≤ x ∧ x < b8) ∨ x = s + 1 + 1 ∨ x = s + 1 + 1 + 1)) (w := wm.drew) (p := ⟨s + 1, 3, none⟩) o3 (fun e => by have := HLT.out; rcases e with e | e | e; (have e1 : s + 1 < b8 := e.2; have e2 : w0.heap.size ≤ s + 1 := e.1; omega); (have e : s + 1 = s + 1 + 1 := e; omega); (have e : s + 1 = s + 1 + 1 + 1 := e; omega))
  have p4 := up_cell (F := (fun x => (w0.heap.size ≤ x ∧ x < b8) ∨ x = s + 1 + 1 ∨ x = s + 1 + 1 + 1)) (w := wm.drew) (p := ⟨s + 1, 4, none⟩) o4 (fun e => by have := HLT.out; rcases e with e | e | e; (have e1 : s + 1 < b8 := e.2; have e2 : w0.heap.size ≤ s + 1 := e.1; omega); (have e : s + 1 = s + 1 + 1 := e; omega); (have e : s + 1 = s + 1 + 1 + 1 := e; omega))
  have p5 := up_cell (F := (fun x => (w0.heap.size ≤ x ∧ x < b8) ∨ x = s + 1 + 1 ∨ x = s + 1 + 1 + 1)) (w := wm.drew) (p := ⟨s + 1, 5, none⟩) o5 (fun e => by have := HLT.out; rcases e with e | e | e; (have e1 : s + 1 < b8 := e.2; have e2 : w0.heap.size ≤ s + 1 := e.1; omega); (have e : s + 1 = s + 1 + 1 := e; omega); (have e : s + 1 = s + 1 + 1 + 1 := e; omega))
  have hle8 := (HB8.out.grow HGM.out.drew).lt
  refine wp_region_tree (Kept (fun x => x = s + 1 + 1 ∨ x = s + 1 + 1 + 1)) (Kept (fun x => (w0.heap.size ≤ x ∧ x < b8) ∨ x = s + 1 + 1 ∨ x = s + 1 + 1 + 1)) (kept_refl _) (kept_trans _) (kept_refl _) (kept_trans _) (fun _ _ h => h.mono fun _ _ x => .inr x) [8]
    (.look false [0, 1, 2, 3, 4, 5, 7] (.one true [6] 8 (.one false [] 9 (.one false [] 10 (.last false []))))) (by kernel_rfl) (by kernel_rfl) ?_
  refine tr_lookL fun K1 hK1 => ?_
  simp only [sel, List.map_cons, List.map_nil, List.getD_cons_succ, List.getD_cons_zero]
  repeat (go_big_quiet_step (fail))
  refine wpQuiet_nil (hK1 _ ?_)
  clear hK1 K1 q0 q1 q2 p0 p1 p2 p3 p4 p5
  have q6 := up_cell (F := (fun x => x = s + 1 + 1 ∨ x = s + 1 + 1 + 1)) (w := wm.drew) (p := ⟨gH, kc, none⟩) hrow (fun e => by
    have h1 := HLT.out
    have h2 : w0.heap.size ≤ gH := HPM.out.inG.2.2.1
    rcases e with e | e
    · have e : gH = s + 1 + 1 := e; omega
    · have e : gH = s + 1 + 1 + 1 := e; omega)
  refine tr_oneE fun K2 hK2 => ?_
  simp only [sel, List.map_cons, List.map_nil, List.getD_cons_succ, List.getD_cons_zero]
  repeat (go_big_quiet_step (fail))
  refine wpQuiet_nil ?_
  clear q6 hrow b0 b1 b2 o0 o1 o2 o3 o4 o5
  go_wp2_with (go_at_call 43; (with_reducible refine HST.out.mono ?_); rintro e w4 ⟨⟨rv, rfl, A, n, cap, rfl, hz, hA, hfz⟩, hpa, hk4⟩; have HZ := Lib.hid hz; have HFZ := Lib.hid hfz; have HA := Lib.hid hA; have HPA := Lib.hid hpa; have HK4 := Lib.hid hk4; clear hz hA hfz hpa hk4)
  refine norm_up (hK2 _ _ (Lr_late (by decide) (HK4.out.mono fun x _ h => .inl h)) ?_)
  clear hK2 K2 HST
  obtain ⟨RM, hrm⟩ : ∃ RM, RM = a.run (kc : Int) o := ⟨_, rfl⟩
  have HRM := Lib.hid hrm
  rw [← hrm] at HZ HPA ⊢
  clear hrm
  have HNG : Hid (∀ k, k < w0.heap.size → ¬ (w0.heap.size ≤ k ∧ k < b8)) := fun k h1 h2 => by omega
  have HZB := Lib.hid ((HF.out.zb.grow HGW.out.drew).kept HK4.out (HNG.out _ (by have := HLT.out; omega)))
  have HRB := Lib.hid ((HF.out.rb.grow HGW.out.drew).kept HK4.out (HNG.out _ HLT.out.1))
  have z0 := HZB.out.cell 0
  have z1 := HZB.out.cell 1
  have z2 := HZB.out.cell 2
  have zf := HZB.out.frozen
  simp only [List.getElem?_cons_zero, List.getElem?_cons_succ] at z0 z1 z2
  refine tr_oneL fun K3 hK3 => ?_
  simp only [sel, List.map_cons, List.map_nil, List.getD_cons_succ, List.getD_cons_zero]
  refine wpQuiet_nil ?_
  go_wp2
  refine norm_up (hK3 _ _ (Lr_early (by decide) (put3_kept w4 (s + 1 + 1) (.slice (some ⟨gT, 0, none⟩) z.nT cT') (.slice (some ⟨gB, 0, none⟩) z.nB cB') (.slice (some ⟨gH, 0, none⟩) z.nH cH') (fun x e => .inl e))) ?_)
  clear hK3 K3 z0 z1 z2 zf
  have HZ3 : Hid (Blk (((w4.setCell ⟨s + 1 + 1, 0, none⟩ (.slice (some ⟨gT, 0, none⟩) z.nT cT')).setCell ⟨s + 1 + 1, 1, none⟩ (.slice (some ⟨gB, 0, none⟩) z.nB cB')).setCell ⟨s + 1 + 1, 2, none⟩ (.slice (some ⟨gH, 0, none⟩) z.nH cH')) (s + 1 + 1) 39 [.slice (some ⟨gT, 0, none⟩) z.nT cT', .slice (some ⟨gB, 0, none⟩) z.nB cB', .slice (some ⟨gH, 0, none⟩) z.nH cH']) := put3_blk HZB.out
  have HK5 : Hid (Kept (fun x => x = s + 1 + 1) w4 (((w4.setCell ⟨s + 1 + 1, 0, none⟩ (.slice (some ⟨gT, 0, none⟩) z.nT cT')).setCell ⟨s + 1 + 1, 1, none⟩ (.slice (some ⟨gB, 0, none⟩) z.nB cB')).setCell ⟨s + 1 + 1, 2, none⟩ (.slice (some ⟨gH, 0, none⟩) z.nH cH'))) := put3_kept w4 (s + 1 + 1) _ _ _ (fun x e => e)
  have hrb : Blk (((w4.setCell ⟨s + 1 + 1, 0, none⟩ (.slice (some ⟨gT, 0, none⟩) z.nT cT')).setCell ⟨s + 1 + 1, 1, none⟩ (.slice (some ⟨gB, 0, none⟩) z.nB cB')).setCell ⟨s + 1 + 1, 2, none⟩ (.slice (some ⟨gH, 0, none⟩) z.nH cH')) (s + 1 + 1 + 1) 27 [.int .i64 0, .int .i64 0, .int .i64 0, .slice none 0 0] := HRB.out.kept HK5.out (fun e => by have e : s + 1 + 1 + 1 = s + 1 + 1 := e; omega)
  generalize ((w4.setCell ⟨s + 1 + 1, 0, none⟩ (.slice (some ⟨gT, 0, none⟩) z.nT cT')).setCell ⟨s + 1 + 1, 1, none⟩ (.slice (some ⟨gB, 0, none⟩) z.nB cB')).setCell ⟨s + 1 + 1, 2, none⟩ (.slice (some ⟨gH, 0, none⟩) z.nH cH') = w5 at HZ3 HK5 hrb ⊢
  have HRB5 := Lib.hid hrb
  have t0 := hrb.cell 0
  have t1 := hrb.cell 1
  have t2 := hrb.cell 2
  have t3 := hrb.cell 3
  have tf := hrb.frozen
  simp only [List.getElem?_cons_zero, List.getElem?_cons_succ] at t0 t1 t2 t3
  clear hrb
  refine tr_oneL fun K4 hK4 => ?_
  simp only [sel, List.map_cons, List.map_nil, List.getD_cons_succ, List.getD_cons_zero]
  refine wpQuiet_nil ?_
  go_wp2
  have HK6 := Lib.hid (put4_kept w5 (s + 1 + 1 + 1) (.int .i64 RM.1.c) (.int .i64 RM.1.p) (.int .i64 RM.1.h) (.slice A n cap))
  refine norm_up (hK4 _ _ (Lr_early (by decide) (HK6.out.mono fun x _ e => .inr e)) ?_)
  clear hK4 K4 t0 t1 t2 t3 tf
  refine tr_lastL fun K5 hK5 => ?_
  simp only [sel, List.map_nil]
  refine wpQuiet_nil (hK5 _ ?_)
  clear hK5 K5
  go_wp2
  have hz6 := HZ3.out.kept HK6.out (fun e => by have e : s + 1 + 1 = s + 1 + 1 + 1 := e; omega)
  have hr6 := put4_blk (x := .int .i64 RM.1.c) (y := .int .i64 RM.1.p) (z := .int .i64 RM.1.h) (d := .slice A n cap) HRB5.out
  have hg1 : Grow w w4 := (HF.out.gr.trans HGW.out.drew).then HK4.out fun k hk e => by have e : w0.heap.size ≤ k ∧ k < b8 := e; have := HF.out.gr.size; omega
  have hfin : Grow w (put4 w5 (s + 1 + 1 + 1) (.int .i64 RM.1.c) (.int .i64 RM.1.p) (.int .i64 RM.1.h) (.slice A n cap)) := (hg1.then HK5.out fun k hk e => by have := HSZ.out; have e : k = s + 1 + 1 := e; omega).then HK6.out fun k hk e => by have := HSZ.out; have e : k = s + 1 + 1 + 1 := e; omega
  have hpa := ((HPA.out.kept HK5.out (fun k hk e => HNG.out k (by have e : k = s + 1 + 1 := e; have := HLT.out; omega) hk)).kept HK6.out (fun k hk e => HNG.out k (by have e : k = s + 1 + 1 + 1 := e; have := HLT.out; omega) hk)).mono (X := fun k => w.heap.size ≤ k) fun k _ h => by have h : w0.heap.size ≤ k ∧ k < b8 := h; have := HF.out.gr.size; omega
  rw [HP.out]
  have hre : RePV (put4 w5 (s + 1 + 1 + 1) (.int .i64 RM.1.c) (.int .i64 RM.1.p) (.int .i64 RM.1.h) (.slice A n cap)) w.heap.size (.agg #[.int .i64 RM.1.c, .int .i64 RM.1.p, .int .i64 RM.1.h, .slice A n cap]) RM.1 := by
    refine ⟨A, n, cap, rfl, ⟨HZ.out.1, fun hn => ?_⟩, fun hn x e => ?_, ?_⟩
    · obtain ⟨b, off, e, hb, hc⟩ := HZ.out.2 hn
      have h1 : wm.drew.heap.size ≤ b := HA.out hn _ e
      have h2 := (HB8.out.grow HGM.out.drew).lt
      have h3 := HLT.out
      exact ⟨b, off, e, Nat.lt_of_lt_of_le hb (Nat.le_trans HK5.out.size HK6.out.size), fun j hj => HK6.out.cellN (HK5.out.cellN (hc j hj) (fun e => by have e : b = s + 1 + 1 := e; omega)) (fun e => by have e : b = s + 1 + 1 + 1 := e; omega)⟩
    · have h1 : wm.drew.heap.size ≤ x.block := HA.out hn _ e
      have h2 := (HF.out.gr.trans HGW.out.drew).size
      omega
    · have hbl : 0 < n → ∀ x, A = some x → x.block < w4.heap.size ∧ s + 1 + 1 + 1 < x.block := fun hn x e => by
        have h1 : wm.drew.heap.size ≤ x.block := HA.out hn _ e
        have h2 := (HB8.out.grow HGM.out.drew).lt
        have h3 := HLT.out
        exact ⟨sl_lt HZ.out hn e, by omega⟩
      exact (HFZ.out.kept HK5.out fun hn x e => ⟨(hbl hn x e).1, fun e2 => by have e2 : x.block = s + 1 + 1 := e2; have := (hbl hn x e).2; omega⟩).kept HK6.out fun hn x e => ⟨Nat.lt_of_lt_of_le (hbl hn x e).1 HK5.out.size, fun e2 => by have e2 : x.block = s + 1 + 1 + 1 := e2; have := (hbl hn x e).2; omega⟩
  have hmd : sval gT cT' gB cB' gH cH' a = .agg #[.slice (some ⟨gT, 0, none⟩) z.nT cT', .slice (some ⟨gB, 0, none⟩) z.nB cB', .slice (some ⟨gH, 0, none⟩) z.nH cH'] := by
    have e5 : z.nT = a.n ∧ z.nB = a.n ∧ z.nH = a.N := by rw [HZA.out]; exact ⟨rfl, rfl, rfl⟩
    rw [e5.1, e5.2.1, e5.2.2]
  rw [hmd] at hpa
  exact ret_st_res rfl rfl rfl hz6 hr6 rfl ⟨_, _, rfl, HRM.out ▸ hpa, HRM.out ▸ hre, hfin⟩
theorem mdo_any {a : Md} {v ov : Value} (hs : Seen w v (stOf a)) (g : MdM.Good a) (c : Int) (ho : OpV w w.heap.size ov o) (h63 : o.o ≤ 9223372036854775807) : Calls Try.prog 27 #[v, .int .i64 c, ov] w (DoP a c o w) := by
  obtain ⟨AT, cT, AB, cB, AH, cH, rfl, hp⟩ := hs
  obtain ⟨D, dl, dc, rfl, hd, hby, _, _⟩ := ho
  by_cases h0 : c < 0
  · exact do_c0 hp (good_few g) c rfl g h0
  · by_cases h1 : (a.N : Int) ≤ c
    · exact do_c1 hp (good_few g) c rfl g (by omega) h1
    · obtain ⟨kc, rfl⟩ := Int.eq_ofNat_of_zero_le (show 0 ≤ c by omega)
      exact do_in hp (good_few g) _ rfl g (kc := kc) (by show kc < a.N; omega) rfl h63 hd hby
theorem mdo_bad {v ov : Value} {s : St} (hs : Seen w v s) (hf : s.few) (hm : ¬ s.may) (c : Int) (ho : OpV w w.heap.size ov o) : Calls Try.prog 27 #[v, .int .i64 c, ov] w (DoBad s w) := by
  obtain ⟨AT, cT, AB, cB, AH, cH, rfl, hp⟩ := hs
  obtain ⟨D, dl, dc, rfl, _⟩ := ho
  exact do_bad hp hf c hm
end
end Go.Proofs.Ytjdlpknflhgkfaa.PmE
