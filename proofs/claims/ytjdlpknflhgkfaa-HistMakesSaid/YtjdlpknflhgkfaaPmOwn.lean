/-
  Package model: clone. Written by wip/tools/genpmdo.py.
-/
import Derived.Test.YtjdlpknflhgkfaaPmStep4
import Derived.Test.YtjdlpknflhgkfaaPmSame
namespace Go.Proofs.Ytjdlpknflhgkfaa.PmD
open Go.ChangeShapes Go.WideShapes Go.ChangeAt Go.RowKit
open Go.Proofs.Ytjdlpknflhgkfaa.Mem Go.Proofs.Ytjdlpknflhgkfaa.Blk Go.Proofs.Ytjdlpknflhgkfaa.Cells Go.Proofs.Ytjdlpknflhgkfaa.Orow Go.Proofs.Ytjdlpknflhgkfaa.GrC Go.Proofs.Ytjdlpknflhgkfaa.MdM Go.Proofs.Ytjdlpknflhgkfaa.MdC Go.Proofs.Ytjdlpknflhgkfaa.MdR Go.Proofs.Ytjdlpknflhgkfaa.MdD Go.Proofs.Ytjdlpknflhgkfaa.PmC Go.Proofs.Ytjdlpknflhgkfaa.PmI Go.Proofs.Ytjdlpknflhgkfaa.PmM Go.Proofs.Ytjdlpknflhgkfaa.PmP Go.Proofs.Ytjdlpknflhgkfaa.PmT Go.Proofs.Ytjdlpknflhgkfaa.PmU Go.Proofs.Ytjdlpknflhgkfaa.PmV Go.Proofs.Ytjdlpknflhgkfaa.PmW Go.Proofs.Ytjdlpknflhgkfaa.PmR Go.Proofs.Ytjdlpknflhgkfaa.PmK Go.Proofs.Ytjdlpknflhgkfaa.Stages

/-- A state of the call's own, whatever it may be: its three parts in three ranges of blocks, all in G. -/
structure OwnP (w : World) (G : Nat → Prop) (m1 m2 : Nat) (vT vB vH : Value) (VB VH : Nat → Value) (s : St) : Prop where
  T : OS w (fun k => G k ∧ k < m1) vT 4 1 s.nT (tcell s.T)
  B : Rs w (fun k => (G k ∧ m1 ≤ k) ∧ k < m2) vB 23 5 .u8 s.nB VB s.B
  H : Rs w (fun k => (G k ∧ m1 ≤ k) ∧ m2 ≤ k) vH 48 3 .i64 s.nH VH s.H
def Own (w : World) (G : Nat → Prop) (v : Value) (s : St) : Prop := ∃ m1 m2 vT vB vH VB VH, v = .agg #[vT, vB, vH] ∧ OwnP w G m1 m2 vT vB vH VB VH s
section
variable {w w0 w1 w' : World} {G F X : Nat → Prop} {v : Value} {s : St}
theorem rs_kept {tr te : TypeId} {k : IntKind} {n : Nat} {V : Nat → Value} {L : Nat → List Int} (h : Rs w G v tr te k n V L) (hk : Kept F w w') (hF : ∀ k, G k → ¬ F k) : Rs w' G v tr te k n V L :=
  ⟨h.out.kept hk hF, fun i hi => (h.row i hi).kept hk hF, h.off, h.ne⟩
theorem rs_mono {tr te : TypeId} {k : IntKind} {n : Nat} {V : Nat → Value} {L : Nat → List Int} (h : Rs w G v tr te k n V L) (hX : ∀ k, k < w.heap.size → G k → X k) : Rs w X v tr te k n V L :=
  ⟨PmR.os_mono h.out hX, fun i hi => PmR.os_mono (h.row i hi) hX, h.off, h.ne⟩
theorem Own.kept (h : Own w G v s) (hk : Kept F w w') (hF : ∀ k, G k → ¬ F k) : Own w' G v s := by
  obtain ⟨m1, m2, vT, vB, vH, VB, VH, e, h⟩ := h
  exact ⟨m1, m2, vT, vB, vH, VB, VH, e, h.T.kept hk (fun k x => hF k x.1), rs_kept h.B hk (fun k x => hF k x.1.1), rs_kept h.H hk (fun k x => hF k x.1.1)⟩
theorem Own.grow (h : Own w G v s) (hk : Grow w w') : Own w' G v s := h.kept hk fun _ _ x => x
theorem Own.mono (h : Own w G v s) (hX : ∀ k, k < w.heap.size → G k → X k) : Own w X v s := by
  obtain ⟨m1, m2, vT, vB, vH, VB, VH, e, h⟩ := h
  exact ⟨m1, m2, vT, vB, vH, VB, VH, e, PmR.os_mono h.T (fun k hk x => ⟨hX k hk x.1, x.2⟩), rs_mono h.B (fun k hk x => ⟨⟨hX k hk x.1.1, x.1.2⟩, x.2⟩), rs_mono h.H (fun k hk x => ⟨⟨hX k hk x.1.1, x.1.2⟩, x.2⟩)⟩
theorem Own.seen (h : Own w G v s) (hb : ∀ i, i < s.nB → Bytes (s.B i)) : Seen w v s := by
  obtain ⟨m1, m2, vT, vB, vH, VB, VH, rfl, h⟩ := h
  obtain ⟨AT, cT, rfl, hT⟩ := os_flags h.T
  obtain ⟨AB, cB, rfl, hB⟩ := h.B.lists
  obtain ⟨AH, cH, rfl, hH⟩ := h.H.lists
  exact ⟨AT, cT, AB, cB, AH, cH, rfl, hT, hB, hH, hb⟩
/-- Rows that are not empty lie in blocks. -/
theorem rs_blocks {tr te : TypeId} {k : IntKind} {n l : Nat} {V : Nat → Value} {L : Nat → List Int} (h : Rs w G v tr te k n V L) (hl : ∀ i, i < n → (L i).length = l) (h0 : 0 < l) :
    ∃ q c : Nat → Nat, ∀ i, i < n → V i = .slice (some ⟨q i, 0, none⟩) l (c i) ∧ OR w (q i) te 1 (c i) l (ncl k (L i)) ∧ G (q i) := by
  have : ∀ i, ∃ p : Nat × Nat, i < n → V i = .slice (some ⟨p.1, 0, none⟩) l p.2 ∧ OR w p.1 te 1 p.2 l (ncl k (L i)) ∧ G p.1 := fun i => by
    by_cases hi : i < n
    · have hr := h.row i hi
      rw [hl i hi] at hr
      obtain ⟨g, c, e, ho, hg⟩ := hr.form h0
      exact ⟨(g, c), fun _ => ⟨e, ho, hg⟩⟩
    · exact ⟨(0, 0), fun x => absurd x hi⟩
  obtain ⟨f, hf⟩ := Classical.axiomOfChoice this
  exact ⟨fun i => (f i).1, fun i => (f i).2, hf⟩
theorem rs_inj {tr te : TypeId} {k : IntKind} {n l : Nat} {V : Nat → Value} {L : Nat → List Int} (h : Rs w G v tr te k n V L) {q c : Nat → Nat} (hV : ∀ i, i < n → V i = .slice (some ⟨q i, 0, none⟩) l (c i)) : (∀ i j, i < n → j < n → q i = q j → i = j) ∧ ∀ i, i < n → v.ownBlock ≠ some (q i) := by
  refine ⟨fun i j hi hj e => ?_, fun i hi => h.off i hi (q i) (by rw [hV i hi]; rfl)⟩
  by_cases e2 : i = j
  · exact e2
  · exact absurd (by rw [hV j hj, e]; rfl) (h.ne i j hi hj e2 (q i) (by rw [hV i hi]; rfl))
theorem Own.patZ {a : Md} (h : Own w G v s) (hza : s = stOf a) (hgood : MdM.Good a) : PAt w G v a := by
  have hm : s.may := hza ▸ good_may hgood
  obtain ⟨m1, m2, vT, vB, vH, VB, VH, rfl, h⟩ := h
  obtain ⟨⟨⟨h1, h2⟩, h3, h4⟩, h5, h6, h7⟩ := hm
  obtain ⟨gT, cT, rfl, oT, iT⟩ := h.T.form (by omega)
  obtain ⟨gB, cB, rfl, oB, iB⟩ := h.B.out.form (by omega)
  obtain ⟨gH, cH, rfl, oH, iH⟩ := h.H.out.form (by omega)
  obtain ⟨qb, cb, hqb⟩ := rs_blocks h.B (fun i hi => (h6 i hi).1) (by omega : 0 < 16)
  obtain ⟨q, cp, hq⟩ := rs_blocks h.H (fun i hi => (h7 i hi).1) (by omega : 0 < 6)
  obtain ⟨jb, nb⟩ := rs_inj h.B (fun i hi => (hqb i hi).1)
  obtain ⟨jq, nq⟩ := rs_inj h.H (fun i hi => (hq i hi).1)
  rw [h5] at *
  subst hza
  have bIn := fun i (hi : i < a.n) => (hqb i hi).2.2
  have qIn := fun i (hi : i < a.N) => (hq i hi).2.2
  refine ⟨hgood, gT, cT, gB, cB, gH, cH, qb, cb, q, cp, rfl, oT, ?_, fun i hi => ?_, ?_, fun i hi => ?_, jb, jq, ⟨?_, ?_, ?_⟩, fun i hi => ⟨?_, ?_, ?_⟩, fun i hi => ⟨?_, ?_, ?_⟩, fun i j hi hj => ?_, ⟨iT.1, iB.1.1, iH.1.1⟩, fun i hi => (bIn i hi).1.1, fun i hi => (qIn i hi).1.1⟩
  · exact oB.congr fun i hi => (hqb i (by omega)).1
  · exact (hqb i hi).2.1
  · exact oH.congr fun i hi => (hq i (by omega)).1
  · refine (hq i hi).2.1.congr fun j hj => ?_
    show Value.int .i64 ((six (a.H i)).getD j 0) = .int .i64 (a.H i j)
    rw [six_get _ (by omega)]
  · intro e; have := iT.2; have := iB.1.2; omega
  · intro e; have := iT.2; have := iH.1.2; omega
  · intro e; have := iB.2; have := iH.2; omega
  · intro e; have := iT.2; have := (bIn i hi).1.2; omega
  · intro e; exact nb i hi (by rw [e]; rfl)
  · intro e; have := iH.2; have := (bIn i hi).2; omega
  · intro e; have := iT.2; have := (qIn i hi).1.2; omega
  · intro e; have := iB.2; have := (qIn i hi).2; omega
  · intro e; exact nq i hi (by rw [e]; rfl)
  · intro e; have := (bIn i hi).2; have := (qIn j hj).2; omega
end

/-! ### clone -/
abbrev put3 (w : World) (g : Nat) (x y u : Value) : World := ((w.setCell ⟨g, 0, none⟩ x).setCell ⟨g, 1, none⟩ y).setCell ⟨g, 2, none⟩ u
theorem put3_blk {w : World} {g : Nat} {t : TypeId} {x y u x' y' u' : Value} (h : Blk w g t [x', y', u']) : Blk (put3 w g x y u) g t [x, y, u] := ((h.set 0 x).set 1 y).set 2 u
theorem put3_kept {F : Nat → Prop} (w : World) (g : Nat) (x y u : Value) (hF : ∀ k, k = g → F k) : Kept F w (put3 w g x y u) := (((kept_set w g 0 x).trans (kept_set _ g 1 y)).trans (kept_set _ g 2 u)).mono fun k _ e => hF k e
/-- A copy of a state, the call's own. -/
def CPost (z : St) (w : World) (e : Ending) (w' : World) : Prop := ∃ v, e = .returned v ∧ (∃ AT cT AB cB AH cH, v = .agg #[.slice AT z.nT cT, .slice AB z.nB cB, .slice AH z.nH cH] ∧ Own w' (w.heap.size ≤ ·) (.agg #[.slice AT z.nT cT, .slice AB z.nB cB, .slice AH z.nH cH]) z) ∧ Grow w w'
section
variable {w : World} {AT AB AH D : Option Addr} {cT cB cH dl dc : Nat} {z : St} {o : MdOp} {a : Md}
set_option maxHeartbeats 8000000 in
theorem clone_any (hp : Parts w AT cT AB cB AH cH z) (hf : z.few) : Calls Try.prog 40 #[.agg #[.slice AT z.nT cT, .slice AB z.nB cB, .slice AH z.nH cH]] w (CPost z w) := by
  have hb := Blk.new w 39 [.slice AT z.nT cT, .slice AB z.nB cB, .slice AH z.nH cH]
  have hg : Grow w (w.alloc (.cells #[.slice AT z.nT cT, .slice AB z.nB cB, .slice AH z.nH cH] 39)) := (Kept.refl _ _).alloc _
  have hz : (w.alloc (.cells #[.slice AT z.nT cT, .slice AB z.nB cB, .slice AH z.nH cH] 39)).heap.size = w.heap.size + 1 := by simp
  have hb2 := Blk.new (w.alloc (.cells #[.slice AT z.nT cT, .slice AB z.nB cB, .slice AH z.nH cH] 39)) 39 [.slice none 0 0, .slice none 0 0, .slice none 0 0]
  have hg2 : Grow (w.alloc (.cells #[.slice AT z.nT cT, .slice AB z.nB cB, .slice AH z.nH cH] 39)) ((w.alloc (.cells #[.slice AT z.nT cT, .slice AB z.nB cB, .slice AH z.nH cH] 39)).alloc (.cells #[.slice none 0 0, .slice none 0 0, .slice none 0 0] 39)) := (Kept.refl _ _).alloc _
  rw [hz] at hb2
  have HSB := Lib.hid (hb.grow hg2)
  have HRB := Lib.hid hb2
  have HG0 := Lib.hid (hg.trans hg2)
  have HP := Lib.hid (hp.grow HG0.out)
  have HF := Lib.hid hf
  obtain ⟨P, hP⟩ : ∃ P, P = CPost z w := ⟨_, rfl⟩
  have HPO := Lib.hid hP
  rw [← hP]
  clear hb hg hz hb2 hg2 hp hf hP
  go_enter Try.func40, Try.ntmps40
  go_upto_region 1 with (fail)
  generalize (w.alloc (.cells #[.slice AT z.nT cT, .slice AB z.nB cB, .slice AH z.nH cH] 39)).alloc (.cells #[.slice none 0 0, .slice none 0 0, .slice none 0 0] 39) = w0 at *
  obtain ⟨s, hs⟩ : ∃ s, s = w.heap.size := ⟨_, rfl⟩
  rw [← hs] at HSB HRB ⊢
  have HSZ := Lib.hid hs
  clear hs
  have s0 := HSB.out.cell 0
  have s1 := HSB.out.cell 1
  have s2 := HSB.out.cell 2
  simp only [List.getElem?_cons_zero, List.getElem?_cons_succ] at s0 s1 s2
  have q0 := up_cell (F := fun x => x = s + 1) (w := w0.drew) (p := ⟨s, 0, none⟩) s0 (fun e => by have e : s = s + 1 := e; omega)
  have q1 := up_cell (F := fun x => x = s + 1) (w := w0.drew) (p := ⟨s, 1, none⟩) s1 (fun e => by have e : s = s + 1 := e; omega)
  have q2 := up_cell (F := fun x => x = s + 1) (w := w0.drew) (p := ⟨s, 2, none⟩) s2 (fun e => by have e : s = s + 1 := e; omega)
  refine wp_region_stages (Kept (fun x => x = s + 1)) (kept_refl _) (kept_trans _) [([0, 1, 3, 4, 6, 7], 2), ([], 5), ([], 8), ([9], 10)] [] (by kernel_rfl) (by kernel_rfl) ?_
  simp only [selSt, sel, List.map_cons, List.map_nil, List.getD_cons_succ, List.getD_cons_zero]
  refine st_cons fun K1 hK1 => ?_
  repeat (go_big_quiet_step (fail))
  refine wpQuiet_nil ?_
  clear q0 q1 q2 s0 s1 s2
  have HGD : Hid (Grow w0 w0.drew) := (Kept.refl _ _).drew
  have HC1 := Lib.hid (clone_bools (A := AT) (T := z.T) (HP.out.T.grow HGD.out) cT (by have := HF.out.nT; omega))
  go_wp2_with (go_at_call 62; (with_reducible refine HC1.out.mono ?_); rintro e w1 ⟨⟨x1, rfl, hx1⟩, hg1⟩; obtain ⟨A1, c1, rfl⟩ := os_form hx1; have HX1 := Lib.hid hx1; have HG1 := Lib.hid hg1; clear hx1 hg1)
  refine norm_up (hK1 _ _ (Grow.kept HG1.out) ?_)
  clear hK1 K1 HC1
  have HGE1 : Hid (Grow w0 w1) := HGD.out.trans HG1.out
  have HC2 := Lib.hid (rows_bytes (HP.out.B.grow HGE1.out) cB HF.out.nB HF.out.B)
  refine st_cons fun K2 hK2 => ?_
  refine wpQuiet_nil ?_
  go_wp2_with (go_at_call 63; (with_reducible refine HC2.out.mono ?_); rintro e w2 ⟨⟨x2, VB, rfl, hx2⟩, hg2⟩; obtain ⟨A2, c2, rfl⟩ := os_form hx2.out; have HX2 := Lib.hid hx2; have HG2 := Lib.hid hg2; clear hx2 hg2)
  refine norm_up (hK2 _ _ (Grow.kept HG2.out) ?_)
  clear hK2 K2 HC2
  have HGE2 : Hid (Grow w0 w2) := HGE1.out.trans HG2.out
  have HC3 := Lib.hid (rows_ints (HP.out.H.grow HGE2.out) cH (by have := HF.out.nH; omega) (fun i hi => by have := HF.out.H i hi; omega))
  refine st_cons fun K3 hK3 => ?_
  refine wpQuiet_nil ?_
  go_wp2_with (go_at_call 64; (with_reducible refine HC3.out.mono ?_); rintro e w3 ⟨⟨x3, VH, rfl, hx3⟩, hg3⟩; obtain ⟨A3, c3, rfl⟩ := os_form hx3.out; have HX3 := Lib.hid hx3; have HG3 := Lib.hid hg3; clear hx3 hg3)
  refine norm_up (hK3 _ _ (Grow.kept HG3.out) ?_)
  clear hK3 K3 HC3
  have HGE3 : Hid (Grow w0 w3) := HGE2.out.trans HG3.out
  have hrb := HRB.out.grow HGE3.out
  have HRB3 := Lib.hid hrb
  have t0 := hrb.cell 0
  have t1 := hrb.cell 1
  have t2 := hrb.cell 2
  have tf := hrb.frozen
  simp only [List.getElem?_cons_zero, List.getElem?_cons_succ] at t0 t1 t2
  clear hrb
  refine st_cons fun K4 hK4 => ?_
  repeat (go_big_quiet_step (fail))
  refine wpQuiet_nil ?_
  go_wp2
  refine norm_up (hK4 _ _ (put3_kept w3 (s + 1) (.slice A1 z.nT c1) (.slice A2 z.nB c2) (.slice A3 z.nH c3) (fun x e => e)) (st_nil fun K5 hK5 => wpQuiet_nil (hK5 _ ?_)))
  clear hK4 K4 hK5 K5 t0 t1 t2 tf
  go_wp2
  have hb5 := put3_blk (x := .slice A1 z.nT c1) (y := .slice A2 z.nB c2) (u := .slice A3 z.nH c3) HRB3.out
  have hk5 : Kept (fun x => x = s + 1) w3 (put3 w3 (s + 1) (.slice A1 z.nT c1) (.slice A2 z.nB c2) (.slice A3 z.nH c3)) := put3_kept w3 (s + 1) _ _ _ (fun x e => e)
  rw [HPO.out]
  refine ret_st rfl rfl hb5 rfl ⟨_, rfl, ⟨_, _, _, _, _, _, rfl, ?_⟩, (HG0.out.trans HGE3.out).then hk5 fun k hk e => by have := HSZ.out; have e : k = s + 1 := e; omega⟩
  have h1 := HRB.out.lt
  have h2 := HGD.out.size
  have h3 := HG1.out.size
  have h4 := HG2.out.size
  have h5 := HG0.out.size
  have o1 := (PmR.os_mono (X := fun k => (w.heap.size ≤ k ∧ s + 1 ≠ k) ∧ k < w1.heap.size) HX1.out fun k hk (x : _ ≤ k) => ⟨⟨by omega, by omega⟩, hk⟩)
  have o2 := (rs_mono (X := fun k => (((w.heap.size ≤ k ∧ s + 1 ≠ k) ∧ w1.heap.size ≤ k)) ∧ k < w2.heap.size) HX2.out fun k hk (x : _ ≤ k) => ⟨⟨⟨by omega, by omega⟩, x⟩, hk⟩)
  have o3 := (rs_mono (X := fun k => (((w.heap.size ≤ k ∧ s + 1 ≠ k) ∧ w1.heap.size ≤ k)) ∧ w2.heap.size ≤ k) HX3.out fun k hk (x : _ ≤ k) => ⟨⟨⟨by omega, by omega⟩, by omega⟩, x⟩)
  have how : Own w3 (fun k => w.heap.size ≤ k ∧ s + 1 ≠ k) (.agg #[.slice A1 z.nT c1, .slice A2 z.nB c2, .slice A3 z.nH c3]) z :=
    ⟨w1.heap.size, w2.heap.size, _, _, _, VB, VH, rfl, (PmR.os_grow o1 HG2.out).kept HG3.out (fun _ _ x => x), rs_kept o2 HG3.out (fun _ _ x => x), o3⟩
  exact (how.kept hk5 fun k hk e => hk.2 e.symm).mono fun k _ x => x.1

end
end Go.Proofs.Ytjdlpknflhgkfaa.PmD
