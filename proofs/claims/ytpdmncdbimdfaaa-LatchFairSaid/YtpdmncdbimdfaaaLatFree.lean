/-
  Package latch: Free.
-/
import Derived.Test.YtpdmncdbimdfaaaLatDel
namespace Go.Proofs.Ytpdmncdbimdfaaa.LatF
open Go.ChangeShapes Go.WideShapes Go.ChangeAt Go.RowKit
open Go.Proofs.Ytpdmncdbimdfaaa.Mem Go.Proofs.Ytpdmncdbimdfaaa.Blk Go.Proofs.Ytpdmncdbimdfaaa.Cells Go.Proofs.Ytpdmncdbimdfaaa.GsC Go.Proofs.Ytpdmncdbimdfaaa.LatM Go.Proofs.Ytpdmncdbimdfaaa.LatC Go.Proofs.Ytpdmncdbimdfaaa.LatY Go.Proofs.Ytpdmncdbimdfaaa.LatZ Go.Proofs.Ytpdmncdbimdfaaa.LatO Go.Proofs.Ytpdmncdbimdfaaa.LatI Go.Proofs.Ytpdmncdbimdfaaa.LatR Go.Proofs.Ytpdmncdbimdfaaa.LatN Go.Proofs.Ytpdmncdbimdfaaa.LatA Go.Proofs.Ytpdmncdbimdfaaa.LatL Go.Proofs.Ytpdmncdbimdfaaa.LatD Go.Proofs.Ytpdmncdbimdfaaa.RetC Go.Proofs.Ytpdmncdbimdfaaa.Stages Go.Proofs.Ytpdmncdbimdfaaa.Trees

/-- A latch, who was let in, and that all went well. -/
def FreeP (w : World) (r : La × List Int) (e : Ending) (w' : World) : Prop :=
  ∃ v A c, e = .returned (.tuple #[v, .slice A r.2.length c, .int .i64 0]) ∧ Keeps w w' r.1 v ∧ (∀ F w'', Kept F w' w'' → (∀ k, w.heap.size ≤ k → ¬ F k) → Sl w'' w''.heap.size .i64 A r.2.length r.2) ∧ (r.2.length ≤ c ∧ c ≤ maxLen) ∧ Grow w w'
/-- The latch as it was, and that t does not hold it. -/
def FreeN (w : World) (L : La) (e : Ending) (w' : World) : Prop :=
  ∃ v, e = .returned (.tuple #[v, .slice none 0 0, .int .i64 12]) ∧ Keeps w w' L v ∧ Grow w w'

section
variable {w : World} {L : La} {v : Value}
/-- Three blocks that a call has just laid. -/
structure Boxes3 (w w0 : World) (t t' : TypeId) (X Y Z : List Value) : Prop where
  b : Blk w0 w.heap.size t X
  y : Blk w0 (w.heap.size + 1) t' Y
  z : Blk w0 (w.heap.size + 1 + 1) t Z
  g : Grow w w0
  s : w0.heap.size = w.heap.size + 3
theorem boxes3 (w : World) (t t' : TypeId) (X Y Z : List Value) : Boxes3 w (((w.alloc (.cells X.toArray t)).alloc (.cells Y.toArray t')).alloc (.cells Z.toArray t)) t t' X Y Z := by
  have e1 : (w.alloc (.cells X.toArray t)).heap.size = w.heap.size + 1 := by simp
  have e2 : ((w.alloc (.cells X.toArray t)).alloc (.cells Y.toArray t')).heap.size = w.heap.size + 1 + 1 := by simp
  refine ⟨((Blk.new w t X).alloc _).alloc _, ?_, ?_, (((Kept.refl _ _).alloc _).alloc _).alloc _, by simp⟩
  · have := (Blk.new (w.alloc (.cells X.toArray t)) t' Y).alloc (.cells Z.toArray t)
    rwa [e1] at this
  · have := Blk.new ((w.alloc (.cells X.toArray t)).alloc (.cells Y.toArray t')) t Z
    rwa [e2] at this

/-- 'l.Readers = ..'. -/
theorem Two.pull {w' : World} {base : Nat} {R Q S : List Int} {A A' A2 : Option Addr} {c c' c2 : Nat} (h : Two w base R Q A c A' c') (hb : base ≤ w.heap.size) (hg : Gs w' A2 S.length c2 S) (hk : Kept (blk A c) w w') (h2 : ∀ k, blk A2 c2 k → blk A c k ∨ w.heap.size ≤ k) : Two w' base S Q A2 c2 A' c' := by
  refine ⟨hg, h.q.kept hk fun k h1 h3 => h.ap k h3 h1, fun k h3 h4 => ?_, fun k h3 => ?_, h.qb⟩
  · rcases h2 k h3 with x | x
    · exact h.ap k x h4
    · have := h.q.lt h4; omega
  · rcases h2 k h3 with x | x
    · exact h.rb k x
    · omega
theorem free_fin {w0 w8 w9 w10 wf : World} {r : La × List Int} {v : Value} {Ai : Option Addr} {ci : Nat} (hs : w0.heap.size = w.heap.size + 3) (h8 : w0.heap.size ≤ w8.heap.size) (h9 : Grow w w9)
    (hv : ∀ F w'', Kept F w9 w'' → (∀ k, w0.heap.size ≤ k → ¬ F k) → LatV w'' r.1 v) (hgi : Gs w9 Ai r.2.length ci r.2) (hbi : ∀ k, blk Ai ci k → w8.heap.size ≤ k)
    (hk10 : Kept (fun k => k = w.heap.size) w9 w10) (hkz : Kept (fun k => k = w.heap.size + 1 + 1) w10 wf) : FreeP w r (.returned (.tuple #[v, .slice Ai r.2.length ci, .int .i64 0])) wf := by
  have hk : Kept (fun k => k = w.heap.size ∨ k = w.heap.size + 1 + 1) w9 wf := (hk10.mono fun _ _ x => .inl x).trans (hkz.mono fun _ _ x => .inr x)
  refine ⟨v, Ai, ci, rfl, fun F w'' hF hFk => hv (fun k => (k = w.heap.size ∨ k = w.heap.size + 1 + 1) ∨ F k) _ ((hk.mono fun _ _ x => .inl x).trans (hF.mono fun _ _ x => .inr x)) (fun k h1 e => ?_), fun F w'' hF hFk => ?_, ⟨hgi.le, hgi.max⟩, h9.then hk fun k h1 e => by omega⟩
  · rcases e with e | e
    · omega
    · exact hFk k (by omega) e
  · refine ((hgi.kept hk fun k h1 e => ?_).kept hF fun k h1 => hFk k ?_).sl (Nat.le_refl _)
    · have := hbi k h1; omega
    · have := hbi k h1; omega

theorem free_any (h : LatV w L v) (hg : LatM.Good L) (t : Int) (ht : L.has t = true) :
    Calls Try.prog 8 #[v, .int .i64 t] w (FreeP w (goIn (if L.W = t then -1 else L.W) (if L.W = t then L.R else L.R.filter (fun x => !decide (x = t))) L.Q)) := by
  have hR := hg.pre.lenR
  have hQ := hg.pre.lenQ
  have HO := Lib.hid fun (w' : World) (hk : Grow w w') => own_any (h.grow hk) (by omega) (by omega)
  have hmay := fun (w' : World) (v : Value) (hv : LatV w' L v) => may_any hv hg.pre
  rw [settled_good hg] at hmay
  have HMAY := Lib.hid hmay
  have hhas := fun (w' : World) (v : Value) (hv : LatV w' L v) => has_any hv t (by omega)
  rw [ht] at hhas
  have HHAS := Lib.hid hhas
  have HPF := Lib.hid (free_pre hg ht)
  have HLI := Lib.hid fun (w' : World) (W : Int) (R : List Int) (base : Nat) (A A' : Option Addr) (c c' : Nat) (hp : Pre W R L.Q) (hb : base ≤ w'.heap.size) (h : Two w' base R L.Q A c A' c') => letIn_any (W := W) hb h hp
  have HIN : Hid (L.W ≠ t → t ∈ L.R) := fun e => by
    rcases (has_iff hg.pre).1 ht with ⟨_, h | h⟩
    · exact absurd h e
    · exact h
  have hRz : L.R.length ≤ 100000 := by omega
  obtain ⟨A0, c0, A0', c0', rfl, _, _, _, _⟩ := h
  generalize hr : goIn (if L.W = t then -1 else L.W) (if L.W = t then L.R else L.R.filter (fun x => !decide (x = t))) L.Q = r at *
  have HR := Lib.hid hr
  clear hmay hhas hg ht hR hQ hr
  generalize hP : FreeP w r = P
  have HP := Lib.hid hP
  clear hP
  go_enter Try.func8, Try.ntmps8
  go_upto_region 1 with (fail)
  have hb := boxes3 w 25 3 [.int .i64 L.W, .slice A0 L.R.length c0, .slice A0' L.Q.length c0'] [.int .i64 t] [.int .i64 0, .slice none 0 0, .slice none 0 0]
  generalize ((w.alloc (.cells #[.int .i64 L.W, .slice A0 L.R.length c0, .slice A0' L.Q.length c0'] 25)).alloc (.cells #[.int .i64 t] 3)).alloc (.cells #[.int .i64 0, .slice none 0 0, .slice none 0 0] 25) = w0 at *
  have HB := Lib.hid hb
  have k0 := hb.b.cell 0
  have k1 := hb.b.cell 1
  have k2 := hb.b.cell 2
  simp only [List.getElem?_cons_zero, List.getElem?_cons_succ] at k0 k1 k2
  clear hb
  go_upto_region 3 with (go_at_call 13; (with_reducible refine (HO.out _ HB.out.g).mono ?_); rintro e w1 ⟨A, c, A', c', rfl, htw, hgr⟩; have T1 := Lib.hid htw; have G1 := Lib.hid hgr; clear htw hgr k0 k1 k2; have f0 := (HB.out.b.grow G1.out).frozenAll; have k0 := (HB.out.b.grow G1.out).cell 0; have k1 := (HB.out.b.grow G1.out).cell 1; have k2 := (HB.out.b.grow G1.out).cell 2; simp only [List.getElem?_cons_zero, List.getElem?_cons_succ] at k0 k1 k2)
  have hb2 : Blk (((w1.setCell ⟨w.heap.size, 0, none⟩ (.int .i64 L.W)).setCell ⟨w.heap.size, 1, none⟩ (.slice A L.R.length c)).setCell ⟨w.heap.size, 2, none⟩ (.slice A' L.Q.length c')) w.heap.size 25 [.int .i64 L.W, .slice A L.R.length c, .slice A' L.Q.length c'] := (((HB.out.b.grow G1.out).set 0 _).set 1 _).set 2 _
  have hk2 := ((kept_set w1 w.heap.size 0 (.int .i64 L.W)).trans (kept_set _ w.heap.size 1 (.slice A L.R.length c))).trans (kept_set _ w.heap.size 2 (.slice A' L.Q.length c'))
  generalize ((w1.setCell ⟨w.heap.size, 0, none⟩ (.int .i64 L.W)).setCell ⟨w.heap.size, 1, none⟩ (.slice A L.R.length c)).setCell ⟨w.heap.size, 2, none⟩ (.slice A' L.Q.length c') = w2 at *
  have B2 := Lib.hid hb2
  have T2 := Lib.hid (Two.kept T1.out hk2 fun k h1 e => by have := HB.out.s; omega)
  have Y2 := Lib.hid ((HB.out.y.grow G1.out).kept hk2 (by omega))
  have Z2 := Lib.hid ((HB.out.z.grow G1.out).kept hk2 (by omega))
  have G2 : Hid (Grow w w2) := (HB.out.g.trans G1.out).then hk2 fun k h1 e => by omega
  clear hb2 hk2 f0 k0 k1 k2
  have k0 := B2.out.cell 0
  have k1 := B2.out.cell 1
  have k2 := B2.out.cell 2
  simp only [List.getElem?_cons_zero, List.getElem?_cons_succ] at k0 k1 k2
  have y0 := Y2.out.cell 0
  simp only [List.getElem?_cons_zero] at y0
  by_cases e : L.W = t
  · have e1 : (L.W == t) = true := beq_iff_eq.2 e
    rw [if_pos e, if_pos e] at HPF HR
    clear e
    go_upto_region 9 with (first
      | (go_at_call 14; (with_reducible refine (HMAY.out _ _ T2.out.latv).mono ?_); rintro e w3 ⟨rfl, hgr⟩; have G3 := Lib.hid hgr; clear hgr k0 k1 k2 y0; have B3 := Lib.hid (B2.out.grow G3.out); have T3 := Lib.hid (Two.grow T2.out G3.out); have Y3 := Lib.hid (Y2.out.grow G3.out); have Z3 := Lib.hid (Z2.out.grow G3.out); have k0 := B3.out.cell 0; have k1 := B3.out.cell 1; have k2 := B3.out.cell 2; have y0 := Y3.out.cell 0; simp only [List.getElem?_cons_zero, List.getElem?_cons_succ] at k0 k1 k2 y0)
      | (go_at_call 9; (with_reducible refine (HHAS.out _ _ T3.out.latv).mono ?_); rintro e w4 ⟨rfl, hgr⟩; have G4 := Lib.hid hgr; clear hgr k0 k1 k2 y0; have B4 := Lib.hid (B3.out.grow G4.out); have T4 := Lib.hid (Two.grow T3.out G4.out); have Y4 := Lib.hid (Y3.out.grow G4.out); have Z4 := Lib.hid (Z3.out.grow G4.out); have f4 := B4.out.frozenAll; have k0 := B4.out.cell 0; have k1 := B4.out.cell 1; have k2 := B4.out.cell 2; have y0 := Y4.out.cell 0; simp only [List.getElem?_cons_zero, List.getElem?_cons_succ] at k0 k1 k2 y0))
    have hk8 := kept_set w4 w.heap.size 0 (.int .i64 (-1))
    have B8 : Hid (Blk (w4.setCell ⟨w.heap.size, 0, none⟩ (.int .i64 (-1))) w.heap.size 25 [.int .i64 (-1), .slice A L.R.length c, .slice A' L.Q.length c']) := B4.out.set 0 _
    have T8 := Lib.hid (Two.kept T4.out hk8 fun k h1 e => by have := HB.out.s; omega)
    have Z8 := Lib.hid (Z4.out.kept hk8 (by omega))
    have G8 : Hid (Grow w (w4.setCell ⟨w.heap.size, 0, none⟩ (.int .i64 (-1)))) := ((G2.out.trans G3.out).trans G4.out).then hk8 fun k h1 e => by omega
    have S8 : Hid (w0.heap.size ≤ (w4.setCell ⟨w.heap.size, 0, none⟩ (.int .i64 (-1))).heap.size) := by
      show _ ≤ _
      have := Z8.out.lt
      have h3 := HB.out.s
      omega
    clear f4 hk8 k0 k1 k2 y0
    generalize w4.setCell ⟨w.heap.size, 0, none⟩ (.int .i64 (-1)) = w8 at *
    have k0 := B8.out.cell 0
    have k1 := B8.out.cell 1
    have k2 := B8.out.cell 2
    simp only [List.getElem?_cons_zero, List.getElem?_cons_succ] at k0 k1 k2
    have hl8 := HLI.out _ _ _ _ _ _ _ _ HPF.out S8.out T8.out
    rw [HR.out] at hl8
    have HL8 := Lib.hid hl8
    clear hl8
    go_upto_region 10 with (go_at_call 17; (with_reducible refine HL8.out.mono ?_); rintro e w9 ⟨v, Ai, ci, rfl, hv, hgi, hbi, hk9⟩; have HK9 := Lib.hid hk9; have HV := Lib.hid hv; have HGI := Lib.hid hgi; have HBI := Lib.hid hbi; obtain ⟨D1, d1, D2, d2, rfl, _, _, _, _⟩ := hv _ _ (Kept.refl (fun _ => False) w9) (fun _ _ => id); clear hv hgi hbi hk9 k0 k1 k2; have B9 := Lib.hid (B8.out.kept HK9.out fun x => by have := T8.out.rb _ x; have := HB.out.s; omega); have Z9 := Lib.hid (Z8.out.kept HK9.out fun x => by have := T8.out.rb _ x; have := HB.out.s; omega); have f9 := B9.out.frozenAll; have k0 := B9.out.cell 0; have k1 := B9.out.cell 1; have k2 := B9.out.cell 2; simp only [List.getElem?_cons_zero, List.getElem?_cons_succ] at k0 k1 k2)
    have hk10 := ((kept_set w9 w.heap.size 0 (.int .i64 r.1.W)).trans (kept_set _ w.heap.size 1 (.slice D1 r.1.R.length d1))).trans (kept_set _ w.heap.size 2 (.slice D2 r.1.Q.length d2))
    have B10 : Hid (Blk (((w9.setCell ⟨w.heap.size, 0, none⟩ (.int .i64 r.1.W)).setCell ⟨w.heap.size, 1, none⟩ (.slice D1 r.1.R.length d1)).setCell ⟨w.heap.size, 2, none⟩ (.slice D2 r.1.Q.length d2)) w.heap.size 25 [.int .i64 r.1.W, .slice D1 r.1.R.length d1, .slice D2 r.1.Q.length d2]) := ((B9.out.set 0 _).set 1 _).set 2 _
    have Z10 := Lib.hid (Z9.out.kept hk10 (by omega))
    have G9 : Hid (Grow w w9) := G8.out.then HK9.out fun k h1 h2 => by have := T8.out.rb _ h2; have := HB.out.s; omega
    have HK10 := Lib.hid hk10
    clear hk10 f9 k0 k1 k2
    generalize ((w9.setCell ⟨w.heap.size, 0, none⟩ (.int .i64 r.1.W)).setCell ⟨w.heap.size, 1, none⟩ (.slice D1 r.1.R.length d1)).setCell ⟨w.heap.size, 2, none⟩ (.slice D2 r.1.Q.length d2) = w10 at *
    have k0 := B10.out.cell 0
    have k1 := B10.out.cell 1
    have k2 := B10.out.cell 2
    have j0 := Z10.out.cell 0
    have j1 := Z10.out.cell 1
    have j2 := Z10.out.cell 2
    have fz := Z10.out.frozenAll
    simp only [List.getElem?_cons_zero, List.getElem?_cons_succ] at k0 k1 k2 j0 j1 j2
    go_wp2
    have ZZ : Blk (((w10.setCell ⟨w.heap.size + 1 + 1, 0, none⟩ (.int .i64 r.1.W)).setCell ⟨w.heap.size + 1 + 1, 1, none⟩ (.slice D1 r.1.R.length d1)).setCell ⟨w.heap.size + 1 + 1, 2, none⟩ (.slice D2 r.1.Q.length d2)) (w.heap.size + 1 + 1) 25 [.int .i64 r.1.W, .slice D1 r.1.R.length d1, .slice D2 r.1.Q.length d2] := ((Z10.out.set 0 _).set 1 _).set 2 _
    have hkz := ((kept_set w10 (w.heap.size + 1 + 1) 0 (.int .i64 r.1.W)).trans (kept_set _ (w.heap.size + 1 + 1) 1 (.slice D1 r.1.R.length d1))).trans (kept_set _ (w.heap.size + 1 + 1) 2 (.slice D2 r.1.Q.length d2))
    refine ret_cell3 rfl rfl ZZ rfl ?_
    rw [← HP.out]
    exact free_fin HB.out.s S8.out G9.out HV.out HGI.out HBI.out HK10.out hkz
  · have e1 : (L.W == t) = false := beq_eq_false_iff_ne.2 e
    rw [if_neg e, if_neg e] at HPF HR
    go_upto_region 9 with (first
      | (go_at_call 14; (with_reducible refine (HMAY.out _ _ T2.out.latv).mono ?_); rintro e w3 ⟨rfl, hgr⟩; have G3 := Lib.hid hgr; clear hgr k0 k1 k2 y0; have B3 := Lib.hid (B2.out.grow G3.out); have T3 := Lib.hid (Two.grow T2.out G3.out); have Y3 := Lib.hid (Y2.out.grow G3.out); have Z3 := Lib.hid (Z2.out.grow G3.out); have k0 := B3.out.cell 0; have k1 := B3.out.cell 1; have k2 := B3.out.cell 2; have y0 := Y3.out.cell 0; simp only [List.getElem?_cons_zero, List.getElem?_cons_succ] at k0 k1 k2 y0)
      | (go_at_call 9; (with_reducible refine (HHAS.out _ _ T3.out.latv).mono ?_); rintro e w4 ⟨rfl, hgr⟩; have G4 := Lib.hid hgr; clear hgr k0 k1 k2 y0; have B4 := Lib.hid (B3.out.grow G4.out); have T4 := Lib.hid (Two.grow T3.out G4.out); have Y4 := Lib.hid (Y3.out.grow G4.out); have Z4 := Lib.hid (Z3.out.grow G4.out); have f4 := B4.out.frozenAll; have k0 := B4.out.cell 0; have k1 := B4.out.cell 1; have k2 := B4.out.cell 2; have y0 := Y4.out.cell 0; simp only [List.getElem?_cons_zero, List.getElem?_cons_succ] at k0 k1 k2 y0)
      | (go_at_call 15; (with_reducible refine (deleteFunc_any hRz T4.out.r y0 (fun x => by have := T4.out.rb _ x; have := HB.out.s; omega) (HIN.out e)).mono ?_); rintro e5 w5 ⟨A5, c5, rfl, hg5, hk5, hb5⟩; have HG5 := Lib.hid hg5; have HK5 := Lib.hid hk5; have HB5 := Lib.hid hb5; clear hg5 hk5 hb5 k0 k1 k2 y0 f4; have B5 := Lib.hid (B4.out.kept HK5.out fun x => by have := T4.out.rb _ x; have := HB.out.s; omega); have f5 := B5.out.frozenAll; have k1 := B5.out.cell 1; simp only [List.getElem?_cons_zero, List.getElem?_cons_succ] at k1))
    have T5 := Lib.hid (Two.pull T4.out (by have := Z4.out.lt; have := HB.out.s; omega) HG5.out HK5.out HB5.out)
    have Z5 := Lib.hid (Z4.out.kept HK5.out fun x => by have := T4.out.rb _ x; have := HB.out.s; omega)
    have hk8 := kept_set w5 w.heap.size 1 (.slice A5 (L.R.filter (fun x => !decide (x = t))).length c5)
    have B8 : Hid (Blk (w5.setCell ⟨w.heap.size, 1, none⟩ (.slice A5 (L.R.filter (fun x => !decide (x = t))).length c5)) w.heap.size 25 [.int .i64 L.W, .slice A5 (L.R.filter (fun x => !decide (x = t))).length c5, .slice A' L.Q.length c']) := B5.out.set 1 _
    have T8 := Lib.hid (Two.kept T5.out hk8 fun k h1 e => by have := HB.out.s; omega)
    have Z8 := Lib.hid (Z5.out.kept hk8 (by omega))
    have G8 : Hid (Grow w (w5.setCell ⟨w.heap.size, 1, none⟩ (.slice A5 (L.R.filter (fun x => !decide (x = t))).length c5))) := (((G2.out.trans G3.out).trans G4.out).then HK5.out fun k h1 h2 => by have := T4.out.rb _ h2; have := HB.out.s; omega).then hk8 fun k h1 e => by omega
    have S8 : Hid (w0.heap.size ≤ (w5.setCell ⟨w.heap.size, 1, none⟩ (.slice A5 (L.R.filter (fun x => !decide (x = t))).length c5)).heap.size) := by
      show _ ≤ _
      have := Z8.out.lt
      have h3 := HB.out.s
      omega
    clear f5 hk8 k1
    generalize w5.setCell ⟨w.heap.size, 1, none⟩ (.slice A5 (L.R.filter (fun x => !decide (x = t))).length c5) = w8 at *
    have k0 := B8.out.cell 0
    have k1 := B8.out.cell 1
    have k2 := B8.out.cell 2
    simp only [List.getElem?_cons_zero, List.getElem?_cons_succ] at k0 k1 k2
    have hl8 := HLI.out _ _ _ _ _ _ _ _ HPF.out S8.out T8.out
    rw [HR.out] at hl8
    have HL8 := Lib.hid hl8
    clear hl8
    go_upto_region 10 with (go_at_call 17; (with_reducible refine HL8.out.mono ?_); rintro e w9 ⟨v, Ai, ci, rfl, hv, hgi, hbi, hk9⟩; have HK9 := Lib.hid hk9; have HV := Lib.hid hv; have HGI := Lib.hid hgi; have HBI := Lib.hid hbi; obtain ⟨D1, d1, D2, d2, rfl, _, _, _, _⟩ := hv _ _ (Kept.refl (fun _ => False) w9) (fun _ _ => id); clear hv hgi hbi hk9 k0 k1 k2; have B9 := Lib.hid (B8.out.kept HK9.out fun x => by have := T8.out.rb _ x; have := HB.out.s; omega); have Z9 := Lib.hid (Z8.out.kept HK9.out fun x => by have := T8.out.rb _ x; have := HB.out.s; omega); have f9 := B9.out.frozenAll; have k0 := B9.out.cell 0; have k1 := B9.out.cell 1; have k2 := B9.out.cell 2; simp only [List.getElem?_cons_zero, List.getElem?_cons_succ] at k0 k1 k2)
    have hk10 := ((kept_set w9 w.heap.size 0 (.int .i64 r.1.W)).trans (kept_set _ w.heap.size 1 (.slice D1 r.1.R.length d1))).trans (kept_set _ w.heap.size 2 (.slice D2 r.1.Q.length d2))
    have B10 : Hid (Blk (((w9.setCell ⟨w.heap.size, 0, none⟩ (.int .i64 r.1.W)).setCell ⟨w.heap.size, 1, none⟩ (.slice D1 r.1.R.length d1)).setCell ⟨w.heap.size, 2, none⟩ (.slice D2 r.1.Q.length d2)) w.heap.size 25 [.int .i64 r.1.W, .slice D1 r.1.R.length d1, .slice D2 r.1.Q.length d2]) := ((B9.out.set 0 _).set 1 _).set 2 _
    have Z10 := Lib.hid (Z9.out.kept hk10 (by omega))
    have G9 : Hid (Grow w w9) := G8.out.then HK9.out fun k h1 h2 => by have := T8.out.rb _ h2; have := HB.out.s; omega
    have HK10 := Lib.hid hk10
    clear hk10 f9 k0 k1 k2
    generalize ((w9.setCell ⟨w.heap.size, 0, none⟩ (.int .i64 r.1.W)).setCell ⟨w.heap.size, 1, none⟩ (.slice D1 r.1.R.length d1)).setCell ⟨w.heap.size, 2, none⟩ (.slice D2 r.1.Q.length d2) = w10 at *
    have k0 := B10.out.cell 0
    have k1 := B10.out.cell 1
    have k2 := B10.out.cell 2
    have j0 := Z10.out.cell 0
    have j1 := Z10.out.cell 1
    have j2 := Z10.out.cell 2
    have fz := Z10.out.frozenAll
    simp only [List.getElem?_cons_zero, List.getElem?_cons_succ] at k0 k1 k2 j0 j1 j2
    go_wp2
    have ZZ : Blk (((w10.setCell ⟨w.heap.size + 1 + 1, 0, none⟩ (.int .i64 r.1.W)).setCell ⟨w.heap.size + 1 + 1, 1, none⟩ (.slice D1 r.1.R.length d1)).setCell ⟨w.heap.size + 1 + 1, 2, none⟩ (.slice D2 r.1.Q.length d2)) (w.heap.size + 1 + 1) 25 [.int .i64 r.1.W, .slice D1 r.1.R.length d1, .slice D2 r.1.Q.length d2] := ((Z10.out.set 0 _).set 1 _).set 2 _
    have hkz := ((kept_set w10 (w.heap.size + 1 + 1) 0 (.int .i64 r.1.W)).trans (kept_set _ (w.heap.size + 1 + 1) 1 (.slice D1 r.1.R.length d1))).trans (kept_set _ (w.heap.size + 1 + 1) 2 (.slice D2 r.1.Q.length d2))
    refine ret_cell3 rfl rfl ZZ rfl ?_
    rw [← HP.out]
    exact free_fin HB.out.s S8.out G9.out HV.out HGI.out HBI.out HK10.out hkz
end
end Go.Proofs.Ytpdmncdbimdfaaa.LatF
