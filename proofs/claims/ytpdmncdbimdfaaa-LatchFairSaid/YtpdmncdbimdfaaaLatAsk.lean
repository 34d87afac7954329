/-
  Package latch: ask, Lock, Share, New.
-/
import Derived.Test.YtpdmncdbimdfaaaLatIn
namespace Go.Proofs.Ytpdmncdbimdfaaa.LatA
open Go.ChangeShapes Go.WideShapes Go.ChangeAt Go.RowKit
open Go.Proofs.Ytpdmncdbimdfaaa.Mem Go.Proofs.Ytpdmncdbimdfaaa.Blk Go.Proofs.Ytpdmncdbimdfaaa.Cells Go.Proofs.Ytpdmncdbimdfaaa.GsC Go.Proofs.Ytpdmncdbimdfaaa.LatM Go.Proofs.Ytpdmncdbimdfaaa.LatC Go.Proofs.Ytpdmncdbimdfaaa.LatY Go.Proofs.Ytpdmncdbimdfaaa.LatZ Go.Proofs.Ytpdmncdbimdfaaa.LatO Go.Proofs.Ytpdmncdbimdfaaa.LatI Go.Proofs.Ytpdmncdbimdfaaa.LatR Go.Proofs.Ytpdmncdbimdfaaa.LatN Go.Proofs.Ytpdmncdbimdfaaa.RetC Go.Proofs.Ytpdmncdbimdfaaa.Stages Go.Proofs.Ytpdmncdbimdfaaa.Trees

/-- A latch in memory that is newer than w: whatever is older may turn. -/
def Keeps (w w' : World) (L : La) (v : Value) : Prop := ∀ F w'', Kept F w' w'' → (∀ k, w.heap.size ≤ k → ¬ F k) → LatV w'' L v
/-- A latch, and whether somebody was let in. -/
def AskP (w : World) (r : La × List Int) (e : Ending) (w' : World) : Prop :=
  ∃ v, e = .returned (.tuple #[v, .bool (decide (0 < r.2.length))]) ∧ Keeps w w' r.1 v ∧ Grow w w'

section
variable {w w' w'' wx : World} {L : La} {v : Value} {base : Nat} {R Q : List Int} {A A' : Option Addr} {c c' : Nat} {F : Nat → Prop}
theorem Two.kept (h : Two w base R Q A c A' c') (hk : Kept F w w') (hF : ∀ k, base ≤ k → ¬ F k) : Two w' base R Q A c A' c' :=
  ⟨h.r.kept hk fun k h1 => hF k (h.rb k h1), h.q.kept hk fun k h1 => hF k (h.qb k h1), h.ap, h.rb, h.qb⟩
theorem Two.grow (h : Two w base R Q A c A' c') (hk : Grow w w') : Two w' base R Q A c A' c' := Two.kept h hk fun _ _ x => x
/-- 'l.Waits = append(l.Waits, x)'. -/
theorem Two.push {A2 : Option Addr} {c2 : Nat} {S : List Int} (h : Two w base R Q A c A' c') (hb : base ≤ w.heap.size) (hg : Gs w' A2 S.length c2 S) (hk : Kept (blk A' c') w w') (h2 : ∀ k, blk A2 c2 k → blk A' c' k ∨ w.heap.size ≤ k) : Two w' base R S A c A2 c2 := by
  refine ⟨h.r.kept hk h.ap, hg, fun k h1 h3 => ?_, h.rb, fun k h3 => ?_⟩
  · rcases h2 k h3 with x | x
    · exact h.ap k h1 x
    · have := h.r.lt h1; omega
  · rcases h2 k h3 with x | x
    · exact h.qb k x
    · omega

theorem ask_any (h : LatV w L v) (hg : LatM.Good L) (t x : Int) (ht : task t = true) (h1 : L.has t = false) (h2 : L.waits t = false) (hx : x = t ∨ x = -2 - t) :
    Calls Try.prog 11 #[v, .int .i64 t, .int .i64 x] w (AskP w (goIn L.W L.R (L.Q ++ [x]))) := by
  have hR := hg.pre.lenR
  have hQ := hg.pre.lenQ
  have htb := task_iff.1 ht
  have htl : -900 ≤ t := by omega
  have hth : t ≤ 900 := by omega
  have HO := Lib.hid fun (w' : World) (hk : Grow w w') => own_any (h.grow hk) (by omega) (by omega)
  have hmay := fun (w' : World) (v : Value) (hv : LatV w' L v) => may_any hv hg.pre
  rw [settled_good hg] at hmay
  have HMAY := Lib.hid hmay
  have hhas := fun (w' : World) (v : Value) (hv : LatV w' L v) => has_any hv t (by omega)
  rw [h1] at hhas
  have HHAS := Lib.hid hhas
  have hwt := fun (w' : World) (v : Value) (hv : LatV w' L v) => waits_any hv t htl hth (by omega)
  rw [h2] at hwt
  have HWT := Lib.hid hwt
  have htk := fun (w' : World) => isTask_any (w := w') t
  rw [ht] at htk
  have HTK := Lib.hid htk
  have hle : (L.Q ++ [x]).length = L.Q.length + 1 := by simp
  have hli := fun (w' : World) (base : Nat) (A A' : Option Addr) (c c' : Nat) (hb : base ≤ w'.heap.size) (h : Two w' base L.R (L.Q ++ [x]) A c A' c') => letIn_any (W := L.W) hb h (ask_pre hg ht h1 h2 hx)
  rw [hle] at hli
  have HLI := Lib.hid hli
  have HLE := Lib.hid hle
  have hQn : L.Q.length ≤ 1000000 := by omega
  obtain ⟨A0, c0, A0', c0', rfl, _, _, _, _⟩ := h
  generalize goIn L.W L.R (L.Q ++ [x]) = r at *
  clear hmay hhas hwt htk hli hle hg ht h1 h2 hx htb hR hQ htl hth
  generalize hP : AskP w r = P
  have HP := Lib.hid hP
  clear hP
  go_enter Try.func11, Try.ntmps11
  go_upto_region 1 with (fail)
  have hb0 := (Blk.new w 25 [.int .i64 L.W, .slice A0 L.R.length c0, .slice A0' L.Q.length c0']).alloc (.cells #[.int .i64 0, .slice none 0 0, .slice none 0 0] 25)
  have hb1 := Blk.new (w.alloc (.cells #[.int .i64 L.W, .slice A0 L.R.length c0, .slice A0' L.Q.length c0'] 25)) 25 [.int .i64 0, .slice none 0 0, .slice none 0 0]
  have hg0 : Grow w ((w.alloc (.cells #[.int .i64 L.W, .slice A0 L.R.length c0, .slice A0' L.Q.length c0'] 25)).alloc (.cells #[.int .i64 0, .slice none 0 0, .slice none 0 0] 25)) := ((Kept.refl _ _).alloc _).alloc _
  have hsz : (w.alloc (.cells #[.int .i64 L.W, .slice A0 L.R.length c0, .slice A0' L.Q.length c0'] 25)).heap.size = w.heap.size + 1 := by simp
  have hsz2 : ((w.alloc (.cells #[.int .i64 L.W, .slice A0 L.R.length c0, .slice A0' L.Q.length c0'] 25)).alloc (.cells #[.int .i64 0, .slice none 0 0, .slice none 0 0] 25)).heap.size = w.heap.size + 2 := by simp
  rw [hsz] at hb1
  clear hsz
  generalize (w.alloc (.cells #[.int .i64 L.W, .slice A0 L.R.length c0, .slice A0' L.Q.length c0'] 25)).alloc (.cells #[.int .i64 0, .slice none 0 0, .slice none 0 0] 25) = w0 at *
  have B0 := Lib.hid hb0
  have Z0 := Lib.hid hb1
  have G0 := Lib.hid hg0
  have HSZ := Lib.hid hsz2
  have k0 := B0.out.cell 0
  have k1 := B0.out.cell 1
  have k2 := B0.out.cell 2
  simp only [List.getElem?_cons_zero, List.getElem?_cons_succ] at k0 k1 k2
  clear hb0 hb1 hg0 hsz2
  go_upto_region 2 with (go_at_call 13; (with_reducible refine (HO.out _ G0.out).mono ?_); rintro e w1 ⟨A, c, A', c', rfl, htw, hgr⟩; have T1 := Lib.hid htw; have G1 := Lib.hid hgr; clear htw hgr k0 k1 k2; have f0 := (B0.out.grow G1.out).frozenAll; have k0 := (B0.out.grow G1.out).cell 0; have k1 := (B0.out.grow G1.out).cell 1; have k2 := (B0.out.grow G1.out).cell 2; simp only [List.getElem?_cons_zero, List.getElem?_cons_succ] at k0 k1 k2)
  have hb2 : Blk (((w1.setCell ⟨w.heap.size, 0, none⟩ (.int .i64 L.W)).setCell ⟨w.heap.size, 1, none⟩ (.slice A L.R.length c)).setCell ⟨w.heap.size, 2, none⟩ (.slice A' L.Q.length c')) w.heap.size 25 [.int .i64 L.W, .slice A L.R.length c, .slice A' L.Q.length c'] := (((B0.out.grow G1.out).set 0 _).set 1 _).set 2 _
  have hk2 : Kept (fun k => k = w.heap.size) w1 (((w1.setCell ⟨w.heap.size, 0, none⟩ (.int .i64 L.W)).setCell ⟨w.heap.size, 1, none⟩ (.slice A L.R.length c)).setCell ⟨w.heap.size, 2, none⟩ (.slice A' L.Q.length c')) := ((kept_set w1 w.heap.size 0 _).trans (kept_set _ w.heap.size 1 _)).trans (kept_set _ w.heap.size 2 _)
  generalize ((w1.setCell ⟨w.heap.size, 0, none⟩ (.int .i64 L.W)).setCell ⟨w.heap.size, 1, none⟩ (.slice A L.R.length c)).setCell ⟨w.heap.size, 2, none⟩ (.slice A' L.Q.length c') = w2 at *
  have B2 := Lib.hid hb2
  have T2 := Lib.hid (Two.kept T1.out hk2 fun k h1 e => by have := HSZ.out; omega)
  have Z2 := Lib.hid ((Z0.out.grow G1.out).kept hk2 (by omega))
  have G2 : Hid (Grow w w2) := (G0.out.trans G1.out).then hk2 fun k h1 e => by omega
  clear hb2 hk2 f0 k0 k1 k2
  have k0 := B2.out.cell 0
  have k1 := B2.out.cell 1
  have k2 := B2.out.cell 2
  simp only [List.getElem?_cons_zero, List.getElem?_cons_succ] at k0 k1 k2
  go_upto_region 4 with (first
    | (go_at_call 18; (with_reducible refine (HTK.out _).mono ?_); rintro e w' ⟨rfl, rfl⟩)
    | (go_at_call 14; (with_reducible refine (HMAY.out _ _ T2.out.latv).mono ?_); rintro e w3 ⟨rfl, hgr⟩; have G3 := Lib.hid hgr; clear hgr k0 k1 k2; have B3 := Lib.hid (B2.out.grow G3.out); have T3 := Lib.hid (Two.grow T2.out G3.out); have Z3 := Lib.hid (Z2.out.grow G3.out); have k0 := B3.out.cell 0; have k1 := B3.out.cell 1; have k2 := B3.out.cell 2; simp only [List.getElem?_cons_zero, List.getElem?_cons_succ] at k0 k1 k2)
    | (go_at_call 9; (with_reducible refine (HHAS.out _ _ T3.out.latv).mono ?_); rintro e w4 ⟨rfl, hgr⟩; have G4 := Lib.hid hgr; clear hgr k0 k1 k2; have B4 := Lib.hid (B3.out.grow G4.out); have T4 := Lib.hid (Two.grow T3.out G4.out); have Z4 := Lib.hid (Z3.out.grow G4.out); have k0 := B4.out.cell 0; have k1 := B4.out.cell 1; have k2 := B4.out.cell 2; simp only [List.getElem?_cons_zero, List.getElem?_cons_succ] at k0 k1 k2)
    | (go_at_call 21; (with_reducible refine (HWT.out _ _ T4.out.latv).mono ?_); rintro e w5 ⟨rfl, hgr⟩; have G5 := Lib.hid hgr; clear hgr k0 k1 k2; have B5 := Lib.hid (B4.out.grow G5.out); have T5 := Lib.hid (Two.grow T4.out G5.out); have Z5 := Lib.hid (Z4.out.grow G5.out); have k0 := B5.out.cell 0; have k1 := B5.out.cell 1; have k2 := B5.out.cell 2; simp only [List.getElem?_cons_zero, List.getElem?_cons_succ] at k0 k1 k2))
  have HG5 : Hid (Grow w w5) := ((G2.out.trans G3.out).trans G4.out).trans G5.out
  have HBS : Hid (w0.heap.size ≤ w5.heap.size) := by
    show _ ≤ _
    have h1 := G1.out.size
    have h2 := Z5.out.lt
    have h3 := HSZ.out
    omega
  have B6 := Lib.hid (B5.out.alloc (.cells #[.int .i64 x] 3))
  have T6 := Lib.hid (Two.grow T5.out ((Kept.refl _ w5).alloc (.cells #[.int .i64 x] 3)))
  have Z6 := Lib.hid (Z5.out.alloc (.cells #[.int .i64 x] 3))
  obtain ⟨A2, c2, w7, hr, hg7, hk7, hb7⟩ := append_gs 23 T6.out.q hQn w5.heap.size x (cell_new1 _ _ _)
  have HAR := Lib.hid hr
  have HNS : Hid (∀ k, blk A' c' k → k ≠ w.heap.size ∧ k ≠ w.heap.size + 1 ∧ w.heap.size ≤ k) := fun k h1 => by
    have h2 := T5.out.qb k h1
    have h3 := HSZ.out
    omega
  have T7 := Lib.hid (Two.push (S := L.Q ++ [x]) T6.out (by have := HBS.out; simp; omega) (by rw [HLE.out]; exact hg7) hk7 hb7)
  have B7 := Lib.hid (B6.out.kept hk7 fun h => (HNS.out _ h).1 rfl)
  have Z7 := Lib.hid (Z6.out.kept hk7 fun h => (HNS.out _ h).2.1 rfl)
  have G7 : Hid (Grow w w7) := (HG5.out.alloc (.cells #[.int .i64 x] 3)).then hk7 fun k h1 h2 => by have := (HNS.out k h2).2.2; omega
  clear hr hg7 hk7 hb7
  have f7 := B7.out.frozenAll
  have j2 := B7.out.cell 2
  simp only [List.getElem?_cons_zero, List.getElem?_cons_succ] at j2
  go_upto_region 5 with (at_builtin; refine Lib.wpList_append_run _ rfl _ _ _ _ rfl _ _ rfl rfl _ _ HAR.out ?_)
  have hk8 := kept_set w7 w.heap.size 2 (.slice A2 (L.Q.length + 1) c2)
  have B8 : Hid (Blk (w7.setCell ⟨w.heap.size, 2, none⟩ (.slice A2 (L.Q.length + 1) c2)) w.heap.size 25 [.int .i64 L.W, .slice A L.R.length c, .slice A2 (L.Q.length + 1) c2]) := B7.out.set 2 _
  have T8 := Lib.hid (Two.kept T7.out hk8 fun k h1 e => by have := HSZ.out; omega)
  have Z8 := Lib.hid (Z7.out.kept hk8 (by omega))
  have G8 : Hid (Grow w (w7.setCell ⟨w.heap.size, 2, none⟩ (.slice A2 (L.Q.length + 1) c2))) := G7.out.then hk8 fun k h1 e => by omega
  have S8 : Hid (w0.heap.size ≤ (w7.setCell ⟨w.heap.size, 2, none⟩ (.slice A2 (L.Q.length + 1) c2)).heap.size) := by
    show _ ≤ _
    have := B8.out.lt
    have h2 := Z8.out.lt
    have h3 := HSZ.out
    omega
  clear f7 j2 hk8
  generalize w7.setCell ⟨w.heap.size, 2, none⟩ (.slice A2 (L.Q.length + 1) c2) = w8 at *
  have k0 := B8.out.cell 0
  have k1 := B8.out.cell 1
  have k2 := B8.out.cell 2
  simp only [List.getElem?_cons_zero, List.getElem?_cons_succ] at k0 k1 k2
  go_upto_region 6 with (go_at_call 17; (with_reducible refine (HLI.out _ _ _ _ _ _ S8.out T8.out).mono ?_); rintro e w9 ⟨v, Ai, ci, rfl, hv, hgi, hbi, hk9⟩; have HK9 := Lib.hid hk9; have HV := Lib.hid hv; obtain ⟨D1, d1, D2, d2, rfl, _, _, _, _⟩ := hv _ _ (Kept.refl (fun _ => False) w9) (fun _ _ => id); clear hv hgi hbi hk9 k0 k1 k2; have B9 := Lib.hid (B8.out.kept HK9.out fun x => by have := T8.out.rb _ x; have := HSZ.out; omega); have Z9 := Lib.hid (Z8.out.kept HK9.out fun x => by have := T8.out.rb _ x; have := HSZ.out; omega); have f9 := B9.out.frozenAll; have k0 := B9.out.cell 0; have k1 := B9.out.cell 1; have k2 := B9.out.cell 2; simp only [List.getElem?_cons_zero, List.getElem?_cons_succ] at k0 k1 k2)
  have hk10 := ((kept_set w9 w.heap.size 0 (.int .i64 r.1.W)).trans (kept_set _ w.heap.size 1 (.slice D1 r.1.R.length d1))).trans (kept_set _ w.heap.size 2 (.slice D2 r.1.Q.length d2))
  have B10 : Hid (Blk (((w9.setCell ⟨w.heap.size, 0, none⟩ (.int .i64 r.1.W)).setCell ⟨w.heap.size, 1, none⟩ (.slice D1 r.1.R.length d1)).setCell ⟨w.heap.size, 2, none⟩ (.slice D2 r.1.Q.length d2)) w.heap.size 25 [.int .i64 r.1.W, .slice D1 r.1.R.length d1, .slice D2 r.1.Q.length d2]) := ((B9.out.set 0 _).set 1 _).set 2 _
  have Z10 := Lib.hid (Z9.out.kept hk10 (by omega))
  have G9 : Hid (Grow w w9) := G8.out.then HK9.out fun k h1 h2 => by have := T8.out.rb _ h2; have := HSZ.out; omega
  have HK10 := Lib.hid hk10
  clear hk10 f9 k0 k1 k2
  generalize ((w9.setCell ⟨w.heap.size, 0, none⟩ (.int .i64 r.1.W)).setCell ⟨w.heap.size, 1, none⟩ (.slice D1 r.1.R.length d1)).setCell ⟨w.heap.size, 2, none⟩ (.slice D2 r.1.Q.length d2) = w10 at *
  have k0 := B10.out.cell 0
  have k1 := B10.out.cell 1
  have k2 := B10.out.cell 2
  have j0 := Z10.out.cell 0
  have j1 := Z10.out.cell 1
  have j2 := Z10.out.cell 2
  have fz := Z10.out.frozenAll
  simp only [List.getElem?_cons_zero, List.getElem?_cons_succ] at k0 k1 k2 j0 j1 j2
  go_wp2
  have ZZ : Blk (((w10.setCell ⟨w.heap.size + 1, 0, none⟩ (.int .i64 r.1.W)).setCell ⟨w.heap.size + 1, 1, none⟩ (.slice D1 r.1.R.length d1)).setCell ⟨w.heap.size + 1, 2, none⟩ (.slice D2 r.1.Q.length d2)) (w.heap.size + 1) 25 [.int .i64 r.1.W, .slice D1 r.1.R.length d1, .slice D2 r.1.Q.length d2] := ((Z10.out.set 0 _).set 1 _).set 2 _
  refine ret_cell2 rfl rfl ZZ rfl ?_
  rw [← HP.out]
  have hkz := ((kept_set w10 (w.heap.size + 1) 0 (.int .i64 r.1.W)).trans (kept_set _ (w.heap.size + 1) 1 (.slice D1 r.1.R.length d1))).trans (kept_set _ (w.heap.size + 1) 2 (.slice D2 r.1.Q.length d2))
  have hkall : Kept (fun k => k = w.heap.size ∨ k = w.heap.size + 1) w9 (((w10.setCell ⟨w.heap.size + 1, 0, none⟩ (.int .i64 r.1.W)).setCell ⟨w.heap.size + 1, 1, none⟩ (.slice D1 r.1.R.length d1)).setCell ⟨w.heap.size + 1, 2, none⟩ (.slice D2 r.1.Q.length d2)) :=
    (HK10.out.mono fun _ _ x => .inl x).trans (hkz.mono fun _ _ x => .inr x)
  refine ⟨_, ?_, fun F w'' hF hFk => HV.out (fun k => (k = w.heap.size ∨ k = w.heap.size + 1) ∨ F k) _ ((hkall.mono fun _ _ x => .inl x).trans (hF.mono fun _ _ x => .inr x)) (fun k h1 e => ?_), G9.out.then hkall fun k h1 e => by omega⟩
  · rfl
  · have := HSZ.out
    rcases e with e | e
    · omega
    · exact hFk k (by omega) e
theorem Keeps.latv (h : Keeps w w' L v) : LatV w' L v := h (fun _ => False) w' (Kept.refl _ _) fun _ _ => id
theorem Keeps.after {wx : World} {F : Nat → Prop} (h : Keeps wx w' L v) (h1 : Kept F w' w'') (hF : ∀ k, wx.heap.size ≤ k → ¬ F k) (h2 : w.heap.size ≤ wx.heap.size) : Keeps w w'' L v :=
  fun G u hG hGk => h (fun k => F k ∨ G k) u ((h1.mono fun _ _ x => .inl x).trans (hG.mono fun _ _ x => .inr x)) fun k hk e => by
    rcases e with e | e
    · exact hF k hk e
    · exact hGk k (by omega) e

end
end Go.Proofs.Ytpdmncdbimdfaaa.LatA
