/-
  Package latch: letIn.
-/
import Derived.Test.YtpdmncdbimdfaaaLatRise
namespace Go.Proofs.Ytpdmncdbimdfaaa.LatN
open Go.ChangeShapes Go.WideShapes Go.ChangeAt Go.RowKit
open Go.Proofs.Ytpdmncdbimdfaaa.Mem Go.Proofs.Ytpdmncdbimdfaaa.Blk Go.Proofs.Ytpdmncdbimdfaaa.Cells Go.Proofs.Ytpdmncdbimdfaaa.GsC Go.Proofs.Ytpdmncdbimdfaaa.LatM Go.Proofs.Ytpdmncdbimdfaaa.LatC Go.Proofs.Ytpdmncdbimdfaaa.LatY Go.Proofs.Ytpdmncdbimdfaaa.LatZ Go.Proofs.Ytpdmncdbimdfaaa.LatO Go.Proofs.Ytpdmncdbimdfaaa.LatI Go.Proofs.Ytpdmncdbimdfaaa.LatR Go.Proofs.Ytpdmncdbimdfaaa.RetC Go.Proofs.Ytpdmncdbimdfaaa.Stages Go.Proofs.Ytpdmncdbimdfaaa.Trees

/-- A latch, and who was let in. -/
def LetP (w : World) (base : Nat) (r : La × List Int) (A : Option Addr) (c : Nat) (e : Ending) (w' : World) : Prop :=
  ∃ v Ai ci, e = .returned (.tuple #[v, .slice Ai r.2.length ci]) ∧ (∀ F w'', Kept F w' w'' → (∀ k, base ≤ k → ¬ F k) → LatV w'' r.1 v) ∧ Gs w' Ai r.2.length ci r.2 ∧ (∀ k, blk Ai ci k → w.heap.size ≤ k) ∧ Kept (blk A c) w w'

/-- Behind j rounds of the loop: the latch in the box s is ⟨W, R, Q⟩, in is i. -/
structure Rm (w0 : World) (s : Nat) (Q : List Int) (A : Option Addr) (c : Nat) (A' : Option Addr) (c' : Nat) (j : Nat) (W : Int) (R : List Int) (A1 : Option Addr) (c1 : Nat) (A2 : Option Addr) (c2 : Nat) (i : List Int) (wr : World) : Prop where
  box : Blk wr s 25 [.int .i64 W, .slice A1 R.length c1, .slice A' Q.length c']
  out : Blk wr (s + 1) 25 [.int .i64 0, .slice none 0 0, .slice none 0 0]
  gr : Gs wr A1 R.length c1 R
  gi : Gs wr A2 j c2 i
  rb : ∀ k, blk A1 c1 k → blk A c k ∨ s + 2 ≤ k
  ib : ∀ k, blk A2 c2 k → s + 2 ≤ k
  ap : ∀ k, blk A1 c1 k → ¬ blk A2 c2 k
  k : Kept (fun k => blk A c k ∨ k = s) w0 wr
/-- .. and the rest of the queue makes of it what the whole has made of the first. -/
structure Rp (r : La × List Int) (Q : List Int) (j : Nat) (W : Int) (R i : List Int) : Prop where
  pre : Pre W R (Q.drop j)
  one : (goIn W R (Q.drop j)).1 = r.1
  two : i ++ (goIn W R (Q.drop j)).2 = r.2

section
variable {w w0 wr wx : World} {s : Nat} {r : La × List Int} {Q R i : List Int} {A A' A1 A2 : Option Addr} {c c' c1 c2 j : Nat} {W : Int}
theorem drop_get (hj : j < Q.length) : Q.drop j = Q.getD j 0 :: Q.drop (j + 1) := by
  rw [List.drop_eq_getElem_cons hj, List.getD_eq_getElem?_getD, List.getElem?_eq_getElem hj]; rfl
theorem Rm.grow (h : Rm w0 s Q A c A' c' j W R A1 c1 A2 c2 i wr) (hk : Grow wr wx) : Rm w0 s Q A c A' c' j W R A1 c1 A2 c2 i wx :=
  ⟨h.box.grow hk, h.out.grow hk, h.gr.grow hk, h.gi.grow hk, h.rb, h.ib, h.ap, h.k.trans (Grow.kept hk)⟩
/-- 'l.Writer = t'. -/
theorem Rm.write (h : Rm w0 s Q A c A' c' j W R A1 c1 A2 c2 i wr) (hA : ∀ k, blk A c k → k < s) (t : Int) : Rm w0 s Q A c A' c' j t R A1 c1 A2 c2 i (wr.setCell ⟨s, 0, none⟩ (.int .i64 t)) := by
  have hk := kept_set wr s 0 (.int .i64 t)
  refine ⟨h.box.set 0 _, h.out.other (by show s + 1 ≠ s; omega) _, h.gr.kept hk fun k h1 e => ?_, h.gi.kept hk fun k h1 e => ?_, h.rb, h.ib, h.ap, h.k.trans (hk.mono fun _ _ e => .inr e)⟩
  · rcases h.rb k h1 with x | x
    · have := hA k x; omega
    · omega
  · have := h.ib k h1; omega
theorem Rm.apart (h : Rm w0 s Q A c A' c' j W R A1 c1 A2 c2 i wr) (hA : ∀ k, blk A c k → k < s) : ¬ blk A1 c1 s := fun h1 => by
  rcases h.rb s h1 with x | x
  · have := hA s x; omega
  · omega
/-- 'l.Readers = risen(l.Readers, t)'. -/
theorem Rm.rise {B1 : Option Addr} {d1 : Nat} {S : List Int} (h : Rm w0 s Q A c A' c' j W R A1 c1 A2 c2 i wr) (hs : w0.heap.size = s + 2) (hA : ∀ k, blk A c k → k < s) (hg : Gs wx B1 S.length d1 S) (hk : Kept (blk A1 c1) wr wx) (hb : ∀ k, blk B1 d1 k → blk A1 c1 k ∨ wr.heap.size ≤ k) :
    Rm w0 s Q A c A' c' j W S B1 d1 A2 c2 i (wx.setCell ⟨s, 1, none⟩ (.slice B1 S.length d1)) := by
  have hsz := h.k.size
  have hk2 := kept_set wx s 1 (.slice B1 S.length d1)
  have r1 : ∀ k, blk B1 d1 k → blk A c k ∨ s + 2 ≤ k := fun k h1 => by
    rcases hb k h1 with x | x
    · exact h.rb k x
    · exact .inr (by omega)
  have n1 : ∀ k, blk B1 d1 k → k ≠ s ∧ k ≠ s + 1 := fun k h1 => by
    rcases r1 k h1 with x | x
    · have := hA k x; omega
    · omega
  have n0 : ∀ k, blk A1 c1 k → k ≠ s ∧ k ≠ s + 1 := fun k h1 => by
    rcases h.rb k h1 with x | x
    · have := hA k x; omega
    · omega
  refine ⟨(h.box.kept hk fun x => (n0 _ x).1 rfl).set 1 _, (h.out.kept hk fun x => (n0 _ x).2 rfl).other (by show s + 1 ≠ s; omega) _, hg.kept hk2 fun k h1 e => (n1 k h1).1 e, (h.gi.kept hk fun k h1 h2 => h.ap k h2 h1).kept hk2 fun k h1 e => ?_, r1, h.ib, fun k h1 h2 => ?_, (h.k.then hk fun k h1 h2 => ?_).trans (hk2.mono fun _ _ e => .inr e)⟩
  · have := h.ib k h1; omega
  · rcases hb k h1 with x | x
    · exact h.ap k x h2
    · have := h.gi.lt h2; omega
  · rcases h.rb k h2 with x | x
    · exact .inl x
    · omega
/-- 'in = append(in, t)'. -/
theorem Rm.into {B2 : Option Addr} {d2 : Nat} {t : Int} (h : Rm w0 s Q A c A' c' j W R A1 c1 A2 c2 i wr) (hs : w0.heap.size = s + 2) (hg : Gs wx B2 (j + 1) d2 (i ++ [t])) (hk : Kept (blk A2 c2) wr wx) (hb : ∀ k, blk B2 d2 k → blk A2 c2 k ∨ wr.heap.size ≤ k) :
    Rm w0 s Q A c A' c' (j + 1) W R A1 c1 B2 d2 (i ++ [t]) wx := by
  have hsz := h.k.size
  refine ⟨h.box.kept hk fun x => ?_, h.out.kept hk fun x => ?_, h.gr.kept hk h.ap, hg, h.rb, fun k hk => ?_, fun k h1 h2 => ?_, h.k.then hk fun k h1 h2 => ?_⟩
  · have := h.ib _ x; omega
  · have := h.ib _ x; omega
  · rcases hb k hk with x | x
    · exact h.ib k x
    · omega
  · rcases hb k h2 with x | x
    · exact h.ap k h1 x
    · have := h.gr.lt h1; omega
  · have := h.ib k h2; omega
theorem Rp.first (h : Pre W R Q) : Rp (goIn W R Q) Q 0 W R [] := ⟨h, rfl, rfl⟩
theorem Rp.stop {q : Int} {T : List Int} (h : Rp r Q j W R i) (e : Q.drop j = q :: T) (g : gives W R q = false) : r = (⟨W, R, Q.drop j⟩, i) := by
  have h1 := h.one
  have h2 := h.two
  rw [e, goIn_not g] at h1 h2
  rw [e]
  exact Prod.ext h1.symm (by rw [← h2]; simp)
theorem Rp.fin (h : Rp r Q Q.length W R i) : r = (⟨W, R, []⟩, i) := by
  have h1 := h.one
  have h2 := h.two
  rw [List.drop_length, goIn_nil] at h1 h2
  exact Prod.ext h1.symm (by rw [← h2]; simp)
theorem Rp.write {q : Int} (h : Rp r Q j W R i) (e : Q.drop j = q :: Q.drop (j + 1)) (g : gives W R q = true) (hq : q = who q) : Rp r Q (j + 1) (who q) R (i ++ [who q]) := by
  have h0 := h.pre
  have h1 := h.one
  have h2 := h.two
  rw [e] at h0
  rw [e, goIn_write g hq] at h1 h2
  obtain ⟨n1, n2⟩ := List.nodup_cons.1 (show (who q :: (Q.drop (j + 1)).map who).Nodup from h0.nd)
  have hR := (gives_iff.1 g).2 hq
  refine ⟨⟨.inr ⟨h0.q q (by simp), hR⟩, h0.up, h0.r, fun x hx => h0.q x (by simp [hx]), n2, fun x hx => ⟨fun e => n1 (e ▸ List.mem_map_of_mem hx), (h0.no x (by simp [hx])).2⟩⟩, h1, ?_⟩
  rw [← h2]; simp
theorem Rp.read {q : Int} (h : Rp r Q j W R i) (e : Q.drop j = q :: Q.drop (j + 1)) (g : gives W R q = true) (hq : q ≠ who q) : Rp r Q (j + 1) W (ins R (who q)) (i ++ [who q]) := by
  have h0 := h.pre
  have h1 := h.one
  have h2 := h.two
  rw [e] at h0
  rw [e, goIn_read g hq] at h1 h2
  obtain ⟨n1, n2⟩ := List.nodup_cons.1 (show (who q :: (Q.drop (j + 1)).map who).Nodup from h0.nd)
  have hno := h0.no q (by simp)
  refine ⟨⟨.inl (gives_iff.1 g).1, ins_up h0.up hno.2, fun t ht => ?_, fun x hx => h0.q x (by simp [hx]), n2, fun x hx => ⟨(h0.no x (by simp [hx])).1, fun hm => ?_⟩⟩, h1, ?_⟩
  · rcases mem_ins.1 ht with rfl | ht
    · exact h0.q q (by simp)
    · exact h0.r t ht
  · rcases mem_ins.1 hm with e | hm
    · exact n1 (e ▸ List.mem_map_of_mem hx)
    · exact (h0.no x (by simp [hx])).2 hm
  · rw [← h2]; simp

/-- Behind the loop. -/
theorem Rm.done {base : Nat} {A3 : Option Addr} {c3 m : Nat} {T : List Int} (hb : base ≤ s) (hrb : ∀ k, blk A c k → base ≤ k) (h3c : ∀ k, blk A3 c3 k → base ≤ k) (h : Rm w0 s Q A c A' c' j W R A1 c1 A2 c2 i wr) (hsw : w.heap.size = s) (hs : w0.heap.size = s + 2) (hA : ∀ k, blk A c k → k < s) (hg0 : Grow w w0) (h3 : Gs wr A3 m c3 T) (h3b : ∀ k, blk A3 c3 k → k < s) :
    Blk ((((wr.setCell ⟨s, 2, none⟩ (.slice A3 m c3)).setCell ⟨s + 1, 0, none⟩ (.int .i64 W)).setCell ⟨s + 1, 1, none⟩ (.slice A1 R.length c1)).setCell ⟨s + 1, 2, none⟩ (.slice A3 m c3)) (s + 1) 25 [.int .i64 W, .slice A1 R.length c1, .slice A3 m c3] ∧
    LetP w base (⟨W, R, T⟩, i) A c (.returned (.tuple #[.agg #[.int .i64 W, .slice A1 R.length c1, .slice A3 m c3], .slice A2 j c2])) ((((wr.setCell ⟨s, 2, none⟩ (.slice A3 m c3)).setCell ⟨s + 1, 0, none⟩ (.int .i64 W)).setCell ⟨s + 1, 1, none⟩ (.slice A1 R.length c1)).setCell ⟨s + 1, 2, none⟩ (.slice A3 m c3)) := by
  have hk : Kept (fun k => k = s ∨ k = s + 1) wr ((((wr.setCell ⟨s, 2, none⟩ (.slice A3 m c3)).setCell ⟨s + 1, 0, none⟩ (.int .i64 W)).setCell ⟨s + 1, 1, none⟩ (.slice A1 R.length c1)).setCell ⟨s + 1, 2, none⟩ (.slice A3 m c3)) :=
    ((((Kept.refl _ _).setCell (fun _ => .inl rfl) _).setCell (fun _ => .inr rfl) _).setCell (fun _ => .inr rfl) _).setCell (fun _ => .inr rfl) _
  refine ⟨(((h.out.other (by show s + 1 ≠ s; omega) _).set 0 _).set 1 _).set 2 _, ?_⟩
  have hlen := h.gi.len
  have hlt := h3.len
  generalize (((wr.setCell ⟨s, 2, none⟩ (.slice A3 m c3)).setCell ⟨s + 1, 0, none⟩ (.int .i64 W)).setCell ⟨s + 1, 1, none⟩ (.slice A1 R.length c1)).setCell ⟨s + 1, 2, none⟩ (.slice A3 m c3) = wf at *
  have n1 : ∀ k, blk A1 c1 k → ¬ (k = s ∨ k = s + 1) := fun k h1 e => by
    rcases h.rb k h1 with x | x
    · have := hA k x; omega
    · omega
  have g1 := h.gr.kept hk n1
  have g2 := h.gi.kept hk fun k h1 e => by have := h.ib k h1; omega
  have g3 := h3.kept hk fun k h1 e => by have := h3b k h1; omega
  refine ⟨_, A2, c2, by rw [show ((⟨W, R, T⟩, i) : La × List Int).2.length = j from hlen], fun F w'' hkF hF => ?_, ?_, fun k hk => ?_, ?_⟩
  · have e1 := g1.kept hkF fun k h1 => hF k (by
      rcases h.rb k h1 with x | x
      · exact hrb k x
      · omega)
    have e3 := g3.kept hkF fun k h1 => hF k (h3c k h1)
    refine ⟨A1, c1, A3, c3, by rw [show (⟨W, R, T⟩ : La).Q.length = m from hlt], e1.sl (Nat.le_refl _), ?_, ⟨e1.le, e1.max⟩, ?_⟩
    · show Sl w'' w''.heap.size .i64 A3 T.length T
      rw [hlt]
      exact e3.sl (Nat.le_refl _)
    · show T.length ≤ c3 ∧ _
      rw [hlt]
      exact ⟨e3.le, e3.max⟩
  · show Gs wf A2 i.length c2 i
    rw [hlen]
    exact g2
  · have := h.ib k hk
    omega
  · refine Kept.then ((Grow.kept hg0).then h.k fun k h1 h2 => ?_) hk fun k h1 h2 => ?_
    · rcases h2 with h2 | h2
      · exact h2
      · omega
    · omega

theorem letIn_any {base : Nat} (hbase : base ≤ w.heap.size) (h : Two w base R Q A c A' c') (hp : Pre W R Q) :
    Calls Try.prog 17 #[.agg #[.int .i64 W, .slice A R.length c, .slice A' Q.length c']] w (LetP w base (goIn W R Q) A c) := by
  have hQ64 := hp.lenQ
  have hQz : (Q.length : Int) ≤ 64 := by omega
  have hcm := h.q.max
  have hcl := h.q.le
  have HBS := Lib.hid hbase
  have HRB := Lib.hid h.rb
  have HQB := Lib.hid h.qb
  clear hbase
  have HAlt : Hid (∀ k, blk A c k → k < w.heap.size) := fun k hk => h.r.lt hk
  have HS := Lib.hid (h.q.sl (Nat.le_refl _))
  have HAP : Hid (∀ k, blk A' c' k → ¬ blk A c k) := fun k h1 h2 => h.ap k h2 h1
  have HQG := Lib.hid h.q
  have HG := Lib.hid fun (w' : World) (W : Int) (R : List Int) (v : Value) (hv : LatV w' ⟨W, R, Q⟩ v) (q : Int) (h1 : -1000 ≤ q) (h2 : q ≤ 1000) (h3 : R.length ≤ 100000) => gives_any hv q h1 h2 h3
  have HW := Lib.hid fun (w : World) (q : Int) (h1 : -1000 ≤ q) (h2 : q ≤ 1000) => who_any (w := w) q h1 h2
  have HP := Lib.hid hp
  generalize hr : goIn W R Q = r
  have HR := Lib.hid hr
  generalize hPQ : LetP w base r A c = P
  have HPQ := Lib.hid hPQ
  clear hr hPQ
  go_enter Try.func17, Try.ntmps17
  go_upto_region 2 with (fail)
  have hb0 := (Blk.new w 25 [.int .i64 W, .slice A R.length c, .slice A' Q.length c']).alloc (.cells #[.int .i64 0, .slice none 0 0, .slice none 0 0] 25)
  have hb1 := Blk.new (w.alloc (.cells #[.int .i64 W, .slice A R.length c, .slice A' Q.length c'] 25)) 25 [.int .i64 0, .slice none 0 0, .slice none 0 0]
  have hg0 : Grow w ((w.alloc (.cells #[.int .i64 W, .slice A R.length c, .slice A' Q.length c'] 25)).alloc (.cells #[.int .i64 0, .slice none 0 0, .slice none 0 0] 25)) := ((Kept.refl _ _).alloc _).alloc _
  have hsz : (w.alloc (.cells #[.int .i64 W, .slice A R.length c, .slice A' Q.length c'] 25)).heap.size = w.heap.size + 1 := by simp
  have hsz2 : ((w.alloc (.cells #[.int .i64 W, .slice A R.length c, .slice A' Q.length c'] 25)).alloc (.cells #[.int .i64 0, .slice none 0 0, .slice none 0 0] 25)).heap.size = w.heap.size + 2 := by simp
  rw [hsz] at hb1
  clear hsz
  generalize (w.alloc (.cells #[.int .i64 W, .slice A R.length c, .slice A' Q.length c'] 25)).alloc (.cells #[.int .i64 0, .slice none 0 0, .slice none 0 0] 25) = w0 at *
  have HRD : Hid (Rm w0 w.heap.size Q A c A' c' 0 W R A c none 0 [] w0) :=
    ⟨hb0, hb1, h.r.grow hg0, Gs.nil _ _, fun k hk => .inl hk, fun k hk => absurd hk blk_zero, fun k _ hk => absurd hk blk_zero, Kept.refl _ _⟩
  have HG0 := Lib.hid hg0
  have HSZ := Lib.hid hsz2
  have k2 := hb0.cell 2
  simp only [List.getElem?_cons_zero, List.getElem?_cons_succ] at k2
  clear hb0 hb1 hg0 hsz2 h hp
  go_step3
  go_wp2
  go_step3
  go_wp2
  clear k2
  go_loopg [4, 11] Q.length (fun gx v4 i11 wr => ∃ (j : Nat) (Wj : Int) (Rj : List Int) (A1 : Option Addr) (c1 : Nat) (A2 : Option Addr) (c2 : Nat) (i : List Int), j + gx = Q.length ∧ i11 = .int .i64 (j : Int) ∧ v4 = .slice A2 j c2 ∧ Rm w0 w.heap.size Q A c A' c' j Wj Rj A1 c1 A2 c2 i wr ∧ Rp r Q j Wj Rj i)
  case atStart => exact ⟨0, W, R, A, c, none, 0, [], by omega, rfl, rfl, HRD.out, HR.out ▸ Rp.first HP.out⟩
  case round =>
    obtain ⟨j, Wj, Rj, A1, c1, A2, c2, i, hg, rfl, rfl, hrm, hrp⟩ := hrel
    have HGX := Lib.hid hg
    have HM := Lib.hid hrm
    have HR := Lib.hid hrp
    have HLV : Hid (LatV wr ⟨Wj, Rj, Q⟩ (.agg #[.int .i64 Wj, .slice A1 Rj.length c1, .slice A' Q.length c'])) :=
      ⟨A1, c1, A', c', rfl, hrm.gr.sl (Nat.le_refl _), ((HQG.out.grow HG0.out).kept hrm.k fun k h1 h2 => by
        rcases h2 with h2 | h2
        · exact HAP.out k h1 h2
        · have := HQG.out.lt h1; omega).sl (Nat.le_refl _), ⟨hrm.gr.le, hrm.gr.max⟩, ⟨hcl, hcm⟩⟩
    have hRj : Rj.length ≤ 100000 := by have := hrp.pre.lenR; omega
    clear hg hrm
    have k0 := HM.out.box.cell 0
    have k1 := HM.out.box.cell 1
    have k2 := HM.out.box.cell 2
    have f0 := HM.out.box.frozenAll
    simp only [List.getElem?_cons_zero, List.getElem?_cons_succ] at k0 k1 k2
    by_cases hj : j < Q.length
    · have hjz : (j : Int) < (Q.length : Int) := by omega
      obtain ⟨b, o, rfl, _, hc⟩ := (show Sl wr wr.heap.size .i64 A' Q.length Q from by
        obtain ⟨_, _, _, _, e, _, hs, _, _⟩ := HLV.out
        injection e with e
        injection e with e
        injection e with e1 e
        injection e with e2 e
        injection e with e3 e
        injection e3 with e31 e32 e33
        rw [e31]; exact hs).at_ (by omega)
      have r1 := hc j hj
      have HDR := Lib.hid (drop_get hj)
      have hpre := hrp.pre
      rw [HDR.out] at hpre
      have hqB := hpre.qB _ (List.mem_cons_self ..)
      have hlo : -1000 ≤ Q.getD j 0 := by omega
      have hhi : Q.getD j 0 ≤ 1000 := by omega
      have HG1 := Lib.hid (HG.out wr Wj Rj _ HLV.out _ hlo hhi hRj)
      have HW1 := Lib.hid fun w => HW.out w _ hlo hhi
      have HST := Lib.hid fun (g : gives Wj Rj (Q.getD j 0) = false) => HR.out.stop HDR.out g
      have HWR := Lib.hid fun (g : gives Wj Rj (Q.getD j 0) = true) (e : Q.getD j 0 = who (Q.getD j 0)) => HR.out.write HDR.out g e
      have HRE := Lib.hid fun (g : gives Wj Rj (Q.getD j 0) = true) (e : Q.getD j 0 ≠ who (Q.getD j 0)) => HR.out.read HDR.out g e
      have HUP := Lib.hid hpre.up
      clear hc hpre hqB hlo hhi hrp HDR
      generalize Q.getD j 0 = q at *
      generalize who q = t at *
      cases hgv : gives Wj Rj q with
      | false =>
        rw [hgv] at HG1
        have HS1 := Lib.hid (HST.out hgv)
        clear hgv
        go_wp2_with (first
          | (go_at_call 26; (with_reducible refine (HW1.out _).mono ?_); rintro e w' ⟨rfl, rfl⟩)
          | (go_at_call 27; (with_reducible refine HG1.out.mono ?_); rintro e wg ⟨rfl, hgr⟩; have HGR := Lib.hid hgr; clear hgr k0 k1 k2 f0; have HM2 := Lib.hid (HM.out.grow HGR.out); have k0 := HM2.out.box.cell 0; have k1 := HM2.out.box.cell 1; have k2 := HM2.out.box.cell 2; have f0 := HM2.out.box.frozenAll; have g0 := HM2.out.out.cell 0; have g1 := HM2.out.out.cell 1; have g2 := HM2.out.out.cell 2; have f1 := HM2.out.out.frozenAll; simp only [List.getElem?_cons_zero, List.getElem?_cons_succ] at k0 k1 k2 g0 g1 g2))
        rw [Exit.noGoto_ret]
        have hQw := ((HQG.out.grow HG0.out).kept HM2.out.k fun k h1 h2 => by
          rcases h2 with h2 | h2
          · exact HAP.out k h1 h2
          · have := HQG.out.lt h1; omega)
        have hd := hQw.drop (m := j) (by omega)
        rw [if_neg (show ¬ c' = j by omega), Option.map_some, add_off] at hd
        obtain ⟨b1, b2⟩ := Rm.done HBS.out HRB.out (fun k hk => HQB.out k (blk_some.2 ⟨by have := (blk_some.1 hk).1; omega, (blk_some.1 hk).2⟩)) HM2.out rfl HSZ.out HAlt.out HG0.out hd fun k hk => HQG.out.lt (blk_some.2 ⟨by have := (blk_some.1 hk).1; omega, (blk_some.1 hk).2⟩)
        refine ret_cell2 rfl rfl b1 rfl ?_
        rw [← HPQ.out, HS1.out]
        exact b2
      | true =>
        rw [hgv] at HG1
        by_cases hqt : q = t
        · have HP1 := Lib.hid (HWR.out hgv hqt)
          clear hgv HST HWR HRE
          have hqt' : (q == t) = true := beq_iff_eq.2 hqt
          clear hqt
          go_upto_region 10 with (first
            | (go_at_call 26; (with_reducible refine (HW1.out _).mono ?_); rintro e w' ⟨rfl, rfl⟩)
            | (go_at_call 27; (with_reducible refine HG1.out.mono ?_); rintro e wg ⟨rfl, hgr⟩; have HGR := Lib.hid hgr; clear hgr k0 k1 k2 f0; have HM2 := Lib.hid (HM.out.grow HGR.out); have k0 := HM2.out.box.cell 0; have f0 := HM2.out.box.frozenAll; simp only [List.getElem?_cons_zero, List.getElem?_cons_succ] at k0))
          have HM3 := Lib.hid (HM2.out.write HAlt.out t)
          clear k0 f0
          generalize wg.setCell ⟨w.heap.size, 0, none⟩ (.int .i64 t) = w2 at *
          have HM4 := Lib.hid (HM3.out.grow ((Kept.refl _ w2).alloc (.cells #[.int .i64 t] 3)))
          obtain ⟨B2, d2, w3, hr, hg, hk, hb⟩ := append_gs 23 HM4.out.gi (by omega) w2.heap.size t (cell_new1 _ _ _)
          have HAR := Lib.hid hr
          have HM5 := Lib.hid (HM4.out.into HSZ.out hg hk hb)
          clear hr hg hk hb
          go_wp2_with (at_builtin; refine Lib.wpList_append_run _ rfl _ _ _ _ rfl _ _ rfl rfl _ _ HAR.out ?_)
          go_roundg (gk - 1)
          case measure => have := HGX.out; omega
          case rel => exact ⟨j + 1, t, Rj, A1, c1, B2, d2, i ++ [t], by have := HGX.out; omega, by go_num, rfl, HM5.out, HP1.out⟩
        · have HP1 := Lib.hid (HRE.out hgv hqt)
          have hqt' : (q == t) = false := beq_eq_false_iff_ne.2 hqt
          have hri := fun (w' : World) (hg : Gs w' A1 Rj.length c1 Rj) => risen_any hg hRj HUP.out t
          rw [← ins_len (R := Rj) (t := t)] at hri
          have HRI := Lib.hid hri
          clear hgv HST HWR HRE hqt hri
          go_upto_region 10 with (first
            | (go_at_call 26; (with_reducible refine (HW1.out _).mono ?_); rintro e w' ⟨rfl, rfl⟩)
            | (go_at_call 27; (with_reducible refine HG1.out.mono ?_); rintro e wg ⟨rfl, hgr⟩; have HGR := Lib.hid hgr; clear hgr k0 k1 k2 f0; have HM2 := Lib.hid (HM.out.grow HGR.out); have k1 := HM2.out.box.cell 1; simp only [List.getElem?_cons_zero, List.getElem?_cons_succ] at k1)
            | (go_at_call 28; (with_reducible refine (HRI.out _ HM2.out.gr).mono ?_); rintro e wx ⟨B1, d1, rfl, hg, hk, hb⟩; have HGB := Lib.hid hg; have HKB := Lib.hid hk; have HBB := Lib.hid hb; clear hg hk hb k1; have HBX := Lib.hid (HM2.out.box.kept HKB.out fun x => HM2.out.apart HAlt.out x); have k1 := HBX.out.cell 1; have f1 := HBX.out.frozenAll; simp only [List.getElem?_cons_zero, List.getElem?_cons_succ] at k1))
          have HM3 := Lib.hid (HM2.out.rise HSZ.out HAlt.out HGB.out HKB.out HBB.out)
          clear k1 f1
          generalize wx.setCell ⟨w.heap.size, 1, none⟩ (.slice B1 (ins Rj t).length d1) = w2 at *
          have HM4 := Lib.hid (HM3.out.grow ((Kept.refl _ w2).alloc (.cells #[.int .i64 t] 3)))
          obtain ⟨B2, d2, w3, hr, hg, hk, hb⟩ := append_gs 23 HM4.out.gi (by omega) w2.heap.size t (cell_new1 _ _ _)
          have HAR := Lib.hid hr
          have HM5 := Lib.hid (HM4.out.into HSZ.out hg hk hb)
          clear hr hg hk hb
          go_wp2_with (at_builtin; refine Lib.wpList_append_run _ rfl _ _ _ _ rfl _ _ rfl rfl _ _ HAR.out ?_)
          go_roundg (gk - 1)
          case measure => have := HGX.out; omega
          case rel => exact ⟨j + 1, Wj, ins Rj t, B1, d1, B2, d2, i ++ [t], by have := HGX.out; omega, by go_num, rfl, HM5.out, HP1.out⟩
    · obtain rfl : j = Q.length := by have := HGX.out; omega
      clear hj k0 k1 f0
      have g0 := HM.out.out.cell 0
      have g1 := HM.out.out.cell 1
      have g2 := HM.out.out.cell 2
      have f1 := HM.out.out.frozenAll
      have k0 := HM.out.box.cell 0
      have k1 := HM.out.box.cell 1
      have f0 := HM.out.box.frozenAll
      simp only [List.getElem?_cons_zero, List.getElem?_cons_succ] at g0 g1 g2 k0 k1
      clear hrp
      have hQw := ((HQG.out.grow HG0.out).kept HM.out.k fun k h1 h2 => by
        rcases h2 with h2 | h2
        · exact HAP.out k h1 h2
        · have := HQG.out.lt h1; omega)
      have HQW := Lib.hid hQw
      have HFI := Lib.hid HR.out.fin
      clear hQw
      go_wp2
      · obtain ⟨b1, b2⟩ := Rm.done HBS.out HRB.out (fun k hk => absurd hk blk_zero) HM.out rfl HSZ.out HAlt.out HG0.out (Gs.nil _ A') fun k hk => absurd hk blk_zero
        refine ret_cell2 rfl rfl b1 rfl ?_
        rw [← HPQ.out, HFI.out]
        exact b2
      · have hd := HQW.out.drop (Nat.le_refl _)
        rw [if_neg (by assumption), Nat.sub_self, List.drop_length] at hd
        obtain ⟨b1, b2⟩ := Rm.done HBS.out HRB.out (fun k hk => HQB.out k (blk_drop (m := Q.length) (by rw [if_neg (by assumption)]; exact hk))) HM.out rfl HSZ.out HAlt.out HG0.out hd fun k hk => HQG.out.lt (blk_drop (m := Q.length) (by rw [if_neg (by assumption)]; exact hk))
        refine ret_cell2 rfl rfl b1 rfl ?_
        rw [← HPQ.out, HFI.out]
        exact b2
end
end Go.Proofs.Ytpdmncdbimdfaaa.LatN
