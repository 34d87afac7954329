/-
  Are two calls, two steps the same? (lavaboref13.SameOp, lavabolaw15.same)
-/
import Derived.Test.YtigcjcgdakoonaaScAll
import Derived.Test.YtigcjcgdakoonaaTxt
namespace Go.Proofs.Ytigcjcgdakoonaa.ScE
open Go.ChangeShapes Go.WideShapes Go.ChangeAt Go.RowKit
open Go.Proofs.Ytigcjcgdakoonaa.Mem Go.Proofs.Ytigcjcgdakoonaa.Blk Go.Proofs.Ytigcjcgdakoonaa.Cells Go.Proofs.Ytigcjcgdakoonaa.Txt Go.Proofs.Ytigcjcgdakoonaa.MdM Go.Proofs.Ytigcjcgdakoonaa.ScM Go.Proofs.Ytigcjcgdakoonaa.ScC Go.Proofs.Ytigcjcgdakoonaa.ScO Go.Proofs.Ytigcjcgdakoonaa.ScR Go.Proofs.Ytigcjcgdakoonaa.Stages

/-- The numbers of a string's bytes. -/
def strNums (s : ByteArray) : List Int := s.data.toList.map fun b => (b.toNat : Int)
theorem strNums_ofNums {zs : List Int} (h : Bytes zs) : strNums (strOfNums zs) = zs := by
  unfold strNums
  rw [strOfNums_data, List.map_map]
  conv => rhs; rw [← List.map_id zs]
  refine List.map_congr_left fun c hc => ?_
  obtain ⟨h1, h2⟩ := h c hc
  simp
  omega
theorem str_inj {a b : List Int} (ha : Bytes a) (hb : Bytes b) (h : strOfNums a = strOfNums b) : a = b := by
  have := congrArg strNums h
  rwa [strNums_ofNums ha, strNums_ofNums hb] at this
theorem str_eq {a b : List Int} (ha : Bytes a) (hb : Bytes b) : ((strOfNums a).toList == (strOfNums b).toList) = decide (a = b) := by
  rw [Bool.eq_iff_iff, beq_iff_eq, decide_eq_true_iff]
  constructor
  · intro h
    refine str_inj ha hb ?_
    rw [ByteArray.toList_eq, ByteArray.toList_eq] at h
    apply ByteArray.ext
    exact Array.ext' h
  · rintro rfl; rfl
section
variable {w w' : World} {X Y : Nat → Prop} {o p : MdOp} {A A' : Option Addr} {n n' c c' : Nat} {s t : Stp} {d e : Ad}
theorem two_ops (w : World) (o p : MdOp) (A A' : Option Addr) (n n' c c' : Nat) : ∃ w0 : World, (w.alloc (.cells #[.int .i64 o.k, .int .i64 o.p, .int .i64 o.h, .int .i64 o.o, .int .i64 o.n, .slice A n c] 31)).alloc (.cells #[.int .i64 p.k, .int .i64 p.p, .int .i64 p.h, .int .i64 p.o, .int .i64 p.n, .slice A' n' c'] 31) = w0
    ∧ Blk w0 w.heap.size 31 (opl o A n c) ∧ Blk w0 (w.heap.size + 1) 31 (opl p A' n' c') ∧ Grow w w0 := by
  refine ⟨_, rfl, (Blk.new w _ _).alloc _, ?_, ((Kept.refl _ _).alloc _).alloc _⟩
  have := Blk.new (w.alloc (.cells #[.int .i64 o.k, .int .i64 o.p, .int .i64 o.h, .int .i64 o.o, .int .i64 o.n, .slice A n c] 31)) 31 (opl p A' n' c')
  rwa [show (w.alloc (.cells #[.int .i64 o.k, .int .i64 o.p, .int .i64 o.h, .int .i64 o.o, .int .i64 o.n, .slice A n c] 31)).heap.size = w.heap.size + 1 by simp] at this
theorem op_eq : o = p ↔ o.k = p.k ∧ o.p = p.p ∧ o.h = p.h ∧ o.o = p.o ∧ o.n = p.n ∧ o.d = p.d := by
  cases o; cases p; simp
theorem stp_eq : s = t ↔ s.k = t.k ∧ s.c = t.c ∧ s.n = t.n ∧ s.t = t.t ∧ s.o = t.o ∧ s.b = t.b := by
  cases s; cases t; simp
set_option maxHeartbeats 4000000 in
theorem sameOp_any (h : Byt w X A n o.d) (h' : Byt w Y A' n' p.d) (c c' : Nat) : Calls Try.prog 11 #[.agg (opl o A n c).toArray, .agg (opl p A' n' c').toArray] w (Tells (o = p) w) := by
  have HD := Lib.hid h
  have HD' := Lib.hid h'
  clear h h'
  go_enter Try.func11, Try.ntmps11
  go_upto_region 1 with (fail)
  obtain ⟨w0, hw0, hb, hb', hg0⟩ := two_ops w o p A A' n n' c c'
  have k1 := ((HD.out.kept hg0 fun _ _ _ => id).sl).str (P := Try.prog) 22 9 5 Try.underlying22 Try.underlying5 Try.underlying9 c
  have k2 := ((HD'.out.kept hg0 fun _ _ _ => id).sl).str (P := Try.prog) 22 9 5 Try.underlying22 Try.underlying5 Try.underlying9 c'
  have a0 := hb.cell 0
  have a1 := hb.cell 1
  have a2 := hb.cell 2
  have a3 := hb.cell 3
  have a4 := hb.cell 4
  have a5 := hb.cell 5
  have b0 := hb'.cell 0
  have b1 := hb'.cell 1
  have b2 := hb'.cell 2
  have b3 := hb'.cell 3
  have b4 := hb'.cell 4
  have b5 := hb'.cell 5
  simp only [List.getElem?_cons_zero, List.getElem?_cons_succ] at a0 a1 a2 a3 a4 a5 b0 b1 b2 b3 b4 b5
  have HG := Lib.hid hg0
  rw [hw0]
  clear hw0 hb hb' hg0
  have HS := Lib.hid (str_eq HD.out.byt HD'.out.byt)
  obtain ⟨x0, x1, x2, x3, x4, x5⟩ := o
  obtain ⟨y0, y1, y2, y3, y4, y5⟩ := p
  dsimp only at a0 a1 a2 a3 a4 a5 b0 b1 b2 b3 b4 b5 HS k1 k2 ⊢
  clear HD HD'
  generalize w.heap.size = g at *
  go_wp2
  all_goals go_ret
  · refine ⟨⟨_, rfl, ?_⟩, HG.out⟩
    rw [HS.out, decide_eq_true_iff]
    clear a0 a1 a2 a3 a4 a5 b0 b1 b2 b3 b4 b5 HS k1 k2 HG
    simp_all
  all_goals
    refine Tells.no (fun e => ?_) HG.out
    clear a0 a1 a2 a3 a4 a5 b0 b1 b2 b3 b4 b5 HS k1 k2 HG
    simp_all
theorem two_stps (w : World) (s t : Stp) (d e : Ad) : ∃ w0 : World, (w.alloc (.cells (stl s d).toArray 33)).alloc (.cells (stl t e).toArray 33) = w0
    ∧ Blk w0 w.heap.size 33 (stl s d) ∧ Blk w0 (w.heap.size + 1) 33 (stl t e) ∧ Grow w w0 := by
  refine ⟨_, rfl, (Blk.new w _ _).alloc _, ?_, ((Kept.refl _ _).alloc _).alloc _⟩
  have := Blk.new (w.alloc (.cells (stl s d).toArray 33)) 33 (stl t e)
  rwa [show (w.alloc (.cells (stl s d).toArray 33)).heap.size = w.heap.size + 1 by simp] at this
set_option maxHeartbeats 4000000 in
theorem same_any (h : StD w X s d) (h' : StD w Y t e) : Calls Try.prog 10 #[.agg (stl s d).toArray, .agg (stl t e).toArray] w (Tells (s = t) w) := by
  have HD := Lib.hid h
  have HD' := Lib.hid h'
  clear h h'
  go_enter Try.func10, Try.ntmps10
  go_upto_region 1 with (fail)
  obtain ⟨w0, hw0, hb, hb', hg0⟩ := two_stps w s t d e
  have CS : Hid (∀ wx, Grow w0 wx → Calls Try.prog 11 #[.agg (opl s.o d.D d.dl d.dc).toArray, .agg (opl t.o e.D e.dl e.dc).toArray] wx (Tells (s.o = t.o) wx)) := fun wx hg => sameOp_any ((HD.out.grow hg0).grow hg).data ((HD'.out.grow hg0).grow hg).data _ _
  have K1 : Hid (∀ wx, Grow w0 wx → (convert 22 9 (.slice d.A d.al d.ac)).run Try.prog wx = .ok (.string (strOfNums s.b)) wx) := fun wx hg => (((HD.out.grow hg0).grow hg).bits.sl).str (P := Try.prog) 22 9 5 Try.underlying22 Try.underlying5 Try.underlying9 d.ac
  have K2 : Hid (∀ wx, Grow w0 wx → (convert 22 9 (.slice e.A e.al e.ac)).run Try.prog wx = .ok (.string (strOfNums t.b)) wx) := fun wx hg => (((HD'.out.grow hg0).grow hg).bits.sl).str (P := Try.prog) 22 9 5 Try.underlying22 Try.underlying5 Try.underlying9 e.ac
  have HS := Lib.hid (str_eq HD.out.bits.byt HD'.out.bits.byt)
  have HT : Hid (s = t ↔ s.k = t.k ∧ s.c = t.c ∧ s.n = t.n ∧ s.t = t.t ∧ s.o = t.o ∧ s.b = t.b) := stp_eq
  have a0 := hb.cell 0
  have a1 := hb.cell 1
  have a2 := hb.cell 2
  have a3 := hb.cell 3
  have a4 := hb.cell 4
  have a5 := hb.cell 5
  have a6 := hb.cell 6
  have a7 := hb.cell 7
  have a8 := hb.cell 8
  have a9 := hb.cell 9
  have b0 := hb'.cell 0
  have b1 := hb'.cell 1
  have b2 := hb'.cell 2
  have b3 := hb'.cell 3
  have b4 := hb'.cell 4
  have b5 := hb'.cell 5
  have b6 := hb'.cell 6
  have b7 := hb'.cell 7
  have b8 := hb'.cell 8
  have b9 := hb'.cell 9
  have q10 := hb.cell 10
  have q10' := hb'.cell 10
  simp only [List.getElem?_cons_zero, List.getElem?_cons_succ] at a0 a1 a2 a3 a4 a5 a6 a7 a8 a9 b0 b1 b2 b3 b4 b5 b6 b7 b8 b9 q10 q10'
  have Q10 := Lib.hid (And.intro q10 q10')
  have HG := Lib.hid hg0
  rw [hw0]
  clear hw0 hb hb' hg0 HD HD' q10 q10'
  generalize w.heap.size = g at *
  go_wp2_with (go_at_call 11; (with_reducible refine (CS.out _ (Kept.refl _ _)).mono ?_); rintro eo ws ⟨⟨bo, rfl, hbo⟩, hgs⟩; have HBO := Lib.hid hbo; have HGS := Lib.hid hgs; have q10 := hgs.cellN Q10.out.1 id; have q10' := hgs.cellN Q10.out.2 id; have k1 := K1.out ws hgs; have k2 := K2.out ws hgs; clear hbo hgs)
  all_goals go_ret
  · refine ⟨⟨_, rfl, ?_⟩, HG.out.trans HGS.out⟩
    have ho := HBO.out
    rw [HS.out, decide_eq_true_iff, HT.out]
    exact ⟨fun h => ⟨by assumption, by assumption, by assumption, by assumption, ho.1 (by assumption), h⟩, fun h => h.2.2.2.2.2⟩
  · refine Tells.no (fun e => ?_) (HG.out.trans HGS.out)
    have := HBO.out.2 (HT.out.1 e).2.2.2.2.1
    simp_all
  all_goals
    refine Tells.no (fun e => ?_) HG.out
    obtain ⟨e1, e2, e3, e4, _⟩ := HT.out.1 e
    contradiction
end
#print axioms same_any
end Go.Proofs.Ytigcjcgdakoonaa.ScE
