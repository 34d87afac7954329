/-
  lavabolaw15.told answers true.
-/
import Derived.Test.YtigcjcgdakoonaaScAll
import Derived.Test.YtigcjcgdakoonaaTxt
namespace Go.Proofs.Ytigcjcgdakoonaa.Told15
open Go.ChangeShapes Go.WideShapes Go.ChangeAt Go.RowKit
open Go.Proofs.Ytigcjcgdakoonaa.Mem Go.Proofs.Ytigcjcgdakoonaa.Blk Go.Proofs.Ytigcjcgdakoonaa.Cells Go.Proofs.Ytigcjcgdakoonaa.Orow Go.Proofs.Ytigcjcgdakoonaa.Txt Go.Proofs.Ytigcjcgdakoonaa.MdM Go.Proofs.Ytigcjcgdakoonaa.ScM Go.Proofs.Ytigcjcgdakoonaa.ScC Go.Proofs.Ytigcjcgdakoonaa.ScO Go.Proofs.Ytigcjcgdakoonaa.ScR Go.Proofs.Ytigcjcgdakoonaa.ScA Go.Proofs.Ytigcjcgdakoonaa.Stages

def bs : List Int := [0, 3, 1, 2, 3, 1, 2, 0, 7, 255, 5, 6, 9]
def c0 : Cf := ⟨4, 4, 2, 2⟩
def o0 : MdOp := ⟨4, 0, 0, 5, 0, [7, 7, 7]⟩
theorem may0 : c0.may := by unfold Cf.may c0; decide
theorem not0 : ¬ Cf.may ⟨0, 0, 0, 0⟩ := by unfold Cf.may; decide
theorem bs_bytes : Bytes bs := by unfold Bytes bs; decide
theorem four_bytes : Bytes [1, 2, 3, 4] := by unfold Bytes; decide
theorem e_op : opM c0 3 7 53 = o0 := rfl
theorem sevens : strOfNums [7, 7, 7] = (⟨#[7, 7, 7]⟩ : ByteArray) := by decide
section
variable {w w' : World} {b n : Nat}
theorem all_of {c : Cf} {zs : List Int} {t : TypeId} (h : NBlk w b t .u8 zs) (hz : Bytes zs) (hl : zs.length = n) (hn : n ≤ 1000) : Calls Try.prog 8 #[.slice (some ⟨b, 0, none⟩) n n, cfv c] w (StepsP (stepsN c n) (stepAt c zs) w) :=
  all_any (Sl.of_blk0 h hl h.lt) hz hn (Nat.le_refl _)
theorem st0 : stepAt c0 bs 0 = ⟨1, 1, 0, 0, ⟨1, 0, 0, 0, 0, []⟩, []⟩ := rfl
theorem st1 : stepAt c0 bs 1 = ⟨2, 0, 258, 0, zop, []⟩ := rfl
theorem st2 : stepAt c0 bs 2 = ⟨4, 0, 0, 0, zop, [5, 6]⟩ := rfl
theorem n3 : stepsN c0 13 = 3 := rfl
/-- What is asked of the three steps. -/
theorem three_cells {B : Nat} {v : Value} {Q : Nat → Ad} (h : SV w B v (stepsN c0 13) (stepAt c0 bs) Q) : ∃ g cap A c, v = .slice (some ⟨g, 0, none⟩) 3 cap ∧ w.cell? ⟨g, 0, none⟩ = some (.int .i64 1) ∧ w.cell? ⟨g, 1, none⟩ = some (.int .i64 1) ∧ w.cell? ⟨g, 4, none⟩ = some (.int .i64 1) ∧ w.cell? ⟨g, 11, none⟩ = some (.int .i64 2) ∧ w.cell? ⟨g, 13, none⟩ = some (.int .i64 258) ∧ w.cell? ⟨g, 22, none⟩ = some (.int .i64 4) ∧ w.cell? ⟨g, 32, none⟩ = some (.slice A 2 c) := by
  rw [n3] at h
  rcases h with ⟨_, h0⟩ | ⟨g, cap, rfl, h⟩
  · cases h0
  · have hd := (h.dat 2 (by omega)).bits.sl.len
    rw [st2] at hd
    have hd2 : (Q 2).al = 2 := hd.symm
    have cell : ∀ i j, i < 3 → j < 11 → w.cell? ⟨g, i * 11 + j, none⟩ = some ((stl (stepAt c0 bs i) (Q i)).getD j (.int .i64 0)) := fun i j hi hj => by
      rw [h.row.cell (i := i * 11 + j) (by omega), stf_at _ _ _ _ hj]
    have r0 := cell 0 0 (by omega) (by omega)
    have r1 := cell 0 1 (by omega) (by omega)
    have r4 := cell 0 4 (by omega) (by omega)
    have r11 := cell 1 0 (by omega) (by omega)
    have r13 := cell 1 2 (by omega) (by omega)
    have r22 := cell 2 0 (by omega) (by omega)
    have r32 := cell 2 10 (by omega) (by omega)
    rw [st0] at r0 r1 r4
    rw [st1] at r11 r13
    rw [st2] at r22 r32
    refine ⟨g, cap, (Q 2).A, (Q 2).ac, rfl, r0, r1, r4, r11, r13, r22, ?_⟩
    have e : (stl ⟨4, 0, 0, 0, zop, [5, 6]⟩ (Q 2)).getD 10 (.int .i64 0) = .slice (Q 2).A 2 (Q 2).ac := by
      show Value.slice (Q 2).A (Q 2).al (Q 2).ac = _
      rw [hd2]
    rw [e] at r32
    exact r32
set_option maxHeartbeats 8000000 in
theorem told_any (w : World) : Calls Try.prog 7 #[] w fun e w' => e = .returned (.bool true) ∧ Grow w w' := by
  go_enter Try.func7, Try.ntmps7
  go_upto_region 2 with (fail)
  obtain ⟨w0, hw0, hb, hg0⟩ := conf_new w 4 4 2 2
  have HB := Lib.hid hb
  have HG0 := Lib.hid hg0
  have c0 := hb.cell 0
  have c1 := hb.cell 1
  have c2 := hb.cell 2
  have c3 := hb.cell 3
  simp only [List.getElem?_cons_zero, List.getElem?_cons_succ] at c0 c1 c2 c3
  rw [hw0]
  clear hw0 hb hg0
  generalize w.heap.size = g at *
  have n1 := NBlk.new w0 5 .u8 bs
  have hg1 : Grow w0 (w0.alloc (.cells #[.int .u8 0, .int .u8 3, .int .u8 1, .int .u8 2, .int .u8 3, .int .u8 1, .int .u8 2, .int .u8 0, .int .u8 7, .int .u8 255, .int .u8 5, .int .u8 6, .int .u8 9] 5)) := (Kept.refl _ _).alloc _
  replace c0 := hg1.cellN c0 id
  replace c1 := hg1.cellN c1 id
  replace c2 := hg1.cellN c2 id
  replace c3 := hg1.cellN c3 id
  have CA : Hid (Calls Try.prog 8 #[.slice (some ⟨w0.heap.size, 0, none⟩) 13 13, .agg #[.int .i64 4, .int .i64 4, .int .i64 2, .int .i64 2]] (w0.alloc (.cells #[.int .u8 0, .int .u8 3, .int .u8 1, .int .u8 2, .int .u8 3, .int .u8 1, .int .u8 2, .int .u8 0, .int .u8 7, .int .u8 255, .int .u8 5, .int .u8 6, .int .u8 9] 5)) (StepsP (stepsN Told15.c0 13) (stepAt Told15.c0 bs) (w0.alloc (.cells #[.int .u8 0, .int .u8 3, .int .u8 1, .int .u8 2, .int .u8 3, .int .u8 1, .int .u8 2, .int .u8 0, .int .u8 7, .int .u8 255, .int .u8 5, .int .u8 6, .int .u8 9] 5)))) := all_of (c := Told15.c0) n1 bs_bytes (n := 13) rfl (by decide)
  have HG1 := Lib.hid hg1
  clear n1 hg1
  go_upto_region 3 with (go_at_call 8; (with_reducible refine CA.out.mono ?_); rintro e w1 ⟨v, Q, rfl, hsv, hgv⟩; obtain ⟨q, cap, A, cc, rfl, r0, r1, r4, r11, r13, r22, r32⟩ := three_cells hsv; have HG2 : Hid (Grow w0 w1) := HG1.out.trans hgv; replace c0 := hgv.cellN c0 id; replace c1 := hgv.cellN c1 id; replace c2 := hgv.cellN c2 id; replace c3 := hgv.cellN c3 id; clear hsv hgv)
  have HG3 : Hid (Grow w w1) := HG0.out.trans HG2.out
  have CO : Hid (Calls Try.prog 12 #[.int .u8 3, .int .u8 7, .int .u8 53, .agg #[.int .i64 4, .int .i64 4, .int .i64 2, .int .i64 2]] w1 (OpP o0 w1)) := op_any (c := Told15.c0) may0 (a := 3) (b := 7) (d := 53) (by decide) (by decide) (by decide) w1
  clear HG0 HG1 HG2 CA HB
  go_upto_region 4 with (go_at_call 12; (with_reducible refine CO.out.mono ?_); rintro e w2 ⟨D, dn, dc, rfl, hd, hgd⟩; obtain rfl : dn = 3 := hd.sl.len.symm; have HD := Lib.hid hd; have HGD := Lib.hid hgd; clear hd hgd)
  clear c0 c1 c2 c3
  have hop := Blk.new w2 31 (opl o0 D 3 dc)
  have hga : Grow w2 (w2.alloc (.cells #[.int .i64 o0.k, .int .i64 o0.p, .int .i64 o0.h, .int .i64 o0.o, .int .i64 o0.n, .slice D 3 dc] 31)) := (Kept.refl _ _).alloc _
  generalize w2.alloc (.cells #[.int .i64 o0.k, .int .i64 o0.p, .int .i64 o0.h, .int .i64 o0.o, .int .i64 o0.n, .slice D 3 dc] 31) = w3 at hop hga ⊢
  have HG4 : Hid (Grow w1 w3) := HGD.out.trans hga
  have x0 : w3.cell? ⟨w2.heap.size, 0, none⟩ = some (.int .i64 4) := hop.cell 0
  have x2 : w3.cell? ⟨w2.heap.size, 2, none⟩ = some (.int .i64 0) := hop.cell 2
  have x3 : w3.cell? ⟨w2.heap.size, 3, none⟩ = some (.int .i64 5) := hop.cell 3
  have x5 : w3.cell? ⟨w2.heap.size, 5, none⟩ = some (.slice D 3 dc) := hop.cell 5
  have y0 := HG4.out.cellN r0 id
  have y1 := HG4.out.cellN r1 id
  have y4 := HG4.out.cellN r4 id
  have y11 := HG4.out.cellN r11 id
  have y13 := HG4.out.cellN r13 id
  have y22 := HG4.out.cellN r22 id
  have y32 := HG4.out.cellN r32 id
  have k7 := ((HD.out.grow hga).sl).str (P := Try.prog) 22 9 5 Try.underlying22 Try.underlying5 Try.underlying9 dc
  rw [show o0.d = [7, 7, 7] from rfl, sevens] at k7
  have n4 := NBlk.new w3 5 .u8 [1, 2, 3, 4]
  have hg5 : Grow w3 (w3.alloc (.cells #[.int .u8 1, .int .u8 2, .int .u8 3, .int .u8 4] 5)) := (Kept.refl _ _).alloc _
  have CA : Hid (Calls Try.prog 8 #[.slice (some ⟨w3.heap.size, 0, none⟩) 4 4, .agg #[.int .i64 0, .int .i64 0, .int .i64 0, .int .i64 0]] (w3.alloc (.cells #[.int .u8 1, .int .u8 2, .int .u8 3, .int .u8 4] 5)) (StepsP (stepsN ⟨0, 0, 0, 0⟩ 4) (stepAt ⟨0, 0, 0, 0⟩ [1, 2, 3, 4]) (w3.alloc (.cells #[.int .u8 1, .int .u8 2, .int .u8 3, .int .u8 4] 5)))) := all_of (c := ⟨0, 0, 0, 0⟩) n4 four_bytes (n := 4) rfl (by decide)
  have HG5 := Lib.hid hg5
  clear hop hga r0 r1 r4 r11 r13 r22 r32 HD n4 hg5 CO HGD
  simp only [List.append]
  go_wp2_with (go_at_call 8; (with_reducible refine CA.out.mono ?_); rintro e w6 ⟨v, Q', rfl, hsv, hgv⟩; obtain ⟨vA, vc, rfl⟩ := hsv.slice; rw [show stepsN ⟨0, 0, 0, 0⟩ 4 = 0 from rfl] at *; have HG6 := Lib.hid hgv; clear hsv hgv)
  go_ret
  exact ⟨rfl, ((HG3.out.trans HG4.out).trans HG5.out).trans HG6.out⟩
end
#print axioms told_any
end Go.Proofs.Ytigcjcgdakoonaa.Told15
