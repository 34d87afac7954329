/-
  For every input the call of lavabolaw15.ScriptOps returns true and leaves its arguments as they were; no condition.
-/
import Derived.Test.YtigcjcgdakoonaaTold15
import Derived.Test.YtigcjcgdakoonaaScIn
import Derived.Test.YtigcjcgdakoonaaRows
import Derived.WalkKit
import Derived.ProofKit
import Derived.OpenShut
import Derived.ShutString
import Derived.ChangeOld
import Derived.Below
namespace Go.Proofs.Ytigcjcgdakoonaa.scriptOps
open Go.ChangeShapes Go.WideShapes Go.ChangeAt Go.RowKit
open Go.ChangeMaps (open_string shut_string)
open Go.Proofs.Ytigcjcgdakoonaa.Mem Go.Proofs.Ytigcjcgdakoonaa.Blk Go.Proofs.Ytigcjcgdakoonaa.Cells Go.Proofs.Ytigcjcgdakoonaa.MdM Go.Proofs.Ytigcjcgdakoonaa.ScM Go.Proofs.Ytigcjcgdakoonaa.ScC Go.Proofs.Ytigcjcgdakoonaa.ScO Go.Proofs.Ytigcjcgdakoonaa.ScI Go.Proofs.Ytigcjcgdakoonaa.Told15 Go.Proofs.Ytigcjcgdakoonaa.Stages
set_option linter.unusedVariables false

theorem own : ownKnob Try.prog.godebug = none := by kernel_rfl
theorem laidOut : laidOutB Try.prog = true := by kernel_rfl

theorem conf_two (w : World) (p f s k : Int) : ∃ w0 : World, w.alloc (.cells #[.int .i64 p, .int .i64 f, .int .i64 s, .int .i64 k] 24) = w0 ∧ Blk w0 w.heap.size 24 [.int .i64 p, .int .i64 f, .int .i64 s, .int .i64 k] ∧ Grow w w0 :=
  ⟨_, rfl, Blk.new w _ _, (Kept.refl _ _).alloc _⟩
set_option maxHeartbeats 8000000 in
set_option maxRecDepth 100000 in
theorem walk (a0 : Int) (a1 : Int) (a2 : Int) (a3 : Int) (a4 : Int) (w : World) (w0 : (Lit.int .u8 a0).wf = true) (w1 : (Lit.int .u8 a1).wf = true) (w2 : (Lit.int .u8 a2).wf = true) (w3 : (Lit.int .i64 a3).wf = true) (w4 : (Lit.int .i64 a4).wf = true) :
    Calls Try.prog 6 #[.int .u8 a0, .int .u8 a1, .int .u8 a2, .int .i64 a3, .int .i64 a4] w fun e w' => e = .returned (.bool true) ∧ Below w.heap.size w w' := by
  have k0 := bounds_u8 w0
  have k1 := bounds_u8 w1
  have k2 := bounds_u8 w2
  have k3 := bounds_i64 w3
  have k4 := bounds_i64 w4
  obtain ⟨K, hK, hK8⟩ := tmod_nat a3 48 (by decide)
  obtain ⟨M, hM, hM6⟩ := tmod_nat a4 6 (by decide)
  simp only [Int.cast_ofNat_Int] at hK hM
  have HMAY : Hid (Cf.may ⟨1 + (K : Int), 4, 2, 1 + (M : Int)⟩) := by unfold Hid Cf.may; dsimp only; omega
  have hKz : (K : Int) < 48 := by omega
  have hMz : (M : Int) < 6 := by omega
  go_enter Try.func6, Try.ntmps6
  go_upto_region 2 with (fail)
  obtain ⟨v, hv, hb, hg0⟩ := conf_two w (1 + (K : Int)) 4 2 (1 + (M : Int))
  have c0 := hb.cell 0
  have c1 := hb.cell 1
  have c2 := hb.cell 2
  have c3 := hb.cell 3
  simp only [List.getElem?_cons_zero, List.getElem?_cons_succ] at c0 c1 c2 c3
  have HG0 := Lib.hid hg0
  rw [hv]
  clear hv hb hg0 hK hM
  have CT : Hid (∀ wx, Calls Try.prog 7 #[] wx fun e w' => e = .returned (.bool true) ∧ Grow wx w') := told_any
  have HO : Hid (∀ wx, Calls Try.prog 12 #[.int .u8 a0, .int .u8 a1, .int .u8 a2, .agg #[.int .i64 (1 + (K : Int)), .int .i64 4, .int .i64 2, .int .i64 (1 + (M : Int))]] wx (OpP (opM ⟨1 + (K : Int), 4, 2, 1 + (M : Int)⟩ a0 a1 a2) wx)) := fun wx => op_any (c := ⟨1 + (K : Int), 4, 2, 1 + (M : Int)⟩) HMAY.out (by omega) (by omega) (by omega) wx
  rcases (by omega : a0 % 8 = 0 ∨ a0 % 8 = 1 ∨ a0 % 8 = 2 ∨ a0 % 8 = 3 ∨ a0 % 8 = 4 ∨ a0 % 8 = 5 ∨ a0 % 8 = 6 ∨ a0 % 8 = 7) with hr | hr | hr | hr | hr | hr | hr | hr
  · have HE : opM ⟨1 + (K : Int), 4, 2, 1 + (M : Int)⟩ a0 a1 a2 = ⟨1, 0, 0, 0, 0, []⟩ := by unfold opM; simp [hr]
    rw [HE] at HO
    clear HE
    go_upto_region 3 with (go_at_call 12; (with_reducible refine (HO.out _).mono ?_); rintro e w2 ⟨D, dn, dc, rfl, hd, hgd⟩; obtain rfl : dn = 0 := hd.sl.len.symm; have HGD := Lib.hid hgd; clear hd hgd)
    clear c0 c1 c2 c3
    have hop := Blk.new w2 31 [.int .i64 1, .int .i64 0, .int .i64 0, .int .i64 0, .int .i64 0, .slice D 0 dc]
    have hga : Grow w2 (w2.alloc (.cells #[.int .i64 1, .int .i64 0, .int .i64 0, .int .i64 0, .int .i64 0, .slice D 0 dc] 31)) := (Kept.refl _ _).alloc _
    generalize w2.alloc (.cells #[.int .i64 1, .int .i64 0, .int .i64 0, .int .i64 0, .int .i64 0, .slice D 0 dc] 31) = w3 at hop hga ⊢
    have x0 := hop.cell 0
    have x1 := hop.cell 1
    have x2 := hop.cell 2
    have x3 := hop.cell 3
    have x4 := hop.cell 4
    have x5 := hop.cell 5
    simp only [List.getElem?_cons_zero, List.getElem?_cons_succ] at x0 x1 x2 x3 x4 x5
    have HGA := Lib.hid hga
    clear hop hga HO HMAY
    generalize w2.heap.size = q at *
    go_wp2_with (go_at_call 7; (with_reducible refine (CT.out _).mono ?_); rintro e wt ⟨rfl, hgt⟩; have HGT := Lib.hid hgt; replace x0 := hgt.cellN x0 id; replace x1 := hgt.cellN x1 id; replace x2 := hgt.cellN x2 id; replace x3 := hgt.cellN x3 id; replace x4 := hgt.cellN x4 id; replace x5 := hgt.cellN x5 id; clear hgt)
    go_ret
    exact ⟨rfl, Grow.below (((HG0.out.trans HGD.out).trans HGA.out).trans HGT.out)⟩
  · have HE : opM ⟨1 + (K : Int), 4, 2, 1 + (M : Int)⟩ a0 a1 a2 = ⟨2, a1 % (1 + (K : Int) + 1), 0, 0, 0, []⟩ := by unfold opM; simp [hr]
    rw [HE] at HO
    clear HE
    go_upto_region 3 with (go_at_call 12; (with_reducible refine (HO.out _).mono ?_); rintro e w2 ⟨D, dn, dc, rfl, hd, hgd⟩; obtain rfl : dn = 0 := hd.sl.len.symm; have HGD := Lib.hid hgd; clear hd hgd)
    clear c0 c1 c2 c3
    have hop := Blk.new w2 31 [.int .i64 2, .int .i64 (a1 % (1 + (K : Int) + 1)), .int .i64 0, .int .i64 0, .int .i64 0, .slice D 0 dc]
    have hga : Grow w2 (w2.alloc (.cells #[.int .i64 2, .int .i64 (a1 % (1 + (K : Int) + 1)), .int .i64 0, .int .i64 0, .int .i64 0, .slice D 0 dc] 31)) := (Kept.refl _ _).alloc _
    generalize w2.alloc (.cells #[.int .i64 2, .int .i64 (a1 % (1 + (K : Int) + 1)), .int .i64 0, .int .i64 0, .int .i64 0, .slice D 0 dc] 31) = w3 at hop hga ⊢
    have x0 := hop.cell 0
    have x1 := hop.cell 1
    have x2 := hop.cell 2
    have x3 := hop.cell 3
    have x4 := hop.cell 4
    have x5 := hop.cell 5
    simp only [List.getElem?_cons_zero, List.getElem?_cons_succ] at x0 x1 x2 x3 x4 x5
    have HGA := Lib.hid hga
    clear hop hga HO HMAY
    generalize w2.heap.size = q at *
    go_wp2_with (go_at_call 7; (with_reducible refine (CT.out _).mono ?_); rintro e wt ⟨rfl, hgt⟩; have HGT := Lib.hid hgt; replace x0 := hgt.cellN x0 id; replace x1 := hgt.cellN x1 id; replace x2 := hgt.cellN x2 id; replace x3 := hgt.cellN x3 id; replace x4 := hgt.cellN x4 id; replace x5 := hgt.cellN x5 id; clear hgt)
    go_ret
    exact ⟨rfl, Grow.below (((HG0.out.trans HGD.out).trans HGA.out).trans HGT.out)⟩
  · have HE : opM ⟨1 + (K : Int), 4, 2, 1 + (M : Int)⟩ a0 a1 a2 = ⟨3, 0, a1 % 7, a2 % 16, a2 / 16, []⟩ := by unfold opM; simp [hr]
    rw [HE] at HO
    clear HE
    go_upto_region 3 with (go_at_call 12; (with_reducible refine (HO.out _).mono ?_); rintro e w2 ⟨D, dn, dc, rfl, hd, hgd⟩; obtain rfl : dn = 0 := hd.sl.len.symm; have HGD := Lib.hid hgd; clear hd hgd)
    clear c0 c1 c2 c3
    have hop := Blk.new w2 31 [.int .i64 3, .int .i64 0, .int .i64 (a1 % 7), .int .i64 (a2 % 16), .int .i64 (a2 / 16), .slice D 0 dc]
    have hga : Grow w2 (w2.alloc (.cells #[.int .i64 3, .int .i64 0, .int .i64 (a1 % 7), .int .i64 (a2 % 16), .int .i64 (a2 / 16), .slice D 0 dc] 31)) := (Kept.refl _ _).alloc _
    generalize w2.alloc (.cells #[.int .i64 3, .int .i64 0, .int .i64 (a1 % 7), .int .i64 (a2 % 16), .int .i64 (a2 / 16), .slice D 0 dc] 31) = w3 at hop hga ⊢
    have x0 := hop.cell 0
    have x1 := hop.cell 1
    have x2 := hop.cell 2
    have x3 := hop.cell 3
    have x4 := hop.cell 4
    have x5 := hop.cell 5
    simp only [List.getElem?_cons_zero, List.getElem?_cons_succ] at x0 x1 x2 x3 x4 x5
    have HGA := Lib.hid hga
    clear hop hga HO HMAY
    generalize w2.heap.size = q at *
    go_wp2_with (go_at_call 7; (with_reducible refine (CT.out _).mono ?_); rintro e wt ⟨rfl, hgt⟩; have HGT := Lib.hid hgt; replace x0 := hgt.cellN x0 id; replace x1 := hgt.cellN x1 id; replace x2 := hgt.cellN x2 id; replace x3 := hgt.cellN x3 id; replace x4 := hgt.cellN x4 id; replace x5 := hgt.cellN x5 id; clear hgt)
    go_ret
    exact ⟨rfl, Grow.below (((HG0.out.trans HGD.out).trans HGA.out).trans HGT.out)⟩
  · have HE : opM ⟨1 + (K : Int), 4, 2, 1 + (M : Int)⟩ a0 a1 a2 = ⟨4, 0, a1 % 7, a2 % 16, 0, List.replicate (a2 / 16).toNat a1⟩ := by unfold opM; simp [hr]
    rw [HE] at HO
    clear HE
    go_upto_region 3 with (go_at_call 12; (with_reducible refine (HO.out _).mono ?_); rintro e w2 ⟨D, dn, dc, rfl, hd, hgd⟩; have HGD := Lib.hid hgd; clear hd hgd)
    clear c0 c1 c2 c3
    have hop := Blk.new w2 31 [.int .i64 4, .int .i64 0, .int .i64 (a1 % 7), .int .i64 (a2 % 16), .int .i64 0, .slice D dn dc]
    have hga : Grow w2 (w2.alloc (.cells #[.int .i64 4, .int .i64 0, .int .i64 (a1 % 7), .int .i64 (a2 % 16), .int .i64 0, .slice D dn dc] 31)) := (Kept.refl _ _).alloc _
    generalize w2.alloc (.cells #[.int .i64 4, .int .i64 0, .int .i64 (a1 % 7), .int .i64 (a2 % 16), .int .i64 0, .slice D dn dc] 31) = w3 at hop hga ⊢
    have x0 := hop.cell 0
    have x1 := hop.cell 1
    have x2 := hop.cell 2
    have x3 := hop.cell 3
    have x4 := hop.cell 4
    have x5 := hop.cell 5
    simp only [List.getElem?_cons_zero, List.getElem?_cons_succ] at x0 x1 x2 x3 x4 x5
    have HGA := Lib.hid hga
    clear hop hga HO HMAY
    generalize w2.heap.size = q at *
    go_wp2_with (go_at_call 7; (with_reducible refine (CT.out _).mono ?_); rintro e wt ⟨rfl, hgt⟩; have HGT := Lib.hid hgt; replace x0 := hgt.cellN x0 id; replace x1 := hgt.cellN x1 id; replace x2 := hgt.cellN x2 id; replace x3 := hgt.cellN x3 id; replace x4 := hgt.cellN x4 id; replace x5 := hgt.cellN x5 id; clear hgt)
    go_ret
    exact ⟨rfl, Grow.below (((HG0.out.trans HGD.out).trans HGA.out).trans HGT.out)⟩
  · have HE : opM ⟨1 + (K : Int), 4, 2, 1 + (M : Int)⟩ a0 a1 a2 = ⟨5, 0, a1 % 7, 0, 0, []⟩ := by unfold opM; simp [hr]
    rw [HE] at HO
    clear HE
    go_upto_region 3 with (go_at_call 12; (with_reducible refine (HO.out _).mono ?_); rintro e w2 ⟨D, dn, dc, rfl, hd, hgd⟩; obtain rfl : dn = 0 := hd.sl.len.symm; have HGD := Lib.hid hgd; clear hd hgd)
    clear c0 c1 c2 c3
    have hop := Blk.new w2 31 [.int .i64 5, .int .i64 0, .int .i64 (a1 % 7), .int .i64 0, .int .i64 0, .slice D 0 dc]
    have hga : Grow w2 (w2.alloc (.cells #[.int .i64 5, .int .i64 0, .int .i64 (a1 % 7), .int .i64 0, .int .i64 0, .slice D 0 dc] 31)) := (Kept.refl _ _).alloc _
    generalize w2.alloc (.cells #[.int .i64 5, .int .i64 0, .int .i64 (a1 % 7), .int .i64 0, .int .i64 0, .slice D 0 dc] 31) = w3 at hop hga ⊢
    have x0 := hop.cell 0
    have x1 := hop.cell 1
    have x2 := hop.cell 2
    have x3 := hop.cell 3
    have x4 := hop.cell 4
    have x5 := hop.cell 5
    simp only [List.getElem?_cons_zero, List.getElem?_cons_succ] at x0 x1 x2 x3 x4 x5
    have HGA := Lib.hid hga
    clear hop hga HO HMAY
    generalize w2.heap.size = q at *
    go_wp2_with (go_at_call 7; (with_reducible refine (CT.out _).mono ?_); rintro e wt ⟨rfl, hgt⟩; have HGT := Lib.hid hgt; replace x0 := hgt.cellN x0 id; replace x1 := hgt.cellN x1 id; replace x2 := hgt.cellN x2 id; replace x3 := hgt.cellN x3 id; replace x4 := hgt.cellN x4 id; replace x5 := hgt.cellN x5 id; clear hgt)
    go_ret
    exact ⟨rfl, Grow.below (((HG0.out.trans HGD.out).trans HGA.out).trans HGT.out)⟩
  · have HE : opM ⟨1 + (K : Int), 4, 2, 1 + (M : Int)⟩ a0 a1 a2 = ⟨6, a1 % (1 + (K : Int) + 1), 0, 0, 0, []⟩ := by unfold opM; simp [hr]
    rw [HE] at HO
    clear HE
    go_upto_region 3 with (go_at_call 12; (with_reducible refine (HO.out _).mono ?_); rintro e w2 ⟨D, dn, dc, rfl, hd, hgd⟩; obtain rfl : dn = 0 := hd.sl.len.symm; have HGD := Lib.hid hgd; clear hd hgd)
    clear c0 c1 c2 c3
    have hop := Blk.new w2 31 [.int .i64 6, .int .i64 (a1 % (1 + (K : Int) + 1)), .int .i64 0, .int .i64 0, .int .i64 0, .slice D 0 dc]
    have hga : Grow w2 (w2.alloc (.cells #[.int .i64 6, .int .i64 (a1 % (1 + (K : Int) + 1)), .int .i64 0, .int .i64 0, .int .i64 0, .slice D 0 dc] 31)) := (Kept.refl _ _).alloc _
    generalize w2.alloc (.cells #[.int .i64 6, .int .i64 (a1 % (1 + (K : Int) + 1)), .int .i64 0, .int .i64 0, .int .i64 0, .slice D 0 dc] 31) = w3 at hop hga ⊢
    have x0 := hop.cell 0
    have x1 := hop.cell 1
    have x2 := hop.cell 2
    have x3 := hop.cell 3
    have x4 := hop.cell 4
    have x5 := hop.cell 5
    simp only [List.getElem?_cons_zero, List.getElem?_cons_succ] at x0 x1 x2 x3 x4 x5
    have HGA := Lib.hid hga
    clear hop hga HO HMAY
    generalize w2.heap.size = q at *
    go_wp2_with (go_at_call 7; (with_reducible refine (CT.out _).mono ?_); rintro e wt ⟨rfl, hgt⟩; have HGT := Lib.hid hgt; replace x0 := hgt.cellN x0 id; replace x1 := hgt.cellN x1 id; replace x2 := hgt.cellN x2 id; replace x3 := hgt.cellN x3 id; replace x4 := hgt.cellN x4 id; replace x5 := hgt.cellN x5 id; clear hgt)
    go_ret
    exact ⟨rfl, Grow.below (((HG0.out.trans HGD.out).trans HGA.out).trans HGT.out)⟩
  · have HE : opM ⟨1 + (K : Int), 4, 2, 1 + (M : Int)⟩ a0 a1 a2 = ⟨7, 0, 0, 0, 0, []⟩ := by unfold opM; simp [hr]
    rw [HE] at HO
    clear HE
    go_upto_region 3 with (go_at_call 12; (with_reducible refine (HO.out _).mono ?_); rintro e w2 ⟨D, dn, dc, rfl, hd, hgd⟩; obtain rfl : dn = 0 := hd.sl.len.symm; have HGD := Lib.hid hgd; clear hd hgd)
    clear c0 c1 c2 c3
    have hop := Blk.new w2 31 [.int .i64 7, .int .i64 0, .int .i64 0, .int .i64 0, .int .i64 0, .slice D 0 dc]
    have hga : Grow w2 (w2.alloc (.cells #[.int .i64 7, .int .i64 0, .int .i64 0, .int .i64 0, .int .i64 0, .slice D 0 dc] 31)) := (Kept.refl _ _).alloc _
    generalize w2.alloc (.cells #[.int .i64 7, .int .i64 0, .int .i64 0, .int .i64 0, .int .i64 0, .slice D 0 dc] 31) = w3 at hop hga ⊢
    have x0 := hop.cell 0
    have x1 := hop.cell 1
    have x2 := hop.cell 2
    have x3 := hop.cell 3
    have x4 := hop.cell 4
    have x5 := hop.cell 5
    simp only [List.getElem?_cons_zero, List.getElem?_cons_succ] at x0 x1 x2 x3 x4 x5
    have HGA := Lib.hid hga
    clear hop hga HO HMAY
    generalize w2.heap.size = q at *
    go_wp2_with (go_at_call 7; (with_reducible refine (CT.out _).mono ?_); rintro e wt ⟨rfl, hgt⟩; have HGT := Lib.hid hgt; replace x0 := hgt.cellN x0 id; replace x1 := hgt.cellN x1 id; replace x2 := hgt.cellN x2 id; replace x3 := hgt.cellN x3 id; replace x4 := hgt.cellN x4 id; replace x5 := hgt.cellN x5 id; clear hgt)
    go_ret
    exact ⟨rfl, Grow.below (((HG0.out.trans HGD.out).trans HGA.out).trans HGT.out)⟩
  · have HE : opM ⟨1 + (K : Int), 4, 2, 1 + (M : Int)⟩ a0 a1 a2 = ⟨8, a1 % (1 + (K : Int) + 1), 0, 0, 0, []⟩ := by unfold opM; simp [hr]
    rw [HE] at HO
    clear HE
    go_upto_region 3 with (go_at_call 12; (with_reducible refine (HO.out _).mono ?_); rintro e w2 ⟨D, dn, dc, rfl, hd, hgd⟩; obtain rfl : dn = 0 := hd.sl.len.symm; have HGD := Lib.hid hgd; clear hd hgd)
    clear c0 c1 c2 c3
    have hop := Blk.new w2 31 [.int .i64 8, .int .i64 (a1 % (1 + (K : Int) + 1)), .int .i64 0, .int .i64 0, .int .i64 0, .slice D 0 dc]
    have hga : Grow w2 (w2.alloc (.cells #[.int .i64 8, .int .i64 (a1 % (1 + (K : Int) + 1)), .int .i64 0, .int .i64 0, .int .i64 0, .slice D 0 dc] 31)) := (Kept.refl _ _).alloc _
    generalize w2.alloc (.cells #[.int .i64 8, .int .i64 (a1 % (1 + (K : Int) + 1)), .int .i64 0, .int .i64 0, .int .i64 0, .slice D 0 dc] 31) = w3 at hop hga ⊢
    have x0 := hop.cell 0
    have x1 := hop.cell 1
    have x2 := hop.cell 2
    have x3 := hop.cell 3
    have x4 := hop.cell 4
    have x5 := hop.cell 5
    simp only [List.getElem?_cons_zero, List.getElem?_cons_succ] at x0 x1 x2 x3 x4 x5
    have HGA := Lib.hid hga
    clear hop hga HO HMAY
    generalize w2.heap.size = q at *
    go_wp2_with (go_at_call 7; (with_reducible refine (CT.out _).mono ?_); rintro e wt ⟨rfl, hgt⟩; have HGT := Lib.hid hgt; replace x0 := hgt.cellN x0 id; replace x1 := hgt.cellN x1 id; replace x2 := hgt.cellN x2 id; replace x3 := hgt.cellN x3 id; replace x4 := hgt.cellN x4 id; replace x5 := hgt.cellN x5 id; clear hgt)
    go_ret
    exact ⟨rfl, Grow.below (((HG0.out.trans HGD.out).trans HGA.out).trans HGT.out)⟩

set_option maxRecDepth 100000 in
theorem lifted (os : Os) (started : os.Started) (H : Type) (enc : TypeId × Value → H) :
    ReturnsInHanded {} Try.checked os 6 .any (Rows.scriptOpsSpec.pre6 enc Try.prog Try.f6 Rows.scriptOpsRow.domain false) (Rows.scriptOpsSpec.post enc Try.prog Try.f6 false true false false) := by
  refine returnsInHanded_of_change (C := Try.checked) own started (by kernel_rfl) Try.func6
    (ChangeSpec.witness6 (enc := enc) (C := Try.checked) false ⟨#[], #[.int .u8 0, .int .u8 0, .int .u8 0, .int .i64 0, .int .i64 0], []⟩ 8 (by kernel_rfl) (by kernel_rfl) (by kernel_rfl) (by kernel_rfl)) ?_
  intro W base args ds gs before hval0 hW hcnd _
  have hval : ∀ (j : Nat) t v, Try.f6.params[j]? = some t → args[j]? = some v → Value.okWide Try.prog W .any base t v := hval0
  have hW' := hW
  obtain ⟨p, q, hA0, hV, rfl, hfz, hnd⟩ := hW
  have hA : DataW.TrodAll enc Try.prog W 0 (fun _ => true) true Try.f6.params.toList args.toList ds p := hA0
  rw [Try.params6] at hA hval
  obtain ⟨v0, vs0, d0, ds0, p0, q0, hargs, rfl, rfl, h0, r0⟩ := trodAll_cons hA
  obtain ⟨v1, vs1, d1, ds1, p1, q1, rfl, rfl, rfl, h1, r1⟩ := trodAll_cons r0
  obtain ⟨v2, vs2, d2, ds2, p2, q2, rfl, rfl, rfl, h2, r2⟩ := trodAll_cons r1
  obtain ⟨v3, vs3, d3, ds3, p3, q3, rfl, rfl, rfl, h3, r3⟩ := trodAll_cons r2
  obtain ⟨v4, vs4, d4, ds4, p4, q4, rfl, rfl, rfl, h4, r4⟩ := trodAll_cons r3
  obtain ⟨rfl, rfl, rfl⟩ := trodAll_nil r4
  obtain rfl : args = #[v0, v1, v2, v3, v4] := by cases args; simp_all
  obtain ⟨rfl, rfl⟩ := trodVars_none hV
  obtain ⟨a0, rfl, rfl, rfl, w0⟩ := open_int Try.underlying5 (hval 0 5 v0 rfl rfl) h0
  obtain ⟨a1, rfl, rfl, rfl, w1⟩ := open_int Try.underlying5 (hval 1 5 v1 rfl rfl) h1
  obtain ⟨a2, rfl, rfl, rfl, w2⟩ := open_int Try.underlying5 (hval 2 5 v2 rfl rfl) h2
  obtain ⟨a3, rfl, rfl, rfl, w3⟩ := open_int Try.underlying3 (hval 3 3 v3 rfl rfl) h3
  obtain ⟨a4, rfl, rfl, rfl, w4⟩ := open_int Try.underlying3 (hval 4 3 v4 rfl rfl) h4
  clear hA0 hval0
  refine (walk a0 a1 a2 a3 a4 W w0 w1 w2 w3 w4).mono fun e W' ⟨he, bel⟩ => ?_
  subst he
  exact ⟨_, rfl, _, _, _, [], _, [], hW', trodAll_mk1 (shut_bool Try.underlying4 _), (trodAll_cons_mk (shut_int Try.underlying5 w0) (trodAll_cons_mk (shut_int Try.underlying5 w1) (trodAll_cons_mk (shut_int Try.underlying5 w2) (trodAll_cons_mk (shut_int Try.underlying3 w3) (trodAll_cons_mk (shut_int Try.underlying3 w4) trodAll_mk0))))), rfl, bel.frame _, fun h => by cases h⟩

theorem over : Rows.scriptOpsRow.holds Try.pinned (OpenSpec.ofChange Rows.scriptOpsSpec) :=
  OpenClaim.holds_of_wide 6 Try.f6 rfl rfl rfl rfl rfl rfl rfl ⟨rfl, rfl, rfl, rfl, rfl⟩ rfl rfl rfl rfl rfl (by kernel_rfl) Try.func6 (by kernel_rfl)
    (of_decide_eq_true (by kernel_rfl)) (by unfold Func.isWrapper; first | (rw [if_pos (by decide +kernel)]; kernel_rfl) | (rw [if_neg (by decide +kernel)]; exact ⟨rfl, rfl⟩))
    (fun os started H enc _ => lifted os started H enc)

/-- ████ THE STATEMENT ████ -/
theorem proved : Rows.ScriptOpsSaid := over
#print axioms proved
end Go.Proofs.Ytigcjcgdakoonaa.scriptOps
