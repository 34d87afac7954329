/-
  Package script's Op and the document's, of any pool at all.
-/
import Derived.Test.YtigcjcgdakoonaaScOp
namespace Go.Proofs.Ytigcjcgdakoonaa.ScQ
open Go.ChangeShapes Go.WideShapes Go.ChangeAt Go.RowKit
open Go.Proofs.Ytigcjcgdakoonaa.Mem Go.Proofs.Ytigcjcgdakoonaa.Blk Go.Proofs.Ytigcjcgdakoonaa.Cells Go.Proofs.Ytigcjcgdakoonaa.MdM Go.Proofs.Ytigcjcgdakoonaa.ScM Go.Proofs.Ytigcjcgdakoonaa.ScC Go.Proofs.Ytigcjcgdakoonaa.ScO Go.Proofs.Ytigcjcgdakoonaa.Stages

theorem opQ_bytes {c : Cf} {a b d : Int} (h : 0 ≤ b ∧ b < 256) : Bytes (opQ c a b d).d := by
  unfold opQ
  split
  · exact opM_bytes h
  · exact fun _ h => by cases h
set_option maxHeartbeats 4000000 in
theorem op_no {c : Cf} (hc : ¬ c.may) (a b d : Int) (w : World) : Calls Try.prog 12 #[.int .u8 a, .int .u8 b, .int .u8 d, cfv c] w (OpP zop w) := by
  have CM : Hid (∀ wx, Calls Try.prog 15 #[cfv c] wx (Tells c.may wx)) := fun wx => may_any c wx
  have HC := Lib.hid hc
  clear hc
  obtain ⟨cp, cf, cs, cc⟩ := c
  unfold cfv at CM ⊢
  dsimp only at CM ⊢
  go_enter Try.func12, Try.ntmps12
  go_upto_region 1 with (fail)
  obtain ⟨w0, hw0, hb7, hb8, hg0⟩ := two_new w cp cf cs cc
  have HB8 := Lib.hid hb8
  have HG0 := Lib.hid hg0
  have s0 := hb7.cell 0
  have s1 := hb7.cell 1
  have s2 := hb7.cell 2
  have s3 := hb7.cell 3
  simp only [List.getElem?_cons_zero, List.getElem?_cons_succ] at s0 s1 s2 s3
  clear hb7 hb8 hg0
  rw [hw0]
  clear hw0
  obtain ⟨g, hgg⟩ : ∃ g, g = w.heap.size := ⟨_, rfl⟩
  rw [← hgg] at s0 s1 s2 s3 HB8 ⊢
  have HGE : Hid (w.heap.size ≤ g) := Nat.le_of_eq hgg.symm
  clear hgg
  go_upto_region 2 with (go_at_call 15; (with_reducible refine (CM.out _).mono ?_); rintro e wm ⟨⟨bm, rfl, hbm⟩, hgm⟩; obtain rfl : bm = false := (by cases bm with | false => rfl | true => exact absurd (hbm.1 rfl) HC.out); have HGM := Lib.hid hgm; clear hbm hgm)
  have q8 := HB8.out.grow HGM.out
  clear s0 s1 s2 s3
  go_wp2_with (refine wpList_store_row rfl 31 _ _ rfl (g + 1) #[.int .i64 0, .int .i64 0, .int .i64 0, .int .i64 0, .int .i64 0, .slice none 0 0] rfl rfl _ _ q8 op_size rfl (by simp [Value.oneCell']) ?_)
  refine ret_op (g := g + 1) rfl rfl (set_row q8 _).1 rfl ?_
  exact op_fin (o := zop) rfl rfl HGE.out (HG0.out.trans HGM.out) q8 (Dat.nil _ _ _)
set_option maxHeartbeats 4000000 in
theorem rop_no {c : Cf} (hc : ¬ c.may) (a b d : Int) (w : World) : Calls Try.prog 13 #[.int .u8 a, .int .u8 b, .int .u8 d, cfv c] w (OpP zop w) := by
  have CM : Hid (∀ wx, Calls Try.prog 14 #[cfv c] wx (Tells c.may wx)) := fun wx => rmay_any c wx
  have HC := Lib.hid hc
  clear hc
  obtain ⟨cp, cf, cs, cc⟩ := c
  unfold cfv at CM ⊢
  dsimp only at CM ⊢
  go_enter Try.func13, Try.ntmps13
  go_upto_region 1 with (fail)
  obtain ⟨w0, hw0, hb7, hb8, hg0⟩ := two_new w cp cf cs cc
  have HB8 := Lib.hid hb8
  have HG0 := Lib.hid hg0
  have s0 := hb7.cell 0
  have s1 := hb7.cell 1
  have s2 := hb7.cell 2
  have s3 := hb7.cell 3
  simp only [List.getElem?_cons_zero, List.getElem?_cons_succ] at s0 s1 s2 s3
  clear hb7 hb8 hg0
  rw [hw0]
  clear hw0
  obtain ⟨g, hgg⟩ : ∃ g, g = w.heap.size := ⟨_, rfl⟩
  rw [← hgg] at s0 s1 s2 s3 HB8 ⊢
  have HGE : Hid (w.heap.size ≤ g) := Nat.le_of_eq hgg.symm
  clear hgg
  go_upto_region 2 with (go_at_call 14; (with_reducible refine (CM.out _).mono ?_); rintro e wm ⟨⟨bm, rfl, hbm⟩, hgm⟩; obtain rfl : bm = false := (by cases bm with | false => rfl | true => exact absurd (hbm.1 rfl) HC.out); have HGM := Lib.hid hgm; clear hbm hgm)
  have q8 := HB8.out.grow HGM.out
  clear s0 s1 s2 s3
  go_wp2_with (refine wpList_store_row rfl 31 _ _ rfl (g + 1) #[.int .i64 0, .int .i64 0, .int .i64 0, .int .i64 0, .int .i64 0, .slice none 0 0] rfl rfl _ _ q8 op_size rfl (by simp [Value.oneCell']) ?_)
  refine ret_op (g := g + 1) rfl rfl (set_row q8 _).1 rfl ?_
  exact op_fin (o := zop) rfl rfl HGE.out (HG0.out.trans HGM.out) q8 (Dat.nil _ _ _)
theorem opQ_any (c : Cf) {a b d : Int} (ha : 0 ≤ a ∧ a < 256) (hb : 0 ≤ b ∧ b < 256) (hd : 0 ≤ d ∧ d < 256) (w : World) : Calls Try.prog 12 #[.int .u8 a, .int .u8 b, .int .u8 d, cfv c] w (OpP (opQ c a b d) w) := by
  unfold opQ
  split
  · rename_i h; exact op_any h ha hb hd w
  · rename_i h; exact op_no h a b d w
theorem ropQ_any (c : Cf) {a b d : Int} (ha : 0 ≤ a ∧ a < 256) (hb : 0 ≤ b ∧ b < 256) (hd : 0 ≤ d ∧ d < 256) (w : World) : Calls Try.prog 13 #[.int .u8 a, .int .u8 b, .int .u8 d, cfv c] w (OpP (opQ c a b d) w) := by
  unfold opQ
  split
  · rename_i h; exact rop_any h ha hb hd w
  · rename_i h; exact rop_no h a b d w
end Go.Proofs.Ytigcjcgdakoonaa.ScQ
