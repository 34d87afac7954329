/-
  The helpers of the statements of layer 2: the few answers asked for first (told), a body of one byte again and again with another one at a place (fill).
-/
import Derived.Test.YtmdafgonnkppoaaPageRef
namespace Go.Proofs.Ytmdafgonnkppoaa.Told2
open Go.ChangeShapes Go.WideShapes Go.ChangeAt Go.RowKit
open Go.Proofs.Ytmdafgonnkppoaa.SumM Go.Proofs.Ytmdafgonnkppoaa.Mem Go.Proofs.Ytmdafgonnkppoaa.SumC Go.Proofs.Ytmdafgonnkppoaa.Blk Go.Proofs.Ytmdafgonnkppoaa.PageM Go.Proofs.Ytmdafgonnkppoaa.PageC Go.Proofs.Ytmdafgonnkppoaa.PageR

def fillL (c : Int) (K : Nat) (d : Int) : List Int := (List.replicate 16 c).set K d
theorem fillL_len (c : Int) (K : Nat) (d : Int) : (fillL c K d).length = 16 := by simp [fillL]
theorem fillL_bytes {c d : Int} (K : Nat) (hc : U8 c) (hd : U8 d) : Bytes (fillL c K d) := fun x hx => by
  rcases List.mem_or_eq_of_mem_set hx with h | h
  · rw [List.eq_of_mem_replicate h]; exact hc
  · rw [h]; exact hd
def mixL (c : Int) (j : Nat) : List Int := List.replicate j c ++ List.replicate (16 - j) 0
theorem mixL_len (c : Int) (j : Nat) (h : j ≤ 16) : (mixL c j).length = 16 := by simp [mixL]; omega
theorem mixL_set (c : Int) (j : Nat) (h : j < 16) : (mixL c j).set j c = mixL c (j + 1) := by
  unfold mixL
  rw [List.set_append_right _ _ (by simp), List.length_replicate, Nat.sub_self, show 16 - j = (16 - (j + 1)) + 1 by omega, List.replicate_succ, List.set_cons_zero, List.replicate_succ', List.append_assoc]
  rfl

set_option maxHeartbeats 1000000 in
theorem fill_any (c at_ d : Int) (K : Nat) (w : World) (hc : U8 c) (hd : U8 d) (hK : (IntKind.u64.wrap at_).tmod 16 = (K : Int)) (hK16 : K < 16) :
    Calls Try.prog 15 #[.int .u8 c, .int .i64 at_, .int .u8 d] w (FreshBytes w 16 (fillL c K d)) := by
  have hmk := fun w => run_make_row' (P := Try.prog) 22 5 (.int .u8 0) 1 Try.underlying22 infoU8 rfl .i64 .i64 16 (by omega) (by omega) w
  simp only [Int.cast_ofNat_Int] at hmk
  have hK' : (K : Int) < 16 := by omega
  go_enter Try.func15, Try.ntmps15
  go_wp2
  go_loopg [8] 16 (fun g i wr => ∃ j : Nat, j + g = 16 ∧ i = .int .i64 (j : Int) ∧ NBlk wr w.heap.size 5 .u8 (mixL c j) ∧ Grow w wr)
  case atStart => exact ⟨0, rfl, rfl, NBlk.made w _ _ 16, (Kept.refl _ _).alloc _⟩
  case round =>
    obtain ⟨j, hg, rfl, hb, hgr⟩ := hrel
    have HB := Lib.hid hb
    have HGR := Lib.hid hgr
    by_cases hj : j < 16
    · have hcl := NBlk.at_ hb (j := j) (by rw [mixL_len c j (by omega)]; omega)
      have hf := Blk.frozen hb j
      have HG := Lib.hid hg
      clear hb hgr hg
      go_wp2
      go_roundg (gk - 1)
      case measure => have := HG.out; omega
      case rel =>
        refine ⟨j + 1, by have := HG.out; omega, by go_num, ?_, HGR.out.setCell (fun h => absurd h (by show ¬ w.heap.size < _; omega)) _⟩
        have := NBlk.set HB.out j c
        rwa [mixL_set c j hj] at this
    · obtain rfl : j = 16 := by omega
      have hcl := NBlk.at_ hb (j := K) (by rw [mixL_len c 16 (by omega)]; omega)
      have hf := Blk.frozen hb K
      clear hb hgr hg
      go_wp2
      go_ret
      refine ⟨w.heap.size, rfl, Nat.le_refl _, ?_, HGR.out.setCell (fun h => absurd h (by show ¬ w.heap.size < _; omega)) _⟩
      exact NBlk.set HB.out K d

set_option maxHeartbeats 1000000 in
theorem told_any (w : World) : Calls Try.prog 8 #[] w fun e w' => e = .returned (.bool true) ∧ Grow w w' := by
  have hmk := fun w => run_make_row' (P := Try.prog) 22 5 (.int .u8 0) 1 Try.underlying22 infoU8 rfl .i64 .i64 16 (by omega) (by omega) w
  simp only [Int.cast_ofNat_Int] at hmk
  have hm := NBlk.made w 5 .u8 16
  have hgm : Grow w (w.alloc (.cells (madeCells #[Value.int .u8 0] 16) 5)) := (Kept.refl _ _).alloc _
  have hsz1 : w.heap.size + 1 ≤ (w.alloc (.cells (madeCells #[Value.int .u8 0] 16) 5)).heap.size := by rw [World.size_alloc]; exact Nat.le_refl _
  have HS := Lib.hid (seal_good 3 (some ⟨w.heap.size, 0, none⟩) 16 (w.heap.size + 1) (zeros 16) _ (by omega) (by omega) (zeros_bytes 16) (Sl.of_blk0 hm (zeros_len 16) (by omega)) hsz1)
  have HGM := Lib.hid hgm
  clear hm hgm
  have hs48 := fun w2 A cap => seal_bad 48 A 16 cap w2 (by omega) (by omega) (by unfold maxLen; omega) (by omega)
  have hs0 := fun w2 => seal_bad 0 none 0 0 w2 (by omega) (by omega) (by unfold maxLen; omega) (by omega)
  have HS48 := Lib.hid hs48
  have HS0 := Lib.hid hs0
  clear hs48 hs0
  go_enter Try.func8, Try.ntmps8
  go_upto_region 2 with (go_at_call 9; (with_reducible refine HS.out.mono ?_); rintro e w1 ⟨g, rfl, hg, hblk, hgr⟩; have HBLK := Lib.hid hblk; have HGR := Lib.hid hgr; clear hblk hgr)
  have hb1 := HBLK.out
  have hz1 : g < w1.heap.size := Blk.lt hb1
  have hl3 : (sealI 3 (zeros 16)).length = 24 := by rw [seal_len]; rfl
  have hbs : Bytes (sealI 3 (zeros 16)) := seal_bytes (by omega) (by omega) (zeros_bytes 16)
  have hs3 : Sl w1 w1.heap.size .u8 (some ⟨g, 0, none⟩) 24 (sealI 3 (zeros 16)) := Sl.of_blk0 hb1 hl3 hz1
  have HO3 := Lib.hid (open_is (open_good 3 (some ⟨g, 0, none⟩) 24 _ _ w1 (by omega) (by omega) hbs hs3 (Nat.le_refl _) (by omega) (by unfold maxLen; omega)) (openC_seal (by omega) (by omega) rfl) (openB_seal (by omega) (by omega) rfl) (zeros_len 16))
  have HGA : Hid (Grow w w1) := HGM.out.trans HGR.out
  clear hb1 hs3 HS HGM HGR
  go_upto_region 3 with (go_at_call 11; (with_reducible refine HO3.out.mono ?_); rintro e w2 ⟨g2, c2, rfl, hg2, hblk2, hgr2⟩; have HBLK2 := Lib.hid hblk2; have HGR2 := Lib.hid hgr2; clear hblk2 hgr2)
  have HB2 : Hid (NBlk w2 g 5 .u8 (sealI 3 (zeros 16))) := Blk.grow HBLK.out HGR2.out
  have hz2 : g < w2.heap.size := Blk.lt HB2.out
  have HO2 := Lib.hid (open_not (open_good 2 (some ⟨g, 0, none⟩) 24 _ _ w2 (by omega) (by omega) hbs (Sl.of_blk0 HB2.out hl3 hz2) (Nat.le_refl _) (by omega) (by unfold maxLen; omega)) (openC_other (a := 3) (by omega) (by omega) rfl (by omega)) (by omega))
  clear HO3
  go_upto_region 4 with (go_at_call 11; (with_reducible refine HO2.out.mono ?_); rintro e w3 ⟨rfl, hgr3⟩; have HGR3 := Lib.hid hgr3; clear hgr3)
  clear HO2
  go_wp2_with (go_at_call 13; (with_reducible refine (blank_any _).mono ?_); rintro e w4 ⟨g4, rfl, hg4, hblk4, hgr4⟩; have HBLK4 := Lib.hid hblk4; have HGR4 := Lib.hid hgr4; clear hblk4 hgr4)
  refine (open_not (open_good 0 (some ⟨g4, 0, none⟩) 24 _ _ w4 (by omega) (by omega) (zeros_bytes 24) (Sl.of_blk0 HBLK4.out (zeros_len 24) (Blk.lt HBLK4.out)) (Nat.le_refl _) (by omega) (by unfold maxLen; omega)) (openC_zeros (by omega) (by omega)) (by omega)).mono ?_
  rintro e w5 ⟨rfl, hgr5⟩
  have HGZ : Hid (Grow w w5) := (((HGA.out.trans HGR2.out).trans HGR3.out).trans HGR4.out).trans hgr5
  have HG6 : Hid (Grow w (w5.alloc (.cells (madeCells #[Value.int .u8 0] 16) 5))) := HGZ.out.alloc _
  have hb6 : NBlk (w5.alloc (.cells (madeCells #[Value.int .u8 0] 16) 5)) g 5 .u8 (sealI 3 (zeros 16)) := (((Blk.grow HB2.out HGR3.out).grow HGR4.out).grow hgr5).alloc _
  have c4 := NBlk.at_ hb6 (j := 4) (by rw [hl3]; omega)
  have c6 := NBlk.at_ hb6 (j := 6) (by rw [hl3]; omega)
  rw [seal_at4] at c4
  rw [seal_at6] at c6
  clear hb6 hgr5 hl3 hbs HB2 HBLK HBLK2 HBLK4 HGA HGR2 HGR3 HGR4
  go_wp2_with (first
    | (go_at_call 9; (with_reducible refine (HS48.out _ _ _).mono ?_); rintro e w' ⟨rfl, rfl⟩)
    | (go_at_call 9; (with_reducible refine (HS0.out _).mono ?_); rintro e w' ⟨rfl, rfl⟩))
  go_ret
  exact ⟨rfl, HG6.out⟩
end Go.Proofs.Ytmdafgonnkppoaa.Told2
