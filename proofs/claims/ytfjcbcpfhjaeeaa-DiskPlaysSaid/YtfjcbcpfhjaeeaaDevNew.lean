/-
  What disk.New computes (chapter 3).
-/
import Derived.Test.YtfjcbcpfhjaeeaaDevCrash
import Derived.RegionTactic
import Derived.Deep.CutRange
namespace Go.Proofs.Ytfjcbcpfhjaeeaa.DevN
open Go.ChangeShapes Go.WideShapes Go.ChangeAt Go.RowKit
open Go.Proofs.Ytfjcbcpfhjaeeaa.SumM Go.Proofs.Ytfjcbcpfhjaeeaa.Mem Go.Proofs.Ytfjcbcpfhjaeeaa.Blk Go.Proofs.Ytfjcbcpfhjaeeaa.PageM Go.Proofs.Ytfjcbcpfhjaeeaa.Str Go.Proofs.Ytfjcbcpfhjaeeaa.Dev Go.Proofs.Ytfjcbcpfhjaeeaa.LibC Go.Proofs.Ytfjcbcpfhjaeeaa.DevC Go.Proofs.Ytfjcbcpfhjaeeaa.Stages

section
variable {w : World}

theorem new_bad (p : Int) (h : ¬ (1 ≤ p ∧ p ≤ 48)) : Calls Try.prog 8 #[.int .i64 p] w fun e w' => e = .returned (.pointer none) ∧ w = w' := by
  by_cases h0 : p < 1
  · clear h
    go_enter Try.func8, Try.ntmps8
    go_wp2
    go_ret
    exact ⟨rfl, rfl⟩
  · have h1 : 48 < p := by omega
    clear h
    go_enter Try.func8, Try.ntmps8
    go_wp2
    go_ret
    exact ⟨rfl, rfl⟩

/-- What the blocks of a new device are. -/
structure NewAt (w wx : World) (d D W N : Nat) (dv : Nat → Value) : Prop where
  disk : Blk wx d 56 [.slice (some ⟨D, 0, none⟩) N N, .slice (some ⟨W, 0, none⟩) N N, .int .i64 0, .int .i64 0, .bool false]
  dur : Row wx D N dv
  wr : Row wx W N fun _ => .slice none 0 0
  ne : d ≠ D ∧ d ≠ W ∧ D ≠ W
  old : w.heap.size ≤ d ∧ w.heap.size ≤ D ∧ w.heap.size ≤ W
  grow : Grow w wx
/-- A new device, its first pages not blank yet. -/
def HalfNew (w : World) (N : Nat) (v : Value) (wx : World) : Prop := ∃ d D W, v = .pointer (some ⟨d, 0, none⟩) ∧ NewAt w wx d D W N fun _ => .slice none 0 0

theorem row_made (w : World) (n : Nat) : Row (w.alloc (.cells (madeCells #[Value.slice none 0 0] n) 28)) w.heap.size n fun _ => .slice none 0 0 :=
  ⟨_, _, heap_alloc_new w _, by simp [size_madeCells], fun i hi => by simp [madeCells, hi, Nat.mod_one]⟩

theorem new_half (w : World) (N D W : Nat) (h : (D = w.heap.size ∧ W = w.heap.size + 1) ∨ (D = w.heap.size + 1 ∧ W = w.heap.size)) :
    NewAt w ((((w.alloc (.cells (madeCells #[Value.slice none 0 0] N) 28)).alloc (.cells (madeCells #[Value.slice none 0 0] N) 28)).alloc (.cells #[.slice (some ⟨D, 0, none⟩) N N, .slice (some ⟨W, 0, none⟩) N N, .int .i64 0, .int .i64 0, .bool false] 56)).drew) (w.heap.size + 1 + 1) D W N fun _ => .slice none 0 0 := by
  have hb := Blk.new ((w.alloc (.cells (madeCells #[Value.slice none 0 0] N) 28)).alloc (.cells (madeCells #[Value.slice none 0 0] N) 28)) 56 [.slice (some ⟨D, 0, none⟩) N N, .slice (some ⟨W, 0, none⟩) N N, .int .i64 0, .int .i64 0, .bool false]
  have g1 : Grow (w.alloc (.cells (madeCells #[Value.slice none 0 0] N) 28)) ((w.alloc (.cells (madeCells #[Value.slice none 0 0] N) 28)).alloc (.cells (madeCells #[Value.slice none 0 0] N) 28)) := (Kept.refl _ _).alloc _
  have g2 : Grow ((w.alloc (.cells (madeCells #[Value.slice none 0 0] N) 28)).alloc (.cells (madeCells #[Value.slice none 0 0] N) 28)) ((((w.alloc (.cells (madeCells #[Value.slice none 0 0] N) 28)).alloc (.cells (madeCells #[Value.slice none 0 0] N) 28)).alloc (.cells #[.slice (some ⟨D, 0, none⟩) N N, .slice (some ⟨W, 0, none⟩) N N, .int .i64 0, .int .i64 0, .bool false] 56)).drew) := ((Kept.refl _ _).alloc _).drew
  have r0 := ((row_made w N).grow g1).grow g2
  have r1 := (row_made (w.alloc (.cells (madeCells #[Value.slice none 0 0] N) 28)) N).grow g2
  have e2 : ((w.alloc (.cells (madeCells #[Value.slice none 0 0] N) 28)).alloc (.cells (madeCells #[Value.slice none 0 0] N) 28)).heap.size = w.heap.size + 1 + 1 := by simp
  have e1 : (w.alloc (.cells (madeCells #[Value.slice none 0 0] N) 28)).heap.size = w.heap.size + 1 := by simp
  rw [e2] at hb
  rw [e1] at r1
  have hgr : Grow w ((((w.alloc (.cells (madeCells #[Value.slice none 0 0] N) 28)).alloc (.cells (madeCells #[Value.slice none 0 0] N) 28)).alloc (.cells #[.slice (some ⟨D, 0, none⟩) N N, .slice (some ⟨W, 0, none⟩) N N, .int .i64 0, .int .i64 0, .bool false] 56)).drew) := (((Kept.refl _ w).alloc _).trans g1).trans g2
  rcases h with ⟨rfl, rfl⟩ | ⟨rfl, rfl⟩
  · exact ⟨hb.drew, r0, r1, ⟨by omega, by omega, by omega⟩, ⟨by omega, by omega, by omega⟩, hgr⟩
  · exact ⟨hb.drew, r1, r0, ⟨by omega, by omega, by omega⟩, ⟨by omega, by omega, by omega⟩, hgr⟩

def newG (w : World) (d D W k : Nat) : Prop := k < w.heap.size ∨ Own d D W k
/-- What New tells of a number that may be. -/
def NewPost (w : World) (N : Nat) (e : Ending) (w' : World) : Prop :=
  ∃ d D W, e = .returned (.pointer (some ⟨d, 0, none⟩)) ∧ DevAt w' d D W (newG w d D W) (newS N) ∧ (w.heap.size ≤ d ∧ w.heap.size ≤ D ∧ w.heap.size ≤ W) ∧ Grow w w'

set_option maxHeartbeats 1000000 in
theorem new_good (N : Nat) (h1 : 1 ≤ N) (h48 : N ≤ 48) : Calls Try.prog 8 #[.int .i64 (N : Int)] w (NewPost w N) := by
  have hmk := fun w => run_make_row' (P := Try.prog) 42 28 (.slice none 0 0) 24 Try.underlying42 infoSl rfl .i64 .i64 N (by omega) (by omega) w
  have hz0 : ¬ ((N : Int) < 1) := by omega
  have hz1 : (N : Int) ≤ 48 := by omega
  go_enter Try.func8, Try.ntmps8
  go_upto_region 3 with (fail)
  go_cut [3] from 11 to 16 (fun v wx => HalfNew w N v wx)
  case first =>
    have HN1 := Lib.hid (new_half w N w.heap.size (w.heap.size + 1) (.inl ⟨rfl, rfl⟩))
    have HN2 := Lib.hid (new_half w N (w.heap.size + 1) w.heap.size (.inr ⟨rfl, rfl⟩))
    go_region
    · go_wp2_with fail
      go_meet
      exact ⟨_, _, _, rfl, HN1.out⟩
    · go_wp2_with fail
      go_meet
      exact ⟨_, _, _, rfl, HN2.out⟩
  case rest =>
    obtain ⟨d, D, W, rfl, hnew⟩ := hcut
    clear hmk
    have HW := Lib.hid hnew
    have hc0 : wc.cell? ⟨d, 0, none⟩ = some (.slice (some ⟨D, 0, none⟩) N N) := by rw [hnew.disk.cell]; rfl
    have hDl := hnew.dur.lt
    clear hnew
    go_wp2
    clear hc0
    go_loopg [22] N (fun g i wr => ∃ (j : Nat) (dv : Nat → Value), j + g = N ∧ i = .int .i64 (j : Int) ∧ NewAt w wr d D W N dv ∧ ∀ p, p < j → Img wr (newG w d D W) (dv p) (zeros 24))
    case atStart => exact ⟨0, _, by omega, rfl, HW.out, fun p hp => absurd hp (by omega)⟩
    case round =>
      obtain ⟨j, dv, hg, rfl, hnew, himg⟩ := hrel
      have HN := Lib.hid hnew
      have HI := Lib.hid himg
      have HG := Lib.hid hg
      by_cases hj : j < N
      · have hjz : (j : Int) < (N : Int) := by omega
        have c0 : wr.cell? ⟨d, 0, none⟩ = some (.slice (some ⟨D, 0, none⟩) N N) := by rw [hnew.disk.cell]; rfl
        have q0 := up_cell (F := (· = D)) (w := wr.drew) c0 hnew.ne.1
        clear hnew himg hg c0
        go_upto_region 7 with (fail)
        refine wp_region_stages (Kept (· = D)) (kept_refl _) (kept_trans _) [([0, 1, 2, 3, 4], 5), ([6], 7)] [] (by kernel_rfl) (by kernel_rfl) ?_
        simp only [selSt, sel, List.map_cons, List.map_nil, List.getD_cons_succ, List.getD_cons_zero]
        refine st_cons fun K1 hK1 => ?_
        repeat (go_big_quiet_step (fail))
        refine wpQuiet_nil ?_
        clear q0
        go_wp2_with (go_at_call 28; (with_reducible refine (blank_any _).mono ?_); rintro e w2 ⟨g, rfl, hg, hblk, hgr⟩; have HGG := Lib.hid hg; have HB := Lib.hid hblk; have HGR := Lib.hid hgr; clear hg hblk hgr)
        refine norm_up (hK1 _ _ HGR.out.kept ?_)
        clear hK1 K1
        have hG2 : Grow wr w2 := (Kept.drew' wr).trans HGR.out
        have hd2 := (HN.out.dur.grow hG2)
        have r2 := hd2.cell (i := j) hj
        have f2 := hd2.frozen j
        have HIM : Hid (Img w2 (newG w d D W) (.slice (some ⟨g, 0, none⟩) 24 24) (zeros 24)) := by
          refine Img.of_row (Row.of_blk HB.out (by simp [zeros_len]) (fun i hi => ?_)) (zeros_len 24) (zeros_bytes 24) (Nat.le_refl _) (by unfold maxLen; omega) (fun x => ?_)
          · have hi' : i < (zeros 24).length := by rw [zeros_len]; exact hi
            simp [List.getD, List.getElem?_eq_getElem hi']
          · have h1 := HGG.out
            simp at h1
            have h2 := HN.out.grow.size
            have h3 := HN.out.disk.lt
            have h4 := HN.out.dur.lt
            have h5 := HN.out.wr.lt
            rcases x with x | x | x | x <;> omega
        have HNX : Hid (NewAt w (w2.setCell ⟨D, j, none⟩ (.slice (some ⟨g, 0, none⟩) 24 24)) d D W N (fun q => if q = j then .slice (some ⟨g, 0, none⟩) 24 24 else dv q)) :=
          ⟨(HN.out.disk.grow hG2).other (by have := HN.out.ne.1; exact this) _, hd2.set j _, (HN.out.wr.grow hG2).other (by have := HN.out.ne.2.2; exact fun e => this e.symm) _, HN.out.ne, HN.out.old,
            (HN.out.grow.trans hG2).setCell (fun x => absurd x (by have := HN.out.old.2.1; show ¬ D < _; omega)) _⟩
        have HIX : Hid (∀ p, p < j + 1 → Img (w2.setCell ⟨D, j, none⟩ (.slice (some ⟨g, 0, none⟩) 24 24)) (newG w d D W) (if p = j then .slice (some ⟨g, 0, none⟩) 24 24 else dv p) (zeros 24)) := fun p hp => by
          have hDG : ∀ k, k = D → newG w d D W k := fun k e => .inr (.inr (.inl e))
          by_cases e : p = j
          · rw [if_pos e]; exact HIM.out.kept (kept_set _ _ _ _) hDG
          · rw [if_neg e]; exact ((HI.out p (by omega)).kept hG2 (fun _ x => x.elim)).kept (kept_set _ _ _ _) hDG
        clear hG2 hd2
        refine st_cons fun K2 hK2 => ?_
        repeat (go_big_quiet_step (fail))
        refine wpQuiet_nil ?_
        go_wp2
        refine norm_up (hK2 _ _ (kept_set _ _ _ _) (st_nil fun K3 hK3 => wpQuiet_nil (hK3 _ ?_)))
        clear hK2 K2 K3 hK3 r2 f2
        go_wp2
        go_roundg (gk - 1)
        case measure => have := HG.out; omega
        case rel => exact ⟨j + 1, _, by have := HG.out; omega, by go_num, HNX.out, HIX.out⟩
      · have hjN : j = N := by omega
        subst hjN
        clear hnew himg hg
        go_wp2
        go_ret
        refine ⟨d, D, W, rfl, ⟨HN.out.disk, ⟨dv, HN.out.dur, fun p hp => HI.out p hp⟩, ⟨_, HN.out.wr, fun p hp => rfl⟩, HN.out.ne, fun k hk => .inr hk, ⟨h1, h48⟩⟩, HN.out.old, HN.out.grow⟩
end
end Go.Proofs.Ytfjcbcpfhjaeeaa.DevN
