/-
  math/bits.Mul and slices.Repeat of ints, as they are called for six numbers (of XHdNew, without package handle).
-/
import Derived.Test.YtjdlpknflhgkfaaGr
import Derived.Test.YtjdlpknflhgkfaaTrees
import Derived.Deep.Cut
import Derived.Deep.DeepCutAuto
import Derived.Deep.CutBlock
import Derived.Deep.CutRange
import Derived.RegionTactic
import Derived.WalkSpells
namespace Go.Proofs.Ytjdlpknflhgkfaa.RepN
open Go.ChangeShapes Go.WideShapes Go.ChangeAt Go.RowKit
open Go.Proofs.Ytjdlpknflhgkfaa.Mem Go.Proofs.Ytjdlpknflhgkfaa.Blk Go.Proofs.Ytjdlpknflhgkfaa.Cells Go.Proofs.Ytjdlpknflhgkfaa.Orow Go.Proofs.Ytjdlpknflhgkfaa.GrC Go.Proofs.Ytjdlpknflhgkfaa.Stages Go.Proofs.Ytjdlpknflhgkfaa.Trees

theorem infoI : (Try.prog.info? 3).map (fun i => (i.zero, i.size, i.bytes)) = some (some (.int .i64 0), 1, 8) := by kernel_rfl
theorem infoS : (Try.prog.info? 48).map (fun i => (i.zero, i.size, i.bytes)) = some (some (.slice none 0 0), 1, 24) := by kernel_rfl
theorem sizeI : (Try.prog.info? 3).map (·.size) = some 1 := by kernel_rfl

/-! ### math/bits.Mul, slices.Repeat -/
theorem mul64_any (w : World) : Calls Try.prog 88 #[.int .u64 1, .int .u64 6] w fun e w' => e = .returned (.tuple #[.int .u64 0, .int .u64 6]) ∧ w = w' := by
  go_enter Try.func88, Try.ntmps88
  go_wp2
  go_ret2
  exact ⟨rfl, rfl⟩
theorem mul_any (w : World) : Calls Try.prog 61 #[.int .u64 1, .int .u64 6] w fun e w' => e = .returned (.tuple #[.int .u64 0, .int .u64 6]) ∧ w = w' := by
  go_enter Try.func61, Try.ntmps61
  go_wp2_with (go_at_call 88; (with_reducible refine (mul64_any _).mono ?_); rintro e w' ⟨rfl, rfl⟩)
  go_ret2
  exact ⟨rfl, rfl⟩
/-- The new slice behind q numbers. -/
def zs (q : Nat) : List Int := List.replicate q (-1) ++ List.replicate (6 - q) 0
section
variable {w w' : World} {g b q m : Nat}
theorem rep_first (h : NBlk w g 3 .i64 (zs 0)) {B : Nat} (hx : Sl w B .i64 (some ⟨b, 0, none⟩) 1 [-1]) :
    ∃ w', (Builtin.copy_ #[48, 48] 3 #[.slice (some ⟨g, 0, none⟩) 6 6, .slice (some ⟨b, 0, none⟩) 1 1]).run Try.prog w = .ok (.int .i64 1) w' ∧ NBlk w' g 3 .i64 (zs 1) ∧ Kept (· = g) w w' :=
  run_copy (P := Try.prog) 48 48 3 3 Try.underlying48 sizeI h 0 6 6 1 hx 1 (by decide) (by decide)
theorem rep_next (h : NBlk w g 3 .i64 (zs q)) (hq : q ≤ 6) (hm : Nat.min q (6 - q) = m) (he : (zs q).take q ++ ((((zs q).drop 0).take q).take m ++ (zs q).drop (q + m)) = zs (q + m)) :
    ∃ w', (Builtin.copy_ #[48, 48] 3 #[.slice (some ⟨g, q, none⟩) (6 - q) (6 - q), .slice (some ⟨g, 0, none⟩) q 6]).run Try.prog w = .ok (.int .i64 (m : Int)) w' ∧ NBlk w' g 3 .i64 (zs (q + m)) ∧ Kept (· = g) w w' := by
  have hl : (zs q).length = 6 := by unfold zs; rw [List.length_append, List.length_replicate, List.length_replicate]; omega
  have hsl := Sl.of_blk (B := w.heap.size) h 0 q (by omega) h.lt
  have hfit : q + m ≤ (zs q).length := by rw [hl]; have := Nat.min_le_right q (6 - q); rw [show Nat.min q (6 - q) = min q (6 - q) from rfl] at hm; omega
  obtain ⟨w', h1, h2, h3⟩ := run_copy (P := Try.prog) 48 48 3 3 Try.underlying48 sizeI h q (6 - q) (6 - q) 6 hsl m hm hfit
  rw [he] at h2
  exact ⟨w', h1, h2, h3⟩
theorem or_of (h : NBlk w g 3 .i64 (zs 6)) : OR w g 3 1 6 6 (hcell fun _ => -1) := by
  refine ⟨_, h, rfl, Nat.le_refl _, by unfold maxLen; omega, fun i hi => ?_⟩
  have : i = 0 ∨ i = 1 ∨ i = 2 ∨ i = 3 ∨ i = 4 ∨ i = 5 := by omega
  rcases this with rfl | rfl | rfl | rfl | rfl | rfl <;> rfl
theorem made6 (w : World) : (Instr.makeSlice 48 (.int .i64 6) (.int .i64 6)).run Try.prog w = .ok (.slice (some ⟨w.heap.size, 0, none⟩) 6 6) (w.alloc (.cells (madeCells #[.int .i64 0] 6) 3)) := by
  obtain ⟨i, hi, hz, hs, hb⟩ := info_parts infoI
  have := run_make (P := Try.prog) w 48 3 i _ Try.underlying48 hi hz .i64 .i64 6 6 (by omega) (Int.le_refl _) (by rw [hb]; omega) (by omega)
  rw [hs, show (6 : Int).toNat = 6 by omega] at this
  exact this
/-- Six numbers, all -1. -/
def SixPost (w : World) (e : Ending) (w' : World) : Prop := ∃ g, e = .returned (.slice (some ⟨g, 0, none⟩) 6 6) ∧ w.heap.size ≤ g ∧ OR w' g 3 1 6 6 (hcell fun _ => -1) ∧ Grow w w'
theorem six_post (hg : w.heap.size ≤ g) (h : NBlk w' g 3 .i64 (zs 6)) (hk : Kept (· = g) w w') : SixPost w (.returned (.slice (some ⟨g, 0, none⟩) 6 6)) w' :=
  ⟨g, rfl, hg, or_of h, hk.mono fun k hk e => by omega⟩
set_option maxHeartbeats 1000000 in
theorem repeat_any {B : Nat} (hx : Sl w B .i64 (some ⟨b, 0, none⟩) 1 [-1]) (hB : B ≤ w.heap.size) : Calls Try.prog 39 #[.slice (some ⟨b, 0, none⟩) 1 1, .int .i64 6] w (SixPost w) := by
  have HX := Lib.hid hx
  have HBB := Lib.hid hB
  have km := made6
  clear hx hB
  go_enter Try.func39, Try.ntmps39
  go_upto_region 7 with (go_at_call 61; (with_reducible refine (mul_any _).mono ?_); rintro e w' ⟨rfl, rfl⟩)
  have hb0 : NBlk (w.alloc (.cells (madeCells #[Value.int .i64 0] 6) 3)) w.heap.size 3 .i64 (zs 0) := NBlk.made w 3 .i64 6
  have hg0 : Grow w (w.alloc (.cells (madeCells #[Value.int .i64 0] 6) 3)) := (Kept.refl _ _).alloc _
  have hnew : w.heap.size ≤ w.heap.size := Nat.le_refl _
  clear km
  generalize w.alloc (.cells (madeCells #[Value.int .i64 0] 6) 3) = w1 at hb0 hg0 ⊢
  obtain ⟨g, hgg⟩ : ∃ g, g = w.heap.size := ⟨_, rfl⟩
  rw [← hgg] at hb0 ⊢
  have HGE : Hid (w.heap.size ≤ g) := Nat.le_of_eq hgg.symm
  have hs1 := Blk.Sl.kept HX.out hg0 HBB.out fun _ _ x => x
  obtain ⟨w2, hc2, hb2, hk2⟩ := rep_first hb0 hs1
  have HK2 : Hid (Kept (· = g) w w2) := (Grow.kept hg0).trans hk2
  have HB2 := Lib.hid hb2
  clear hb0 hg0 hs1 hb2 hk2 hgg hnew
  go_wp2
  clear hc2
  go_loopg [8] 5 (fun gx i wr => ∃ (q : Nat) (z : Int), q + gx = 6 ∧ i = .int .i64 z ∧ ((q = 1 ∧ z = 1) ∨ (q = 2 ∧ z = 2) ∨ (q = 4 ∧ z = 4) ∨ (q = 6 ∧ z = 6)) ∧ NBlk wr g 3 .i64 (zs q) ∧ Kept (· = g) w wr)
  case atStart => exact ⟨1, 1, by omega, rfl, .inl ⟨rfl, rfl⟩, HB2.out, HK2.out⟩
  case round =>
    obtain ⟨q, z, hg, rfl, hq, hb, hk⟩ := hrel
    have HG := Lib.hid hg
    have HB := Lib.hid hb
    have HK := Lib.hid hk
    clear hg hb hk
    rcases hq with ⟨rfl, rfl⟩ | ⟨rfl, rfl⟩ | ⟨rfl, rfl⟩ | ⟨rfl, rfl⟩
    · obtain ⟨w3, hc, hb, hk⟩ := rep_next (q := 1) (m := 1) (HB.out.drew) (by omega) rfl rfl
      have HB3 : Hid (NBlk w3 g 3 .i64 (zs 2)) := hb
      have HK3 := Lib.hid hk
      simp only [Int.cast_ofNat_Int, Nat.reduceSub] at hc
      clear hb hk
      go_upto_region 9 with (fail)
      refine wp_region_stages (Kept (· = g)) (kept_refl _) (kept_trans _) [([0, 1, 2, 3, 4, 5, 6], 7)] [8, 9] (by kernel_rfl) (by kernel_rfl) ?_
      simp only [selSt, sel, List.map_cons, List.map_nil, List.getD_cons_succ, List.getD_cons_zero]
      refine st_cons fun K1 hK1 => ?_
      repeat (go_big_quiet_step (fail))
      refine wpQuiet_nil ?_
      go_wp2
      clear hc
      refine norm_up (hK1 _ _ HK3.out (st_nil fun K4 hK4 => ?_))
      clear hK1 K1
      repeat (go_big_quiet_step (fail))
      refine wpQuiet_nil (hK4 _ ?_)
      clear hK4 K4
      go_wp2
      go_roundg 4
      case measure => have := HG.out; omega
      case rel => exact ⟨2, 2, by omega, rfl, .inr <| .inl ⟨rfl, rfl⟩, HB3.out, (HK.out.trans (Kept.drew' wr)).trans HK3.out⟩
    · obtain ⟨w3, hc, hb, hk⟩ := rep_next (q := 2) (m := 2) (HB.out.drew) (by omega) rfl rfl
      have HB3 : Hid (NBlk w3 g 3 .i64 (zs 4)) := hb
      have HK3 := Lib.hid hk
      simp only [Int.cast_ofNat_Int, Nat.reduceSub] at hc
      clear hb hk
      go_upto_region 9 with (fail)
      refine wp_region_stages (Kept (· = g)) (kept_refl _) (kept_trans _) [([0, 1, 2, 3, 4, 5, 6], 7)] [8, 9] (by kernel_rfl) (by kernel_rfl) ?_
      simp only [selSt, sel, List.map_cons, List.map_nil, List.getD_cons_succ, List.getD_cons_zero]
      refine st_cons fun K1 hK1 => ?_
      repeat (go_big_quiet_step (fail))
      refine wpQuiet_nil ?_
      go_wp2
      clear hc
      refine norm_up (hK1 _ _ HK3.out (st_nil fun K4 hK4 => ?_))
      clear hK1 K1
      repeat (go_big_quiet_step (fail))
      refine wpQuiet_nil (hK4 _ ?_)
      clear hK4 K4
      go_wp2
      go_roundg 2
      case measure => have := HG.out; omega
      case rel => exact ⟨4, 4, by omega, rfl, .inr <| .inr <| .inl ⟨rfl, rfl⟩, HB3.out, (HK.out.trans (Kept.drew' wr)).trans HK3.out⟩
    · obtain ⟨w3, hc, hb, hk⟩ := rep_next (q := 4) (m := 2) (HB.out.drew) (by omega) rfl rfl
      have HB3 : Hid (NBlk w3 g 3 .i64 (zs 6)) := hb
      have HK3 := Lib.hid hk
      simp only [Int.cast_ofNat_Int, Nat.reduceSub] at hc
      clear hb hk
      go_upto_region 9 with (fail)
      refine wp_region_stages (Kept (· = g)) (kept_refl _) (kept_trans _) [([0, 1, 2, 3, 4, 5, 6], 7)] [8, 9] (by kernel_rfl) (by kernel_rfl) ?_
      simp only [selSt, sel, List.map_cons, List.map_nil, List.getD_cons_succ, List.getD_cons_zero]
      refine st_cons fun K1 hK1 => ?_
      repeat (go_big_quiet_step (fail))
      refine wpQuiet_nil ?_
      go_wp2
      clear hc
      refine norm_up (hK1 _ _ HK3.out (st_nil fun K4 hK4 => ?_))
      clear hK1 K1
      repeat (go_big_quiet_step (fail))
      refine wpQuiet_nil (hK4 _ ?_)
      clear hK4 K4
      go_wp2
      go_roundg 0
      case measure => have := HG.out; omega
      case rel => exact ⟨6, 6, by omega, rfl, .inr <| .inr <| .inr ⟨rfl, rfl⟩, HB3.out, (HK.out.trans (Kept.drew' wr)).trans HK3.out⟩
    · go_wp2
      go_ret
      exact six_post HGE.out HB.out HK.out
end
end Go.Proofs.Ytjdlpknflhgkfaa.RepN
