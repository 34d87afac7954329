/-
  lavaboref4.Ints tells that two slices hold the same numbers, when they do.
-/
import Derived.Test.YtomnkdfolonicaaRows
import Derived.Test.YtomnkdfolonicaaBlk
import Derived.RegionTactic
import Derived.Deep.Cut
import Derived.Deep.DeepCutAuto
import Derived.Deep.CutBlock
import Derived.WalkSpells
namespace Go.Proofs.Ytomnkdfolonicaa.IntsC
open Go.ChangeShapes Go.WideShapes Go.ChangeAt Go.RowKit
open Go.Proofs.Ytomnkdfolonicaa.Mem Go.Proofs.Ytomnkdfolonicaa.Blk Go.Proofs.Ytomnkdfolonicaa.Stages

set_option maxHeartbeats 1000000 in
theorem ints_true {w : World} (A A' : Option Addr) (n c c' B B' : Nat) (zs : List Int) (hn : n ≤ 100000) (h : Sl w B .i64 A n zs) (h' : Sl w B' .i64 A' n zs) :
    Calls Try.prog 10 #[.slice A n c, .slice A' n c'] w fun e w' => e = .returned (.bool true) ∧ Grow w w' := by
  have H := Lib.hid h
  have H' := Lib.hid h'
  have hnz : (n : Int) ≤ 100000 := by omega
  clear h h'
  go_enter Try.func10, Try.ntmps10
  go_wp2
  go_loopg [5] n (fun gx i wr => ∃ j : Nat, j + gx = n ∧ i = .int .i64 (j : Int) ∧ Grow w wr)
  case atStart => exact ⟨0, by omega, rfl, Kept.refl _ _⟩
  case round =>
    obtain ⟨j, hg, rfl, hgr⟩ := hrel
    have HG := Lib.hid hg
    have HGR := Lib.hid hgr
    clear hg hgr
    by_cases hj : j < n
    · have hjz : (j : Int) < (n : Int) := by omega
      obtain ⟨b, o, rfl, _, hc⟩ := H.out.at_ (by omega)
      obtain ⟨b', o', rfl, _, hc'⟩ := H'.out.at_ (by omega)
      have r1 := hc j hj
      have r2 := hc' j hj
      generalize zs.getD j 0 = v at *
      have r1' := HGR.out.cellN r1 id
      have r2' := HGR.out.cellN r2 id
      have q1 := up_cell (F := fun _ => False) (w := wr.drew) r1' id
      have q2 := up_cell (F := fun _ => False) (w := wr.drew) r2' id
      clear hc hc' r1 r2 r1' r2'
      go_upto_region 6 with (fail)
      refine wp_region_stages Grow (kept_refl _) (kept_trans _) [] [0, 1, 2, 3, 4, 5, 6, 7, 8] (by kernel_rfl) (by kernel_rfl) ?_
      simp only [selSt, sel, List.map_cons, List.map_nil, List.getD_cons_succ, List.getD_cons_zero]
      refine st_nil fun K2 hK2 => ?_
      repeat (go_big_quiet_step (fail))
      refine wpQuiet_nil (hK2 _ ?_)
      clear hK2 K2 q1 q2
      go_wp2
      go_roundg (n - (j + 1))
      case measure => have := HG.out; omega
      case rel => exact ⟨j + 1, by omega, by go_num, HGR.out.drew⟩
    · have hjN : j = n := by have := HG.out; omega
      subst hjN
      go_wp2
      go_ret
      exact ⟨rfl, HGR.out⟩
end Go.Proofs.Ytomnkdfolonicaa.IntsC
