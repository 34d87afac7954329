/-
  Package arena (chapter 10): New, at every number.
-/
import Derived.Test.YtcmhkknoffeebaaArAdd
namespace Go.Proofs.Ytcmhkknoffeebaa.ArN
open Go.ChangeShapes Go.WideShapes Go.ChangeAt Go.RowKit
open Go.Proofs.Ytcmhkknoffeebaa.Mem Go.Proofs.Ytcmhkknoffeebaa.Blk Go.Proofs.Ytcmhkknoffeebaa.Cells Go.Proofs.Ytcmhkknoffeebaa.Orow Go.Proofs.Ytcmhkknoffeebaa.GsC Go.Proofs.Ytcmhkknoffeebaa.TabM Go.Proofs.Ytcmhkknoffeebaa.ArM Go.Proofs.Ytcmhkknoffeebaa.ArC Go.Proofs.Ytcmhkknoffeebaa.ArD Go.Proofs.Ytcmhkknoffeebaa.ArB Go.Proofs.Ytcmhkknoffeebaa.ArA Go.Proofs.Ytcmhkknoffeebaa.Stages

/-- The cells of an arena that nobody has touched. -/
def zcell : Nat → Value := acell (.slice none 0 0) (fun _ => zeros) (.pointer none) (.pointer none)
theorem zero_arena : (Try.prog.info? 57).map (fun i => i.zero) = some (some (.agg ((List.range 515).map zcell).toArray)) := by kernel_rfl
theorem run_zero : ∃ cs : Array Value, (∀ w, (zeroValue 57).run Try.prog w = .ok (.agg cs) w) ∧ cs.size = 515 ∧ ∀ i, i < 515 → cs[i]? = some (zcell i) := by
  have h := zero_arena
  refine ⟨((List.range 515).map zcell).toArray, fun w => ?_, by simp, fun i hi => by simp [hi]⟩
  generalize ((List.range 515).map zcell).toArray = cs at h ⊢
  cases e : Try.prog.info? 57 with
  | none => rw [e] at h; cases h
  | some i =>
    rw [e] at h
    injection h with h
    simp [zeroValue, typeInfo, e, h]

section
variable {w w' : World} {G H F : Nat → Prop} {d g cap dl Dl dt Dt : Nat} {T : Tb} {a : Ar}
theorem new_bad (k : Int) (hk : ¬ (0 ≤ k ∧ k ≤ 32)) : Calls Try.prog 17 #[.int .i64 k] w fun e w' => e = .returned (.pointer none) ∧ w = w' := by
  by_cases h0 : k < 0
  · clear hk
    go_enter Try.func17, Try.ntmps17
    go_wp2
    go_ret
    exact ⟨rfl, rfl⟩
  · have h1 : 32 < k := by omega
    clear hk
    go_enter Try.func17, Try.ntmps17
    go_wp2
    go_ret
    exact ⟨rfl, rfl⟩
/-- What New makes. -/
def NewPost (n : Nat) (w : World) (e : Ending) (w' : World) : Prop := e = .returned (.pointer (some ⟨w.heap.size, 0, none⟩)) ∧ ArAt w' (w.heap.size ≤ ·) w.heap.size (ArM.fresh n) ∧ Grow w w'
theorem new_good (n : Nat) (hn : n ≤ 32) : Calls Try.prog 17 #[.int .i64 (n : Int)] w (NewPost n w) := by
  have hnz : (n : Int) ≤ 32 := by omega
  obtain ⟨cs, hcs, hsz, hcell⟩ := run_zero
  have HCE := Lib.hid hcell
  have HSZ := Lib.hid hsz
  clear hsz hcell
  go_enter Try.func17, Try.ntmps17
  go_wp2
  have HA0 : Hid (ArAt (w.alloc (.cells cs 57)) (w.heap.size ≤ ·) w.heap.size (ArM.fresh 0)) := by
    refine ⟨good_fresh (by omega), .inl ⟨⟨cs, _, heap_alloc_new w _, by rw [HSZ.out]; omega, HCE.out⟩, Nat.le_refl _, rfl⟩⟩
  have HG0 : Hid (Grow w (w.alloc (.cells cs 57))) := (Kept.refl _ _).alloc _
  generalize w.alloc (.cells cs 57) = w1 at HA0 HG0 ⊢
  clear hcs HCE HSZ
  obtain ⟨B, hB⟩ : ∃ B, B = w.heap.size := ⟨_, rfl⟩
  have HB := Lib.hid hB
  unfold NewPost
  rw [← hB] at HA0 ⊢
  clear hB
  go_loopg [13] n (fun gx i wr => ∃ j : Nat, j + gx = n ∧ i = .int .i64 (j : Int) ∧ ArAt wr (B ≤ ·) B (ArM.fresh j) ∧ Grow w wr)
  case atStart => exact ⟨0, by omega, rfl, HA0.out, HG0.out⟩
  case round =>
    obtain ⟨j, hg, rfl, har, hgr⟩ := hrel
    have HG := Lib.hid hg
    have HAR := Lib.hid har
    have HGR := Lib.hid hgr
    clear hg har hgr
    by_cases hj : j < n
    · have hjz : (j : Int) < (n : Int) := by omega
      have HADD := Lib.hid (add_any HAR.out fun k hk => by have h1 := HGR.out.size; have h2 := HB.out; omega)
      obtain ⟨e1, e2⟩ := fresh_add (n := j) (by omega)
      rw [e1, e2] at HADD
      clear e1 e2
      go_wp2_with (go_at_call 33; (with_reducible refine HADD.out.mono ?_); rintro e w2 ⟨rfl, ha, hk⟩; have HA2 := Lib.hid ha; have HK2 := Lib.hid hk; clear ha hk)
      go_roundg (gk - 1)
      case measure => have := HG.out; omega
      case rel => exact ⟨j + 1, by have := HG.out; omega, by go_num, HA2.out, HGR.out.then HK2.out fun k hk e => by have := HB.out; omega⟩
    · obtain rfl : j = n := by have := HG.out; omega
      go_wp2
      go_ret
      unfold NewPost
      rw [← HB.out]
      exact ⟨rfl, HAR.out, HGR.out⟩
end
end Go.Proofs.Ytcmhkknoffeebaa.ArN
