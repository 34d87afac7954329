/-
  Package size (chapter 18): may, cmp.Compare, toward, Share.
-/
import Derived.Test.YtomnkdfolonicaaGs
import Derived.Test.YtomnkdfolonicaaSzMath
import Derived.RegionTactic
import Derived.Deep.Cut
import Derived.Deep.DeepCutAuto
import Derived.Deep.CutBlock
import Derived.WalkSpells
namespace Go.Proofs.Ytomnkdfolonicaa.SzC
open Go.ChangeShapes Go.WideShapes Go.ChangeAt Go.RowKit
open Go.Proofs.Ytomnkdfolonicaa.Mem Go.Proofs.Ytomnkdfolonicaa.Blk Go.Proofs.Ytomnkdfolonicaa.Cells Go.Proofs.Ytomnkdfolonicaa.GsC Go.Proofs.Ytomnkdfolonicaa.SzM Go.Proofs.Ytomnkdfolonicaa.Stages

/-- The slice '.slice A n _' holds the numbers H 0, H 1 .. -/
def Has (w : World) (A : Option Addr) (n : Nat) (H : Nat → Int) : Prop := 0 < n → ∃ b o, A = some ⟨b, o, none⟩ ∧ ∀ j, j < n → w.cell? ⟨b, o + j, none⟩ = some (.int .i64 (H j))
/-- The block of n numbers, that may be written. -/
def Nr (w : World) (b n : Nat) (H : Nat → Int) : Prop := Row w b n fun s => .int .i64 (H s)
theorem madeI (w : World) (n : Nat) (hn : n ≤ 1024) : (Instr.makeSlice 22 (.int .i64 (n : Int)) (.int .i64 (n : Int))).run Try.prog w = .ok (.slice (some ⟨w.heap.size, 0, none⟩) n n) (w.alloc (.cells (madeCells #[.int .i64 0] n) 3)) := by
  obtain ⟨i, hi, hz, hs, hb⟩ := info_parts infoI
  have := run_make (P := Try.prog) w 22 3 i _ Try.underlying22 hi hz .i64 .i64 (n : Int) (n : Int) (by omega) (Int.le_refl _) (by rw [hb]; omega) (by omega)
  rw [hs, Int.toNat_natCast, Nat.mul_one] at this
  exact this

section
variable {w w' : World} {A : Option Addr} {n m c b d s : Nat} {H K : Nat → Int} {F : Nat → Prop}
theorem Has.grow (h : Has w A n H) (hg : Grow w w') : Has w' A n H := fun hn => by
  obtain ⟨b, o, rfl, hc⟩ := h hn
  exact ⟨b, o, rfl, fun j hj => hg.cellN (hc j hj) id⟩
theorem Has.same (h : Has w A n H) (e : ∀ s, s < n → K s = H s) : Has w A n K := fun hn => by
  obtain ⟨b, o, rfl, hc⟩ := h hn
  exact ⟨b, o, rfl, fun j hj => by rw [e j hj]; exact hc j hj⟩
theorem nr_made (w : World) (m : Nat) : Nr (w.alloc (.cells (madeCells #[.int .i64 0] m) 3)) w.heap.size m fun _ => 0 :=
  Row.of_blk (NBlk.made w 3 .i64 m) (by simp) fun i hi => by simp [hi]
theorem Nr.has (h : Nr w b n H) : Has w (some ⟨b, 0, none⟩) n H := fun _ => ⟨b, 0, rfl, fun j hj => by rw [Nat.zero_add]; exact Row.cell h hj⟩
theorem Nr.cell (h : Nr w b n H) {j : Nat} (hj : j < n) : w.cell? ⟨b, j, none⟩ = some (.int .i64 (H j)) := Row.cell h hj
theorem Nr.set (h : Nr w b n H) (s : Nat) (v : Int) (hk : ∀ q, q < n → K q = if q = s then v else H q) : Nr (w.setCell ⟨b, s, none⟩ (.int .i64 v)) b n K :=
  (Row.set h s _).congr fun i hi => by
    show _ = Value.int .i64 (K i)
    rw [hk i hi]
    by_cases e : i = s
    · rw [if_pos e, if_pos e]
    · rw [if_neg e, if_neg e]
theorem Nr.kept (h : Nr w b n H) (hk : Kept F w w') (hF : ¬ F b) : Nr w' b n H := Row.kept h hk hF
theorem Nr.grow (h : Nr w b n H) (hg : Grow w w') : Nr w' b n H := Row.kept h hg id
theorem Nr.same (h : Nr w b n H) (e : ∀ s, s < n → K s = H s) : Nr w b n K := Row.congr h fun i hi => by
  show Value.int .i64 (H i : Int) = Value.int .i64 (K i : Int)
  rw [e i hi]

theorem nan_any (x : Int) : Calls Try.prog 18 #[.int .i64 x] w fun e w' => e = .returned (.bool false) ∧ w = w' := by
  have hx : (x != x) = false := bne_self_eq_false x
  go_enter Try.func18, Try.ntmps18
  go_wp2
  go_ret
  exact ⟨rfl, rfl⟩
theorem cmp_any (x : Int) : Calls Try.prog 16 #[.int .i64 x, .int .i64 0] w fun e w' => e = .returned (.int .i64 (sgn x)) ∧ w = w' := by
  have CN := Lib.hid fun (w : World) (x : Int) => nan_any (w := w) x
  by_cases h1 : x < 0
  · rw [sgn_neg h1]
    go_enter Try.func16, Try.ntmps16
    go_wp2_with (go_at_call 18; (with_reducible refine (CN.out _ _).mono ?_); rintro e w' ⟨rfl, rfl⟩)
    go_ret
    exact ⟨rfl, rfl⟩
  · have h1' : 0 ≤ x := by omega
    by_cases h2 : 0 < x
    · rw [sgn_pos h2]
      clear h1
      go_enter Try.func16, Try.ntmps16
      go_wp2_with (go_at_call 18; (with_reducible refine (CN.out _ _).mono ?_); rintro e w' ⟨rfl, rfl⟩)
      go_ret
      exact ⟨rfl, rfl⟩
    · obtain rfl : x = 0 := by omega
      clear h1 h2
      rw [sgn_zero]
      go_enter Try.func16, Try.ntmps16
      go_wp2_with (go_at_call 18; (with_reducible refine (CN.out _ _).mono ?_); rintro e w' ⟨rfl, rfl⟩)
      go_ret
      exact ⟨rfl, rfl⟩
theorem may_good (h1 : 1 ≤ n) (h4 : n ≤ 4) (hm : m ≤ 32) : Calls Try.prog 17 #[.int .i64 (m : Int), .int .i64 (n : Int)] w fun e w' => e = .returned (.bool true) ∧ w = w' := by
  have h1z : 1 ≤ (n : Int) := by omega
  have h4z : (n : Int) ≤ 4 := by omega
  have hmz : (m : Int) ≤ 32 := by omega
  go_enter Try.func17, Try.ntmps17
  go_wp2
  go_ret
  exact ⟨rfl, rfl⟩
/-- There may be so many frames, and so many shards. -/
def May (x y : Int) : Prop := 1 ≤ y ∧ y ≤ 4 ∧ 0 ≤ x ∧ x ≤ 32
instance (x y : Int) : Decidable (May x y) := by unfold May; infer_instance
theorem may_bad {x y : Int} (h : ¬ May x y) : Calls Try.prog 17 #[.int .i64 x, .int .i64 y] w fun e w' => e = .returned (.bool false) ∧ w = w' := by
  unfold May at h
  by_cases h1 : 1 ≤ y
  · by_cases h2 : y ≤ 4
    · by_cases h3 : 0 ≤ x
      · have h4 : 32 < x := by omega
        have h5 : decide (x ≤ 32) = false := decide_eq_false (by omega)
        clear h
        go_enter Try.func17, Try.ntmps17
        go_wp2
        go_ret
        exact ⟨rfl, rfl⟩
      · have h4 : x < 0 := by omega
        clear h h3
        go_enter Try.func17, Try.ntmps17
        go_wp2
        go_ret
        exact ⟨rfl, rfl⟩
    · have h4 : 4 < y := by omega
      clear h h2
      go_enter Try.func17, Try.ntmps17
      go_wp2
      go_ret
      exact ⟨rfl, rfl⟩
  · have h4 : y < 1 := by omega
    clear h h1
    go_enter Try.func17, Try.ntmps17
    go_wp2
    go_ret
    exact ⟨rfl, rfl⟩
theorem share_bad {x y : Int} (h : ¬ May x y) : Calls Try.prog 11 #[.int .i64 x, .int .i64 y] w fun e w' => e = .returned (.slice none 0 0) ∧ w = w' := by
  have CM := Lib.hid fun (w : World) => may_bad (w := w) h
  clear h
  go_enter Try.func11, Try.ntmps11
  go_wp2
  go_step3
  go_wp2_with (go_at_call 17; (with_reducible refine (CM.out _).mono ?_); rintro e w' ⟨rfl, rfl⟩)
  try rw [Exit.noGoto_ret]
  go_ret
  exact ⟨rfl, rfl⟩
/-- What Share makes. -/
def ShPost (m n : Nat) (w : World) (e : Ending) (w' : World) : Prop := ∃ b, e = .returned (.slice (some ⟨b, 0, none⟩) n n) ∧ Nr w' b n (shr m n) ∧ w.heap.size ≤ b ∧ Grow w w'
set_option maxHeartbeats 2000000 in
theorem share_good (h1 : 1 ≤ n) (h4 : n ≤ 4) (hm : m ≤ 32) : Calls Try.prog 11 #[.int .i64 (m : Int), .int .i64 (n : Int)] w (ShPost m n w) := by
  have CM := Lib.hid fun (w : World) => may_good (w := w) h1 h4 hm
  have km := fun (w : World) => madeI w n (by omega)
  have h1z : 1 ≤ (n : Int) := by omega
  have h4z : (n : Int) ≤ 4 := by omega
  have hmz : (m : Int) ≤ 32 := by omega
  obtain ⟨Q, hQ⟩ : ∃ Q : Nat, m / n = Q := ⟨_, rfl⟩
  obtain ⟨R, hR⟩ : ∃ R : Nat, m % n = R := ⟨_, rfl⟩
  have hquo : (m : Int).tdiv (n : Int) = (Q : Int) := by rw [← hQ, Int.tdiv_eq_ediv_of_nonneg (by omega)]; omega
  have hrem : (m : Int).tmod (n : Int) = (R : Int) := by rw [← hR, Int.tmod_eq_emod_of_nonneg (by omega)]; omega
  have hQ32 : (Q : Int) ≤ 32 := by have := Nat.div_le_self m n; omega
  have HIN : Hid (∀ j, j < R → shr m n j = (Q : Int) + 1) := fun j hj => by rw [shr_in (by omega), hQ]
  have HOUT : Hid (∀ j, R ≤ j → shr m n j = (Q : Int)) := fun j hj => by rw [shr_out (by omega), hQ]
  clear hQ hR
  go_enter Try.func11, Try.ntmps11
  go_wp2
  go_step3
  go_wp2_with (go_at_call 17; (with_reducible refine (CM.out _).mono ?_); rintro e w' ⟨rfl, rfl⟩)
  go_step3
  clear km
  have HG0 : Hid (Grow w (w.alloc (.cells (madeCells #[.int .i64 0] n) 3))) := (Kept.refl _ w).alloc _
  have HR0 : Hid (Nr (w.alloc (.cells (madeCells #[.int .i64 0] n) 3)) w.heap.size n fun _ => 0) := nr_made w n
  generalize w.alloc (.cells (madeCells #[.int .i64 0] n) 3) = w1 at HG0 HR0 ⊢
  obtain ⟨B, hB⟩ : ∃ B, w.heap.size = B := ⟨_, rfl⟩
  have HB := Lib.hid hB
  rw [hB] at HR0 ⊢
  clear hB
  go_wp2
  go_loopg [15] n (fun gx i wr => ∃ j : Nat, j + gx = n ∧ i = .int .i64 (j : Int) ∧ Nr wr B n (fun q => if q < j then shr m n q else 0) ∧ Grow w wr)
  case atStart => exact ⟨0, by omega, rfl, HR0.out.same fun s _ => if_neg (Nat.not_lt_zero s), HG0.out⟩
  case round =>
    obtain ⟨j, hg, rfl, hr, hgr⟩ := hrel
    have HG := Lib.hid hg
    have HR := Lib.hid hr
    have HGR := Lib.hid hgr
    clear hg hr hgr HR0 HG0
    by_cases hj : j < n
    · have hjz : (j : Int) < (n : Int) := by omega
      have r0 := HR.out.cell hj
      have f0 := Row.frozen HR.out j
      have HS1 : Hid (Nr (wr.setCell ⟨B, j, none⟩ (.int .i64 (Q : Int))) B n (fun q => if q = j then (Q : Int) else if q < j then shr m n q else 0)) := HR.out.set j _ fun q _ => rfl
      have HGS : Hid (Grow w (wr.setCell ⟨B, j, none⟩ (.int .i64 (Q : Int)))) := HGR.out.setCell (fun h => by have h : B < w.heap.size := h; have := HB.out; omega) _
      have HJ := Lib.hid hj
      go_upto_region 8 with (fail)
      clear r0 f0
      generalize wr.setCell ⟨B, j, none⟩ (.int .i64 (Q : Int)) = w2 at HS1 HGS ⊢
      by_cases hRj : R ≤ j
      · have hRz : (R : Int) ≤ (j : Int) := by omega
        have HE := Lib.hid (HOUT.out j hRj)
        go_wp2
        go_roundg (gk - 1)
        case measure => have := HG.out; omega
        case rel =>
          refine ⟨j + 1, by have := HG.out; omega, by go_num, HS1.out.same fun q _ => ?_, HGS.out⟩
          by_cases e : q = j
          · subst e; rw [if_pos (Nat.lt_succ_self q), if_pos rfl]; exact HE.out
          · rw [if_neg e]
            by_cases e2 : q < j
            · rw [if_pos e2, if_pos (by omega)]
            · rw [if_neg e2, if_neg (by omega)]
      · have hRz : (j : Int) < (R : Int) := by omega
        have HE := Lib.hid (HIN.out j (by omega))
        have r0 := HS1.out.cell HJ.out
        rw [if_pos rfl] at r0
        have f0 := Row.frozen HS1.out j
        go_wp2
        go_roundg (gk - 1)
        case measure => have := HG.out; omega
        case rel =>
          refine ⟨j + 1, by have := HG.out; omega, by go_num, HS1.out.set j _ fun q _ => ?_, HGS.out.setCell (fun h => by have h : B < w.heap.size := h; have := HB.out; omega) _⟩
          by_cases e : q = j
          · subst e; rw [if_pos (Nat.lt_succ_self q), if_pos rfl]; exact HE.out
          · rw [if_neg e, if_neg e]
            by_cases e2 : q < j
            · rw [if_pos e2, if_pos (by omega)]
            · rw [if_neg e2, if_neg (by omega)]
    · obtain rfl : j = n := by have := HG.out; omega
      go_wp2
      try rw [Exit.noGoto_ret]
      go_ret
      exact ⟨_, rfl, HR.out.same fun s hs => (if_pos hs).symm, Nat.le_of_eq HB.out, HGR.out⟩
end
end Go.Proofs.Ytomnkdfolonicaa.SzC
