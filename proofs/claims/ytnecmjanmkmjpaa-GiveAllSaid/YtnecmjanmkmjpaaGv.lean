/-
  Package give (chapter 17): mayBe, slices.Min, may, most, From, at every two lists of one to four numbers not below 0.
-/
import Derived.Test.YtnecmjanmkmjpaaGs
import Derived.Test.YtnecmjanmkmjpaaGvMath
import Derived.RegionTactic
import Derived.Deep.Cut
import Derived.Deep.DeepCutAuto
import Derived.Deep.CutBlock
import Derived.WalkSpells
namespace Go.Proofs.Ytnecmjanmkmjpaa.GvC
open Go.ChangeShapes Go.WideShapes Go.ChangeAt Go.RowKit
open Go.Proofs.Ytnecmjanmkmjpaa.Mem Go.Proofs.Ytnecmjanmkmjpaa.Blk Go.Proofs.Ytnecmjanmkmjpaa.Cells Go.Proofs.Ytnecmjanmkmjpaa.GvM Go.Proofs.Ytnecmjanmkmjpaa.Stages

/-- The slice '.slice A n _' holds the numbers H 0, H 1 .. -/
def Has (w : World) (A : Option Addr) (n : Nat) (H : Nat → Int) : Prop := 0 < n → ∃ b o, A = some ⟨b, o, none⟩ ∧ ∀ j, j < n → w.cell? ⟨b, o + j, none⟩ = some (.int .i64 (H j))

section
variable {w : World} {A B : Option Addr} {n c d : Nat} {H F I : Nat → Int} {need : Int}
theorem mayBe_good (h1 : 1 ≤ (n : Int)) (h4 : (n : Int) ≤ 4) : Calls Try.prog 11 #[.int .i64 (n : Int)] w fun e w' => e = .returned (.bool true) ∧ w = w' := by
  go_enter Try.func11, Try.ntmps11
  go_wp2
  go_ret
  exact ⟨rfl, rfl⟩
theorem mayBe_zero : Calls Try.prog 11 #[.int .i64 0] w fun e w' => e = .returned (.bool false) ∧ w = w' := by
  go_enter Try.func11, Try.ntmps11
  go_wp2
  go_ret
  exact ⟨rfl, rfl⟩

/-- The least of numbers not below 0 is none below 0. -/
theorem min_any (h : Has w A n H) (h1 : 1 ≤ n) (h4 : n ≤ 4) (h0 : ∀ j, j < n → 0 ≤ H j) : Calls Try.prog 15 #[.slice A n c] w fun e w' => ∃ z : Int, e = .returned (.int .i64 z) ∧ 0 ≤ z ∧ w = w' := by
  obtain ⟨b, o, rfl, hc⟩ := h (by omega)
  have HC := Lib.hid hc
  have H0 := Lib.hid h0
  have H1 := Lib.hid h1
  have h1z : 1 ≤ (n : Int) := by omega
  have h4z : (n : Int) ≤ 4 := by omega
  have c0 := hc 0 (by omega)
  rw [Nat.add_zero] at c0
  have HZ : Hid (0 ≤ H 0) := h0 0 (by omega)
  clear h hc h0 h1
  generalize H 0 = z0 at *
  go_enter Try.func15, Try.ntmps15
  go_wp2
  clear c0
  go_loopg [3, 4] n (fun gx m i wr => ∃ (j : Nat) (z : Int), (j ≤ n ∧ j + gx = n + 1) ∧ i = .int .i64 (j : Int) ∧ m = .int .i64 z ∧ 0 ≤ z ∧ w = wr)
  case atStart => exact ⟨1, z0, ⟨H1.out, by omega⟩, rfl, rfl, HZ.out, rfl⟩
  case round =>
    obtain ⟨j, z, hg, rfl, rfl, hz, rfl⟩ := hrel
    have HG := Lib.hid hg
    have HZ2 := Lib.hid hz
    clear hg hz HZ
    by_cases hj : j < n
    · have hjz : (j : Int) < (n : Int) := by omega
      have r1 := HC.out j hj
      have HH := Lib.hid (H0.out j hj)
      generalize H j = x at *
      by_cases hzx : x < z
      · go_wp2
        go_roundg (gk - 1)
        case measure => have := HG.out; omega
        case rel => exact ⟨j + 1, _, ⟨by omega, by have := HG.out; omega⟩, by go_num, rfl, by have := HH.out; have := HZ2.out; omega, rfl⟩
      · have hzx' : z ≤ x := by omega
        clear hzx
        go_wp2
        go_roundg (gk - 1)
        case measure => have := HG.out; omega
        case rel => exact ⟨j + 1, _, ⟨by omega, by have := HG.out; omega⟩, by go_num, rfl, by have := HH.out; have := HZ2.out; omega, rfl⟩
    · obtain rfl : j = n := by have := HG.out; omega
      go_wp2
      go_ret
      exact ⟨_, rfl, HZ2.out, rfl⟩
theorem may_good (hF : Has w A n F) (hI : Has w B n I) (h1 : 1 ≤ n) (h4 : n ≤ 4) (f0 : ∀ j, j < n → 0 ≤ F j) (i0 : ∀ j, j < n → 0 ≤ I j) (n0 : 0 ≤ need) (nn : need < n) :
    Calls Try.prog 9 #[.slice A n c, .slice B n d, .int .i64 need] w fun e w' => e = .returned (.bool true) ∧ w = w' := by
  have h1z : 1 ≤ (n : Int) := by omega
  have h4z : (n : Int) ≤ 4 := by omega
  have CM := Lib.hid fun (w : World) => mayBe_good (w := w) h1z h4z
  have CF := Lib.hid (min_any (c := c) hF h1 h4 f0)
  have CI := Lib.hid (min_any (c := d) hI h1 h4 i0)
  clear hF hI f0 i0 h1 h4
  go_enter Try.func9, Try.ntmps9
  go_wp2_with (first
    | (go_at_call 11; (with_reducible refine (CM.out _).mono ?_); rintro e w' ⟨rfl, rfl⟩)
    | (go_at_call 15; (with_reducible refine CF.out.mono ?_); rintro e w' ⟨z1, rfl, hz1, rfl⟩; clear CF)
    | (go_at_call 15; (with_reducible refine CI.out.mono ?_); rintro e w' ⟨z2, rfl, hz2, rfl⟩))
  go_ret
  exact ⟨rfl, rfl⟩
theorem may_zero : Calls Try.prog 9 #[.slice none 0 0, .slice none 0 0, .int .i64 0] w fun e w' => e = .returned (.bool false) ∧ w = w' := by
  have CM := Lib.hid fun (w : World) => mayBe_zero (w := w)
  go_enter Try.func9, Try.ntmps9
  go_wp2_with (go_at_call 11; (with_reducible refine (CM.out _).mono ?_); rintro e w' ⟨rfl, rfl⟩)
  go_ret
  exact ⟨rfl, rfl⟩
set_option maxHeartbeats 2000000 in
theorem most_any (h : Has w A n H) (h4 : n ≤ 4) (need : Int) : Calls Try.prog 10 #[.slice A n c, .int .i64 need] w fun e w' => e = .returned (.int .i64 (most n H need)) ∧ w = w' := by
  have h4z : (n : Int) ≤ 4 := by omega
  have HH := Lib.hid h
  have HM : Hid (most n H need = scan n H need n 0) := rfl
  generalize most n H need = R at *
  clear h h4
  go_enter Try.func10, Try.ntmps10
  go_wp2
  go_step3
  go_wp2
  go_step3
  go_wp2
  go_loopg [11] n (fun g i wr => ∃ j : Nat, j + g = n ∧ i = .int .i64 (j : Int) ∧ R = scan n H need g j ∧ w = wr)
  case atStart => exact ⟨0, by omega, rfl, HM.out, rfl⟩
  case round =>
    obtain ⟨j, hg, rfl, hR, rfl⟩ := hrel
    have HG := Lib.hid hg
    have HR := Lib.hid hR
    clear hg hR
    by_cases hj : j < n
    · have hjz : (j : Int) < (n : Int) := by omega
      obtain ⟨b, o, rfl, hc⟩ := HH.out (by omega)
      have HC := Lib.hid hc
      have r1 := hc j hj
      obtain ⟨g, rfl⟩ : ∃ g, gk = g + 1 := ⟨gk - 1, by have := HG.out; omega⟩
      have HNO := Lib.hid fun (e : ¬ ok n H need j) => HR.out.trans (scan_no e)
      have HOK := Lib.hid fun (e : ok n H need j) => HR.out.trans (scan_ok e)
      clear hc HR
      obtain ⟨x, hx⟩ : ∃ x, H j = x := ⟨_, rfl⟩
      rw [hx] at r1
      have HX := Lib.hid hx
      clear hx
      by_cases e1 : (j : Int) = need
      · have e1' : ((j : Int) == need) = true := beq_iff_eq.2 e1
        have HR2 := Lib.hid (HNO.out fun h => h.1 e1)
        clear e1
        go_wp2
        go_roundg g
        case measure => omega
        case rel => exact ⟨j + 1, by have := HG.out; omega, by go_num, HR2.out, rfl⟩
      · have e1' : ((j : Int) == need) = false := beq_eq_false_iff_ne.2 e1
        by_cases e2 : x = 0
        · have HR2 := Lib.hid (HNO.out fun h => h.2.1 (HX.out.trans e2))
          subst e2
          clear e1
          go_wp2
          go_roundg g
          case measure => omega
          case rel => exact ⟨j + 1, by have := HG.out; omega, by go_num, HR2.out, rfl⟩
        · have e2' : (x == 0) = false := beq_eq_false_iff_ne.2 e2
          have E1 := Lib.hid e1
          have E2 := Lib.hid e2
          clear e1 e2
          go_wp2
          go_loopg [25] n (fun gy i wr => ∃ k : Nat, k + gy = n ∧ i = .int .i64 (k : Int) ∧ (∀ q, q < k → (q : Int) ≠ need → H q ≤ x) ∧ w = wr)
          case atStart => exact ⟨0, by omega, rfl, fun q hq => absurd hq (Nat.not_lt_zero q), rfl⟩
          case round =>
            obtain ⟨k, hg, rfl, hle, rfl⟩ := hrel
            have HG2 := Lib.hid hg
            have HLE := Lib.hid hle
            clear hg hle
            by_cases hk : k < n
            · have hkz : (k : Int) < (n : Int) := by omega
              have r2 := HC.out k hk
              obtain ⟨y, hy⟩ : ∃ y, H k = y := ⟨_, rfl⟩
              rw [hy] at r2
              have HY := Lib.hid hy
              clear hy
              by_cases e3 : (k : Int) = need
              · have e3' : ((k : Int) != need) = false := by rw [e3]; exact bne_self_eq_false need
                have HLE2 : Hid (∀ q : Nat, q < k + 1 → (q : Int) ≠ need → H q ≤ x) := fun q hq hne => by
                  by_cases e : q = k
                  · subst e; exact absurd e3 hne
                  · exact HLE.out q (by omega) hne
                clear e3
                go_wp2
                go_roundg (gk - 1)
                case measure => have := HG2.out; omega
                case rel => exact ⟨k + 1, by have := HG2.out; omega, by go_num, HLE2.out, rfl⟩
              · have e3' : ((k : Int) != need) = true := bne_iff_ne.2 e3
                by_cases e4 : x < y
                · have HR2 := Lib.hid (HNO.out fun h => by have h1 := h.2.2 k hk e3; have h2 := HX.out; have h3 := HY.out; omega)
                  clear e3
                  go_wp2
                  go_roundg g
                  case measure => omega
                  case rel => exact ⟨j + 1, by have := HG.out; omega, by go_num, HR2.out, rfl⟩
                · have e4' : y ≤ x := by omega
                  have HLE2 : Hid (∀ q : Nat, q < k + 1 → (q : Int) ≠ need → H q ≤ x) := fun q hq hne => by
                    by_cases e : q = k
                    · subst e; rw [HY.out]; exact e4'
                    · exact HLE.out q (by omega) hne
                  clear e3 e4
                  go_wp2
                  go_roundg (gk - 1)
                  case measure => have := HG2.out; omega
                  case rel => exact ⟨k + 1, by have := HG2.out; omega, by go_num, HLE2.out, rfl⟩
            · obtain rfl : k = n := by have := HG2.out; omega
              have HR2 := Lib.hid (HOK.out ⟨E1.out, by rw [HX.out]; exact E2.out, fun q hq hne => by rw [HX.out]; exact HLE.out q hq hne⟩)
              go_wp2
              try rw [Exit.noGoto_ret]
              go_ret
              exact ⟨by rw [HR2.out]; rfl, rfl⟩
    · have hjz : (n : Int) ≤ (j : Int) := by omega
      have hg0 : gk = 0 := by have := HG.out; omega
      subst hg0
      have hR' : R = -1 := HR.out
      subst hR'
      clear HR
      go_wp2
      try rw [Exit.noGoto_ret]
      go_ret
      exact ⟨rfl, rfl⟩
theorem from_good (hF : Has w A n F) (hI : Has w B n I) (h1 : 1 ≤ n) (h4 : n ≤ 4) (f0 : ∀ j, j < n → 0 ≤ F j) (i0 : ∀ j, j < n → 0 ≤ I j) (n0 : 0 ≤ need) (nn : need < n) :
    Calls Try.prog 6 #[.slice A n c, .slice B n d, .int .i64 need] w fun e w' => e = .returned (.int .i64 (frm n F I need)) ∧ w = w' := by
  have CM := Lib.hid (may_good (c := c) (d := d) hF hI h1 h4 f0 i0 n0 nn)
  have CF := Lib.hid (most_any (c := c) hF h4 need)
  have CI := Lib.hid (most_any (c := d) hI h4 need)
  clear hF hI h1 h4 f0 i0 n0 nn
  unfold frm
  generalize most n F need = x at *
  generalize most n I need = y at *
  by_cases e : x = -1
  · subst e
    rw [if_pos rfl]
    go_enter Try.func6, Try.ntmps6
    go_wp2_with (first
      | (go_at_call 9; (with_reducible refine CM.out.mono ?_); rintro e w' ⟨rfl, rfl⟩)
      | (go_at_call 10; (with_reducible refine CF.out.mono ?_); rintro e w' ⟨rfl, rfl⟩; clear CF)
      | (go_at_call 10; (with_reducible refine CI.out.mono ?_); rintro e w' ⟨rfl, rfl⟩))
    go_ret
    exact ⟨rfl, rfl⟩
  · rw [if_neg e]
    have e' : (x != -1) = true := bne_iff_ne.2 e
    clear e
    go_enter Try.func6, Try.ntmps6
    go_wp2_with (first
      | (go_at_call 9; (with_reducible refine CM.out.mono ?_); rintro e w' ⟨rfl, rfl⟩)
      | (go_at_call 10; (with_reducible refine CF.out.mono ?_); rintro e w' ⟨rfl, rfl⟩; clear CF))
    go_ret
    exact ⟨rfl, rfl⟩
theorem from_zero : Calls Try.prog 6 #[.slice none 0 0, .slice none 0 0, .int .i64 0] w fun e w' => e = .returned (.int .i64 (-1)) ∧ w = w' := by
  have CM := Lib.hid fun (w : World) => may_zero (w := w)
  go_enter Try.func6, Try.ntmps6
  go_wp2_with (go_at_call 9; (with_reducible refine (CM.out _).mono ?_); rintro e w' ⟨rfl, rfl⟩)
  go_ret
  exact ⟨rfl, rfl⟩
end
end Go.Proofs.Ytnecmjanmkmjpaa.GvC
