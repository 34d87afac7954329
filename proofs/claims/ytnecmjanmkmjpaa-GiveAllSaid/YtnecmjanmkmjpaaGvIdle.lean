/-
  Package give (chapter 17): isFree, isIdle, slices.IndexFunc and slices.ContainsFunc with them, Full, Idle, at every slice of frames.
-/
import Derived.Test.YtnecmjanmkmjpaaGv
import Derived.Test.YtnecmjanmkmjpaaTrees
import Derived.Deep.CutRange
namespace Go.Proofs.Ytnecmjanmkmjpaa.GvI
open Go.ChangeShapes Go.WideShapes Go.ChangeAt Go.RowKit
open Go.Proofs.Ytnecmjanmkmjpaa.Mem Go.Proofs.Ytnecmjanmkmjpaa.Blk Go.Proofs.Ytnecmjanmkmjpaa.Cells Go.Proofs.Ytnecmjanmkmjpaa.GvM Go.Proofs.Ytnecmjanmkmjpaa.GvC Go.Proofs.Ytnecmjanmkmjpaa.Stages Go.Proofs.Ytnecmjanmkmjpaa.Trees

/-- A frame. -/
structure Fm where
  st : Int
  pg : Int
  pins : Int
  sh : Int
  dirty : Bool
abbrev Fm.val (f : Fm) : Value := .agg #[.int .i64 f.st, .int .i64 f.pg, .int .i64 f.pins, .int .i64 f.sh, .bool f.dirty]
def Fm.free (f : Fm) : Bool := f.st == 0
def Fm.idle (f : Fm) : Bool := f.st == 1 && f.pins == 0
/-- The slice '.slice A n _' holds the frames f 0, f 1 .. -/
def Fr (w : World) (A : Option Addr) (n : Nat) (f : Nat → Fm) : Prop := 0 < n → ∃ b o, A = some ⟨b, o, none⟩ ∧ ∀ j, j < n →
  w.cell? ⟨b, o + j * 5, none⟩ = some (.int .i64 (f j).st) ∧ w.cell? ⟨b, o + j * 5 + 1, none⟩ = some (.int .i64 (f j).pg) ∧ w.cell? ⟨b, o + j * 5 + 2, none⟩ = some (.int .i64 (f j).pins) ∧
  w.cell? ⟨b, o + j * 5 + 3, none⟩ = some (.int .i64 (f j).sh) ∧ w.cell? ⟨b, o + j * 5 + 4, none⟩ = some (.bool (f j).dirty)

def any (p : Fm → Bool) (n : Nat) (f : Nat → Fm) : Bool := (List.range n).any fun j => p (f j)
def full (n : Nat) (f : Nat → Fm) : Bool := !any Fm.free n f && !any Fm.idle n f
/-- How many of the first j frames are shard s's and so. -/
def cnt (p : Fm → Bool) (f : Nat → Fm) (s : Nat) : Nat → Nat
  | 0 => 0
  | j + 1 => cnt p f s j + if (f j).sh = (s : Int) ∧ p (f j) = true then 1 else 0
theorem cnt_le {p : Fm → Bool} {f : Nat → Fm} {s : Nat} : ∀ {j : Nat}, cnt p f s j ≤ j
  | 0 => Nat.le_refl _
  | j + 1 => by
    have := cnt_le (p := p) (f := f) (s := s) (j := j)
    unfold cnt
    split <;> omega
theorem cnt_in {p : Fm → Bool} {f : Nat → Fm} {s j : Nat} (h : (f j).sh = (s : Int)) (hp : p (f j) = true) : cnt p f s (j + 1) = cnt p f s j + 1 := by
  show cnt p f s j + _ = _
  rw [if_pos ⟨h, hp⟩]
theorem cnt_out {p : Fm → Bool} {f : Nat → Fm} {s j : Nat} (h : ¬ ((f j).sh = (s : Int) ∧ p (f j) = true)) : cnt p f s (j + 1) = cnt p f s j := by
  show cnt p f s j + _ = _
  rw [if_neg h]; rfl
theorem any_true {p : Fm → Bool} {n j : Nat} {f : Nat → Fm} (hj : j < n) (h : p (f j) = true) : any p n f = true := List.any_eq_true.2 ⟨j, List.mem_range.2 hj, h⟩
theorem any_false {p : Fm → Bool} {n : Nat} {f : Nat → Fm} (h : ∀ j, j < n → p (f j) = false) : any p n f = false := List.any_eq_false.2 fun j hj => by rw [h j (List.mem_range.1 hj)]; simp

section
variable {w w' : World} {A : Option Addr} {n m c : Nat} {f : Nat → Fm}
theorem Fr.grow (h : Fr w A n f) (hg : Grow w w') : Fr w' A n f := fun hn => by
  obtain ⟨b, o, rfl, hc⟩ := h hn
  refine ⟨b, o, rfl, fun j hj => ?_⟩
  obtain ⟨h0, h1, h2, h3, h4⟩ := hc j hj
  exact ⟨hg.cellN h0 id, hg.cellN h1 id, hg.cellN h2 id, hg.cellN h3 id, hg.cellN h4 id⟩
theorem isFree_any (x : Fm) : Calls Try.prog 12 #[x.val] w fun e w' => e = .returned (.bool x.free) ∧ Grow w w' := by
  obtain ⟨st, pg, pins, sh, dt⟩ := x
  show Calls _ _ #[.agg #[.int .i64 st, .int .i64 pg, .int .i64 pins, .int .i64 sh, .bool dt]] _ fun e w' => e = .returned (.bool (st == 0)) ∧ Grow w w'
  go_enter Try.func12, Try.ntmps12
  go_wp2
  go_ret
  exact ⟨rfl, (Kept.refl _ _).alloc _⟩
theorem isIdle_any (x : Fm) : Calls Try.prog 13 #[x.val] w fun e w' => e = .returned (.bool x.idle) ∧ Grow w w' := by
  obtain ⟨st, pg, pins, sh, dt⟩ := x
  show Calls _ _ #[.agg #[.int .i64 st, .int .i64 pg, .int .i64 pins, .int .i64 sh, .bool dt]] _ fun e w' => e = .returned (.bool (st == 1 && pins == 0)) ∧ Grow w w'
  by_cases e : st = 1
  · subst e
    go_enter Try.func13, Try.ntmps13
    go_wp2
    go_ret
    exact ⟨rfl, (Kept.refl _ _).alloc _⟩
  · have e' : (st == 1) = false := beq_eq_false_iff_ne.2 e
    clear e
    go_enter Try.func13, Try.ntmps13
    go_wp2
    go_ret
    exact ⟨by rw [e']; rfl, (Kept.refl _ _).alloc _⟩
/-- Where the first one is that is so, or -1. -/
def IxPost (p : Fm → Bool) (n : Nat) (f : Nat → Fm) (w : World) (e : Ending) (w' : World) : Prop := ∃ z : Int, e = .returned (.int .i64 z) ∧ decide (0 ≤ z) = any p n f ∧ Grow w w'
theorem indexFree_any (h : Fr w A n f) (hn : n ≤ 1000) : Calls Try.prog 16 #[.slice A n c, .func (.func 12) #[] #[]] w (IxPost Fm.free n f w) := by
  have H := Lib.hid h
  have HT := Lib.hid fun (w : World) (x : Fm) => isFree_any (w := w) x
  have hnz : (n : Int) ≤ 1000 := by omega
  clear h hn
  go_enter Try.func16, Try.ntmps16
  go_wp2
  go_loopg [8] n (fun gx i wr => ∃ j : Nat, j + gx = n ∧ i = .int .i64 (j : Int) ∧ (∀ i, i < j → (f i).free = false) ∧ Grow w wr)
  case atStart => exact ⟨0, by omega, rfl, fun i hi => absurd hi (Nat.not_lt_zero i), Kept.refl _ _⟩
  case round =>
    obtain ⟨j, hg, rfl, hno, hgr⟩ := hrel
    have HG := Lib.hid hg
    have HNO := Lib.hid hno
    have HGR := Lib.hid hgr
    clear hg hno hgr
    by_cases hj : j < n
    · have hjz : (j : Int) < (n : Int) := by omega
      obtain ⟨b, o, rfl, hc⟩ := (H.out.grow HGR.out) (by omega)
      obtain ⟨r0, r1, r2, r3, r4⟩ := hc j hj
      have HTx := Lib.hid fun (w : World) => HT.out w (f j)
      have HX : Hid (∀ v, (f j).free = v → (v = true → any Fm.free n f = true) ∧ (v = false → ∀ i, i < j + 1 → (f i).free = false)) := fun v hv => ⟨fun e => any_true hj (hv.trans e), fun e i hi => by
        by_cases e2 : i = j
        · subst e2; exact hv.trans e
        · exact HNO.out i (by omega)⟩
      clear hc HT HNO
      generalize f j = x at *
      obtain ⟨st, pg, pins, sh, dt⟩ := x
      dsimp only at r0 r1 r2 r3 r4
      unfold Fm.val at HTx
      dsimp only at HTx
      generalize (Fm.mk st pg pins sh dt).free = v at *
      cases v with
      | true =>
        have HE := Lib.hid ((HX.out _ rfl).1 rfl)
        clear HX
        go_wp2_with (go_at_call 12; (with_reducible refine (HTx.out _).mono ?_); rintro e w' ⟨rfl, hgw⟩; have HG2 := Lib.hid (HGR.out.trans hgw); clear hgw)
        go_ret
        exact ⟨_, rfl, by rw [HE.out]; exact decide_eq_true (by omega), HG2.out⟩
      | false =>
        have HE := Lib.hid ((HX.out _ rfl).2 rfl)
        clear HX
        go_wp2_with (go_at_call 12; (with_reducible refine (HTx.out _).mono ?_); rintro e w' ⟨rfl, hgw⟩; have HG2 := Lib.hid (HGR.out.trans hgw); clear hgw)
        go_roundg (gk - 1)
        case measure => have := HG.out; omega
        case rel => exact ⟨j + 1, by have := HG.out; omega, by go_num, HE.out, HG2.out⟩
    · obtain rfl : j = n := by have := HG.out; omega
      have HE := Lib.hid (any_false (p := Fm.free) HNO.out)
      go_wp2
      go_ret
      exact ⟨_, rfl, by rw [HE.out]; rfl, HGR.out⟩
theorem containsFree_any (h : Fr w A n f) (hn : n ≤ 1000) : Calls Try.prog 14 #[.slice A n c, .func (.func 12) #[] #[]] w fun e w' => e = .returned (.bool (any Fm.free n f)) ∧ Grow w w' := by
  have CI := Lib.hid (indexFree_any (c := c) h hn)
  clear h hn
  go_enter Try.func14, Try.ntmps14
  go_wp2_with (go_at_call 16; (with_reducible refine CI.out.mono ?_); rintro e w' ⟨z, rfl, hz, hgr⟩; have HZ := Lib.hid hz; have HGR := Lib.hid hgr; clear hz hgr)
  go_ret
  exact ⟨by rw [← HZ.out]; rfl, HGR.out⟩
theorem indexIdle_any (h : Fr w A n f) (hn : n ≤ 1000) : Calls Try.prog 16 #[.slice A n c, .func (.func 13) #[] #[]] w (IxPost Fm.idle n f w) := by
  have H := Lib.hid h
  have HT := Lib.hid fun (w : World) (x : Fm) => isIdle_any (w := w) x
  have hnz : (n : Int) ≤ 1000 := by omega
  clear h hn
  go_enter Try.func16, Try.ntmps16
  go_wp2
  go_loopg [8] n (fun gx i wr => ∃ j : Nat, j + gx = n ∧ i = .int .i64 (j : Int) ∧ (∀ i, i < j → (f i).idle = false) ∧ Grow w wr)
  case atStart => exact ⟨0, by omega, rfl, fun i hi => absurd hi (Nat.not_lt_zero i), Kept.refl _ _⟩
  case round =>
    obtain ⟨j, hg, rfl, hno, hgr⟩ := hrel
    have HG := Lib.hid hg
    have HNO := Lib.hid hno
    have HGR := Lib.hid hgr
    clear hg hno hgr
    by_cases hj : j < n
    · have hjz : (j : Int) < (n : Int) := by omega
      obtain ⟨b, o, rfl, hc⟩ := (H.out.grow HGR.out) (by omega)
      obtain ⟨r0, r1, r2, r3, r4⟩ := hc j hj
      have HTx := Lib.hid fun (w : World) => HT.out w (f j)
      have HX : Hid (∀ v, (f j).idle = v → (v = true → any Fm.idle n f = true) ∧ (v = false → ∀ i, i < j + 1 → (f i).idle = false)) := fun v hv => ⟨fun e => any_true hj (hv.trans e), fun e i hi => by
        by_cases e2 : i = j
        · subst e2; exact hv.trans e
        · exact HNO.out i (by omega)⟩
      clear hc HT HNO
      generalize f j = x at *
      obtain ⟨st, pg, pins, sh, dt⟩ := x
      dsimp only at r0 r1 r2 r3 r4
      unfold Fm.val at HTx
      dsimp only at HTx
      generalize (Fm.mk st pg pins sh dt).idle = v at *
      cases v with
      | true =>
        have HE := Lib.hid ((HX.out _ rfl).1 rfl)
        clear HX
        go_wp2_with (go_at_call 13; (with_reducible refine (HTx.out _).mono ?_); rintro e w' ⟨rfl, hgw⟩; have HG2 := Lib.hid (HGR.out.trans hgw); clear hgw)
        go_ret
        exact ⟨_, rfl, by rw [HE.out]; exact decide_eq_true (by omega), HG2.out⟩
      | false =>
        have HE := Lib.hid ((HX.out _ rfl).2 rfl)
        clear HX
        go_wp2_with (go_at_call 13; (with_reducible refine (HTx.out _).mono ?_); rintro e w' ⟨rfl, hgw⟩; have HG2 := Lib.hid (HGR.out.trans hgw); clear hgw)
        go_roundg (gk - 1)
        case measure => have := HG.out; omega
        case rel => exact ⟨j + 1, by have := HG.out; omega, by go_num, HE.out, HG2.out⟩
    · obtain rfl : j = n := by have := HG.out; omega
      have HE := Lib.hid (any_false (p := Fm.idle) HNO.out)
      go_wp2
      go_ret
      exact ⟨_, rfl, by rw [HE.out]; rfl, HGR.out⟩
theorem containsIdle_any (h : Fr w A n f) (hn : n ≤ 1000) : Calls Try.prog 14 #[.slice A n c, .func (.func 13) #[] #[]] w fun e w' => e = .returned (.bool (any Fm.idle n f)) ∧ Grow w w' := by
  have CI := Lib.hid (indexIdle_any (c := c) h hn)
  clear h hn
  go_enter Try.func14, Try.ntmps14
  go_wp2_with (go_at_call 16; (with_reducible refine CI.out.mono ?_); rintro e w' ⟨z, rfl, hz, hgr⟩; have HZ := Lib.hid hz; have HGR := Lib.hid hgr; clear hz hgr)
  go_ret
  exact ⟨by rw [← HZ.out]; rfl, HGR.out⟩
theorem full_any (h : Fr w A n f) (hn : n ≤ 1000) : Calls Try.prog 8 #[.slice A n c] w fun e w' => e = .returned (.bool (full n f)) ∧ Grow w w' := by
  have CF := Lib.hid (containsFree_any (c := c) h hn)
  have CI := Lib.hid fun (w' : World) (hg : Grow w w') => containsIdle_any (c := c) (h.grow hg) hn
  unfold full
  generalize any Fm.free n f = x at *
  generalize any Fm.idle n f = y at *
  clear h hn
  cases x with
  | true =>
    go_enter Try.func8, Try.ntmps8
    go_wp2_with (go_at_call 14; (with_reducible refine CF.out.mono ?_); rintro e w1 ⟨rfl, hgr⟩; have HG1 := Lib.hid hgr; clear hgr)
    go_ret
    exact ⟨rfl, HG1.out⟩
  | false =>
    go_enter Try.func8, Try.ntmps8
    go_wp2_with (first
      | (go_at_call 14; (with_reducible refine CF.out.mono ?_); rintro e w1 ⟨rfl, hgr⟩; have HG1 := Lib.hid hgr; clear hgr)
      | (go_at_call 14; (with_reducible refine (CI.out _ HG1.out).mono ?_); rintro e w2 ⟨rfl, hgr⟩; have HG2 := Lib.hid (HG1.out.trans hgr); clear hgr))
    go_ret
    exact ⟨rfl, HG2.out⟩
end
end Go.Proofs.Ytnecmjanmkmjpaa.GvI
