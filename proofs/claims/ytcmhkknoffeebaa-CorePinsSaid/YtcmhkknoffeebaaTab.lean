/-
  What the functions of package table compute (chapter 5), at every table and argument: how a table lies in memory; Place, New, fresh, search, find.
-/
import Derived.Test.YtcmhkknoffeebaaRows
import Derived.Test.YtcmhkknoffeebaaCells
import Derived.Test.YtcmhkknoffeebaaTabMath
import Derived.Deep.Cut
import Derived.Deep.DeepCutAuto
import Derived.Deep.CutBlock
import Derived.WalkSpells
namespace Go.Proofs.Ytcmhkknoffeebaa.TabC
open Go.ChangeShapes Go.WideShapes Go.ChangeAt Go.RowKit
open Go.Proofs.Ytcmhkknoffeebaa.Mem Go.Proofs.Ytcmhkknoffeebaa.Blk Go.Proofs.Ytcmhkknoffeebaa.Cells Go.Proofs.Ytcmhkknoffeebaa.TabM Go.Proofs.Ytcmhkknoffeebaa.Stages

/-- The cell j of slots. -/
def scell (T : Tb) (j : Nat) : Value := if j % 2 = 0 then .int .i64 (T.K (j / 2)) else .int .i64 (T.V (j / 2))
theorem scell0 (T : Tb) (p : Nat) : scell T (p * 2) = .int .i64 (T.K p) := by
  unfold scell; rw [if_pos (by omega), show p * 2 / 2 = p by omega]
theorem scell1 (T : Tb) (p : Nat) : scell T (p * 2 + 1) = .int .i64 (T.V p) := by
  unfold scell; rw [if_neg (by omega), show (p * 2 + 1) / 2 = p by omega]

/-- Slots in the block D. -/
def Slots (w : World) (D : Nat) (T : Tb) : Prop := Row w D (T.n * 2) (scell T)
section
variable {w w' : World} {D p : Nat} {T : Tb} {F : Nat → Prop}
theorem Slots.k (h : Slots w D T) (hp : p < T.n) : w.cell? ⟨D, p * 2, none⟩ = some (.int .i64 (T.K p)) := by rw [Row.cell h (by omega), scell0]
theorem Slots.v (h : Slots w D T) (hp : p < T.n) : w.cell? ⟨D, p * 2 + 1, none⟩ = some (.int .i64 (T.V p)) := by rw [Row.cell h (by omega), scell1]
theorem Slots.set (h : Slots w D T) (p : Nat) (k v : Int) : Slots ((w.setCell ⟨D, p * 2, none⟩ (.int .i64 k)).setCell ⟨D, p * 2 + 1, none⟩ (.int .i64 v)) D (T.set p k v) := by
  refine ((Row.set h (p * 2) _).set (p * 2 + 1) _).congr fun i hi => ?_
  by_cases e1 : i = p * 2 + 1
  · rw [if_pos e1, e1, scell1]
    show _ = Value.int .i64 (upd T.V p v p)
    rw [upd_same]
  · rw [if_neg e1]
    by_cases e0 : i = p * 2
    · rw [if_pos e0, e0, scell0]
      show _ = Value.int .i64 (upd T.K p k p)
      rw [upd_same]
    · rw [if_neg e0]
      unfold scell
      have : i / 2 ≠ p := by omega
      show _ = if i % 2 = 0 then Value.int .i64 (upd T.K p k (i / 2)) else Value.int .i64 (upd T.V p v (i / 2))
      rw [upd_other _ _ this, upd_other _ _ this]
theorem Slots.congr {U : Tb} (h : Slots w D T) (hn : T.n = U.n) (hk : ∀ j, j < T.n → T.K j = U.K j) (hv : ∀ j, j < T.n → T.V j = U.V j) : Slots w D U := by
  unfold Slots at *
  rw [← hn]
  refine Row.congr h fun i hi => ?_
  unfold scell
  rw [hk _ (by omega), hv _ (by omega)]
end

/-- The table at block d, its slots at block D; c: its count. -/
structure Raw (w : World) (d D : Nat) (T : Tb) (c : Int) : Prop where
  hd : Row w d 2 fun j => if j = 0 then .slice (some ⟨D, 0, none⟩) T.n T.n else .int .i64 c
  sl : Slots w D T
  ne : d ≠ D
  pos : 1 ≤ T.n
  size : T.n ≤ 1024
/-- The blocks of a table. -/
def Own (d D k : Nat) : Prop := k = d ∨ k = D
section
variable {w w' : World} {d D p : Nat} {T : Tb} {c : Int} {F : Nat → Prop}
theorem Raw.c0 (h : Raw w d D T c) : w.cell? ⟨d, 0, none⟩ = some (.slice (some ⟨D, 0, none⟩) T.n T.n) := h.hd.cell (i := 0) (by omega)
theorem Raw.c1 (h : Raw w d D T c) : w.cell? ⟨d, 1, none⟩ = some (.int .i64 c) := h.hd.cell (i := 1) (by omega)
theorem Raw.f0 (h : Raw w d D T c) (j : Nat) : w.frozen? ⟨d, j, none⟩ = false := h.hd.frozen j
theorem Raw.f1 (h : Raw w d D T c) (j : Nat) : w.frozen? ⟨D, j, none⟩ = false := Row.frozen h.sl j
theorem Raw.kept (h : Raw w d D T c) (hk : Kept F w w') (hF : ∀ k, F k → ¬ Own d D k) : Raw w' d D T c :=
  ⟨h.hd.kept hk fun x => hF _ x (.inl rfl), Row.kept h.sl hk fun x => hF _ x (.inr rfl), h.ne, h.pos, h.size⟩
theorem Raw.grow (h : Raw w d D T c) (hk : Grow w w') : Raw w' d D T c := h.kept hk fun _ x => x.elim
theorem Raw.lt (h : Raw w d D T c) : d < w.heap.size ∧ D < w.heap.size := ⟨h.hd.lt, Row.lt h.sl⟩
theorem Raw.count (h : Raw w d D T c) (c' : Int) : Raw (w.setCell ⟨d, 1, none⟩ (.int .i64 c')) d D T c' :=
  ⟨(h.hd.set 1 _).congr fun i hi => by
    by_cases e : i = 1
    · subst e; rfl
    · have : i = 0 := by omega
      subst this; rfl, Row.other h.sl h.ne.symm _, h.ne, h.pos, h.size⟩
theorem Raw.set (h : Raw w d D T c) (p : Nat) (k v : Int) : Raw ((w.setCell ⟨D, p * 2, none⟩ (.int .i64 k)).setCell ⟨D, p * 2 + 1, none⟩ (.int .i64 v)) d D (T.set p k v) c :=
  ⟨(h.hd.other h.ne _).other h.ne _, h.sl.set p k v, h.ne, h.pos, h.size⟩
theorem Raw.congr {U : Tb} (h : Raw w d D T c) (hn : T.n = U.n) (hk : ∀ j, j < T.n → T.K j = U.K j) (hv : ∀ j, j < T.n → T.V j = U.V j) : Raw w d D U c := by
  refine ⟨?_, h.sl.congr hn hk hv, h.ne, hn ▸ h.pos, hn ▸ h.size⟩
  rw [← hn]
  exact h.hd
/-- A table. -/
def TabAt (w : World) (d D : Nat) (T : Tb) : Prop := Raw w d D T (T.cnt : Int)

/-! ### Place -/
theorem place_good (key : Int) (n : Nat) (h0 : 0 ≤ key) (h1 : 1 ≤ n) (h2 : n ≤ 1024) :
    Calls Try.prog 56 #[.int .i64 key, .int .i64 (n : Int)] w fun e w' => e = .returned (.int .i64 ((place key n : Nat) : Int)) ∧ w = w' := by
  have h1' : (1 : Int) ≤ (n : Int) := by omega
  have h2' : (n : Int) ≤ 1024 := by omega
  go_enter Try.func56, Try.ntmps56
  go_wp2
  go_ret
  exact ⟨by rw [← place_wrap h1 h2]; rfl, rfl⟩
theorem place_bad (key n : Int) (h : ¬ (0 ≤ key ∧ 1 ≤ n ∧ n ≤ 1024)) :
    Calls Try.prog 56 #[.int .i64 key, .int .i64 n] w fun e w' => e = .returned (.int .i64 (-1)) ∧ w = w' := by
  have hb : (decide (key < 0) || decide (n < 1) || decide (1024 < n)) = true := by
    simp only [Bool.or_eq_true, decide_eq_true_eq]
    omega
  by_cases h0 : key < 0
  · clear hb h
    go_enter Try.func56, Try.ntmps56
    go_wp2
    go_ret
    exact ⟨rfl, rfl⟩
  · have h0' : 0 ≤ key := by omega
    by_cases h1 : n < 1
    · clear hb h
      go_enter Try.func56, Try.ntmps56
      go_wp2
      go_ret
      exact ⟨rfl, rfl⟩
    · have h1' : 1 ≤ n := by omega
      have h2 : 1024 < n := by omega
      clear hb h
      go_enter Try.func56, Try.ntmps56
      go_wp2
      go_ret
      exact ⟨rfl, rfl⟩

/-! ### fresh -/
/-- The first i slots as if never used. -/
def wipe (T : Tb) (i : Nat) : Tb := ⟨T.n, fun j => if j < i then -1 else T.K j, fun j => if j < i then 0 else T.V j⟩
theorem wipe_zero (T : Tb) : wipe T 0 = T := rfl
theorem wipe_step (T : Tb) (i : Nat) : (wipe T i).set i (-1) 0 = wipe T (i + 1) := by
  unfold wipe Tb.set
  congr 1
  · funext j
    unfold upd
    dsimp only
    by_cases e : j = i
    · rw [if_pos e, if_pos (by omega)]
    · rw [if_neg e]
      by_cases e2 : j < i
      · rw [if_pos e2, if_pos (by omega)]
      · rw [if_neg e2, if_neg (by omega)]
  · funext j
    unfold upd
    dsimp only
    by_cases e : j = i
    · rw [if_pos e, if_pos (by omega)]
    · rw [if_neg e]
      by_cases e2 : j < i
      · rw [if_pos e2, if_pos (by omega)]
      · rw [if_neg e2, if_neg (by omega)]
theorem fresh_any (h : Raw w d D T c) :
    Calls Try.prog 53 #[.pointer (some ⟨d, 0, none⟩)] w fun e w' => e = .returned (.tuple #[]) ∧ Raw w' d D (fresh T.n) c ∧ Kept (Own d D) w w' := by
  have c0 := h.c0
  have hsz := h.size
  have hpos := h.pos
  have hszi : (T.n : Int) ≤ 1024 := by omega
  have H := Lib.hid h
  clear h
  go_enter Try.func53, Try.ntmps53
  go_wp2
  clear c0
  go_loopg [8] T.n (fun g i wr => ∃ j : Nat, j + g = T.n ∧ i = .int .i64 (j : Int) ∧ Raw wr d D (wipe T j) c ∧ Kept (Own d D) w wr)
  case atStart => exact ⟨0, by omega, rfl, H.out, Kept.refl _ _⟩
  case round =>
    obtain ⟨j, hg, rfl, hr, hk⟩ := hrel
    have HR := Lib.hid hr
    have HK := Lib.hid hk
    have HG := Lib.hid hg
    have c0 : wr.cell? ⟨d, 0, none⟩ = some (.slice (some ⟨D, 0, none⟩) T.n T.n) := hr.c0
    have f1 := hr.f1
    by_cases hj : j < T.n
    · have hj' : (j : Int) < (T.n : Int) := by omega
      have k0 := hr.sl.k (p := j) hj
      have k1 := hr.sl.v (p := j) hj
      clear hr hk hg
      go_wp2
      go_roundg (gk - 1)
      case measure => have := HG.out; omega
      case rel =>
        refine ⟨j + 1, by have := HG.out; omega, rfl, ?_, (HK.out.setCell (fun _ => .inr rfl) _).setCell (fun _ => .inr rfl) _⟩
        rw [← wipe_step]
        exact HR.out.set j (-1) 0
    · have hj' : (T.n : Int) ≤ (j : Int) := by omega
      clear hr hk hg
      go_wp2
      go_end0
      refine ⟨rfl, HR.out.congr rfl (fun i hi => ?_) (fun i hi => ?_), HK.out⟩
      · exact if_pos (by have : i < T.n := hi; omega)
      · exact if_pos (by have : i < T.n := hi; omega)
end
#print axioms fresh_any
end Go.Proofs.Ytcmhkknoffeebaa.TabC
