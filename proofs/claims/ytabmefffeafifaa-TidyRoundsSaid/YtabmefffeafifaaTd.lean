/-
  Package tidy (chapter 21): mayGo, around, Pick, Due, at every slice of frames.
-/
import Derived.Test.YtabmefffeafifaaFrm
import Derived.Test.YtabmefffeafifaaTdMath
import Derived.RegionTactic
import Derived.WalkSpells
namespace Go.Proofs.Ytabmefffeafifaa.TdC
open Go.ChangeShapes Go.WideShapes Go.ChangeAt Go.RowKit
open Go.Proofs.Ytabmefffeafifaa.Mem Go.Proofs.Ytabmefffeafifaa.Blk Go.Proofs.Ytabmefffeafifaa.Cells Go.Proofs.Ytabmefffeafifaa.GsC Go.Proofs.Ytabmefffeafifaa.FrmC Go.Proofs.Ytabmefffeafifaa.TdM Go.Proofs.Ytabmefffeafifaa.Stages

def may (f : Fm) : Bool := f.st == 1 && f.dirty && f.pins == 0
def used (f : Fm) : Bool := f.st == 1
def soiled (f : Fm) : Bool := f.st == 1 && f.dirty
/-- The places that Pick tells. -/
abbrev pick (f : Nat → Fm) (n a k j : Nat) : List Nat := pk (fun q => may (f q)) n a k j
abbrev ints (l : List Nat) : List Int := l.map fun (x : Nat) => (x : Int)
/-- Is it time? -/
def dueT (f : Nat → Fm) (n : Nat) : Bool := decide (0 < cnt (fun q => soiled (f q)) n) && decide (cnt (fun q => used (f q)) n ≤ 2 * cnt (fun q => soiled (f q)) n)

section
variable {w w' : World} {A : Option Addr} {n m c : Nat} {f : Nat → Fm}
theorem mayGo_any (x : Fm) : Calls Try.prog 8 #[x.val] w fun e w' => e = .returned (.bool (may x)) ∧ Grow w w' := by
  obtain ⟨st, pg, pins, sh, dt⟩ := x
  show Calls _ _ #[.agg #[.int .i64 st, .int .i64 pg, .int .i64 pins, .int .i64 sh, .bool dt]] _ fun e w' => e = .returned (.bool (st == 1 && dt && pins == 0)) ∧ Grow w w'
  by_cases e : st = 1
  · subst e
    cases dt with
    | true =>
      go_enter Try.func8, Try.ntmps8
      go_wp2
      go_ret
      exact ⟨rfl, (Kept.refl _ _).alloc _⟩
    | false =>
      go_enter Try.func8, Try.ntmps8
      go_wp2
      go_ret
      exact ⟨rfl, (Kept.refl _ _).alloc _⟩
  · have e' : (st == 1) = false := beq_eq_false_iff_ne.2 e
    clear e
    go_enter Try.func8, Try.ntmps8
    go_wp2
    go_ret
    exact ⟨by rw [e']; rfl, (Kept.refl _ _).alloc _⟩
theorem around_any {a j : Nat} (ha : a ≤ 1000000) (hj : j < n) (hn : n ≤ 1000) : Calls Try.prog 7 #[.int .i64 (a : Int), .int .i64 (j : Int), .int .i64 (n : Int)] w fun e w' => e = .returned (.int .i64 (((a + j) % n : Nat) : Int)) ∧ w = w' := by
  have haz : (a : Int) ≤ 1000000 := by omega
  have hnz : (n : Int) ≤ 1000 := by omega
  have hjz : (j : Int) < (n : Int) := by omega
  have hn0 : (0 : Int) < (n : Int) := by omega
  have h0 : ¬ (n : Int) = 0 := by omega
  obtain ⟨r, hr⟩ : ∃ r : Nat, r = a % n := ⟨_, rfl⟩
  have hm : (a : Int) % (n : Int) = (r : Int) := by rw [hr]; rfl
  have hrz : (r : Int) < (n : Int) := by have := Nat.mod_lt a (show 0 < n by omega); omega
  obtain ⟨s, hs⟩ : ∃ s : Nat, s = (r + j) % n := ⟨_, rfl⟩
  have hm2 : ((r : Int) + (j : Int)) % (n : Int) = (s : Int) := by rw [hs]; rfl
  have e : (a + j) % n = s := by rw [hs, hr, Nat.mod_add_mod]
  rw [e]
  clear e hs hr ha hj hn
  go_enter Try.func7, Try.ntmps7
  go_wp2
  go_ret
  exact ⟨congrArg (fun z => Ending.returned (Value.int .i64 z)) hm2, rfl⟩
end
end Go.Proofs.Ytabmefffeafifaa.TdC
