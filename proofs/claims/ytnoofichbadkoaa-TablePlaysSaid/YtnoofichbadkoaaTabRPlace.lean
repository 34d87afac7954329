/-
  The document's place (lavaboref4).
-/
import Derived.Test.YtnoofichbadkoaaTab
namespace Go.Proofs.Ytnoofichbadkoaa.TabRP
open Go.ChangeShapes Go.WideShapes Go.ChangeAt Go.RowKit
open Go.Proofs.Ytnoofichbadkoaa.Mem Go.Proofs.Ytnoofichbadkoaa.Blk Go.Proofs.Ytnoofichbadkoaa.Cells Go.Proofs.Ytnoofichbadkoaa.TabM Go.Proofs.Ytnoofichbadkoaa.TabC Go.Proofs.Ytnoofichbadkoaa.Stages
variable {w : World}
theorem rplace_good (key : Int) (n : Nat) (h0 : 0 ≤ key) (h1 : 1 ≤ n) (h2 : n ≤ 1024) :
    Calls Try.prog 23 #[.int .i64 key, .int .i64 (n : Int)] w fun e w' => e = .returned (.int .i64 ((place key n : Nat) : Int)) ∧ w = w' := by
  have h1' : (1 : Int) ≤ (n : Int) := by omega
  have h2' : (n : Int) ≤ 1024 := by omega
  go_enter Try.func23, Try.ntmps23
  go_wp2
  go_ret
  exact ⟨by rw [← place_wrap h1 h2]; rfl, rfl⟩
theorem rplace_bad (key n : Int) (h : ¬ (0 ≤ key ∧ 1 ≤ n ∧ n ≤ 1024)) :
    Calls Try.prog 23 #[.int .i64 key, .int .i64 n] w fun e w' => e = .returned (.int .i64 (-1)) ∧ w = w' := by
  by_cases h1 : n < 1
  · clear h
    go_enter Try.func23, Try.ntmps23
    go_wp2
    go_ret
    exact ⟨rfl, rfl⟩
  · have h1' : 1 ≤ n := by omega
    by_cases h2 : 1024 < n
    · clear h
      go_enter Try.func23, Try.ntmps23
      go_wp2
      go_ret
      exact ⟨rfl, rfl⟩
    · have h2' : n ≤ 1024 := by omega
      have h0 : key < 0 := by omega
      clear h
      go_enter Try.func23, Try.ntmps23
      go_wp2
      go_ret
      exact ⟨rfl, rfl⟩
end Go.Proofs.Ytnoofichbadkoaa.TabRP
