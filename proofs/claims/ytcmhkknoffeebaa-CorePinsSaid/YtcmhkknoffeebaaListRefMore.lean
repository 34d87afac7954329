/-
  The document's list (chapter 4, lavaboref4): Back and Out.
-/
import Derived.Test.YtcmhkknoffeebaaListRefOps
namespace Go.Proofs.Ytcmhkknoffeebaa.ListT
open Go.ChangeShapes Go.WideShapes Go.ChangeAt Go.RowKit
open Go.Proofs.Ytcmhkknoffeebaa.Mem Go.Proofs.Ytcmhkknoffeebaa.Blk Go.Proofs.Ytcmhkknoffeebaa.ListM Go.Proofs.Ytcmhkknoffeebaa.Rowed Go.Proofs.Ytcmhkknoffeebaa.ListC Go.Proofs.Ytcmhkknoffeebaa.ListD Go.Proofs.Ytcmhkknoffeebaa.ListR Go.Proofs.Ytcmhkknoffeebaa.ListS Go.Proofs.Ytcmhkknoffeebaa.Stages

section
variable {w : World} {m n : Nat} {F : Nat → Prop} {zs : List Nat}

theorem ints_append (a b : List Nat) : ints (a ++ b) = ints a ++ ints b := by simp [ints]
theorem sl_one (w1 : World) (k : Nat) : Sl (w1.alloc (.cells #[.int .i64 (k : Int)] 3)) (w1.heap.size + 1) .i64 (some ⟨w1.heap.size, 0, none⟩) 1 [(k : Int)] :=
  ⟨rfl, fun _ => ⟨_, _, rfl, by omega, fun j hj => by
    have : j = 0 := by omega
    subst this
    exact cell_new1 _ _ _⟩⟩
/-- Where 'without' lays what is left. -/
def Without (w : World) (i : Nat) (zs : List Nat) (e : Ending) (w' : World) : Prop :=
  ∃ A c, e = .returned (.slice A (zs.length - 1) c) ∧ Sl w' w'.heap.size .i64 A (zs.length - 1) (ints (zs.eraseIdx i)) ∧ zs.length - 1 ≤ c ∧ c ≤ maxLen ∧ (∀ x, A = some x → w.heap.size ≤ x.block) ∧ Grow w w'
theorem erase_idx (hn : zs.Nodup) {k : Nat} (hk : k ∈ zs) : zs.eraseIdx (zs.idxOf k) = zs.erase k := by
  rw [List.erase_eq_eraseIdx_of_idxOf rfl]
end
end Go.Proofs.Ytcmhkknoffeebaa.ListT
