/-
  The document's list (chapter 4, lavaboref4): its steps.
-/
import Derived.Test.YtcmhkknoffeebaaListRef
namespace Go.Proofs.Ytcmhkknoffeebaa.ListS
open Go.ChangeShapes Go.WideShapes Go.ChangeAt Go.RowKit
open Go.Proofs.Ytcmhkknoffeebaa.Mem Go.Proofs.Ytcmhkknoffeebaa.Blk Go.Proofs.Ytcmhkknoffeebaa.ListM Go.Proofs.Ytcmhkknoffeebaa.Rowed Go.Proofs.Ytcmhkknoffeebaa.ListC Go.Proofs.Ytcmhkknoffeebaa.ListD Go.Proofs.Ytcmhkknoffeebaa.ListR Go.Proofs.Ytcmhkknoffeebaa.Stages

section
variable {w : World} {m n : Nat} {F : Nat → Prop} {zs : List Nat}

/-! ### The steps that turn it -/
def RPost (m n : Nat) (F : Nat → Prop) (w : World) (v : Value) (zs : List Nat) (e : Ending) (w' : World) : Prop :=
  e = .returned v ∧ RefAt w' m n F zs ∧ Kept (· = m) w w'

end
end Go.Proofs.Ytcmhkknoffeebaa.ListS
