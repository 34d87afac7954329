/-
  Plain steps of a device (chapter 3): what an access, a write, a sync leave of its numbers.
-/
import Derived.Test.YtfjcbcpfhjaeeaaTold3
namespace Go.Proofs.Ytfjcbcpfhjaeeaa.DevS
open Go.ChangeShapes Go.WideShapes Go.ChangeAt Go.RowKit
open Go.Proofs.Ytfjcbcpfhjaeeaa.SumM Go.Proofs.Ytfjcbcpfhjaeeaa.Mem Go.Proofs.Ytfjcbcpfhjaeeaa.Blk Go.Proofs.Ytfjcbcpfhjaeeaa.PageM Go.Proofs.Ytfjcbcpfhjaeeaa.Str Go.Proofs.Ytfjcbcpfhjaeeaa.Dev Go.Proofs.Ytfjcbcpfhjaeeaa.LibC Go.Proofs.Ytfjcbcpfhjaeeaa.DevC Go.Proofs.Ytfjcbcpfhjaeeaa.DevM Go.Proofs.Ytfjcbcpfhjaeeaa.DevY Go.Proofs.Ytfjcbcpfhjaeeaa.DevK Go.Proofs.Ytfjcbcpfhjaeeaa.DevX Go.Proofs.Ytfjcbcpfhjaeeaa.DevN Go.Proofs.Ytfjcbcpfhjaeeaa.Told3

/-- What an access makes of a device that is not down. -/
theorem accS_up {S : Dv} (h : S.down = false) : (accS S).n = S.n + 1 ∧ (accS S).bad = S.bad - 1 ∧ (accS S).down = false := by
  unfold accS
  rw [h]
  exact ⟨rfl, rfl, rfl⟩
theorem accC_up {S : Dv} (h : S.down = false) : accC S = if S.bad = 1 then 9 else 0 := by
  unfold accC
  rw [h]; rfl
theorem cur_acc (S : Dv) (p : Nat) : cur (accS S) p = cur S p := by unfold cur; rw [accS_wr, accS_dur]
theorem cur_put (S : Dv) (k : Nat) (z : List Int) (p : Nat) : cur (putS S k z) p = if p = k then z else cur S p := by
  unfold cur putS
  show ((if p = k then some z else S.wr p).getD (S.dur p)) = _
  split <;> rfl
theorem cur_flush (S : Dv) (p : Nat) : cur (flushS S) p = cur S p := rfl
theorem hasI_of {S : Dv} {k : Nat} (h : k < S.N) : hasI S (k : Int) = true := by simp [hasI, h]

end Go.Proofs.Ytfjcbcpfhjaeeaa.DevS
