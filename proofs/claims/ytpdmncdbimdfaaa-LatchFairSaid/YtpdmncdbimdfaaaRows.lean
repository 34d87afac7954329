/-
  No cell of these rows narrows 'for every input' (looked for: loops, veiled, ifaces, maps, wideKeys, modest, calm, conditions, laid).
  DERIVED. THE GIVEN ROWS OF THIS SEAT. 2 by the template 'for every input the law returns true; each argument reads behind the call as it read before'; 0 by the template 'total and deterministic' (their statements: YtpdmncdbimdfaaaTotals.lean).
  GIVEN WITH THE SEED: the statements are not yours to turn. If you find one false, say at which input.
  Laid BY PROGRAM, IN A SANDBOX (cutbox-rows.mjs): the forced cells as the released guide's own fill.sh prints them over the translation bd636f434f93d041… (all of the seat's roots in one cut). By AI agents, Wed Nov 11 2026. No macro, syntax, notation, axiom, sorry.
-/
import Derived.Test.YtpdmncdbimdfaaaChecked
import GoSem.Claim
import GoSem.ClaimJoined
import GoSem.ClaimMapViews
import Derived.JoinedTies
import Derived.KernelRfl
namespace Go.Proofs.Ytpdmncdbimdfaaa
/- THE CELL 'sum', in the pinned program and in every row, IS THE sha256 OF THE DUMP (.gsa) THAT YtpdmncdbimdfaaaProg.lean LOADS. Nothing in Lean hashes anything: it is a label: what it is worth is what the hold of that sum in a sandbox is worth. -/
noncomputable def Try.pinned : Pinned := { name := "ytpdmncdbimdfaaa", sum := "bd636f434f93d0412d045facf056a5b209dbf3bf6686e4bcbc9e45d0b83d2e2a", checked := Try.checked }
namespace Rows
def none {H : Type} : Left H := { results := [], args := [] }

/-- 'lavabolaw6.LatchFair': WHATEVER THE INPUT: true; the input reads as it did. -/
def latchFairSpec : ChangeSpec := { name := "latchFair", fn := fun _ => fun
  | [d] => { results := [.lit (.bool true)], args := [d] }
  | _ => none }
def latchFairRow : OpenClaim := { program := "ytpdmncdbimdfaaa", sum := "bd636f434f93d0412d045facf056a5b209dbf3bf6686e4bcbc9e45d0b83d2e2a", func := "lavabo/lavabolaw6.LatchFair", spec := "latchFair", inPlace := ["slices.overlaps[int]"], unfollowed := true, recurses := true, apart := false }
def LatchFairSaid : Prop := latchFairRow.holds Try.pinned (OpenSpec.ofChange latchFairSpec)

/-- ITS FALSE NEIGHBOUR: 'it returns false'. Refute it at one input. -/
def latchFairWrong : ChangeSpec := { name := "latchFair", fn := fun _ => fun
  | [d] => { results := [.lit (.bool false)], args := [d] }
  | _ => none }
def LatchFairWrongFalsely : Prop := latchFairRow.holds Try.pinned (OpenSpec.ofChange latchFairWrong)

/-- 'lavabolaw6.LatchMany': WHATEVER THE INPUT: true; the input reads as it did. -/
def latchManySpec : ChangeSpec := { name := "latchMany", fn := fun _ => fun
  | [d1, d2] => { results := [.lit (.bool true)], args := [d1, d2] }
  | _ => none }
def latchManyRow : OpenClaim := { program := "ytpdmncdbimdfaaa", sum := "bd636f434f93d0412d045facf056a5b209dbf3bf6686e4bcbc9e45d0b83d2e2a", func := "lavabo/lavabolaw6.LatchMany", spec := "latchMany", inPlace := ["slices.overlaps[int]"], unfollowed := true, recurses := true, apart := false }
def LatchManySaid : Prop := latchManyRow.holds Try.pinned (OpenSpec.ofChange latchManySpec)

/-- ITS FALSE NEIGHBOUR: 'it returns false'. Refute it at one input. -/
def latchManyWrong : ChangeSpec := { name := "latchMany", fn := fun _ => fun
  | [d1, d2] => { results := [.lit (.bool false)], args := [d1, d2] }
  | _ => none }
def LatchManyWrongFalsely : Prop := latchManyRow.holds Try.pinned (OpenSpec.ofChange latchManyWrong)

/- THE SECOND FORM. 'bulk': how many values and letters a reading holds, each counted each time it is reached (what is shared counts as often as it is met; a slice's spare places count too). A statement '..UptoSaid' is the law's where the arguments, and the package variables that the reading takes, are together of bulk at most 1048576: NARROWER than '..Said'. Prove '..Said' where nothing that the law and all that it calls make is longer than what came in: it says more and counts as full. Else prove '..UptoSaid'. A law counts once. -/
mutual
def uptoBulk {H : Type} : DataW H → Nat
  | .lit (.string bytes) => bytes.length + 1
  | .lit _ => 1
  | .nil => 1
  | .ptr d => uptoBulk d + 1
  | .slice elems spare => uptoBulkAll elems + uptoBulkAll spare + 1
  | .agg parts => uptoBulkAll parts + 1
  | .iface _ d => uptoBulk d + 1
  | .map entries => uptoBulkEntries entries + 1
  | .held _ => 1
def uptoBulkAll {H : Type} : List (DataW H) → Nat
  | [] => 0
  | d :: r => uptoBulk d + uptoBulkAll r
def uptoBulkEntries {H : Type} : List (Lit × DataW H) → Nat
  | [] => 0
  | x :: r => uptoBulkEntry x + uptoBulkEntries r
def uptoBulkEntry {H : Type} : Lit × DataW H → Nat
  | (.string bytes, d) => bytes.length + uptoBulk d + 1
  | (_, d) => uptoBulk d + 1
 end
def uptoSmall : (H : Type) → List (DataW H) → Bool := fun _ ds => decide (uptoBulkAll ds ≤ 1048576)
def OpenSpec.upto (s : _root_.Go.ChangeSpec) : _root_.Go.OpenSpec := { _root_.Go.OpenSpec.ofChange s with cond := some uptoSmall }

/-- 'lavabolaw6.LatchFair', WHERE WHAT IT READS IS OF BULK AT MOST 1048576: true; the input reads as it did. -/
def latchFairUptoRow : OpenClaim := { program := "ytpdmncdbimdfaaa", sum := "bd636f434f93d0412d045facf056a5b209dbf3bf6686e4bcbc9e45d0b83d2e2a", func := "lavabo/lavabolaw6.LatchFair", spec := "latchFair", inPlace := ["slices.overlaps[int]"], unfollowed := true, recurses := true, apart := false, narrowed := true }
def LatchFairUptoSaid : Prop := latchFairUptoRow.holds Try.pinned (OpenSpec.upto latchFairSpec)

/-- 'lavabolaw6.LatchMany', WHERE WHAT IT READS IS OF BULK AT MOST 1048576: true; the input reads as it did. -/
def latchManyUptoRow : OpenClaim := { program := "ytpdmncdbimdfaaa", sum := "bd636f434f93d0412d045facf056a5b209dbf3bf6686e4bcbc9e45d0b83d2e2a", func := "lavabo/lavabolaw6.LatchMany", spec := "latchMany", inPlace := ["slices.overlaps[int]"], unfollowed := true, recurses := true, apart := false, narrowed := true }
def LatchManyUptoSaid : Prop := latchManyUptoRow.holds Try.pinned (OpenSpec.upto latchManySpec)

end Rows
end Go.Proofs.Ytpdmncdbimdfaaa
