/-
  No cell of these rows narrows 'for every input' (looked for: loops, veiled, ifaces, maps, wideKeys, modest, calm, conditions, laid).
  DERIVED. THE GIVEN ROWS OF THIS SEAT. 2 by the template 'for every input the law returns true; each argument reads behind the call as it read before'; 0 by the template 'total and deterministic' (their statements: YtnecmjanmkmjpaaTotals.lean).
  GIVEN WITH THE SEED: the statements are not yours to turn. If you find one false, say at which input.
  Laid BY PROGRAM, IN A SANDBOX (cutbox-rows.mjs): the forced cells as the released guide's own fill.sh prints them over the translation 2c4887c3cfb0244d… (all of the seat's roots in one cut). By AI agents, Wed Nov 11 2026. No macro, syntax, notation, axiom, sorry.
-/
import Derived.Test.YtnecmjanmkmjpaaChecked
import GoSem.Claim
import GoSem.ClaimJoined
import GoSem.ClaimMapViews
import Derived.JoinedTies
import Derived.KernelRfl
namespace Go.Proofs.Ytnecmjanmkmjpaa
/- THE CELL 'sum', in the pinned program and in every row, IS THE sha256 OF THE DUMP (.gsa) THAT YtnecmjanmkmjpaaProg.lean LOADS. Nothing in Lean hashes anything: it is a label: what it is worth is what the hold of that sum in a sandbox is worth. -/
noncomputable def Try.pinned : Pinned := { name := "ytnecmjanmkmjpaa", sum := "2c4887c3cfb0244d8458e7fc0c022bbd2daaf7ee402a7aba3d1b493918d6af17", checked := Try.checked }
namespace Rows
def none {H : Type} : Left H := { results := [], args := [] }

/-- 'lavabolaw17.GiveAll': WHATEVER THE INPUT: true; the input reads as it did. -/
def giveAllSpec : ChangeSpec := { name := "giveAll", fn := fun _ => fun
  | [d1, d2] => { results := [.lit (.bool true)], args := [d1, d2] }
  | _ => none }
def giveAllRow : OpenClaim := { program := "ytnecmjanmkmjpaa", sum := "2c4887c3cfb0244d8458e7fc0c022bbd2daaf7ee402a7aba3d1b493918d6af17", func := "lavabo/lavabolaw17.GiveAll", spec := "giveAll", unfollowed := true, recurses := true, apart := false }
def GiveAllSaid : Prop := giveAllRow.holds Try.pinned (OpenSpec.ofChange giveAllSpec)

/-- ITS FALSE NEIGHBOUR: 'it returns false'. Refute it at one input. -/
def giveAllWrong : ChangeSpec := { name := "giveAll", fn := fun _ => fun
  | [d1, d2] => { results := [.lit (.bool false)], args := [d1, d2] }
  | _ => none }
def GiveAllWrongFalsely : Prop := giveAllRow.holds Try.pinned (OpenSpec.ofChange giveAllWrong)

/-- 'lavabolaw17.GiveBest': WHATEVER THE INPUT: true; the input reads as it did. -/
def giveBestSpec : ChangeSpec := { name := "giveBest", fn := fun _ => fun
  | [d1, d2] => { results := [.lit (.bool true)], args := [d1, d2] }
  | _ => none }
def giveBestRow : OpenClaim := { program := "ytnecmjanmkmjpaa", sum := "2c4887c3cfb0244d8458e7fc0c022bbd2daaf7ee402a7aba3d1b493918d6af17", func := "lavabo/lavabolaw17.GiveBest", spec := "giveBest", unfollowed := true, recurses := true, apart := false }
def GiveBestSaid : Prop := giveBestRow.holds Try.pinned (OpenSpec.ofChange giveBestSpec)

/-- ITS FALSE NEIGHBOUR: 'it returns false'. Refute it at one input. -/
def giveBestWrong : ChangeSpec := { name := "giveBest", fn := fun _ => fun
  | [d1, d2] => { results := [.lit (.bool false)], args := [d1, d2] }
  | _ => none }
def GiveBestWrongFalsely : Prop := giveBestRow.holds Try.pinned (OpenSpec.ofChange giveBestWrong)

/- THE SECOND FORM. 'bulk': how many values and letters a reading holds, each counted each time it is reached (what is shared counts as often as it is met; a slice's spare places count too). A statement '..UptoSaid' is the law's where the arguments, and the package variables that the reading takes, are together of bulk at most 1048576: NARROWER than '..Said'. Prove '..Said' where nothing that the law and all that it calls make is longer than what came in: it says more and counts as full. Else prove '..UptoSaid'. A law counts once. -/
mutual
def uptoBulk {H : Type} : DataW H → Nat
  | .lit (.string bytes) => bytes.length + 1
  | .lit _ => 1
  | .nil => 1
  | .ptr d => uptoBulk d + 1
  | .slice elems spare => uptoBulkAll elems + uptoBulkAll spare + 1
  | .agg parts => uptoBulkAll parts + 1
  | .iface _ d => uptoBulk d + 1
  | .map entries => uptoBulkEntries entries + 1
  | .held _ => 1
def uptoBulkAll {H : Type} : List (DataW H) → Nat
  | [] => 0
  | d :: r => uptoBulk d + uptoBulkAll r
def uptoBulkEntries {H : Type} : List (Lit × DataW H) → Nat
  | [] => 0
  | x :: r => uptoBulkEntry x + uptoBulkEntries r
def uptoBulkEntry {H : Type} : Lit × DataW H → Nat
  | (.string bytes, d) => bytes.length + uptoBulk d + 1
  | (_, d) => uptoBulk d + 1
 end
def uptoSmall : (H : Type) → List (DataW H) → Bool := fun _ ds => decide (uptoBulkAll ds ≤ 1048576)
def OpenSpec.upto (s : _root_.Go.ChangeSpec) : _root_.Go.OpenSpec := { _root_.Go.OpenSpec.ofChange s with cond := some uptoSmall }

/-- 'lavabolaw17.GiveAll', WHERE WHAT IT READS IS OF BULK AT MOST 1048576: true; the input reads as it did. -/
def giveAllUptoRow : OpenClaim := { program := "ytnecmjanmkmjpaa", sum := "2c4887c3cfb0244d8458e7fc0c022bbd2daaf7ee402a7aba3d1b493918d6af17", func := "lavabo/lavabolaw17.GiveAll", spec := "giveAll", unfollowed := true, recurses := true, apart := false, narrowed := true }
def GiveAllUptoSaid : Prop := giveAllUptoRow.holds Try.pinned (OpenSpec.upto giveAllSpec)

/-- 'lavabolaw17.GiveBest', WHERE WHAT IT READS IS OF BULK AT MOST 1048576: true; the input reads as it did. -/
def giveBestUptoRow : OpenClaim := { program := "ytnecmjanmkmjpaa", sum := "2c4887c3cfb0244d8458e7fc0c022bbd2daaf7ee402a7aba3d1b493918d6af17", func := "lavabo/lavabolaw17.GiveBest", spec := "giveBest", unfollowed := true, recurses := true, apart := false, narrowed := true }
def GiveBestUptoSaid : Prop := giveBestUptoRow.holds Try.pinned (OpenSpec.upto giveBestSpec)

end Rows
end Go.Proofs.Ytnecmjanmkmjpaa
