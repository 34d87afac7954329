/-
  No cell of these rows narrows 'for every input' (looked for: loops, veiled, ifaces, maps, wideKeys, modest, calm, conditions, laid).
  DERIVED. THE GIVEN ROWS OF THIS SEAT. 4 by the template 'for every input the law returns true; each argument reads behind the call as it read before'; 0 by the template 'total and deterministic' (their statements: YtomnkdfolonicaaTotals.lean).
  GIVEN WITH THE SEED: the statements are not yours to turn. If you find one false, say at which input.
  Laid BY PROGRAM, IN A SANDBOX (cutbox-rows.mjs): the forced cells as the released guide's own fill.sh prints them over the translation 437ab766d9b48dab… (all of the seat's roots in one cut). By AI agents, Wed Nov 11 2026. No macro, syntax, notation, axiom, sorry.
-/
import Derived.Test.YtomnkdfolonicaaChecked
import GoSem.Claim
import GoSem.ClaimJoined
import GoSem.ClaimMapViews
import Derived.JoinedTies
import Derived.KernelRfl
namespace Go.Proofs.Ytomnkdfolonicaa
/- THE CELL 'sum', in the pinned program and in every row, IS THE sha256 OF THE DUMP (.gsa) THAT YtomnkdfolonicaaProg.lean LOADS. Nothing in Lean hashes anything: it is a label: what it is worth is what the hold of that sum in a sandbox is worth. -/
noncomputable def Try.pinned : Pinned := { name := "ytomnkdfolonicaa", sum := "437ab766d9b48dabaa6763f173c9ccd8ee1e759ed94aa1cd062b48d514a197f3", checked := Try.checked }
namespace Rows
def none {H : Type} : Left H := { results := [], args := [] }

/-- 'lavabolaw18.SizeAsks': WHATEVER THE INPUT: true; the input reads as it did. -/
def sizeAsksSpec : ChangeSpec := { name := "sizeAsks", fn := fun _ => fun
  | [d1, d2, d3] => { results := [.lit (.bool true)], args := [d1, d2, d3] }
  | _ => none }
def sizeAsksRow : OpenClaim := { program := "ytomnkdfolonicaa", sum := "437ab766d9b48dabaa6763f173c9ccd8ee1e759ed94aa1cd062b48d514a197f3", func := "lavabo/lavabolaw18.SizeAsks", spec := "sizeAsks", apart := false }
def SizeAsksSaid : Prop := sizeAsksRow.holds Try.pinned (OpenSpec.ofChange sizeAsksSpec)

/-- ITS FALSE NEIGHBOUR: 'it returns false'. Refute it at one input. -/
def sizeAsksWrong : ChangeSpec := { name := "sizeAsks", fn := fun _ => fun
  | [d1, d2, d3] => { results := [.lit (.bool false)], args := [d1, d2, d3] }
  | _ => none }
def SizeAsksWrongFalsely : Prop := sizeAsksRow.holds Try.pinned (OpenSpec.ofChange sizeAsksWrong)

/-- 'lavabolaw18.SizeShares': WHATEVER THE INPUT: true; the input reads as it did. -/
def sizeSharesSpec : ChangeSpec := { name := "sizeShares", fn := fun _ => fun
  | [d1, d2, d3] => { results := [.lit (.bool true)], args := [d1, d2, d3] }
  | _ => none }
def sizeSharesRow : OpenClaim := { program := "ytomnkdfolonicaa", sum := "437ab766d9b48dabaa6763f173c9ccd8ee1e759ed94aa1cd062b48d514a197f3", func := "lavabo/lavabolaw18.SizeShares", spec := "sizeShares", apart := false }
def SizeSharesSaid : Prop := sizeSharesRow.holds Try.pinned (OpenSpec.ofChange sizeSharesSpec)

/-- ITS FALSE NEIGHBOUR: 'it returns false'. Refute it at one input. -/
def sizeSharesWrong : ChangeSpec := { name := "sizeShares", fn := fun _ => fun
  | [d1, d2, d3] => { results := [.lit (.bool false)], args := [d1, d2, d3] }
  | _ => none }
def SizeSharesWrongFalsely : Prop := sizeSharesRow.holds Try.pinned (OpenSpec.ofChange sizeSharesWrong)

/-- 'lavabolaw18.SizeEnds': WHATEVER THE INPUT: true; the input reads as it did. -/
def sizeEndsSpec : ChangeSpec := { name := "sizeEnds", fn := fun _ => fun
  | [d1, d2] => { results := [.lit (.bool true)], args := [d1, d2] }
  | _ => none }
def sizeEndsRow : OpenClaim := { program := "ytomnkdfolonicaa", sum := "437ab766d9b48dabaa6763f173c9ccd8ee1e759ed94aa1cd062b48d514a197f3", func := "lavabo/lavabolaw18.SizeEnds", spec := "sizeEnds", apart := false }
def SizeEndsSaid : Prop := sizeEndsRow.holds Try.pinned (OpenSpec.ofChange sizeEndsSpec)

/-- ITS FALSE NEIGHBOUR: 'it returns false'. Refute it at one input. -/
def sizeEndsWrong : ChangeSpec := { name := "sizeEnds", fn := fun _ => fun
  | [d1, d2] => { results := [.lit (.bool false)], args := [d1, d2] }
  | _ => none }
def SizeEndsWrongFalsely : Prop := sizeEndsRow.holds Try.pinned (OpenSpec.ofChange sizeEndsWrong)

/-- 'lavabolaw18.SizeLists': WHATEVER THE INPUT: true; the input reads as it did. -/
def sizeListsSpec : ChangeSpec := { name := "sizeLists", fn := fun _ => fun
  | [d1, d2, d3] => { results := [.lit (.bool true)], args := [d1, d2, d3] }
  | _ => none }
def sizeListsRow : OpenClaim := { program := "ytomnkdfolonicaa", sum := "437ab766d9b48dabaa6763f173c9ccd8ee1e759ed94aa1cd062b48d514a197f3", func := "lavabo/lavabolaw18.SizeLists", spec := "sizeLists", apart := false }
def SizeListsSaid : Prop := sizeListsRow.holds Try.pinned (OpenSpec.ofChange sizeListsSpec)

/-- ITS FALSE NEIGHBOUR: 'it returns false'. Refute it at one input. -/
def sizeListsWrong : ChangeSpec := { name := "sizeLists", fn := fun _ => fun
  | [d1, d2, d3] => { results := [.lit (.bool false)], args := [d1, d2, d3] }
  | _ => none }
def SizeListsWrongFalsely : Prop := sizeListsRow.holds Try.pinned (OpenSpec.ofChange sizeListsWrong)

/- THE SECOND FORM. 'bulk': how many values and letters a reading holds, each counted each time it is reached (what is shared counts as often as it is met; a slice's spare places count too). A statement '..UptoSaid' is the law's where the arguments, and the package variables that the reading takes, are together of bulk at most 1048576: NARROWER than '..Said'. Prove '..Said' where nothing that the law and all that it calls make is longer than what came in: it says more and counts as full. Else prove '..UptoSaid'. A law counts once. -/
mutual
def uptoBulk {H : Type} : DataW H → Nat
  | .lit (.string bytes) => bytes.length + 1
  | .lit _ => 1
  | .nil => 1
  | .ptr d => uptoBulk d + 1
  | .slice elems spare => uptoBulkAll elems + uptoBulkAll spare + 1
  | .agg parts => uptoBulkAll parts + 1
  | .iface _ d => uptoBulk d + 1
  | .map entries => uptoBulkEntries entries + 1
  | .held _ => 1
def uptoBulkAll {H : Type} : List (DataW H) → Nat
  | [] => 0
  | d :: r => uptoBulk d + uptoBulkAll r
def uptoBulkEntries {H : Type} : List (Lit × DataW H) → Nat
  | [] => 0
  | x :: r => uptoBulkEntry x + uptoBulkEntries r
def uptoBulkEntry {H : Type} : Lit × DataW H → Nat
  | (.string bytes, d) => bytes.length + uptoBulk d + 1
  | (_, d) => uptoBulk d + 1
 end
def uptoSmall : (H : Type) → List (DataW H) → Bool := fun _ ds => decide (uptoBulkAll ds ≤ 1048576)
def OpenSpec.upto (s : _root_.Go.ChangeSpec) : _root_.Go.OpenSpec := { _root_.Go.OpenSpec.ofChange s with cond := some uptoSmall }

/-- 'lavabolaw18.SizeAsks', WHERE WHAT IT READS IS OF BULK AT MOST 1048576: true; the input reads as it did. -/
def sizeAsksUptoRow : OpenClaim := { program := "ytomnkdfolonicaa", sum := "437ab766d9b48dabaa6763f173c9ccd8ee1e759ed94aa1cd062b48d514a197f3", func := "lavabo/lavabolaw18.SizeAsks", spec := "sizeAsks", apart := false, narrowed := true }
def SizeAsksUptoSaid : Prop := sizeAsksUptoRow.holds Try.pinned (OpenSpec.upto sizeAsksSpec)

/-- 'lavabolaw18.SizeShares', WHERE WHAT IT READS IS OF BULK AT MOST 1048576: true; the input reads as it did. -/
def sizeSharesUptoRow : OpenClaim := { program := "ytomnkdfolonicaa", sum := "437ab766d9b48dabaa6763f173c9ccd8ee1e759ed94aa1cd062b48d514a197f3", func := "lavabo/lavabolaw18.SizeShares", spec := "sizeShares", apart := false, narrowed := true }
def SizeSharesUptoSaid : Prop := sizeSharesUptoRow.holds Try.pinned (OpenSpec.upto sizeSharesSpec)

/-- 'lavabolaw18.SizeEnds', WHERE WHAT IT READS IS OF BULK AT MOST 1048576: true; the input reads as it did. -/
def sizeEndsUptoRow : OpenClaim := { program := "ytomnkdfolonicaa", sum := "437ab766d9b48dabaa6763f173c9ccd8ee1e759ed94aa1cd062b48d514a197f3", func := "lavabo/lavabolaw18.SizeEnds", spec := "sizeEnds", apart := false, narrowed := true }
def SizeEndsUptoSaid : Prop := sizeEndsUptoRow.holds Try.pinned (OpenSpec.upto sizeEndsSpec)

/-- 'lavabolaw18.SizeLists', WHERE WHAT IT READS IS OF BULK AT MOST 1048576: true; the input reads as it did. -/
def sizeListsUptoRow : OpenClaim := { program := "ytomnkdfolonicaa", sum := "437ab766d9b48dabaa6763f173c9ccd8ee1e759ed94aa1cd062b48d514a197f3", func := "lavabo/lavabolaw18.SizeLists", spec := "sizeLists", apart := false, narrowed := true }
def SizeListsUptoSaid : Prop := sizeListsUptoRow.holds Try.pinned (OpenSpec.upto sizeListsSpec)

end Rows
end Go.Proofs.Ytomnkdfolonicaa
