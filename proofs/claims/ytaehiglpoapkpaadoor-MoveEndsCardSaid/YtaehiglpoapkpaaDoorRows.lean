/-
  NARROWER THAN 'FOR EVERY INPUT', by the rows' own cells (each row's printed sentence says how): MoveAsks: laid · MoveWays: laid · MoveEnds: laid · MoveStill: laid.
  DERIVED. THE GIVEN ROWS OF THIS SEAT. 4 by the template 'for every input the law returns true; each argument reads behind the call as it read before'; 0 by the template 'total and deterministic' (their statements: YtaehiglpoapkpaaDoorTotals.lean).
  GIVEN WITH THE SEED: the statements are not yours to turn. If you find one false, say at which input.
  Laid BY PROGRAM, IN A SANDBOX (cutbox-rows.mjs): the forced cells as the released guide's own fill.sh prints them over the translation 15d8e2a351b55ee9… (all of the seat's roots in one cut). By AI agents, Wed Nov 11 2026. No macro, syntax, notation, axiom, sorry.
-/
import Derived.Test.YtaehiglpoapkpaaDoorChecked
import GoSem.Claim
import GoSem.ClaimJoined
import GoSem.ClaimMapViews
import Derived.JoinedTies
import Derived.KernelRfl
namespace Go.Proofs.YtaehiglpoapkpaaDoor
/- THE CELL 'sum', in the pinned program and in every row, IS THE sha256 OF THE DUMP (.gsa) THAT YtaehiglpoapkpaaDoorProg.lean LOADS. Nothing in Lean hashes anything: it is a label: what it is worth is what the hold of that sum in a sandbox is worth. -/
noncomputable def Tryd.pinned : Pinned := { name := "ytaehiglpoapkpaadoor", sum := "15d8e2a351b55ee974f29470eee8c6090a18553d659bcb87484d02c64e714a5e", checked := Tryd.checked }
namespace Rows
def none {H : Type} : Left H := { results := [], args := [] }

/- WHAT THE LISTED PACKAGE-LEVEL VARIABLES READ AS WHEN THE CALL BEGINS. Each datum BY PROGRAM (the guide's laid-datum.mjs) off the statement by which the dump's own 'gosem.cut.vars' lays the variable. In a bare row this is a premise. The card (YtaehiglpoapkpaaDoorCards.lean) ties it to the program's text. -/
def laid_lavabo_move_phases {H : Type} : DataW H := .agg [.agg [.lit (.int .i64 0), .lit (.int .i64 1), .lit (.bool false)], .agg [.lit (.int .i64 1), .lit (.int .i64 1), .lit (.bool false)], .agg [.lit (.int .i64 2), .lit (.int .i64 0), .lit (.bool false)], .agg [.lit (.int .i64 3), .lit (.int .i64 0), .lit (.bool false)], .agg [.lit (.int .i64 4), .lit (.int .i64 2), .lit (.bool true)], .agg [.lit (.int .i64 5), .lit (.int .i64 1), .lit (.bool true)]]
def laid_lavabo_move_ways {H : Type} : DataW H := .agg [.agg [.lit (.int .i64 0), .lit (.int .i64 1), .lit (.int .i64 1)], .agg [.lit (.int .i64 1), .lit (.int .i64 2), .lit (.int .i64 2)], .agg [.lit (.int .i64 1), .lit (.int .i64 5), .lit (.int .i64 5)], .agg [.lit (.int .i64 2), .lit (.int .i64 3), .lit (.int .i64 3)], .agg [.lit (.int .i64 2), .lit (.int .i64 5), .lit (.int .i64 5)], .agg [.lit (.int .i64 3), .lit (.int .i64 4), .lit (.int .i64 4)]]

/-- 'lavabolaw20.MoveAsks': WHATEVER THE INPUT: true; the input reads as it did. -/
def moveAsksSpec : ChangeSpec := { name := "moveAsks", fn := fun _ => fun
  | [d1, d2] => { results := [.lit (.bool true)], args := [d1, d2] }
  | _ => none }
def moveAsksRow : OpenClaim := { program := "ytaehiglpoapkpaadoor", sum := "15d8e2a351b55ee974f29470eee8c6090a18553d659bcb87484d02c64e714a5e", func := "lavabo/lavabolaw20.MoveAsks", spec := "moveAsks", named := ["lavabo/move.phases", "lavabo/move.ways"], apart := false, laid := [("lavabo/move.phases", laid_lavabo_move_phases), ("lavabo/move.ways", laid_lavabo_move_ways)] }
def MoveAsksSaid : Prop := moveAsksRow.holds Tryd.pinned (OpenSpec.ofChange moveAsksSpec)

/-- ITS FALSE NEIGHBOUR: 'it returns false'. Refute it at one input. -/
def moveAsksWrong : ChangeSpec := { name := "moveAsks", fn := fun _ => fun
  | [d1, d2] => { results := [.lit (.bool false)], args := [d1, d2] }
  | _ => none }
def MoveAsksWrongFalsely : Prop := moveAsksRow.holds Tryd.pinned (OpenSpec.ofChange moveAsksWrong)

/-- 'lavabolaw20.MoveWays': WHATEVER THE INPUT: true; the input reads as it did. -/
def moveWaysSpec : ChangeSpec := { name := "moveWays", fn := fun _ => fun
  | [d] => { results := [.lit (.bool true)], args := [d] }
  | _ => none }
def moveWaysRow : OpenClaim := { program := "ytaehiglpoapkpaadoor", sum := "15d8e2a351b55ee974f29470eee8c6090a18553d659bcb87484d02c64e714a5e", func := "lavabo/lavabolaw20.MoveWays", spec := "moveWays", named := ["lavabo/move.ways", "lavabo/move.phases"], apart := false, laid := [("lavabo/move.phases", laid_lavabo_move_phases), ("lavabo/move.ways", laid_lavabo_move_ways)] }
def MoveWaysSaid : Prop := moveWaysRow.holds Tryd.pinned (OpenSpec.ofChange moveWaysSpec)

/-- ITS FALSE NEIGHBOUR: 'it returns false'. Refute it at one input. -/
def moveWaysWrong : ChangeSpec := { name := "moveWays", fn := fun _ => fun
  | [d] => { results := [.lit (.bool false)], args := [d] }
  | _ => none }
def MoveWaysWrongFalsely : Prop := moveWaysRow.holds Tryd.pinned (OpenSpec.ofChange moveWaysWrong)

/-- 'lavabolaw20.MoveEnds': WHATEVER THE INPUT: true; the input reads as it did. -/
def moveEndsSpec : ChangeSpec := { name := "moveEnds", fn := fun _ => fun
  | [d] => { results := [.lit (.bool true)], args := [d] }
  | _ => none }
def moveEndsRow : OpenClaim := { program := "ytaehiglpoapkpaadoor", sum := "15d8e2a351b55ee974f29470eee8c6090a18553d659bcb87484d02c64e714a5e", func := "lavabo/lavabolaw20.MoveEnds", spec := "moveEnds", named := ["lavabo/move.phases", "lavabo/move.ways"], apart := false, laid := [("lavabo/move.phases", laid_lavabo_move_phases), ("lavabo/move.ways", laid_lavabo_move_ways)] }
def MoveEndsSaid : Prop := moveEndsRow.holds Tryd.pinned (OpenSpec.ofChange moveEndsSpec)

/-- ITS FALSE NEIGHBOUR: 'it returns false'. Refute it at one input. -/
def moveEndsWrong : ChangeSpec := { name := "moveEnds", fn := fun _ => fun
  | [d] => { results := [.lit (.bool false)], args := [d] }
  | _ => none }
def MoveEndsWrongFalsely : Prop := moveEndsRow.holds Tryd.pinned (OpenSpec.ofChange moveEndsWrong)

/-- 'lavabolaw20.MoveStill': WHATEVER THE INPUT: true; the input reads as it did. -/
def moveStillSpec : ChangeSpec := { name := "moveStill", fn := fun _ => fun
  | [d1, d2, d3] => { results := [.lit (.bool true)], args := [d1, d2, d3] }
  | _ => none }
def moveStillRow : OpenClaim := { program := "ytaehiglpoapkpaadoor", sum := "15d8e2a351b55ee974f29470eee8c6090a18553d659bcb87484d02c64e714a5e", func := "lavabo/lavabolaw20.MoveStill", spec := "moveStill", named := ["lavabo/move.phases", "lavabo/move.ways"], apart := false, laid := [("lavabo/move.phases", laid_lavabo_move_phases), ("lavabo/move.ways", laid_lavabo_move_ways)] }
def MoveStillSaid : Prop := moveStillRow.holds Tryd.pinned (OpenSpec.ofChange moveStillSpec)

/-- ITS FALSE NEIGHBOUR: 'it returns false'. Refute it at one input. -/
def moveStillWrong : ChangeSpec := { name := "moveStill", fn := fun _ => fun
  | [d1, d2, d3] => { results := [.lit (.bool false)], args := [d1, d2, d3] }
  | _ => none }
def MoveStillWrongFalsely : Prop := moveStillRow.holds Tryd.pinned (OpenSpec.ofChange moveStillWrong)

/- THE SECOND FORM. 'bulk': how many values and letters a reading holds, each counted each time it is reached (what is shared counts as often as it is met; a slice's spare places count too). A statement '..UptoSaid' is the law's where the arguments, and the package variables that the reading takes, are together of bulk at most 1048576: NARROWER than '..Said'. Prove '..Said' where nothing that the law and all that it calls make is longer than what came in: it says more and counts as full. Else prove '..UptoSaid'. A law counts once. -/
mutual
def uptoBulk {H : Type} : DataW H → Nat
  | .lit (.string bytes) => bytes.length + 1
  | .lit _ => 1
  | .nil => 1
  | .ptr d => uptoBulk d + 1
  | .slice elems spare => uptoBulkAll elems + uptoBulkAll spare + 1
  | .agg parts => uptoBulkAll parts + 1
  | .iface _ d => uptoBulk d + 1
  | .map entries => uptoBulkEntries entries + 1
  | .held _ => 1
def uptoBulkAll {H : Type} : List (DataW H) → Nat
  | [] => 0
  | d :: r => uptoBulk d + uptoBulkAll r
def uptoBulkEntries {H : Type} : List (Lit × DataW H) → Nat
  | [] => 0
  | x :: r => uptoBulkEntry x + uptoBulkEntries r
def uptoBulkEntry {H : Type} : Lit × DataW H → Nat
  | (.string bytes, d) => bytes.length + uptoBulk d + 1
  | (_, d) => uptoBulk d + 1
 end
def uptoSmall : (H : Type) → List (DataW H) → Bool := fun _ ds => decide (uptoBulkAll ds ≤ 1048576)
def OpenSpec.upto (s : _root_.Go.ChangeSpec) : _root_.Go.OpenSpec := { _root_.Go.OpenSpec.ofChange s with cond := some uptoSmall }

/-- 'lavabolaw20.MoveAsks', WHERE WHAT IT READS IS OF BULK AT MOST 1048576: true; the input reads as it did. -/
def moveAsksUptoRow : OpenClaim := { program := "ytaehiglpoapkpaadoor", sum := "15d8e2a351b55ee974f29470eee8c6090a18553d659bcb87484d02c64e714a5e", func := "lavabo/lavabolaw20.MoveAsks", spec := "moveAsks", named := ["lavabo/move.phases", "lavabo/move.ways"], apart := false, laid := [("lavabo/move.phases", laid_lavabo_move_phases), ("lavabo/move.ways", laid_lavabo_move_ways)], narrowed := true }
def MoveAsksUptoSaid : Prop := moveAsksUptoRow.holds Tryd.pinned (OpenSpec.upto moveAsksSpec)

/-- 'lavabolaw20.MoveWays', WHERE WHAT IT READS IS OF BULK AT MOST 1048576: true; the input reads as it did. -/
def moveWaysUptoRow : OpenClaim := { program := "ytaehiglpoapkpaadoor", sum := "15d8e2a351b55ee974f29470eee8c6090a18553d659bcb87484d02c64e714a5e", func := "lavabo/lavabolaw20.MoveWays", spec := "moveWays", named := ["lavabo/move.ways", "lavabo/move.phases"], apart := false, laid := [("lavabo/move.phases", laid_lavabo_move_phases), ("lavabo/move.ways", laid_lavabo_move_ways)], narrowed := true }
def MoveWaysUptoSaid : Prop := moveWaysUptoRow.holds Tryd.pinned (OpenSpec.upto moveWaysSpec)

/-- 'lavabolaw20.MoveEnds', WHERE WHAT IT READS IS OF BULK AT MOST 1048576: true; the input reads as it did. -/
def moveEndsUptoRow : OpenClaim := { program := "ytaehiglpoapkpaadoor", sum := "15d8e2a351b55ee974f29470eee8c6090a18553d659bcb87484d02c64e714a5e", func := "lavabo/lavabolaw20.MoveEnds", spec := "moveEnds", named := ["lavabo/move.phases", "lavabo/move.ways"], apart := false, laid := [("lavabo/move.phases", laid_lavabo_move_phases), ("lavabo/move.ways", laid_lavabo_move_ways)], narrowed := true }
def MoveEndsUptoSaid : Prop := moveEndsUptoRow.holds Tryd.pinned (OpenSpec.upto moveEndsSpec)

/-- 'lavabolaw20.MoveStill', WHERE WHAT IT READS IS OF BULK AT MOST 1048576: true; the input reads as it did. -/
def moveStillUptoRow : OpenClaim := { program := "ytaehiglpoapkpaadoor", sum := "15d8e2a351b55ee974f29470eee8c6090a18553d659bcb87484d02c64e714a5e", func := "lavabo/lavabolaw20.MoveStill", spec := "moveStill", named := ["lavabo/move.phases", "lavabo/move.ways"], apart := false, laid := [("lavabo/move.phases", laid_lavabo_move_phases), ("lavabo/move.ways", laid_lavabo_move_ways)], narrowed := true }
def MoveStillUptoSaid : Prop := moveStillUptoRow.holds Tryd.pinned (OpenSpec.upto moveStillSpec)

end Rows
end Go.Proofs.YtaehiglpoapkpaaDoor
