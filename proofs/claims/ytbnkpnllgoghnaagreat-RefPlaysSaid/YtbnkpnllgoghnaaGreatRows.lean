/-
  No cell of these rows narrows 'for every input' (looked for: loops, veiled, ifaces, maps, wideKeys, modest, calm, conditions, laid).
  DERIVED. THE GIVEN ROWS OF THIS SEAT. 8 by the template 'for every input the law returns true; each argument reads behind the call as it read before'; 0 by the template 'total and deterministic' (their statements: YtbnkpnllgoghnaaGreatTotals.lean).
  GIVEN WITH THE SEED: the statements are not yours to turn. If you find one false, say at which input.
  Laid BY PROGRAM, IN A SANDBOX (cutbox-rows.mjs): the forced cells as the released guide's own fill.sh prints them over the translation aadd68f06127b1f7… (all of the seat's roots in one cut). By AI agents, Wed Nov 11 2026. No macro, syntax, notation, axiom, sorry.
-/
import Derived.Test.YtbnkpnllgoghnaaGreatChecked
import GoSem.Claim
import GoSem.ClaimJoined
import GoSem.ClaimMapViews
import Derived.JoinedTies
import Derived.KernelRfl
namespace Go.Proofs.YtbnkpnllgoghnaaGreat
/- THE CELL 'sum', in the pinned program and in every row, IS THE sha256 OF THE DUMP (.gsa) THAT YtbnkpnllgoghnaaGreatProg.lean LOADS. Nothing in Lean hashes anything: it is a label: what it is worth is what the hold of that sum in a sandbox is worth. -/
noncomputable def Tryz.pinned : Pinned := { name := "ytbnkpnllgoghnaagreat", sum := "aadd68f06127b1f703ec63111d8836f399bc0ba3607f8a18eeae34a9e72199e3", checked := Tryz.checked }
namespace Rows
def none {H : Type} : Left H := { results := [], args := [] }

/-- 'lavabolaw16.RefOwn': WHATEVER THE INPUT: true; the input reads as it did. -/
def refOwnSpec : ChangeSpec := { name := "refOwn", fn := fun _ => fun
  | [d] => { results := [.lit (.bool true)], args := [d] }
  | _ => none }
def refOwnRow : OpenClaim := { program := "ytbnkpnllgoghnaagreat", sum := "aadd68f06127b1f703ec63111d8836f399bc0ba3607f8a18eeae34a9e72199e3", func := "lavabo/lavabolaw16.RefOwn", spec := "refOwn", unfollowed := true, recurses := true, apart := false }
def RefOwnSaid : Prop := refOwnRow.holds Tryz.pinned (OpenSpec.ofChange refOwnSpec)

/-- ITS FALSE NEIGHBOUR: 'it returns false'. Refute it at one input. -/
def refOwnWrong : ChangeSpec := { name := "refOwn", fn := fun _ => fun
  | [d] => { results := [.lit (.bool false)], args := [d] }
  | _ => none }
def RefOwnWrongFalsely : Prop := refOwnRow.holds Tryz.pinned (OpenSpec.ofChange refOwnWrong)

/-- 'lavabolaw16.RefPlays': WHATEVER THE INPUT: true; the input reads as it did. -/
def refPlaysSpec : ChangeSpec := { name := "refPlays", fn := fun _ => fun
  | [d1, d2, d3, d4, d5] => { results := [.lit (.bool true)], args := [d1, d2, d3, d4, d5] }
  | _ => none }
def refPlaysRow : OpenClaim := { program := "ytbnkpnllgoghnaagreat", sum := "aadd68f06127b1f703ec63111d8836f399bc0ba3607f8a18eeae34a9e72199e3", func := "lavabo/lavabolaw16.RefPlays", spec := "refPlays", unfollowed := true, recurses := true, apart := false }
def RefPlaysSaid : Prop := refPlaysRow.holds Tryz.pinned (OpenSpec.ofChange refPlaysSpec)

/-- ITS FALSE NEIGHBOUR: 'it returns false'. Refute it at one input. -/
def refPlaysWrong : ChangeSpec := { name := "refPlays", fn := fun _ => fun
  | [d1, d2, d3, d4, d5] => { results := [.lit (.bool false)], args := [d1, d2, d3, d4, d5] }
  | _ => none }
def RefPlaysWrongFalsely : Prop := refPlaysRow.holds Tryz.pinned (OpenSpec.ofChange refPlaysWrong)

/-- 'lavabolaw16.RefModel': WHATEVER THE INPUT: true; the input reads as it did. -/
def refModelSpec : ChangeSpec := { name := "refModel", fn := fun _ => fun
  | [d] => { results := [.lit (.bool true)], args := [d] }
  | _ => none }
def refModelRow : OpenClaim := { program := "ytbnkpnllgoghnaagreat", sum := "aadd68f06127b1f703ec63111d8836f399bc0ba3607f8a18eeae34a9e72199e3", func := "lavabo/lavabolaw16.RefModel", spec := "refModel", unfollowed := true, recurses := true, apart := false }
def RefModelSaid : Prop := refModelRow.holds Tryz.pinned (OpenSpec.ofChange refModelSpec)

/-- ITS FALSE NEIGHBOUR: 'it returns false'. Refute it at one input. -/
def refModelWrong : ChangeSpec := { name := "refModel", fn := fun _ => fun
  | [d] => { results := [.lit (.bool false)], args := [d] }
  | _ => none }
def RefModelWrongFalsely : Prop := refModelRow.holds Tryz.pinned (OpenSpec.ofChange refModelWrong)

/-- 'lavabolaw16.RefSmall': WHATEVER THE INPUT: true; the input reads as it did. -/
def refSmallSpec : ChangeSpec := { name := "refSmall", fn := fun _ => fun
  | [d1, d2] => { results := [.lit (.bool true)], args := [d1, d2] }
  | _ => none }
def refSmallRow : OpenClaim := { program := "ytbnkpnllgoghnaagreat", sum := "aadd68f06127b1f703ec63111d8836f399bc0ba3607f8a18eeae34a9e72199e3", func := "lavabo/lavabolaw16.RefSmall", spec := "refSmall", unfollowed := true, recurses := true, apart := false }
def RefSmallSaid : Prop := refSmallRow.holds Tryz.pinned (OpenSpec.ofChange refSmallSpec)

/-- ITS FALSE NEIGHBOUR: 'it returns false'. Refute it at one input. -/
def refSmallWrong : ChangeSpec := { name := "refSmall", fn := fun _ => fun
  | [d1, d2] => { results := [.lit (.bool false)], args := [d1, d2] }
  | _ => none }
def RefSmallWrongFalsely : Prop := refSmallRow.holds Tryz.pinned (OpenSpec.ofChange refSmallWrong)

/-- 'lavabolaw16.RefFlushes': WHATEVER THE INPUT: true; the input reads as it did. -/
def refFlushesSpec : ChangeSpec := { name := "refFlushes", fn := fun _ => fun
  | [d1, d2] => { results := [.lit (.bool true)], args := [d1, d2] }
  | _ => none }
def refFlushesRow : OpenClaim := { program := "ytbnkpnllgoghnaagreat", sum := "aadd68f06127b1f703ec63111d8836f399bc0ba3607f8a18eeae34a9e72199e3", func := "lavabo/lavabolaw16.RefFlushes", spec := "refFlushes", unfollowed := true, recurses := true, apart := false }
def RefFlushesSaid : Prop := refFlushesRow.holds Tryz.pinned (OpenSpec.ofChange refFlushesSpec)

/-- ITS FALSE NEIGHBOUR: 'it returns false'. Refute it at one input. -/
def refFlushesWrong : ChangeSpec := { name := "refFlushes", fn := fun _ => fun
  | [d1, d2] => { results := [.lit (.bool false)], args := [d1, d2] }
  | _ => none }
def RefFlushesWrongFalsely : Prop := refFlushesRow.holds Tryz.pinned (OpenSpec.ofChange refFlushesWrong)

/-- 'lavabolaw16.RefCrash': WHATEVER THE INPUT: true; the input reads as it did. -/
def refCrashSpec : ChangeSpec := { name := "refCrash", fn := fun _ => fun
  | [d1, d2, d3] => { results := [.lit (.bool true)], args := [d1, d2, d3] }
  | _ => none }
def refCrashRow : OpenClaim := { program := "ytbnkpnllgoghnaagreat", sum := "aadd68f06127b1f703ec63111d8836f399bc0ba3607f8a18eeae34a9e72199e3", func := "lavabo/lavabolaw16.RefCrash", spec := "refCrash", unfollowed := true, recurses := true, apart := false }
def RefCrashSaid : Prop := refCrashRow.holds Tryz.pinned (OpenSpec.ofChange refCrashSpec)

/-- ITS FALSE NEIGHBOUR: 'it returns false'. Refute it at one input. -/
def refCrashWrong : ChangeSpec := { name := "refCrash", fn := fun _ => fun
  | [d1, d2, d3] => { results := [.lit (.bool false)], args := [d1, d2, d3] }
  | _ => none }
def RefCrashWrongFalsely : Prop := refCrashRow.holds Tryz.pinned (OpenSpec.ofChange refCrashWrong)

/-- 'lavabolaw16.RefLast': WHATEVER THE INPUT: true; the input reads as it did. -/
def refLastSpec : ChangeSpec := { name := "refLast", fn := fun _ => fun
  | [d1, d2] => { results := [.lit (.bool true)], args := [d1, d2] }
  | _ => none }
def refLastRow : OpenClaim := { program := "ytbnkpnllgoghnaagreat", sum := "aadd68f06127b1f703ec63111d8836f399bc0ba3607f8a18eeae34a9e72199e3", func := "lavabo/lavabolaw16.RefLast", spec := "refLast", unfollowed := true, recurses := true, apart := false }
def RefLastSaid : Prop := refLastRow.holds Tryz.pinned (OpenSpec.ofChange refLastSpec)

/-- ITS FALSE NEIGHBOUR: 'it returns false'. Refute it at one input. -/
def refLastWrong : ChangeSpec := { name := "refLast", fn := fun _ => fun
  | [d1, d2] => { results := [.lit (.bool false)], args := [d1, d2] }
  | _ => none }
def RefLastWrongFalsely : Prop := refLastRow.holds Tryz.pinned (OpenSpec.ofChange refLastWrong)

/-- 'lavabolaw16.RefFaults': WHATEVER THE INPUT: true; the input reads as it did. -/
def refFaultsSpec : ChangeSpec := { name := "refFaults", fn := fun _ => fun
  | [d1, d2, d3] => { results := [.lit (.bool true)], args := [d1, d2, d3] }
  | _ => none }
def refFaultsRow : OpenClaim := { program := "ytbnkpnllgoghnaagreat", sum := "aadd68f06127b1f703ec63111d8836f399bc0ba3607f8a18eeae34a9e72199e3", func := "lavabo/lavabolaw16.RefFaults", spec := "refFaults", unfollowed := true, recurses := true, apart := false }
def RefFaultsSaid : Prop := refFaultsRow.holds Tryz.pinned (OpenSpec.ofChange refFaultsSpec)

/-- ITS FALSE NEIGHBOUR: 'it returns false'. Refute it at one input. -/
def refFaultsWrong : ChangeSpec := { name := "refFaults", fn := fun _ => fun
  | [d1, d2, d3] => { results := [.lit (.bool false)], args := [d1, d2, d3] }
  | _ => none }
def RefFaultsWrongFalsely : Prop := refFaultsRow.holds Tryz.pinned (OpenSpec.ofChange refFaultsWrong)

/- THE SECOND FORM. 'bulk': how many values and letters a reading holds, each counted each time it is reached (what is shared counts as often as it is met; a slice's spare places count too). A statement '..UptoSaid' is the law's where the arguments, and the package variables that the reading takes, are together of bulk at most 1048576: NARROWER than '..Said'. Prove '..Said' where nothing that the law and all that it calls make is longer than what came in: it says more and counts as full. Else prove '..UptoSaid'. A law counts once. -/
mutual
def uptoBulk {H : Type} : DataW H → Nat
  | .lit (.string bytes) => bytes.length + 1
  | .lit _ => 1
  | .nil => 1
  | .ptr d => uptoBulk d + 1
  | .slice elems spare => uptoBulkAll elems + uptoBulkAll spare + 1
  | .agg parts => uptoBulkAll parts + 1
  | .iface _ d => uptoBulk d + 1
  | .map entries => uptoBulkEntries entries + 1
  | .held _ => 1
def uptoBulkAll {H : Type} : List (DataW H) → Nat
  | [] => 0
  | d :: r => uptoBulk d + uptoBulkAll r
def uptoBulkEntries {H : Type} : List (Lit × DataW H) → Nat
  | [] => 0
  | x :: r => uptoBulkEntry x + uptoBulkEntries r
def uptoBulkEntry {H : Type} : Lit × DataW H → Nat
  | (.string bytes, d) => bytes.length + uptoBulk d + 1
  | (_, d) => uptoBulk d + 1
 end
def uptoSmall : (H : Type) → List (DataW H) → Bool := fun _ ds => decide (uptoBulkAll ds ≤ 1048576)
def OpenSpec.upto (s : _root_.Go.ChangeSpec) : _root_.Go.OpenSpec := { _root_.Go.OpenSpec.ofChange s with cond := some uptoSmall }

/-- 'lavabolaw16.RefOwn', WHERE WHAT IT READS IS OF BULK AT MOST 1048576: true; the input reads as it did. -/
def refOwnUptoRow : OpenClaim := { program := "ytbnkpnllgoghnaagreat", sum := "aadd68f06127b1f703ec63111d8836f399bc0ba3607f8a18eeae34a9e72199e3", func := "lavabo/lavabolaw16.RefOwn", spec := "refOwn", unfollowed := true, recurses := true, apart := false, narrowed := true }
def RefOwnUptoSaid : Prop := refOwnUptoRow.holds Tryz.pinned (OpenSpec.upto refOwnSpec)

/-- 'lavabolaw16.RefPlays', WHERE WHAT IT READS IS OF BULK AT MOST 1048576: true; the input reads as it did. -/
def refPlaysUptoRow : OpenClaim := { program := "ytbnkpnllgoghnaagreat", sum := "aadd68f06127b1f703ec63111d8836f399bc0ba3607f8a18eeae34a9e72199e3", func := "lavabo/lavabolaw16.RefPlays", spec := "refPlays", unfollowed := true, recurses := true, apart := false, narrowed := true }
def RefPlaysUptoSaid : Prop := refPlaysUptoRow.holds Tryz.pinned (OpenSpec.upto refPlaysSpec)

/-- 'lavabolaw16.RefModel', WHERE WHAT IT READS IS OF BULK AT MOST 1048576: true; the input reads as it did. -/
def refModelUptoRow : OpenClaim := { program := "ytbnkpnllgoghnaagreat", sum := "aadd68f06127b1f703ec63111d8836f399bc0ba3607f8a18eeae34a9e72199e3", func := "lavabo/lavabolaw16.RefModel", spec := "refModel", unfollowed := true, recurses := true, apart := false, narrowed := true }
def RefModelUptoSaid : Prop := refModelUptoRow.holds Tryz.pinned (OpenSpec.upto refModelSpec)

/-- 'lavabolaw16.RefSmall', WHERE WHAT IT READS IS OF BULK AT MOST 1048576: true; the input reads as it did. -/
def refSmallUptoRow : OpenClaim := { program := "ytbnkpnllgoghnaagreat", sum := "aadd68f06127b1f703ec63111d8836f399bc0ba3607f8a18eeae34a9e72199e3", func := "lavabo/lavabolaw16.RefSmall", spec := "refSmall", unfollowed := true, recurses := true, apart := false, narrowed := true }
def RefSmallUptoSaid : Prop := refSmallUptoRow.holds Tryz.pinned (OpenSpec.upto refSmallSpec)

/-- 'lavabolaw16.RefFlushes', WHERE WHAT IT READS IS OF BULK AT MOST 1048576: true; the input reads as it did. -/
def refFlushesUptoRow : OpenClaim := { program := "ytbnkpnllgoghnaagreat", sum := "aadd68f06127b1f703ec63111d8836f399bc0ba3607f8a18eeae34a9e72199e3", func := "lavabo/lavabolaw16.RefFlushes", spec := "refFlushes", unfollowed := true, recurses := true, apart := false, narrowed := true }
def RefFlushesUptoSaid : Prop := refFlushesUptoRow.holds Tryz.pinned (OpenSpec.upto refFlushesSpec)

/-- 'lavabolaw16.RefCrash', WHERE WHAT IT READS IS OF BULK AT MOST 1048576: true; the input reads as it did. -/
def refCrashUptoRow : OpenClaim := { program := "ytbnkpnllgoghnaagreat", sum := "aadd68f06127b1f703ec63111d8836f399bc0ba3607f8a18eeae34a9e72199e3", func := "lavabo/lavabolaw16.RefCrash", spec := "refCrash", unfollowed := true, recurses := true, apart := false, narrowed := true }
def RefCrashUptoSaid : Prop := refCrashUptoRow.holds Tryz.pinned (OpenSpec.upto refCrashSpec)

/-- 'lavabolaw16.RefLast', WHERE WHAT IT READS IS OF BULK AT MOST 1048576: true; the input reads as it did. -/
def refLastUptoRow : OpenClaim := { program := "ytbnkpnllgoghnaagreat", sum := "aadd68f06127b1f703ec63111d8836f399bc0ba3607f8a18eeae34a9e72199e3", func := "lavabo/lavabolaw16.RefLast", spec := "refLast", unfollowed := true, recurses := true, apart := false, narrowed := true }
def RefLastUptoSaid : Prop := refLastUptoRow.holds Tryz.pinned (OpenSpec.upto refLastSpec)

/-- 'lavabolaw16.RefFaults', WHERE WHAT IT READS IS OF BULK AT MOST 1048576: true; the input reads as it did. -/
def refFaultsUptoRow : OpenClaim := { program := "ytbnkpnllgoghnaagreat", sum := "aadd68f06127b1f703ec63111d8836f399bc0ba3607f8a18eeae34a9e72199e3", func := "lavabo/lavabolaw16.RefFaults", spec := "refFaults", unfollowed := true, recurses := true, apart := false, narrowed := true }
def RefFaultsUptoSaid : Prop := refFaultsUptoRow.holds Tryz.pinned (OpenSpec.upto refFaultsSpec)

end Rows
end Go.Proofs.YtbnkpnllgoghnaaGreat
