/-
  No cell of these rows narrows 'for every input' (looked for: loops, veiled, ifaces, maps, wideKeys, modest, calm, conditions, laid).
  DERIVED. THE GIVEN ROWS OF THIS SEAT. 7 by the template 'for every input the law returns true; each argument reads behind the call as it read before'; 0 by the template 'total and deterministic' (their statements: YtjdlpknflhgkfaaTotals.lean).
  GIVEN WITH THE SEED: the statements are not yours to turn. If you find one false, say at which input.
  Laid BY PROGRAM, IN A SANDBOX (cutbox-rows.mjs): the forced cells as the released guide's own fill.sh prints them over the translation 29fa5b4fcec87c30… (all of the seat's roots in one cut). By AI agents, Wed Nov 11 2026. No macro, syntax, notation, axiom, sorry.
-/
import Derived.Test.YtjdlpknflhgkfaaChecked
import GoSem.Claim
import GoSem.ClaimJoined
import GoSem.ClaimMapViews
import Derived.JoinedTies
import Derived.KernelRfl
namespace Go.Proofs.Ytjdlpknflhgkfaa
/- THE CELL 'sum', in the pinned program and in every row, IS THE sha256 OF THE DUMP (.gsa) THAT YtjdlpknflhgkfaaProg.lean LOADS. Nothing in Lean hashes anything: it is a label: what it is worth is what the hold of that sum in a sandbox is worth. -/
noncomputable def Try.pinned : Pinned := { name := "ytjdlpknflhgkfaa", sum := "29fa5b4fcec87c30d40bc620ac36de6516c3c2a37e7b868d366ebe9c9217b0d9", checked := Try.checked }
namespace Rows
def none {H : Type} : Left H := { results := [], args := [] }

/-- 'lavabolaw14.HistClients': WHATEVER THE INPUT: true; the input reads as it did. -/
def histClientsSpec : ChangeSpec := { name := "histClients", fn := fun _ => fun
  | [d1, d2, d3] => { results := [.lit (.bool true)], args := [d1, d2, d3] }
  | _ => none }
def histClientsRow : OpenClaim := { program := "ytjdlpknflhgkfaa", sum := "29fa5b4fcec87c30d40bc620ac36de6516c3c2a37e7b868d366ebe9c9217b0d9", func := "lavabo/lavabolaw14.HistClients", spec := "histClients", unfollowed := true, recurses := true, apart := false }
def HistClientsSaid : Prop := histClientsRow.holds Try.pinned (OpenSpec.ofChange histClientsSpec)

/-- ITS FALSE NEIGHBOUR: 'it returns false'. Refute it at one input. -/
def histClientsWrong : ChangeSpec := { name := "histClients", fn := fun _ => fun
  | [d1, d2, d3] => { results := [.lit (.bool false)], args := [d1, d2, d3] }
  | _ => none }
def HistClientsWrongFalsely : Prop := histClientsRow.holds Try.pinned (OpenSpec.ofChange histClientsWrong)

/-- 'lavabolaw14.HistAsks': WHATEVER THE INPUT: true; the input reads as it did. -/
def histAsksSpec : ChangeSpec := { name := "histAsks", fn := fun _ => fun
  | [d1, d2, d3, d4, d5] => { results := [.lit (.bool true)], args := [d1, d2, d3, d4, d5] }
  | _ => none }
def histAsksRow : OpenClaim := { program := "ytjdlpknflhgkfaa", sum := "29fa5b4fcec87c30d40bc620ac36de6516c3c2a37e7b868d366ebe9c9217b0d9", func := "lavabo/lavabolaw14.HistAsks", spec := "histAsks", unfollowed := true, recurses := true, apart := false }
def HistAsksSaid : Prop := histAsksRow.holds Try.pinned (OpenSpec.ofChange histAsksSpec)

/-- ITS FALSE NEIGHBOUR: 'it returns false'. Refute it at one input. -/
def histAsksWrong : ChangeSpec := { name := "histAsks", fn := fun _ => fun
  | [d1, d2, d3, d4, d5] => { results := [.lit (.bool false)], args := [d1, d2, d3, d4, d5] }
  | _ => none }
def HistAsksWrongFalsely : Prop := histAsksRow.holds Try.pinned (OpenSpec.ofChange histAsksWrong)

/-- 'lavabolaw14.HistMakes': WHATEVER THE INPUT: true; the input reads as it did. -/
def histMakesSpec : ChangeSpec := { name := "histMakes", fn := fun _ => fun
  | [d1, d2] => { results := [.lit (.bool true)], args := [d1, d2] }
  | _ => none }
def histMakesRow : OpenClaim := { program := "ytjdlpknflhgkfaa", sum := "29fa5b4fcec87c30d40bc620ac36de6516c3c2a37e7b868d366ebe9c9217b0d9", func := "lavabo/lavabolaw14.HistMakes", spec := "histMakes", unfollowed := true, recurses := true, apart := false }
def HistMakesSaid : Prop := histMakesRow.holds Try.pinned (OpenSpec.ofChange histMakesSpec)

/-- ITS FALSE NEIGHBOUR: 'it returns false'. Refute it at one input. -/
def histMakesWrong : ChangeSpec := { name := "histMakes", fn := fun _ => fun
  | [d1, d2] => { results := [.lit (.bool false)], args := [d1, d2] }
  | _ => none }
def HistMakesWrongFalsely : Prop := histMakesRow.holds Try.pinned (OpenSpec.ofChange histMakesWrong)

/-- 'lavabolaw14.HistTells': WHATEVER THE INPUT: true; the input reads as it did. -/
def histTellsSpec : ChangeSpec := { name := "histTells", fn := fun _ => fun
  | [d1, d2, d3, d4] => { results := [.lit (.bool true)], args := [d1, d2, d3, d4] }
  | _ => none }
def histTellsRow : OpenClaim := { program := "ytjdlpknflhgkfaa", sum := "29fa5b4fcec87c30d40bc620ac36de6516c3c2a37e7b868d366ebe9c9217b0d9", func := "lavabo/lavabolaw14.HistTells", spec := "histTells", unfollowed := true, recurses := true, apart := false }
def HistTellsSaid : Prop := histTellsRow.holds Try.pinned (OpenSpec.ofChange histTellsSpec)

/-- ITS FALSE NEIGHBOUR: 'it returns false'. Refute it at one input. -/
def histTellsWrong : ChangeSpec := { name := "histTells", fn := fun _ => fun
  | [d1, d2, d3, d4] => { results := [.lit (.bool false)], args := [d1, d2, d3, d4] }
  | _ => none }
def HistTellsWrongFalsely : Prop := histTellsRow.holds Try.pinned (OpenSpec.ofChange histTellsWrong)

/-- 'lavabolaw14.HistFails': WHATEVER THE INPUT: true; the input reads as it did. -/
def histFailsSpec : ChangeSpec := { name := "histFails", fn := fun _ => fun
  | [d1, d2, d3, d4] => { results := [.lit (.bool true)], args := [d1, d2, d3, d4] }
  | _ => none }
def histFailsRow : OpenClaim := { program := "ytjdlpknflhgkfaa", sum := "29fa5b4fcec87c30d40bc620ac36de6516c3c2a37e7b868d366ebe9c9217b0d9", func := "lavabo/lavabolaw14.HistFails", spec := "histFails", unfollowed := true, recurses := true, apart := false }
def HistFailsSaid : Prop := histFailsRow.holds Try.pinned (OpenSpec.ofChange histFailsSpec)

/-- ITS FALSE NEIGHBOUR: 'it returns false'. Refute it at one input. -/
def histFailsWrong : ChangeSpec := { name := "histFails", fn := fun _ => fun
  | [d1, d2, d3, d4] => { results := [.lit (.bool false)], args := [d1, d2, d3, d4] }
  | _ => none }
def HistFailsWrongFalsely : Prop := histFailsRow.holds Try.pinned (OpenSpec.ofChange histFailsWrong)

/-- 'lavabolaw14.HistSerial': WHATEVER THE INPUT: true; the input reads as it did. -/
def histSerialSpec : ChangeSpec := { name := "histSerial", fn := fun _ => fun
  | [d] => { results := [.lit (.bool true)], args := [d] }
  | _ => none }
def histSerialRow : OpenClaim := { program := "ytjdlpknflhgkfaa", sum := "29fa5b4fcec87c30d40bc620ac36de6516c3c2a37e7b868d366ebe9c9217b0d9", func := "lavabo/lavabolaw14.HistSerial", spec := "histSerial", unfollowed := true, recurses := true, apart := false }
def HistSerialSaid : Prop := histSerialRow.holds Try.pinned (OpenSpec.ofChange histSerialSpec)

/-- ITS FALSE NEIGHBOUR: 'it returns false'. Refute it at one input. -/
def histSerialWrong : ChangeSpec := { name := "histSerial", fn := fun _ => fun
  | [d] => { results := [.lit (.bool false)], args := [d] }
  | _ => none }
def HistSerialWrongFalsely : Prop := histSerialRow.holds Try.pinned (OpenSpec.ofChange histSerialWrong)

/-- 'lavabolaw14.HistOrders': WHATEVER THE INPUT: true; the input reads as it did. -/
def histOrdersSpec : ChangeSpec := { name := "histOrders", fn := fun _ => fun
  | [d] => { results := [.lit (.bool true)], args := [d] }
  | _ => none }
def histOrdersRow : OpenClaim := { program := "ytjdlpknflhgkfaa", sum := "29fa5b4fcec87c30d40bc620ac36de6516c3c2a37e7b868d366ebe9c9217b0d9", func := "lavabo/lavabolaw14.HistOrders", spec := "histOrders", unfollowed := true, recurses := true, apart := false }
def HistOrdersSaid : Prop := histOrdersRow.holds Try.pinned (OpenSpec.ofChange histOrdersSpec)

/-- ITS FALSE NEIGHBOUR: 'it returns false'. Refute it at one input. -/
def histOrdersWrong : ChangeSpec := { name := "histOrders", fn := fun _ => fun
  | [d] => { results := [.lit (.bool false)], args := [d] }
  | _ => none }
def HistOrdersWrongFalsely : Prop := histOrdersRow.holds Try.pinned (OpenSpec.ofChange histOrdersWrong)

/- THE SECOND FORM. 'bulk': how many values and letters a reading holds, each counted each time it is reached (what is shared counts as often as it is met; a slice's spare places count too). A statement '..UptoSaid' is the law's where the arguments, and the package variables that the reading takes, are together of bulk at most 1048576: NARROWER than '..Said'. Prove '..Said' where nothing that the law and all that it calls make is longer than what came in: it says more and counts as full. Else prove '..UptoSaid'. A law counts once. -/
mutual
def uptoBulk {H : Type} : DataW H → Nat
  | .lit (.string bytes) => bytes.length + 1
  | .lit _ => 1
  | .nil => 1
  | .ptr d => uptoBulk d + 1
  | .slice elems spare => uptoBulkAll elems + uptoBulkAll spare + 1
  | .agg parts => uptoBulkAll parts + 1
  | .iface _ d => uptoBulk d + 1
  | .map entries => uptoBulkEntries entries + 1
  | .held _ => 1
def uptoBulkAll {H : Type} : List (DataW H) → Nat
  | [] => 0
  | d :: r => uptoBulk d + uptoBulkAll r
def uptoBulkEntries {H : Type} : List (Lit × DataW H) → Nat
  | [] => 0
  | x :: r => uptoBulkEntry x + uptoBulkEntries r
def uptoBulkEntry {H : Type} : Lit × DataW H → Nat
  | (.string bytes, d) => bytes.length + uptoBulk d + 1
  | (_, d) => uptoBulk d + 1
 end
def uptoSmall : (H : Type) → List (DataW H) → Bool := fun _ ds => decide (uptoBulkAll ds ≤ 1048576)
def OpenSpec.upto (s : _root_.Go.ChangeSpec) : _root_.Go.OpenSpec := { _root_.Go.OpenSpec.ofChange s with cond := some uptoSmall }

/-- 'lavabolaw14.HistClients', WHERE WHAT IT READS IS OF BULK AT MOST 1048576: true; the input reads as it did. -/
def histClientsUptoRow : OpenClaim := { program := "ytjdlpknflhgkfaa", sum := "29fa5b4fcec87c30d40bc620ac36de6516c3c2a37e7b868d366ebe9c9217b0d9", func := "lavabo/lavabolaw14.HistClients", spec := "histClients", unfollowed := true, recurses := true, apart := false, narrowed := true }
def HistClientsUptoSaid : Prop := histClientsUptoRow.holds Try.pinned (OpenSpec.upto histClientsSpec)

/-- 'lavabolaw14.HistAsks', WHERE WHAT IT READS IS OF BULK AT MOST 1048576: true; the input reads as it did. -/
def histAsksUptoRow : OpenClaim := { program := "ytjdlpknflhgkfaa", sum := "29fa5b4fcec87c30d40bc620ac36de6516c3c2a37e7b868d366ebe9c9217b0d9", func := "lavabo/lavabolaw14.HistAsks", spec := "histAsks", unfollowed := true, recurses := true, apart := false, narrowed := true }
def HistAsksUptoSaid : Prop := histAsksUptoRow.holds Try.pinned (OpenSpec.upto histAsksSpec)

/-- 'lavabolaw14.HistMakes', WHERE WHAT IT READS IS OF BULK AT MOST 1048576: true; the input reads as it did. -/
def histMakesUptoRow : OpenClaim := { program := "ytjdlpknflhgkfaa", sum := "29fa5b4fcec87c30d40bc620ac36de6516c3c2a37e7b868d366ebe9c9217b0d9", func := "lavabo/lavabolaw14.HistMakes", spec := "histMakes", unfollowed := true, recurses := true, apart := false, narrowed := true }
def HistMakesUptoSaid : Prop := histMakesUptoRow.holds Try.pinned (OpenSpec.upto histMakesSpec)

/-- 'lavabolaw14.HistTells', WHERE WHAT IT READS IS OF BULK AT MOST 1048576: true; the input reads as it did. -/
def histTellsUptoRow : OpenClaim := { program := "ytjdlpknflhgkfaa", sum := "29fa5b4fcec87c30d40bc620ac36de6516c3c2a37e7b868d366ebe9c9217b0d9", func := "lavabo/lavabolaw14.HistTells", spec := "histTells", unfollowed := true, recurses := true, apart := false, narrowed := true }
def HistTellsUptoSaid : Prop := histTellsUptoRow.holds Try.pinned (OpenSpec.upto histTellsSpec)

/-- 'lavabolaw14.HistFails', WHERE WHAT IT READS IS OF BULK AT MOST 1048576: true; the input reads as it did. -/
def histFailsUptoRow : OpenClaim := { program := "ytjdlpknflhgkfaa", sum := "29fa5b4fcec87c30d40bc620ac36de6516c3c2a37e7b868d366ebe9c9217b0d9", func := "lavabo/lavabolaw14.HistFails", spec := "histFails", unfollowed := true, recurses := true, apart := false, narrowed := true }
def HistFailsUptoSaid : Prop := histFailsUptoRow.holds Try.pinned (OpenSpec.upto histFailsSpec)

/-- 'lavabolaw14.HistSerial', WHERE WHAT IT READS IS OF BULK AT MOST 1048576: true; the input reads as it did. -/
def histSerialUptoRow : OpenClaim := { program := "ytjdlpknflhgkfaa", sum := "29fa5b4fcec87c30d40bc620ac36de6516c3c2a37e7b868d366ebe9c9217b0d9", func := "lavabo/lavabolaw14.HistSerial", spec := "histSerial", unfollowed := true, recurses := true, apart := false, narrowed := true }
def HistSerialUptoSaid : Prop := histSerialUptoRow.holds Try.pinned (OpenSpec.upto histSerialSpec)

/-- 'lavabolaw14.HistOrders', WHERE WHAT IT READS IS OF BULK AT MOST 1048576: true; the input reads as it did. -/
def histOrdersUptoRow : OpenClaim := { program := "ytjdlpknflhgkfaa", sum := "29fa5b4fcec87c30d40bc620ac36de6516c3c2a37e7b868d366ebe9c9217b0d9", func := "lavabo/lavabolaw14.HistOrders", spec := "histOrders", unfollowed := true, recurses := true, apart := false, narrowed := true }
def HistOrdersUptoSaid : Prop := histOrdersUptoRow.holds Try.pinned (OpenSpec.upto histOrdersSpec)

end Rows
end Go.Proofs.Ytjdlpknflhgkfaa
