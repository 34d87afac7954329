/-
  DERIVED. GIVEN WITH THE SEED: THE CARDS: each row of YtaehiglpoapkpaaDoorRows.lean that lists a variable, with what it lists TIED to the program's text (the seventh form; the later family's looks); each row that meets fmt, with fmt's text TOLD by the authors' own Lean function (tested against real Go, not proved from fmt's source: count such statements apart). THE CARD IS WHAT COUNTS. Prove the row's statement (the work); the ties are given (YtaehiglpoapkpaaDoorTie.lean); close each card by the builder's one call (the guide's Derived/Test/ToyasCard.lean, 'card_holds'). Laid BY PROGRAM, IN A SANDBOX (cutbox-door.mjs). By AI agents, Wed Nov 11 2026. No macro, syntax, notation, axiom, sorry.
-/
import Derived.Test.YtaehiglpoapkpaaDoorRows
import GoSem.ClaimSeven
namespace Go.Proofs.YtaehiglpoapkpaaDoor
namespace Rows

/-- THE TIED CARD OF 'lavabolaw20.MoveAsks'. -/
def moveAsksCard : Claim7 := { stood := { row := moveAsksRow, standIns := [], harness := (true, "f4dc9e1cca478e3e08ff1c22741c8ebc72f185c958f0af4d9b95219ec100b591"), looks := false }, kinds := [], alts := [], laidByText := true, laidKinds := [.data, .data], laidTests := true, laidLooks := .later }
def MoveAsksCardSaid : Prop := Claim7.holds Tryd.pinned (.plain (OpenSpec.ofChange moveAsksSpec)) moveAsksCard

/-- THE TIED CARD OF 'lavabolaw20.MoveWays'. -/
def moveWaysCard : Claim7 := { stood := { row := moveWaysRow, standIns := [], harness := (true, "f4dc9e1cca478e3e08ff1c22741c8ebc72f185c958f0af4d9b95219ec100b591"), looks := false }, kinds := [], alts := [], laidByText := true, laidKinds := [.data, .data], laidTests := true, laidLooks := .later }
def MoveWaysCardSaid : Prop := Claim7.holds Tryd.pinned (.plain (OpenSpec.ofChange moveWaysSpec)) moveWaysCard

/-- THE TIED CARD OF 'lavabolaw20.MoveEnds'. -/
def moveEndsCard : Claim7 := { stood := { row := moveEndsRow, standIns := [], harness := (true, "f4dc9e1cca478e3e08ff1c22741c8ebc72f185c958f0af4d9b95219ec100b591"), looks := false }, kinds := [], alts := [], laidByText := true, laidKinds := [.data, .data], laidTests := true, laidLooks := .later }
def MoveEndsCardSaid : Prop := Claim7.holds Tryd.pinned (.plain (OpenSpec.ofChange moveEndsSpec)) moveEndsCard

/-- THE TIED CARD OF 'lavabolaw20.MoveStill'. -/
def moveStillCard : Claim7 := { stood := { row := moveStillRow, standIns := [], harness := (true, "f4dc9e1cca478e3e08ff1c22741c8ebc72f185c958f0af4d9b95219ec100b591"), looks := false }, kinds := [], alts := [], laidByText := true, laidKinds := [.data, .data], laidTests := true, laidLooks := .later }
def MoveStillCardSaid : Prop := Claim7.holds Tryd.pinned (.plain (OpenSpec.ofChange moveStillSpec)) moveStillCard

/-- THE SECOND FORM's CARD OF 'lavabolaw20.MoveAsks'. -/
def moveAsksUptoCard : Claim7 := { stood := { row := moveAsksUptoRow, standIns := [], harness := (true, "f4dc9e1cca478e3e08ff1c22741c8ebc72f185c958f0af4d9b95219ec100b591"), looks := false }, kinds := [], alts := [], laidByText := true, laidKinds := [.data, .data], laidTests := true, laidLooks := .later }
def MoveAsksUptoCardSaid : Prop := Claim7.holds Tryd.pinned (.plain (OpenSpec.upto moveAsksSpec)) moveAsksUptoCard

/-- THE SECOND FORM's CARD OF 'lavabolaw20.MoveWays'. -/
def moveWaysUptoCard : Claim7 := { stood := { row := moveWaysUptoRow, standIns := [], harness := (true, "f4dc9e1cca478e3e08ff1c22741c8ebc72f185c958f0af4d9b95219ec100b591"), looks := false }, kinds := [], alts := [], laidByText := true, laidKinds := [.data, .data], laidTests := true, laidLooks := .later }
def MoveWaysUptoCardSaid : Prop := Claim7.holds Tryd.pinned (.plain (OpenSpec.upto moveWaysSpec)) moveWaysUptoCard

/-- THE SECOND FORM's CARD OF 'lavabolaw20.MoveEnds'. -/
def moveEndsUptoCard : Claim7 := { stood := { row := moveEndsUptoRow, standIns := [], harness := (true, "f4dc9e1cca478e3e08ff1c22741c8ebc72f185c958f0af4d9b95219ec100b591"), looks := false }, kinds := [], alts := [], laidByText := true, laidKinds := [.data, .data], laidTests := true, laidLooks := .later }
def MoveEndsUptoCardSaid : Prop := Claim7.holds Tryd.pinned (.plain (OpenSpec.upto moveEndsSpec)) moveEndsUptoCard

/-- THE SECOND FORM's CARD OF 'lavabolaw20.MoveStill'. -/
def moveStillUptoCard : Claim7 := { stood := { row := moveStillUptoRow, standIns := [], harness := (true, "f4dc9e1cca478e3e08ff1c22741c8ebc72f185c958f0af4d9b95219ec100b591"), looks := false }, kinds := [], alts := [], laidByText := true, laidKinds := [.data, .data], laidTests := true, laidLooks := .later }
def MoveStillUptoCardSaid : Prop := Claim7.holds Tryd.pinned (.plain (OpenSpec.upto moveStillSpec)) moveStillUptoCard
end Rows
end Go.Proofs.YtaehiglpoapkpaaDoor
