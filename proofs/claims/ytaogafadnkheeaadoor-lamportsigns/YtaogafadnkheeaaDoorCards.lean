/-
  DERIVED. GIVEN WITH THE SEED: THE CARDS: each row of YtaogafadnkheeaaDoorRows.lean that lists a variable, with what it lists TIED to the program's text (the seventh form; the later family's looks); each row that meets fmt, with fmt's text TOLD by the authors' own Lean function (tested against real Go, not proved from fmt's source: count such statements apart). THE CARD IS WHAT COUNTS. Prove the row's statement (the work); the ties are given (YtaogafadnkheeaaDoorTie.lean); close each card by the builder's one call (the guide's Derived/Test/ToyasCard.lean, 'card_holds'). Laid BY PROGRAM, IN A SANDBOX (cutbox-door.mjs). By AI agents, Wed Nov 11 2026. No macro, syntax, notation, axiom, sorry.
-/
import Derived.Test.YtaogafadnkheeaaDoorRows
import GoSem.ClaimSeven
namespace Go.Proofs.YtaogafadnkheeaaDoor
namespace Rows

/-- THE TIED CARD OF 'blazonlaw10.LamportKeys'. -/
def lamportKeysCard : Claim7 := { stood := { row := lamportKeysRow, standIns := [], harness := (true, "efe0295a91ecb08cdc9d2fba8fe7342e08764ef06efaf602815ecf9a1c5dbf8d"), looks := false }, kinds := [], alts := [], laidByText := true, laidKinds := [.data], laidTests := true, laidLooks := .later }
def LamportKeysCardSaid : Prop := Claim7.holds Tryd.pinned (.plain (OpenSpec.ofChange lamportKeysSpec)) lamportKeysCard

/-- THE TIED CARD OF 'blazonlaw10.LamportSigns'. -/
def lamportSignsCard : Claim7 := { stood := { row := lamportSignsRow, standIns := [], harness := (true, "efe0295a91ecb08cdc9d2fba8fe7342e08764ef06efaf602815ecf9a1c5dbf8d"), looks := false }, kinds := [], alts := [], laidByText := true, laidKinds := [.data], laidTests := true, laidLooks := .later }
def LamportSignsCardSaid : Prop := Claim7.holds Tryd.pinned (.plain (OpenSpec.ofChange lamportSignsSpec)) lamportSignsCard

/-- THE TIED CARD OF 'blazonlaw10.LamportOpens'. -/
def lamportOpensCard : Claim7 := { stood := { row := lamportOpensRow, standIns := [], harness := (true, "efe0295a91ecb08cdc9d2fba8fe7342e08764ef06efaf602815ecf9a1c5dbf8d"), looks := false }, kinds := [], alts := [], laidByText := true, laidKinds := [.data], laidTests := true, laidLooks := .later }
def LamportOpensCardSaid : Prop := Claim7.holds Tryd.pinned (.plain (OpenSpec.ofChange lamportOpensSpec)) lamportOpensCard

/-- THE TIED CARD OF 'blazonlaw10.LamportTurned'. -/
def lamportTurnedCard : Claim7 := { stood := { row := lamportTurnedRow, standIns := [], harness := (true, "efe0295a91ecb08cdc9d2fba8fe7342e08764ef06efaf602815ecf9a1c5dbf8d"), looks := false }, kinds := [], alts := [], laidByText := true, laidKinds := [.data], laidTests := true, laidLooks := .later }
def LamportTurnedCardSaid : Prop := Claim7.holds Tryd.pinned (.plain (OpenSpec.ofChange lamportTurnedSpec)) lamportTurnedCard

/-- THE TIED CARD OF 'blazonlaw10.LamportForged'. -/
def lamportForgedCard : Claim7 := { stood := { row := lamportForgedRow, standIns := [], harness := (true, "efe0295a91ecb08cdc9d2fba8fe7342e08764ef06efaf602815ecf9a1c5dbf8d"), looks := false }, kinds := [], alts := [], laidByText := true, laidKinds := [.data], laidTests := true, laidLooks := .later }
def LamportForgedCardSaid : Prop := Claim7.holds Tryd.pinned (.plain (OpenSpec.ofChange lamportForgedSpec)) lamportForgedCard

/-- THE SECOND FORM's CARD OF 'blazonlaw10.LamportKeys'. -/
def lamportKeysUptoCard : Claim7 := { stood := { row := lamportKeysUptoRow, standIns := [], harness := (true, "efe0295a91ecb08cdc9d2fba8fe7342e08764ef06efaf602815ecf9a1c5dbf8d"), looks := false }, kinds := [], alts := [], laidByText := true, laidKinds := [.data], laidTests := true, laidLooks := .later }
def LamportKeysUptoCardSaid : Prop := Claim7.holds Tryd.pinned (.plain (OpenSpec.upto lamportKeysSpec)) lamportKeysUptoCard

/-- THE SECOND FORM's CARD OF 'blazonlaw10.LamportSigns'. -/
def lamportSignsUptoCard : Claim7 := { stood := { row := lamportSignsUptoRow, standIns := [], harness := (true, "efe0295a91ecb08cdc9d2fba8fe7342e08764ef06efaf602815ecf9a1c5dbf8d"), looks := false }, kinds := [], alts := [], laidByText := true, laidKinds := [.data], laidTests := true, laidLooks := .later }
def LamportSignsUptoCardSaid : Prop := Claim7.holds Tryd.pinned (.plain (OpenSpec.upto lamportSignsSpec)) lamportSignsUptoCard

/-- THE SECOND FORM's CARD OF 'blazonlaw10.LamportOpens'. -/
def lamportOpensUptoCard : Claim7 := { stood := { row := lamportOpensUptoRow, standIns := [], harness := (true, "efe0295a91ecb08cdc9d2fba8fe7342e08764ef06efaf602815ecf9a1c5dbf8d"), looks := false }, kinds := [], alts := [], laidByText := true, laidKinds := [.data], laidTests := true, laidLooks := .later }
def LamportOpensUptoCardSaid : Prop := Claim7.holds Tryd.pinned (.plain (OpenSpec.upto lamportOpensSpec)) lamportOpensUptoCard

/-- THE SECOND FORM's CARD OF 'blazonlaw10.LamportTurned'. -/
def lamportTurnedUptoCard : Claim7 := { stood := { row := lamportTurnedUptoRow, standIns := [], harness := (true, "efe0295a91ecb08cdc9d2fba8fe7342e08764ef06efaf602815ecf9a1c5dbf8d"), looks := false }, kinds := [], alts := [], laidByText := true, laidKinds := [.data], laidTests := true, laidLooks := .later }
def LamportTurnedUptoCardSaid : Prop := Claim7.holds Tryd.pinned (.plain (OpenSpec.upto lamportTurnedSpec)) lamportTurnedUptoCard

/-- THE SECOND FORM's CARD OF 'blazonlaw10.LamportForged'. -/
def lamportForgedUptoCard : Claim7 := { stood := { row := lamportForgedUptoRow, standIns := [], harness := (true, "efe0295a91ecb08cdc9d2fba8fe7342e08764ef06efaf602815ecf9a1c5dbf8d"), looks := false }, kinds := [], alts := [], laidByText := true, laidKinds := [.data], laidTests := true, laidLooks := .later }
def LamportForgedUptoCardSaid : Prop := Claim7.holds Tryd.pinned (.plain (OpenSpec.upto lamportForgedSpec)) lamportForgedUptoCard
end Rows
end Go.Proofs.YtaogafadnkheeaaDoor
