/-
  DERIVED. GIVEN WITH THE SEED: THE CARDS: each row of YtpeifpoeeopecaaDoorRows.lean that lists a variable, with what it lists TIED to the program's text (the seventh form; the later family's looks); each row that meets fmt, with fmt's text TOLD by the authors' own Lean function (tested against real Go, not proved from fmt's source: count such statements apart). THE CARD IS WHAT COUNTS. Prove the row's statement (the work); the ties are given (YtpeifpoeeopecaaDoorTie.lean); close each card by the builder's one call (the guide's Derived/Test/ToyasCard.lean, 'card_holds'). Laid BY PROGRAM, IN A SANDBOX (cutbox-door.mjs). By AI agents, Wed Nov 11 2026. No macro, syntax, notation, axiom, sorry.
-/
import Derived.Test.YtpeifpoeeopecaaDoorRows
import GoSem.ClaimSeven
namespace Go.Proofs.YtpeifpoeeopecaaDoor
namespace Rows

/-- THE TIED CARD OF 'blazonlaw09.ClashPairs'. -/
def clashPairsCard : Claim7 := { stood := { row := clashPairsRow, standIns := [], harness := (true, "3c39219a27d2b001d0c60cb3fb753b15e4f5b48ca05df88361412591f44976fb"), looks := false }, kinds := [], alts := [], laidByText := true, laidKinds := [.data], laidTests := true, laidLooks := .later }
def ClashPairsCardSaid : Prop := Claim7.holds Tryd.pinned (.plain (OpenSpec.ofChange clashPairsSpec)) clashPairsCard

/-- THE TIED CARD OF 'blazonlaw09.ClashWays'. -/
def clashWaysCard : Claim7 := { stood := { row := clashWaysRow, standIns := [], harness := (true, "3c39219a27d2b001d0c60cb3fb753b15e4f5b48ca05df88361412591f44976fb"), looks := false }, kinds := [], alts := [], laidByText := true, laidKinds := [.data], laidTests := true, laidLooks := .later }
def ClashWaysCardSaid : Prop := Claim7.holds Tryd.pinned (.plain (OpenSpec.ofChange clashWaysSpec)) clashWaysCard

/-- THE TIED CARD OF 'blazonlaw09.ClashBinds'. -/
def clashBindsCard : Claim7 := { stood := { row := clashBindsRow, standIns := [], harness := (true, "3c39219a27d2b001d0c60cb3fb753b15e4f5b48ca05df88361412591f44976fb"), looks := false }, kinds := [], alts := [], laidByText := true, laidKinds := [.data], laidTests := true, laidLooks := .later }
def ClashBindsCardSaid : Prop := Claim7.holds Tryd.pinned (.plain (OpenSpec.ofChange clashBindsSpec)) clashBindsCard

/-- THE TIED CARD OF 'blazonlaw09.ClashTrees'. -/
def clashTreesCard : Claim7 := { stood := { row := clashTreesRow, standIns := [], harness := (true, "3c39219a27d2b001d0c60cb3fb753b15e4f5b48ca05df88361412591f44976fb"), looks := false }, kinds := [], alts := [], laidByText := true, laidKinds := [.data], laidTests := true, laidLooks := .later }
def ClashTreesCardSaid : Prop := Claim7.holds Tryd.pinned (.plain (OpenSpec.ofChange clashTreesSpec)) clashTreesCard

/-- THE TIED CARD OF 'blazonlaw09.ClashRoots'. -/
def clashRootsCard : Claim7 := { stood := { row := clashRootsRow, standIns := [], harness := (true, "3c39219a27d2b001d0c60cb3fb753b15e4f5b48ca05df88361412591f44976fb"), looks := false }, kinds := [], alts := [], laidByText := true, laidKinds := [.data], laidTests := true, laidLooks := .later }
def ClashRootsCardSaid : Prop := Claim7.holds Tryd.pinned (.plain (OpenSpec.ofChange clashRootsSpec)) clashRootsCard

/-- THE SECOND FORM's CARD OF 'blazonlaw09.ClashPairs'. -/
def clashPairsUptoCard : Claim7 := { stood := { row := clashPairsUptoRow, standIns := [], harness := (true, "3c39219a27d2b001d0c60cb3fb753b15e4f5b48ca05df88361412591f44976fb"), looks := false }, kinds := [], alts := [], laidByText := true, laidKinds := [.data], laidTests := true, laidLooks := .later }
def ClashPairsUptoCardSaid : Prop := Claim7.holds Tryd.pinned (.plain (OpenSpec.upto clashPairsSpec)) clashPairsUptoCard

/-- THE SECOND FORM's CARD OF 'blazonlaw09.ClashWays'. -/
def clashWaysUptoCard : Claim7 := { stood := { row := clashWaysUptoRow, standIns := [], harness := (true, "3c39219a27d2b001d0c60cb3fb753b15e4f5b48ca05df88361412591f44976fb"), looks := false }, kinds := [], alts := [], laidByText := true, laidKinds := [.data], laidTests := true, laidLooks := .later }
def ClashWaysUptoCardSaid : Prop := Claim7.holds Tryd.pinned (.plain (OpenSpec.upto clashWaysSpec)) clashWaysUptoCard

/-- THE SECOND FORM's CARD OF 'blazonlaw09.ClashBinds'. -/
def clashBindsUptoCard : Claim7 := { stood := { row := clashBindsUptoRow, standIns := [], harness := (true, "3c39219a27d2b001d0c60cb3fb753b15e4f5b48ca05df88361412591f44976fb"), looks := false }, kinds := [], alts := [], laidByText := true, laidKinds := [.data], laidTests := true, laidLooks := .later }
def ClashBindsUptoCardSaid : Prop := Claim7.holds Tryd.pinned (.plain (OpenSpec.upto clashBindsSpec)) clashBindsUptoCard

/-- THE SECOND FORM's CARD OF 'blazonlaw09.ClashTrees'. -/
def clashTreesUptoCard : Claim7 := { stood := { row := clashTreesUptoRow, standIns := [], harness := (true, "3c39219a27d2b001d0c60cb3fb753b15e4f5b48ca05df88361412591f44976fb"), looks := false }, kinds := [], alts := [], laidByText := true, laidKinds := [.data], laidTests := true, laidLooks := .later }
def ClashTreesUptoCardSaid : Prop := Claim7.holds Tryd.pinned (.plain (OpenSpec.upto clashTreesSpec)) clashTreesUptoCard

/-- THE SECOND FORM's CARD OF 'blazonlaw09.ClashRoots'. -/
def clashRootsUptoCard : Claim7 := { stood := { row := clashRootsUptoRow, standIns := [], harness := (true, "3c39219a27d2b001d0c60cb3fb753b15e4f5b48ca05df88361412591f44976fb"), looks := false }, kinds := [], alts := [], laidByText := true, laidKinds := [.data], laidTests := true, laidLooks := .later }
def ClashRootsUptoCardSaid : Prop := Claim7.holds Tryd.pinned (.plain (OpenSpec.upto clashRootsSpec)) clashRootsUptoCard
end Rows
end Go.Proofs.YtpeifpoeeopecaaDoor
