/-
  DERIVED. GIVEN WITH THE SEED: THE CARDS: each row of YtphmmnffgknkcabGreatDoorRows.lean that lists a variable, with what it lists TIED to the program's text (the seventh form; the later family's looks); each row that meets fmt, with fmt's text TOLD by the authors' own Lean function (tested against real Go, not proved from fmt's source: count such statements apart). THE CARD IS WHAT COUNTS. Prove the row's statement (the work); the ties are given (YtphmmnffgknkcabGreatDoorTie.lean); close each card by the builder's one call (the guide's Derived/Test/ToyasCard.lean, 'card_holds'). Laid BY PROGRAM, IN A SANDBOX (cutbox-door.mjs). By AI agents, Wed Nov 11 2026. No macro, syntax, notation, axiom, sorry.
-/
import Derived.Test.YtphmmnffgknkcabGreatDoorRows
import GoSem.ClaimSeven
namespace Go.Proofs.YtphmmnffgknkcabGreatDoor
namespace Rows

/-- THE TIED CARD OF 'blazonlaw18.ReapNeeds'. -/
def reapNeedsCard : Claim7 := { stood := { row := reapNeedsRow, standIns := [], harness := (true, "bb8b79e5b438bb9d99d7fe28888aa353060b3aa1836dd699e7797fa4056b59c7"), looks := false }, kinds := [], alts := [], laidByText := true, laidKinds := [.data], laidTests := true, laidLooks := .later }
def ReapNeedsCardSaid : Prop := Claim7.holds Tryz.pinned (.plain (OpenSpec.ofChange reapNeedsSpec)) reapNeedsCard

/-- THE TIED CARD OF 'blazonlaw18.ReapAgain'. -/
def reapAgainCard : Claim7 := { stood := { row := reapAgainRow, standIns := [], harness := (true, "bb8b79e5b438bb9d99d7fe28888aa353060b3aa1836dd699e7797fa4056b59c7"), looks := false }, kinds := [], alts := [], laidByText := true, laidKinds := [.data], laidTests := true, laidLooks := .later }
def ReapAgainCardSaid : Prop := Claim7.holds Tryz.pinned (.plain (OpenSpec.ofChange reapAgainSpec)) reapAgainCard

/-- THE TIED CARD OF 'blazonlaw18.ReapBound'. -/
def reapBoundCard : Claim7 := { stood := { row := reapBoundRow, standIns := [], harness := (true, "bb8b79e5b438bb9d99d7fe28888aa353060b3aa1836dd699e7797fa4056b59c7"), looks := false }, kinds := [], alts := [], laidByText := true, laidKinds := [.data], laidTests := true, laidLooks := .later }
def ReapBoundCardSaid : Prop := Claim7.holds Tryz.pinned (.plain (OpenSpec.ofChange reapBoundSpec)) reapBoundCard

/-- THE SECOND FORM's CARD OF 'blazonlaw18.ReapNeeds'. -/
def reapNeedsUptoCard : Claim7 := { stood := { row := reapNeedsUptoRow, standIns := [], harness := (true, "bb8b79e5b438bb9d99d7fe28888aa353060b3aa1836dd699e7797fa4056b59c7"), looks := false }, kinds := [], alts := [], laidByText := true, laidKinds := [.data], laidTests := true, laidLooks := .later }
def ReapNeedsUptoCardSaid : Prop := Claim7.holds Tryz.pinned (.plain (OpenSpec.upto reapNeedsSpec)) reapNeedsUptoCard

/-- THE SECOND FORM's CARD OF 'blazonlaw18.ReapAgain'. -/
def reapAgainUptoCard : Claim7 := { stood := { row := reapAgainUptoRow, standIns := [], harness := (true, "bb8b79e5b438bb9d99d7fe28888aa353060b3aa1836dd699e7797fa4056b59c7"), looks := false }, kinds := [], alts := [], laidByText := true, laidKinds := [.data], laidTests := true, laidLooks := .later }
def ReapAgainUptoCardSaid : Prop := Claim7.holds Tryz.pinned (.plain (OpenSpec.upto reapAgainSpec)) reapAgainUptoCard

/-- THE SECOND FORM's CARD OF 'blazonlaw18.ReapBound'. -/
def reapBoundUptoCard : Claim7 := { stood := { row := reapBoundUptoRow, standIns := [], harness := (true, "bb8b79e5b438bb9d99d7fe28888aa353060b3aa1836dd699e7797fa4056b59c7"), looks := false }, kinds := [], alts := [], laidByText := true, laidKinds := [.data], laidTests := true, laidLooks := .later }
def ReapBoundUptoCardSaid : Prop := Claim7.holds Tryz.pinned (.plain (OpenSpec.upto reapBoundSpec)) reapBoundUptoCard
end Rows
end Go.Proofs.YtphmmnffgknkcabGreatDoor
