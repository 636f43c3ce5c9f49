/-
  DERIVED. GIVEN WITH THE SEED: THE CARDS: each row of YtmmhdchhajmbfaaDoorRows.lean that lists a variable, with what it lists TIED to the program's text (the seventh form; the later family's looks); each row that meets fmt, with fmt's text TOLD by the authors' own Lean function (tested against real Go, not proved from fmt's source: count such statements apart). THE CARD IS WHAT COUNTS. Prove the row's statement (the work); the ties are given (YtmmhdchhajmbfaaDoorTie.lean); close each card by the builder's one call (the guide's Derived/Test/ToyasCard.lean, 'card_holds'). Laid BY PROGRAM, IN A SANDBOX (cutbox-door.mjs). By AI agents, Wed Nov 11 2026. No macro, syntax, notation, axiom, sorry.
-/
import Derived.Test.YtmmhdchhajmbfaaDoorRows
import GoSem.ClaimSeven
namespace Go.Proofs.YtmmhdchhajmbfaaDoor
namespace Rows

/-- THE TIED CARD OF 'blazonlaw08.ProofHashed'. -/
def proofHashedCard : Claim7 := { stood := { row := proofHashedRow, standIns := [], harness := (true, "2445b931c2133088490dfdcb0e3ff6765c2126a950a9dab7e2ed5bec20a01cf5"), looks := false }, kinds := [], alts := [], laidByText := true, laidKinds := [.data], laidTests := true, laidLooks := .later }
def ProofHashedCardSaid : Prop := Claim7.holds Tryd.pinned (.plain (OpenSpec.ofChange proofHashedSpec)) proofHashedCard

/-- THE TIED CARD OF 'blazonlaw08.ProofChecks'. -/
def proofChecksCard : Claim7 := { stood := { row := proofChecksRow, standIns := [], harness := (true, "2445b931c2133088490dfdcb0e3ff6765c2126a950a9dab7e2ed5bec20a01cf5"), looks := false }, kinds := [], alts := [], laidByText := true, laidKinds := [.data], laidTests := true, laidLooks := .later }
def ProofChecksCardSaid : Prop := Claim7.holds Tryd.pinned (.plain (OpenSpec.ofChange proofChecksSpec)) proofChecksCard

/-- THE TIED CARD OF 'blazonlaw08.ProofTrees'. -/
def proofTreesCard : Claim7 := { stood := { row := proofTreesRow, standIns := [], harness := (true, "2445b931c2133088490dfdcb0e3ff6765c2126a950a9dab7e2ed5bec20a01cf5"), looks := false }, kinds := [], alts := [], laidByText := true, laidKinds := [.data], laidTests := true, laidLooks := .later }
def ProofTreesCardSaid : Prop := Claim7.holds Tryd.pinned (.plain (OpenSpec.ofChange proofTreesSpec)) proofTreesCard

/-- THE TIED CARD OF 'blazonlaw08.ProofTurned'. -/
def proofTurnedCard : Claim7 := { stood := { row := proofTurnedRow, standIns := [], harness := (true, "2445b931c2133088490dfdcb0e3ff6765c2126a950a9dab7e2ed5bec20a01cf5"), looks := false }, kinds := [], alts := [], laidByText := true, laidKinds := [.data], laidTests := true, laidLooks := .later }
def ProofTurnedCardSaid : Prop := Claim7.holds Tryd.pinned (.plain (OpenSpec.ofChange proofTurnedSpec)) proofTurnedCard

/-- THE TIED CARD OF 'blazonlaw08.ProofShort'. -/
def proofShortCard : Claim7 := { stood := { row := proofShortRow, standIns := [], harness := (true, "2445b931c2133088490dfdcb0e3ff6765c2126a950a9dab7e2ed5bec20a01cf5"), looks := false }, kinds := [], alts := [], laidByText := true, laidKinds := [.data], laidTests := true, laidLooks := .later }
def ProofShortCardSaid : Prop := Claim7.holds Tryd.pinned (.plain (OpenSpec.ofChange proofShortSpec)) proofShortCard

/-- THE SECOND FORM's CARD OF 'blazonlaw08.ProofHashed'. -/
def proofHashedUptoCard : Claim7 := { stood := { row := proofHashedUptoRow, standIns := [], harness := (true, "2445b931c2133088490dfdcb0e3ff6765c2126a950a9dab7e2ed5bec20a01cf5"), looks := false }, kinds := [], alts := [], laidByText := true, laidKinds := [.data], laidTests := true, laidLooks := .later }
def ProofHashedUptoCardSaid : Prop := Claim7.holds Tryd.pinned (.plain (OpenSpec.upto proofHashedSpec)) proofHashedUptoCard

/-- THE SECOND FORM's CARD OF 'blazonlaw08.ProofChecks'. -/
def proofChecksUptoCard : Claim7 := { stood := { row := proofChecksUptoRow, standIns := [], harness := (true, "2445b931c2133088490dfdcb0e3ff6765c2126a950a9dab7e2ed5bec20a01cf5"), looks := false }, kinds := [], alts := [], laidByText := true, laidKinds := [.data], laidTests := true, laidLooks := .later }
def ProofChecksUptoCardSaid : Prop := Claim7.holds Tryd.pinned (.plain (OpenSpec.upto proofChecksSpec)) proofChecksUptoCard

/-- THE SECOND FORM's CARD OF 'blazonlaw08.ProofTrees'. -/
def proofTreesUptoCard : Claim7 := { stood := { row := proofTreesUptoRow, standIns := [], harness := (true, "2445b931c2133088490dfdcb0e3ff6765c2126a950a9dab7e2ed5bec20a01cf5"), looks := false }, kinds := [], alts := [], laidByText := true, laidKinds := [.data], laidTests := true, laidLooks := .later }
def ProofTreesUptoCardSaid : Prop := Claim7.holds Tryd.pinned (.plain (OpenSpec.upto proofTreesSpec)) proofTreesUptoCard

/-- THE SECOND FORM's CARD OF 'blazonlaw08.ProofTurned'. -/
def proofTurnedUptoCard : Claim7 := { stood := { row := proofTurnedUptoRow, standIns := [], harness := (true, "2445b931c2133088490dfdcb0e3ff6765c2126a950a9dab7e2ed5bec20a01cf5"), looks := false }, kinds := [], alts := [], laidByText := true, laidKinds := [.data], laidTests := true, laidLooks := .later }
def ProofTurnedUptoCardSaid : Prop := Claim7.holds Tryd.pinned (.plain (OpenSpec.upto proofTurnedSpec)) proofTurnedUptoCard

/-- THE SECOND FORM's CARD OF 'blazonlaw08.ProofShort'. -/
def proofShortUptoCard : Claim7 := { stood := { row := proofShortUptoRow, standIns := [], harness := (true, "2445b931c2133088490dfdcb0e3ff6765c2126a950a9dab7e2ed5bec20a01cf5"), looks := false }, kinds := [], alts := [], laidByText := true, laidKinds := [.data], laidTests := true, laidLooks := .later }
def ProofShortUptoCardSaid : Prop := Claim7.holds Tryd.pinned (.plain (OpenSpec.upto proofShortSpec)) proofShortUptoCard
end Rows
end Go.Proofs.YtmmhdchhajmbfaaDoor
