/-
  DERIVED. GIVEN WITH THE SEED: THE CARDS: each row of YtfbdnhadcnmfoaaDoorRows.lean that lists a variable, with what it lists TIED to the program's text (the seventh form; the later family's looks); each row that meets fmt, with fmt's text TOLD by the authors' own Lean function (tested against real Go, not proved from fmt's source: count such statements apart). THE CARD IS WHAT COUNTS. Prove the row's statement (the work); the ties are given (YtfbdnhadcnmfoaaDoorTie.lean); close each card by the builder's one call (the guide's Derived/Test/ToyasCard.lean, 'card_holds'). Laid BY PROGRAM, IN A SANDBOX (cutbox-door.mjs). By AI agents, Wed Nov 11 2026. No macro, syntax, notation, axiom, sorry.
-/
import Derived.Test.YtfbdnhadcnmfoaaDoorRows
import GoSem.ClaimSeven
namespace Go.Proofs.YtfbdnhadcnmfoaaDoor
namespace Rows

/-- THE TIED CARD OF 'blazonlaw11.ChainSeals'. -/
def chainSealsCard : Claim7 := { stood := { row := chainSealsRow, standIns := [], harness := (true, "1f2ae4241de1f39c87aa992bebcf1d71174a385ccb153dc37ccbbd7e6013458b"), looks := false }, kinds := [], alts := [], laidByText := true, laidKinds := [.data], laidTests := true, laidLooks := .later }
def ChainSealsCardSaid : Prop := Claim7.holds Tryd.pinned (.plain (OpenSpec.ofChange chainSealsSpec)) chainSealsCard

/-- THE TIED CARD OF 'blazonlaw11.ChainFollows'. -/
def chainFollowsCard : Claim7 := { stood := { row := chainFollowsRow, standIns := [], harness := (true, "1f2ae4241de1f39c87aa992bebcf1d71174a385ccb153dc37ccbbd7e6013458b"), looks := false }, kinds := [], alts := [], laidByText := true, laidKinds := [.data], laidTests := true, laidLooks := .later }
def ChainFollowsCardSaid : Prop := Claim7.holds Tryd.pinned (.plain (OpenSpec.ofChange chainFollowsSpec)) chainFollowsCard

/-- THE TIED CARD OF 'blazonlaw11.ChainWalks'. -/
def chainWalksCard : Claim7 := { stood := { row := chainWalksRow, standIns := [], harness := (true, "1f2ae4241de1f39c87aa992bebcf1d71174a385ccb153dc37ccbbd7e6013458b"), looks := false }, kinds := [], alts := [], laidByText := true, laidKinds := [.data], laidTests := true, laidLooks := .later }
def ChainWalksCardSaid : Prop := Claim7.holds Tryd.pinned (.plain (OpenSpec.ofChange chainWalksSpec)) chainWalksCard

/-- THE TIED CARD OF 'blazonlaw11.ChainHonest'. -/
def chainHonestCard : Claim7 := { stood := { row := chainHonestRow, standIns := [], harness := (true, "1f2ae4241de1f39c87aa992bebcf1d71174a385ccb153dc37ccbbd7e6013458b"), looks := false }, kinds := [], alts := [], laidByText := true, laidKinds := [.data], laidTests := true, laidLooks := .later }
def ChainHonestCardSaid : Prop := Claim7.holds Tryd.pinned (.plain (OpenSpec.ofChange chainHonestSpec)) chainHonestCard

/-- THE TIED CARD OF 'blazonlaw11.ChainOne'. -/
def chainOneCard : Claim7 := { stood := { row := chainOneRow, standIns := [], harness := (true, "1f2ae4241de1f39c87aa992bebcf1d71174a385ccb153dc37ccbbd7e6013458b"), looks := false }, kinds := [], alts := [], laidByText := true, laidKinds := [.data], laidTests := true, laidLooks := .later }
def ChainOneCardSaid : Prop := Claim7.holds Tryd.pinned (.plain (OpenSpec.ofChange chainOneSpec)) chainOneCard

/-- THE TIED CARD OF 'blazonlaw11.ChainPieces'. -/
def chainPiecesCard : Claim7 := { stood := { row := chainPiecesRow, standIns := [], harness := (true, "1f2ae4241de1f39c87aa992bebcf1d71174a385ccb153dc37ccbbd7e6013458b"), looks := false }, kinds := [], alts := [], laidByText := true, laidKinds := [.data], laidTests := true, laidLooks := .later }
def ChainPiecesCardSaid : Prop := Claim7.holds Tryd.pinned (.plain (OpenSpec.ofChange chainPiecesSpec)) chainPiecesCard

/-- THE SECOND FORM's CARD OF 'blazonlaw11.ChainSeals'. -/
def chainSealsUptoCard : Claim7 := { stood := { row := chainSealsUptoRow, standIns := [], harness := (true, "1f2ae4241de1f39c87aa992bebcf1d71174a385ccb153dc37ccbbd7e6013458b"), looks := false }, kinds := [], alts := [], laidByText := true, laidKinds := [.data], laidTests := true, laidLooks := .later }
def ChainSealsUptoCardSaid : Prop := Claim7.holds Tryd.pinned (.plain (OpenSpec.upto chainSealsSpec)) chainSealsUptoCard

/-- THE SECOND FORM's CARD OF 'blazonlaw11.ChainFollows'. -/
def chainFollowsUptoCard : Claim7 := { stood := { row := chainFollowsUptoRow, standIns := [], harness := (true, "1f2ae4241de1f39c87aa992bebcf1d71174a385ccb153dc37ccbbd7e6013458b"), looks := false }, kinds := [], alts := [], laidByText := true, laidKinds := [.data], laidTests := true, laidLooks := .later }
def ChainFollowsUptoCardSaid : Prop := Claim7.holds Tryd.pinned (.plain (OpenSpec.upto chainFollowsSpec)) chainFollowsUptoCard

/-- THE SECOND FORM's CARD OF 'blazonlaw11.ChainWalks'. -/
def chainWalksUptoCard : Claim7 := { stood := { row := chainWalksUptoRow, standIns := [], harness := (true, "1f2ae4241de1f39c87aa992bebcf1d71174a385ccb153dc37ccbbd7e6013458b"), looks := false }, kinds := [], alts := [], laidByText := true, laidKinds := [.data], laidTests := true, laidLooks := .later }
def ChainWalksUptoCardSaid : Prop := Claim7.holds Tryd.pinned (.plain (OpenSpec.upto chainWalksSpec)) chainWalksUptoCard

/-- THE SECOND FORM's CARD OF 'blazonlaw11.ChainHonest'. -/
def chainHonestUptoCard : Claim7 := { stood := { row := chainHonestUptoRow, standIns := [], harness := (true, "1f2ae4241de1f39c87aa992bebcf1d71174a385ccb153dc37ccbbd7e6013458b"), looks := false }, kinds := [], alts := [], laidByText := true, laidKinds := [.data], laidTests := true, laidLooks := .later }
def ChainHonestUptoCardSaid : Prop := Claim7.holds Tryd.pinned (.plain (OpenSpec.upto chainHonestSpec)) chainHonestUptoCard

/-- THE SECOND FORM's CARD OF 'blazonlaw11.ChainOne'. -/
def chainOneUptoCard : Claim7 := { stood := { row := chainOneUptoRow, standIns := [], harness := (true, "1f2ae4241de1f39c87aa992bebcf1d71174a385ccb153dc37ccbbd7e6013458b"), looks := false }, kinds := [], alts := [], laidByText := true, laidKinds := [.data], laidTests := true, laidLooks := .later }
def ChainOneUptoCardSaid : Prop := Claim7.holds Tryd.pinned (.plain (OpenSpec.upto chainOneSpec)) chainOneUptoCard

/-- THE SECOND FORM's CARD OF 'blazonlaw11.ChainPieces'. -/
def chainPiecesUptoCard : Claim7 := { stood := { row := chainPiecesUptoRow, standIns := [], harness := (true, "1f2ae4241de1f39c87aa992bebcf1d71174a385ccb153dc37ccbbd7e6013458b"), looks := false }, kinds := [], alts := [], laidByText := true, laidKinds := [.data], laidTests := true, laidLooks := .later }
def ChainPiecesUptoCardSaid : Prop := Claim7.holds Tryd.pinned (.plain (OpenSpec.upto chainPiecesSpec)) chainPiecesUptoCard
end Rows
end Go.Proofs.YtfbdnhadcnmfoaaDoor
