/-
  DERIVED. GIVEN WITH THE SEED: THE CARDS: each row of YtphmmnffgknkcaaDoorRows.lean that lists a variable, with what it lists TIED to the program's text (the seventh form; the later family's looks); each row that meets fmt, with fmt's text TOLD by the authors' own Lean function (tested against real Go, not proved from fmt's source: count such statements apart). THE CARD IS WHAT COUNTS. Prove the row's statement (the work); the ties are given (YtphmmnffgknkcaaDoorTie.lean); close each card by the builder's one call (the guide's Derived/Test/ToyasCard.lean, 'card_holds'). Laid BY PROGRAM, IN A SANDBOX (cutbox-door.mjs). By AI agents, Wed Nov 11 2026. No macro, syntax, notation, axiom, sorry.
-/
import Derived.Test.YtphmmnffgknkcaaDoorRows
import GoSem.ClaimSeven
namespace Go.Proofs.YtphmmnffgknkcaaDoor
namespace Rows

/-- THE TIED CARD OF 'blazonlaw17.PagesSaves'. -/
def pagesSavesCard : Claim7 := { stood := { row := pagesSavesRow, standIns := [], harness := (true, "471af22708c83414cded7ea5d536a80d1bd3c2f6fc8689769304be53f7afe741"), looks := false }, kinds := [], alts := [], laidByText := true, laidKinds := [.data], laidTests := true, laidLooks := .later }
def PagesSavesCardSaid : Prop := Claim7.holds Tryd.pinned (.plain (OpenSpec.ofChange pagesSavesSpec)) pagesSavesCard

/-- THE TIED CARD OF 'blazonlaw17.PagesBack'. -/
def pagesBackCard : Claim7 := { stood := { row := pagesBackRow, standIns := [], harness := (true, "471af22708c83414cded7ea5d536a80d1bd3c2f6fc8689769304be53f7afe741"), looks := false }, kinds := [], alts := [], laidByText := true, laidKinds := [.data], laidTests := true, laidLooks := .later }
def PagesBackCardSaid : Prop := Claim7.holds Tryd.pinned (.plain (OpenSpec.ofChange pagesBackSpec)) pagesBackCard

/-- THE TIED CARD OF 'blazonlaw17.PagesLacks'. -/
def pagesLacksCard : Claim7 := { stood := { row := pagesLacksRow, standIns := [], harness := (true, "471af22708c83414cded7ea5d536a80d1bd3c2f6fc8689769304be53f7afe741"), looks := false }, kinds := [], alts := [], laidByText := true, laidKinds := [.data], laidTests := true, laidLooks := .later }
def PagesLacksCardSaid : Prop := Claim7.holds Tryd.pinned (.plain (OpenSpec.ofChange pagesLacksSpec)) pagesLacksCard

/-- THE TIED CARD OF 'blazonlaw17.PagesShared'. -/
def pagesSharedCard : Claim7 := { stood := { row := pagesSharedRow, standIns := [], harness := (true, "471af22708c83414cded7ea5d536a80d1bd3c2f6fc8689769304be53f7afe741"), looks := false }, kinds := [], alts := [], laidByText := true, laidKinds := [.data], laidTests := true, laidLooks := .later }
def PagesSharedCardSaid : Prop := Claim7.holds Tryd.pinned (.plain (OpenSpec.ofChange pagesSharedSpec)) pagesSharedCard

/-- THE TIED CARD OF 'blazonlaw17.PagesOne'. -/
def pagesOneCard : Claim7 := { stood := { row := pagesOneRow, standIns := [], harness := (true, "471af22708c83414cded7ea5d536a80d1bd3c2f6fc8689769304be53f7afe741"), looks := false }, kinds := [], alts := [], laidByText := true, laidKinds := [.data], laidTests := true, laidLooks := .later }
def PagesOneCardSaid : Prop := Claim7.holds Tryd.pinned (.plain (OpenSpec.ofChange pagesOneSpec)) pagesOneCard

/-- THE SECOND FORM's CARD OF 'blazonlaw17.PagesSaves'. -/
def pagesSavesUptoCard : Claim7 := { stood := { row := pagesSavesUptoRow, standIns := [], harness := (true, "471af22708c83414cded7ea5d536a80d1bd3c2f6fc8689769304be53f7afe741"), looks := false }, kinds := [], alts := [], laidByText := true, laidKinds := [.data], laidTests := true, laidLooks := .later }
def PagesSavesUptoCardSaid : Prop := Claim7.holds Tryd.pinned (.plain (OpenSpec.upto pagesSavesSpec)) pagesSavesUptoCard

/-- THE SECOND FORM's CARD OF 'blazonlaw17.PagesBack'. -/
def pagesBackUptoCard : Claim7 := { stood := { row := pagesBackUptoRow, standIns := [], harness := (true, "471af22708c83414cded7ea5d536a80d1bd3c2f6fc8689769304be53f7afe741"), looks := false }, kinds := [], alts := [], laidByText := true, laidKinds := [.data], laidTests := true, laidLooks := .later }
def PagesBackUptoCardSaid : Prop := Claim7.holds Tryd.pinned (.plain (OpenSpec.upto pagesBackSpec)) pagesBackUptoCard

/-- THE SECOND FORM's CARD OF 'blazonlaw17.PagesLacks'. -/
def pagesLacksUptoCard : Claim7 := { stood := { row := pagesLacksUptoRow, standIns := [], harness := (true, "471af22708c83414cded7ea5d536a80d1bd3c2f6fc8689769304be53f7afe741"), looks := false }, kinds := [], alts := [], laidByText := true, laidKinds := [.data], laidTests := true, laidLooks := .later }
def PagesLacksUptoCardSaid : Prop := Claim7.holds Tryd.pinned (.plain (OpenSpec.upto pagesLacksSpec)) pagesLacksUptoCard

/-- THE SECOND FORM's CARD OF 'blazonlaw17.PagesShared'. -/
def pagesSharedUptoCard : Claim7 := { stood := { row := pagesSharedUptoRow, standIns := [], harness := (true, "471af22708c83414cded7ea5d536a80d1bd3c2f6fc8689769304be53f7afe741"), looks := false }, kinds := [], alts := [], laidByText := true, laidKinds := [.data], laidTests := true, laidLooks := .later }
def PagesSharedUptoCardSaid : Prop := Claim7.holds Tryd.pinned (.plain (OpenSpec.upto pagesSharedSpec)) pagesSharedUptoCard

/-- THE SECOND FORM's CARD OF 'blazonlaw17.PagesOne'. -/
def pagesOneUptoCard : Claim7 := { stood := { row := pagesOneUptoRow, standIns := [], harness := (true, "471af22708c83414cded7ea5d536a80d1bd3c2f6fc8689769304be53f7afe741"), looks := false }, kinds := [], alts := [], laidByText := true, laidKinds := [.data], laidTests := true, laidLooks := .later }
def PagesOneUptoCardSaid : Prop := Claim7.holds Tryd.pinned (.plain (OpenSpec.upto pagesOneSpec)) pagesOneUptoCard
end Rows
end Go.Proofs.YtphmmnffgknkcaaDoor
