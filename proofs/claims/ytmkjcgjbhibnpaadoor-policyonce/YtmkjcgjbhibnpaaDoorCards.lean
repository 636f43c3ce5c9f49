/-
  DERIVED. GIVEN WITH THE SEED: THE CARDS: each row of YtmkjcgjbhibnpaaDoorRows.lean that lists a variable, with what it lists TIED to the program's text (the seventh form; the later family's looks); each row that meets fmt, with fmt's text TOLD by the authors' own Lean function (tested against real Go, not proved from fmt's source: count such statements apart). THE CARD IS WHAT COUNTS. Prove the row's statement (the work); the ties are given (YtmkjcgjbhibnpaaDoorTie.lean); close each card by the builder's one call (the guide's Derived/Test/ToyasCard.lean, 'card_holds'). Laid BY PROGRAM, IN A SANDBOX (cutbox-door.mjs). By AI agents, Wed Nov 11 2026. No macro, syntax, notation, axiom, sorry.
-/
import Derived.Test.YtmkjcgjbhibnpaaDoorRows
import GoSem.ClaimSeven
namespace Go.Proofs.YtmkjcgjbhibnpaaDoor
namespace Rows

/-- THE TIED CARD OF 'blazonlaw19.PolicyDecides'. -/
def policyDecidesCard : Claim7 := { stood := { row := policyDecidesRow, standIns := [], harness := (true, "591ccf8f2cadc82001f36ca46987956890d44e32eb3a96d6fee8aa42b6468fcd"), looks := false }, kinds := [], alts := [], laidByText := true, laidKinds := [.data], laidTests := true, laidLooks := .later }
def PolicyDecidesCardSaid : Prop := Claim7.holds Tryd.pinned (.plain (OpenSpec.ofChange policyDecidesSpec)) policyDecidesCard

/-- THE TIED CARD OF 'blazonlaw19.PolicyAsks'. -/
def policyAsksCard : Claim7 := { stood := { row := policyAsksRow, standIns := [], harness := (true, "591ccf8f2cadc82001f36ca46987956890d44e32eb3a96d6fee8aa42b6468fcd"), looks := false }, kinds := [], alts := [], laidByText := true, laidKinds := [.data], laidTests := true, laidLooks := .later }
def PolicyAsksCardSaid : Prop := Claim7.holds Tryd.pinned (.plain (OpenSpec.ofChange policyAsksSpec)) policyAsksCard

/-- THE TIED CARD OF 'blazonlaw19.PolicyOthers'. -/
def policyOthersCard : Claim7 := { stood := { row := policyOthersRow, standIns := [], harness := (true, "591ccf8f2cadc82001f36ca46987956890d44e32eb3a96d6fee8aa42b6468fcd"), looks := false }, kinds := [], alts := [], laidByText := true, laidKinds := [.data], laidTests := true, laidLooks := .later }
def PolicyOthersCardSaid : Prop := Claim7.holds Tryd.pinned (.plain (OpenSpec.ofChange policyOthersSpec)) policyOthersCard

/-- THE TIED CARD OF 'blazonlaw19.PolicyOnce'. -/
def policyOnceCard : Claim7 := { stood := { row := policyOnceRow, standIns := [], harness := (true, "591ccf8f2cadc82001f36ca46987956890d44e32eb3a96d6fee8aa42b6468fcd"), looks := false }, kinds := [], alts := [], laidByText := true, laidKinds := [.data], laidTests := true, laidLooks := .later }
def PolicyOnceCardSaid : Prop := Claim7.holds Tryd.pinned (.plain (OpenSpec.ofChange policyOnceSpec)) policyOnceCard

/-- THE TIED CARD OF 'blazonlaw19.PolicyNames'. -/
def policyNamesCard : Claim7 := { stood := { row := policyNamesRow, standIns := [], harness := (true, "591ccf8f2cadc82001f36ca46987956890d44e32eb3a96d6fee8aa42b6468fcd"), looks := false }, kinds := [], alts := [], laidByText := true, laidKinds := [.data], laidTests := true, laidLooks := .later }
def PolicyNamesCardSaid : Prop := Claim7.holds Tryd.pinned (.plain (OpenSpec.ofChange policyNamesSpec)) policyNamesCard

/-- THE SECOND FORM's CARD OF 'blazonlaw19.PolicyDecides'. -/
def policyDecidesUptoCard : Claim7 := { stood := { row := policyDecidesUptoRow, standIns := [], harness := (true, "591ccf8f2cadc82001f36ca46987956890d44e32eb3a96d6fee8aa42b6468fcd"), looks := false }, kinds := [], alts := [], laidByText := true, laidKinds := [.data], laidTests := true, laidLooks := .later }
def PolicyDecidesUptoCardSaid : Prop := Claim7.holds Tryd.pinned (.plain (OpenSpec.upto policyDecidesSpec)) policyDecidesUptoCard

/-- THE SECOND FORM's CARD OF 'blazonlaw19.PolicyAsks'. -/
def policyAsksUptoCard : Claim7 := { stood := { row := policyAsksUptoRow, standIns := [], harness := (true, "591ccf8f2cadc82001f36ca46987956890d44e32eb3a96d6fee8aa42b6468fcd"), looks := false }, kinds := [], alts := [], laidByText := true, laidKinds := [.data], laidTests := true, laidLooks := .later }
def PolicyAsksUptoCardSaid : Prop := Claim7.holds Tryd.pinned (.plain (OpenSpec.upto policyAsksSpec)) policyAsksUptoCard

/-- THE SECOND FORM's CARD OF 'blazonlaw19.PolicyOthers'. -/
def policyOthersUptoCard : Claim7 := { stood := { row := policyOthersUptoRow, standIns := [], harness := (true, "591ccf8f2cadc82001f36ca46987956890d44e32eb3a96d6fee8aa42b6468fcd"), looks := false }, kinds := [], alts := [], laidByText := true, laidKinds := [.data], laidTests := true, laidLooks := .later }
def PolicyOthersUptoCardSaid : Prop := Claim7.holds Tryd.pinned (.plain (OpenSpec.upto policyOthersSpec)) policyOthersUptoCard

/-- THE SECOND FORM's CARD OF 'blazonlaw19.PolicyOnce'. -/
def policyOnceUptoCard : Claim7 := { stood := { row := policyOnceUptoRow, standIns := [], harness := (true, "591ccf8f2cadc82001f36ca46987956890d44e32eb3a96d6fee8aa42b6468fcd"), looks := false }, kinds := [], alts := [], laidByText := true, laidKinds := [.data], laidTests := true, laidLooks := .later }
def PolicyOnceUptoCardSaid : Prop := Claim7.holds Tryd.pinned (.plain (OpenSpec.upto policyOnceSpec)) policyOnceUptoCard

/-- THE SECOND FORM's CARD OF 'blazonlaw19.PolicyNames'. -/
def policyNamesUptoCard : Claim7 := { stood := { row := policyNamesUptoRow, standIns := [], harness := (true, "591ccf8f2cadc82001f36ca46987956890d44e32eb3a96d6fee8aa42b6468fcd"), looks := false }, kinds := [], alts := [], laidByText := true, laidKinds := [.data], laidTests := true, laidLooks := .later }
def PolicyNamesUptoCardSaid : Prop := Claim7.holds Tryd.pinned (.plain (OpenSpec.upto policyNamesSpec)) policyNamesUptoCard
end Rows
end Go.Proofs.YtmkjcgjbhibnpaaDoor
