/-
  DERIVED. GIVEN WITH THE SEED: THE CARDS: each row of YtaleeaocmomjlaaDoorRows.lean that lists a variable, with what it lists TIED to the program's text (the seventh form; the later family's looks); each row that meets fmt, with fmt's text TOLD by the authors' own Lean function (tested against real Go, not proved from fmt's source: count such statements apart). THE CARD IS WHAT COUNTS. Prove the row's statement (the work); the ties are given (YtaleeaocmomjlaaDoorTie.lean); close each card by the builder's one call (the guide's Derived/Test/ToyasCard.lean, 'card_holds'). Laid BY PROGRAM, IN A SANDBOX (cutbox-door.mjs). By AI agents, Wed Nov 11 2026. No macro, syntax, notation, axiom, sorry.
-/
import Derived.Test.YtaleeaocmomjlaaDoorRows
import GoSem.ClaimSeven
namespace Go.Proofs.YtaleeaocmomjlaaDoor
namespace Rows

/-- THE TIED CARD OF 'blazonlaw03.TagsBytes'. -/
def tagsBytesCard : Claim7 := { stood := { row := tagsBytesRow, standIns := [], harness := (true, "20f707777ce154501b37c513ed49b206dccb39b17132f9cdb2d5989e1c6e70e9"), looks := false }, kinds := [], alts := [], laidByText := true, laidKinds := [.data], laidTests := true, laidLooks := .later }
def TagsBytesCardSaid : Prop := Claim7.holds Tryd.pinned (.plain (OpenSpec.ofChange tagsBytesSpec)) tagsBytesCard

/-- THE TIED CARD OF 'blazonlaw03.TagsKeyed'. -/
def tagsKeyedCard : Claim7 := { stood := { row := tagsKeyedRow, standIns := [], harness := (true, "20f707777ce154501b37c513ed49b206dccb39b17132f9cdb2d5989e1c6e70e9"), looks := false }, kinds := [], alts := [], laidByText := true, laidKinds := [.data], laidTests := true, laidLooks := .later }
def TagsKeyedCardSaid : Prop := Claim7.holds Tryd.pinned (.plain (OpenSpec.ofChange tagsKeyedSpec)) tagsKeyedCard

/-- THE TIED CARD OF 'blazonlaw03.TagsApart'. -/
def tagsApartCard : Claim7 := { stood := { row := tagsApartRow, standIns := [], harness := (true, "20f707777ce154501b37c513ed49b206dccb39b17132f9cdb2d5989e1c6e70e9"), looks := false }, kinds := [], alts := [], laidByText := true, laidKinds := [.data], laidTests := true, laidLooks := .later }
def TagsApartCardSaid : Prop := Claim7.holds Tryd.pinned (.plain (OpenSpec.ofChange tagsApartSpec)) tagsApartCard

/-- THE TIED CARD OF 'blazonlaw03.TagsRoots'. -/
def tagsRootsCard : Claim7 := { stood := { row := tagsRootsRow, standIns := [], harness := (true, "20f707777ce154501b37c513ed49b206dccb39b17132f9cdb2d5989e1c6e70e9"), looks := false }, kinds := [], alts := [], laidByText := true, laidKinds := [.data], laidTests := true, laidLooks := .later }
def TagsRootsCardSaid : Prop := Claim7.holds Tryd.pinned (.plain (OpenSpec.ofChange tagsRootsSpec)) tagsRootsCard

/-- THE TIED CARD OF 'blazonlaw03.TagsKinds'. -/
def tagsKindsCard : Claim7 := { stood := { row := tagsKindsRow, standIns := [], harness := (true, "20f707777ce154501b37c513ed49b206dccb39b17132f9cdb2d5989e1c6e70e9"), looks := false }, kinds := [], alts := [], laidByText := true, laidKinds := [.data], laidTests := true, laidLooks := .later }
def TagsKindsCardSaid : Prop := Claim7.holds Tryd.pinned (.plain (OpenSpec.ofChange tagsKindsSpec)) tagsKindsCard

/-- THE SECOND FORM's CARD OF 'blazonlaw03.TagsBytes'. -/
def tagsBytesUptoCard : Claim7 := { stood := { row := tagsBytesUptoRow, standIns := [], harness := (true, "20f707777ce154501b37c513ed49b206dccb39b17132f9cdb2d5989e1c6e70e9"), looks := false }, kinds := [], alts := [], laidByText := true, laidKinds := [.data], laidTests := true, laidLooks := .later }
def TagsBytesUptoCardSaid : Prop := Claim7.holds Tryd.pinned (.plain (OpenSpec.upto tagsBytesSpec)) tagsBytesUptoCard

/-- THE SECOND FORM's CARD OF 'blazonlaw03.TagsKeyed'. -/
def tagsKeyedUptoCard : Claim7 := { stood := { row := tagsKeyedUptoRow, standIns := [], harness := (true, "20f707777ce154501b37c513ed49b206dccb39b17132f9cdb2d5989e1c6e70e9"), looks := false }, kinds := [], alts := [], laidByText := true, laidKinds := [.data], laidTests := true, laidLooks := .later }
def TagsKeyedUptoCardSaid : Prop := Claim7.holds Tryd.pinned (.plain (OpenSpec.upto tagsKeyedSpec)) tagsKeyedUptoCard

/-- THE SECOND FORM's CARD OF 'blazonlaw03.TagsApart'. -/
def tagsApartUptoCard : Claim7 := { stood := { row := tagsApartUptoRow, standIns := [], harness := (true, "20f707777ce154501b37c513ed49b206dccb39b17132f9cdb2d5989e1c6e70e9"), looks := false }, kinds := [], alts := [], laidByText := true, laidKinds := [.data], laidTests := true, laidLooks := .later }
def TagsApartUptoCardSaid : Prop := Claim7.holds Tryd.pinned (.plain (OpenSpec.upto tagsApartSpec)) tagsApartUptoCard

/-- THE SECOND FORM's CARD OF 'blazonlaw03.TagsRoots'. -/
def tagsRootsUptoCard : Claim7 := { stood := { row := tagsRootsUptoRow, standIns := [], harness := (true, "20f707777ce154501b37c513ed49b206dccb39b17132f9cdb2d5989e1c6e70e9"), looks := false }, kinds := [], alts := [], laidByText := true, laidKinds := [.data], laidTests := true, laidLooks := .later }
def TagsRootsUptoCardSaid : Prop := Claim7.holds Tryd.pinned (.plain (OpenSpec.upto tagsRootsSpec)) tagsRootsUptoCard

/-- THE SECOND FORM's CARD OF 'blazonlaw03.TagsKinds'. -/
def tagsKindsUptoCard : Claim7 := { stood := { row := tagsKindsUptoRow, standIns := [], harness := (true, "20f707777ce154501b37c513ed49b206dccb39b17132f9cdb2d5989e1c6e70e9"), looks := false }, kinds := [], alts := [], laidByText := true, laidKinds := [.data], laidTests := true, laidLooks := .later }
def TagsKindsUptoCardSaid : Prop := Claim7.holds Tryd.pinned (.plain (OpenSpec.upto tagsKindsSpec)) tagsKindsUptoCard
end Rows
end Go.Proofs.YtaleeaocmomjlaaDoor
