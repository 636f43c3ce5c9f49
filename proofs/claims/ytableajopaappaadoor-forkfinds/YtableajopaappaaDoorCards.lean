/-
  DERIVED. GIVEN WITH THE SEED: THE CARDS: each row of YtableajopaappaaDoorRows.lean that lists a variable, with what it lists TIED to the program's text (the seventh form; the later family's looks); each row that meets fmt, with fmt's text TOLD by the authors' own Lean function (tested against real Go, not proved from fmt's source: count such statements apart). THE CARD IS WHAT COUNTS. Prove the row's statement (the work); the ties are given (YtableajopaappaaDoorTie.lean); close each card by the builder's one call (the guide's Derived/Test/ToyasCard.lean, 'card_holds'). Laid BY PROGRAM, IN A SANDBOX (cutbox-door.mjs). By AI agents, Wed Nov 11 2026. No macro, syntax, notation, axiom, sorry.
-/
import Derived.Test.YtableajopaappaaDoorRows
import GoSem.ClaimSeven
namespace Go.Proofs.YtableajopaappaaDoor
namespace Rows

/-- THE TIED CARD OF 'blazonlaw12.ForkChecks'. -/
def forkChecksCard : Claim7 := { stood := { row := forkChecksRow, standIns := [], harness := (true, "b289a3f6d08f23b9db2f5cbb99bfd652816d1784c975392a2e6c5c51d270ab61"), looks := true }, kinds := [], alts := [], laidByText := true, laidKinds := [.data], laidTests := true, laidLooks := .later }
def ForkChecksCardSaid : Prop := Claim7.holds Tryd.pinned (.plain (OpenSpec.ofChange forkChecksSpec)) forkChecksCard

/-- THE TIED CARD OF 'blazonlaw12.ForkReads'. -/
def forkReadsCard : Claim7 := { stood := { row := forkReadsRow, standIns := [], harness := (true, "b289a3f6d08f23b9db2f5cbb99bfd652816d1784c975392a2e6c5c51d270ab61"), looks := true }, kinds := [], alts := [], laidByText := true, laidKinds := [.data], laidTests := true, laidLooks := .later }
def ForkReadsCardSaid : Prop := Claim7.holds Tryd.pinned (.plain (OpenSpec.ofChange forkReadsSpec)) forkReadsCard

/-- THE TIED CARD OF 'blazonlaw12.ForkBack'. -/
def forkBackCard : Claim7 := { stood := { row := forkBackRow, standIns := [], harness := (true, "b289a3f6d08f23b9db2f5cbb99bfd652816d1784c975392a2e6c5c51d270ab61"), looks := true }, kinds := [], alts := [], laidByText := true, laidKinds := [.data], laidTests := true, laidLooks := .later }
def ForkBackCardSaid : Prop := Claim7.holds Tryd.pinned (.plain (OpenSpec.ofChange forkBackSpec)) forkBackCard

/-- THE TIED CARD OF 'blazonlaw12.ForkFinds'. -/
def forkFindsCard : Claim7 := { stood := { row := forkFindsRow, standIns := [], harness := (true, "b289a3f6d08f23b9db2f5cbb99bfd652816d1784c975392a2e6c5c51d270ab61"), looks := true }, kinds := [], alts := [], laidByText := true, laidKinds := [.data], laidTests := true, laidLooks := .later }
def ForkFindsCardSaid : Prop := Claim7.holds Tryd.pinned (.plain (OpenSpec.ofChange forkFindsSpec)) forkFindsCard

/-- THE TIED CARD OF 'blazonlaw12.ForkSound'. -/
def forkSoundCard : Claim7 := { stood := { row := forkSoundRow, standIns := [], harness := (true, "b289a3f6d08f23b9db2f5cbb99bfd652816d1784c975392a2e6c5c51d270ab61"), looks := true }, kinds := [], alts := [], laidByText := true, laidKinds := [.data], laidTests := true, laidLooks := .later }
def ForkSoundCardSaid : Prop := Claim7.holds Tryd.pinned (.plain (OpenSpec.ofChange forkSoundSpec)) forkSoundCard

/-- THE TIED CARD OF 'blazonlaw12.ForkTurned'. -/
def forkTurnedCard : Claim7 := { stood := { row := forkTurnedRow, standIns := [], harness := (true, "b289a3f6d08f23b9db2f5cbb99bfd652816d1784c975392a2e6c5c51d270ab61"), looks := true }, kinds := [], alts := [], laidByText := true, laidKinds := [.data], laidTests := true, laidLooks := .later }
def ForkTurnedCardSaid : Prop := Claim7.holds Tryd.pinned (.plain (OpenSpec.ofChange forkTurnedSpec)) forkTurnedCard

/-- THE SECOND FORM's CARD OF 'blazonlaw12.ForkChecks'. -/
def forkChecksUptoCard : Claim7 := { stood := { row := forkChecksUptoRow, standIns := [], harness := (true, "b289a3f6d08f23b9db2f5cbb99bfd652816d1784c975392a2e6c5c51d270ab61"), looks := true }, kinds := [], alts := [], laidByText := true, laidKinds := [.data], laidTests := true, laidLooks := .later }
def ForkChecksUptoCardSaid : Prop := Claim7.holds Tryd.pinned (.plain (OpenSpec.upto forkChecksSpec)) forkChecksUptoCard

/-- THE SECOND FORM's CARD OF 'blazonlaw12.ForkReads'. -/
def forkReadsUptoCard : Claim7 := { stood := { row := forkReadsUptoRow, standIns := [], harness := (true, "b289a3f6d08f23b9db2f5cbb99bfd652816d1784c975392a2e6c5c51d270ab61"), looks := true }, kinds := [], alts := [], laidByText := true, laidKinds := [.data], laidTests := true, laidLooks := .later }
def ForkReadsUptoCardSaid : Prop := Claim7.holds Tryd.pinned (.plain (OpenSpec.upto forkReadsSpec)) forkReadsUptoCard

/-- THE SECOND FORM's CARD OF 'blazonlaw12.ForkBack'. -/
def forkBackUptoCard : Claim7 := { stood := { row := forkBackUptoRow, standIns := [], harness := (true, "b289a3f6d08f23b9db2f5cbb99bfd652816d1784c975392a2e6c5c51d270ab61"), looks := true }, kinds := [], alts := [], laidByText := true, laidKinds := [.data], laidTests := true, laidLooks := .later }
def ForkBackUptoCardSaid : Prop := Claim7.holds Tryd.pinned (.plain (OpenSpec.upto forkBackSpec)) forkBackUptoCard

/-- THE SECOND FORM's CARD OF 'blazonlaw12.ForkFinds'. -/
def forkFindsUptoCard : Claim7 := { stood := { row := forkFindsUptoRow, standIns := [], harness := (true, "b289a3f6d08f23b9db2f5cbb99bfd652816d1784c975392a2e6c5c51d270ab61"), looks := true }, kinds := [], alts := [], laidByText := true, laidKinds := [.data], laidTests := true, laidLooks := .later }
def ForkFindsUptoCardSaid : Prop := Claim7.holds Tryd.pinned (.plain (OpenSpec.upto forkFindsSpec)) forkFindsUptoCard

/-- THE SECOND FORM's CARD OF 'blazonlaw12.ForkSound'. -/
def forkSoundUptoCard : Claim7 := { stood := { row := forkSoundUptoRow, standIns := [], harness := (true, "b289a3f6d08f23b9db2f5cbb99bfd652816d1784c975392a2e6c5c51d270ab61"), looks := true }, kinds := [], alts := [], laidByText := true, laidKinds := [.data], laidTests := true, laidLooks := .later }
def ForkSoundUptoCardSaid : Prop := Claim7.holds Tryd.pinned (.plain (OpenSpec.upto forkSoundSpec)) forkSoundUptoCard

/-- THE SECOND FORM's CARD OF 'blazonlaw12.ForkTurned'. -/
def forkTurnedUptoCard : Claim7 := { stood := { row := forkTurnedUptoRow, standIns := [], harness := (true, "b289a3f6d08f23b9db2f5cbb99bfd652816d1784c975392a2e6c5c51d270ab61"), looks := true }, kinds := [], alts := [], laidByText := true, laidKinds := [.data], laidTests := true, laidLooks := .later }
def ForkTurnedUptoCardSaid : Prop := Claim7.holds Tryd.pinned (.plain (OpenSpec.upto forkTurnedSpec)) forkTurnedUptoCard
end Rows
end Go.Proofs.YtableajopaappaaDoor
