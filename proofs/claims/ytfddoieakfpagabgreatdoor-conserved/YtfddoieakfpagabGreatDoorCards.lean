/-
  DERIVED. GIVEN WITH THE SEED: THE CARDS: each row of YtfddoieakfpagabGreatDoorRows.lean that lists a variable, with what it lists TIED to the program's text (the seventh form; the later family's looks); each row that meets fmt, with fmt's text TOLD by the authors' own Lean function (tested against real Go, not proved from fmt's source: count such statements apart). THE CARD IS WHAT COUNTS. Prove the row's statement (the work); the ties are given (YtfddoieakfpagabGreatDoorTie.lean); close each card by the builder's one call (the guide's Derived/Test/ToyasCard.lean, 'card_holds'). Laid BY PROGRAM, IN A SANDBOX (cutbox-door.mjs). By AI agents, Wed Nov 11 2026. No macro, syntax, notation, axiom, sorry.
-/
import Derived.Test.YtfddoieakfpagabGreatDoorRows
import GoSem.ClaimSeven
namespace Go.Proofs.YtfddoieakfpagabGreatDoor
namespace Rows

/-- THE TIED CARD OF 'evictorkeep.Clock'. -/
def clockCard : Claim7 := { stood := { row := clockRow, standIns := [], harness := (true, "27fd1275bca48ae643ce59ef445a201c7baa4d7000c4453a4af0a0859a9def03"), looks := true }, kinds := [], alts := [], laidByText := true, laidKinds := [.handle, .sentinel, .sentinel, .sentinel, .sentinel, .sentinel, .sentinel, .sentinel, .sentinel, .sentinel, .sentinel, .sentinel, .sentinel, .sentinel], laidTests := true, laidLooks := .later }
def ClockCardSaid : Prop := Claim7.holds Tryz.pinned (.plain (OpenSpec.ofChange clockSpec)) clockCard

/-- THE TIED CARD OF 'evictorkeep.TwoQueues'. -/
def twoQueuesCard : Claim7 := { stood := { row := twoQueuesRow, standIns := [], harness := (true, "27fd1275bca48ae643ce59ef445a201c7baa4d7000c4453a4af0a0859a9def03"), looks := true }, kinds := [], alts := [], laidByText := true, laidKinds := [.handle, .sentinel, .sentinel, .sentinel, .sentinel, .sentinel, .sentinel, .sentinel, .sentinel, .sentinel, .sentinel, .sentinel, .sentinel, .sentinel], laidTests := true, laidLooks := .later }
def TwoQueuesCardSaid : Prop := Claim7.holds Tryz.pinned (.plain (OpenSpec.ofChange twoQueuesSpec)) twoQueuesCard

/-- THE TIED CARD OF 'evictorkeep.Conserved'. -/
def conservedCard : Claim7 := { stood := { row := conservedRow, standIns := [], harness := (true, "27fd1275bca48ae643ce59ef445a201c7baa4d7000c4453a4af0a0859a9def03"), looks := true }, kinds := [], alts := [], laidByText := true, laidKinds := [.data, .data, .data, .handle, .sentinel, .sentinel, .sentinel, .sentinel, .sentinel, .sentinel, .sentinel, .sentinel, .sentinel, .sentinel, .sentinel, .sentinel, .sentinel], laidTests := true, laidLooks := .later }
def ConservedCardSaid : Prop := Claim7.holds Tryz.pinned (.plain (OpenSpec.ofChange conservedSpec)) conservedCard

/-- THE TIED CARD OF 'evictorkeep.Saturates'. -/
def saturatesCard : Claim7 := { stood := { row := saturatesRow, standIns := [], harness := (true, "27fd1275bca48ae643ce59ef445a201c7baa4d7000c4453a4af0a0859a9def03"), looks := true }, kinds := [], alts := [], laidByText := true, laidKinds := [.handle, .sentinel, .sentinel, .sentinel, .sentinel, .sentinel, .sentinel, .sentinel, .sentinel, .sentinel, .sentinel, .sentinel, .sentinel, .sentinel], laidTests := true, laidLooks := .later }
def SaturatesCardSaid : Prop := Claim7.holds Tryz.pinned (.plain (OpenSpec.ofChange saturatesSpec)) saturatesCard

/-- THE TIED CARD OF 'evictorkeep.Refuses'. -/
def refusesCard : Claim7 := { stood := { row := refusesRow, standIns := [], harness := (true, "27fd1275bca48ae643ce59ef445a201c7baa4d7000c4453a4af0a0859a9def03"), looks := true }, kinds := [], alts := [], laidByText := true, laidKinds := [.handle, .sentinel, .sentinel, .sentinel, .sentinel, .sentinel, .sentinel, .sentinel, .sentinel, .sentinel, .sentinel, .sentinel, .sentinel, .sentinel], laidTests := true, laidLooks := .later }
def RefusesCardSaid : Prop := Claim7.holds Tryz.pinned (.plain (OpenSpec.ofChange refusesSpec)) refusesCard

/-- THE TIED CARD OF 'evictorkeep.Known'. -/
def knownCard : Claim7 := { stood := { row := knownRow, standIns := [], harness := (true, "27fd1275bca48ae643ce59ef445a201c7baa4d7000c4453a4af0a0859a9def03"), looks := true }, kinds := [], alts := [], laidByText := true, laidKinds := [.handle, .sentinel, .sentinel, .sentinel, .sentinel, .sentinel, .sentinel, .sentinel, .sentinel, .sentinel, .sentinel, .sentinel, .sentinel, .sentinel], laidTests := true, laidLooks := .later }
def KnownCardSaid : Prop := Claim7.holds Tryz.pinned (.plain (OpenSpec.ofChange knownSpec)) knownCard

/-- THE SECOND FORM's CARD OF 'evictorkeep.Clock'. -/
def clockUptoCard : Claim7 := { stood := { row := clockUptoRow, standIns := [], harness := (true, "27fd1275bca48ae643ce59ef445a201c7baa4d7000c4453a4af0a0859a9def03"), looks := true }, kinds := [], alts := [], laidByText := true, laidKinds := [.handle, .sentinel, .sentinel, .sentinel, .sentinel, .sentinel, .sentinel, .sentinel, .sentinel, .sentinel, .sentinel, .sentinel, .sentinel, .sentinel], laidTests := true, laidLooks := .later }
def ClockUptoCardSaid : Prop := Claim7.holds Tryz.pinned (.plain (OpenSpec.upto clockSpec)) clockUptoCard

/-- THE SECOND FORM's CARD OF 'evictorkeep.TwoQueues'. -/
def twoQueuesUptoCard : Claim7 := { stood := { row := twoQueuesUptoRow, standIns := [], harness := (true, "27fd1275bca48ae643ce59ef445a201c7baa4d7000c4453a4af0a0859a9def03"), looks := true }, kinds := [], alts := [], laidByText := true, laidKinds := [.handle, .sentinel, .sentinel, .sentinel, .sentinel, .sentinel, .sentinel, .sentinel, .sentinel, .sentinel, .sentinel, .sentinel, .sentinel, .sentinel], laidTests := true, laidLooks := .later }
def TwoQueuesUptoCardSaid : Prop := Claim7.holds Tryz.pinned (.plain (OpenSpec.upto twoQueuesSpec)) twoQueuesUptoCard

/-- THE SECOND FORM's CARD OF 'evictorkeep.Conserved'. -/
def conservedUptoCard : Claim7 := { stood := { row := conservedUptoRow, standIns := [], harness := (true, "27fd1275bca48ae643ce59ef445a201c7baa4d7000c4453a4af0a0859a9def03"), looks := true }, kinds := [], alts := [], laidByText := true, laidKinds := [.data, .data, .data, .handle, .sentinel, .sentinel, .sentinel, .sentinel, .sentinel, .sentinel, .sentinel, .sentinel, .sentinel, .sentinel, .sentinel, .sentinel, .sentinel], laidTests := true, laidLooks := .later }
def ConservedUptoCardSaid : Prop := Claim7.holds Tryz.pinned (.plain (OpenSpec.upto conservedSpec)) conservedUptoCard

/-- THE SECOND FORM's CARD OF 'evictorkeep.Saturates'. -/
def saturatesUptoCard : Claim7 := { stood := { row := saturatesUptoRow, standIns := [], harness := (true, "27fd1275bca48ae643ce59ef445a201c7baa4d7000c4453a4af0a0859a9def03"), looks := true }, kinds := [], alts := [], laidByText := true, laidKinds := [.handle, .sentinel, .sentinel, .sentinel, .sentinel, .sentinel, .sentinel, .sentinel, .sentinel, .sentinel, .sentinel, .sentinel, .sentinel, .sentinel], laidTests := true, laidLooks := .later }
def SaturatesUptoCardSaid : Prop := Claim7.holds Tryz.pinned (.plain (OpenSpec.upto saturatesSpec)) saturatesUptoCard

/-- THE SECOND FORM's CARD OF 'evictorkeep.Refuses'. -/
def refusesUptoCard : Claim7 := { stood := { row := refusesUptoRow, standIns := [], harness := (true, "27fd1275bca48ae643ce59ef445a201c7baa4d7000c4453a4af0a0859a9def03"), looks := true }, kinds := [], alts := [], laidByText := true, laidKinds := [.handle, .sentinel, .sentinel, .sentinel, .sentinel, .sentinel, .sentinel, .sentinel, .sentinel, .sentinel, .sentinel, .sentinel, .sentinel, .sentinel], laidTests := true, laidLooks := .later }
def RefusesUptoCardSaid : Prop := Claim7.holds Tryz.pinned (.plain (OpenSpec.upto refusesSpec)) refusesUptoCard

/-- THE SECOND FORM's CARD OF 'evictorkeep.Known'. -/
def knownUptoCard : Claim7 := { stood := { row := knownUptoRow, standIns := [], harness := (true, "27fd1275bca48ae643ce59ef445a201c7baa4d7000c4453a4af0a0859a9def03"), looks := true }, kinds := [], alts := [], laidByText := true, laidKinds := [.handle, .sentinel, .sentinel, .sentinel, .sentinel, .sentinel, .sentinel, .sentinel, .sentinel, .sentinel, .sentinel, .sentinel, .sentinel, .sentinel], laidTests := true, laidLooks := .later }
def KnownUptoCardSaid : Prop := Claim7.holds Tryz.pinned (.plain (OpenSpec.upto knownSpec)) knownUptoCard
end Rows
end Go.Proofs.YtfddoieakfpagabGreatDoor
