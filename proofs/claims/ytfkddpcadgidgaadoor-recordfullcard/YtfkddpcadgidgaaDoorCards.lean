/-
  DERIVED. GIVEN WITH THE SEED: THE CARDS: each row of YtfkddpcadgidgaaDoorRows.lean that lists a variable, with what it lists TIED to the program's text (the seventh form; the later family's looks); each row that meets fmt, with fmt's text TOLD by the authors' own Lean function (tested against real Go, not proved from fmt's source: count such statements apart). THE CARD IS WHAT COUNTS. Prove the row's statement (the work); the ties are given (YtfkddpcadgidgaaDoorTie.lean); close each card by the builder's one call (the guide's Derived/Test/ToyasCard.lean, 'card_holds'). Laid BY PROGRAM, IN A SANDBOX (cutbox-door.mjs). By AI agents, Wed Nov 11 2026. No macro, syntax, notation, axiom, sorry.
-/
import Derived.Test.YtfkddpcadgidgaaDoorRows
import GoSem.ClaimSeven
namespace Go.Proofs.YtfkddpcadgidgaaDoor
namespace Rows

/-- THE TIED CARD OF 'orchardlaw04.RecordSames'. -/
def recordSamesCard : Claim7 := { stood := { row := recordSamesRow, standIns := [], harness := (true, "70e22060d458a1fbc8ac49a92ef8feb1c82bd44b6de3ceb3787eb084ddb9a37d"), looks := false }, kinds := [], alts := [], laidByText := true, laidKinds := [.data], laidTests := true, laidLooks := .later }
def RecordSamesCardSaid : Prop := Claim7.holds Tryd.pinned (.plain (OpenSpec.ofChange recordSamesSpec)) recordSamesCard

/-- THE TIED CARD OF 'orchardlaw04.RecordFull'. -/
def recordFullCard : Claim7 := { stood := { row := recordFullRow, standIns := [], harness := (true, "70e22060d458a1fbc8ac49a92ef8feb1c82bd44b6de3ceb3787eb084ddb9a37d"), looks := false }, kinds := [], alts := [], laidByText := true, laidKinds := [.data], laidTests := true, laidLooks := .later }
def RecordFullCardSaid : Prop := Claim7.holds Tryd.pinned (.plain (OpenSpec.ofChange recordFullSpec)) recordFullCard

/-- THE TIED CARD OF 'orchardlaw04.RecordApart'. -/
def recordApartCard : Claim7 := { stood := { row := recordApartRow, standIns := [], harness := (true, "70e22060d458a1fbc8ac49a92ef8feb1c82bd44b6de3ceb3787eb084ddb9a37d"), looks := false }, kinds := [], alts := [], laidByText := true, laidKinds := [.data], laidTests := true, laidLooks := .later }
def RecordApartCardSaid : Prop := Claim7.holds Tryd.pinned (.plain (OpenSpec.ofChange recordApartSpec)) recordApartCard

/-- THE SECOND FORM's CARD OF 'orchardlaw04.RecordSames'. -/
def recordSamesUptoCard : Claim7 := { stood := { row := recordSamesUptoRow, standIns := [], harness := (true, "70e22060d458a1fbc8ac49a92ef8feb1c82bd44b6de3ceb3787eb084ddb9a37d"), looks := false }, kinds := [], alts := [], laidByText := true, laidKinds := [.data], laidTests := true, laidLooks := .later }
def RecordSamesUptoCardSaid : Prop := Claim7.holds Tryd.pinned (.plain (OpenSpec.upto recordSamesSpec)) recordSamesUptoCard

/-- THE SECOND FORM's CARD OF 'orchardlaw04.RecordFull'. -/
def recordFullUptoCard : Claim7 := { stood := { row := recordFullUptoRow, standIns := [], harness := (true, "70e22060d458a1fbc8ac49a92ef8feb1c82bd44b6de3ceb3787eb084ddb9a37d"), looks := false }, kinds := [], alts := [], laidByText := true, laidKinds := [.data], laidTests := true, laidLooks := .later }
def RecordFullUptoCardSaid : Prop := Claim7.holds Tryd.pinned (.plain (OpenSpec.upto recordFullSpec)) recordFullUptoCard

/-- THE SECOND FORM's CARD OF 'orchardlaw04.RecordApart'. -/
def recordApartUptoCard : Claim7 := { stood := { row := recordApartUptoRow, standIns := [], harness := (true, "70e22060d458a1fbc8ac49a92ef8feb1c82bd44b6de3ceb3787eb084ddb9a37d"), looks := false }, kinds := [], alts := [], laidByText := true, laidKinds := [.data], laidTests := true, laidLooks := .later }
def RecordApartUptoCardSaid : Prop := Claim7.holds Tryd.pinned (.plain (OpenSpec.upto recordApartSpec)) recordApartUptoCard
end Rows
end Go.Proofs.YtfkddpcadgidgaaDoor
