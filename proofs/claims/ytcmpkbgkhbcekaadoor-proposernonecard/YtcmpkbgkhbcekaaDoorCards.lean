/-
  DERIVED. GIVEN WITH THE SEED: THE CARDS: each row of YtcmpkbgkhbcekaaDoorRows.lean that lists a variable, with what it lists TIED to the program's text (the seventh form; the later family's looks); each row that meets fmt, with fmt's text TOLD by the authors' own Lean function (tested against real Go, not proved from fmt's source: count such statements apart). THE CARD IS WHAT COUNTS. Prove the row's statement (the work); the ties are given (YtcmpkbgkhbcekaaDoorTie.lean); close each card by the builder's one call (the guide's Derived/Test/ToyasCard.lean, 'card_holds'). Laid BY PROGRAM, IN A SANDBOX (cutbox-door.mjs). By AI agents, Wed Nov 11 2026. No macro, syntax, notation, axiom, sorry.
-/
import Derived.Test.YtcmpkbgkhbcekaaDoorRows
import GoSem.ClaimSeven
namespace Go.Proofs.YtcmpkbgkhbcekaaDoor
namespace Rows

/-- THE TIED CARD OF 'orchardlaw08.ProposerNone'. -/
def proposerNoneCard : Claim7 := { stood := { row := proposerNoneRow, standIns := [], harness := (true, "8976e2a5142e816dc0226f697e84c848acd65e5d30ac2d73fef3390319d09f33"), looks := false }, kinds := [], alts := [], laidByText := true, laidKinds := [.data], laidTests := true, laidLooks := .later }
def ProposerNoneCardSaid : Prop := Claim7.holds Tryd.pinned (.plain (OpenSpec.ofChange proposerNoneSpec)) proposerNoneCard

/-- THE SECOND FORM's CARD OF 'orchardlaw08.ProposerNone'. -/
def proposerNoneUptoCard : Claim7 := { stood := { row := proposerNoneUptoRow, standIns := [], harness := (true, "8976e2a5142e816dc0226f697e84c848acd65e5d30ac2d73fef3390319d09f33"), looks := false }, kinds := [], alts := [], laidByText := true, laidKinds := [.data], laidTests := true, laidLooks := .later }
def ProposerNoneUptoCardSaid : Prop := Claim7.holds Tryd.pinned (.plain (OpenSpec.upto proposerNoneSpec)) proposerNoneUptoCard
end Rows
end Go.Proofs.YtcmpkbgkhbcekaaDoor
