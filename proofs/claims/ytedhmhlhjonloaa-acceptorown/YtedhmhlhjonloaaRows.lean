/-
  No cell of these rows narrows 'for every input' (looked for: loops, veiled, ifaces, maps, wideKeys, modest, calm, conditions, laid).
  DERIVED. THE GIVEN ROWS OF THIS SEAT. 6 by the template 'for every input the law returns true; each argument reads behind the call as it read before'; 0 by the template 'total and deterministic' (their statements: YtedhmhlhjonloaaTotals.lean).
  GIVEN WITH THE SEED: the statements are not yours to turn. If you find one false, say at which input.
  Laid BY PROGRAM, IN A SANDBOX (cutbox-rows.mjs): the forced cells as the released guide's own fill.sh prints them over the translation d7416fb387a178b9… (all of the seat's roots in one cut). By AI agents, Wed Nov 11 2026. No macro, syntax, notation, axiom, sorry.
-/
import Derived.Test.YtedhmhlhjonloaaChecked
import GoSem.Claim
import GoSem.ClaimJoined
import GoSem.ClaimMapViews
import Derived.JoinedTies
import Derived.KernelRfl
namespace Go.Proofs.Ytedhmhlhjonloaa
/- THE CELL 'sum', in the pinned program and in every row, IS THE sha256 OF THE DUMP (.gsa) THAT YtedhmhlhjonloaaProg.lean LOADS. Nothing in Lean hashes anything: it is a label: what it is worth is what the hold of that sum in a sandbox is worth. -/
noncomputable def Try.pinned : Pinned := { name := "ytedhmhlhjonloaa", sum := "d7416fb387a178b9ead9e710b26b0b830daa5b842df2e4e4ff15f9c9c159d94d", checked := Try.checked }
namespace Rows
def none {H : Type} : Left H := { results := [], args := [] }

/-- 'orchardlaw07.AcceptorDoes': WHATEVER THE INPUT: true; the input reads as it did. -/
def acceptorDoesSpec : ChangeSpec := { name := "acceptorDoes", fn := fun _ => fun
  | [d] => { results := [.lit (.bool true)], args := [d] }
  | _ => none }
def acceptorDoesRow : OpenClaim := { program := "ytedhmhlhjonloaa", sum := "d7416fb387a178b9ead9e710b26b0b830daa5b842df2e4e4ff15f9c9c159d94d", func := "orchard/orchardlaw07.AcceptorDoes", spec := "acceptorDoes", inPlace := ["maps.clone"], unfollowed := true, recurses := true, apart := false }
def AcceptorDoesSaid : Prop := acceptorDoesRow.holds Try.pinned (OpenSpec.ofChange acceptorDoesSpec)

/-- ITS FALSE NEIGHBOUR: 'it returns false'. Refute it at one input. -/
def acceptorDoesWrong : ChangeSpec := { name := "acceptorDoes", fn := fun _ => fun
  | [d] => { results := [.lit (.bool false)], args := [d] }
  | _ => none }
def AcceptorDoesWrongFalsely : Prop := acceptorDoesRow.holds Try.pinned (OpenSpec.ofChange acceptorDoesWrong)

/-- 'orchardlaw07.AcceptorFrom': WHATEVER THE INPUT: true; the input reads as it did. -/
def acceptorFromSpec : ChangeSpec := { name := "acceptorFrom", fn := fun _ => fun
  | [d1, d2, d3] => { results := [.lit (.bool true)], args := [d1, d2, d3] }
  | _ => none }
def acceptorFromRow : OpenClaim := { program := "ytedhmhlhjonloaa", sum := "d7416fb387a178b9ead9e710b26b0b830daa5b842df2e4e4ff15f9c9c159d94d", func := "orchard/orchardlaw07.AcceptorFrom", spec := "acceptorFrom", unfollowed := true, recurses := true, apart := false }
def AcceptorFromSaid : Prop := acceptorFromRow.holds Try.pinned (OpenSpec.ofChange acceptorFromSpec)

/-- ITS FALSE NEIGHBOUR: 'it returns false'. Refute it at one input. -/
def acceptorFromWrong : ChangeSpec := { name := "acceptorFrom", fn := fun _ => fun
  | [d1, d2, d3] => { results := [.lit (.bool false)], args := [d1, d2, d3] }
  | _ => none }
def AcceptorFromWrongFalsely : Prop := acceptorFromRow.holds Try.pinned (OpenSpec.ofChange acceptorFromWrong)

/-- 'orchardlaw07.AcceptorKeeps': WHATEVER THE INPUT: true; the input reads as it did. -/
def acceptorKeepsSpec : ChangeSpec := { name := "acceptorKeeps", fn := fun _ => fun
  | [d1, d2, d3] => { results := [.lit (.bool true)], args := [d1, d2, d3] }
  | _ => none }
def acceptorKeepsRow : OpenClaim := { program := "ytedhmhlhjonloaa", sum := "d7416fb387a178b9ead9e710b26b0b830daa5b842df2e4e4ff15f9c9c159d94d", func := "orchard/orchardlaw07.AcceptorKeeps", spec := "acceptorKeeps", unfollowed := true, recurses := true, apart := false }
def AcceptorKeepsSaid : Prop := acceptorKeepsRow.holds Try.pinned (OpenSpec.ofChange acceptorKeepsSpec)

/-- ITS FALSE NEIGHBOUR: 'it returns false'. Refute it at one input. -/
def acceptorKeepsWrong : ChangeSpec := { name := "acceptorKeeps", fn := fun _ => fun
  | [d1, d2, d3] => { results := [.lit (.bool false)], args := [d1, d2, d3] }
  | _ => none }
def AcceptorKeepsWrongFalsely : Prop := acceptorKeepsRow.holds Try.pinned (OpenSpec.ofChange acceptorKeepsWrong)

/-- 'orchardlaw07.AcceptorChooses': WHATEVER THE INPUT: true; the input reads as it did. -/
def acceptorChoosesSpec : ChangeSpec := { name := "acceptorChooses", fn := fun _ => fun
  | [d1, d2] => { results := [.lit (.bool true)], args := [d1, d2] }
  | _ => none }
def acceptorChoosesRow : OpenClaim := { program := "ytedhmhlhjonloaa", sum := "d7416fb387a178b9ead9e710b26b0b830daa5b842df2e4e4ff15f9c9c159d94d", func := "orchard/orchardlaw07.AcceptorChooses", spec := "acceptorChooses", unfollowed := true, recurses := true, apart := false }
def AcceptorChoosesSaid : Prop := acceptorChoosesRow.holds Try.pinned (OpenSpec.ofChange acceptorChoosesSpec)

/-- ITS FALSE NEIGHBOUR: 'it returns false'. Refute it at one input. -/
def acceptorChoosesWrong : ChangeSpec := { name := "acceptorChooses", fn := fun _ => fun
  | [d1, d2] => { results := [.lit (.bool false)], args := [d1, d2] }
  | _ => none }
def AcceptorChoosesWrongFalsely : Prop := acceptorChoosesRow.holds Try.pinned (OpenSpec.ofChange acceptorChoosesWrong)

/-- 'orchardlaw07.AcceptorOwn': WHATEVER THE INPUT: true; the input reads as it did. -/
def acceptorOwnSpec : ChangeSpec := { name := "acceptorOwn", fn := fun _ => fun
  | [d1, d2, d3] => { results := [.lit (.bool true)], args := [d1, d2, d3] }
  | _ => none }
def acceptorOwnRow : OpenClaim := { program := "ytedhmhlhjonloaa", sum := "d7416fb387a178b9ead9e710b26b0b830daa5b842df2e4e4ff15f9c9c159d94d", func := "orchard/orchardlaw07.AcceptorOwn", spec := "acceptorOwn", unfollowed := true, recurses := true, apart := false }
def AcceptorOwnSaid : Prop := acceptorOwnRow.holds Try.pinned (OpenSpec.ofChange acceptorOwnSpec)

/-- ITS FALSE NEIGHBOUR: 'it returns false'. Refute it at one input. -/
def acceptorOwnWrong : ChangeSpec := { name := "acceptorOwn", fn := fun _ => fun
  | [d1, d2, d3] => { results := [.lit (.bool false)], args := [d1, d2, d3] }
  | _ => none }
def AcceptorOwnWrongFalsely : Prop := acceptorOwnRow.holds Try.pinned (OpenSpec.ofChange acceptorOwnWrong)

/-- 'orchardlaw07.AcceptorAgain': WHATEVER THE INPUT: true; the input reads as it did. -/
def acceptorAgainSpec : ChangeSpec := { name := "acceptorAgain", fn := fun _ => fun
  | [d] => { results := [.lit (.bool true)], args := [d] }
  | _ => none }
def acceptorAgainRow : OpenClaim := { program := "ytedhmhlhjonloaa", sum := "d7416fb387a178b9ead9e710b26b0b830daa5b842df2e4e4ff15f9c9c159d94d", func := "orchard/orchardlaw07.AcceptorAgain", spec := "acceptorAgain", unfollowed := true, recurses := true, apart := false }
def AcceptorAgainSaid : Prop := acceptorAgainRow.holds Try.pinned (OpenSpec.ofChange acceptorAgainSpec)

/-- ITS FALSE NEIGHBOUR: 'it returns false'. Refute it at one input. -/
def acceptorAgainWrong : ChangeSpec := { name := "acceptorAgain", fn := fun _ => fun
  | [d] => { results := [.lit (.bool false)], args := [d] }
  | _ => none }
def AcceptorAgainWrongFalsely : Prop := acceptorAgainRow.holds Try.pinned (OpenSpec.ofChange acceptorAgainWrong)

/- THE SECOND FORM. 'bulk': how many values and letters a reading holds, each counted each time it is reached (what is shared counts as often as it is met; a slice's spare places count too). A statement '..UptoSaid' is the law's where the arguments, and the package variables that the reading takes, are together of bulk at most 1048576: NARROWER than '..Said'. Prove '..Said' where nothing that the law and all that it calls make is longer than what came in: it says more and counts as full. Else prove '..UptoSaid'. A law counts once. -/
mutual
def uptoBulk {H : Type} : DataW H → Nat
  | .lit (.string bytes) => bytes.length + 1
  | .lit _ => 1
  | .nil => 1
  | .ptr d => uptoBulk d + 1
  | .slice elems spare => uptoBulkAll elems + uptoBulkAll spare + 1
  | .agg parts => uptoBulkAll parts + 1
  | .iface _ d => uptoBulk d + 1
  | .map entries => uptoBulkEntries entries + 1
  | .held _ => 1
def uptoBulkAll {H : Type} : List (DataW H) → Nat
  | [] => 0
  | d :: r => uptoBulk d + uptoBulkAll r
def uptoBulkEntries {H : Type} : List (Lit × DataW H) → Nat
  | [] => 0
  | x :: r => uptoBulkEntry x + uptoBulkEntries r
def uptoBulkEntry {H : Type} : Lit × DataW H → Nat
  | (.string bytes, d) => bytes.length + uptoBulk d + 1
  | (_, d) => uptoBulk d + 1
 end
def uptoSmall : (H : Type) → List (DataW H) → Bool := fun _ ds => decide (uptoBulkAll ds ≤ 1048576)
def OpenSpec.upto (s : _root_.Go.ChangeSpec) : _root_.Go.OpenSpec := { _root_.Go.OpenSpec.ofChange s with cond := some uptoSmall }

/-- 'orchardlaw07.AcceptorDoes', WHERE WHAT IT READS IS OF BULK AT MOST 1048576: true; the input reads as it did. -/
def acceptorDoesUptoRow : OpenClaim := { program := "ytedhmhlhjonloaa", sum := "d7416fb387a178b9ead9e710b26b0b830daa5b842df2e4e4ff15f9c9c159d94d", func := "orchard/orchardlaw07.AcceptorDoes", spec := "acceptorDoes", inPlace := ["maps.clone"], unfollowed := true, recurses := true, apart := false, narrowed := true }
def AcceptorDoesUptoSaid : Prop := acceptorDoesUptoRow.holds Try.pinned (OpenSpec.upto acceptorDoesSpec)

/-- 'orchardlaw07.AcceptorFrom', WHERE WHAT IT READS IS OF BULK AT MOST 1048576: true; the input reads as it did. -/
def acceptorFromUptoRow : OpenClaim := { program := "ytedhmhlhjonloaa", sum := "d7416fb387a178b9ead9e710b26b0b830daa5b842df2e4e4ff15f9c9c159d94d", func := "orchard/orchardlaw07.AcceptorFrom", spec := "acceptorFrom", unfollowed := true, recurses := true, apart := false, narrowed := true }
def AcceptorFromUptoSaid : Prop := acceptorFromUptoRow.holds Try.pinned (OpenSpec.upto acceptorFromSpec)

/-- 'orchardlaw07.AcceptorKeeps', WHERE WHAT IT READS IS OF BULK AT MOST 1048576: true; the input reads as it did. -/
def acceptorKeepsUptoRow : OpenClaim := { program := "ytedhmhlhjonloaa", sum := "d7416fb387a178b9ead9e710b26b0b830daa5b842df2e4e4ff15f9c9c159d94d", func := "orchard/orchardlaw07.AcceptorKeeps", spec := "acceptorKeeps", unfollowed := true, recurses := true, apart := false, narrowed := true }
def AcceptorKeepsUptoSaid : Prop := acceptorKeepsUptoRow.holds Try.pinned (OpenSpec.upto acceptorKeepsSpec)

/-- 'orchardlaw07.AcceptorChooses', WHERE WHAT IT READS IS OF BULK AT MOST 1048576: true; the input reads as it did. -/
def acceptorChoosesUptoRow : OpenClaim := { program := "ytedhmhlhjonloaa", sum := "d7416fb387a178b9ead9e710b26b0b830daa5b842df2e4e4ff15f9c9c159d94d", func := "orchard/orchardlaw07.AcceptorChooses", spec := "acceptorChooses", unfollowed := true, recurses := true, apart := false, narrowed := true }
def AcceptorChoosesUptoSaid : Prop := acceptorChoosesUptoRow.holds Try.pinned (OpenSpec.upto acceptorChoosesSpec)

/-- 'orchardlaw07.AcceptorOwn', WHERE WHAT IT READS IS OF BULK AT MOST 1048576: true; the input reads as it did. -/
def acceptorOwnUptoRow : OpenClaim := { program := "ytedhmhlhjonloaa", sum := "d7416fb387a178b9ead9e710b26b0b830daa5b842df2e4e4ff15f9c9c159d94d", func := "orchard/orchardlaw07.AcceptorOwn", spec := "acceptorOwn", unfollowed := true, recurses := true, apart := false, narrowed := true }
def AcceptorOwnUptoSaid : Prop := acceptorOwnUptoRow.holds Try.pinned (OpenSpec.upto acceptorOwnSpec)

/-- 'orchardlaw07.AcceptorAgain', WHERE WHAT IT READS IS OF BULK AT MOST 1048576: true; the input reads as it did. -/
def acceptorAgainUptoRow : OpenClaim := { program := "ytedhmhlhjonloaa", sum := "d7416fb387a178b9ead9e710b26b0b830daa5b842df2e4e4ff15f9c9c159d94d", func := "orchard/orchardlaw07.AcceptorAgain", spec := "acceptorAgain", unfollowed := true, recurses := true, apart := false, narrowed := true }
def AcceptorAgainUptoSaid : Prop := acceptorAgainUptoRow.holds Try.pinned (OpenSpec.upto acceptorAgainSpec)

end Rows
end Go.Proofs.Ytedhmhlhjonloaa
