/-
  NARROWER THAN 'FOR EVERY INPUT', by the rows' own cells (each row's printed sentence says how): RecordSames: laid · RecordFull: laid · RecordApart: laid.
  DERIVED. THE GIVEN ROWS OF THIS SEAT. 3 by the template 'for every input the law returns true; each argument reads behind the call as it read before'; 0 by the template 'total and deterministic' (their statements: YtfkddpcadgidgaaDoorTotals.lean).
  GIVEN WITH THE SEED: the statements are not yours to turn. If you find one false, say at which input.
  Laid BY PROGRAM, IN A SANDBOX (cutbox-rows.mjs): the forced cells as the released guide's own fill.sh prints them over the translation 5a5ce83cd47da350… (all of the seat's roots in one cut). By AI agents, Wed Nov 11 2026. No macro, syntax, notation, axiom, sorry.
-/
import Derived.Test.YtfkddpcadgidgaaDoorChecked
import GoSem.Claim
import GoSem.ClaimJoined
import GoSem.ClaimMapViews
import Derived.JoinedTies
import Derived.KernelRfl
namespace Go.Proofs.YtfkddpcadgidgaaDoor
/- THE CELL 'sum', in the pinned program and in every row, IS THE sha256 OF THE DUMP (.gsa) THAT YtfkddpcadgidgaaDoorProg.lean LOADS. Nothing in Lean hashes anything: it is a label: what it is worth is what the hold of that sum in a sandbox is worth. -/
noncomputable def Tryd.pinned : Pinned := { name := "ytfkddpcadgidgaadoor", sum := "5a5ce83cd47da350542770e4e820c43f275ed19ad25015f728b2545f04eb6427", checked := Tryd.checked }
namespace Rows
def none {H : Type} : Left H := { results := [], args := [] }

/- WHAT THE LISTED PACKAGE-LEVEL VARIABLES READ AS WHEN THE CALL BEGINS. Each datum BY PROGRAM (the guide's laid-datum.mjs) off the statement by which the dump's own 'gosem.cut.vars' lays the variable. In a bare row this is a premise. The card (YtfkddpcadgidgaaDoorCards.lean) ties it to the program's text. -/
def laid_orchard_record_entryRows {H : Type} : DataW H := .agg [.agg [.lit (.int .i64 0), .lit (.int .i64 0), .lit (.int .i64 0), .lit (.int .i64 0)], .agg [.lit (.int .i64 15), .lit (.int .i64 13), .lit (.int .i64 9), .lit (.int .i64 0)], .agg [.lit (.int .i64 11), .lit (.int .i64 14), .lit (.int .i64 10), .lit (.int .i64 0)], .agg [.lit (.int .i64 4), .lit (.int .i64 0), .lit (.int .i64 0), .lit (.int .i64 0)], .agg [.lit (.int .i64 14), .lit (.int .i64 5), .lit (.int .i64 19), .lit (.int .i64 2)], .agg [.lit (.int .i64 12), .lit (.int .i64 0), .lit (.int .i64 0), .lit (.int .i64 0)], .agg [.lit (.int .i64 16), .lit (.int .i64 18), .lit (.int .i64 0), .lit (.int .i64 0)], .agg [.lit (.int .i64 16), .lit (.int .i64 0), .lit (.int .i64 0), .lit (.int .i64 0)], .agg [.lit (.int .i64 16), .lit (.int .i64 6), .lit (.int .i64 0), .lit (.int .i64 0)]]

/-- 'orchardlaw04.RecordSames': WHATEVER THE INPUT: true; the input reads as it did. -/
def recordSamesSpec : ChangeSpec := { name := "recordSames", fn := fun _ => fun
  | [d1, d2, d3, d4] => { results := [.lit (.bool true)], args := [d1, d2, d3, d4] }
  | _ => none }
def recordSamesRow : OpenClaim := { program := "ytfkddpcadgidgaadoor", sum := "5a5ce83cd47da350542770e4e820c43f275ed19ad25015f728b2545f04eb6427", func := "orchard/orchardlaw04.RecordSames", spec := "recordSames", unfollowed := true, recurses := true, named := ["orchard/record.entryRows"], apart := false, laid := [("orchard/record.entryRows", laid_orchard_record_entryRows)] }
def RecordSamesSaid : Prop := recordSamesRow.holds Tryd.pinned (OpenSpec.ofChange recordSamesSpec)

/-- ITS FALSE NEIGHBOUR: 'it returns false'. Refute it at one input. -/
def recordSamesWrong : ChangeSpec := { name := "recordSames", fn := fun _ => fun
  | [d1, d2, d3, d4] => { results := [.lit (.bool false)], args := [d1, d2, d3, d4] }
  | _ => none }
def RecordSamesWrongFalsely : Prop := recordSamesRow.holds Tryd.pinned (OpenSpec.ofChange recordSamesWrong)

/-- 'orchardlaw04.RecordFull': WHATEVER THE INPUT: true; the input reads as it did. -/
def recordFullSpec : ChangeSpec := { name := "recordFull", fn := fun _ => fun
  | [d1, d2] => { results := [.lit (.bool true)], args := [d1, d2] }
  | _ => none }
def recordFullRow : OpenClaim := { program := "ytfkddpcadgidgaadoor", sum := "5a5ce83cd47da350542770e4e820c43f275ed19ad25015f728b2545f04eb6427", func := "orchard/orchardlaw04.RecordFull", spec := "recordFull", unfollowed := true, recurses := true, named := ["orchard/record.entryRows"], apart := false, laid := [("orchard/record.entryRows", laid_orchard_record_entryRows)] }
def RecordFullSaid : Prop := recordFullRow.holds Tryd.pinned (OpenSpec.ofChange recordFullSpec)

/-- ITS FALSE NEIGHBOUR: 'it returns false'. Refute it at one input. -/
def recordFullWrong : ChangeSpec := { name := "recordFull", fn := fun _ => fun
  | [d1, d2] => { results := [.lit (.bool false)], args := [d1, d2] }
  | _ => none }
def RecordFullWrongFalsely : Prop := recordFullRow.holds Tryd.pinned (OpenSpec.ofChange recordFullWrong)

/-- 'orchardlaw04.RecordApart': WHATEVER THE INPUT: true; the input reads as it did. -/
def recordApartSpec : ChangeSpec := { name := "recordApart", fn := fun _ => fun
  | [d1, d2] => { results := [.lit (.bool true)], args := [d1, d2] }
  | _ => none }
def recordApartRow : OpenClaim := { program := "ytfkddpcadgidgaadoor", sum := "5a5ce83cd47da350542770e4e820c43f275ed19ad25015f728b2545f04eb6427", func := "orchard/orchardlaw04.RecordApart", spec := "recordApart", unfollowed := true, recurses := true, named := ["orchard/record.entryRows"], apart := false, laid := [("orchard/record.entryRows", laid_orchard_record_entryRows)] }
def RecordApartSaid : Prop := recordApartRow.holds Tryd.pinned (OpenSpec.ofChange recordApartSpec)

/-- ITS FALSE NEIGHBOUR: 'it returns false'. Refute it at one input. -/
def recordApartWrong : ChangeSpec := { name := "recordApart", fn := fun _ => fun
  | [d1, d2] => { results := [.lit (.bool false)], args := [d1, d2] }
  | _ => none }
def RecordApartWrongFalsely : Prop := recordApartRow.holds Tryd.pinned (OpenSpec.ofChange recordApartWrong)

/- THE SECOND FORM. 'bulk': how many values and letters a reading holds, each counted each time it is reached (what is shared counts as often as it is met; a slice's spare places count too). A statement '..UptoSaid' is the law's where the arguments, and the package variables that the reading takes, are together of bulk at most 1048576: NARROWER than '..Said'. Prove '..Said' where nothing that the law and all that it calls make is longer than what came in: it says more and counts as full. Else prove '..UptoSaid'. A law counts once. -/
mutual
def uptoBulk {H : Type} : DataW H → Nat
  | .lit (.string bytes) => bytes.length + 1
  | .lit _ => 1
  | .nil => 1
  | .ptr d => uptoBulk d + 1
  | .slice elems spare => uptoBulkAll elems + uptoBulkAll spare + 1
  | .agg parts => uptoBulkAll parts + 1
  | .iface _ d => uptoBulk d + 1
  | .map entries => uptoBulkEntries entries + 1
  | .held _ => 1
def uptoBulkAll {H : Type} : List (DataW H) → Nat
  | [] => 0
  | d :: r => uptoBulk d + uptoBulkAll r
def uptoBulkEntries {H : Type} : List (Lit × DataW H) → Nat
  | [] => 0
  | x :: r => uptoBulkEntry x + uptoBulkEntries r
def uptoBulkEntry {H : Type} : Lit × DataW H → Nat
  | (.string bytes, d) => bytes.length + uptoBulk d + 1
  | (_, d) => uptoBulk d + 1
 end
def uptoSmall : (H : Type) → List (DataW H) → Bool := fun _ ds => decide (uptoBulkAll ds ≤ 1048576)
def OpenSpec.upto (s : _root_.Go.ChangeSpec) : _root_.Go.OpenSpec := { _root_.Go.OpenSpec.ofChange s with cond := some uptoSmall }

/-- 'orchardlaw04.RecordSames', WHERE WHAT IT READS IS OF BULK AT MOST 1048576: true; the input reads as it did. -/
def recordSamesUptoRow : OpenClaim := { program := "ytfkddpcadgidgaadoor", sum := "5a5ce83cd47da350542770e4e820c43f275ed19ad25015f728b2545f04eb6427", func := "orchard/orchardlaw04.RecordSames", spec := "recordSames", unfollowed := true, recurses := true, named := ["orchard/record.entryRows"], apart := false, laid := [("orchard/record.entryRows", laid_orchard_record_entryRows)], narrowed := true }
def RecordSamesUptoSaid : Prop := recordSamesUptoRow.holds Tryd.pinned (OpenSpec.upto recordSamesSpec)

/-- 'orchardlaw04.RecordFull', WHERE WHAT IT READS IS OF BULK AT MOST 1048576: true; the input reads as it did. -/
def recordFullUptoRow : OpenClaim := { program := "ytfkddpcadgidgaadoor", sum := "5a5ce83cd47da350542770e4e820c43f275ed19ad25015f728b2545f04eb6427", func := "orchard/orchardlaw04.RecordFull", spec := "recordFull", unfollowed := true, recurses := true, named := ["orchard/record.entryRows"], apart := false, laid := [("orchard/record.entryRows", laid_orchard_record_entryRows)], narrowed := true }
def RecordFullUptoSaid : Prop := recordFullUptoRow.holds Tryd.pinned (OpenSpec.upto recordFullSpec)

/-- 'orchardlaw04.RecordApart', WHERE WHAT IT READS IS OF BULK AT MOST 1048576: true; the input reads as it did. -/
def recordApartUptoRow : OpenClaim := { program := "ytfkddpcadgidgaadoor", sum := "5a5ce83cd47da350542770e4e820c43f275ed19ad25015f728b2545f04eb6427", func := "orchard/orchardlaw04.RecordApart", spec := "recordApart", unfollowed := true, recurses := true, named := ["orchard/record.entryRows"], apart := false, laid := [("orchard/record.entryRows", laid_orchard_record_entryRows)], narrowed := true }
def RecordApartUptoSaid : Prop := recordApartUptoRow.holds Tryd.pinned (OpenSpec.upto recordApartSpec)

end Rows
end Go.Proofs.YtfkddpcadgidgaaDoor
