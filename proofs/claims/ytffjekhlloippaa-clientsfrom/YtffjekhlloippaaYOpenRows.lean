/-
  Rows that are handed in.
-/
import Derived.Test.YtffjekhlloippaaOpenList
import Derived.Test.YtffjekhlloippaaYRows
namespace Go.Proofs.Ytffjekhlloippaa
open Go.ChangeShapes Go.WideShapes Go.ChangeAt Go.RowKit
set_option linter.unusedVariables false
set_option linter.unusedSimpArgs false
set_option maxRecDepth 100000
theorem Y.open_rowcells {H : Type} {enc : TypeId × Value → H} {W : World} (cs : List Value) (fuel : Nat) (x : DataW H × List MemPlace) (h : DataW.trod enc Try.prog W 0 (fun _ => true) true fuel 61 cs = some x) (hl : cs.length = 6) : ∃ o : Int × Y.Rq, cs = (Y.wcells o.1 o.2).toList ∧ (Lit.int .i64 o.1).wf = true := by
  obtain ⟨n0, e0, w0⟩ := O.cellI (u := 2) (j := 0) (by kernel_rfl) Try.underlying2 h
  obtain ⟨n1, e1, w1⟩ := O.cellI (u := 2) (j := 1) (by kernel_rfl) Try.underlying2 h
  obtain ⟨n2, e2, w2⟩ := O.cellI (u := 30) (j := 2) (by kernel_rfl) Try.underlying30 h
  obtain ⟨n3, e3, w3⟩ := O.cellI (u := 2) (j := 3) (by kernel_rfl) Try.underlying2 h
  obtain ⟨n4, e4, w4⟩ := O.cellI (u := 3) (j := 4) (by kernel_rfl) Try.underlying3 h
  obtain ⟨n5, e5, w5⟩ := O.cellI (u := 2) (j := 5) (by kernel_rfl) Try.underlying2 h
  refine ⟨(n0, n1, n2, n3, n4, n5), ?_, w0⟩
  match cs, hl with
  | [x0, x1, x2, x3, x4, x5], _ =>
    simp at e0 e1 e2 e3 e4 e5
    subst e0 e1 e2 e3 e4 e5
    rfl
theorem open_yrows {H : Type} {enc : TypeId × Value → H} {W : World} {a : Option Addr} {len cap : Nat} {d : DataW H} {p : List MemPlace}
    (h : DataW.Trod enc Try.prog W 0 (fun _ => true) true 26 (.slice a len cap) d p) (hb : ∀ m ∈ DataW.weights Try.prog 26 d, m ≤ reachBytes) :
    ∃ os : List (Int × Y.Rq), Rw (fun g => g < W.heap.size) W 6 a os.length (Y.flat os) ∧ os.length = len ∧ len ≤ 4000000000000 ∧ ∀ o ∈ os, (Lit.int .i64 o.1).wf = true := by
  obtain ⟨os, h1, h2, h3, h4, h5⟩ := O.open_list (fun x : Int × Y.Rq => (Y.wcells x.1 x.2).toList) (fun x => (Lit.int .i64 x.1).wf = true) (k := 6) (bytes := 48) Try.underlying26 (by kernel_rfl) (by kernel_rfl) (by omega) (fun a => rfl) Y.open_rowcells h hb
  refine ⟨os, h1, h2, ?_, h5⟩
  unfold reachBytes at h4
  omega
end Go.Proofs.Ytffjekhlloippaa
