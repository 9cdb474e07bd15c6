/-
  What clients' statements are handed: scripts, rows, an operation, a reply.
-/
import Derived.Test.YtffjekhlloippaaOpenList
import Derived.Test.YtffjekhlloippaaYSt
namespace Go.Proofs.Ytffjekhlloippaa
open Go.ChangeShapes Go.WideShapes Go.ChangeAt Go.RowKit
set_option linter.unusedVariables false
set_option linter.unusedSimpArgs false
set_option maxRecDepth 100000
theorem Y.open_sopcells {H : Type} {enc : TypeId × Value → H} {W : World} (cs : List Value) (fuel : Nat) (x : DataW H × List MemPlace) (h : DataW.trod enc Try.prog W 0 (fun _ => true) true fuel 36 cs = some x) (hl : cs.length = 9) : ∃ o : Y.Sop, cs = o.cs.toList ∧ (Lit.int .i64 o.s).wf = true := by
  obtain ⟨n0, e0, w0⟩ := O.cellI (u := 2) (j := 0) (by kernel_rfl) Try.underlying2 h
  obtain ⟨n1, e1, w1⟩ := O.cellI (u := 2) (j := 1) (by kernel_rfl) Try.underlying2 h
  obtain ⟨b2, e2⟩ := O.cellB (u := 4) (j := 2) (by kernel_rfl) Try.underlying4 h
  obtain ⟨b3, e3⟩ := O.cellB (u := 4) (j := 3) (by kernel_rfl) Try.underlying4 h
  obtain ⟨n4, e4, w4⟩ := O.cellI (u := 30) (j := 4) (by kernel_rfl) Try.underlying30 h
  obtain ⟨n5, e5, w5⟩ := O.cellI (u := 2) (j := 5) (by kernel_rfl) Try.underlying2 h
  obtain ⟨n6, e6, w6⟩ := O.cellI (u := 3) (j := 6) (by kernel_rfl) Try.underlying3 h
  obtain ⟨n7, e7, w7⟩ := O.cellI (u := 2) (j := 7) (by kernel_rfl) Try.underlying2 h
  obtain ⟨n8, e8, w8⟩ := O.cellI (u := 3) (j := 8) (by kernel_rfl) Try.underlying3 h
  refine ⟨⟨n0, n1, b2, b3, (n4, n5, n6, n7), n8⟩, ?_, w0⟩
  match cs, hl with
  | [x0, x1, x2, x3, x4, x5, x6, x7, x8], _ =>
    simp at e0 e1 e2 e3 e4 e5 e6 e7 e8
    subst e0 e1 e2 e3 e4 e5 e6 e7 e8
    rfl
theorem open_yops {H : Type} {enc : TypeId × Value → H} {W : World} {a : Option Addr} {len cap : Nat} {d : DataW H} {p : List MemPlace}
    (h : DataW.Trod enc Try.prog W 0 (fun _ => true) true 22 (.slice a len cap) d p) (hb : ∀ m ∈ DataW.weights Try.prog 22 d, m ≤ reachBytes) :
    ∃ os : List Y.Sop, Rw (fun g => g < W.heap.size) W 9 a os.length (Y.flatS os) ∧ os.length = len ∧ len ≤ 4000000000000 ∧ ∀ o ∈ os, (Lit.int .i64 o.s).wf = true := by
  haveI : Inhabited Y.Sop := ⟨⟨0, 0, false, false, (0, 0, 0, 0), 0⟩⟩
  obtain ⟨os, h1, h2, h3, h4, h5⟩ := O.open_list (fun x : Y.Sop => x.cs.toList) (fun x => (Lit.int .i64 x.s).wf = true) (k := 9) (bytes := 64) Try.underlying22 (by kernel_rfl) (by kernel_rfl) (by omega) (fun a => rfl) Y.open_sopcells h hb
  refine ⟨os, h1, h2, ?_, h5⟩
  unfold reachBytes at h4
  omega
end Go.Proofs.Ytffjekhlloippaa
