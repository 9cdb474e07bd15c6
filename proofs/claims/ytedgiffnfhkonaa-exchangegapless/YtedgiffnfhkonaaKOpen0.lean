/-
  Arguments opened: bytes and lists of bytes, as they are read.
-/
import Derived.Test.YtedgiffnfhkonaaMem
import Derived.ProofKit
import Derived.OpenShut
import Derived.ShutString
import Derived.ChangeOld
import Derived.Deep.Matrix
import Derived.JoinedCond
import Derived.Deep.CondSized
namespace Go.Proofs.Ytedgiffnfhkonaa
open Go.ChangeShapes Go.WideShapes Go.ChangeAt Go.RowKit
set_option linter.unusedVariables false

namespace M
theorem byte_ofK (k : Nat) (h : k < 256) : ((UInt8.ofNat k).toNat : Int) = (k : Int) := by
  rw [UInt8.toNat_ofNat']; omega
end M
theorem own : ownKnob Try.prog.godebug = none := by kernel_rfl
theorem laidOut : laidOutB Try.prog = true := by kernel_rfl
theorem cells5 : Try.prog.cellsOf 5 = 1 := by kernel_rfl
theorem cells88 : Try.prog.cellsOf 88 = 1 := by kernel_rfl

/-- numbers as bytes -/
def byts (zs : List Int) : List UInt8 := zs.map fun n => UInt8.ofNat n.toNat
theorem byts_length (zs : List Int) : (byts zs).length = zs.length := by simp [byts]
theorem wf_u8 {n : Int} (h : (Lit.int .u8 n).wf = true) : 0 ≤ n ∧ n ≤ 255 := by
  simpa [Lit.wf, IntKind.min, IntKind.max, IntKind.signed, IntKind.bits] using h
theorem wf_i64 {n : Int} (h : (Lit.int .i64 n).wf = true) : -9223372036854775808 ≤ n ∧ n ≤ 9223372036854775807 := by
  simpa [Lit.wf, IntKind.min, IntKind.max, IntKind.signed, IntKind.bits] using h
theorem sl_of {w : World} {a : Addr} {len : Nat} {zs : List Int} (hl : len ≤ zs.length) (hcell : ∀ i, i < zs.length → w.cell? (a.add i) = some (.int .u8 (zs.getD i 0))) (hwz : ∀ n ∈ zs, (Lit.int .u8 n).wf = true) :
    Sl w (some a) len (byts (zs.take len)) := by
  have hbl : (byts (zs.take len)).length = len := by rw [byts_length, List.length_take]; omega
  refine ⟨hbl, ?_⟩
  by_cases hz : len = 0
  · exact .inl hz
  · right
    obtain ⟨b, off, spot⟩ := a
    have hc := hcell 0 (by omega)
    have hspot : spot = none := by simpa [Addr.add] using World.cell?_spot hc
    subst hspot
    refine ⟨b, off, rfl, fun k x hx => ?_⟩
    have hk : k < len := by
      have := (List.getElem?_eq_some_iff.1 hx).1
      omega
    have h1 := hcell k (by omega)
    rw [Addr.add_lit] at h1
    rw [h1]
    have hg : zs[k]? = some (zs.getD k 0) := by simp [List.getD, List.getElem?_eq_getElem (show k < zs.length by omega)]
    have hm : zs.getD k 0 ∈ zs := List.mem_of_getElem? hg
    have hb := wf_u8 (hwz _ hm)
    have hx2 : x = UInt8.ofNat (zs.getD k 0).toNat := by
      simp only [byts, List.getElem?_map, List.getElem?_take, hk, if_true, hg, Option.map_some, Option.some.injEq] at hx
      exact hx.symm
    have e : ((UInt8.ofNat (zs.getD k 0).toNat).toNat : Int) = zs.getD k 0 := by rw [M.byte_ofK _ (by omega)]; omega
    rw [hx2]
    show _ = some (Value.int .u8 ((UInt8.ofNat (zs.getD k 0).toNat).toNat : Int))
    rw [e]

/-- AN ARGUMENT THAT IS A LIST OF BYTES. -/
theorem open_bytes {H : Type} {enc : TypeId × Value → H} {W : World} {a : Option Addr} {len cap : Nat} {d : DataW H} {p : List MemPlace}
    (h : DataW.Trod enc Try.prog W 0 (fun _ => true) true 88 (.slice a len cap) d p) :
    ∃ bs, Sl W a len bs ∧ len ≤ cap ∧ cap ≤ maxLen ∧ ((d = .nil ∧ cap = 0) ∨ ∃ elems spare, d = .slice elems spare ∧ elems.length + spare.length = cap ∧ elems.length = len) := by
  obtain ⟨fuel, hf⟩ := h
  rcases open_ints Try.underlying88 Try.underlying5 cells5 hf with ⟨hcs, hx⟩ | ⟨x, l, c, zs, hcs, _, hl, hm, hz, hx, hcell, hwz⟩
  · simp [Value.cells] at hcs
    obtain ⟨rfl, rfl, rfl⟩ := hcs
    simp only [Prod.mk.injEq] at hx
    exact ⟨[], Sl.nil _ _, Nat.le_refl _, Nat.zero_le _, .inl ⟨hx.1, rfl⟩⟩
  · simp [Value.cells] at hcs
    obtain ⟨rfl, rfl, rfl⟩ := hcs
    simp only [if_true] at hz
    simp only [Prod.mk.injEq] at hx
    refine ⟨_, sl_of (by omega) hcell hwz, hl, hm, .inr ⟨_, _, hx.1, ?_, ?_⟩⟩
    · simp only [lits, List.length_map, List.length_take, List.length_drop]; omega
    · simp only [lits, List.length_map, List.length_take]; omega

end Go.Proofs.Ytedgiffnfhkonaa
