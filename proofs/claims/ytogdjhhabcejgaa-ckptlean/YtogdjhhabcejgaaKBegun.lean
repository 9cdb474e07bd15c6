/-
  A string out of bytes; a disk that comes: 'begun'.
-/
import Derived.Test.YtogdjhhabcejgaaKApp2
import Derived.Lib.ConvBytes
import Derived.Lib.SlBytesConst
namespace Go.Proofs.Ytogdjhhabcejgaa
open Go.RowKit Go.Maps
set_option linter.unusedVariables false

def kstr (bs : List UInt8) : ByteArray := ⟨bs.toArray⟩
theorem kstr_size (bs : List UInt8) : (kstr bs).size = bs.length := by simp [kstr, ByteArray.size]
theorem kstr_toList (bs : List UInt8) : (kstr bs).data.toList = bs := by simp [kstr]
theorem knums_str (bs : List UInt8) : (⟨((bs.map fun x => (x.toNat : Int)).map fun n => UInt8.ofNat n.toNat).toArray⟩ : ByteArray) = kstr bs := by
  unfold kstr
  congr 2
  rw [List.map_map]
  conv => rhs; rw [← List.map_id bs]
  apply List.map_congr_left
  intro x _
  simp
theorem krun_str (w : World) (a : Option Addr) (len c : Nat) (bs : List UInt8) (h : Sl w a len bs) :
    (convert 22 9 (.slice a len c)).run Try.prog w = .ok (.string (kstr bs)) w := by
  have hl := h.1
  cases a with
  | none =>
    have h0 : len = 0 := by
      rcases h.2 with h0 | ⟨_, _, e, _⟩
      · exact h0
      · cases e
    subst h0
    have := List.eq_nil_of_length_eq_zero hl
    subst this
    exact run_convert_bytes_nil w _ _ Try.underlying22 Try.underlying5 0 c _ Try.underlying9
  | some a =>
    have hc := h.cells
    have hload : (loadCells a len).run Try.prog w = .ok ((bs.map fun x => (x.toNat : Int)).map (Value.int .u8)).toArray w := by
      have := run_loadCells_list (P := Try.prog) w a ((bs.map fun x => (x.toNat : Int)).map (Value.int .u8)) (fun j v hj => by
        apply hc j v
        simpa using hj)
      simpa [hl] using this
    rw [run_convert_bytes_string w _ _ _ _ len c Try.underlying22 Try.underlying5 Try.underlying9, run_bytesToString w a len c _ hload, foldl_push_bytes]
    have : (ByteArray.empty.data ++ ((bs.map fun x => (x.toNat : Int)).map fun n => UInt8.ofNat n.toNat).toArray) = ((bs.map fun x => (x.toNat : Int)).map fun n => UInt8.ofNat n.toNat).toArray := by
      simp [ByteArray.empty, ByteArray.emptyWithCapacity]
      rfl
    rw [this, knums_str]

theorem Td.ge {S : Nat → Prop} {w w' : World} {p b : Nat} {d : K.DK} (h : Td S w p d w') (hS : ∀ k, S k → b ≤ k) (hb : b ≤ w.heap.size) : ∃ S', Dk S' w' p d ∧ (∀ k, S' k → b ≤ k) ∧ Fr S w w' ∧ (∀ k, S' k → S k ∨ w.heap.size ≤ k) :=
  ⟨_, h.1, fun k hk => hk.1.elim (hS k) (Nat.le_trans hb), h.2, fun k hk => hk.1⟩
def hello : List UInt8 := [104, 101, 108, 108, 111]
def worlds : List UInt8 := [119, 111, 114, 108, 100, 115]
def dHello : K.DK := { K.mk 10 with fs := [([97], ⟨[], hello⟩)] }
theorem app_hello : K.app (K.mk 10) [97] hello = (0, dHello) := by rfl
theorem app_worlds : K.app dHello [98] worlds = (6, dHello) := by rfl
theorem fnd_hello : K.fnd dHello [97] = 0 := by rfl
theorem get_hello : K.get [97] dHello.fs = some ⟨[], hello⟩ := by rfl
theorem used_hello : dHello.used = 5 := by rfl

theorem sl_lit (w : World) (bs : List UInt8) (t : TypeId) (m : Nat × Nat) : Sl (w.alloc (.cells (bs.map B).toArray t m)) (some ⟨w.heap.size, 0, none⟩) bs.length bs :=
  ⟨rfl, .inr ⟨_, _, rfl, fun k x hx => cell_of (Go.heap_alloc_new w _) (by simp [hx])⟩⟩
theorem sl_hello (w : World) (m : Nat × Nat) : Sl (w.alloc (.cells #[.int .u8 104, .int .u8 101, .int .u8 108, .int .u8 108, .int .u8 111] 5 m)) (some ⟨w.heap.size, 0, none⟩) 5 hello := sl_lit w hello _ m
theorem sl_worlds (w : World) (m : Nat × Nat) : Sl (w.alloc (.cells #[.int .u8 119, .int .u8 111, .int .u8 114, .int .u8 108, .int .u8 100, .int .u8 115] 5 m)) (some ⟨w.heap.size, 0, none⟩) 6 worlds := sl_lit w worlds _ m

end Go.Proofs.Ytogdjhhabcejgaa
