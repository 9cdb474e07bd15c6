/-
  Bytes turned in place, one by one.
-/
import Derived.Test.YtilliicanbbjkabUnframes
import Derived.Test.YtilliicanbbjkabMaths2
namespace Go.Proofs.Ytilliicanbbjkab
open Go.RowKit
set_option linter.unusedVariables false

/-- a byte with all its bits turned -/
def flip (x : UInt8) : UInt8 := UInt8.ofNat (x.toNat ^^^ 255)
theorem flip_bits (x : UInt8) : bits .xor .u8 (x.toNat : Int) 255 = ((flip x).toNat : Int) := by
  have hx := x.toNat_lt
  have hl : x.toNat ^^^ 255 < 256 := Nat.xor_lt_two_pow (n := 8) (by omega) (by omega)
  unfold flip
  rw [M.byte_of _ hl]
  exact u8_xor_nat x.toNat 255 (by omega) (by omega)
/-- the first k are turned -/
def flipTo (bs : List UInt8) (k : Nat) : List UInt8 := (bs.take k).map flip ++ bs.drop k
theorem flipTo_length (bs : List UInt8) (k : Nat) : (flipTo bs k).length = bs.length := by
  simp [flipTo]; omega
theorem flipTo_zero (bs : List UInt8) : flipTo bs 0 = bs := by simp [flipTo]
theorem flipTo_at (bs : List UInt8) (k : Nat) (h : k < bs.length) : (flipTo bs k)[k]? = some bs[k] := by
  unfold flipTo
  have hl : ((bs.take k).map flip).length = k := by simp; omega
  rw [List.getElem?_append_right (by omega), hl, Nat.sub_self, List.getElem?_drop, Nat.add_zero, List.getElem?_eq_getElem h]
theorem flipTo_next (bs : List UInt8) (k : Nat) (h : k < bs.length) : (flipTo bs k).set k (flip bs[k]) = flipTo bs (k + 1) := by
  unfold flipTo
  have hl : ((bs.take k).map flip).length = k := by simp; omega
  rw [List.set_append_right _ _ (by omega), hl, Nat.sub_self, List.drop_eq_getElem_cons h, List.set_cons_zero, List.take_add_one, List.getElem?_eq_getElem h, Option.toList_some, List.map_append, List.append_assoc]
  rfl
/-- WHAT A LOOP THAT TURNS A ROW DOES: k of its bytes are turned; nothing else that was there is. -/
def Fl (base : Nat) (W : World) (a : Option Addr) (c : Nat) (bs : List UInt8) (k : Nat) (wr : World) : Prop :=
  Ow base wr a c (flipTo bs k) ∧ Fr (fun j => blk a = some j) W wr
theorem Fl.start {base : Nat} {W : World} {a : Option Addr} {c : Nat} {bs : List UInt8} (h : Ow base W a c bs) : Fl base W a c bs 0 W := ⟨by rw [flipTo_zero]; exact h, Fr.refl _ _⟩
theorem Fl.at {base : Nat} {W : World} {a : Option Addr} {c : Nat} {bs : List UInt8} {k : Nat} {wr : World} (h : Fl base W a c bs k wr) (hk : k < bs.length) :
    ∃ g x, a = some ⟨g, 0, none⟩ ∧ wr.cell? ⟨g, k, none⟩ = some (.int .u8 ((x : UInt8).toNat : Int)) ∧ wr.frozen? ⟨g, k, none⟩ = false ∧ Fl base W a c bs (k + 1) (wr.setCell ⟨g, k, none⟩ (.int .u8 ((flip x).toNat : Int))) := by
  obtain ⟨g, rfl, _, _⟩ := h.1.some_of (by rw [flipTo_length]; omega)
  refine ⟨g, bs[k], rfl, ?_, h.1.frozen k, ?_, ?_⟩
  · have := h.1.cells k (B bs[k]) (by rw [List.getElem?_map, flipTo_at bs k hk]; rfl)
    rw [Addr.add_lit, Nat.zero_add] at this
    exact this
  · rw [← flipTo_next bs k hk]; exact h.1.set k (flip bs[k])
  · exact Fr.setCell h.2 (fun _ => by simp [blk]) _
end Go.Proofs.Ytilliicanbbjkab
