/-
  Names, keys, values: which may be; the code's and the document's.
-/
import Derived.Test.YtldldmgpjhokgabGreatAgg
import Derived.Lib.Bytealg
namespace Go.Proofs.YtldldmgpjhokgabGreat
open Go.RowKit
set_option linter.unusedVariables false
set_option maxRecDepth 100000
set_option linter.unusedSimpArgs false

set_option maxRecDepth 100000 in
set_option maxHeartbeats 1600000 in
theorem tbyte_any (s : ByteArray) (c : Int) (w : World) : Calls Tryz.prog 148 #[.string s, .int .u8 c] w fun e w' => e = .returned (.int .i64 (Lib.indexByte s.data.toList c.toNat.toUInt8)) ∧ w = w' := by
  go_enter Tryz.func148, Tryz.ntmps148
  go_wp2
  rw [run_callFunc_extern Tryz.func158 (by kernel_rfl) (by kernel_rfl) (by kernel_rfl) (e := Extern.BytealgIndexByte.indexByte) (by kernel_rfl), Lib.run_indexByteString]
  simp only [Result.andThen]
  rw [Oper.upon_value]
  go_wp2
  go_ret
  exact ⟨rfl, rfl⟩
set_option maxRecDepth 100000 in
set_option maxHeartbeats 1600000 in
theorem tslash_any (s : ByteArray) (w : World) : Calls Tryz.prog 125 #[.string s, .string ⟨#[47]⟩] w fun e w' => e = .returned (.int .i64 (Lib.indexByte s.data.toList 47)) ∧ w = w' := by
  have K : Hid (∀ w, Calls Tryz.prog 148 #[.string s, .int .u8 47] w fun e w' => e = .returned (.int .i64 (Lib.indexByte s.data.toList 47)) ∧ w = w') := hid (fun w => tbyte_any s 47 w)
  go_enter Tryz.func125, Tryz.ntmps125
  go_wp2_with (go_at_call 148; refine (K.out _).mono ?_; rintro e wx ⟨rfl, rfl⟩)
  · have h : ([47] == s.toList) = true := by assumption
    have e : s.data.toList = [47] := by rw [← Lib.toList_data]; exact (beq_iff_eq.1 h).symm
    go_ret
    exact ⟨ret_int (by rw [e]; rfl), rfl⟩
  · go_ret
    exact ⟨rfl, rfl⟩
theorem tindex_any (s : ByteArray) (w : World) : Calls Tryz.prog 96 #[.string s, .string ⟨#[47]⟩] w fun e w' => e = .returned (.int .i64 (Lib.indexByte s.data.toList 47)) ∧ w = w' := by
  have K := hid (tslash_any s)
  go_enter Tryz.func96, Tryz.ntmps96
  go_wp2_with (go_at_call 125; refine (K.out _).mono ?_; rintro e wx ⟨rfl, rfl⟩)
  go_ret
  exact ⟨rfl, rfl⟩
theorem T.slash_iff : ∀ l : List UInt8, 0 ≤ Lib.indexByte l 47 ↔ 47 ∈ l
  | [] => by simp [Lib.indexByte]
  | b :: l => by
    have ih := T.slash_iff l
    have hg := Lib.indexByte_ge l 47
    unfold Lib.indexByte
    by_cases h1 : (b == 47) = true
    · rw [if_pos h1]
      have : b = 47 := by simpa using h1
      simp [this]
    · rw [if_neg h1]
      have hb : ¬ 47 = b := fun e => h1 (by simp [← e])
      by_cases h2 : (Lib.indexByte l 47 == -1) = true
      · rw [if_pos h2]
        have h3 : Lib.indexByte l 47 = -1 := by simpa using h2
        have h4 : ¬ 47 ∈ l := fun h => by have := ih.2 h; omega
        simp [hb, h4]
      · rw [if_neg h2]
        have h3 : Lib.indexByte l 47 ≠ -1 := by simpa using h2
        have h4 : 47 ∈ l := ih.1 (by omega)
        simp [h4]
        omega
/-- has a text a slash? -/
def T.slash (s : ByteArray) : Bool := s.data.toList.contains 47
theorem tcontains_any (s : ByteArray) (w : World) : Calls Tryz.prog 75 #[.string s, .string ⟨#[47]⟩] w fun e w' => e = .returned (.bool (T.slash s)) ∧ w = w' := by
  have K := hid (tindex_any s)
  have hs : decide (0 ≤ Lib.indexByte s.data.toList 47) = T.slash s := by
    rw [Bool.eq_iff_iff, decide_eq_true_eq, T.slash_iff]
    simp [T.slash]
  rw [← hs]
  clear hs
  generalize Lib.indexByte s.data.toList 47 = x at K ⊢
  go_enter Tryz.func75, Tryz.ntmps75
  go_wp2_with (go_at_call 96; refine (K.out _).mono ?_; rintro e wx ⟨rfl, rfl⟩)
  go_ret
  exact ⟨rfl, rfl⟩
/-- may a text be a key? -/
def T.txt (s : ByteArray) : Bool := !s.toList.isEmpty && decide (s.size ≤ 255)
/-- may a text be a name? -/
def T.nam (s : ByteArray) : Bool := T.txt s && !(s.toList == [46]) && !(s.toList == [46, 46]) && !T.slash s
theorem fits_any (s : ByteArray) (w : World) : Calls Tryz.prog 49 #[.string s] w fun e w' => e = .returned (.bool (decide (s.size ≤ 255))) ∧ w = w' := by
  by_cases h : s.size ≤ 255
  · have h1 : (s.size : Int) ≤ (255 : Int) := by omega
    go_enter Tryz.func49, Tryz.ntmps49
    go_wp2
    go_ret
    exact ⟨ret_bool (by simp [h]), rfl⟩
  · have h1 : ¬ (s.size : Int) ≤ (255 : Int) := by omega
    go_enter Tryz.func49, Tryz.ntmps49
    go_wp2
    go_ret
    exact ⟨ret_bool (by simp [h]), rfl⟩
theorem isText_any (s : ByteArray) (w : World) : Calls Tryz.prog 48 #[.string s] w fun e w' => e = .returned (.bool (T.txt s)) ∧ w = w' := by
  have K := hid (fits_any s)
  unfold T.txt
  cases h0 : s.toList.isEmpty <;> cases h1 : decide (s.size ≤ 255) <;>
  · rw [h1] at K
    simp only [Bool.not_true, Bool.not_false, Bool.true_and, Bool.and_true, Bool.false_and, Bool.and_false]
    go_enter Tryz.func48, Tryz.ntmps48
    go_wp2_with (go_at_call 49; refine (K.out _).mono ?_; rintro e wx ⟨rfl, rfl⟩)
    all_goals (go_ret; exact ⟨by simp_all, rfl⟩)
set_option maxHeartbeats 1600000 in
theorem tname_any (s : ByteArray) (w : World) : Calls Tryz.prog 47 #[.string s] w fun e w' => e = .returned (.bool (T.nam s)) ∧ w = w' := by
  have K := hid (tcontains_any s)
  have KT := hid (isText_any s)
  unfold T.nam
  cases h0 : T.txt s <;> cases h1 : (s.toList == [46]) <;> cases h2 : (s.toList == [46, 46]) <;> cases h3 : T.slash s <;>
  · rw [h3] at K
    rw [h0] at KT
    simp only [Bool.not_true, Bool.not_false, Bool.true_and, Bool.and_true, Bool.false_and, Bool.and_false]
    go_enter Tryz.func47, Tryz.ntmps47
    go_wp2_with (first | (go_at_call 48; refine (KT.out _).mono ?_; rintro e wx ⟨rfl, rfl⟩) | (go_at_call 75; refine (K.out _).mono ?_; rintro e wx ⟨rfl, rfl⟩))
    all_goals (go_ret; exact ⟨by simp_all, rfl⟩)
end Go.Proofs.YtldldmgpjhokgabGreat
