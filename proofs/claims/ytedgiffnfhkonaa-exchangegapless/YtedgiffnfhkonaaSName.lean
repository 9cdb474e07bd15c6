/-
  Names: strings.Contains of one byte; the code's isName, the document's name; nodes that were made, and the given ones.
-/
import Derived.Test.YtedgiffnfhkonaaSNode
import Derived.Test.YtedgiffnfhkonaaSVec
import Derived.Lib.Bytealg
namespace Go.Proofs.Ytedgiffnfhkonaa
open Go.RowKit
set_option linter.unusedVariables false
set_option linter.unusedSimpArgs false

set_option maxRecDepth 100000 in
set_option maxHeartbeats 1600000 in
theorem sbyte_any (s : ByteArray) (c : Int) (w : World) : Calls Try.prog 39 #[.string s, .int .u8 c] w fun e w' => e = .returned (.int .i64 (Lib.indexByte s.data.toList c.toNat.toUInt8)) ∧ w = w' := by
  go_enter Try.func39, Try.ntmps39
  go_wp2
  rw [run_callFunc_extern Try.func43 (by kernel_rfl) (by kernel_rfl) (by kernel_rfl) (e := Extern.BytealgIndexByte.indexByte) (by kernel_rfl), Lib.run_indexByteString]
  simp only [Result.andThen]
  rw [Oper.upon_value]
  go_wp2
  go_ret
  exact ⟨rfl, rfl⟩
set_option maxRecDepth 100000 in
set_option maxHeartbeats 1600000 in
theorem sslash_any (s : ByteArray) (w : World) : Calls Try.prog 38 #[.string s, .string ⟨#[47]⟩] w fun e w' => e = .returned (.int .i64 (Lib.indexByte s.data.toList 47)) ∧ w = w' := by
  have K : Hid (∀ w, Calls Try.prog 39 #[.string s, .int .u8 47] w fun e w' => e = .returned (.int .i64 (Lib.indexByte s.data.toList 47)) ∧ w = w') := hid (fun w => sbyte_any s 47 w)
  go_enter Try.func38, Try.ntmps38
  go_wp2_with (go_at_call 39; refine (K.out _).mono ?_; rintro e wx ⟨rfl, rfl⟩)
  · have h : ([47] == s.toList) = true := by assumption
    have e : s.data.toList = [47] := by rw [← Lib.toList_data]; exact (beq_iff_eq.1 h).symm
    go_ret
    exact ⟨ret_int (by rw [e]; rfl), rfl⟩
  · go_ret
    exact ⟨rfl, rfl⟩
theorem sindex_any (s : ByteArray) (w : World) : Calls Try.prog 37 #[.string s, .string ⟨#[47]⟩] w fun e w' => e = .returned (.int .i64 (Lib.indexByte s.data.toList 47)) ∧ w = w' := by
  have K := hid (sslash_any s)
  go_enter Try.func37, Try.ntmps37
  go_wp2_with (go_at_call 38; refine (K.out _).mono ?_; rintro e wx ⟨rfl, rfl⟩)
  go_ret
  exact ⟨rfl, rfl⟩
theorem S.slash_iff : ∀ l : List UInt8, 0 ≤ Lib.indexByte l 47 ↔ 47 ∈ l
  | [] => by simp [Lib.indexByte]
  | b :: l => by
    have ih := S.slash_iff l
    have hg := Lib.indexByte_ge l 47
    unfold Lib.indexByte
    by_cases h1 : (b == 47) = true
    · rw [if_pos h1]
      have : b = 47 := by simpa using h1
      simp [this]
    · rw [if_neg h1]
      have hb : ¬ 47 = b := fun e => h1 (by simp [← e])
      by_cases h2 : (Lib.indexByte l 47 == -1) = true
      · rw [if_pos h2]
        have h3 : Lib.indexByte l 47 = -1 := by simpa using h2
        have h4 : ¬ 47 ∈ l := fun h => by have := ih.2 h; omega
        simp [hb, h4]
      · rw [if_neg h2]
        have h3 : Lib.indexByte l 47 ≠ -1 := by simpa using h2
        have h4 : 47 ∈ l := ih.1 (by omega)
        simp [h4]
        omega
/-- has a text a slash? -/
def S.slash (s : ByteArray) : Bool := s.data.toList.contains 47
theorem scontains_any (s : ByteArray) (w : World) : Calls Try.prog 36 #[.string s, .string ⟨#[47]⟩] w fun e w' => e = .returned (.bool (S.slash s)) ∧ w = w' := by
  have K := hid (sindex_any s)
  have hs : decide (0 ≤ Lib.indexByte s.data.toList 47) = S.slash s := by
    rw [Bool.eq_iff_iff, decide_eq_true_eq, S.slash_iff]
    simp [S.slash]
  rw [← hs]
  clear hs
  generalize Lib.indexByte s.data.toList 47 = x at K ⊢
  go_enter Try.func36, Try.ntmps36
  go_wp2_with (go_at_call 37; refine (K.out _).mono ?_; rintro e wx ⟨rfl, rfl⟩)
  go_ret
  exact ⟨rfl, rfl⟩
/-- may a text be a name? -/
def S.nam (s : ByteArray) : Bool := !s.toList.isEmpty && !(s.toList == [46]) && !(s.toList == [46, 46]) && !S.slash s
set_option maxHeartbeats 1600000 in
theorem isName_any (s : ByteArray) (w : World) : Calls Try.prog 34 #[.string s] w fun e w' => e = .returned (.bool (S.nam s)) ∧ w = w' := by
  have K := hid (scontains_any s)
  unfold S.nam
  cases h0 : s.toList.isEmpty <;> cases h1 : (s.toList == [46]) <;> cases h2 : (s.toList == [46, 46]) <;> cases h3 : S.slash s <;>
  · rw [h3] at K
    simp only [Bool.not_true, Bool.not_false, Bool.true_and, Bool.and_true, Bool.false_and, Bool.and_false]
    go_enter Try.func34, Try.ntmps34
    go_wp2_with (go_at_call 36; refine (K.out _).mono ?_; rintro e wx ⟨rfl, rfl⟩)
    all_goals (go_ret; exact ⟨by simp_all, rfl⟩)
theorem isLong_any (s : ByteArray) (w : World) : Calls Try.prog 33 #[.string s] w fun e w' => e = .returned (.bool (decide (255 < s.size))) ∧ w = w' := by
  by_cases h : 255 < s.size
  · have h1 : (255 : Int) < (s.size : Int) := by omega
    go_enter Try.func33, Try.ntmps33
    go_wp2
    go_ret
    exact ⟨ret_bool (by simp [h]), rfl⟩
  · have h1 : ¬ (255 : Int) < (s.size : Int) := by omega
    go_enter Try.func33, Try.ntmps33
    go_wp2
    go_ret
    exact ⟨ret_bool (by simp [h]), rfl⟩
/-- the given nodes -/
def S.top (n : Int) : Bool := decide (n = 1 ∨ n = 2)
theorem isGiven_any (n : Int) (w : World) : Calls Try.prog 32 #[.int .i64 n] w fun e w' => e = .returned (.bool (S.top n)) ∧ w = w' := by
  by_cases h1 : n = 1 <;> by_cases h2 : n = 2 <;>
  · first
    | (exfalso; omega)
    | (go_enter Try.func32, Try.ntmps32
       go_wp2
       all_goals (go_ret; exact ⟨ret_bool (by simp [S.top, h1, h2]), rfl⟩))
theorem rtop_any (n : Int) (w : World) : Calls Try.prog 21 #[.int .i64 n] w fun e w' => e = .returned (.bool (S.top n)) ∧ w = w' := by
  by_cases h1 : n = 1 <;> by_cases h2 : n = 2 <;>
  · first
    | (exfalso; omega)
    | (go_enter Try.func21, Try.ntmps21
       go_wp2
       all_goals (go_ret; exact ⟨ret_bool (by simp [S.top, h1, h2]), rfl⟩))
theorem isMades_any (n : Int) (h0 : -9223372036854775808 ≤ n) (h1 : n ≤ 9223372036854775807) (w : World) : Calls Try.prog 31 #[.int .i64 n] w fun e w' => e = .returned (.bool (S.made n)) ∧ Fr (fun _ => False) w w' := by
  have K := hid (sof_any n h0 h1)
  clear h0 h1
  go_enter Try.func31, Try.ntmps31
  go_wp2_with (go_at_call 35; refine (K.out _).mono ?_; rintro e wx ⟨rfl, hf⟩)
  go_ret
  exact ⟨rfl, by first | exact hf | exact Fr.alloc hf _ | exact Fr.alloc (Fr.alloc hf _) _⟩
theorem rmade_any (n : Int) (h0 : -9223372036854775808 ≤ n) (h1 : n ≤ 9223372036854775807) (w : World) : Calls Try.prog 20 #[.int .i64 n] w fun e w' => e = .returned (.bool (S.made n)) ∧ Fr (fun _ => False) w w' := by
  have K := hid (rsof_any n h0 h1)
  clear h0 h1
  go_enter Try.func20, Try.ntmps20
  go_wp2_with (go_at_call 28; refine (K.out _).mono ?_; rintro e wx ⟨rfl, hf⟩)
  go_ret
  exact ⟨rfl, by first | exact hf | exact Fr.alloc hf _ | exact Fr.alloc (Fr.alloc hf _) _⟩
end Go.Proofs.Ytedgiffnfhkonaa
