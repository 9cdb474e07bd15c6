/-
  What a tree is asked: at, has, isMade, Len, Lookup.
  Names, keys, values: which may be; the code's and the document's.
-/
import Derived.Test.YtenengkeckanmaaGreatTMemQ
import Derived.WalkSpells
import Derived.Test.YtenengkeckanmaaGreatAgg
import Derived.Lib.Bytealg
namespace Go.Proofs.YtenengkeckanmaaGreat
open Go.RowKit Go.Maps
set_option linter.unusedVariables false
set_option maxRecDepth 100000
set_option linter.unusedSimpArgs false
section
variable {c : Nat → Option T.Col} {w : World} {bud p : Nat} {dos last : Int} {t : T.Tr} {mb : Nat} {f : Int → Nat}
theorem at_any (h : Tf c w bud p dos last t mb f) {n : Int} (hn : (Lit.int .i64 n).wf = true) : Calls Tryz.prog 65 #[ptr p, .int .i64 n] w fun e w' => e = .returned (T.loc f t n) ∧ w = w' := by
  have HL := hid (h.look hn)
  have c0 : w.cell? ⟨p, 0, none⟩ = some (.map (some mb)) := cellA (j := 0) h.cells rfl
  clear h hn
  go_enter Tryz.func65, Tryz.ntmps65
  go_wp2_with (refine wpList_look_v HL.out (by exact ⟨_, _, rfl, rfl, rfl⟩) (by kernel_rfl) ?_)
  go_ret
  exact ⟨rfl, rfl⟩
theorem has_any (h : Tf c w bud p dos last t mb f) {n : Int} (hn : (Lit.int .i64 n).wf = true) : Calls Tryz.prog 68 #[ptr p, .int .i64 n] w fun e w' => e = .returned (.bool (A.get n t).isSome) ∧ w = w' := by
  have K := hid (at_any h hn)
  clear h hn
  cases hg : A.get n t with
  | none =>
    rw [T.loc_none hg] at K
    go_enter Tryz.func68, Tryz.ntmps68
    go_wp2_with (go_at_call 65; refine K.out.mono ?_; rintro e wx ⟨rfl, rfl⟩)
    go_ret
    exact ⟨rfl, rfl⟩
  | some x =>
    rw [T.loc_some hg] at K
    go_enter Tryz.func68, Tryz.ntmps68
    go_wp2_with (go_at_call 65; refine K.out.mono ?_; rintro e wx ⟨rfl, rfl⟩)
    go_ret
    exact ⟨rfl, rfl⟩
theorem tmade_any (h : Tf c w bud p dos last t mb f) : Calls Tryz.prog 47 #[ptr p] w fun e w' => e = .returned (.bool true) ∧ w = w' := by
  have c0 : w.cell? ⟨p, 0, none⟩ = some (.map (some mb)) := cellA (j := 0) h.cells rfl
  have q : (binOp .neq 90 (.map (some mb)) (.map none)).run Tryz.prog w = .ok (.bool true) w := run_neq_map_nil w _ _ _ (some mb) Tryz.underlying90
  clear h
  go_enter Tryz.func47, Tryz.ntmps47
  go_wp2
  go_ret
  exact ⟨rfl, rfl⟩
theorem tlen_any (h : Tf c w bud p dos last t mb f) : Calls Tryz.prog 13 #[ptr p] w fun e w' => e = .returned (.int .i64 t.length) ∧ w = w' := by
  have K := hid (tmade_any h)
  have c0 : w.cell? ⟨p, 0, none⟩ = some (.map (some mb)) := cellA (j := 0) h.cells rfl
  have HL := hid (h.map.len Tryz.underlying90)
  clear h
  go_enter Tryz.func13, Tryz.ntmps13
  go_wp2_with (first
    | (go_at_call 47; refine K.out.mono ?_; rintro e wx ⟨rfl, rfl⟩)
    | (refine wpList_len_v (HL.out _) (by exact ⟨_, rfl, rfl⟩) (by kernel_rfl) ?_))
  go_ret
  exact ⟨rfl, rfl⟩
/-- of those under a node with a name the least -/
def T.lookup (t : T.Tr) (n : Int) (s : ByteArray) : Option Int := if (A.get n t).isSome then (T.kids t n s).head? else none
set_option maxHeartbeats 1600000 in
theorem lookup_any (h : Tf c w bud p dos last t mb f) {n : Int} (hn : (Lit.int .i64 n).wf = true) {s : ByteArray} (hs : s.size ≤ maxLen) :
    Calls Tryz.prog 31 #[ptr p, .int .i64 n, .string s] w fun e w' => e = .returned (.tuple #[.int .i64 ((T.lookup t n s).getD 0), .bool (T.lookup t n s).isSome]) ∧ w = w' := by
  have K := hid (at_any h hn)
  cases hg : A.get n t with
  | none =>
    rw [T.loc_none hg] at K
    rw [show T.lookup t n s = none by unfold T.lookup; rw [hg]; rfl]
    clear h hn hs
    go_enter Tryz.func31, Tryz.ntmps31
    go_wp2_with (go_at_call 65; refine K.out.mono ?_; rintro e wx ⟨rfl, rfl⟩)
    go_ret2
    exact ⟨rfl, rfl⟩
  | some x =>
    rw [T.loc_some hg] at K
    have hl : T.lookup t n s = (T.kids t n s).head? := by unfold T.lookup; rw [hg]; rfl
    obtain ⟨av, uv, g, m, h1, h2, h3, h4, h5, h6, h7, h8⟩ := h.node n x hg
    have c3 : w.cell? ⟨f n, 3, none⟩ = some (.map uv) := cellA (j := 3) h1 rfl
    have HL := hid (h6.look keyS Tryz.underlying87 (zeroRow w) (keyOfS hs))
    rcases h8 s with ⟨e1, e2⟩ | ⟨e1, a, cap, e2, e3, e4⟩
    · rw [hl, e1]
      rw [e2] at HL
      clear h hn hs h1 h2 h3 h4 h5 h6 h7 h8 e1 e2 hl hg
      simp only [Option.getD_none, List.head?_nil, Option.isSome_none] at HL ⊢
      go_enter Tryz.func31, Tryz.ntmps31
      go_wp2_with (first
        | (go_at_call 65; refine K.out.mono ?_; rintro e wx ⟨rfl, rfl⟩)
        | (refine wpList_look_v HL.out (by exact ⟨_, _, rfl, rfl, rfl⟩) (by kernel_rfl) ?_))
      go_ret2
      exact ⟨rfl, rfl⟩
    · rw [hl]
      rw [e2] at HL
      obtain ⟨k0, kr, hk⟩ : ∃ k0 kr, T.kids t n s = k0 :: kr := by
        cases hk : T.kids t n s with
        | nil => exact absurd hk e1
        | cons a b => exact ⟨a, b, rfl⟩
      rw [hk] at HL e3 ⊢
      obtain ⟨gb, fo, rfl⟩ := e3.some_of (by simp)
      have c9 : w.cell? ⟨gb, fo, none⟩ = some (.int .i64 k0) := by
        have := e3.cell (j := 0) (u := .int .i64 k0) rfl
        exact this
      have hlen := e3.le.2
      simp only [List.length_cons] at HL hlen
      obtain ⟨ln, hln⟩ : ∃ ln, kr.length = ln := ⟨_, rfl⟩
      rw [hln] at HL hlen
      have L1 : ((ln + 1 : Nat) : Int) ≠ 0 := by omega
      have L2 : (((ln + 1 : Nat) : Int) == 0) = false := by simp; omega
      clear h hn hs h1 h2 h3 h4 h5 h6 h7 h8 e1 e2 hl hg hk e3 e4 hln
      simp only [Option.getD_some, List.head?_cons, Option.isSome_some] at HL ⊢
      go_enter Tryz.func31, Tryz.ntmps31
      go_wp2_with (first
        | (go_at_call 65; refine K.out.mono ?_; rintro e wx ⟨rfl, rfl⟩)
        | (refine wpList_look_v HL.out (by exact ⟨_, _, rfl, rfl, rfl⟩) (by kernel_rfl) ?_))
      go_ret2
      exact ⟨rfl, rfl⟩
end
end Go.Proofs.YtenengkeckanmaaGreat

namespace Go.Proofs.YtenengkeckanmaaGreat
open Go.RowKit
set_option linter.unusedVariables false
set_option maxRecDepth 100000
set_option linter.unusedSimpArgs false

set_option maxRecDepth 100000 in
set_option maxHeartbeats 1600000 in
theorem tbyte_any (s : ByteArray) (c : Int) (w : World) : Calls Tryz.prog 170 #[.string s, .int .u8 c] w fun e w' => e = .returned (.int .i64 (Lib.indexByte s.data.toList c.toNat.toUInt8)) ∧ w = w' := by
  go_enter Tryz.func170, Tryz.ntmps170
  go_wp2
  rw [run_callFunc_extern Tryz.func180 (by kernel_rfl) (by kernel_rfl) (by kernel_rfl) (e := Extern.BytealgIndexByte.indexByte) (by kernel_rfl), Lib.run_indexByteString]
  simp only [Result.andThen]
  rw [Oper.upon_value]
  go_wp2
  go_ret
  exact ⟨rfl, rfl⟩
set_option maxRecDepth 100000 in
set_option maxHeartbeats 1600000 in
theorem tslash_any (s : ByteArray) (w : World) : Calls Tryz.prog 147 #[.string s, .string ⟨#[47]⟩] w fun e w' => e = .returned (.int .i64 (Lib.indexByte s.data.toList 47)) ∧ w = w' := by
  have K : Hid (∀ w, Calls Tryz.prog 170 #[.string s, .int .u8 47] w fun e w' => e = .returned (.int .i64 (Lib.indexByte s.data.toList 47)) ∧ w = w') := hid (fun w => tbyte_any s 47 w)
  go_enter Tryz.func147, Tryz.ntmps147
  go_wp2_with (go_at_call 170; refine (K.out _).mono ?_; rintro e wx ⟨rfl, rfl⟩)
  · have h : ([47] == s.toList) = true := by assumption
    have e : s.data.toList = [47] := by rw [← Lib.toList_data]; exact (beq_iff_eq.1 h).symm
    go_ret
    exact ⟨ret_int (by rw [e]; rfl), rfl⟩
  · go_ret
    exact ⟨rfl, rfl⟩
theorem tindex_any (s : ByteArray) (w : World) : Calls Tryz.prog 119 #[.string s, .string ⟨#[47]⟩] w fun e w' => e = .returned (.int .i64 (Lib.indexByte s.data.toList 47)) ∧ w = w' := by
  have K := hid (tslash_any s)
  go_enter Tryz.func119, Tryz.ntmps119
  go_wp2_with (go_at_call 147; refine (K.out _).mono ?_; rintro e wx ⟨rfl, rfl⟩)
  go_ret
  exact ⟨rfl, rfl⟩
theorem T.slash_iff : ∀ l : List UInt8, 0 ≤ Lib.indexByte l 47 ↔ 47 ∈ l
  | [] => by simp [Lib.indexByte]
  | b :: l => by
    have ih := T.slash_iff l
    have hg := Lib.indexByte_ge l 47
    unfold Lib.indexByte
    by_cases h1 : (b == 47) = true
    · rw [if_pos h1]
      have : b = 47 := by simpa using h1
      simp [this]
    · rw [if_neg h1]
      have hb : ¬ 47 = b := fun e => h1 (by simp [← e])
      by_cases h2 : (Lib.indexByte l 47 == -1) = true
      · rw [if_pos h2]
        have h3 : Lib.indexByte l 47 = -1 := by simpa using h2
        have h4 : ¬ 47 ∈ l := fun h => by have := ih.2 h; omega
        simp [hb, h4]
      · rw [if_neg h2]
        have h3 : Lib.indexByte l 47 ≠ -1 := by simpa using h2
        have h4 : 47 ∈ l := ih.1 (by omega)
        simp [h4]
        omega
/-- has a text a slash? -/
def T.slash (s : ByteArray) : Bool := s.data.toList.contains 47
theorem tcontains_any (s : ByteArray) (w : World) : Calls Tryz.prog 98 #[.string s, .string ⟨#[47]⟩] w fun e w' => e = .returned (.bool (T.slash s)) ∧ w = w' := by
  have K := hid (tindex_any s)
  have hs : decide (0 ≤ Lib.indexByte s.data.toList 47) = T.slash s := by
    rw [Bool.eq_iff_iff, decide_eq_true_eq, T.slash_iff]
    simp [T.slash]
  rw [← hs]
  clear hs
  generalize Lib.indexByte s.data.toList 47 = x at K ⊢
  go_enter Tryz.func98, Tryz.ntmps98
  go_wp2_with (go_at_call 119; refine (K.out _).mono ?_; rintro e wx ⟨rfl, rfl⟩)
  go_ret
  exact ⟨rfl, rfl⟩
/-- may a text be a key? -/
def T.txt (s : ByteArray) : Bool := !s.toList.isEmpty && decide (s.size ≤ 255)
/-- may a text be a name? -/
def T.nam (s : ByteArray) : Bool := T.txt s && !(s.toList == [46]) && !(s.toList == [46, 46]) && !T.slash s
theorem fits_any (s : ByteArray) (w : World) : Calls Tryz.prog 71 #[.string s] w fun e w' => e = .returned (.bool (decide (s.size ≤ 255))) ∧ w = w' := by
  by_cases h : s.size ≤ 255
  · have h1 : (s.size : Int) ≤ (255 : Int) := by omega
    go_enter Tryz.func71, Tryz.ntmps71
    go_wp2
    go_ret
    exact ⟨ret_bool (by simp [h]), rfl⟩
  · have h1 : ¬ (s.size : Int) ≤ (255 : Int) := by omega
    go_enter Tryz.func71, Tryz.ntmps71
    go_wp2
    go_ret
    exact ⟨ret_bool (by simp [h]), rfl⟩
theorem isText_any (s : ByteArray) (w : World) : Calls Tryz.prog 70 #[.string s] w fun e w' => e = .returned (.bool (T.txt s)) ∧ w = w' := by
  have K := hid (fits_any s)
  unfold T.txt
  cases h0 : s.toList.isEmpty <;> cases h1 : decide (s.size ≤ 255) <;>
  · rw [h1] at K
    simp only [Bool.not_true, Bool.not_false, Bool.true_and, Bool.and_true, Bool.false_and, Bool.and_false]
    go_enter Tryz.func70, Tryz.ntmps70
    go_wp2_with (go_at_call 71; refine (K.out _).mono ?_; rintro e wx ⟨rfl, rfl⟩)
    all_goals (go_ret; exact ⟨by simp_all, rfl⟩)
set_option maxHeartbeats 1600000 in
theorem tname_any (s : ByteArray) (w : World) : Calls Tryz.prog 69 #[.string s] w fun e w' => e = .returned (.bool (T.nam s)) ∧ w = w' := by
  have K := hid (tcontains_any s)
  have KT := hid (isText_any s)
  unfold T.nam
  cases h0 : T.txt s <;> cases h1 : (s.toList == [46]) <;> cases h2 : (s.toList == [46, 46]) <;> cases h3 : T.slash s <;>
  · rw [h3] at K
    rw [h0] at KT
    simp only [Bool.not_true, Bool.not_false, Bool.true_and, Bool.and_true, Bool.false_and, Bool.and_false]
    go_enter Tryz.func69, Tryz.ntmps69
    go_wp2_with (first | (go_at_call 70; refine (KT.out _).mono ?_; rintro e wx ⟨rfl, rfl⟩) | (go_at_call 98; refine (K.out _).mono ?_; rintro e wx ⟨rfl, rfl⟩))
    all_goals (go_ret; exact ⟨by simp_all, rfl⟩)
end Go.Proofs.YtenengkeckanmaaGreat
