/-
  Attributes by their keys.
  What a tree is asked: at, has, isMade, Len, Lookup.
-/
import Derived.Test.YtenengkeckanmaaGreatMg5
import Derived.WalkSpells
namespace Go.Proofs.YtenengkeckanmaaGreat
set_option linter.unusedVariables false
namespace T
abbrev At := List (ByteArray × ByteArray)
/-- one text stands ahead of another -/
def blt (a b : ByteArray) : Bool := decide (a.data.toList < b.data.toList)
theorem ba_ext {a b : ByteArray} (h : a.data.toList = b.data.toList) : a = b := by
  cases a; cases b; simp at h ⊢; exact h
theorem blt_irrefl (a : ByteArray) : blt a a = false := by
  unfold blt
  exact decide_eq_false (List.lt_irrefl _)
theorem blt_trans {a b c : ByteArray} (h : blt a b = true) (k : blt b c = true) : blt a c = true := by
  unfold blt at *
  exact decide_eq_true (List.lt_trans (of_decide_eq_true h) (of_decide_eq_true k))
theorem blt_total {a b : ByteArray} (h : a ≠ b) (k : ¬ blt a b = true) : blt b a = true := by
  unfold blt at *
  refine decide_eq_true ?_
  have k : ¬ a.data.toList < b.data.toList := fun e => k (decide_eq_true e)
  have h1 : b.data.toList ≤ a.data.toList := List.not_lt.1 k
  rcases List.le_iff_lt_or_eq.1 h1 with h2 | h2
  · exact h2
  · exact absurd (ba_ext h2.symm) h
/-- the keys rise -/
def Ak (l : At) : Prop := l.Pairwise (fun p q => blt p.1 q.1 = true)
def ains (x : ByteArray × ByteArray) : At → At
  | [] => [x]
  | y :: r => if blt x.1 y.1 = true then x :: y :: r else y :: ains x r
def adel (k : ByteArray) (l : At) : At := l.filter (fun p => !decide (p.1 = k))
/-- a key's value; an empty one is none -/
def aset (k v : ByteArray) (l : At) : At := if v.toList.isEmpty = true then adel k l else ains (k, v) (adel k l)
theorem mem_ains {x p : ByteArray × ByteArray} : ∀ {l : At}, p ∈ ains x l ↔ p = x ∨ p ∈ l
  | [] => by simp [ains]
  | y :: r => by
    unfold ains
    split
    · simp
    · simp only [List.mem_cons, mem_ains (l := r)]
      constructor
      · rintro (h | h | h) <;> simp [h]
      · rintro (h | h | h) <;> simp [h]
theorem mem_adel {k : ByteArray} {l : At} {p : ByteArray × ByteArray} : p ∈ adel k l ↔ p ∈ l ∧ p.1 ≠ k := by simp [adel, List.mem_filter]
theorem Ak.adel {l : At} (h : Ak l) (k : ByteArray) : Ak (T.adel k l) := List.Pairwise.filter _ h
theorem Ak.ains {x : ByteArray × ByteArray} : ∀ {l : At}, Ak l → (∀ p ∈ l, p.1 ≠ x.1) → Ak (T.ains x l)
  | [], _, _ => by simp [T.ains, Ak]
  | y :: r, h, hn => by
    unfold T.ains
    unfold Ak at h
    rw [List.pairwise_cons] at h
    split
    · rename_i hb
      refine List.pairwise_cons.2 ⟨fun p hp => ?_, List.pairwise_cons.2 h⟩
      rcases List.mem_cons.1 hp with rfl | hp
      · exact hb
      · exact blt_trans hb (h.1 p hp)
    · rename_i hb
      refine List.pairwise_cons.2 ⟨fun p hp => ?_, Ak.ains h.2 (fun p hp => hn p (by simp [hp]))⟩
      rcases mem_ains.1 hp with rfl | hp
      · exact blt_total (hn y (by simp)).symm hb
      · exact h.1 p hp
theorem Ak.aset {l : At} (h : Ak l) (k v : ByteArray) : Ak (T.aset k v l) := by
  unfold T.aset
  split
  · exact h.adel k
  · exact (h.adel k).ains (fun p hp => (mem_adel.1 hp).2)
theorem aget_cons (s : ByteArray) (y : ByteArray × ByteArray) (r : At) : aget s (y :: r) = if y.1 = s then some y.2 else aget s r := by
  unfold aget
  rw [List.find?_cons]
  by_cases h : y.1 = s
  · simp [h]
  · simp [h]
theorem aget_adel (s k : ByteArray) : ∀ l : At, aget s (adel k l) = if s = k then none else aget s l
  | [] => by simp [adel, aget]
  | y :: r => by
    have ih := aget_adel s k r
    by_cases h : y.1 = k
    · have e : adel k (y :: r) = adel k r := by unfold adel; rw [List.filter_cons_of_neg (by simp [h])]
      rw [e, ih, aget_cons]
      by_cases hs : s = k
      · simp [hs]
      · rw [if_neg hs, if_neg hs, if_neg (fun e => hs (by rw [← e, h]))]
    · have e : adel k (y :: r) = y :: adel k r := by unfold adel; rw [List.filter_cons_of_pos (by simp [h])]
      rw [e, aget_cons, aget_cons, ih]
      by_cases hs : y.1 = s
      · rw [if_pos hs, if_pos hs, if_neg (fun e => h (by rw [hs, e]))]
      · rw [if_neg hs, if_neg hs]
theorem aget_ains (s : ByteArray) (x : ByteArray × ByteArray) : ∀ l : At, (∀ p ∈ l, p.1 ≠ x.1) → aget s (ains x l) = if s = x.1 then some x.2 else aget s l
  | [], _ => by
    unfold ains
    rw [aget_cons]
    by_cases h : x.1 = s
    · rw [if_pos h, if_pos h.symm]
    · rw [if_neg h, if_neg (fun e => h e.symm)]
  | y :: r, hn => by
    unfold ains
    split
    · rw [aget_cons]
      by_cases h : x.1 = s
      · rw [if_pos h, if_pos h.symm]
      · rw [if_neg h, if_neg (fun e => h e.symm)]
    · rw [aget_cons, aget_cons, aget_ains s x r (fun p hp => hn p (by simp [hp]))]
      by_cases h : y.1 = s
      · rw [if_pos h, if_pos h, if_neg (fun e => hn y (by simp) (h.trans e))]
      · rw [if_neg h, if_neg h]
theorem aget_aset (s k v : ByteArray) (l : At) : aget s (aset k v l) = if s = k then (if v.toList.isEmpty = true then none else some v) else aget s l := by
  unfold aset
  by_cases hv : v.toList.isEmpty = true
  · rw [if_pos hv, if_pos hv, aget_adel]
  · rw [if_neg hv, if_neg hv, aget_ains s (k, v) _ (fun p hp => (mem_adel.1 hp).2), aget_adel]
    by_cases hs : s = k
    · rw [if_pos hs, if_pos hs]
    · rw [if_neg hs, if_neg hs, if_neg hs]
theorem length_ains (x : ByteArray × ByteArray) : ∀ l : At, (ains x l).length = l.length + 1
  | [] => rfl
  | y :: r => by
    unfold ains
    split
    · rfl
    · simp [length_ains x r]
theorem length_adel {k : ByteArray} : ∀ {l : At}, Ak l → (adel k l).length = if (aget k l).isSome then l.length - 1 else l.length
  | [], _ => by simp [adel, aget]
  | y :: r, h => by
    unfold Ak at h
    rw [List.pairwise_cons] at h
    have ih := length_adel (k := k) h.2
    rw [aget_cons]
    by_cases e : y.1 = k
    · have hn : adel k r = r := List.filter_eq_self.2 (fun p hp => by
        have h1 := h.1 p hp
        have : p.1 ≠ k := fun e2 => by rw [e, e2, blt_irrefl] at h1; cases h1
        simp [this])
      rw [if_pos e]
      have e2 : adel k (y :: r) = adel k r := by unfold adel; rw [List.filter_cons_of_neg (by simp [e])]
      rw [e2, hn]
      simp
    · rw [if_neg e]
      have e2 : adel k (y :: r) = y :: adel k r := by unfold adel; rw [List.filter_cons_of_pos (by simp [e])]
      rw [e2, List.length_cons, ih, List.length_cons]
      have hl : (aget k r).isSome = true → 0 < r.length := fun hs => by
        cases r with
        | nil => simp [aget] at hs
        | cons a b => simp
      split
      · rename_i hs; have := hl hs; omega
      · rfl
theorem length_aset {k v : ByteArray} {l : At} (h : Ak l) : (aset k v l).length = if v.toList.isEmpty = true then (if (aget k l).isSome then l.length - 1 else l.length) else (if (aget k l).isSome then l.length else l.length + 1) := by
  unfold aset
  by_cases hv : v.toList.isEmpty = true
  · rw [if_pos hv, if_pos hv, length_adel h]
  · rw [if_neg hv, if_neg hv, length_ains, length_adel h]
    have hl : (aget k l).isSome = true → 0 < l.length := fun hs => by
      cases l with
      | nil => simp [aget] at hs
      | cons a b => simp
    split
    · rename_i hs; have := hl hs; omega
    · rfl
end T
end Go.Proofs.YtenengkeckanmaaGreat

namespace Go.Proofs.YtenengkeckanmaaGreat
open Go.RowKit Go.Maps
set_option linter.unusedVariables false
set_option maxRecDepth 100000
set_option linter.unusedSimpArgs false
section
variable {c : Nat → Option T.Col} {w : World} {bud p : Nat} {dos last : Int} {t : T.Tr} {mb : Nat} {f : Int → Nat}
theorem at_any (h : Tf c w bud p dos last t mb f) {n : Int} (hn : (Lit.int .i64 n).wf = true) : Calls Tryz.prog 65 #[ptr p, .int .i64 n] w fun e w' => e = .returned (T.loc f t n) ∧ w = w' := by
  have HL := hid (h.look hn)
  have c0 : w.cell? ⟨p, 0, none⟩ = some (.map (some mb)) := cellA (j := 0) h.cells rfl
  clear h hn
  go_enter Tryz.func65, Tryz.ntmps65
  go_wp2_with (refine wpList_look_v HL.out (by exact ⟨_, _, rfl, rfl, rfl⟩) (by kernel_rfl) ?_)
  go_ret
  exact ⟨rfl, rfl⟩
theorem has_any (h : Tf c w bud p dos last t mb f) {n : Int} (hn : (Lit.int .i64 n).wf = true) : Calls Tryz.prog 68 #[ptr p, .int .i64 n] w fun e w' => e = .returned (.bool (A.get n t).isSome) ∧ w = w' := by
  have K := hid (at_any h hn)
  clear h hn
  cases hg : A.get n t with
  | none =>
    rw [T.loc_none hg] at K
    go_enter Tryz.func68, Tryz.ntmps68
    go_wp2_with (go_at_call 65; refine K.out.mono ?_; rintro e wx ⟨rfl, rfl⟩)
    go_ret
    exact ⟨rfl, rfl⟩
  | some x =>
    rw [T.loc_some hg] at K
    go_enter Tryz.func68, Tryz.ntmps68
    go_wp2_with (go_at_call 65; refine K.out.mono ?_; rintro e wx ⟨rfl, rfl⟩)
    go_ret
    exact ⟨rfl, rfl⟩
theorem tmade_any (h : Tf c w bud p dos last t mb f) : Calls Tryz.prog 47 #[ptr p] w fun e w' => e = .returned (.bool true) ∧ w = w' := by
  have c0 : w.cell? ⟨p, 0, none⟩ = some (.map (some mb)) := cellA (j := 0) h.cells rfl
  have q : (binOp .neq 90 (.map (some mb)) (.map none)).run Tryz.prog w = .ok (.bool true) w := run_neq_map_nil w _ _ _ (some mb) Tryz.underlying90
  clear h
  go_enter Tryz.func47, Tryz.ntmps47
  go_wp2
  go_ret
  exact ⟨rfl, rfl⟩
theorem tlen_any (h : Tf c w bud p dos last t mb f) : Calls Tryz.prog 13 #[ptr p] w fun e w' => e = .returned (.int .i64 t.length) ∧ w = w' := by
  have K := hid (tmade_any h)
  have c0 : w.cell? ⟨p, 0, none⟩ = some (.map (some mb)) := cellA (j := 0) h.cells rfl
  have HL := hid (h.map.len Tryz.underlying90)
  clear h
  go_enter Tryz.func13, Tryz.ntmps13
  go_wp2_with (first
    | (go_at_call 47; refine K.out.mono ?_; rintro e wx ⟨rfl, rfl⟩)
    | (refine wpList_len_v (HL.out _) (by exact ⟨_, rfl, rfl⟩) (by kernel_rfl) ?_))
  go_ret
  exact ⟨rfl, rfl⟩
/-- of those under a node with a name the least -/
def T.lookup (t : T.Tr) (n : Int) (s : ByteArray) : Option Int := if (A.get n t).isSome then (T.kids t n s).head? else none
set_option maxHeartbeats 1600000 in
theorem lookup_any (h : Tf c w bud p dos last t mb f) {n : Int} (hn : (Lit.int .i64 n).wf = true) {s : ByteArray} (hs : s.size ≤ maxLen) :
    Calls Tryz.prog 31 #[ptr p, .int .i64 n, .string s] w fun e w' => e = .returned (.tuple #[.int .i64 ((T.lookup t n s).getD 0), .bool (T.lookup t n s).isSome]) ∧ w = w' := by
  have K := hid (at_any h hn)
  cases hg : A.get n t with
  | none =>
    rw [T.loc_none hg] at K
    rw [show T.lookup t n s = none by unfold T.lookup; rw [hg]; rfl]
    clear h hn hs
    go_enter Tryz.func31, Tryz.ntmps31
    go_wp2_with (go_at_call 65; refine K.out.mono ?_; rintro e wx ⟨rfl, rfl⟩)
    go_ret2
    exact ⟨rfl, rfl⟩
  | some x =>
    rw [T.loc_some hg] at K
    have hl : T.lookup t n s = (T.kids t n s).head? := by unfold T.lookup; rw [hg]; rfl
    obtain ⟨av, uv, g, m, h1, h2, h3, h4, h5, h6, h7, h8⟩ := h.node n x hg
    have c3 : w.cell? ⟨f n, 3, none⟩ = some (.map uv) := cellA (j := 3) h1 rfl
    have HL := hid (h6.look keyS Tryz.underlying87 (zeroRow w) (keyOfS hs))
    rcases h8 s with ⟨e1, e2⟩ | ⟨e1, a, cap, e2, e3, e4⟩
    · rw [hl, e1]
      rw [e2] at HL
      clear h hn hs h1 h2 h3 h4 h5 h6 h7 h8 e1 e2 hl hg
      simp only [Option.getD_none, List.head?_nil, Option.isSome_none] at HL ⊢
      go_enter Tryz.func31, Tryz.ntmps31
      go_wp2_with (first
        | (go_at_call 65; refine K.out.mono ?_; rintro e wx ⟨rfl, rfl⟩)
        | (refine wpList_look_v HL.out (by exact ⟨_, _, rfl, rfl, rfl⟩) (by kernel_rfl) ?_))
      go_ret2
      exact ⟨rfl, rfl⟩
    · rw [hl]
      rw [e2] at HL
      obtain ⟨k0, kr, hk⟩ : ∃ k0 kr, T.kids t n s = k0 :: kr := by
        cases hk : T.kids t n s with
        | nil => exact absurd hk e1
        | cons a b => exact ⟨a, b, rfl⟩
      rw [hk] at HL e3 ⊢
      obtain ⟨gb, fo, rfl⟩ := e3.some_of (by simp)
      have c9 : w.cell? ⟨gb, fo, none⟩ = some (.int .i64 k0) := by
        have := e3.cell (j := 0) (u := .int .i64 k0) rfl
        exact this
      have hlen := e3.le.2
      simp only [List.length_cons] at HL hlen
      obtain ⟨ln, hln⟩ : ∃ ln, kr.length = ln := ⟨_, rfl⟩
      rw [hln] at HL hlen
      have L1 : ((ln + 1 : Nat) : Int) ≠ 0 := by omega
      have L2 : (((ln + 1 : Nat) : Int) == 0) = false := by simp; omega
      clear h hn hs h1 h2 h3 h4 h5 h6 h7 h8 e1 e2 hl hg hk e3 e4 hln
      simp only [Option.getD_some, List.head?_cons, Option.isSome_some] at HL ⊢
      go_enter Tryz.func31, Tryz.ntmps31
      go_wp2_with (first
        | (go_at_call 65; refine K.out.mono ?_; rintro e wx ⟨rfl, rfl⟩)
        | (refine wpList_look_v HL.out (by exact ⟨_, _, rfl, rfl, rfl⟩) (by kernel_rfl) ?_))
      go_ret2
      exact ⟨rfl, rfl⟩
end
end Go.Proofs.YtenengkeckanmaaGreat
