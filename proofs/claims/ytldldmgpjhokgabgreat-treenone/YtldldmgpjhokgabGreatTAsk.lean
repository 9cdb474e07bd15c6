/-
  What a tree is asked: at, has, isMade, Len, Lookup.
-/
import Derived.Test.YtldldmgpjhokgabGreatTMem
import Derived.WalkSpells
namespace Go.Proofs.YtldldmgpjhokgabGreat
open Go.RowKit Go.Maps
set_option linter.unusedVariables false
set_option maxRecDepth 100000
set_option linter.unusedSimpArgs false
section
variable {c : Nat → Option T.Col} {w : World} {bud p : Nat} {dos last : Int} {t : T.Tr} {mb : Nat} {f : Int → Nat}
theorem at_any (h : Tf c w bud p dos last t mb f) {n : Int} (hn : (Lit.int .i64 n).wf = true) : Calls Tryz.prog 37 #[ptr p, .int .i64 n] w fun e w' => e = .returned (T.loc f t n) ∧ w = w' := by
  have HL := hid (h.look hn)
  have c0 : w.cell? ⟨p, 0, none⟩ = some (.map (some mb)) := cellA (j := 0) h.cells rfl
  clear h hn
  go_enter Tryz.func37, Tryz.ntmps37
  go_wp2_with (refine wpList_look_v HL.out (by exact ⟨_, _, rfl, rfl, rfl⟩) (by kernel_rfl) ?_)
  go_ret
  exact ⟨rfl, rfl⟩
theorem has_any (h : Tf c w bud p dos last t mb f) {n : Int} (hn : (Lit.int .i64 n).wf = true) : Calls Tryz.prog 46 #[ptr p, .int .i64 n] w fun e w' => e = .returned (.bool (A.get n t).isSome) ∧ w = w' := by
  have K := hid (at_any h hn)
  clear h hn
  cases hg : A.get n t with
  | none =>
    rw [T.loc_none hg] at K
    go_enter Tryz.func46, Tryz.ntmps46
    go_wp2_with (go_at_call 37; refine K.out.mono ?_; rintro e wx ⟨rfl, rfl⟩)
    go_ret
    exact ⟨rfl, rfl⟩
  | some x =>
    rw [T.loc_some hg] at K
    go_enter Tryz.func46, Tryz.ntmps46
    go_wp2_with (go_at_call 37; refine K.out.mono ?_; rintro e wx ⟨rfl, rfl⟩)
    go_ret
    exact ⟨rfl, rfl⟩
theorem tmade_any (h : Tf c w bud p dos last t mb f) : Calls Tryz.prog 33 #[ptr p] w fun e w' => e = .returned (.bool true) ∧ w = w' := by
  have c0 : w.cell? ⟨p, 0, none⟩ = some (.map (some mb)) := cellA (j := 0) h.cells rfl
  have q : (binOp .neq 59 (.map (some mb)) (.map none)).run Tryz.prog w = .ok (.bool true) w := run_neq_map_nil w _ _ _ (some mb) Tryz.underlying59
  clear h
  go_enter Tryz.func33, Tryz.ntmps33
  go_wp2
  go_ret
  exact ⟨rfl, rfl⟩
theorem tlen_any (h : Tf c w bud p dos last t mb f) : Calls Tryz.prog 24 #[ptr p] w fun e w' => e = .returned (.int .i64 t.length) ∧ w = w' := by
  have K := hid (tmade_any h)
  have c0 : w.cell? ⟨p, 0, none⟩ = some (.map (some mb)) := cellA (j := 0) h.cells rfl
  have HL := hid (h.map.len Tryz.underlying59)
  clear h
  go_enter Tryz.func24, Tryz.ntmps24
  go_wp2_with (first
    | (go_at_call 33; refine K.out.mono ?_; rintro e wx ⟨rfl, rfl⟩)
    | (refine wpList_len_v (HL.out _) (by exact ⟨_, rfl, rfl⟩) (by kernel_rfl) ?_))
  go_ret
  exact ⟨rfl, rfl⟩
/-- of those under a node with a name the least -/
def T.lookup (t : T.Tr) (n : Int) (s : ByteArray) : Option Int := if (A.get n t).isSome then (T.kids t n s).head? else none
set_option maxHeartbeats 1600000 in
theorem lookup_any (h : Tf c w bud p dos last t mb f) {n : Int} (hn : (Lit.int .i64 n).wf = true) {s : ByteArray} (hs : s.size ≤ maxLen) :
    Calls Tryz.prog 18 #[ptr p, .int .i64 n, .string s] w fun e w' => e = .returned (.tuple #[.int .i64 ((T.lookup t n s).getD 0), .bool (T.lookup t n s).isSome]) ∧ w = w' := by
  have K := hid (at_any h hn)
  cases hg : A.get n t with
  | none =>
    rw [T.loc_none hg] at K
    rw [show T.lookup t n s = none by unfold T.lookup; rw [hg]; rfl]
    clear h hn hs
    go_enter Tryz.func18, Tryz.ntmps18
    go_wp2_with (go_at_call 37; refine K.out.mono ?_; rintro e wx ⟨rfl, rfl⟩)
    go_ret2
    exact ⟨rfl, rfl⟩
  | some x =>
    rw [T.loc_some hg] at K
    have hl : T.lookup t n s = (T.kids t n s).head? := by unfold T.lookup; rw [hg]; rfl
    obtain ⟨av, uv, g, m, h1, h2, h3, h4, h5, h6, h7, h8⟩ := h.node n x hg
    have c3 : w.cell? ⟨f n, 3, none⟩ = some (.map uv) := cellA (j := 3) h1 rfl
    have HL := hid (h6.look keyS Tryz.underlying97 (zeroRow w) (keyOfS hs))
    rcases h8 s with ⟨e1, e2⟩ | ⟨e1, a, cap, e2, e3, e4⟩
    · rw [hl, e1]
      rw [e2] at HL
      clear h hn hs h1 h2 h3 h4 h5 h6 h7 h8 e1 e2 hl hg
      simp only [Option.getD_none, List.head?_nil, Option.isSome_none] at HL ⊢
      go_enter Tryz.func18, Tryz.ntmps18
      go_wp2_with (first
        | (go_at_call 37; refine K.out.mono ?_; rintro e wx ⟨rfl, rfl⟩)
        | (refine wpList_look_v HL.out (by exact ⟨_, _, rfl, rfl, rfl⟩) (by kernel_rfl) ?_))
      go_ret2
      exact ⟨rfl, rfl⟩
    · rw [hl]
      rw [e2] at HL
      obtain ⟨k0, kr, hk⟩ : ∃ k0 kr, T.kids t n s = k0 :: kr := by
        cases hk : T.kids t n s with
        | nil => exact absurd hk e1
        | cons a b => exact ⟨a, b, rfl⟩
      rw [hk] at HL e3 ⊢
      obtain ⟨gb, fo, rfl⟩ := e3.some_of (by simp)
      have c9 : w.cell? ⟨gb, fo, none⟩ = some (.int .i64 k0) := by
        have := e3.cell (j := 0) (u := .int .i64 k0) rfl
        exact this
      have hlen := e3.le.2
      simp only [List.length_cons] at HL hlen
      obtain ⟨ln, hln⟩ : ∃ ln, kr.length = ln := ⟨_, rfl⟩
      rw [hln] at HL hlen
      have L1 : ((ln + 1 : Nat) : Int) ≠ 0 := by omega
      have L2 : (((ln + 1 : Nat) : Int) == 0) = false := by simp; omega
      clear h hn hs h1 h2 h3 h4 h5 h6 h7 h8 e1 e2 hl hg hk e3 e4 hln
      simp only [Option.getD_some, List.head?_cons, Option.isSome_some] at HL ⊢
      go_enter Tryz.func18, Tryz.ntmps18
      go_wp2_with (first
        | (go_at_call 37; refine K.out.mono ?_; rintro e wx ⟨rfl, rfl⟩)
        | (refine wpList_look_v HL.out (by exact ⟨_, _, rfl, rfl, rfl⟩) (by kernel_rfl) ?_))
      go_ret2
      exact ⟨rfl, rfl⟩
end
end Go.Proofs.YtldldmgpjhokgabGreat
