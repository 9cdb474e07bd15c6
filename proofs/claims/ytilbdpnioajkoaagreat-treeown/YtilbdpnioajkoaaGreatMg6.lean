/-
  The library's contracts on slices.SortFunc of attributes and on strings.Compare, laid at this dump.
  Plain trees: those under a node.
  What a tree is asked: at, has, isMade, Len, Lookup.
  Names, keys, values: which may be; the code's and the document's.
-/
import Derived.Test.YtilbdpnioajkoaaGreatRows
import Derived.WalkKit
import Derived.Shelf.SlSortCmp.NoneTotal
import Derived.Shelf.Small.Strs
import Derived.Ground.SlsfProg
import Derived.Ground.NamesProg
import Derived.Test.YtilbdpnioajkoaaGreatMg4
import Derived.WalkSpells
import Derived.Test.YtilbdpnioajkoaaGreatMg2
import Derived.Lib.Bytealg
namespace Go.Proofs.YtilbdpnioajkoaaGreat
open Go.RowKit Go.Sort Go.Shelf
set_option linter.unusedVariables false

def Lsorta_ren : Go.Shelf.Ren := ⟨fun | 6 => 101 | 15 => 99 | 14 => 129 | 28 => 126 | 29 => 127 | 20 => 151 | 21 => 152 | 22 => 153 | 23 => 154 | 24 => 155 | 25 => 156 | 26 => 157 | 27 => 158 | 46 => 172 | 47 => 146 | 48 => 147 | 49 => 173 | 50 => 174 | 57 => 179 | n => n, fun | 22 => 61 | 24 => 65 | 25 => 139 | 3 => 3 | 39 => 161 | 0 => 0 | 53 => 183 | 55 => 185 | 4 => 4 | 46 => 177 | 45 => 176 | 50 => 110 | 5 => 5 | 9 => 9 | 66 => 198 | 70 => 202 | 76 => 216 | 77 => 217 | n => n, fun | n => n⟩
theorem Lsorta : Go.Proofs.SlLaysF0.n6 Tryz.prog Lsorta_ren := {
  mixed := by kernel_rfl
  f6 := ⟨Tryz.f101.name, by decide, Tryz.func101.trans (congrArg some (by kernel_rfl))⟩
  f14 := ⟨Tryz.f129.name, by decide, Tryz.func129.trans (congrArg some (by kernel_rfl))⟩
  f15 := Tryz.func99.trans (congrArg some (by kernel_rfl))
  f20 := ⟨Tryz.f151.name, by decide, Tryz.func151.trans (congrArg some (by kernel_rfl))⟩
  f21 := ⟨Tryz.f152.name, by decide, Tryz.func152.trans (congrArg some (by kernel_rfl))⟩
  f22 := ⟨Tryz.f153.name, by decide, Tryz.func153.trans (congrArg some (by kernel_rfl))⟩
  f23 := ⟨Tryz.f154.name, by decide, Tryz.func154.trans (congrArg some (by kernel_rfl))⟩
  f24 := ⟨Tryz.f155.name, by decide, Tryz.func155.trans (congrArg some (by kernel_rfl))⟩
  f25 := ⟨Tryz.f156.name, by decide, Tryz.func156.trans (congrArg some (by kernel_rfl))⟩
  f26 := ⟨Tryz.f157.name, by decide, Tryz.func157.trans (congrArg some (by kernel_rfl))⟩
  f27 := ⟨Tryz.f158.name, by decide, Tryz.func158.trans (congrArg some (by kernel_rfl))⟩
  f28 := Tryz.func126.trans (congrArg some (by kernel_rfl))
  f29 := Tryz.func127.trans (congrArg some (by kernel_rfl))
  f46 := ⟨Tryz.f172.name, by decide, Tryz.func172.trans (congrArg some (by kernel_rfl))⟩
  f47 := Tryz.func146.trans (congrArg some (by kernel_rfl))
  f48 := Tryz.func147.trans (congrArg some (by kernel_rfl))
  f49 := ⟨Tryz.f173.name, by decide, Tryz.func173.trans (congrArg some (by kernel_rfl))⟩
  f50 := ⟨Tryz.f174.name, by decide, Tryz.func174.trans (congrArg some (by kernel_rfl))⟩
  f57 := ⟨Tryz.f179.name, by decide, Tryz.func179.trans (congrArg some (by kernel_rfl))⟩
  t0 := Tryz.underlying0
  a0 := Tryz.isAgg0
  z0 := Tryz.sizeOf0
  v0 := Tryz.zeroValue0
  t3 := Tryz.underlying3
  a3 := Tryz.isAgg3
  z3 := Tryz.sizeOf3
  v3 := Tryz.zeroValue3
  t4 := Tryz.underlying4
  a4 := Tryz.isAgg4
  z4 := Tryz.sizeOf4
  v4 := Tryz.zeroValue4
  t5 := Tryz.underlying5
  a5 := Tryz.isAgg5
  z5 := Tryz.sizeOf5
  v5 := Tryz.zeroValue5
  t9 := Tryz.underlying9
  a9 := Tryz.isAgg9
  z9 := Tryz.sizeOf9
  v9 := Tryz.zeroValue9
  t22 := Tryz.underlying61
  a22 := Tryz.isAgg61
  z22 := Tryz.sizeOf61
  v22 := Tryz.zeroValue61
  t25 := Tryz.underlying139
  a25 := Tryz.isAgg139
  z25 := Tryz.sizeOf139
  v25 := Tryz.zeroValue139
  t39 := Tryz.underlying161
  a39 := Tryz.isAgg161
  z39 := Tryz.sizeOf161
  v39 := Tryz.zeroValue161
  t45 := Tryz.underlying176
  a45 := Tryz.isAgg176
  z45 := Tryz.sizeOf176
  v45 := Tryz.zeroValue176
  t46 := Tryz.underlying177
  a46 := Tryz.isAgg177
  z46 := Tryz.sizeOf177
  v46 := Tryz.zeroValue177
  t50 := Tryz.underlying110
  a50 := Tryz.isAgg110
  z50 := Tryz.sizeOf110
  v50 := Tryz.zeroValue110
  t53 := Tryz.underlying183
  a53 := Tryz.isAgg183
  z53 := Tryz.sizeOf183
  v53 := Tryz.zeroValue183
  t55 := Tryz.underlying185
  a55 := Tryz.isAgg185
  z55 := Tryz.sizeOf185
  v55 := Tryz.zeroValue185
  t66 := Tryz.underlying198
  a66 := Tryz.isAgg198
  z66 := Tryz.sizeOf198
  v66 := Tryz.zeroValue198
  t70 := Tryz.underlying202
  a70 := Tryz.isAgg202
  z70 := Tryz.sizeOf202
  v70 := Tryz.zeroValue202
  t76 := Tryz.underlying216
  a76 := Tryz.isAgg216
  z76 := Tryz.sizeOf216
  v76 := Tryz.zeroValue216
  t77 := Tryz.underlying217
  a77 := Tryz.isAgg217
  z77 := Tryz.sizeOf217
  v77 := Tryz.zeroValue217 }
def Lcmps_ren : Go.Shelf.Ren := ⟨fun | 106 => 76 | 213 => 103 | 265 => 130 | n => n, fun | 9 => 9 | 3 => 3 | n => n, fun | n => n⟩
theorem Lcmps : Go.Proofs.Lays.n106 Tryz.prog Lcmps_ren := {
  mixed := by kernel_rfl
  f106 := Tryz.func76.trans (congrArg some (by kernel_rfl))
  f213 := Tryz.func103.trans (congrArg some (by kernel_rfl))
  f265 := Tryz.func130.trans (congrArg some (by kernel_rfl))
  t3 := Tryz.underlying3
  a3 := Tryz.isAgg3
  z3 := Tryz.sizeOf3
  v3 := Tryz.zeroValue3
  t9 := Tryz.underlying9
  a9 := Tryz.isAgg9
  z9 := Tryz.sizeOf9
  v9 := Tryz.zeroValue9 }

end Go.Proofs.YtilbdpnioajkoaaGreat

namespace Go.Proofs.YtilbdpnioajkoaaGreat
set_option linter.unusedVariables false
set_option maxRecDepth 100000
namespace T
/-- a list of numbers rises -/
def Rise (l : List Int) : Prop := l.Pairwise (· < ·)
def insI (n : Int) : List Int → List Int
  | [] => [n]
  | y :: r => if n < y then n :: y :: r else y :: insI n r
theorem mem_insI {n k : Int} : ∀ {l : List Int}, k ∈ insI n l ↔ k = n ∨ k ∈ l
  | [] => by simp [insI]
  | y :: r => by
    unfold insI
    split
    · simp
    · simp only [List.mem_cons, mem_insI (l := r)]
      constructor
      · rintro (h | h | h) <;> simp [h]
      · rintro (h | h | h) <;> simp [h]
theorem Rise.insI {n : Int} : ∀ {l : List Int}, Rise l → n ∉ l → Rise (T.insI n l)
  | [], _, _ => by simp [T.insI, Rise]
  | y :: r, h, hn => by
    unfold T.insI
    unfold Rise at h
    rw [List.pairwise_cons] at h
    split
    · rename_i hb
      exact List.pairwise_cons.2 ⟨fun k hk => by
        rcases List.mem_cons.1 hk with rfl | hk
        · exact hb
        · exact Int.lt_trans hb (h.1 k hk), List.pairwise_cons.2 h⟩
    · rename_i hb
      refine List.pairwise_cons.2 ⟨fun k hk => ?_, Rise.insI h.2 (fun h => hn (by simp [h]))⟩
      rcases mem_insI.1 hk with rfl | hk
      · have : k ≠ y := fun e => hn (by simp [e])
        omega
      · exact h.1 k hk
theorem rise_ext : ∀ {l m : List Int}, Rise l → Rise m → (∀ k, k ∈ l ↔ k ∈ m) → l = m
  | [], [], _, _, _ => rfl
  | [], y :: r, _, _, h => by have := (h y).2 (by simp); cases this
  | x :: r, [], _, _, h => by have := (h x).1 (by simp); cases this
  | x :: r, y :: s, hl, hm, h => by
    unfold Rise at hl hm
    rw [List.pairwise_cons] at hl hm
    have e : x = y := by
      rcases List.mem_cons.1 ((h x).1 (by simp)) with e | h1
      · exact e
      · rcases List.mem_cons.1 ((h y).2 (by simp)) with e | h2
        · exact e.symm
        · have a := hl.1 y h2
          have b := hm.1 x h1
          omega
    subst e
    rw [rise_ext hl.2 hm.2 (fun k => ⟨fun hk => ?_, fun hk => ?_⟩)]
    · rcases List.mem_cons.1 ((h k).1 (by simp [hk])) with rfl | h1
      · exact absurd (hl.1 k hk) (by omega)
      · exact h1
    · rcases List.mem_cons.1 ((h k).2 (by simp [hk])) with rfl | h1
      · exact absurd (hm.1 k hk) (by omega)
      · exact h1
theorem mem_kids {t : Tr} (ht : A.Up t) {m k : Int} {s : ByteArray} : k ∈ kids t m s ↔ 2 < k ∧ ∃ y, A.get k t = some y ∧ y.par = m ∧ y.nm = s := by
  unfold kids
  simp only [List.mem_map, List.mem_filter, Bool.and_eq_true, decide_eq_true_eq, beq_iff_eq]
  constructor
  · rintro ⟨⟨a, y⟩, ⟨h1, h2, h3, h4⟩, rfl⟩
    exact ⟨h2, y, A.get_of_mem ht h1, h3, h4⟩
  · rintro ⟨h2, y, h1, h3, h4⟩
    exact ⟨(k, y), ⟨A.get_mem h1, h2, h3, h4⟩, rfl⟩
theorem rise_kids {t : Tr} (ht : A.Up t) (m : Int) (s : ByteArray) : Rise (kids t m s) := by
  unfold kids Rise
  rw [List.pairwise_map]
  exact List.Pairwise.filter _ ht
theorem kids_len (t : Tr) (m : Int) (s : ByteArray) : (kids t m s).length ≤ t.length := by
  unfold kids
  rw [List.length_map]
  exact List.length_filter_le _ _
/-- a node comes to stand under another one -/
theorem kids_put {t : Tr} (ht : A.Up t) {n : Int} (hn : 2 < n) (x : Nd) {m : Int} (s : ByteArray) (hx : ∀ y, A.get n t = some y → y.par ≠ m) :
    kids (A.put n x t) m s = if m = x.par ∧ s = x.nm then insI n (kids t m s) else kids t m s := by
  have hnot : n ∉ kids t m s := fun h => by
    obtain ⟨_, y, h1, h2, _⟩ := (mem_kids ht).1 h
    exact hx y h1 h2
  have key : ∀ k, k ∈ kids (A.put n x t) m s ↔ (k = n ∧ m = x.par ∧ s = x.nm) ∨ k ∈ kids t m s := fun k => by
    rw [mem_kids (ht.put n x), mem_kids ht]
    by_cases e : k = n
    · subst e
      rw [A.get_put_same ht]
      constructor
      · rintro ⟨h1, y, h2, h3, h4⟩
        cases h2
        exact .inl ⟨rfl, h3.symm, h4.symm⟩
      · rintro (⟨_, h1, h2⟩ | ⟨h1, y, h2, h3, _⟩)
        · exact ⟨hn, x, rfl, h1.symm, h2.symm⟩
        · exact absurd h3 (hx y h2)
    · rw [A.get_put_other ht e]
      constructor
      · exact .inr
      · rintro (⟨h, _⟩ | h)
        · exact absurd h e
        · exact h
  by_cases e : m = x.par ∧ s = x.nm
  · rw [if_pos e]
    refine rise_ext (rise_kids (ht.put n x) m s) ((rise_kids ht m s).insI hnot) (fun k => ?_)
    rw [key, mem_insI]
    simp [e]
  · rw [if_neg e]
    refine rise_ext (rise_kids (ht.put n x) m s) (rise_kids ht m s) (fun k => ?_)
    rw [key]
    constructor
    · rintro (⟨_, h⟩ | h)
      · exact absurd h e
      · exact h
    · exact .inr
/-- .. and stands nowhere -/
theorem kids_loose {t : Tr} (ht : A.Up t) {n : Int} {x z : Nd} (hx : A.get n t = some x) (hz : z.par = 0) {m : Int} (hm : m ≠ 0) (s : ByteArray) :
    kids (A.put n z t) m s = (kids t m s).filter (fun k => !(k == n)) := by
  refine rise_ext (rise_kids (ht.put n z) m s) (List.Pairwise.filter _ (rise_kids ht m s)) (fun k => ?_)
  rw [mem_kids (ht.put n z), List.mem_filter, mem_kids ht]
  by_cases e : k = n
  · subst e
    rw [A.get_put_same ht]
    constructor
    · rintro ⟨_, y, h2, h3, _⟩
      cases h2
      exact absurd (hz.symm.trans h3).symm hm
    · rintro ⟨_, h⟩
      simp at h
  · rw [A.get_put_other ht e]
    simp [e]
theorem filter_not_mem {n : Int} {l : List Int} (h : n ∉ l) : l.filter (fun k => !(k == n)) = l := List.filter_eq_self.2 (fun k hk => by
  have : k ≠ n := fun e => h (e ▸ hk)
  simp [this])
end T
end Go.Proofs.YtilbdpnioajkoaaGreat

namespace Go.Proofs.YtilbdpnioajkoaaGreat
open Go.RowKit Go.Maps
set_option linter.unusedVariables false
set_option maxRecDepth 100000
set_option linter.unusedSimpArgs false
section
variable {c : Nat → Option T.Col} {w : World} {bud p : Nat} {dos last : Int} {t : T.Tr} {mb : Nat} {f : Int → Nat}
theorem at_any (h : Tf c w bud p dos last t mb f) {n : Int} (hn : (Lit.int .i64 n).wf = true) : Calls Tryz.prog 58 #[ptr p, .int .i64 n] w fun e w' => e = .returned (T.loc f t n) ∧ w = w' := by
  have HL := hid (h.look hn)
  have c0 : w.cell? ⟨p, 0, none⟩ = some (.map (some mb)) := cellA (j := 0) h.cells rfl
  clear h hn
  go_enter Tryz.func58, Tryz.ntmps58
  go_wp2_with (refine wpList_look_v HL.out (by exact ⟨_, _, rfl, rfl, rfl⟩) (by kernel_rfl) ?_)
  go_ret
  exact ⟨rfl, rfl⟩
theorem has_any (h : Tf c w bud p dos last t mb f) {n : Int} (hn : (Lit.int .i64 n).wf = true) : Calls Tryz.prog 66 #[ptr p, .int .i64 n] w fun e w' => e = .returned (.bool (A.get n t).isSome) ∧ w = w' := by
  have K := hid (at_any h hn)
  clear h hn
  cases hg : A.get n t with
  | none =>
    rw [T.loc_none hg] at K
    go_enter Tryz.func66, Tryz.ntmps66
    go_wp2_with (go_at_call 58; refine K.out.mono ?_; rintro e wx ⟨rfl, rfl⟩)
    go_ret
    exact ⟨rfl, rfl⟩
  | some x =>
    rw [T.loc_some hg] at K
    go_enter Tryz.func66, Tryz.ntmps66
    go_wp2_with (go_at_call 58; refine K.out.mono ?_; rintro e wx ⟨rfl, rfl⟩)
    go_ret
    exact ⟨rfl, rfl⟩
theorem tmade_any (h : Tf c w bud p dos last t mb f) : Calls Tryz.prog 42 #[ptr p] w fun e w' => e = .returned (.bool true) ∧ w = w' := by
  have c0 : w.cell? ⟨p, 0, none⟩ = some (.map (some mb)) := cellA (j := 0) h.cells rfl
  have q : (binOp .neq 81 (.map (some mb)) (.map none)).run Tryz.prog w = .ok (.bool true) w := run_neq_map_nil w _ _ _ (some mb) Tryz.underlying81
  clear h
  go_enter Tryz.func42, Tryz.ntmps42
  go_wp2
  go_ret
  exact ⟨rfl, rfl⟩
theorem tlen_any (h : Tf c w bud p dos last t mb f) : Calls Tryz.prog 10 #[ptr p] w fun e w' => e = .returned (.int .i64 t.length) ∧ w = w' := by
  have K := hid (tmade_any h)
  have c0 : w.cell? ⟨p, 0, none⟩ = some (.map (some mb)) := cellA (j := 0) h.cells rfl
  have HL := hid (h.map.len Tryz.underlying81)
  clear h
  go_enter Tryz.func10, Tryz.ntmps10
  go_wp2_with (first
    | (go_at_call 42; refine K.out.mono ?_; rintro e wx ⟨rfl, rfl⟩)
    | (refine wpList_len_v (HL.out _) (by exact ⟨_, rfl, rfl⟩) (by kernel_rfl) ?_))
  go_ret
  exact ⟨rfl, rfl⟩
/-- of those under a node with a name the least -/
def T.lookup (t : T.Tr) (n : Int) (s : ByteArray) : Option Int := if (A.get n t).isSome then (T.kids t n s).head? else none
set_option maxHeartbeats 1600000 in
theorem lookup_any (h : Tf c w bud p dos last t mb f) {n : Int} (hn : (Lit.int .i64 n).wf = true) {s : ByteArray} (hs : s.size ≤ maxLen) :
    Calls Tryz.prog 24 #[ptr p, .int .i64 n, .string s] w fun e w' => e = .returned (.tuple #[.int .i64 ((T.lookup t n s).getD 0), .bool (T.lookup t n s).isSome]) ∧ w = w' := by
  have K := hid (at_any h hn)
  cases hg : A.get n t with
  | none =>
    rw [T.loc_none hg] at K
    rw [show T.lookup t n s = none by unfold T.lookup; rw [hg]; rfl]
    clear h hn hs
    go_enter Tryz.func24, Tryz.ntmps24
    go_wp2_with (go_at_call 58; refine K.out.mono ?_; rintro e wx ⟨rfl, rfl⟩)
    go_ret2
    exact ⟨rfl, rfl⟩
  | some x =>
    rw [T.loc_some hg] at K
    have hl : T.lookup t n s = (T.kids t n s).head? := by unfold T.lookup; rw [hg]; rfl
    obtain ⟨av, uv, g, m, h1, h2, h3, h4, h5, h6, h7, h8⟩ := h.node n x hg
    have c3 : w.cell? ⟨f n, 3, none⟩ = some (.map uv) := cellA (j := 3) h1 rfl
    have HL := hid (h6.look keyS Tryz.underlying78 (zeroRow w) (keyOfS hs))
    rcases h8 s with ⟨e1, e2⟩ | ⟨e1, a, cap, e2, e3, e4⟩
    · rw [hl, e1]
      rw [e2] at HL
      clear h hn hs h1 h2 h3 h4 h5 h6 h7 h8 e1 e2 hl hg
      simp only [Option.getD_none, List.head?_nil, Option.isSome_none] at HL ⊢
      go_enter Tryz.func24, Tryz.ntmps24
      go_wp2_with (first
        | (go_at_call 58; refine K.out.mono ?_; rintro e wx ⟨rfl, rfl⟩)
        | (refine wpList_look_v HL.out (by exact ⟨_, _, rfl, rfl, rfl⟩) (by kernel_rfl) ?_))
      go_ret2
      exact ⟨rfl, rfl⟩
    · rw [hl]
      rw [e2] at HL
      obtain ⟨k0, kr, hk⟩ : ∃ k0 kr, T.kids t n s = k0 :: kr := by
        cases hk : T.kids t n s with
        | nil => exact absurd hk e1
        | cons a b => exact ⟨a, b, rfl⟩
      rw [hk] at HL e3 ⊢
      obtain ⟨gb, fo, rfl⟩ := e3.some_of (by simp)
      have c9 : w.cell? ⟨gb, fo, none⟩ = some (.int .i64 k0) := by
        have := e3.cell (j := 0) (u := .int .i64 k0) rfl
        exact this
      have hlen := e3.le.2
      simp only [List.length_cons] at HL hlen
      obtain ⟨ln, hln⟩ : ∃ ln, kr.length = ln := ⟨_, rfl⟩
      rw [hln] at HL hlen
      have L1 : ((ln + 1 : Nat) : Int) ≠ 0 := by omega
      have L2 : (((ln + 1 : Nat) : Int) == 0) = false := by simp; omega
      clear h hn hs h1 h2 h3 h4 h5 h6 h7 h8 e1 e2 hl hg hk e3 e4 hln
      simp only [Option.getD_some, List.head?_cons, Option.isSome_some] at HL ⊢
      go_enter Tryz.func24, Tryz.ntmps24
      go_wp2_with (first
        | (go_at_call 58; refine K.out.mono ?_; rintro e wx ⟨rfl, rfl⟩)
        | (refine wpList_look_v HL.out (by exact ⟨_, _, rfl, rfl, rfl⟩) (by kernel_rfl) ?_))
      go_ret2
      exact ⟨rfl, rfl⟩
end
end Go.Proofs.YtilbdpnioajkoaaGreat

namespace Go.Proofs.YtilbdpnioajkoaaGreat
open Go.RowKit
set_option linter.unusedVariables false
set_option maxRecDepth 100000
set_option linter.unusedSimpArgs false

set_option maxRecDepth 100000 in
set_option maxHeartbeats 1600000 in
theorem tbyte_any (s : ByteArray) (c : Int) (w : World) : Calls Tryz.prog 167 #[.string s, .int .u8 c] w fun e w' => e = .returned (.int .i64 (Lib.indexByte s.data.toList c.toNat.toUInt8)) ∧ w = w' := by
  go_enter Tryz.func167, Tryz.ntmps167
  go_wp2
  rw [run_callFunc_extern Tryz.func177 (by kernel_rfl) (by kernel_rfl) (by kernel_rfl) (e := Extern.BytealgIndexByte.indexByte) (by kernel_rfl), Lib.run_indexByteString]
  simp only [Result.andThen]
  rw [Oper.upon_value]
  go_wp2
  go_ret
  exact ⟨rfl, rfl⟩
set_option maxRecDepth 100000 in
set_option maxHeartbeats 1600000 in
theorem tslash_any (s : ByteArray) (w : World) : Calls Tryz.prog 144 #[.string s, .string ⟨#[47]⟩] w fun e w' => e = .returned (.int .i64 (Lib.indexByte s.data.toList 47)) ∧ w = w' := by
  have K : Hid (∀ w, Calls Tryz.prog 167 #[.string s, .int .u8 47] w fun e w' => e = .returned (.int .i64 (Lib.indexByte s.data.toList 47)) ∧ w = w') := hid (fun w => tbyte_any s 47 w)
  go_enter Tryz.func144, Tryz.ntmps144
  go_wp2_with (go_at_call 167; refine (K.out _).mono ?_; rintro e wx ⟨rfl, rfl⟩)
  · have h : ([47] == s.toList) = true := by assumption
    have e : s.data.toList = [47] := by rw [← Lib.toList_data]; exact (beq_iff_eq.1 h).symm
    go_ret
    exact ⟨ret_int (by rw [e]; rfl), rfl⟩
  · go_ret
    exact ⟨rfl, rfl⟩
theorem tindex_any (s : ByteArray) (w : World) : Calls Tryz.prog 116 #[.string s, .string ⟨#[47]⟩] w fun e w' => e = .returned (.int .i64 (Lib.indexByte s.data.toList 47)) ∧ w = w' := by
  have K := hid (tslash_any s)
  go_enter Tryz.func116, Tryz.ntmps116
  go_wp2_with (go_at_call 144; refine (K.out _).mono ?_; rintro e wx ⟨rfl, rfl⟩)
  go_ret
  exact ⟨rfl, rfl⟩
theorem T.slash_iff : ∀ l : List UInt8, 0 ≤ Lib.indexByte l 47 ↔ 47 ∈ l
  | [] => by simp [Lib.indexByte]
  | b :: l => by
    have ih := T.slash_iff l
    have hg := Lib.indexByte_ge l 47
    unfold Lib.indexByte
    by_cases h1 : (b == 47) = true
    · rw [if_pos h1]
      have : b = 47 := by simpa using h1
      simp [this]
    · rw [if_neg h1]
      have hb : ¬ 47 = b := fun e => h1 (by simp [← e])
      by_cases h2 : (Lib.indexByte l 47 == -1) = true
      · rw [if_pos h2]
        have h3 : Lib.indexByte l 47 = -1 := by simpa using h2
        have h4 : ¬ 47 ∈ l := fun h => by have := ih.2 h; omega
        simp [hb, h4]
      · rw [if_neg h2]
        have h3 : Lib.indexByte l 47 ≠ -1 := by simpa using h2
        have h4 : 47 ∈ l := ih.1 (by omega)
        simp [h4]
        omega
/-- has a text a slash? -/
def T.slash (s : ByteArray) : Bool := s.data.toList.contains 47
theorem tcontains_any (s : ByteArray) (w : World) : Calls Tryz.prog 96 #[.string s, .string ⟨#[47]⟩] w fun e w' => e = .returned (.bool (T.slash s)) ∧ w = w' := by
  have K := hid (tindex_any s)
  have hs : decide (0 ≤ Lib.indexByte s.data.toList 47) = T.slash s := by
    rw [Bool.eq_iff_iff, decide_eq_true_eq, T.slash_iff]
    simp [T.slash]
  rw [← hs]
  clear hs
  generalize Lib.indexByte s.data.toList 47 = x at K ⊢
  go_enter Tryz.func96, Tryz.ntmps96
  go_wp2_with (go_at_call 116; refine (K.out _).mono ?_; rintro e wx ⟨rfl, rfl⟩)
  go_ret
  exact ⟨rfl, rfl⟩
/-- may a text be a key? -/
def T.txt (s : ByteArray) : Bool := !s.toList.isEmpty && decide (s.size ≤ 255)
/-- may a text be a name? -/
def T.nam (s : ByteArray) : Bool := T.txt s && !(s.toList == [46]) && !(s.toList == [46, 46]) && !T.slash s
theorem fits_any (s : ByteArray) (w : World) : Calls Tryz.prog 69 #[.string s] w fun e w' => e = .returned (.bool (decide (s.size ≤ 255))) ∧ w = w' := by
  by_cases h : s.size ≤ 255
  · have h1 : (s.size : Int) ≤ (255 : Int) := by omega
    go_enter Tryz.func69, Tryz.ntmps69
    go_wp2
    go_ret
    exact ⟨ret_bool (by simp [h]), rfl⟩
  · have h1 : ¬ (s.size : Int) ≤ (255 : Int) := by omega
    go_enter Tryz.func69, Tryz.ntmps69
    go_wp2
    go_ret
    exact ⟨ret_bool (by simp [h]), rfl⟩
theorem isText_any (s : ByteArray) (w : World) : Calls Tryz.prog 68 #[.string s] w fun e w' => e = .returned (.bool (T.txt s)) ∧ w = w' := by
  have K := hid (fits_any s)
  unfold T.txt
  cases h0 : s.toList.isEmpty <;> cases h1 : decide (s.size ≤ 255) <;>
  · rw [h1] at K
    simp only [Bool.not_true, Bool.not_false, Bool.true_and, Bool.and_true, Bool.false_and, Bool.and_false]
    go_enter Tryz.func68, Tryz.ntmps68
    go_wp2_with (go_at_call 69; refine (K.out _).mono ?_; rintro e wx ⟨rfl, rfl⟩)
    all_goals (go_ret; exact ⟨by simp_all, rfl⟩)
set_option maxHeartbeats 1600000 in
theorem tname_any (s : ByteArray) (w : World) : Calls Tryz.prog 67 #[.string s] w fun e w' => e = .returned (.bool (T.nam s)) ∧ w = w' := by
  have K := hid (tcontains_any s)
  have KT := hid (isText_any s)
  unfold T.nam
  cases h0 : T.txt s <;> cases h1 : (s.toList == [46]) <;> cases h2 : (s.toList == [46, 46]) <;> cases h3 : T.slash s <;>
  · rw [h3] at K
    rw [h0] at KT
    simp only [Bool.not_true, Bool.not_false, Bool.true_and, Bool.and_true, Bool.false_and, Bool.and_false]
    go_enter Tryz.func67, Tryz.ntmps67
    go_wp2_with (first | (go_at_call 68; refine (KT.out _).mono ?_; rintro e wx ⟨rfl, rfl⟩) | (go_at_call 96; refine (K.out _).mono ?_; rintro e wx ⟨rfl, rfl⟩))
    all_goals (go_ret; exact ⟨by simp_all, rfl⟩)
end Go.Proofs.YtilbdpnioajkoaaGreat
