/-
  Plain trees: those under a node.
  The library's contracts on slices.BinarySearch and slices.Delete, laid at this dump.
  slices.BinarySearch and slices.Insert of a row of numbers.
  slices.Insert of one number into a row of numbers, wherever.
-/
import Derived.Test.YtilbdpnioajkoaaGreatMg4
import Derived.Test.YtilbdpnioajkoaaGreatRows
import Derived.WalkKit
import Derived.Shelf.SlicesG.SearchI
import Derived.Shelf.SlicesG.Delete
import Derived.Ground.SlgnProg
import Derived.Test.YtilbdpnioajkoaaGreatMg6
namespace Go.Proofs.YtilbdpnioajkoaaGreat
set_option linter.unusedVariables false
set_option maxRecDepth 100000
namespace T
/-- a list of numbers rises -/
def Rise (l : List Int) : Prop := l.Pairwise (· < ·)
def insI (n : Int) : List Int → List Int
  | [] => [n]
  | y :: r => if n < y then n :: y :: r else y :: insI n r
theorem mem_insI {n k : Int} : ∀ {l : List Int}, k ∈ insI n l ↔ k = n ∨ k ∈ l
  | [] => by simp [insI]
  | y :: r => by
    unfold insI
    split
    · simp
    · simp only [List.mem_cons, mem_insI (l := r)]
      constructor
      · rintro (h | h | h) <;> simp [h]
      · rintro (h | h | h) <;> simp [h]
theorem Rise.insI {n : Int} : ∀ {l : List Int}, Rise l → n ∉ l → Rise (T.insI n l)
  | [], _, _ => by simp [T.insI, Rise]
  | y :: r, h, hn => by
    unfold T.insI
    unfold Rise at h
    rw [List.pairwise_cons] at h
    split
    · rename_i hb
      exact List.pairwise_cons.2 ⟨fun k hk => by
        rcases List.mem_cons.1 hk with rfl | hk
        · exact hb
        · exact Int.lt_trans hb (h.1 k hk), List.pairwise_cons.2 h⟩
    · rename_i hb
      refine List.pairwise_cons.2 ⟨fun k hk => ?_, Rise.insI h.2 (fun h => hn (by simp [h]))⟩
      rcases mem_insI.1 hk with rfl | hk
      · have : k ≠ y := fun e => hn (by simp [e])
        omega
      · exact h.1 k hk
theorem rise_ext : ∀ {l m : List Int}, Rise l → Rise m → (∀ k, k ∈ l ↔ k ∈ m) → l = m
  | [], [], _, _, _ => rfl
  | [], y :: r, _, _, h => by have := (h y).2 (by simp); cases this
  | x :: r, [], _, _, h => by have := (h x).1 (by simp); cases this
  | x :: r, y :: s, hl, hm, h => by
    unfold Rise at hl hm
    rw [List.pairwise_cons] at hl hm
    have e : x = y := by
      rcases List.mem_cons.1 ((h x).1 (by simp)) with e | h1
      · exact e
      · rcases List.mem_cons.1 ((h y).2 (by simp)) with e | h2
        · exact e.symm
        · have a := hl.1 y h2
          have b := hm.1 x h1
          omega
    subst e
    rw [rise_ext hl.2 hm.2 (fun k => ⟨fun hk => ?_, fun hk => ?_⟩)]
    · rcases List.mem_cons.1 ((h k).1 (by simp [hk])) with rfl | h1
      · exact absurd (hl.1 k hk) (by omega)
      · exact h1
    · rcases List.mem_cons.1 ((h k).2 (by simp [hk])) with rfl | h1
      · exact absurd (hm.1 k hk) (by omega)
      · exact h1
theorem mem_kids {t : Tr} (ht : A.Up t) {m k : Int} {s : ByteArray} : k ∈ kids t m s ↔ 2 < k ∧ ∃ y, A.get k t = some y ∧ y.par = m ∧ y.nm = s := by
  unfold kids
  simp only [List.mem_map, List.mem_filter, Bool.and_eq_true, decide_eq_true_eq, beq_iff_eq]
  constructor
  · rintro ⟨⟨a, y⟩, ⟨h1, h2, h3, h4⟩, rfl⟩
    exact ⟨h2, y, A.get_of_mem ht h1, h3, h4⟩
  · rintro ⟨h2, y, h1, h3, h4⟩
    exact ⟨(k, y), ⟨A.get_mem h1, h2, h3, h4⟩, rfl⟩
theorem rise_kids {t : Tr} (ht : A.Up t) (m : Int) (s : ByteArray) : Rise (kids t m s) := by
  unfold kids Rise
  rw [List.pairwise_map]
  exact List.Pairwise.filter _ ht
theorem kids_len (t : Tr) (m : Int) (s : ByteArray) : (kids t m s).length ≤ t.length := by
  unfold kids
  rw [List.length_map]
  exact List.length_filter_le _ _
/-- a node comes to stand under another one -/
theorem kids_put {t : Tr} (ht : A.Up t) {n : Int} (hn : 2 < n) (x : Nd) {m : Int} (s : ByteArray) (hx : ∀ y, A.get n t = some y → y.par ≠ m) :
    kids (A.put n x t) m s = if m = x.par ∧ s = x.nm then insI n (kids t m s) else kids t m s := by
  have hnot : n ∉ kids t m s := fun h => by
    obtain ⟨_, y, h1, h2, _⟩ := (mem_kids ht).1 h
    exact hx y h1 h2
  have key : ∀ k, k ∈ kids (A.put n x t) m s ↔ (k = n ∧ m = x.par ∧ s = x.nm) ∨ k ∈ kids t m s := fun k => by
    rw [mem_kids (ht.put n x), mem_kids ht]
    by_cases e : k = n
    · subst e
      rw [A.get_put_same ht]
      constructor
      · rintro ⟨h1, y, h2, h3, h4⟩
        cases h2
        exact .inl ⟨rfl, h3.symm, h4.symm⟩
      · rintro (⟨_, h1, h2⟩ | ⟨h1, y, h2, h3, _⟩)
        · exact ⟨hn, x, rfl, h1.symm, h2.symm⟩
        · exact absurd h3 (hx y h2)
    · rw [A.get_put_other ht e]
      constructor
      · exact .inr
      · rintro (⟨h, _⟩ | h)
        · exact absurd h e
        · exact h
  by_cases e : m = x.par ∧ s = x.nm
  · rw [if_pos e]
    refine rise_ext (rise_kids (ht.put n x) m s) ((rise_kids ht m s).insI hnot) (fun k => ?_)
    rw [key, mem_insI]
    simp [e]
  · rw [if_neg e]
    refine rise_ext (rise_kids (ht.put n x) m s) (rise_kids ht m s) (fun k => ?_)
    rw [key]
    constructor
    · rintro (⟨_, h⟩ | h)
      · exact absurd h e
      · exact h
    · exact .inr
/-- .. and stands nowhere -/
theorem kids_loose {t : Tr} (ht : A.Up t) {n : Int} {x z : Nd} (hx : A.get n t = some x) (hz : z.par = 0) {m : Int} (hm : m ≠ 0) (s : ByteArray) :
    kids (A.put n z t) m s = (kids t m s).filter (fun k => !(k == n)) := by
  refine rise_ext (rise_kids (ht.put n z) m s) (List.Pairwise.filter _ (rise_kids ht m s)) (fun k => ?_)
  rw [mem_kids (ht.put n z), List.mem_filter, mem_kids ht]
  by_cases e : k = n
  · subst e
    rw [A.get_put_same ht]
    constructor
    · rintro ⟨_, y, h2, h3, _⟩
      cases h2
      exact absurd (hz.symm.trans h3).symm hm
    · rintro ⟨_, h⟩
      simp at h
  · rw [A.get_put_other ht e]
    simp [e]
theorem filter_not_mem {n : Int} {l : List Int} (h : n ∉ l) : l.filter (fun k => !(k == n)) = l := List.filter_eq_self.2 (fun k hk => by
  have : k ≠ n := fun e => h (e ▸ hk)
  simp [this])
end T
end Go.Proofs.YtilbdpnioajkoaaGreat

namespace Go.Proofs.YtilbdpnioajkoaaGreat
open Go.RowKit Go.Shelf
set_option linter.unusedVariables false

def Lsrch_ren : Go.Shelf.Ren := ⟨fun | 49 => 131 | 59 => 123 | 60 => 159 | 68 => 150 | n => n, fun | 22 => 100 | 23 => 2 | 3 => 3 | 4 => 4 | 51 => 161 | 0 => 0 | n => n, fun | n => n⟩
theorem Lsrch : Go.Proofs.SlLaysN.n49 Tryz.prog Lsrch_ren := {
  mixed := by kernel_rfl
  f49 := ⟨Tryz.f131.name, by decide, Tryz.func131.trans (congrArg some (by kernel_rfl))⟩
  f59 := ⟨Tryz.f123.name, by decide, Tryz.func123.trans (congrArg some (by kernel_rfl))⟩
  f60 := ⟨Tryz.f159.name, by decide, Tryz.func159.trans (congrArg some (by kernel_rfl))⟩
  f68 := ⟨Tryz.f150.name, by decide, Tryz.func150.trans (congrArg some (by kernel_rfl))⟩
  t0 := Tryz.underlying0
  a0 := Tryz.isAgg0
  z0 := Tryz.sizeOf0
  v0 := Tryz.zeroValue0
  t3 := Tryz.underlying3
  a3 := Tryz.isAgg3
  z3 := Tryz.sizeOf3
  v3 := Tryz.zeroValue3
  t4 := Tryz.underlying4
  a4 := Tryz.isAgg4
  z4 := Tryz.sizeOf4
  v4 := Tryz.zeroValue4
  t22 := Tryz.underlying100
  a22 := Tryz.isAgg100
  z22 := Tryz.sizeOf100
  v22 := Tryz.zeroValue100
  t23 := Tryz.underlying2
  a23 := Tryz.isAgg2
  z23 := Tryz.sizeOf2
  v23 := Tryz.zeroValue2
  t51 := Tryz.underlying161
  a51 := Tryz.isAgg161
  z51 := Tryz.sizeOf161
  v51 := Tryz.zeroValue161 }
def Ldelt_ren : Go.Shelf.Ren := ⟨fun | 45 => 162 | n => n, fun | 22 => 100 | 23 => 2 | 3 => 3 | 4 => 4 | 0 => 0 | n => n, fun | n => n⟩
theorem Ldelt : Go.Proofs.SlLaysN.n45 Tryz.prog Ldelt_ren := {
  mixed := by kernel_rfl
  f45 := ⟨Tryz.f162.name, by decide, Tryz.func162.trans (congrArg some (by kernel_rfl))⟩
  t0 := Tryz.underlying0
  a0 := Tryz.isAgg0
  z0 := Tryz.sizeOf0
  v0 := Tryz.zeroValue0
  t3 := Tryz.underlying3
  a3 := Tryz.isAgg3
  z3 := Tryz.sizeOf3
  v3 := Tryz.zeroValue3
  t4 := Tryz.underlying4
  a4 := Tryz.isAgg4
  z4 := Tryz.sizeOf4
  v4 := Tryz.zeroValue4
  t22 := Tryz.underlying100
  a22 := Tryz.isAgg100
  z22 := Tryz.sizeOf100
  v22 := Tryz.zeroValue100
  t23 := Tryz.underlying2
  a23 := Tryz.isAgg2
  z23 := Tryz.sizeOf2
  v23 := Tryz.zeroValue2
  i23 := by kernel_rfl }

end Go.Proofs.YtilbdpnioajkoaaGreat

namespace Go.Proofs.YtilbdpnioajkoaaGreat
open Go.RowKit Go.Maps
set_option linter.unusedVariables false
set_option maxRecDepth 100000
set_option linter.unusedSimpArgs false

namespace T
/-- how many of a list are below a number -/
def low (n : Int) (l : List Int) : Nat := l.countP (· < n)
theorem low_le (n : Int) (l : List Int) : low n l ≤ l.length := List.countP_le_length
theorem low_all {n : Int} : ∀ {l : List Int}, (∀ k ∈ l, n < k) → low n l = 0
  | [], _ => rfl
  | y :: r, h => by
    have h1 := h y (by simp)
    unfold low
    rw [List.countP_cons_of_neg (by simp; omega)]
    exact low_all (fun k hk => h k (by simp [hk]))
theorem insI_low {n : Int} : ∀ {l : List Int}, Rise l → n ∉ l → insI n l = l.take (low n l) ++ n :: l.drop (low n l)
  | [], _, _ => rfl
  | y :: r, h, hn => by
    unfold Rise at h
    rw [List.pairwise_cons] at h
    have hy : n ≠ y := fun e => hn (by simp [e])
    unfold insI
    by_cases hb : n < y
    · rw [if_pos hb, low_all (l := y :: r) (fun k hk => by
        rcases List.mem_cons.1 hk with rfl | hk
        · exact hb
        · exact Int.lt_trans hb (h.1 k hk))]
      rfl
    · rw [if_neg hb]
      have e : low n (y :: r) = low n r + 1 := by
        unfold low
        rw [List.countP_cons_of_pos (by simp; omega)]
      rw [e, List.take_succ_cons, List.drop_succ_cons, insI_low h.2 (fun h => hn (by simp [h]))]
      rfl
theorem length_insI (n : Int) : ∀ l : List Int, (insI n l).length = l.length + 1
  | [] => rfl
  | y :: r => by
    unfold insI
    split
    · rfl
    · simp [length_insI n r]
end T
theorem getD_cell {w : World} {g fo : Nat} {n c : Nat} {l : List Int} (h : Ro w 2 1 (some ⟨g, fo, none⟩) n c (l.map (Value.int .i64))) : ∀ j, j < l.length → w.cell? ⟨g, fo + j, none⟩ = some (.int .i64 (l.getD j 0)) := fun j hj => h.cell (j := j) (by
  rw [List.getElem?_map, List.getElem?_eq_getElem hj]
  simp [List.getD, List.getElem?_eq_getElem hj])
theorem tsearch_any (w : World) (a : Option Addr) (c : Nat) (l : List Int) (n : Int) (h : Ro w 2 1 a l.length c (l.map (Value.int .i64))) (hr : T.Rise l) (hl : l.length < 20000000000000) :
    Calls Tryz.prog 131 #[.slice a l.length c, .int .i64 n] w fun e w' => e = .returned (.tuple #[.int .i64 (T.low n l : Nat), .bool (l.contains n)]) ∧ Fr (fun _ => False) w w' := by
  cases a with
  | none =>
    have hz : l.length = 0 ∧ c = 0 := by
      rcases h.2 with ⟨_, h1, h2⟩ | ⟨g, o, cur, e, _⟩
      · exact ⟨h1, h2⟩
      · cases e
    have : l = [] := List.eq_nil_of_length_eq_zero hz.1
    subst this
    rw [hz.2]
    exact (search_nil n w).mono (fun e w' ⟨h1, h2⟩ => ⟨h1, h2 ▸ Fr.refl _ _⟩)
  | some a =>
    have ha : ∃ g fo, a = ⟨g, fo, none⟩ := by
      rcases h.2 with ⟨e, _⟩ | ⟨g, o, cur, e, _⟩
      · cases e
      · cases e; exact ⟨_, _, rfl⟩
    obtain ⟨g, fo, rfl⟩ := ha
    have := AnyG.slices_BinarySearch_int Lsrch g fo l.length c l n w (Nat.le_refl _) (by omega) (getD_cell h) (by rw [List.take_length]; exact hr.imp (fun h => Int.le_of_lt h))
    rw [List.take_length] at this
    refine (show Calls Tryz.prog 131 _ _ _ from this).mono (fun e w' ⟨h1, q, h2⟩ => ⟨h1, ?_⟩)
    rw [h2]
    exact Fr.drewN _ _
end Go.Proofs.YtilbdpnioajkoaaGreat

namespace Go.Proofs.YtilbdpnioajkoaaGreat
open Go.RowKit Go.Maps
set_option linter.unusedVariables false
set_option maxRecDepth 100000
set_option linter.unusedSimpArgs false

set_option maxHeartbeats 1600000 in
theorem insert_end (x : Int) (b : Nat) (w : World) (a : Option Addr) (n c : Nat) (xs : List Value) (h : Ro w 2 1 a n c xs) (hb : w.cell? ⟨b, 0, none⟩ = some (.int .i64 x)) (hl : n < 10000000000000) :
    Calls Tryz.prog 132 #[.slice a n c, .int .i64 n, .slice (some ⟨b, 0, none⟩) 1 1] w fun e w' => ∃ a' c', e = .returned (.slice a' (n + 1) c') ∧ Ro w' 2 1 a' (n + 1) c' (xs ++ [.int .i64 x]) ∧ Fr (fun j => blk a = some j) w w' ∧ (blk a' = blk a ∨ ∃ r, blk a' = some r ∧ w.heap.size ≤ r) := by
  obtain ⟨a', c', w', r, ro, fr, wh⟩ := append_i w 100 a n c xs h b 0 1 1 [.int .i64 x] rfl (fun j u hu => by
    cases j with
    | zero => cases hu; exact hb
    | succ j => simp at hu) (fun u hu => by simp at hu; subst hu; rfl) (by decide) (by omega)
  have FIN := hid (show Ro w' 2 1 a' (n + 1) c' (xs ++ [.int .i64 x]) ∧ Fr (fun j => blk a = some j) w w' ∧ (blk a' = blk a ∨ ∃ r, blk a' = some r ∧ w.heap.size ≤ r) from ⟨ro, fr, by
    rcases wh with ⟨h, _⟩ | ⟨h, _⟩
    · exact .inl (by rw [h])
    · exact .inr ⟨w.heap.size, by rw [h]; rfl, Nat.le_refl _⟩⟩)
  have R := hid r
  have hle := h.le
  have q1 : (n : Int) ≤ c := by omega
  clear r ro fr wh hb
  rcases h.2 with ⟨rfl, rfl, rfl⟩ | ⟨g, o, cur, rfl, _⟩
  · clear h hle q1
    go_enter Tryz.func132, Tryz.ntmps132
    go_wp2_with (refine wpList_append_eq _ _ rfl _ _ _ rfl _ _ _ rfl rfl R.out ?_)
    go_ret
    exact ⟨a', c', rfl, FIN.out⟩
  · clear h
    go_enter Tryz.func132, Tryz.ntmps132
    go_wp2_with (refine wpList_append_eq _ _ rfl _ _ _ rfl _ _ _ rfl rfl R.out ?_)
    all_goals (go_ret; exact ⟨a', c', rfl, FIN.out⟩)
theorem insert_any (x : Int) (b : Nat) (w : World) (a : Option Addr) (c : Nat) (l : List Int) (h : Ro w 2 1 a l.length c (l.map (Value.int .i64))) (tb : TypeId) (hb : w.heap[b]? = some (.cells #[.int .i64 x] tb (0, 0))) (hne : blk a ≠ some b) (i : Nat) (hi : i ≤ l.length) (hl : l.length < 10000000000000) :
    Calls Tryz.prog 132 #[.slice a l.length c, .int .i64 i, .slice (some ⟨b, 0, none⟩) 1 1] w fun e w' => ∃ a' c', e = .returned (.slice a' (l.length + 1) c') ∧ Ro w' 2 1 a' (l.length + 1) c' ((l.take i ++ x :: l.drop i).map (Value.int .i64)) ∧ Fr (fun j => blk a = some j) w w' ∧ (blk a' = blk a ∨ ∃ r, blk a' = some r ∧ w.heap.size ≤ r) := by
  by_cases he : i = l.length
  · subst he
    refine (insert_end x b w a l.length c _ h (cellA (j := 0) hb rfl) hl).mono ?_
    rintro e w' ⟨a', c', h1, h2, h3⟩
    refine ⟨a', c', h1, ?_, h3⟩
    rw [List.take_length, List.drop_length, List.map_append]
    exact h2
  · have hil : i < l.length := by omega
    rcases h.2 with ⟨rfl, h0, _⟩ | ⟨g, o, cur, rfl, hg, hn, hmx, hcs, htk⟩
    · omega
    · simp only [Nat.mul_one] at hcs htk hne ⊢
      obtain ⟨y, X2, hd⟩ : ∃ y X2, (l.map (Value.int .i64)).drop i = y :: X2 := by
        cases hd : (l.map (Value.int .i64)).drop i with
        | nil => have := congrArg List.length hd; simp at this; omega
        | cons a b => exact ⟨a, b, rfl⟩
      have h1 : ∀ v ∈ y :: X2, v.oneCell' = true := fun v hv => by
        rw [← hd] at hv
        obtain ⟨z, _, rfl⟩ := List.mem_map.1 (List.mem_of_mem_drop hv)
        rfl
      have hX1 : ((l.map (Value.int .i64)).take i).length = i := by simp; omega
      have hX2 : X2.length + 1 = l.length - i := by have := congrArg List.length hd; simp at this; omega
      have hPl : (cur.toList.take o).length = o := by rw [List.length_take, Array.length_toList]; omega
      have hsplit : (l.map (Value.int .i64)) = (l.map (Value.int .i64)).take i ++ y :: X2 := by rw [← hd, List.take_append_drop]
      have hcur : cur.toList = cur.toList.take o ++ (l.map (Value.int .i64)).take i ++ y :: X2 ++ cur.toList.drop (o + l.length) := by
        rw [List.append_assoc (cur.toList.take o), ← hsplit, ← htk, List.append_assoc]
        rw [show cur.toList.drop (o + l.length) = (cur.toList.drop o).drop l.length by rw [List.drop_drop], List.take_append_drop, List.take_append_drop]
      have hfin : ((l.take i ++ x :: l.drop i).map (Value.int .i64)) = (l.map (Value.int .i64)).take i ++ .int .i64 x :: y :: X2 := by
        rw [List.map_append, List.map_cons, List.map_take, ← hd, List.map_drop]
      by_cases hr : l.length + 1 ≤ c
      · obtain ⟨r, R, hR⟩ : ∃ r R, cur.toList.drop (o + l.length) = r :: R := by
          cases hd : cur.toList.drop (o + l.length) with
          | nil => have := congrArg List.length hd; rw [List.length_drop, Array.length_toList] at this; simp at this; omega
          | cons a b => exact ⟨a, b, rfl⟩
        have hRl : R.length + 1 = c - l.length := by have := congrArg List.length hR; rw [List.length_drop, Array.length_toList] at this; simp at this; omega
        rw [hR] at hcur
        have hcur2 : cur = (cur.toList.take o ++ (l.map (Value.int .i64)).take i ++ y :: X2 ++ r :: R).toArray := by rw [← hcur]
        rw [hcur2] at hg
        have key := insert_room x b w g c (cur.toList.take o) ((l.map (Value.int .i64)).take i) X2 R y r tb hg hb (fun e => hne (by rw [e]; rfl)) h1 (by omega) (by unfold maxLen at hmx; omega)
        rw [hX1, hPl, show i + X2.length + 1 = l.length by omega] at key
        refine key.mono ?_
        rintro e w' ⟨k1, k2, k3⟩
        refine ⟨_, c, k1, ?_, k3.mono (fun j _ e => by rw [e]; rfl), .inl rfl⟩
        refine ⟨by simp; omega, .inr ⟨g, o, _, by rw [Nat.mul_one], k2, hr, hmx, ?_, ?_⟩⟩
        · simp only [List.size_toArray, List.length_append, List.length_cons, hPl, hX1]
          omega
        · rw [hfin]
          simp only [Nat.mul_one, List.toList_toArray, List.append_assoc]
          rw [List.drop_left' hPl, ← List.append_assoc]
          exact List.take_left' (by simp only [List.length_append, List.length_cons, hX1]; omega)
      · have hcl : c = l.length := by omega
        have hdn : cur.toList.drop (o + l.length) = [] := List.drop_eq_nil_of_le (by rw [Array.length_toList]; omega)
        rw [hdn, List.append_nil] at hcur
        have hcur2 : cur = (cur.toList.take o ++ (l.map (Value.int .i64)).take i ++ y :: X2).toArray := by rw [← hcur]
        rw [hcur2] at hg
        have key := insert_grow x b w g c (cur.toList.take o) ((l.map (Value.int .i64)).take i) X2 y tb hg hb h1 (by omega) (by omega)
        rw [hX1, hPl, show i + X2.length + 1 = l.length by omega] at key
        refine key.mono ?_
        rintro e w' ⟨c', R, k1, k2, k3, k4, k5⟩
        refine ⟨_, c', k1, ?_, k5.mono (fun _ _ h => h.elim), .inr ⟨_, rfl, Nat.le_refl _⟩⟩
        refine ⟨by simp; omega, .inr ⟨w.heap.size, 0, _, by simp, k2, by omega, k4, ?_, ?_⟩⟩
        · simp only [List.size_toArray, List.length_append, List.length_cons, hX1]
          omega
        · rw [hfin]
          simp only [Nat.zero_mul, Nat.mul_one, List.toList_toArray, List.drop_zero, List.append_assoc]
          rw [show (l.map (Value.int .i64)).take i ++ (.int .i64 x :: y :: X2 ++ R) = ((l.map (Value.int .i64)).take i ++ .int .i64 x :: y :: X2) ++ R by simp]
          exact List.take_left' (by simp only [List.length_append, List.length_cons, hX1]; omega)
end Go.Proofs.YtilbdpnioajkoaaGreat
