/-
  The library's contracts on slices.BinarySearch and slices.Delete, laid at this dump.
  slices.BinarySearch and slices.Insert of a row of numbers.
  slices.Insert of one number into a row of numbers, wherever.
  A node comes under another one: take.
-/
import Derived.Test.YtilbdpnioajkoaaGreatRows
import Derived.WalkKit
import Derived.Shelf.SlicesG.SearchI
import Derived.Shelf.SlicesG.Delete
import Derived.Ground.SlgnProg
import Derived.Test.YtilbdpnioajkoaaGreatMg9
import Derived.Test.YtilbdpnioajkoaaGreatMg6
namespace Go.Proofs.YtilbdpnioajkoaaGreat
open Go.RowKit Go.Shelf
set_option linter.unusedVariables false

def Lsrch_ren : Go.Shelf.Ren := ⟨fun | 49 => 131 | 59 => 123 | 60 => 159 | 68 => 150 | n => n, fun | 22 => 100 | 23 => 2 | 3 => 3 | 4 => 4 | 51 => 161 | 0 => 0 | n => n, fun | n => n⟩
theorem Lsrch : Go.Proofs.SlLaysN.n49 Tryz.prog Lsrch_ren := {
  mixed := by kernel_rfl
  f49 := ⟨Tryz.f131.name, by decide, Tryz.func131.trans (congrArg some (by kernel_rfl))⟩
  f59 := ⟨Tryz.f123.name, by decide, Tryz.func123.trans (congrArg some (by kernel_rfl))⟩
  f60 := ⟨Tryz.f159.name, by decide, Tryz.func159.trans (congrArg some (by kernel_rfl))⟩
  f68 := ⟨Tryz.f150.name, by decide, Tryz.func150.trans (congrArg some (by kernel_rfl))⟩
  t0 := Tryz.underlying0
  a0 := Tryz.isAgg0
  z0 := Tryz.sizeOf0
  v0 := Tryz.zeroValue0
  t3 := Tryz.underlying3
  a3 := Tryz.isAgg3
  z3 := Tryz.sizeOf3
  v3 := Tryz.zeroValue3
  t4 := Tryz.underlying4
  a4 := Tryz.isAgg4
  z4 := Tryz.sizeOf4
  v4 := Tryz.zeroValue4
  t22 := Tryz.underlying100
  a22 := Tryz.isAgg100
  z22 := Tryz.sizeOf100
  v22 := Tryz.zeroValue100
  t23 := Tryz.underlying2
  a23 := Tryz.isAgg2
  z23 := Tryz.sizeOf2
  v23 := Tryz.zeroValue2
  t51 := Tryz.underlying161
  a51 := Tryz.isAgg161
  z51 := Tryz.sizeOf161
  v51 := Tryz.zeroValue161 }
def Ldelt_ren : Go.Shelf.Ren := ⟨fun | 45 => 162 | n => n, fun | 22 => 100 | 23 => 2 | 3 => 3 | 4 => 4 | 0 => 0 | n => n, fun | n => n⟩
theorem Ldelt : Go.Proofs.SlLaysN.n45 Tryz.prog Ldelt_ren := {
  mixed := by kernel_rfl
  f45 := ⟨Tryz.f162.name, by decide, Tryz.func162.trans (congrArg some (by kernel_rfl))⟩
  t0 := Tryz.underlying0
  a0 := Tryz.isAgg0
  z0 := Tryz.sizeOf0
  v0 := Tryz.zeroValue0
  t3 := Tryz.underlying3
  a3 := Tryz.isAgg3
  z3 := Tryz.sizeOf3
  v3 := Tryz.zeroValue3
  t4 := Tryz.underlying4
  a4 := Tryz.isAgg4
  z4 := Tryz.sizeOf4
  v4 := Tryz.zeroValue4
  t22 := Tryz.underlying100
  a22 := Tryz.isAgg100
  z22 := Tryz.sizeOf100
  v22 := Tryz.zeroValue100
  t23 := Tryz.underlying2
  a23 := Tryz.isAgg2
  z23 := Tryz.sizeOf2
  v23 := Tryz.zeroValue2
  i23 := by kernel_rfl }

end Go.Proofs.YtilbdpnioajkoaaGreat

namespace Go.Proofs.YtilbdpnioajkoaaGreat
open Go.RowKit Go.Maps
set_option linter.unusedVariables false
set_option maxRecDepth 100000
set_option linter.unusedSimpArgs false

namespace T
/-- how many of a list are below a number -/
def low (n : Int) (l : List Int) : Nat := l.countP (· < n)
theorem low_le (n : Int) (l : List Int) : low n l ≤ l.length := List.countP_le_length
theorem low_all {n : Int} : ∀ {l : List Int}, (∀ k ∈ l, n < k) → low n l = 0
  | [], _ => rfl
  | y :: r, h => by
    have h1 := h y (by simp)
    unfold low
    rw [List.countP_cons_of_neg (by simp; omega)]
    exact low_all (fun k hk => h k (by simp [hk]))
theorem insI_low {n : Int} : ∀ {l : List Int}, Rise l → n ∉ l → insI n l = l.take (low n l) ++ n :: l.drop (low n l)
  | [], _, _ => rfl
  | y :: r, h, hn => by
    unfold Rise at h
    rw [List.pairwise_cons] at h
    have hy : n ≠ y := fun e => hn (by simp [e])
    unfold insI
    by_cases hb : n < y
    · rw [if_pos hb, low_all (l := y :: r) (fun k hk => by
        rcases List.mem_cons.1 hk with rfl | hk
        · exact hb
        · exact Int.lt_trans hb (h.1 k hk))]
      rfl
    · rw [if_neg hb]
      have e : low n (y :: r) = low n r + 1 := by
        unfold low
        rw [List.countP_cons_of_pos (by simp; omega)]
      rw [e, List.take_succ_cons, List.drop_succ_cons, insI_low h.2 (fun h => hn (by simp [h]))]
      rfl
theorem length_insI (n : Int) : ∀ l : List Int, (insI n l).length = l.length + 1
  | [] => rfl
  | y :: r => by
    unfold insI
    split
    · rfl
    · simp [length_insI n r]
end T
theorem getD_cell {w : World} {g fo : Nat} {n c : Nat} {l : List Int} (h : Ro w 2 1 (some ⟨g, fo, none⟩) n c (l.map (Value.int .i64))) : ∀ j, j < l.length → w.cell? ⟨g, fo + j, none⟩ = some (.int .i64 (l.getD j 0)) := fun j hj => h.cell (j := j) (by
  rw [List.getElem?_map, List.getElem?_eq_getElem hj]
  simp [List.getD, List.getElem?_eq_getElem hj])
theorem tsearch_any (w : World) (a : Option Addr) (c : Nat) (l : List Int) (n : Int) (h : Ro w 2 1 a l.length c (l.map (Value.int .i64))) (hr : T.Rise l) (hl : l.length < 20000000000000) :
    Calls Tryz.prog 131 #[.slice a l.length c, .int .i64 n] w fun e w' => e = .returned (.tuple #[.int .i64 (T.low n l : Nat), .bool (l.contains n)]) ∧ Fr (fun _ => False) w w' := by
  cases a with
  | none =>
    have hz : l.length = 0 ∧ c = 0 := by
      rcases h.2 with ⟨_, h1, h2⟩ | ⟨g, o, cur, e, _⟩
      · exact ⟨h1, h2⟩
      · cases e
    have : l = [] := List.eq_nil_of_length_eq_zero hz.1
    subst this
    rw [hz.2]
    exact (search_nil n w).mono (fun e w' ⟨h1, h2⟩ => ⟨h1, h2 ▸ Fr.refl _ _⟩)
  | some a =>
    have ha : ∃ g fo, a = ⟨g, fo, none⟩ := by
      rcases h.2 with ⟨e, _⟩ | ⟨g, o, cur, e, _⟩
      · cases e
      · cases e; exact ⟨_, _, rfl⟩
    obtain ⟨g, fo, rfl⟩ := ha
    have := AnyG.slices_BinarySearch_int Lsrch g fo l.length c l n w (Nat.le_refl _) (by omega) (getD_cell h) (by rw [List.take_length]; exact hr.imp (fun h => Int.le_of_lt h))
    rw [List.take_length] at this
    refine (show Calls Tryz.prog 131 _ _ _ from this).mono (fun e w' ⟨h1, q, h2⟩ => ⟨h1, ?_⟩)
    rw [h2]
    exact Fr.drewN _ _
end Go.Proofs.YtilbdpnioajkoaaGreat

namespace Go.Proofs.YtilbdpnioajkoaaGreat
open Go.RowKit Go.Maps
set_option linter.unusedVariables false
set_option maxRecDepth 100000
set_option linter.unusedSimpArgs false

set_option maxHeartbeats 1600000 in
theorem insert_end (x : Int) (b : Nat) (w : World) (a : Option Addr) (n c : Nat) (xs : List Value) (h : Ro w 2 1 a n c xs) (hb : w.cell? ⟨b, 0, none⟩ = some (.int .i64 x)) (hl : n < 10000000000000) :
    Calls Tryz.prog 132 #[.slice a n c, .int .i64 n, .slice (some ⟨b, 0, none⟩) 1 1] w fun e w' => ∃ a' c', e = .returned (.slice a' (n + 1) c') ∧ Ro w' 2 1 a' (n + 1) c' (xs ++ [.int .i64 x]) ∧ Fr (fun j => blk a = some j) w w' ∧ (blk a' = blk a ∨ ∃ r, blk a' = some r ∧ w.heap.size ≤ r) := by
  obtain ⟨a', c', w', r, ro, fr, wh⟩ := append_i w 100 a n c xs h b 0 1 1 [.int .i64 x] rfl (fun j u hu => by
    cases j with
    | zero => cases hu; exact hb
    | succ j => simp at hu) (fun u hu => by simp at hu; subst hu; rfl) (by decide) (by omega)
  have FIN := hid (show Ro w' 2 1 a' (n + 1) c' (xs ++ [.int .i64 x]) ∧ Fr (fun j => blk a = some j) w w' ∧ (blk a' = blk a ∨ ∃ r, blk a' = some r ∧ w.heap.size ≤ r) from ⟨ro, fr, by
    rcases wh with ⟨h, _⟩ | ⟨h, _⟩
    · exact .inl (by rw [h])
    · exact .inr ⟨w.heap.size, by rw [h]; rfl, Nat.le_refl _⟩⟩)
  have R := hid r
  have hle := h.le
  have q1 : (n : Int) ≤ c := by omega
  clear r ro fr wh hb
  rcases h.2 with ⟨rfl, rfl, rfl⟩ | ⟨g, o, cur, rfl, _⟩
  · clear h hle q1
    go_enter Tryz.func132, Tryz.ntmps132
    go_wp2_with (refine wpList_append_eq _ _ rfl _ _ _ rfl _ _ _ rfl rfl R.out ?_)
    go_ret
    exact ⟨a', c', rfl, FIN.out⟩
  · clear h
    go_enter Tryz.func132, Tryz.ntmps132
    go_wp2_with (refine wpList_append_eq _ _ rfl _ _ _ rfl _ _ _ rfl rfl R.out ?_)
    all_goals (go_ret; exact ⟨a', c', rfl, FIN.out⟩)
theorem insert_any (x : Int) (b : Nat) (w : World) (a : Option Addr) (c : Nat) (l : List Int) (h : Ro w 2 1 a l.length c (l.map (Value.int .i64))) (tb : TypeId) (hb : w.heap[b]? = some (.cells #[.int .i64 x] tb (0, 0))) (hne : blk a ≠ some b) (i : Nat) (hi : i ≤ l.length) (hl : l.length < 10000000000000) :
    Calls Tryz.prog 132 #[.slice a l.length c, .int .i64 i, .slice (some ⟨b, 0, none⟩) 1 1] w fun e w' => ∃ a' c', e = .returned (.slice a' (l.length + 1) c') ∧ Ro w' 2 1 a' (l.length + 1) c' ((l.take i ++ x :: l.drop i).map (Value.int .i64)) ∧ Fr (fun j => blk a = some j) w w' ∧ (blk a' = blk a ∨ ∃ r, blk a' = some r ∧ w.heap.size ≤ r) := by
  by_cases he : i = l.length
  · subst he
    refine (insert_end x b w a l.length c _ h (cellA (j := 0) hb rfl) hl).mono ?_
    rintro e w' ⟨a', c', h1, h2, h3⟩
    refine ⟨a', c', h1, ?_, h3⟩
    rw [List.take_length, List.drop_length, List.map_append]
    exact h2
  · have hil : i < l.length := by omega
    rcases h.2 with ⟨rfl, h0, _⟩ | ⟨g, o, cur, rfl, hg, hn, hmx, hcs, htk⟩
    · omega
    · simp only [Nat.mul_one] at hcs htk hne ⊢
      obtain ⟨y, X2, hd⟩ : ∃ y X2, (l.map (Value.int .i64)).drop i = y :: X2 := by
        cases hd : (l.map (Value.int .i64)).drop i with
        | nil => have := congrArg List.length hd; simp at this; omega
        | cons a b => exact ⟨a, b, rfl⟩
      have h1 : ∀ v ∈ y :: X2, v.oneCell' = true := fun v hv => by
        rw [← hd] at hv
        obtain ⟨z, _, rfl⟩ := List.mem_map.1 (List.mem_of_mem_drop hv)
        rfl
      have hX1 : ((l.map (Value.int .i64)).take i).length = i := by simp; omega
      have hX2 : X2.length + 1 = l.length - i := by have := congrArg List.length hd; simp at this; omega
      have hPl : (cur.toList.take o).length = o := by rw [List.length_take, Array.length_toList]; omega
      have hsplit : (l.map (Value.int .i64)) = (l.map (Value.int .i64)).take i ++ y :: X2 := by rw [← hd, List.take_append_drop]
      have hcur : cur.toList = cur.toList.take o ++ (l.map (Value.int .i64)).take i ++ y :: X2 ++ cur.toList.drop (o + l.length) := by
        rw [List.append_assoc (cur.toList.take o), ← hsplit, ← htk, List.append_assoc]
        rw [show cur.toList.drop (o + l.length) = (cur.toList.drop o).drop l.length by rw [List.drop_drop], List.take_append_drop, List.take_append_drop]
      have hfin : ((l.take i ++ x :: l.drop i).map (Value.int .i64)) = (l.map (Value.int .i64)).take i ++ .int .i64 x :: y :: X2 := by
        rw [List.map_append, List.map_cons, List.map_take, ← hd, List.map_drop]
      by_cases hr : l.length + 1 ≤ c
      · obtain ⟨r, R, hR⟩ : ∃ r R, cur.toList.drop (o + l.length) = r :: R := by
          cases hd : cur.toList.drop (o + l.length) with
          | nil => have := congrArg List.length hd; rw [List.length_drop, Array.length_toList] at this; simp at this; omega
          | cons a b => exact ⟨a, b, rfl⟩
        have hRl : R.length + 1 = c - l.length := by have := congrArg List.length hR; rw [List.length_drop, Array.length_toList] at this; simp at this; omega
        rw [hR] at hcur
        have hcur2 : cur = (cur.toList.take o ++ (l.map (Value.int .i64)).take i ++ y :: X2 ++ r :: R).toArray := by rw [← hcur]
        rw [hcur2] at hg
        have key := insert_room x b w g c (cur.toList.take o) ((l.map (Value.int .i64)).take i) X2 R y r tb hg hb (fun e => hne (by rw [e]; rfl)) h1 (by omega) (by unfold maxLen at hmx; omega)
        rw [hX1, hPl, show i + X2.length + 1 = l.length by omega] at key
        refine key.mono ?_
        rintro e w' ⟨k1, k2, k3⟩
        refine ⟨_, c, k1, ?_, k3.mono (fun j _ e => by rw [e]; rfl), .inl rfl⟩
        refine ⟨by simp; omega, .inr ⟨g, o, _, by rw [Nat.mul_one], k2, hr, hmx, ?_, ?_⟩⟩
        · simp only [List.size_toArray, List.length_append, List.length_cons, hPl, hX1]
          omega
        · rw [hfin]
          simp only [Nat.mul_one, List.toList_toArray, List.append_assoc]
          rw [List.drop_left' hPl, ← List.append_assoc]
          exact List.take_left' (by simp only [List.length_append, List.length_cons, hX1]; omega)
      · have hcl : c = l.length := by omega
        have hdn : cur.toList.drop (o + l.length) = [] := List.drop_eq_nil_of_le (by rw [Array.length_toList]; omega)
        rw [hdn, List.append_nil] at hcur
        have hcur2 : cur = (cur.toList.take o ++ (l.map (Value.int .i64)).take i ++ y :: X2).toArray := by rw [← hcur]
        rw [hcur2] at hg
        have key := insert_grow x b w g c (cur.toList.take o) ((l.map (Value.int .i64)).take i) X2 y tb hg hb h1 (by omega) (by omega)
        rw [hX1, hPl, show i + X2.length + 1 = l.length by omega] at key
        refine key.mono ?_
        rintro e w' ⟨c', R, k1, k2, k3, k4, k5⟩
        refine ⟨_, c', k1, ?_, k5.mono (fun _ _ h => h.elim), .inr ⟨_, rfl, Nat.le_refl _⟩⟩
        refine ⟨by simp; omega, .inr ⟨w.heap.size, 0, _, by simp, k2, by omega, k4, ?_, ?_⟩⟩
        · simp only [List.size_toArray, List.length_append, List.length_cons, hX1]
          omega
        · rw [hfin]
          simp only [Nat.zero_mul, Nat.mul_one, List.toList_toArray, List.drop_zero, List.append_assoc]
          rw [show (l.map (Value.int .i64)).take i ++ (.int .i64 x :: y :: X2 ++ R) = ((l.map (Value.int .i64)).take i ++ .int .i64 x :: y :: X2) ++ R by simp]
          exact List.take_left' (by simp only [List.length_append, List.length_cons, hX1]; omega)
end Go.Proofs.YtilbdpnioajkoaaGreat

namespace Go.Proofs.YtilbdpnioajkoaaGreat
open Go.RowKit Go.Maps
set_option linter.unusedVariables false
set_option maxRecDepth 100000
set_option linter.unusedSimpArgs false

theorem take_done2 {c : Nat → Option T.Col} {W w9 w10 : World} {bud b ub : Nat} {k : Int} {x : T.Nd} {ks : ByteArray → List Int} {av : Option Nat} {g : ByteArray → Option Value} {m cap : Nat} {a a' : Option Addr} {l : List Int} {s : ByteArray} (hN : Nf c W bud b k x ks av (some ub) g m) (hl : Lo c W.heap.size) (hl0 : l ≠ []) (hca : ∀ i, blk a = some i → c i = some (.row k s))
    (F9 : Fr (fun i => blk a = some i) W w9) (f10 : Fr (fun i => i = ub) w9 w10) (ro : Ro w9 2 1 a' l.length cap (l.map (Value.int .i64))) (hr : blk a' = blk a ∨ ∃ r, blk a' = some r ∧ W.heap.size ≤ r) (mp : Mp 9 litS w10 ub (at_ g s (some (.slice a' l.length cap))) (if (g s).isSome then m else m + 1)) :
    ∃ c', More c c' W.heap.size ∧ Lo c' w10.heap.size ∧ Nm c' w10 (bud + 1) b k x (fun y => if y = s then l else ks y) := by
  have hub : ub < W.heap.size := hl ub (by rw [hN.cu ub rfl]; simp)
  obtain ⟨r, hr1⟩ : ∃ r, blk a' = some r := by
    obtain ⟨g, fo, e⟩ := ro.some_of (by cases l with | nil => exact absurd rfl hl0 | cons a b => simp)
    rw [e]
    exact ⟨g, rfl⟩
  have hrl : r < w9.heap.size := ro.lt r hr1
  have hrc : c r = some (.row k s) ∨ W.heap.size ≤ r := by
    rcases hr with h | ⟨r', h, h2⟩
    · exact .inl (hca r (by rw [← h]; exact hr1))
    · rw [hr1] at h; cases h; exact .inr h2
  have hru : r ≠ ub := fun e => by
    rcases hrc with h | h
    · rw [e, hN.cu ub rfl] at h; cases h
    · omega
  have hc : ∀ i col, c i = some col → (fun i => if i = r then some (T.Col.row k s) else c i) i = some col := fun i col e => by
    by_cases e2 : i = r
    · simp only [if_pos e2]
      rcases hrc with h | h
      · rw [e2, h] at e; exact e
      · have := hl i (by rw [e]; simp); omega
    · simp only [if_neg e2]
      exact e
  have fW : Fr (fun i => i = ub ∨ blk a = some i) W w10 := (F9.mono (fun _ _ h => .inr h)).trans f10 (fun _ _ h => .inl h)
  refine ⟨fun i => if i = r then some (.row k s) else c i, fun i hi => ?_, fun i hi => ?_, av, some ub, _, _, hN.turned rfl (l := l) (o := some (.slice a' l.length cap)) fW (fun i col e _ hne hne2 e2 => ?_) hc mp ?_ ?_⟩
  · by_cases e : i = r
    · simp only [if_pos e]
      rcases hrc with h | h
      · rw [e, h]
      · omega
    · simp only [if_neg e]
  · by_cases e : i = r
    · have := f10.size; omega
    · simp only [if_neg e] at hi
      have h1 := hl i hi
      have h2 := F9.size
      have h3 := f10.size
      omega
  · rcases e2 with e2 | e2
    · subst e2
      rw [hN.cu i rfl] at e
      cases e
      exact hne rfl
    · rw [hca i e2] at e
      cases e
      exact hne2 rfl
  · have := hN.few
    split <;> omega
  · refine .inr ⟨hl0, _, _, rfl, ro.kept f10 (fun j hj e => ?_), fun i hi => ?_⟩
    · rw [hr1] at hj; cases hj; exact hru e
    · rw [hr1] at hi; cases hi
      simp
set_option maxHeartbeats 3200000 in
theorem take_any {c : Nat → Option T.Col} {w : World} {bud b : Nat} {k : Int} {x : T.Nd} {ks : ByteArray → List Int} (h : Nm c w bud b k x ks) (hl : Lo c w.heap.size) (hb : bud < 1000000000000000000) (n : Int) {s : ByteArray} (hs : s.size ≤ maxLen) (hr : T.Rise (ks s)) (hn : n ∉ ks s) (hlen : (ks s).length < 10000000000000) :
    Calls Tryz.prog 107 #[ptr b, .int .i64 n, .string s] w fun e w' => e = .returned (.tuple #[]) ∧ Fr (T.Mine c k) w w' ∧ ∃ c', More c c' w.heap.size ∧ Lo c' w'.heap.size ∧ Nm c' w' (bud + 1) b k x (fun y => if y = s then T.insI n (ks s) else ks y) := by
  by_cases hk : ks s = []
  · have := take_first h hl hb n hs hk
    rw [hk]
    exact this
  obtain ⟨av, uv, g, m, hN⟩ := h
  obtain ⟨a, cap, hga, hRo, hca⟩ : ∃ a cap, (g s).getD (.slice none 0 0) = .slice a (ks s).length cap ∧ Ro w 2 1 a (ks s).length cap ((ks s).map (Value.int .i64)) ∧ ∀ i, blk a = some i → c i = some (.row k s) := by
    rcases hN.row s with ⟨h1, h2⟩ | ⟨h1, a, cap, h2, h3, h4⟩
    · exact ⟨none, 0, by rw [h2, h1]; rfl, by rw [h1]; exact Ro.nil _ _ _, fun i e => by cases e⟩
    · exact ⟨a, cap, by rw [h2]; rfl, h3, h4⟩
  have hins := T.insI_low hr hn
  have hne0 : T.insI n (ks s) ≠ [] := fun e => by have := T.length_insI n (ks s); rw [e] at this; simp at this
  have hil := T.length_insI n (ks s)
  have HM := hid (show m ≤ 1000000000000000000 by have := hN.few; omega)
  have hmm := @run_makeMap Tryz.prog
  have q : ∀ r : Option Nat, ∀ w, (binOp .eql 78 (.map r) (.map none)).run Tryz.prog w = .ok (.bool r.isNone) w := fun r w => run_eql_map_nil w _ _ _ r Tryz.underlying78
  cases uv with
  | some ub =>
    have hne : b ≠ ub := fun e => by have := hN.cb; rw [e, hN.cu ub rfl] at this; cases this
    have hba : blk a ≠ some b := fun e => by have := hca b e; rw [hN.cb] at this; cases this
    have HUA := hid (show ¬ (blk a = some ub) from fun e => by have := hca ub e; rw [hN.cu ub rfl] at this; cases this)
    have HC := hid (show ∀ V, Fr (fun i => i = ub ∨ blk a = some i) w V → V.cell? ⟨b, 3, none⟩ = some (.map (some ub)) from fun V hf => cellA (j := 3) (hf.cells hN.cells (fun e => e.elim hne hba)) rfl)
    have c3 := HC.out w (Fr.refl _ _)
    have MP : Hid (Mp 9 litS w ub g m) := hid hN.und
    have HL := hid (hN.und.look keyS Tryz.underlying78 (zeroRow w) (keyOfS hs))
    rw [hga] at HL
    have KS := hid (tsearch_any w a cap (ks s) n hRo hr (by omega))
    have halt : ∀ i, blk a = some i → i < w.heap.size := hRo.lt
    have KI := hid (fun (w1 : World) (f1 : Fr (fun _ => False) w w1) => fun (V : World) (fV : Fr (fun _ => False) w1 V) (B : Nat) (hB : V.heap[B]? = some (.cells #[.int .i64 n] 2 (0, 0))) (hBa : blk a ≠ some B) => insert_any n B V a cap (ks s) (hRo.kept (f1.trans fV (fun _ _ h => h)) (fun _ _ h => h)) 2 hB hBa (T.low n (ks s)) (T.low_le _ _) hlen)
    have HN := hid hN
    have HLO := hid hl
    have HIL := hid hil
    have HINS := hid hins
    have HNE := hid hne0
    have HCA := hid hca
    have HALT := hid halt
    have HLEN := hid hlen
    clear hN hl hb hk hil hins hne0 hca halt hRo hga hr hn hne hba hlen
    go_enter Tryz.func107, Tryz.ntmps107
    go_wp2_with (first
      | (refine wpList_look_v HL.out (by exact ⟨_, _, rfl, rfl, rfl⟩) (by kernel_rfl) ?_)
      | (go_at_call 131; refine KS.out.mono ?_; rintro e w1 ⟨rfl, fx1⟩; have FX1 := hid fx1; clear fx1))
    have HN1 := hid (HN.out.kept FX1.out (fun _ _ _ _ h => h))
    have HLO1 := hid (show Lo c w1.heap.size from fun i hi => Nat.lt_of_lt_of_le (HLO.out i hi) FX1.out.size)
    have HC1 := hid (show ∀ V, Fr (fun i => i = ub ∨ blk a = some i) w1 V → V.cell? ⟨b, 3, none⟩ = some (.map (some ub)) from fun V hf => HC.out V ((FX1.out.mono (fun _ _ h => h.elim)).trans hf (fun _ _ h => h)))
    have MP1 := hid (MP.out.kept FX1.out (fun h => h))
    have KI1 := hid (KI.out w1 FX1.out)
    have c3 := HC1.out w1 (Fr.refl _ _)
    have hmx : Tryz.prog.follows .mixedOrders = true := by kernel_rfl
    refine wp_region_held (S := fun V => Fr (fun i => i = ub ∨ blk a = some i) w1 V) hmx ?_
    have hS := (Fr.drew (Fr.refl (fun i => i = ub ∨ blk a = some i) w1))
    simp only [List.size_toArray, List.length_cons, List.length_nil, Nat.reduceAdd, Array.replicate_succ, Array.replicate_zero, List.push_toArray, List.nil_append, List.cons_append]
    refine wpAnyH_take (i := 0) (v := ?_) rfl (by kernel_rfl) (by kernel_rfl) (by kernel_rfl) (fun _ _ _ h => h) (Or.inl ⟨by kernel_rfl, ?_⟩) hS ?_
    rotate_left 1
    · (intro w' hS'; clear hS'; go_simp; try with_reducible rfl)
    simp only [List.getElem_toArray, List.getElem_cons_zero, List.getElem_cons_succ, Act.put, List.setIfInBounds_toArray, List.set_cons_zero, List.set_cons_succ]
    refine wpAnyH_take (i := 1) (v := ?_) rfl (by kernel_rfl) (by kernel_rfl) (by kernel_rfl) (fun _ _ _ h => h) (Or.inl ⟨by kernel_rfl, ?_⟩) hS ?_
    rotate_left 1
    · (intro w' hS'; clear hS'; go_simp; try with_reducible rfl)
    simp only [List.getElem_toArray, List.getElem_cons_zero, List.getElem_cons_succ, Act.put, List.setIfInBounds_toArray, List.set_cons_zero, List.set_cons_succ]
    refine wpAnyH_take (i := 2) (v := ?_) rfl (by kernel_rfl) (by kernel_rfl) (by kernel_rfl) (fun _ _ _ h => h) (Or.inl ⟨by kernel_rfl, ?_⟩) hS ?_
    rotate_left 1
    · (intro w' hS'; clear hS'; go_simp; try with_reducible rfl)
    simp only [List.getElem_toArray, List.getElem_cons_zero, List.getElem_cons_succ, Act.put, List.setIfInBounds_toArray, List.set_cons_zero, List.set_cons_succ]
    refine wpAnyH_take (i := 3) (v := ?_) rfl (by kernel_rfl) (by kernel_rfl) (by kernel_rfl) (fun _ _ _ h => h) (Or.inl ⟨by kernel_rfl, ?_⟩) hS ?_
    rotate_left 1
    · (intro w' hS'; have h1 := HC1.out w' hS'; clear hS'; go_simp; try with_reducible rfl)
    simp only [List.getElem_toArray, List.getElem_cons_zero, List.getElem_cons_succ, Act.put, List.setIfInBounds_toArray, List.set_cons_zero, List.set_cons_succ]
    refine wpAnyH_take (i := 4) (v := ?_) rfl (by kernel_rfl) (by kernel_rfl) (by kernel_rfl) (fun _ _ _ h => h) (Or.inl ⟨by kernel_rfl, ?_⟩) hS ?_
    rotate_left 1
    · (intro w' hS'; clear hS'; go_simp; try with_reducible rfl)
    simp only [List.getElem_toArray, List.getElem_cons_zero, List.getElem_cons_succ, Act.put, List.setIfInBounds_toArray, List.set_cons_zero, List.set_cons_succ]
    refine wpAnyH_take (i := 5) (v := ?_) rfl (by kernel_rfl) (by kernel_rfl) (by kernel_rfl) (fun _ _ _ h => h) (Or.inl ⟨by kernel_rfl, ?_⟩) hS ?_
    rotate_left 1
    · (intro w' hS'; clear hS'; go_simp; try with_reducible rfl)
    simp only [List.getElem_toArray, List.getElem_cons_zero, List.getElem_cons_succ, Act.put, List.setIfInBounds_toArray, List.set_cons_zero, List.set_cons_succ]
    refine wpAnyH_take (i := 6) (v := ?_) rfl (by kernel_rfl) (by kernel_rfl) (by kernel_rfl) (fun _ _ _ h => h) (Or.inl ⟨by kernel_rfl, ?_⟩) hS ?_
    rotate_left 1
    · (intro w' hS'; clear hS'; go_simp; try with_reducible rfl)
    simp only [List.getElem_toArray, List.getElem_cons_zero, List.getElem_cons_succ, Act.put, List.setIfInBounds_toArray, List.set_cons_zero, List.set_cons_succ]
    refine wpAnyH_take (i := 7) (v := ?_) rfl (by kernel_rfl) (by kernel_rfl) (by kernel_rfl) (fun _ _ _ h => h) (Or.inl ⟨by kernel_rfl, ?_⟩) hS ?_
    rotate_left 1
    · (intro w' hS'; clear hS'; go_simp; try with_reducible rfl)
    simp only [List.getElem_toArray, List.getElem_cons_zero, List.getElem_cons_succ, Act.put, List.setIfInBounds_toArray, List.set_cons_zero, List.set_cons_succ]
    refine wpAnyH_ready (rs := [8]) (by kernel_rfl) (by simp) ?_
    refine AllReadyH.cons rfl (fun K1 hK1 => ?_) (AllReadyH.nil)
    go_simp
    refine hK1.out _ _ (by first | exact Fr.drew (Fr.alloc (Fr.refl _ _) _) | exact Fr.alloc hS _) (fun hS => ?_)
    clear hK1 K1
    simp only [List.getElem_toArray, List.getElem_cons_zero, List.getElem_cons_succ, Act.put, List.setIfInBounds_toArray, List.set_cons_zero, List.set_cons_succ]
    refine wpAnyH_ready (rs := [9]) (by kernel_rfl) (by simp) ?_
    refine AllReadyH.cons rfl (fun K1 hK1 => ?_) (AllReadyH.nil)
    go_simp
    refine (KI1.out _ (by first | exact Fr.drew (Fr.alloc (Fr.refl _ _) _) | exact Fr.alloc (Fr.drew (Fr.refl _ _)) _) _ (by exact Go.heap_alloc_new _ _) (by intro e; have h1 := HALT.out _ e; have h2 := FX1.out.size; first | omega | (simp only [World.size_alloc] at h1 h2; omega))).mono ?_
    rintro e w9 ⟨a', cap', rfl, ro, fx, hw⟩
    have F9 : Hid (Fr (fun i => blk a = some i) w1 w9) := hid ((by first | exact Fr.drew (Fr.alloc (Fr.refl (fun i => blk a = some i) _) _) | exact Fr.alloc (Fr.drew (Fr.refl (fun i => blk a = some i) _)) _ : Fr (fun i => blk a = some i) w1 _).trans fx (fun _ _ h => h))
    have HR : Hid (blk a' = blk a ∨ ∃ r, blk a' = some r ∧ w1.heap.size ≤ r) := hid (hw.imp id (fun ⟨r, h1, h2⟩ => ⟨r, h1, Nat.le_trans (by first | exact (Fr.drew (Fr.alloc (Fr.refl (fun _ => False) _) _)).size | exact (Fr.alloc (Fr.drew (Fr.refl (fun _ => False) _)) _).size) h2⟩))
    have RO := hid ro
    clear ro hw
    refine hK1.out _ _ (hS.trans fx (fun _ _ h => .inr h)) (fun hS => ?_)
    clear fx
    clear hK1 K1
    simp only [List.getElem_toArray, List.getElem_cons_zero, List.getElem_cons_succ, Act.put, List.setIfInBounds_toArray, List.set_cons_zero, List.set_cons_succ]
    refine wpAnyH_ready (rs := [10]) (by kernel_rfl) (by simp) ?_
    refine AllReadyH.cons rfl (fun K1 hK1 => ?_) (AllReadyH.nil)
    obtain ⟨w10, r10, mp, f10⟩ := Mp.store (MP1.out.kept F9.out HUA.out) litS_inj keyS Tryz.underlying78 (Nat.lt_of_le_of_lt HM.out (by decide)) (keyOfS hs) (.slice a' ((ks s).length + 1) cap')
    refine tstep_upd (by kernel_rfl) r10 (by exact ⟨_, _, _, rfl, rfl, rfl, rfl⟩) ?_
    refine hK1.out _ _ (hS.trans f10 (fun _ _ h => .inl h)) (fun hS => ?_)
    clear hK1 K1
    simp only [List.getElem_toArray, List.getElem_cons_zero, List.getElem_cons_succ, Act.put, List.setIfInBounds_toArray, List.set_cons_zero, List.set_cons_succ]
    refine wpAnyH_done (by kernel_rfl) ?_ _
    have RO2 := hid (show Ro w9 2 1 a' (T.insI n (ks s)).length cap' ((T.insI n (ks s)).map (Value.int .i64)) by rw [HIL.out, HINS.out]; exact RO.out)
    rw [← HIL.out] at mp
    obtain ⟨c', k1, k2, k3⟩ := take_done2 HN1.out HLO1.out HNE.out HCA.out F9.out f10 RO2.out HR.out mp
    have FIN := hid (show ∃ c', More c c' w.heap.size ∧ Lo c' w10.heap.size ∧ Nm c' w10 (bud + 1) b k x (fun y => if y = s then T.insI n (ks s) else ks y) from ⟨c', fun i hi => k1 i (Nat.lt_of_lt_of_le hi FX1.out.size), k2, k3⟩)
    have FFR := hid (show Fr (T.Mine c k) w w10 from (FX1.out.mono (fun _ _ h => h.elim)).trans hS (fun i _ e => e.elim (fun e => ⟨.under k, by rw [e]; exact HN.out.cu ub rfl, rfl⟩) (fun e => ⟨.row k s, HCA.out i e, rfl⟩)))
    clear hS f10 mp r10 k1 k2 k3
    go_wp2
    go_end0
    exact ⟨rfl, FFR.out, FIN.out⟩
  | none =>
    exfalso
    rcases hN.row s with ⟨h1, _⟩ | ⟨_, a, cap, h2, _⟩
    · exact hk h1
    · rw [hN.und.1 s] at h2
      cases h2
end Go.Proofs.YtilbdpnioajkoaaGreat
