/-
  slices.Delete of one number; a node goes from under another one: lose.
-/
import Derived.Test.YtenengkeckanmaaGreatTTake2Q
import Derived.Lib.RowBridge
namespace Go.Proofs.YtenengkeckanmaaGreat
open Go.RowKit Go.Maps
set_option linter.unusedVariables false
set_option maxRecDepth 100000
set_option linter.unusedSimpArgs false

theorem setCells_row {b : Nat} {t : TypeId} {m : Nat × Nat} : ∀ (vs : List Value) (V : World) (o : Nat) (z : Array Value), V.heap[b]? = some (.cells z t m) → o + vs.length ≤ z.size → (V.setCells b o vs).heap[b]? = some (.cells (z.toList.take o ++ vs ++ z.toList.drop (o + vs.length)).toArray t m)
  | [], V, o, z, hz, ho => by
    simp only [World.setCells, List.length_nil, Nat.add_zero, List.append_nil, List.take_append_drop]
    exact hz
  | v :: r, V, o, z, hz, ho => by
    simp only [List.length_cons] at ho
    simp only [World.setCells]
    rw [setCells_row r _ (o + 1) _ (setCell_row hz v) (by simp; omega)]
    congr 3
    rw [Array.toList_setIfInBounds]
    have h1 : (z.toList.set o v).take (o + 1) = z.toList.take o ++ [v] := by
      rw [List.take_add_one, List.take_set, List.set_eq_of_length_le (by rw [List.length_take]; omega), List.getElem?_set]
      simp
      omega
    have h2 : (z.toList.set o v).drop (o + 1 + r.length) = z.toList.drop (o + (v :: r).length) := by
      rw [List.drop_set_of_lt (by omega)]
      congr 1
      simp
      omega
    rw [h1, h2]
    simp
namespace T
def delI (n : Int) (l : List Int) : List Int := l.filter (fun k => !(k == n))
theorem mem_delI {n k : Int} {l : List Int} : k ∈ delI n l ↔ k ∈ l ∧ k ≠ n := by simp [delI, List.mem_filter]
theorem delI_low {n : Int} : ∀ {l : List Int}, Rise l → n ∈ l → delI n l = l.take (low n l) ++ l.drop (low n l + 1)
  | [], _, h => by cases h
  | y :: r, h, hn => by
    unfold Rise at h
    rw [List.pairwise_cons] at h
    by_cases e : y = n
    · subst e
      have h0 : low y (y :: r) = 0 := by
        unfold low
        rw [List.countP_cons_of_neg (by simp)]
        exact low_all h.1
      rw [h0]
      simp only [List.take_zero, List.nil_append, Nat.zero_add, List.drop_succ_cons, List.drop_zero]
      unfold delI
      rw [List.filter_cons_of_neg (by simp)]
      exact List.filter_eq_self.2 (fun k hk => by have := h.1 k hk; simp; omega)
    · have hr : n ∈ r := by
        rcases List.mem_cons.1 hn with h1 | h1
        · exact absurd h1.symm e
        · exact h1
      have hy := h.1 n hr
      have h0 : low n (y :: r) = low n r + 1 := by
        unfold low
        rw [List.countP_cons_of_pos (by simp; omega)]
      rw [h0]
      simp only [List.take_succ_cons, List.cons_append, List.drop_succ_cons]
      rw [← delI_low h.2 hr]
      unfold delI
      rw [List.filter_cons_of_pos (by simp; omega)]
theorem low_lt {n : Int} : ∀ {l : List Int}, Rise l → n ∈ l → low n l < l.length
  | [], _, h => by cases h
  | y :: r, h, hn => by
    unfold Rise at h
    rw [List.pairwise_cons] at h
    by_cases e : y = n
    · subst e
      unfold low
      rw [List.countP_cons_of_neg (by simp)]
      have := low_all h.1
      unfold low at this
      rw [this]
      simp
    · have hr : n ∈ r := by
        rcases List.mem_cons.1 hn with h1 | h1
        · exact absurd h1.symm e
        · exact h1
      have := low_lt h.2 hr
      have hc := List.countP_le_length (p := fun k => decide (k < n)) (l := r)
      unfold low at this ⊢
      rw [List.countP_cons_of_pos (by have := h.1 n hr; simp; omega)]
      simp
      omega
theorem length_delI {n : Int} {l : List Int} (h : Rise l) (hn : n ∈ l) : (delI n l).length + 1 = l.length := by
  have h1 := low_lt h hn
  rw [delI_low h hn, List.length_append, List.length_take, List.length_drop]
  omega
end T
theorem delete_any (w : World) (a : Option Addr) (c : Nat) (l : List Int) (h : Ro w 2 1 a l.length c (l.map (Value.int .i64))) (i : Nat) (hi : i < l.length) :
    Calls Tryz.prog 165 #[.slice a l.length c, .int .i64 i, .int .i64 ((i + 1 : Nat) : Int)] w fun e w' => e = .returned (.slice a (l.length - 1) c) ∧ Ro w' 2 1 a (l.length - 1) c ((l.take i ++ l.drop (i + 1)).map (Value.int .i64)) ∧ Fr (fun j => blk a = some j) w w' := by
  rcases h.2 with ⟨rfl, h0, _⟩ | ⟨g, o, cur, rfl, hg, hn, hmx, hcs, htk⟩
  · omega
  · simp only [Nat.mul_one] at hcs htk ⊢
    have hH : Sort.Holds (Value.int .i64) w g o l.toArray := fun j hj => by
      simp only [List.size_toArray] at hj
      refine ⟨?_, frozen_of_row hg⟩
      have := getD_cell (by rw [Nat.mul_one] at h; exact h) j hj
      rw [this]
      congr 2
      simp [List.getD, hj]
    have key := AnyG.slices_Delete_int Ldelt g o c i (i + 1) l w hH (by omega) (by unfold maxLen at hmx; omega) (by omega) (by omega)
    rw [show i + 1 - i = 1 by omega] at key
    refine (show Calls Tryz.prog 165 _ _ _ from key).mono ?_
    rintro e w' ⟨h1, q, h2⟩
    have hlen : (l.take i ++ l.drop (i + 1) ++ List.replicate 1 0).length = l.toArray.size := by simp; omega
    rw [Lib.putRow_eq_setCells (Value.int .i64) w g o l.toArray (l.take i ++ l.drop (i + 1) ++ List.replicate 1 0) q hH hlen] at h2
    have hY : (l.take i ++ l.drop (i + 1)).length = l.length - 1 := by simp; omega
    generalize l.take i ++ l.drop (i + 1) = Y at h2 hlen hY ⊢
    have hys : ((Y ++ List.replicate 1 0).map (Value.int .i64)).length = l.length := by rw [List.length_map, hlen]; simp
    have hrow := setCells_row ((Y ++ List.replicate 1 0).map (Value.int .i64)) (w.drewN q) o cur (show (w.drewN q).heap[g]? = _ from hg) (by rw [hys]; omega)
    rw [← h2] at hrow
    have hf : Fr (fun j => j = g) w w' := by rw [h2]; exact (Fr.drewN w q).trans (Fr.setCells _ _ _ _) (fun _ _ h => h)
    refine ⟨h1, ⟨by rw [List.length_map, hY, Nat.mul_one], .inr ⟨g, o, _, by rw [Nat.mul_one], hrow, by omega, hmx, ?_, ?_⟩⟩, hf.mono (fun j _ e => by rw [e]; rfl)⟩
    · simp only [List.size_toArray, List.length_append, List.length_take, List.length_drop, Array.length_toList, hys, Nat.mul_one]
      omega
    · simp only [Nat.mul_one, List.toList_toArray, List.append_assoc]
      rw [List.drop_left' (by rw [List.length_take, Array.length_toList]; omega), List.map_append, List.append_assoc]
      exact List.take_left' (by rw [List.length_map, hY])
end Go.Proofs.YtenengkeckanmaaGreat
