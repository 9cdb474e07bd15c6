/-
  Numbers in a slice: are they within bounds?
-/
import Derived.Test.YtfkddpcadgidgaaDoorAgg
import Derived.Test.YtfkddpcadgidgaaDoorMem
import Derived.Outline
namespace Go.Proofs.YtfkddpcadgidgaaDoor
open Go.RowKit
set_option linter.unusedVariables false

/-- what a slice of numbers reads as -/
def Is (w : World) (a : Option Addr) (len : Nat) (ns : List Int) : Prop :=
  ns.length = len ∧ (len = 0 ∨ ∃ b off, a = some ⟨b, off, none⟩ ∧ ∀ k x, ns[k]? = some x → w.cell? ⟨b, off + k, none⟩ = some (.int .i64 x))
theorem Is.at {w : World} {a : Option Addr} {len : Nat} {ns : List Int} (h : Is w a len ns) {k : Nat} (hk : k < len) :
    ∃ b off x, a = some ⟨b, off, none⟩ ∧ ns[k]? = some x ∧ w.cell? ⟨b, off + k, none⟩ = some (.int .i64 x) := by
  obtain ⟨hl, h⟩ := h
  rcases h with h | ⟨b, off, ha, hc⟩
  · omega
  · have hx : ns[k]? = some ns[k] := by simp [hl, hk]
    exact ⟨b, off, ns[k], ha, hx, hc k _ hx⟩
theorem Is.kept {S : Nat → Prop} {w w' : World} {a : Option Addr} {len : Nat} {ns : List Int} (h : Is w a len ns) (hf : Fr S w w') (hS : 0 < len → ∀ k, blk a = some k → ¬ S k) : Is w' a len ns := by
  obtain ⟨hl, h0⟩ := h
  refine ⟨hl, ?_⟩
  rcases h0 with h0 | ⟨b, off, rfl, hc⟩
  · exact .inl h0
  · by_cases hz : len = 0
    · exact .inl hz
    · refine .inr ⟨b, off, rfl, fun k x hx => ?_⟩
      have h1 := hc k x hx
      have hb := World.block_lt_of_cell? w _ h1
      rw [World.cell?_of_block (w := w) (w' := w') (hf.block b hb (hS (by omega) b rfl))]
      exact h1
theorem Is.nil (w : World) (a : Option Addr) : Is w a 0 [] := ⟨rfl, .inl rfl⟩
/-- numbers in a new block -/
theorem Is.new (w : World) (ns : List Int) (cs : Array Value) (t : TypeId) (n : Nat) (hn : ns.length = n) (h : cs.toList = ns.map (fun x => Value.int .i64 x)) : Is (w.alloc (.cells cs t)) (some ⟨w.heap.size, 0, none⟩) n ns := by
  refine ⟨hn, .inr ⟨_, _, rfl, fun k x hx => ?_⟩⟩
  rw [Nat.zero_add]
  refine cell_at (Go.heap_alloc_new w _) ?_
  rw [← Array.getElem?_toList, h, List.getElem?_map, hx]
  rfl
theorem Is.newn (w : World) (g : Nat) (hg : w.heap.size = g) (ns : List Int) (cs : Array Value) (t : TypeId) (n : Nat) (hn : ns.length = n) (h : cs.toList = ns.map (fun x => Value.int .i64 x)) : Is (w.alloc (.cells cs t)) (some ⟨g, 0, none⟩) n ns := by
  subst hg
  exact Is.new w ns cs t n hn h
def M.within (l m : Int) (ns : List Int) : Bool := ns.all (fun x => decide (l ≤ x) && decide (x ≤ m))
theorem M.within_snoc (l m : Int) (ns : List Int) (x : Int) : M.within l m (ns ++ [x]) = (M.within l m ns && (decide (l ≤ x) && decide (x ≤ m))) := by simp [M.within]
theorem M.within_false {l m : Int} {ns : List Int} {x : Int} {k : Nat} (hx : ns[k]? = some x) (h : x < l ∨ m < x) : M.within l m ns = false := by
  unfold M.within
  rw [List.all_eq_false]
  exact ⟨x, List.mem_of_getElem? hx, by simp; omega⟩
theorem take_nextI {ns : List Int} {k : Nat} {x : Int} (h : ns[k]? = some x) : ns.take (k + 1) = ns.take k ++ [x] := by
  rw [List.take_add_one, h]; rfl

set_option maxHeartbeats 800000 in
theorem within_int (l m : Int) (a : Option Addr) (len c : Nat) (ns : List Int) (w : World) (h : Is w a len ns) (hm : len ≤ 9223372036854775807) :
    Calls Tryd.prog 63 #[.int .i64 l, .int .i64 m, .slice a len c] w fun e w' => e = .returned (.bool (M.within l m ns)) ∧ w = w' := by
  have HI := hid h
  clear h
  go_enter Tryd.func63, Tryd.ntmps63
  go_wp2
  go_loop [11] (fun i => ∃ k : Nat, k ≤ len ∧ i = .int .i64 k ∧ M.within l m (ns.take k) = true) (fun i => len - (intOf i).toNat)
  case atStart => exact ⟨0, by omega, rfl, rfl⟩
  case round =>
    obtain ⟨k, hk, rfl, hw⟩ := hrel
    have HW := hid hw
    clear hw
    by_cases hlt : k < len
    · obtain ⟨b, off, x, rfl, hx, hc⟩ := HI.out.at hlt
      have HX := hid hx
      clear hx
      have hi : (k : Int) < (len : Int) := by omega
      by_cases h1 : x < l
      · go_wp2
        go_ret
        exact ⟨ret_bool (M.within_false HX.out (.inl h1)).symm, rfl⟩
      · by_cases h2 : m < x
        · go_wp2
          go_ret
          exact ⟨ret_bool (M.within_false HX.out (.inr h2)).symm, rfl⟩
        · go_wp2
          go_round
          case rel => exact ⟨k + 1, by omega, by go_num, by rw [take_nextI HX.out, M.within_snoc, HW.out]; simp; omega⟩
          case measure => simp [intOf]; omega
    · obtain rfl : k = len := by omega
      go_wp2
      go_ret
      refine ⟨ret_bool ?_, rfl⟩
      have := HW.out
      rw [List.take_of_length_le (by rw [HI.out.1]; exact Nat.le_refl _)] at this
      exact this.symm

set_option maxHeartbeats 800000 in
theorem within_int64 (l m : Int) (a : Option Addr) (len c : Nat) (ns : List Int) (w : World) (h : Is w a len ns) (hm : len ≤ 9223372036854775807) :
    Calls Tryd.prog 64 #[.int .i64 l, .int .i64 m, .slice a len c] w fun e w' => e = .returned (.bool (M.within l m ns)) ∧ w = w' := by
  have HI := hid h
  clear h
  go_enter Tryd.func64, Tryd.ntmps64
  go_wp2
  go_loop [11] (fun i => ∃ k : Nat, k ≤ len ∧ i = .int .i64 k ∧ M.within l m (ns.take k) = true) (fun i => len - (intOf i).toNat)
  case atStart => exact ⟨0, by omega, rfl, rfl⟩
  case round =>
    obtain ⟨k, hk, rfl, hw⟩ := hrel
    have HW := hid hw
    clear hw
    by_cases hlt : k < len
    · obtain ⟨b, off, x, rfl, hx, hc⟩ := HI.out.at hlt
      have HX := hid hx
      clear hx
      have hi : (k : Int) < (len : Int) := by omega
      by_cases h1 : x < l
      · go_wp2
        go_ret
        exact ⟨ret_bool (M.within_false HX.out (.inl h1)).symm, rfl⟩
      · by_cases h2 : m < x
        · go_wp2
          go_ret
          exact ⟨ret_bool (M.within_false HX.out (.inr h2)).symm, rfl⟩
        · go_wp2
          go_round
          case rel => exact ⟨k + 1, by omega, by go_num, by rw [take_nextI HX.out, M.within_snoc, HW.out]; simp; omega⟩
          case measure => simp [intOf]; omega
    · obtain rfl : k = len := by omega
      go_wp2
      go_ret
      refine ⟨ret_bool ?_, rfl⟩
      have := HW.out
      rw [List.take_of_length_le (by rw [HI.out.1]; exact Nat.le_refl _)] at this
      exact this.symm

/-- one number, in a new block -/
theorem within1_int (l m x : Int) (W : World) (n : Nat) (hn : W.heap.size = n) :
    Calls Tryd.prog 63 #[.int .i64 l, .int .i64 m, .slice (some ⟨n, 0, none⟩) 1 1] (W.alloc (.cells #[.int .i64 x] 3)) fun e w' => e = .returned (.bool (decide (l ≤ x) && decide (x ≤ m))) ∧ W.alloc (.cells #[.int .i64 x] 3) = w' := by
  subst hn
  have := within_int l m _ 1 1 [x] _ (Is.new W [x] #[.int .i64 x] 3 1 rfl rfl) (by omega)
  simpa [M.within] using this
theorem within1_int64 (l m x : Int) (W : World) (n : Nat) (hn : W.heap.size = n) :
    Calls Tryd.prog 64 #[.int .i64 l, .int .i64 m, .slice (some ⟨n, 0, none⟩) 1 1] (W.alloc (.cells #[.int .i64 x] 2)) fun e w' => e = .returned (.bool (decide (l ≤ x) && decide (x ≤ m))) ∧ W.alloc (.cells #[.int .i64 x] 2) = w' := by
  subst hn
  have := within_int64 l m _ 1 1 [x] _ (Is.new W [x] #[.int .i64 x] 2 1 rfl rfl) (by omega)
  simpa [M.within] using this

end Go.Proofs.YtfkddpcadgidgaaDoor
