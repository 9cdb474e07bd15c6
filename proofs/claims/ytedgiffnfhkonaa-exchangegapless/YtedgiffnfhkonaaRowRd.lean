/-
  What a slice of elements of some cells reads as; its elements appended to an empty one.
-/
import Derived.Test.YtedgiffnfhkonaaAgg
namespace Go.Proofs.Ytedgiffnfhkonaa
open Go.RowKit
set_option linter.unusedVariables false

/-- WHAT A SLICE OF ELEMENTS OF k CELLS READS AS, in blocks of I. -/
def Rw (I : Nat → Prop) (w : World) (k : Nat) (a : Option Addr) (n : Nat) (xs : List Value) : Prop :=
  xs.length = n * k ∧ (n = 0 ∨ ∃ g o, a = some ⟨g, o, none⟩ ∧ I g ∧ ∀ j u, xs[j]? = some u → w.cell? ⟨g, o + j, none⟩ = some u)
theorem Rw.nil (I : Nat → Prop) (w : World) (k : Nat) (a : Option Addr) : Rw I w k a 0 [] := ⟨by simp, .inl rfl⟩
theorem Rw.kept {I S : Nat → Prop} {w w' : World} {k : Nat} {a : Option Addr} {n : Nat} {xs : List Value} (h : Rw I w k a n xs) (hf : Fr S w w') (hS : ∀ i, I i → ¬ S i) : Rw I w' k a n xs := by
  refine ⟨h.1, ?_⟩
  rcases h.2 with h0 | ⟨g, o, rfl, hI, hc⟩
  · exact .inl h0
  · exact .inr ⟨g, o, rfl, hI, fun j u hu => cellFr hf (hS g hI) (hc j u hu)⟩
theorem Rw.mono {I J : Nat → Prop} {w : World} {k : Nat} {a : Option Addr} {n : Nat} {xs : List Value} (h : Rw I w k a n xs) (hJ : ∀ i, I i → J i) : Rw J w k a n xs := by
  refine ⟨h.1, ?_⟩
  rcases h.2 with h0 | ⟨g, o, rfl, hI, hc⟩
  · exact .inl h0
  · exact .inr ⟨g, o, rfl, hJ g hI, hc⟩
theorem Rw.of_ro {I : Nat → Prop} {w : World} {e : TypeId} {k : Nat} {a : Option Addr} {n c : Nat} {xs : List Value} (h : Ro w e k a n c xs) (hI : ∀ g, blk a = some g → I g) : Rw I w k a n xs := by
  refine ⟨h.1, ?_⟩
  rcases Nat.eq_zero_or_pos n with h0 | h0
  · exact .inl h0
  · obtain ⟨g, fo, rfl⟩ := h.some_of h0
    exact .inr ⟨g, fo, rfl, hI g rfl, fun j u hu => h.cell hu⟩
/-- append of a slice's elements onto an empty literal -/
theorem clone_run (w : World) (t e : TypeId) (i0 : TypeInfo) (z : Value) (k by_ : Nat) (ht : Try.prog.underlying t = some (.slice e)) (hi : Try.prog.info? e = some i0) (hz0 : i0.zero = some z) (hz1 : i0.size = k) (hz2 : i0.bytes = by_) (hzs : z.cells.size = k) (hk : 0 < k)
    (I : Nat → Prop) (ad : Addr) (n sc : Nat) (xs : List Value) (h : Rw I w k (some ad) n xs) (h1 : ∀ u ∈ xs, u.oneCell' = true) (hn : n ≤ 200000000000000) (hnb : (0 + n + (0 + n) / 4 + 192) * by_ ≤ 281474976710656) :
    ∃ a' c' w', (Builtin.append_ #[t, t] t #[.slice (some ⟨w.heap.size, 0, none⟩) 0 0, .slice (some ad) n sc]).run Try.prog (w.alloc (.cells #[] e)) = .ok (.slice a' n c') w' ∧ Rw (fun g => w.heap.size ≤ g ∧ g < w'.heap.size) w' k a' n xs ∧ Fr (fun _ => False) w w' := by
  have f0 : Fr (fun _ => False) w (w.alloc (.cells #[] e)) := Fr.alloc (Fr.refl _ _) _
  have hr0 : Ro (w.alloc (.cells #[] e)) e k (some ⟨w.heap.size, 0, none⟩) 0 0 [] := ⟨by simp, .inr ⟨w.heap.size, 0, #[], by simp, Go.heap_alloc_new w _, Nat.le_refl _, Nat.zero_le _, by simp, by simp⟩⟩
  rcases Nat.eq_zero_or_pos n with h0 | h0
  · subst h0
    have hs : xs = [] := List.eq_nil_of_length_eq_zero (by rw [h.1]; simp)
    have hsrc : Src Try.prog k t (.slice (some ad) 0 sc) 0 [] (w.alloc (.cells #[] e)) := Src.ofSlice _ ht ad 0 sc [] (by simp) (by simp) (by simp)
    refine ⟨_, _, _, run_append_nothing (w.alloc (.cells #[] e)) t t t e i0 ht hi (some ⟨w.heap.size, 0, none⟩) 0 0 (Nat.le_refl _) _ (by rw [hz1]; exact hsrc), by rw [hs]; exact Rw.nil _ _ _ _, f0⟩
  · have hcell : ∀ j u, xs[j]? = some u → (w.alloc (.cells #[] e)).cell? (ad.add j) = some u := fun j u hu => by
      rcases (h.kept f0 (fun _ _ h => h)).2 with hv | ⟨g, o, hv, _, hc⟩
      · omega
      · cases hv
        rw [Addr.add_lit]
        exact hc j u hu
    obtain ⟨a', c', w', hr, h2, h3, h4⟩ := run_append_o (P := Try.prog) (w.alloc (.cells #[] e)) t t e i0 z k by_ ht hi hz0 hz1 hz2 hzs hk (some ⟨w.heap.size, 0, none⟩) 0 0 [] hr0 ad n sc xs h.1 hcell h1 h0 (by omega) hnb
    rw [Nat.zero_add, List.nil_append] at h2
    rw [Nat.zero_add] at hr
    refine ⟨a', c', w', hr, Rw.of_ro h2 (fun g hg => ⟨?_, h2.lt g hg⟩), f0.trans (Fr.of_grown h3) (fun i hi e => by simp [blk] at e; omega)⟩
    rcases h4 with ⟨rfl, _⟩ | ⟨rfl, _⟩
    · simp [blk] at hg; omega
    · simp [blk] at hg; omega
end Go.Proofs.Ytedgiffnfhkonaa
