/-
  The document's CloneEntry: an entry in new memory.
-/
import Derived.Test.YtcmpkbgkhbcekaaDoorAEnt
namespace Go.Proofs.YtcmpkbgkhbcekaaDoor
open Go.RowKit
set_option linter.unusedVariables false
set_option linter.unusedSimpArgs false

/-- append of a slice's elements onto nil -/
theorem nil_run (w : World) (t e : TypeId) (i0 : TypeInfo) (z : Value) (k by_ : Nat) (ht : Tryd.prog.underlying t = some (.slice e)) (hi : Tryd.prog.info? e = some i0) (hz0 : i0.zero = some z) (hz1 : i0.size = k) (hz2 : i0.bytes = by_) (hzs : z.cells.size = k) (hk : 0 < k)
    (I : Nat → Prop) (a : Option Addr) (n sc : Nat) (xs : List Value) (h : Rw I w k a n xs) (h1 : ∀ u ∈ xs, u.oneCell' = true) (hn : n ≤ 200000000000000) (hnb : (0 + n + (0 + n) / 4 + 192) * by_ ≤ 281474976710656) :
    ∃ a' c' w', (Builtin.append_ #[t, t] t #[.slice none 0 0, .slice a n sc]).run Tryd.prog w = .ok (.slice a' n c') w' ∧ Rw (fun g => w.heap.size ≤ g ∧ g < w'.heap.size) w' k a' n xs ∧ Fr (fun _ => False) w w' := by
  rcases Nat.eq_zero_or_pos n with h0 | h0
  · subst h0
    have hs : xs = [] := List.eq_nil_of_length_eq_zero (by rw [h.1]; simp)
    subst hs
    have hsrc : Src Tryd.prog k t (.slice a 0 sc) 0 [] w := by
      cases a with
      | none => exact Src.ofNil w ht sc
      | some ad => exact Src.ofSlice _ ht ad 0 sc [] (by simp) (by simp) (by simp)
    exact ⟨_, _, _, run_append_nothing w t t t e i0 ht hi none 0 0 (Nat.le_refl _) _ (by rw [hz1]; exact hsrc), Rw.nil _ _ _ _, Fr.refl _ _⟩
  · obtain ⟨g, o, rfl, hI, hc⟩ : ∃ g o, a = some ⟨g, o, none⟩ ∧ I g ∧ ∀ j u, xs[j]? = some u → w.cell? ⟨g, o + j, none⟩ = some u := by
      rcases h.2 with hv | hv
      · omega
      · exact hv
    obtain ⟨a', c', w', hr, h2, h3, h4⟩ := run_append_o (P := Tryd.prog) w t t e i0 z k by_ ht hi hz0 hz1 hz2 hzs hk none 0 0 [] (Ro.nil _ _ _) ⟨g, o, none⟩ n sc xs h.1 (fun j u hu => by rw [Addr.add_lit]; exact hc j u hu) h1 h0 (by omega) hnb
    rw [Nat.zero_add, List.nil_append] at h2
    rw [Nat.zero_add] at hr
    refine ⟨a', c', w', hr, Rw.of_ro h2 (fun g hg => ⟨?_, h2.lt g hg⟩), (Fr.of_grown h3).mono (fun i _ e => by simp [blk] at e)⟩
    rcases h4 with ⟨rfl, _⟩ | ⟨rfl, _⟩
    · simp [blk] at hg
    · simp [blk] at hg; omega
/-- with other rows of the same elements it is the same -/
theorem Re.other {I J : Nat → Prop} {w w' : World} {ec : List Value} {e : A.En} (h : Re I w ec e) {a1 a2 : Option Addr} {c1 c2 : Nat} (h1 : Rw J w' 8 a1 e.ops.length e.ops.flatten) (h2 : Rw J w' 1 a2 e.dt.length (e.dt.map B)) :
    ∃ ec', (ec.toArray.setIfInBounds 13 (.slice a1 e.ops.length c1)).setIfInBounds 52 (.slice a2 e.dt.length c2) = ec'.toArray ∧ Re J w' ec' e := by
  obtain ⟨h0, b1, d1, b2, d2, rfl, _, _⟩ := h
  refine ⟨(e.fx.set 13 (.slice a1 e.ops.length c1)).set 52 (.slice a2 e.dt.length c2), ?_, h0, a1, c1, a2, c2, rfl, h1, h2⟩
  simp only [List.setIfInBounds_toArray]
  congr 1
  apply List.ext_getElem?
  intro j
  simp only [List.getElem?_set, List.length_set, h0.len]
  by_cases e1 : 52 = j
  · subst e1; simp
  · by_cases e2 : 13 = j
    · subst e2; simp
    · simp [e1, e2]
/-- its parts -/
theorem Re.parts {I : Nat → Prop} {w : World} {ec : List Value} {e : A.En} (h : Re I w ec e) : e.Ok ∧ ec.toArray.size = 56 ∧ ec.toArray.all (·.oneCell') = true ∧ ∃ a1 c1 a2 c2, ec.toArray[13]? = some (.slice a1 e.ops.length c1) ∧ ec.toArray[52]? = some (.slice a2 e.dt.length c2) ∧ Rw I w 8 a1 e.ops.length e.ops.flatten ∧ Rw I w 1 a2 e.dt.length (e.dt.map B) := by
  have hl := h.len
  have ho := h.one
  obtain ⟨h0, a1, c1, a2, c2, rfl, h2, h3⟩ := h
  refine ⟨h0, by simpa using hl, ?_, a1, c1, a2, c2, ?_, ?_, h2, h3⟩
  · rw [Array.all_eq_true_iff_forall_mem]
    intro u hu
    exact ho u (by simpa using hu)
  · simp [h0.len]
  · simp [h0.len]
/-- the zero of an entry -/
def zE56 : Array Value := #[.int .i64 0, .int .i64 0, .int .i64 0, .int .i64 0, .int .i64 0, .int .i64 0, .int .i64 0, .int .i64 0, .string ⟨#[]⟩, .string ⟨#[]⟩, .string ⟨#[]⟩, .int .i64 0, .int .i64 0, .slice none 0 0, .int .i64 0, .int .i64 0, .int .i64 0, .int .i64 0, .int .i64 0, .int .i64 0, .int .i64 0, .int .i64 0, .int .i64 0, .int .i64 0, .int .i64 0, .int .i64 0, .int .i64 0, .int .i64 0, .int .i64 0, .int .i64 0, .int .i64 0, .int .i64 0, .int .i64 0, .int .i64 0, .int .i64 0, .int .i64 0, .int .i64 0, .int .i64 0, .int .i64 0, .int .i64 0, .int .i64 0, .int .i64 0, .int .i64 0, .int .i64 0, .int .i64 0, .int .i64 0, .int .i64 0, .int .i64 0, .int .i64 0, .int .i64 0, .int .i64 0, .int .i64 0, .slice none 0 0, .int .i64 0, .int .i64 0, .int .i64 0]
end Go.Proofs.YtcmpkbgkhbcekaaDoor
