/-
  Entries that are handed in, within the form's own reach. (gen/widen.py)
-/
import Derived.Test.YtedhmhlhjonloaaAReach
namespace Go.Proofs.Ytedhmhlhjonloaa
open Go.ChangeShapes Go.WideShapes Go.ChangeAt Go.RowKit
set_option linter.unusedVariables false
set_option linter.unusedSimpArgs false

/-- what is told of a cell -/
def Lf {H : Type} (enc : TypeId × Value → H) (W : World) (t : TypeId) (v : Value) : Prop := ∃ n y, DataW.trod enc Try.prog W 0 (fun _ => true) true n t [v] = some y ∧ ∀ m ∈ DataW.weights Try.prog t y.1, m ≤ reachBytes
theorem Lf.int {H : Type} {enc : TypeId × Value → H} {W : World} {t : TypeId} {v : Value} (h : Lf enc W t v) (hu : Try.prog.underlying t = some (.int .i64)) : ∃ z, v = .int .i64 z ∧ -9223372036854775808 ≤ z ∧ z ≤ 9223372036854775807 := by
  obtain ⟨n, y, h, _⟩ := h
  obtain ⟨z, hz, _, hw⟩ := DataW.trod_int hu h
  simp at hz
  exact ⟨z, hz, (wf_i64 hw).1, (wf_i64 hw).2⟩
theorem Lf.str {H : Type} {enc : TypeId × Value → H} {W : World} {t : TypeId} {v : Value} (h : Lf enc W t v) (hu : Try.prog.underlying t = some .string) : ∃ z, v = .string z := by
  obtain ⟨n, y, h, _⟩ := h
  obtain ⟨z, hz, _, hw⟩ := DataW.trod_string hu h
  simp at hz
  exact ⟨z, hz⟩
/-- which type a cell of an entry has -/
def entTy (j : Nat) : TypeId := if j = 13 then 36 else if j = 52 then 42 else if 8 ≤ j ∧ j ≤ 10 then 9 else if j = 0 ∨ j = 4 ∨ j = 5 ∨ j = 11 ∨ (15 ≤ j ∧ j ≤ 22) ∨ (31 ≤ j ∧ j ≤ 39) ∨ j = 50 ∨ j = 51 ∨ j = 53 ∨ j = 54 then 3 else 2
/-- AN ENTRY OUT OF ITS CELLS. -/
theorem entry_open {H : Type} {enc : TypeId × Value → H} {W : World} {cs : List Value} (hl : cs.length = 56) (hc : ∀ j v, cs[j]? = some v → Lf enc W (entTy j) v) : ∃ en, Re (fun g => g < W.heap.size) W cs en ∧ en.ops.length ≤ 1599289640401 ∧ en.dt.length ≤ 140737488355328 := by
  obtain ⟨v13, h13⟩ : ∃ v, cs[13]? = some v := ⟨_, List.getElem?_eq_getElem (by omega)⟩
  obtain ⟨v52, h52⟩ : ∃ v, cs[52]? = some v := ⟨_, List.getElem?_eq_getElem (by omega)⟩
  obtain ⟨n1, y1, t1, bk1⟩ := hc 13 v13 h13
  obtain ⟨n2, y2, t2, bk2⟩ := hc 52 v52 h52
  obtain ⟨a1, c1, ops, rfl, hrw1, hop, hol⟩ := open_oprowW t1 bk1
  obtain ⟨a2, len2, c2, rfl⟩ : ∃ a l c, v52 = .slice a l c := by
    rcases open_ints Try.underlying42 Try.underlying5 cells5 t2 with ⟨hcs, hx⟩ | ⟨x, l, c, zs, hcs, _⟩
    · simp at hcs; exact ⟨_, _, _, hcs⟩
    · simp at hcs; exact ⟨_, _, _, hcs⟩
  obtain ⟨bs, hsl, hlc, hmx, hd⟩ := open_bytes (cap := c2) (d := y2.1) (p := y2.2) ⟨n2, t2⟩
  have hdl : bs.length ≤ 140737488355328 := by
    rw [hsl.1]
    rcases hd with ⟨_, h0⟩ | ⟨elems, spare, he, h1, h2⟩
    · omega
    · have bk3 : ∀ m ∈ DataW.weights Try.prog 42 y2.1, m ≤ reachBytes := bk2
      rw [he] at bk3
      have h3 := bk3 _ (wt_slice Try.underlying42 _ _)
      have h4 : Try.prog.bytesOf 5 = 1 := by kernel_rfl
      rw [h4] at h3
      unfold reachBytes at h3
      omega
  have hrw2 : Rw (fun g => g < W.heap.size) W 1 a2 bs.length (bs.map B) := by
    refine ⟨by simp, ?_⟩
    rcases hsl.2 with h0 | ⟨b, off, rfl, hcl⟩
    · exact .inl (by rw [hsl.1]; exact h0)
    · by_cases hz : bs.length = 0
      · exact .inl hz
      · refine .inr ⟨b, off, rfl, ?_, fun j u hu => ?_⟩
        · obtain ⟨x0, hx0⟩ : ∃ x, bs[0]? = some x := ⟨_, List.getElem?_eq_getElem (by omega)⟩
          exact World.block_lt_of_cell? W _ (hcl 0 x0 hx0)
        · rw [List.getElem?_map] at hu
          cases hb : bs[j]? with
          | none => rw [hb] at hu; simp at hu
          | some x => rw [hb] at hu; simp at hu; subst hu; exact hcl j x hb
  refine ⟨⟨(cs.set 13 (.slice none 0 0)).set 52 (.slice none 0 0), ops, bs⟩, ⟨⟨by simpa using hl, fun j v hv => ?_, hop, Nat.le_trans hol (by omega), Nat.le_trans hdl (by omega)⟩, a1, c1, a2, c2, ?_, hrw1, hrw2⟩, hol, hdl⟩
  · simp only at hv
    by_cases e52 : j = 52
    · subst e52
      simp [hl] at hv
      subst hv
      rfl
    · by_cases e13 : j = 13
      · subst e13
        simp [hl] at hv
        subst hv
        rfl
      · rw [List.getElem?_set_ne (by omega), List.getElem?_set_ne (by omega)] at hv
        have hf := hc j v hv
        by_cases hstr : 8 ≤ j ∧ j ≤ 10
        · have e1 : entTy j = 9 := by unfold entTy; rw [if_neg e13, if_neg e52, if_pos hstr]
          rw [e1] at hf
          have e2 : A.tyAt j = 1 := by unfold A.tyAt; rw [if_neg (by omega), if_pos hstr]
          rw [e2]
          exact hf.str Try.underlying9
        · have e2 : A.tyAt j = 0 := by unfold A.tyAt; rw [if_neg (by omega), if_neg hstr]
          rw [e2]
          unfold entTy at hf
          rw [if_neg e13, if_neg e52, if_neg hstr] at hf
          split at hf
          · obtain ⟨z, hz, _⟩ := hf.int Try.underlying3
            exact ⟨z, hz⟩
          · obtain ⟨z, hz, _⟩ := hf.int Try.underlying2
            exact ⟨z, hz⟩
  · simp only
    apply List.ext_getElem?
    intro j
    simp only [List.getElem?_set, List.length_set, hl]
    by_cases e52 : 52 = j
    · subst e52
      simp [h52, hsl.1]
    · by_cases e13 : 13 = j
      · subst e13
        simp [h13]
      · simp [e52, e13]
end Go.Proofs.Ytedhmhlhjonloaa
