/-
  Lists of slotted entries cut and put together; a box written in part; a slot's place in a list by slots.
-/
import Derived.Test.YtedhmhlhjonloaaARef
namespace Go.Proofs.Ytedhmhlhjonloaa
open Go.RowKit Go.Maps
set_option linter.unusedVariables false
set_option linter.unusedSimpArgs false

/-- where a later part begins -/
def cutS (a : Option Addr) (c l : Nat) : Option Addr := if c = l then a else a.map (·.add (l * 59))
theorem run_cutS_lo (w : World) (a : Option Addr) (n c l : Nat) (hl : l ≤ n) (x : Int) (hx : x = (l : Int)) :
    (Instr.slice 28 (.slice a n c) (some (.int .i64 x)) none none).run Try.prog w = .ok (.slice (cutS a c l) (n - l) (c - l)) w := by
  subst hx
  obtain ⟨i0, z, hi, hz0, hz1, hz2, hz3⟩ := info_sl
  have h1 : (Instr.sliceBound (.int .i64 (l : Int)) n .sliceB).run Try.prog w = .ok l w := by
    have : (0 : Int) ≤ (l : Int) ∧ (l : Int) ≤ (n : Int) := by omega
    simp [Instr.sliceBound, asIntOf, this]
  simp [Instr.slice, Instr.sliceBounds, h1, run_underlying Try.underlying28, sizeOf, typeInfo, hi, hz1, cutS]
theorem run_cutS_hi (w : World) (a : Option Addr) (n c h : Nat) (hh : h ≤ c) (x : Int) (hx : x = (h : Int)) :
    (Instr.slice 28 (.slice a n c) none (some (.int .i64 x)) none).run Try.prog w = .ok (.slice a h c) w := by
  subst hx
  obtain ⟨i0, z, hi, hz0, hz1, hz2, hz3⟩ := info_sl
  have h1 : (Instr.sliceBound (.int .i64 (h : Int)) c .sliceAcap).run Try.prog w = .ok h w := by
    have : (0 : Int) ≤ (h : Int) ∧ (h : Int) ≤ (c : Int) := by omega
    simp [Instr.sliceBound, asIntOf, this]
  simp [Instr.slice, Instr.sliceBounds, h1, run_underlying Try.underlying28, sizeOf, typeInfo, hi]
  cases a <;> simp [Addr.add]
theorem Ls.drop {I : Nat → Prop} {w : World} {a : Option Addr} {xs : List El} (h : Ls I w a xs) {c : Nat} (hc : xs.length ≤ c) (k : Nat) (hk : k ≤ xs.length) : Ls I w (cutS a c k) (xs.drop k) := by
  have hs : ∀ x ∈ xs, x.1.size = 59 := fun x hx => (h.el x hx).size
  have hfl := flatE_len hs
  refine ⟨⟨?_, ?_⟩, fun x hx => h.el x (List.mem_of_mem_drop hx)⟩
  · exact flatE_len (fun x hx => hs x (List.mem_of_mem_drop hx))
  · rcases Nat.lt_or_ge k xs.length with h1 | h1
    · rcases h.row.2 with h0 | ⟨g, o, rfl, hI, hcl⟩
      · omega
      · refine .inr ⟨g, o + k * 59, ?_, hI, fun j u hu => ?_⟩
        · unfold cutS; rw [if_neg (by omega)]; simp [Addr.add_lit]
        · rw [Nat.add_assoc]
          refine hcl _ u ?_
          have e : flatE xs = flatE (xs.take k) ++ flatE (xs.drop k) := by rw [← flatE_append, List.take_append_drop]
          rw [e, List.getElem?_append_right (by rw [flatE_len (fun x hx => hs x (List.mem_of_mem_take hx)), List.length_take]; have : min k xs.length = k := by omega
                                                rw [this]; omega), flatE_len (fun x hx => hs x (List.mem_of_mem_take hx)), List.length_take, show min k xs.length = k by omega, Nat.add_sub_cancel_left]
          exact hu
    · exact .inl (by rw [List.length_drop]; omega)
theorem Ls.take {I : Nat → Prop} {w : World} {a : Option Addr} {xs : List El} (h : Ls I w a xs) (k : Nat) : Ls I w a (xs.take k) := by
  have hs : ∀ x ∈ xs, x.1.size = 59 := fun x hx => (h.el x hx).size
  refine ⟨⟨flatE_len (fun x hx => hs x (List.mem_of_mem_take hx)), ?_⟩, fun x hx => h.el x (List.mem_of_mem_take hx)⟩
  rcases h.row.2 with h0 | ⟨g, o, ha, hI, hcl⟩
  · exact .inl (by rw [List.length_take]; omega)
  · refine .inr ⟨g, o, ha, hI, fun j u hu => hcl j u ?_⟩
    have e : flatE xs = flatE (xs.take k) ++ flatE (xs.drop k) := by rw [← flatE_append, List.take_append_drop]
    rw [e, List.getElem?_append_left (List.getElem?_eq_some_iff.1 hu).1]
    exact hu
/-- more slotted entries, behind the others -/
theorem sd_appends (w : World) (ra : Option Addr) (rc n : Nat) (xs : List Value) (hrow : Ro w 79 59 ra n rc xs) {J : Nat → Prop} (sa : Option Addr) (sc : Nat) (ys : List El) (hy : Ls J w sa ys) (hb : n + ys.length ≤ 310000000000) :
    ∃ ra' rc' w', (Builtin.append_ #[28, 28] 28 #[.slice ra n rc, .slice sa ys.length sc]).run Try.prog w = .ok (.slice ra' (n + ys.length) rc') w' ∧
      Ro w' 79 59 ra' (n + ys.length) rc' (xs ++ flatE ys) ∧ Fr (fun k => blk ra = some k) w w' ∧ (∀ k, blk ra' = some k → blk ra = some k ∨ w.heap.size ≤ k) := by
  obtain ⟨i0, z, hi, hz0, hz1, hz2, hz3⟩ := info_sl
  have h1 : ∀ u ∈ flatE ys, u.oneCell' = true := fun u hu => by
    unfold flatE at hu
    obtain ⟨l, hl, hu⟩ := List.mem_flatten.1 hu
    obtain ⟨x, hx, rfl⟩ := List.mem_map.1 hl
    exact (hy.el x hx).ones u hu
  rcases Nat.eq_zero_or_pos ys.length with h0 | h0
  · have hnil : ys = [] := List.eq_nil_of_length_eq_zero h0
    subst hnil
    have hsrc : Src Try.prog 59 28 (.slice sa 0 sc) 0 [] w := by
      cases sa with
      | none => exact Src.ofNil w Try.underlying28 sc
      | some ad => exact Src.ofSlice _ Try.underlying28 ad 0 sc [] (by simp) (by simp) (by simp)
    refine ⟨ra, rc, w, run_append_nothing w _ _ _ _ i0 Try.underlying28 hi ra n rc hrow.le.1 _ (by rw [hz1]; exact hsrc), ?_, Fr.refl _ _, fun k hk => .inl hk⟩
    simp only [flatE, List.map_nil, List.flatten_nil, List.append_nil, List.length_nil, Nat.add_zero]
    exact hrow
  · obtain ⟨g, o, rfl⟩ := hy.some_of h0
    obtain ⟨a', c', w', hr, h2, h3, h4⟩ := run_append_o (P := Try.prog) w 28 28 79 i0 z 59 528 Try.underlying28 hi hz0 hz1 hz2 hz3 (by omega) ra n rc xs hrow ⟨g, o, none⟩ ys.length sc (flatE ys) hy.row.1 (fun j u hu => by
      rw [Addr.add_lit]
      rcases hy.row.2 with h5 | ⟨g', o', e, _, hc⟩
      · omega
      · cases e; exact hc j u hu) h1 h0 (by omega) (by omega)
    refine ⟨a', c', w', hr, h2, Fr.of_grown h3, fun k hk => ?_⟩
    rcases h4 with ⟨rfl, _⟩ | ⟨rfl, _⟩
    · exact .inl hk
    · simp [blk] at hk; exact .inr (by omega)
/-- a box's last cells are written -/
theorem box_part {V : World} {b o : Nat} {ty ty' : TypeId} {z c : Array Value} (hb : V.heap[b]? = some (.cells z ty (0, 0))) (hs : o + c.size = z.size) (hi : (Try.prog.info? ty').map (·.size) = some c.size) (h1 : c.all (·.oneCell') = true) :
    ∃ V', (Instr.storeAt ty' (.pointer (some ⟨b, o, none⟩)) (.agg c)).run Try.prog V = .ok () V' ∧ V'.heap[b]? = some (.cells (z.toList.take o ++ c.toList).toArray ty (0, 0)) ∧ Fr (fun k => k = b) V V' := by
  have th : V.there b o c.size := there_off hb (by omega)
  refine ⟨_, run_storeAt_mid (P := Try.prog) V _ o ty' c th hi h1, ?_, Fr.setCells _ _ _ _⟩
  have key : ∀ (vs : List Value) (V : World) (o : Nat) (z : Array Value), V.heap[b]? = some (.cells z ty (0, 0)) → o + vs.length = z.size → (V.setCells b o vs).heap[b]? = some (.cells (z.toList.take o ++ vs).toArray ty (0, 0)) := by
    intro vs
    induction vs with
    | nil =>
      intro V o z hz ho
      simp only [List.length_nil, Nat.add_zero] at ho
      simp only [World.setCells]
      rw [hz, List.append_nil, ho, List.take_of_length_le (by simp)]
    | cons v r ih =>
      intro V o z hz ho
      simp only [List.length_cons] at ho
      simp only [World.setCells]
      rw [ih _ (o + 1) _ (setCell_row hz v) (by simp; omega)]
      have e : (z.setIfInBounds o v).toList.take (o + 1) ++ r = z.toList.take o ++ v :: r := by
        rw [Array.toList_setIfInBounds, List.take_add_one, List.take_set, List.getElem?_set, List.set_eq_of_length_le (by rw [List.length_take]; omega), if_pos rfl, if_pos (by rw [Array.length_toList]; omega), List.append_assoc]
        rfl
      rw [e]
  exact key c.toList V o z hb (by simpa using hs)
namespace A
variable {α : Type}
/-- a slot's place -/
theorem put_split {l : List (Int × α)} (hu : Up l) {i j : Nat} {k : Int} {v : α} (h1 : ∀ p ∈ l.take i, p.1 < k) (h2 : ∀ p ∈ l.drop j, k < p.1) (hj : j = i ∨ (j = i + 1 ∧ ∃ p, l[i]? = some p ∧ p.1 = k)) :
    l.take i ++ (k, v) :: l.drop j = put k v l := by
  have hji : ∀ p, p ∈ l.drop j → p ∈ l := fun p hp => List.mem_of_mem_drop hp
  refine up_ext ?_ (hu.put k v) (fun p => ?_)
  · unfold Up
    rw [List.pairwise_append]
    refine ⟨List.Pairwise.sublist (List.take_sublist _ _) hu, List.pairwise_cons.2 ⟨fun p hp => h2 p hp, List.Pairwise.sublist (List.drop_sublist _ _) hu⟩, fun p hp q hq => ?_⟩
    rcases List.mem_cons.1 hq with rfl | hq
    · exact h1 p hp
    · exact Int.lt_trans (h1 p hp) (h2 q hq)
  · rw [mem_put, List.mem_append, List.mem_cons]
    constructor
    · rintro (hp | rfl | hp)
      · exact .inr ⟨List.mem_of_mem_take hp, by have := h1 p hp; omega⟩
      · exact .inl rfl
      · exact .inr ⟨hji p hp, by have := h2 p hp; omega⟩
    · rintro (rfl | ⟨hp, hn⟩)
      · exact .inr (.inl rfl)
      · have hp' := hp
        rw [← List.take_append_drop i l, List.mem_append] at hp'
        rcases hp' with h3 | h3
        · exact .inl h3
        · rcases hj with rfl | ⟨rfl, r, hr, hrk⟩
          · exact .inr (.inr h3)
          · rw [List.drop_eq_getElem_cons (List.getElem?_eq_some_iff.1 hr).1, (List.getElem?_eq_some_iff.1 hr).2] at h3
            rcases List.mem_cons.1 h3 with rfl | h3
            · exact absurd hrk hn
            · exact .inr (.inr h3)
end A
end Go.Proofs.Ytedhmhlhjonloaa
