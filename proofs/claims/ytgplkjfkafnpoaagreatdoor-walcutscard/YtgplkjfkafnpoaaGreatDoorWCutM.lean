/-
  What a cut does to a log that stands: the numbers of segments have one name each.
-/
import Derived.Test.YtgplkjfkafnpoaaGreatDoorWInv
import Derived.Test.YtgplkjfkafnpoaaGreatDoorWCut
namespace Go.Proofs.YtgplkjfkafnpoaaGreatDoor
set_option linter.unusedVariables false
namespace W
def vOf (a : Nat) (l : List UInt8) : Nat := l.foldl (fun a c => 10 * a + (c.toNat - 48)) a
theorem vOf_append (a : Nat) (l m : List UInt8) : vOf a (l ++ m) = vOf (vOf a l) m := List.foldl_append
theorem vOf_dec : ∀ (u : Nat), vOf 0 (Lib.decDigits u) = u := fun u => by
  induction u using Nat.strongRecOn with
  | _ u ih =>
    rw [Lib.decDigits]
    split
    · rename_i h
      show 10 * 0 + ((UInt8.ofNat (48 + u)).toNat - 48) = u
      rw [UInt8.toNat_ofNat_of_lt' (by show 48 + u < 256; omega)]
      omega
    · rename_i h
      rw [vOf_append, ih (u / 10) (by omega)]
      show 10 * (u / 10) + ((UInt8.ofNat (48 + u % 10)).toNat - 48) = u
      rw [UInt8.toNat_ofNat_of_lt' (by show 48 + u % 10 < 256; omega)]
      omega
theorem vOf_zeros : ∀ (n : Nat), vOf 0 (Lib.repeatL [48] n) = 0
  | 0 => rfl
  | n + 1 => by
    show vOf 0 ([48] ++ Lib.repeatL [48] n) = 0
    rw [vOf_append]
    exact vOf_zeros n
theorem vOf_dig {f : Int} (h : 0 ≤ f) : vOf 0 (dig f) = f.toNat := by
  unfold dig
  rw [vOf_append, vOf_zeros]
  unfold Lib.itoa
  rw [if_neg (by omega)]
  exact vOf_dec _
theorem seg_inj {nm : List UInt8} {f g : Int} (hn : isNm nm = true) (f0 : 0 ≤ f) (f1 : f ≤ 999999999999) (g0 : 0 ≤ g) (g1 : g ≤ 999999999999) (h : seg nm f = seg nm g) : f = g := by
  unfold seg at h
  rw [if_pos ⟨hn, f0, f1⟩, if_pos ⟨hn, g0, g1⟩] at h
  have h1 := List.append_cancel_left h
  simp only [List.cons.injEq, true_and] at h1
  have h2 := congrArg (vOf 0) h1
  rw [vOf_dig f0, vOf_dig g0] at h2
  omega
theorem chain_lt {s : SG} {r : List SG} {n : Int} (h : chain (s :: r) n) : ∀ t ∈ r, s.first < t.first := by
  induction r generalizing s with
  | nil => simp
  | cons x y ih =>
    intro t ht
    have hp : 0 < s.recs.length := List.length_pos_iff.2 h.1
    have hx : s.first < x.first := by have := h.2.1; omega
    rcases List.mem_cons.1 ht with rfl | ht
    · exact hx
    · have := ih h.2.2 t ht; omega
/-- what a cut leaves -/
theorem cutGo_ok {nm : List UInt8} (hn : isNm nm = true) (b : Int) : ∀ (l : List SG) (d : K.DK) (n : Int), K.Ok d → d.down = false → d.left = 0 → (∀ s ∈ l, 0 ≤ s.first ∧ s.first ≤ 999999999999) → chain l n → (∀ s ∈ l, ∃ f, K.get (seg nm s.first) d.fs = some f) →
    (cutGo nm b d l).1 = 0 ∧ chain (cutGo nm b d l).2.2 n ∧ (l = [] → (cutGo nm b d l).2.2 = []) ∧ (∀ s r, l = s :: r → ∃ t q, (cutGo nm b d l).2.2 = t :: q ∧ s.first ≤ t.first ∧ (t.first ≤ s.first ∨ t.first ≤ b) ∧ (cutGo nm b d l).2.2 <:+ l)
  | [], d, n, _, _, _, _, hc, _ => ⟨rfl, hc, fun _ => rfl, fun s r h => by cases h⟩
  | [s], d, n, _, _, _, _, hc, _ => ⟨rfl, hc, (fun h => by cases h), fun x r h => by cases h; exact ⟨s, [], rfl, Int.le_refl _, .inl (Int.le_refl _), List.suffix_rfl⟩⟩
  | s :: t :: r, d, n, ho, hd, hl, hf, hc, hg => by
    rw [cutGo_cons]
    have hs := hf s (by simp)
    obtain ⟨f, hgs⟩ := hg s (by simp)
    have hp : 0 < (seg nm s.first).length := seg_pos hn hs.1 hs.2
    have hq : (seg nm s.first).length ≤ 64 := by have := seg_len nm s.first; omega
    have hlt := chain_lt hc
    split
    · rename_i hb
      have e := K.rem_ok hd hl hp hq hgs
      have ho' := K.ok_rem ho (seg nm s.first)
      rw [e] at ho' ⊢
      simp only [ne_eq, not_true_eq_false, if_false]
      have ih := cutGo_ok hn b (t :: r) { d with fs := K.del (seg nm s.first) d.fs } n ho' hd hl (fun x hx => hf x (List.mem_cons_of_mem _ hx)) hc.2.2 (fun x hx => by
        refine K.get_del_some ho.up (fun e => ?_) (hg x (List.mem_cons_of_mem _ hx))
        have h1 := hf x (List.mem_cons_of_mem _ hx)
        have h2 := seg_inj hn h1.1 h1.2 hs.1 hs.2 e
        have h3 := hlt x hx
        omega)
      refine ⟨ih.1, ih.2.1, (fun h => by cases h), fun x y h => ?_⟩
      cases h
      obtain ⟨a, q, h1, h2, h3, h4⟩ := ih.2.2.2 t r rfl
      have h5 := hlt t (by simp)
      exact ⟨a, q, h1, by omega, .inr (by rcases h3 with h3 | h3 <;> omega), h4.trans (List.suffix_cons _ _)⟩
    · exact ⟨rfl, hc, (fun h => by cases h), fun x y h => by cases h; exact ⟨s, t :: r, rfl, Int.le_refl _, .inl (Int.le_refl _), List.suffix_rfl⟩⟩
/-- what the law asks of a cut -/
theorem cut_ok {d : K.DK} {L : LG} (h : Inv d L) (b : Int) : (cut d L b).1 = 0 ∧ (cut d L b).2.2.next = L.next ∧ L.first ≤ (cut d L b).2.2.first ∧ (cut d L b).2.2.first ≤ max L.first b ∧ (0 < L.segs.length → 1 ≤ (cut d L b).2.2.segs.length) ∧ chain (cut d L b).2.2.segs L.next ∧ (cut d L b).2.2.segs <:+ L.segs := by
  obtain ⟨h1, h2, h3, h4⟩ := cutGo_ok h.nm b L.segs d L.next h.ok h.down h.left h.fs h.chain h.files
  cases e : L.segs with
  | nil =>
    have h5 := h3 e
    have hs : (cut d L b).2.2.segs = [] := h5
    have hf : (cut d L b).2.2.first = L.next := by unfold LG.first; rw [hs]; rfl
    have hf0 : L.first = L.next := by unfold LG.first; rw [e]
    refine ⟨h1, rfl, by rw [hf, hf0]; exact Int.le_refl _, by rw [hf, hf0]; exact Int.le_max_left _ _, (fun h => by simp at h), h2, by rw [hs]; exact List.suffix_rfl⟩
  | cons s r =>
    obtain ⟨t, q, h5, h6, h7, h8⟩ := h4 s r e
    have hs : (cut d L b).2.2.segs = t :: q := h5
    have hf : (cut d L b).2.2.first = t.first := by unfold LG.first; rw [hs]
    have hf0 : L.first = s.first := by unfold LG.first; rw [e]
    refine ⟨h1, rfl, by rw [hf, hf0]; exact h6, by rw [hf, hf0]; omega, fun _ => by rw [hs]; simp, h2, ?_⟩
    rw [← e]
    exact h8
/-- the numbers of a chain follow on one another -/
theorem nums_chain : ∀ (l : List SG) (n : Int), chain l n → ∀ f, (match l with | [] => n | s :: _ => s.first) = f → f ≤ n ∧ (l.flatMap (fun s => (List.range s.recs.length).map (fun i : Nat => s.first + (i : Int)))) = (List.range (n - f).toNat).map (fun i : Nat => f + (i : Int))
  | [], n, _, f, hf => by
    simp only at hf
    subst hf
    simp
  | [s], n, hc, f, hf => by
    simp only at hf
    subst hf
    have := hc.2
    have e : (n - s.first).toNat = s.recs.length := by omega
    rw [e]
    exact ⟨by omega, by simp⟩
  | s :: t :: r, n, hc, f, hf => by
    simp only at hf
    subst hf
    obtain ⟨h1, h2⟩ := nums_chain (t :: r) n hc.2.2 t.first rfl
    have h3 := hc.2.1
    rw [List.flatMap_cons, h2]
    refine ⟨by omega, ?_⟩
    have e : (n - s.first).toNat = s.recs.length + (n - t.first).toNat := by omega
    rw [e, List.range_add, List.map_append, List.map_map]
    congr 1
    apply List.map_congr_left
    intro i _
    simp only [Function.comp]
    push_cast
    omega
end W
end Go.Proofs.YtgplkjfkafnpoaaGreatDoor
