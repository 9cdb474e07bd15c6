/-
  The contracts of a disk: burn, ready, find, New.
-/
import Derived.Test.YtogdjhhabcejgaaGreatKOpsQ
namespace Go.Proofs.YtogdjhhabcejgaaGreat
open Go.RowKit Go.Maps
set_option linter.unusedVariables false

theorem Tn.refl {c : Cl} {w : World} {p mb : Nat} {l : List (K.Nm × FM)} {d : K.DK} (h : Dm c w p mb l d) : Tn c w p mb d w := ⟨c, l, h, Fr.refl _ _, fun k hk => .inl hk⟩
theorem Tn.pre {c c1 : Cl} {w w1 w' : World} {p mb : Nat} {d' : K.DK} (hf : Fr (fun k => c k ≠ none) w w1) (hn : ∀ k, c1 k ≠ none → c k ≠ none ∨ w.heap.size ≤ k) (h : Tn c1 w1 p mb d' w') : Tn c w p mb d' w' := by
  obtain ⟨c2, l2, h1, h2, h3⟩ := h
  refine ⟨c2, l2, h1, hf.trans h2 (fun i hi e => (hn i e).resolve_right (by omega)), fun k hk => ?_⟩
  rcases h3 k hk with h4 | h4
  · exact hn k h4
  · exact .inr (Nat.le_trans hf.size h4)

/-- what burn does: the files are as they were, or the disk has fallen -/
def Bn (c : Cl) (w : World) (p mb : Nat) (l : List (K.Nm × FM)) (d : K.DK) (w' : World) : Prop :=
  ((K.burn d).1 = 0 ∧ Dm c w' p mb l (K.burn d).2 ∧ Fr (fun k => c k ≠ none) w w') ∨ ((K.burn d).1 = 7 ∧ Tn c w p mb (K.burn d).2 w')
theorem Bn.tn {c : Cl} {w w' : World} {p mb : Nat} {l : List (K.Nm × FM)} {d : K.DK} (h : Bn c w p mb l d w') : Tn c w p mb (K.burn d).2 w' := by
  rcases h with ⟨_, h1, h2⟩ | ⟨_, h⟩
  · exact ⟨c, l, h1, h2, fun k hk => .inl hk⟩
  · exact h

set_option maxHeartbeats 1600000 in
set_option maxRecDepth 20000 in
theorem burn_any (c : Cl) (w : World) (p mb : Nat) (l : List (K.Nm × FM)) (d : K.DK) (h : Dm c w p mb l d) (ho : K.Ok d) :
    Calls Tryz.prog 46 #[.pointer (some ⟨p, 0, none⟩)] w fun e w' => e = .returned (.int .i64 (K.burn d).1) ∧ Bn c w p mb l d w' := by
  unfold Bn
  obtain ⟨k0, k1, k2, k3, k4⟩ := h.k
  have q2 := frozen_of_row (j := 3) h.at_
  have l0 := ho.l0
  have l1 := ho.l1
  have HD := hid h
  have hcp : c p ≠ none := by rw [h.cp]; simp
  by_cases h0 : d.left = 0
  · have e : K.burn d = (0, d) := by unfold K.burn; rw [if_pos h0]
    rw [e]
    rw [h0] at k2
    clear e h0 h ho l0 l1
    go_enter Tryz.func46, Tryz.ntmps46
    go_wp2
    go_ret
    exact ⟨rfl, .inl ⟨trivial, HD.out, Fr.refl _ _⟩⟩
  · obtain ⟨f, hf⟩ : ∃ f, d.left = f := ⟨_, rfl⟩
    have hw : wrap64 (f - 1) = f - 1 := by unfold wrap64; omega
    rw [hf] at l0 l1
    have h1 : Dm c (w.setCell ⟨p, 3, none⟩ (.int .i64 (f - 1))) p mb l { d with left := f - 1 } :=
      h.own (Fr.setCell (p := ⟨p, 3, none⟩) (S := fun k => k = p) (Fr.refl _ _) (fun _ => rfl) _) (by rw [setCell_row h.at_]; rfl) rfl
    have f1 : Fr (fun k => c k ≠ none) w (w.setCell ⟨p, 3, none⟩ (.int .i64 (f - 1))) := Fr.setCell (p := ⟨p, 3, none⟩) (Fr.refl _ _) (fun _ => hcp) _
    have o1 : K.Ok { d with left := f - 1 } := ⟨ho.up, ho.files, ho.names, ho.r0, ho.r1, by simp only; omega, by simp only; omega, ho.k0, ho.k1, ho.ur, ho.uc⟩
    by_cases hl : 1 < f
    · have e : K.burn d = (0, { d with left := f - 1 }) := by unfold K.burn; rw [if_neg h0, if_pos (by omega), hf]
      rw [e]
      rw [hf] at k2
      have H1 := hid h1
      have F1 := hid f1
      have hne : (f == 0) = false := by simp; omega
      have hgt : (0 : Int) < f - 1 := by omega
      clear e h0 h ho h1 f1 o1 hf
      go_enter Tryz.func46, Tryz.ntmps46
      go_wp2
      go_ret
      exact ⟨rfl, .inl ⟨trivial, H1.out, F1.out⟩⟩
    · have e1 : f = 1 := by omega
      subst e1
      have e : K.burn d = (7, K.fall d.keep d) := by unfold K.burn; rw [if_neg h0, if_neg (by omega)]
      have e2 : K.fall d.keep { d with left := (1 : Int) - 1 } = K.fall d.keep d := rfl
      have hF := fall_any c _ p mb l _ h1 o1 d.keep ho.k0 ho.k1
      rw [e2] at hF
      rw [e]
      rw [hf] at k2
      have HFA := hid hF
      have F1 := hid f1
      simp only [Int.sub_self] at HFA F1
      have k3' : (w.setCell ⟨p, 3, none⟩ (.int .i64 0)).cell? ⟨p, 4, none⟩ = some (.int .i64 d.keep) := by have := h1.k.2.2.2.1; simpa using this
      clear e h0 h ho h1 f1 o1 hf hF e2 hl
      go_enter Tryz.func46, Tryz.ntmps46
      go_wp2_with (first
        | (go_at_call 43; refine HFA.out.mono ?_; rintro e w2 ⟨⟨v2, rfl⟩, ht⟩; have HT := hid ht; clear ht))
      go_ret
      exact ⟨rfl, .inr ⟨trivial, HT.out.pre F1.out (fun k hk => .inl hk)⟩⟩

/-- the names are fine, or not -/
def badS (ss : List ByteArray) : Prop := ∃ s ∈ ss, K.bad s.data.toList
set_option maxHeartbeats 1600000 in
theorem ready_any (w : World) (p mb : Nat) (down : Bool) (c1 : w.cell? ⟨p, 2, none⟩ = some (.map (some mb))) (c4 : w.cell? ⟨p, 5, none⟩ = some (.bool down)) (b len bc : Nat) (ss : List ByteArray) (hlen : ss.length = len) (hl2 : len ≤ 2)
    (hs : ∀ k s, ss[k]? = some s → w.cell? ⟨b, k, none⟩ = some (.string s)) (hz : ∀ s ∈ ss, s.size ≤ maxLen) (R : Int) (r7 : down = true → R = 7) (r20 : down = false → badS ss → R = 20) (r0 : down = false → ¬ badS ss → R = 0) :
    Calls Tryz.prog 44 #[.pointer (some ⟨p, 0, none⟩), .slice (some ⟨b, 0, none⟩) len bc] w fun e w' => e = .returned (.int .i64 R) ∧ w = w' := by
  cases down with
  | true =>
    obtain rfl := r7 rfl
    clear r7 r20 r0 hs hz
    go_enter Tryz.func44, Tryz.ntmps44
    go_wp2_with (first
      | (go_at_call 27; refine (made_any _ p mb c1).mono ?_; rintro e w' ⟨rfl, rfl⟩))
    go_ret
    exact ⟨rfl, rfl⟩
  | false =>
    have R20 := hid (r20 rfl)
    have R0 := hid (r0 rfl)
    have HS := hid hs
    have HZ := hid hz
    have HL := hid hlen
    clear r7 r20 r0 hs hz hlen
    go_enter Tryz.func44, Tryz.ntmps44
    go_wp2_with (first
      | (go_at_call 27; refine (made_any _ p mb c1).mono ?_; rintro e w' ⟨rfl, rfl⟩))
    go_loop [16] (fun i => ∃ k : Nat, k ≤ len ∧ i = .int .i64 k ∧ ∀ (j : Nat) s, j < k → ss[j]? = some s → ¬ K.bad s.data.toList) (fun i => len - (intOf i).toNat)
    case atStart => exact ⟨0, by omega, rfl, fun j s hj => by omega⟩
    case round =>
      obtain ⟨k, hk, rfl, hb⟩ := hrel
      have HB := hid hb
      clear hb
      by_cases hkl : k < len
      · obtain ⟨s, hs⟩ : ∃ s, ss[k]? = some s := ⟨_, List.getElem?_eq_getElem (by rw [HL.out]; exact hkl)⟩
        have hc := HS.out k s hs
        have hm := List.mem_of_getElem? hs
        have hsz := HZ.out s hm
        have hml : s.data.toList.length = s.size := by simp
        unfold maxLen at hsz
        have hi : (k : Int) < len := by omega
        have HSS := hid hs
        have HM := hid hm
        have HML := hid hml
        clear hs hm hml
        by_cases hb0 : s.size = 0
        · have hbad := hid (show R = 20 from R20.out ⟨s, HM.out, by unfold K.bad; left; rw [HML.out]; exact hb0⟩)
          have e0 : ((s.size : Int) == 0) = true := by simp [hb0]
          go_wp2
          go_ret
          exact ⟨ret_int hbad.out.symm, rfl⟩
        · have e0 : ((s.size : Int) == 0) = false := by rw [beq_eq_false_iff_ne]; omega
          by_cases hb1 : 64 < s.size
          · have hbad := hid (show R = 20 from R20.out ⟨s, HM.out, by unfold K.bad; right; rw [HML.out]; exact hb1⟩)
            have e1 : (64 : Int) < s.size := by omega
            go_wp2
            go_ret
            exact ⟨ret_int hbad.out.symm, rfl⟩
          · have e1 : ¬ (64 : Int) < s.size := by omega
            go_wp2
            go_round
            case rel =>
              refine ⟨k + 1, by omega, by go_num, fun j s' hj hs' => ?_⟩
              by_cases hjk : j = k
              · subst hjk
                rw [HSS.out] at hs'
                cases hs'
                unfold K.bad
                rw [HML.out]
                omega
              · exact HB.out j s' (by omega) hs'
            case measure => simp [intOf]; omega
      · have hkk : k = len := by omega
        subst hkk
        have hr := hid (show R = 0 from R0.out (fun ⟨s, hs, hb⟩ => by
          obtain ⟨j, hj, rfl⟩ := List.mem_iff_getElem.1 hs
          exact HB.out j _ (by rw [HL.out] at hj; exact hj) (List.getElem?_eq_getElem hj) hb))
        go_wp2
        go_ret
        exact ⟨ret_int hr.out.symm, rfl⟩

end Go.Proofs.YtogdjhhabcejgaaGreat
