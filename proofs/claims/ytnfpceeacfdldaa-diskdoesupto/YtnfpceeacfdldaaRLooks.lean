/-
  The document's disk: looks, there, Read, Size.
-/
import Derived.Test.YtnfpceeacfdldaaRFind2
namespace Go.Proofs.Ytnfpceeacfdldaa
open Go.RowKit Go.Maps
set_option linter.unusedVariables false

theorem Rk.c4 {S : Nat → Prop} {w : World} {p : Nat} {d : K.DK} (h : Rk S w p d) : w.cell? ⟨p, 4, none⟩ = some (.bool d.down) := by
  obtain ⟨_, _, fa, fc, l, kp, hm, _⟩ := h
  exact hm.c.2.2.2.2
set_option maxHeartbeats 1600000 in
theorem rlooks_any (w : World) (p : Nat) (down : Bool) (c4 : w.cell? ⟨p, 4, none⟩ = some (.bool down)) (b len bc : Nat) (ss : List ByteArray) (hlen : ss.length = len) (hl2 : len ≤ 2)
    (hs : ∀ k s, ss[k]? = some s → w.cell? ⟨b, k, none⟩ = some (.string s)) (hz : ∀ s ∈ ss, s.size ≤ maxLen) (R : Int) (r7 : down = true → R = 7) (r20 : down = false → badS ss → R = 20) (r0 : down = false → ¬ badS ss → R = 0) :
    Calls Try.prog 58 #[.pointer (some ⟨p, 0, none⟩), .slice (some ⟨b, 0, none⟩) len bc] w fun e w' => e = .returned (.int .i64 R) ∧ w = w' := by
  cases down with
  | true =>
    obtain rfl := r7 rfl
    clear r7 r20 r0 hs hz
    go_enter Try.func58, Try.ntmps58
    go_wp2
    go_ret
    exact ⟨rfl, rfl⟩
  | false =>
    have R20 := hid (r20 rfl)
    have R0 := hid (r0 rfl)
    have HS := hid hs
    have HZ := hid hz
    have HL := hid hlen
    clear r7 r20 r0 hs hz hlen
    go_enter Try.func58, Try.ntmps58
    go_wp2
    go_loop [5] (fun i => ∃ k : Nat, k ≤ len ∧ i = .int .i64 k ∧ ∀ (j : Nat) s, j < k → ss[j]? = some s → ¬ K.bad s.data.toList) (fun i => len - (intOf i).toNat)
    case atStart => exact ⟨0, by omega, rfl, fun j s hj => by omega⟩
    case round =>
      obtain ⟨k, hk, rfl, hb⟩ := hrel
      have HB := hid hb
      clear hb
      by_cases hkl : k < len
      · obtain ⟨s, hs⟩ : ∃ s, ss[k]? = some s := ⟨_, List.getElem?_eq_getElem (by rw [HL.out]; exact hkl)⟩
        have hc := HS.out k s hs
        have hm := List.mem_of_getElem? hs
        have hsz := HZ.out s hm
        have hml : s.data.toList.length = s.size := by simp
        unfold maxLen at hsz
        have hi : (k : Int) < len := by omega
        have HSS := hid hs
        have HM := hid hm
        have HML := hid hml
        clear hs hm hml
        by_cases hb0 : s.size = 0
        · have hbad := hid (show R = 20 from R20.out ⟨s, HM.out, by unfold K.bad; left; rw [HML.out]; exact hb0⟩)
          have e0 : (s.toList == []) = true := by rw [ByteArray.toList_eq]; have h0 : s.data.toList = [] := List.eq_nil_of_length_eq_zero (by rw [HML.out]; exact hb0); rw [h0]; rfl
          go_wp2
          go_ret
          exact ⟨ret_int hbad.out.symm, rfl⟩
        · have e0 : (s.toList == []) = false := by rw [ByteArray.toList_eq, beq_eq_false_iff_ne]; intro h0; apply hb0; rw [← HML.out, h0]; rfl
          by_cases hb1 : 64 < s.size
          · have hbad := hid (show R = 20 from R20.out ⟨s, HM.out, by unfold K.bad; right; rw [HML.out]; exact hb1⟩)
            have e1 : (64 : Int) < s.size := by omega
            go_wp2
            go_ret
            exact ⟨ret_int hbad.out.symm, rfl⟩
          · have e1 : ¬ (64 : Int) < s.size := by omega
            go_wp2
            go_round
            case rel =>
              refine ⟨k + 1, by omega, by go_num, fun j s' hj hs' => ?_⟩
              by_cases hjk : j = k
              · subst hjk
                rw [HSS.out] at hs'
                cases hs'
                unfold K.bad
                rw [HML.out]
                omega
              · exact HB.out j s' (by omega) hs'
            case measure => simp [intOf]; omega
      · have hkk : k = len := by omega
        subst hkk
        have hr := hid (show R = 0 from R0.out (fun ⟨s, hs, hb⟩ => by
          obtain ⟨j, hj, rfl⟩ := List.mem_iff_getElem.1 hs
          exact HB.out j _ (by rw [HL.out] at hj; exact hj) (List.getElem?_eq_getElem hj) hb))
        go_wp2
        go_ret
        exact ⟨ret_int hr.out.symm, rfl⟩

theorem rlooks1 {S : Nat → Prop} {w : World} {p : Nat} {d : K.DK} (h : Rk S w p d) (s : ByteArray) (hz : s.size ≤ maxLen) (W : World) (b bc : Nat) (hf : Fr (fun _ => False) w W) (hb : W.cell? ⟨b, 0, none⟩ = some (.string s)) :
    Calls Try.prog 58 #[.pointer (some ⟨p, 0, none⟩), .slice (some ⟨b, 0, none⟩) 1 bc] W fun e w' => e = .returned (.int .i64 (K.rdy d s.data.toList)) ∧ W = w' := by
  refine rlooks_any W p d.down (cell_fr hf (fun h => h) h.c4) b 1 bc [s] rfl (by omega) ?_ (by simpa using hz) _ ?_ ?_ ?_
  · intro k x hx
    match k, hx with
    | 0, hx => simp at hx; subst hx; exact hb
  · intro e; unfold K.rdy; rw [if_pos e]
  · rintro e ⟨x, hx, hbx⟩
    simp at hx
    subst hx
    unfold K.rdy
    rw [if_neg (by simp [e]), if_pos hbx]
  · intro e hn
    unfold K.rdy
    rw [if_neg (by simp [e]), if_neg (fun hb => hn ⟨s, by simp, hb⟩)]
theorem rlooks2 {S : Nat → Prop} {w : World} {p : Nat} {d : K.DK} (h : Rk S w p d) (s t : ByteArray) (hz : s.size ≤ maxLen) (hzt : t.size ≤ maxLen) (W : World) (b bc : Nat) (hf : Fr (fun _ => False) w W) (hb : W.cell? ⟨b, 0, none⟩ = some (.string s)) (hb1 : W.cell? ⟨b, 1, none⟩ = some (.string t)) :
    Calls Try.prog 58 #[.pointer (some ⟨p, 0, none⟩), .slice (some ⟨b, 0, none⟩) 2 bc] W fun e w' => e = .returned (.int .i64 (K.rdy2 d s.data.toList t.data.toList)) ∧ W = w' := by
  refine rlooks_any W p d.down (cell_fr hf (fun h => h) h.c4) b 2 bc [s, t] rfl (by omega) ?_ (by simpa using ⟨hz, hzt⟩) _ ?_ ?_ ?_
  · intro k x hx
    match k, hx with
    | 0, hx => simp at hx; subst hx; exact hb
    | 1, hx => simp at hx; subst hx; exact hb1
  · intro e; unfold K.rdy2; rw [if_pos e]
  · rintro e ⟨x, hx, hbx⟩
    simp at hx
    unfold K.rdy2
    rw [if_neg (by simp [e])]
    by_cases hs : K.bad s.data.toList
    · rw [if_pos hs]
    · rw [if_neg hs]
      rcases hx with rfl | rfl
      · exact absurd hbx hs
      · rw [if_pos hbx]
  · intro e hn
    unfold K.rdy2
    rw [if_neg (by simp [e]), if_neg (fun hb => hn ⟨s, by simp, hb⟩), if_neg (fun hb => hn ⟨t, by simp, hb⟩)]


/-- what there answers: the file's place, or what is wrong -/
def rth (d : K.DK) (n : K.Nm) (R : Int) : Ending := .returned (.tuple (if R = 0 then #[.int .i64 (K.pos d.fs n : Nat), .int .i64 0] else #[.int .i64 0, .int .i64 R]))
theorem rth_ok {d : K.DK} {n : K.Nm} {R : Int} (h : R = 0) : rth d n R = .returned (.tuple #[.int .i64 (K.pos d.fs n : Nat), .int .i64 0]) := by unfold rth; rw [if_pos h]
theorem rth_no {d : K.DK} {n : K.Nm} {R : Int} (h : R ≠ 0) : rth d n R = .returned (.tuple #[.int .i64 0, .int .i64 R]) := by unfold rth; rw [if_neg h]
/-- there, at whatever names: what looks says of them all is known -/
theorem rthere_of {S : Nat → Prop} {w : World} {p : Nat} {d : K.DK} (h : Rk S w p d) (s : ByteArray) (W : World) (b len bc : Nat) (hl : 0 < len) (hl2 : len ≤ 2) (hf : Fr (fun _ => False) w W) (hb : W.cell? ⟨b, 0, none⟩ = some (.string s)) (R : Int)
    (HL : Calls Try.prog 58 #[.pointer (some ⟨p, 0, none⟩), .slice (some ⟨b, 0, none⟩) len bc] W fun e w' => e = .returned (.int .i64 R) ∧ W = w') :
    Calls Try.prog 62 #[.pointer (some ⟨p, 0, none⟩), .slice (some ⟨b, 0, none⟩) len bc] W fun e w' => e = rth d s.data.toList (if R ≠ 0 then R else if K.get s.data.toList d.fs = none then 4 else 0) ∧ Fr (fun _ => False) W w' := by
  have KF := hid (rfind_any (h.kept hf (fun _ _ h => h)) s)
  have HLK := hid HL
  have hi : (0 : Int) < (len : Int) := by omega
  clear h HL
  by_cases hr : R = 0
  · subst hr
    rw [if_neg (by simp)]
    cases hg : K.get s.data.toList d.fs with
    | none =>
      rw [if_pos rfl, rth_no (by decide)]
      unfold rfnd at KF
      rw [hg] at KF
      simp only [Option.isSome_none] at KF
      generalize K.pos d.fs s.data.toList = ps at KF
      clear hg
      go_enter Try.func62, Try.ntmps62
      go_wp2_with (first
        | (go_at_call 58; refine HLK.out.mono ?_; rintro e w1 ⟨rfl, rfl⟩)
        | (go_at_call 59; refine KF.out.mono ?_; rintro e w2 ⟨rfl, n2, rfl⟩))
      go_ret2
      exact ⟨rfl, Fr.drewN _ _⟩
    | some f =>
      rw [if_neg (by simp), rth_ok rfl]
      unfold rfnd at KF
      rw [hg] at KF
      simp only [Option.isSome_some] at KF
      generalize K.pos d.fs s.data.toList = ps at KF ⊢
      clear hg
      go_enter Try.func62, Try.ntmps62
      go_wp2_with (first
        | (go_at_call 58; refine HLK.out.mono ?_; rintro e w1 ⟨rfl, rfl⟩)
        | (go_at_call 59; refine KF.out.mono ?_; rintro e w2 ⟨rfl, n2, rfl⟩))
      go_ret2
      exact ⟨rfl, Fr.drewN _ _⟩
  · rw [if_pos hr, rth_no hr]
    have hb0 : (R == 0) = false := by simpa using hr
    clear hr KF
    go_enter Try.func62, Try.ntmps62
    go_wp2_with (first
      | (go_at_call 58; refine HLK.out.mono ?_; rintro e w1 ⟨rfl, rfl⟩))
    go_ret2
    exact ⟨rfl, Fr.refl _ _⟩
theorem rthere1 {S : Nat → Prop} {w : World} {p : Nat} {d : K.DK} (h : Rk S w p d) (s : ByteArray) (hz : s.size ≤ maxLen) (W : World) (b bc : Nat) (hf : Fr (fun _ => False) w W) (hb : W.cell? ⟨b, 0, none⟩ = some (.string s)) :
    Calls Try.prog 62 #[.pointer (some ⟨p, 0, none⟩), .slice (some ⟨b, 0, none⟩) 1 bc] W fun e w' => e = rth d s.data.toList (K.fnd d s.data.toList) ∧ Fr (fun _ => False) W w' :=
  rthere_of h s W b 1 bc (by omega) (by omega) hf hb _ (rlooks1 h s hz W b bc hf hb)

end Go.Proofs.Ytnfpceeacfdldaa
