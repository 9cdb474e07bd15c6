/-
  What a script's operation does with a disk's files: errors change nothing, what is synced stays, at most its bytes are added; the law's 'look'.
-/
import Derived.Test.YtnfpceeacfdldaaKRun
namespace Go.Proofs.Ytnfpceeacfdldaa
open Go.RowKit Go.Maps
set_option linter.unusedVariables false

namespace K
theorem burn_down {d : DK} (h : (burn d).1 ≠ 0) : (burn d).1 = 7 := by
  rcases burn_cases d with ⟨h0, _⟩ | ⟨h0, _⟩
  · exact absurd h0 h
  · exact h0
theorem rdy_down {d : DK} {n : Nm} (h : rdy d n = 0) : d.down = false := (not_bad h).1
theorem fnd_rdy {d : DK} {n : Nm} (h : fnd d n = 0) : rdy d n = 0 ∧ ∃ f, get n d.fs = some f := by
  unfold fnd at h
  by_cases h0 : rdy d n = 0
  · refine ⟨h0, ?_⟩
    rw [if_neg (by simp [h0])] at h
    cases hg : get n d.fs with
    | none => rw [if_pos hg] at h; cases h
    | some f => exact ⟨f, rfl⟩
  · rw [if_pos h0] at h
    exact absurd h h0
theorem fnd_down {d : DK} {n : Nm} (h : fnd d n = 0) : d.down = false := rdy_down (fnd_rdy h).1
theorem rdy2_down {d : DK} {n m : Nm} (h : rdy2 d n m = 0) : d.down = false := by
  unfold rdy2 at h
  split at h
  · cases h
  · rename_i h1; simpa using h1
/-- an error changes nothing, but that a change crashed the disk in its midst -/
theorem run_err (d : DK) (o : Op) (h : (run d o).1 ≠ 0) : (run d o).2 = d ∨ ((run d o).1 = 7 ∧ d.down = false) := by
  have ha : ∀ n b, (app d n b).1 ≠ 0 → (app d n b).2 = d ∨ ((app d n b).1 = 7 ∧ d.down = false) := by
    intro n b hx
    unfold app at hx ⊢
    split
    · exact .inl rfl
    · rename_i h1
      split
      · exact .inl rfl
      · rename_i h2
        split
        · exact .inl rfl
        · rename_i h3
          rw [if_neg h1, if_neg h2, if_neg h3] at hx
          exact .inr ⟨burn_down hx, rdy_down (Classical.not_not.1 h1)⟩
  have hs : ∀ n, (syn d n).1 ≠ 0 → (syn d n).2 = d ∨ ((syn d n).1 = 7 ∧ d.down = false) := by
    intro n hx
    unfold syn at hx ⊢
    split
    · exact .inl rfl
    · rename_i h1
      split
      · rename_i h2; exact .inr ⟨burn_down h2, fnd_down (Classical.not_not.1 h1)⟩
      · rename_i h2; rw [if_neg h1, if_neg h2] at hx; exact absurd rfl hx
  have hr : ∀ n, (rem d n).1 ≠ 0 → (rem d n).2 = d ∨ ((rem d n).1 = 7 ∧ d.down = false) := by
    intro n hx
    unfold rem at hx ⊢
    split
    · exact .inl rfl
    · rename_i h1
      split
      · rename_i h2; exact .inr ⟨burn_down h2, fnd_down (Classical.not_not.1 h1)⟩
      · rename_i h2; rw [if_neg h1, if_neg h2] at hx; exact absurd rfl hx
  have hn : ∀ n m, (ren d n m).1 ≠ 0 → (ren d n m).2 = d ∨ ((ren d n m).1 = 7 ∧ d.down = false) := by
    intro n m hx
    unfold ren at hx ⊢
    split
    · exact .inl rfl
    · rename_i h1
      split
      · exact .inl rfl
      · rename_i h0
        split
        · rename_i h2; exact .inr ⟨burn_down h2, rdy2_down (Classical.not_not.1 h1)⟩
        · rename_i h2; rw [if_neg h1, if_neg h0, if_neg h2] at hx; exact absurd rfl hx
  have hf : ∀ k m, (fuse d k m).1 ≠ 0 → (fuse d k m).2 = d := by
    intro k m hx
    unfold fuse at hx ⊢
    split
    · rfl
    · rename_i h1
      split
      · rfl
      · rename_i h2; rw [if_neg h1, if_neg h2] at hx; exact absurd rfl hx
  have hc : ∀ k, (crash d k).1 ≠ 0 → (crash d k).2 = d := by
    intro k hx
    unfold crash at hx ⊢
    split
    · rfl
    · rename_i h1
      split
      · rfl
      · rename_i h2; rw [if_neg h1, if_neg h2] at hx; exact absurd rfl hx
  have ht : (restart d).1 ≠ 0 → (restart d).2 = d := by
    intro hx
    unfold restart at hx ⊢
    split
    · rename_i h1; rw [if_pos h1] at hx; exact absurd rfl hx
    · rfl
  revert h
  unfold run
  split
  · exact ha _ _
  split
  · exact hs _
  split
  · exact hr _
  split
  · exact hn _ _
  split
  · exact fun h => .inl (hf _ _ h)
  split
  · exact fun h => .inl (hc _ h)
  split
  · exact fun h => .inl (ht h)
  · exact fun h => absurd rfl h
/-- at most its bytes are added -/
theorem burn_used (d : DK) : (burn d).2.used ≤ d.used := by
  rcases burn_cases d with ⟨_, h, _⟩ | ⟨_, h⟩
  · unfold DK.used; rw [h]; exact Nat.le_refl _
  · rw [h]; exact used_fall _ _
theorem used_same {d d' : DK} (h : d'.fs = d.fs) : d'.used ≤ d.used := by unfold DK.used; rw [h]; exact Nat.le_refl _
theorem run_used (d : DK) (hu : Up d.fs) (o : Op) : (run d o).2.used ≤ d.used + o.b.length := by
  have hb := burn_used d
  unfold run
  split
  · unfold app
    split
    · exact Nat.le_add_right _ _
    split
    · exact Nat.le_add_right _ _
    split
    · exact Nat.le_add_right _ _
    · refine Nat.le_trans (burn_used _) ?_
      unfold DK.used
      rw [tot_add hu]
      exact Nat.le_refl _
  refine Nat.le_trans ?_ (Nat.le_add_right _ _)
  split
  · unfold syn
    split
    · exact Nat.le_refl _
    split
    · exact hb
    · cases hg : get o.nm d.fs with
      | none => exact Nat.le_refl _
      | some f =>
        have := tot_put F.len hu o.nm ⟨f.all, []⟩
        rw [hg] at this
        simp only [F.len, F.all, List.length_append, List.length_nil, Nat.add_zero] at this
        unfold DK.used
        exact Nat.le_of_eq (Nat.add_right_cancel this)
  split
  · unfold rem
    split
    · exact Nat.le_refl _
    split
    · exact hb
    · exact tot_del_le F.len hu o.nm
  split
  · unfold ren
    split
    · exact Nat.le_refl _
    split
    · exact Nat.le_refl _
    split
    · exact hb
    · cases hg : get o.nm d.fs with
      | none => exact Nat.le_refl _
      | some f =>
        have a := tot_put F.len (hu.del o.nm) o.to f
        have b := tot_del F.len hu o.nm
        rw [hg] at b
        simp only at b
        unfold DK.used
        simp only
        omega
  split
  · unfold fuse
    split
    · exact Nat.le_refl _
    split <;> exact Nat.le_refl _
  split
  · unfold crash
    split
    · exact Nat.le_refl _
    split
    · exact Nat.le_refl _
    · exact used_fall _ _
  split
  · unfold restart
    split <;> exact Nat.le_refl _
  · exact Nat.le_refl _
/-- a file has moved -/
def moved (o : Op) (n : Nm) : Prop := (o.do_ = 3 ∧ o.nm = n) ∨ (o.do_ = 4 ∧ (o.nm = n ∨ o.to = n))
/-- what is synced of a file is a beginning of what is synced later -/
def Keeps (l l' : List (Nm × F)) (n : Nm) : Prop := ∀ f, get n l = some f → ∃ f', get n l' = some f' ∧ f.sf <+: f'.sf
theorem Keeps.refl (l : List (Nm × F)) (n : Nm) : Keeps l l n := fun f h => ⟨f, h, List.prefix_refl _⟩
theorem Keeps.trans {a b c : List (Nm × F)} {n : Nm} (h : Keeps a b n) (k : Keeps b c n) : Keeps a c n := fun f hf => by
  obtain ⟨g, hg, p⟩ := h f hf
  obtain ⟨e, he, q⟩ := k g hg
  exact ⟨e, he, p.trans q⟩
theorem Keeps.fall (k : Int) (d : DK) (n : Nm) : Keeps d.fs (K.fall k d).fs n := fun f hf => by
  refine ⟨tear k f, ?_, List.prefix_append _ _⟩
  show get n (mp (tear k) d.fs) = _
  rw [get_mp, hf]
  rfl
theorem Keeps.burn (d : DK) (n : Nm) : Keeps d.fs (K.burn d).2.fs n := by
  rcases burn_cases d with ⟨_, h, _⟩ | ⟨_, h⟩
  · rw [h]; exact Keeps.refl _ _
  · rw [h]; exact Keeps.fall _ _ _
theorem run_stays (d : DK) (hu : Up d.fs) (o : Op) (n : Nm) (hm : ¬ moved o n) : Keeps d.fs (run d o).2.fs n := by
  unfold run
  split
  · unfold app
    split
    · exact Keeps.refl _ _
    split
    · exact Keeps.refl _ _
    split
    · exact Keeps.refl _ _
    · refine Keeps.trans (b := put o.nm (add (get o.nm d.fs) o.b) d.fs) ?_ (Keeps.burn { d with fs := put o.nm (add (get o.nm d.fs) o.b) d.fs } n)
      intro f hf
      by_cases e : n = o.nm
      · subst e
        exact ⟨_, get_put_same hu _ _, by rw [hf]; exact List.prefix_refl _⟩
      · exact ⟨f, by rw [get_put_other hu e]; exact hf, List.prefix_refl _⟩
  split
  · unfold syn
    split
    · exact Keeps.refl _ _
    split
    · exact Keeps.burn _ _
    · cases hg : get o.nm d.fs with
      | none => exact Keeps.refl _ _
      | some g =>
        intro f hf
        by_cases e : n = o.nm
        · subst e
          rw [hg] at hf
          cases hf
          exact ⟨_, get_put_same hu _ _, List.prefix_append _ _⟩
        · exact ⟨f, by rw [get_put_other hu e]; exact hf, List.prefix_refl _⟩
  split
  · rename_i h3
    unfold rem
    split
    · exact Keeps.refl _ _
    split
    · exact Keeps.burn _ _
    · intro f hf
      have e : n ≠ o.nm := fun e => hm (.inl ⟨h3, e.symm⟩)
      exact ⟨f, by rw [get_del_other hu e]; exact hf, List.prefix_refl _⟩
  split
  · rename_i h4
    unfold ren
    split
    · exact Keeps.refl _ _
    split
    · exact Keeps.refl _ _
    split
    · exact Keeps.burn _ _
    · cases hg : get o.nm d.fs with
      | none => exact Keeps.refl _ _
      | some g =>
        intro f hf
        have e : n ≠ o.nm := fun e => hm (.inr ⟨h4, .inl e.symm⟩)
        have e' : n ≠ o.to := fun e => hm (.inr ⟨h4, .inr e.symm⟩)
        exact ⟨f, by rw [get_put_other (hu.del _) e', get_del_other hu e]; exact hf, List.prefix_refl _⟩
  split
  · unfold fuse
    split
    · exact Keeps.refl _ _
    split <;> exact Keeps.refl _ _
  split
  · unfold crash
    split
    · exact Keeps.refl _ _
    split
    · exact Keeps.refl _ _
    · exact Keeps.fall _ _ _
  split
  · unfold restart
    split <;> exact Keeps.refl _ _
  · exact Keeps.refl _ _
theorem restart_fs (d : DK) : (restart d).2.fs = d.fs ∧ (restart d).2.down = false := by
  unfold restart
  by_cases h : d.down = true
  · rw [if_pos h]; exact ⟨rfl, rfl⟩
  · rw [if_neg h]; exact ⟨rfl, by simpa using h⟩
theorem fnd_restart {d : DK} (h : Ok d) (n : Nm) : (get n d.fs = none → fnd (restart d).2 n ≠ 0) ∧ (∀ f, get n d.fs = some f → fnd (restart d).2 n = 0) := by
  have ⟨h1, h2⟩ := restart_fs d
  constructor
  · intro hg h0
    obtain ⟨_, f, hf⟩ := fnd_rdy h0
    rw [h1, hg] at hf
    cases hf
  · intro f hg
    have hn := h.names _ (get_mem hg)
    have h0 := rdy_of (d := (restart d).2) h2 hn.1 hn.2
    unfold fnd
    rw [if_neg (by rw [h0]; simp), if_neg (by rw [h1, hg]; simp)]
end K

/-- what look answers -/
def Lk (d : K.DK) (n : K.Nm) (base : Nat) (e : Ending) (w' : World) : Prop :=
  (K.get n d.fs = none ∧ e = .returned (.tuple #[.slice none 0 0, .int .i64 0, .bool false])) ∨ ∃ f a c, K.get n d.fs = some f ∧ e = .returned (.tuple #[.slice a f.all.length c, .int .i64 (f.sf.length : Nat), .bool true]) ∧ Ow base w' a c f.all
set_option maxHeartbeats 1600000 in
theorem look_any {S : Nat → Prop} {w : World} {p : Nat} {d : K.DK} (h : Dk S w p d) (s : ByteArray) (hz : s.size ≤ maxLen) :
    Calls Try.prog 17 #[.pointer (some ⟨p, 0, none⟩), .string s] w fun e w' => Lk d s.data.toList w.heap.size e w' ∧ Fr (fun _ => False) w w' := by
  have KC := hid (clone_any h)
  have ho := h.2.1
  have HFR := hid (K.fnd_restart ho s.data.toList)
  have HRF := hid (K.restart_fs d)
  clear h ho
  have HZ := hid hz
  clear hz
  go_enter Try.func17, Try.ntmps17
  go_wp2_with fail
  refine KC.out.mono ?_
  rintro e w1 ⟨q, rfl, ht1⟩
  obtain ⟨S1, hd1, hS1, hf1, _⟩ := ht1.ge (b := w.heap.size) (fun _ h => h.elim) (Nat.le_refl _)
  have KR := hid (restart_any hd1)
  have HS1 := hid hS1
  have F1 := hid hf1
  obtain ⟨R, hR⟩ : ∃ R, K.restart d = R := ⟨_, rfl⟩
  rw [hR] at KR HFR HRF
  clear KC ht1 hd1 hS1 hf1 hR
  have hz1 := F1.out.size
  go_wp2_with fail
  refine KR.out.mono ?_
  rintro e w2 ⟨rfl, ht2⟩
  obtain ⟨S2, hd2, hS2, hf2, _⟩ := ht2.ge (b := w.heap.size) HS1.out hz1
  have F2 : Hid (Fr (fun _ => False) w w2) := hid (F1.out.trans hf2 (fun i hi h1 => by have := HS1.out i h1; omega))
  have KD := hid (read_any hd2 s HZ.out)
  have HD2 := hid hd2
  clear KR ht2 hd2 hS2 hf2
  have hz2 := F2.out.size
  go_wp2_with fail
  refine KD.out.mono ?_
  rintro e w3 ⟨hrr, hf3⟩
  have F3 := hid (F2.out.trans hf3 (fun _ _ h => h))
  have KS := hid (size_any (HD2.out.kept hf3 (fun _ _ h => h)) s HZ.out)
  clear hf3 KD
  rcases hrr with ⟨hne, rfl⟩ | ⟨h0, f, a, c, hg, rfl, hop⟩
  · have hb : (K.fnd R.2 s.data.toList == 0) = false := by simpa using hne
    have HNE := hid hne
    obtain ⟨er, her⟩ : ∃ er, K.fnd R.2 s.data.toList = er := ⟨_, rfl⟩
    rw [her] at hb ⊢
    clear her hne
    go_wp2_with fail
    refine KS.out.mono ?_
    rintro e w4 ⟨⟨_, rfl⟩ | ⟨h0, _⟩, hf4⟩
    · have F4 := hid (F3.out.trans hf4 (fun _ _ h => h))
      obtain ⟨er2, her2⟩ : ∃ er2, K.fnd R.2 s.data.toList = er2 := ⟨_, rfl⟩
      rw [her2]
      clear hf4 her2 KS
      go_wp2
      go_ret3
      refine ⟨.inl ⟨?_, rfl⟩, F4.out⟩
      cases hg : K.get s.data.toList d.fs with
      | none => rfl
      | some f => exact absurd (HFR.out.2 f hg) HNE.out
    · exact absurd h0 HNE.out
  · have HG := hid hg
    have HO := hid hop
    have H0 := hid h0
    obtain ⟨fl, hfl⟩ : ∃ fl, f.all.length = fl := ⟨_, rfl⟩
    rw [hfl]
    have HFL := hid hfl
    clear hg hop h0 hfl
    go_wp2_with fail
    refine KS.out.mono ?_
    rintro e w4 ⟨⟨hne, _⟩ | ⟨_, f', hg', rfl⟩, hf4⟩
    · exact absurd H0.out hne
    · have e1 : f' = f := by have := HG.out; rw [hg'] at this; cases this; rfl
      subst e1
      have F4 := hid (F3.out.trans hf4 (fun _ _ h => h))
      have HO4 := hid (HO.out.kept hf4 (fun _ _ h => h))
      obtain ⟨sl, hsl⟩ : ∃ sl, f'.sf.length = sl := ⟨_, rfl⟩
      obtain ⟨ln, hln⟩ : ∃ ln, f'.len = ln := ⟨_, rfl⟩
      rw [hsl, hln]
      have HSL := hid hsl
      clear hf4 hg' KS hsl hln
      go_wp2
      go_ret3
      exact ⟨.inr ⟨f', a, c, by rw [← HRF.out.1]; exact HG.out, by rw [HFL.out, HSL.out]; rfl, HO4.out.base (fun k hk => by have := (HO4.out.lt k hk).1; omega)⟩, F4.out⟩

end Go.Proofs.Ytnfpceeacfdldaa
