/-
  The disk of the document, plainly: what each operation does with it.
-/
import Derived.Test.YtogdjhhabcejgaaGreatKMaths
namespace Go.Proofs.YtogdjhhabcejgaaGreat
set_option linter.unusedVariables false
namespace K

/-- a file: what is synced, and its tail -/
structure F where
  sf : List UInt8
  tl : List UInt8
def F.len (f : F) : Nat := f.sf.length + f.tl.length
def F.all (f : F) : List UInt8 := f.sf ++ f.tl
/-- a disk -/
structure DK where
  room : Int
  fs : List (Nm × F)
  left : Int
  keep : Int
  down : Bool
def DK.used (d : DK) : Nat := tot F.len d.fs
abbrev cap : Nat := 200000000000000
structure Ok (d : DK) : Prop where
  up : Up d.fs
  files : d.fs.length ≤ 1024
  names : ∀ p ∈ d.fs, 0 < p.1.length ∧ p.1.length ≤ 64
  r0 : 0 ≤ d.room
  r1 : d.room ≤ 9223372036854775807
  l0 : 0 ≤ d.left
  l1 : d.left ≤ 9223372036854775807
  k0 : 0 ≤ d.keep
  k1 : d.keep ≤ 9223372036854775807
  ur : (d.used : Int) ≤ d.room
  uc : d.used ≤ cap

def bad (n : Nm) : Prop := n.length = 0 ∨ 64 < n.length
instance (n : Nm) : Decidable (bad n) := by unfold bad; infer_instance
def tear (k : Int) (f : F) : F := ⟨f.sf ++ f.tl.take k.toNat, []⟩
def fall (k : Int) (d : DK) : DK := { d with fs := mp (tear k) d.fs, left := 0, keep := 0, down := true }
def burn (d : DK) : Int × DK := if d.left = 0 then (0, d) else if 1 < d.left then (0, { d with left := d.left - 1 }) else (7, fall d.keep d)
def mk (room : Int) : DK := ⟨room, [], 0, 0, false⟩
/-- what is wrong ahead of all else -/
def rdy (d : DK) (n : Nm) : Int := if d.down = true then 7 else if bad n then 20 else 0
def rdy2 (d : DK) (n m : Nm) : Int := if d.down = true then 7 else if bad n then 20 else if bad m then 20 else 0
/-- .. and where the file must be there -/
def fnd (d : DK) (n : Nm) : Int := if rdy d n ≠ 0 then rdy d n else if get n d.fs = none then 4 else 0
/-- the file, with bytes at its end -/
def add (o : Option F) (b : List UInt8) : F := match o with | some f => ⟨f.sf, f.tl ++ b⟩ | none => ⟨[], b⟩
def app (d : DK) (n : Nm) (b : List UInt8) : Int × DK :=
  if rdy d n ≠ 0 then (rdy d n, d) else if get n d.fs = none ∧ 1024 ≤ d.fs.length then (3, d) else if d.room < d.used + b.length then (6, d) else burn { d with fs := put n (add (get n d.fs) b) d.fs }
def syn (d : DK) (n : Nm) : Int × DK :=
  if fnd d n ≠ 0 then (fnd d n, d) else if (burn d).1 ≠ 0 then burn d else (0, { (burn d).2 with fs := match get n d.fs with | some f => put n ⟨f.all, []⟩ d.fs | none => d.fs })
def rem (d : DK) (n : Nm) : Int × DK :=
  if fnd d n ≠ 0 then (fnd d n, d) else if (burn d).1 ≠ 0 then burn d else (0, { (burn d).2 with fs := del n d.fs })
def ren (d : DK) (n m : Nm) : Int × DK :=
  if rdy2 d n m ≠ 0 then (rdy2 d n m, d) else if get n d.fs = none then (4, d) else if (burn d).1 ≠ 0 then burn d else (0, { (burn d).2 with fs := match get n d.fs with | some f => put m f (del n d.fs) | none => d.fs })
def fuse (d : DK) (k keep : Int) : Int × DK := if k < 0 ∨ keep < 0 then (1, d) else if d.down = true then (7, d) else (0, { d with left := k, keep := keep })
def crash (d : DK) (keep : Int) : Int × DK := if keep < 0 then (1, d) else if d.down = true then (7, d) else (0, fall keep d)
def restart (d : DK) : Int × DK := if d.down = true then (0, { d with down := false }) else (1, d)

theorem len_tear (k : Int) (f : F) : (tear k f).len ≤ f.len := by
  simp [tear, F.len]; omega
theorem used_fall (k : Int) (d : DK) : (fall k d).used ≤ d.used := by
  unfold DK.used fall
  simp only
  rw [tot_mp]
  exact tot_le (fun p _ => len_tear k p.2)
theorem ok_fall {d : DK} (h : Ok d) (k : Int) : Ok (fall k d) := by
  have hu := used_fall k d
  refine ⟨h.up.mp _, by rw [show (fall k d).fs = mp (tear k) d.fs from rfl, length_mp]; exact h.files, ?_, h.r0, h.r1, Int.le_refl _, (by decide : (0 : Int) ≤ 9223372036854775807), Int.le_refl _, (by decide : (0 : Int) ≤ 9223372036854775807), ?_, ?_⟩
  · intro p hp
    obtain ⟨q, hq, rfl⟩ := mem_mp.1 hp
    exact h.names q hq
  · have := h.ur
    show ((fall k d).used : Int) ≤ d.room
    omega
  · have := h.uc
    omega
theorem ok_burn {d : DK} (h : Ok d) : Ok (burn d).2 := by
  have := h.l0
  have := h.l1
  unfold burn
  by_cases h0 : d.left = 0
  · rw [if_pos h0]; exact h
  · rw [if_neg h0]
    by_cases h1 : 1 < d.left
    · rw [if_pos h1]
      exact ⟨h.up, h.files, h.names, h.r0, h.r1, by simp only; omega, by simp only; omega, h.k0, h.k1, h.ur, h.uc⟩
    · rw [if_neg h1]; exact ok_fall h _
theorem burn_cases (d : DK) : ((burn d).1 = 0 ∧ (burn d).2.fs = d.fs ∧ (burn d).2.down = d.down ∧ (burn d).2.room = d.room ∧ (burn d).2.keep = d.keep) ∨ ((burn d).1 = 7 ∧ (burn d).2 = fall d.keep d) := by
  unfold burn
  by_cases h0 : d.left = 0
  · rw [if_pos h0]; exact .inl ⟨rfl, rfl, rfl, rfl, rfl⟩
  · rw [if_neg h0]
    by_cases h1 : 1 < d.left
    · rw [if_pos h1]; exact .inl ⟨rfl, rfl, rfl, rfl, rfl⟩
    · rw [if_neg h1]; exact .inr ⟨rfl, rfl⟩
/-- other files, as long as they are fine -/
theorem ok_fs {d : DK} (h : Ok d) {fs : List (Nm × F)} (u : Up fs) (l : fs.length ≤ 1024) (n : ∀ p ∈ fs, 0 < p.1.length ∧ p.1.length ≤ 64) (t : (tot F.len fs : Int) ≤ d.room) (c : tot F.len fs ≤ cap) : Ok { d with fs := fs } :=
  ⟨u, l, n, h.r0, h.r1, h.l0, h.l1, h.k0, h.k1, t, c⟩
theorem not_bad {d : DK} {n : Nm} (h : rdy d n = 0) : d.down = false ∧ 0 < n.length ∧ n.length ≤ 64 := by
  unfold rdy at h
  split at h
  · cases h
  · split at h
    · cases h
    · rename_i h1 h2
      unfold bad at h2
      exact ⟨by simpa using h1, by omega, by omega⟩
theorem rdy_of {d : DK} {n : Nm} (h0 : d.down = false) (h1 : 0 < n.length) (h2 : n.length ≤ 64) : rdy d n = 0 := by
  unfold rdy
  rw [if_neg (by simp [h0]), if_neg (by unfold bad; omega)]
theorem tot_add {l : List (Nm × F)} (h : Up l) (n : Nm) (b : List UInt8) : tot F.len (put n (add (get n l) b) l) = tot F.len l + b.length := by
  have := tot_put F.len h n (add (get n l) b)
  cases hg : get n l with
  | none =>
    rw [hg] at this
    simp only [add, F.len, List.length_nil, Nat.zero_add, Nat.add_zero] at this ⊢
    exact this
  | some f =>
    rw [hg] at this
    simp only [add, F.len, List.length_append] at this ⊢
    omega
theorem ok_app {d : DK} (h : Ok d) (n : Nm) (b : List UInt8) (hc : d.used + b.length ≤ cap) : Ok (app d n b).2 := by
  unfold app
  split
  · exact h
  · rename_i h1
    split
    · exact h
    · rename_i h2
      split
      · exact h
      · rename_i h3
        have hn := not_bad (Classical.not_not.1 h1)
        apply ok_burn
        have ht := tot_add h.up n b
        unfold DK.used at h3 hc
        refine ok_fs h (h.up.put _ _) ?_ ?_ (by rw [ht]; omega) (by rw [ht]; exact hc)
        · rw [length_put h.up]
          have := h.files
          split
          · rename_i hg; simp only [hg, true_and] at h2; omega
          · exact this
        · intro p hp
          rcases mem_put.1 hp with rfl | ⟨hp, _⟩
          · exact hn.2
          · exact h.names p hp
theorem burn_fs {d : DK} (h : (burn d).1 = 0) : (burn d).2.fs = d.fs ∧ (burn d).2.down = d.down := by
  rcases burn_cases d with ⟨_, h1, h2, _⟩ | ⟨h1, _⟩
  · exact ⟨h1, h2⟩
  · rw [h] at h1; cases h1
theorem burn_room (d : DK) : (burn d).2.room = d.room := by
  rcases burn_cases d with ⟨_, _, _, h, _⟩ | ⟨_, h⟩
  · exact h
  · rw [h]; rfl
theorem ok_syn {d : DK} (h : Ok d) (n : Nm) : Ok (syn d n).2 := by
  have hb := ok_burn h
  unfold syn
  split
  · exact h
  · split
    · exact hb
    · rename_i h2
      have h2 := Classical.not_not.1 h2
      cases hg : get n d.fs with
      | none =>
        have := burn_fs h2
        simp only
        rw [← this.1]
        exact hb
      | some f =>
        simp only
        have hm := get_mem hg
        have ht : tot F.len (put n ⟨f.all, []⟩ d.fs) = tot F.len d.fs := by
          have := tot_put F.len h.up n ⟨f.all, []⟩
          rw [hg] at this
          simp only [F.len, F.all, List.length_append, List.length_nil, Nat.add_zero] at this
          exact Nat.add_right_cancel this
        refine ok_fs hb (h.up.put _ _) (by rw [length_put h.up, if_neg (by simp [hg])]; exact h.files) ?_ (by rw [ht, burn_room]; exact h.ur) (by rw [ht]; exact h.uc)
        intro p hp
        rcases mem_put.1 hp with rfl | ⟨hp, _⟩
        · exact h.names (n, f) hm
        · exact h.names p hp
theorem ok_rem {d : DK} (h : Ok d) (n : Nm) : Ok (rem d n).2 := by
  have hb := ok_burn h
  unfold rem
  split
  · exact h
  · split
    · exact hb
    · have ht := tot_del_le F.len h.up n
      have := h.ur
      have := h.uc
      unfold DK.used at *
      exact ok_fs hb (h.up.del n) (Nat.le_trans (length_del_le _ _) h.files) (fun p hp => h.names p (mem_del.1 hp).1) (by rw [burn_room]; omega) (by omega)
theorem ok_ren {d : DK} (h : Ok d) (n m : Nm) : Ok (ren d n m).2 := by
  have hb := ok_burn h
  unfold ren
  split
  · exact h
  · rename_i h0
    split
    · exact h
    · rename_i h1
      split
      · exact hb
      · rename_i h2
        have h2 := Classical.not_not.1 h2
        cases hg : get n d.fs with
        | none => exact absurd hg h1
        | some f =>
          simp only
          have hm : 0 < m.length ∧ m.length ≤ 64 := by
            have h0 := Classical.not_not.1 h0
            unfold rdy2 at h0
            split at h0
            · cases h0
            · split at h0
              · cases h0
              · split at h0
                · cases h0
                · rename_i h3
                  unfold bad at h3
                  omega
          have ht : tot F.len (put m f (del n d.fs)) ≤ tot F.len d.fs := by
            have a := tot_put F.len (h.up.del n) m f
            have b := tot_del F.len h.up n
            rw [hg] at b
            simp only at b
            omega
          have := h.ur
          have := h.uc
          unfold DK.used at *
          refine ok_fs hb ((h.up.del n).put _ _) ?_ ?_ (by rw [burn_room]; omega) (by omega)
          · have e := length_del_lt h.up hg
            have := h.files
            rw [length_put (h.up.del n)]
            split <;> omega
          · intro p hp
            rcases mem_put.1 hp with rfl | ⟨hp, _⟩
            · exact hm
            · exact h.names p (mem_del.1 hp).1
theorem ok_fuse {d : DK} (h : Ok d) (k keep : Int) (hk : k ≤ 9223372036854775807) (hp : keep ≤ 9223372036854775807) : Ok (fuse d k keep).2 := by
  unfold fuse
  split
  · exact h
  · split
    · exact h
    · exact ⟨h.up, h.files, h.names, h.r0, h.r1, by simp only; omega, hk, by simp only; omega, hp, h.ur, h.uc⟩
theorem ok_crash {d : DK} (h : Ok d) (keep : Int) : Ok (crash d keep).2 := by
  unfold crash
  split
  · exact h
  · split
    · exact h
    · exact ok_fall h keep
theorem ok_restart {d : DK} (h : Ok d) : Ok (restart d).2 := by
  unfold restart
  split
  · exact ⟨h.up, h.files, h.names, h.r0, h.r1, h.l0, h.l1, h.k0, h.k1, h.ur, h.uc⟩
  · exact h
theorem ok_mk {room : Int} (h0 : 0 ≤ room) (h1 : room ≤ 9223372036854775807) : Ok (mk room) :=
  ⟨List.Pairwise.nil, Nat.zero_le _, by simp [mk], h0, h1, Int.le_refl _, (by decide : (0 : Int) ≤ 9223372036854775807), Int.le_refl _, (by decide : (0 : Int) ≤ 9223372036854775807), h0, Nat.zero_le _⟩

end K
end Go.Proofs.YtogdjhhabcejgaaGreat
