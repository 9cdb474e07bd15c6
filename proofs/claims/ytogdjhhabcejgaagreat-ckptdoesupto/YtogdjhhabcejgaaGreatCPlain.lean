/-
  What Save leaves behind on a disk that only Save has written to, with a fuse or without, and what is then read.
-/
import Derived.Test.YtogdjhhabcejgaaGreatCMaths
namespace Go.Proofs.YtogdjhhabcejgaaGreat
set_option linter.unusedVariables false
namespace C

/-- the files of a disk that has a checkpoint, or none -/
def fsOf : Option (List UInt8) → List (K.Nm × K.F)
  | none => []
  | some y => [(ck, ⟨y, []⟩)]
theorem get_nw (o : Option (List UInt8)) : K.get nw (fsOf o) = none := by cases o <;> rfl
theorem put_nw (o : Option (List UInt8)) (g : K.F) : K.put nw g (fsOf o) = fsOf o ++ [(nw, g)] := by cases o <;> rfl
theorem get_nw2 (o : Option (List UInt8)) (g : K.F) : K.get nw (fsOf o ++ [(nw, g)]) = some g := by cases o <;> rfl
theorem put_nw2 (o : Option (List UInt8)) (g g' : K.F) : K.put nw g' (fsOf o ++ [(nw, g)]) = fsOf o ++ [(nw, g')] := by cases o <;> rfl
theorem del_nw2 (o : Option (List UInt8)) (g : K.F) : K.del nw (fsOf o ++ [(nw, g)]) = fsOf o := by cases o <;> rfl
theorem put_ck (o : Option (List UInt8)) (y : List UInt8) : K.put ck ⟨y, []⟩ (fsOf o) = fsOf (some y) := by cases o <;> rfl
theorem get_ck (o : Option (List UInt8)) : K.get ck (fsOf o) = o.map (fun y => ⟨y, []⟩) := by cases o <;> rfl
theorem len_of (o : Option (List UInt8)) : (fsOf o).length ≤ 1 := by cases o <;> simp [fsOf]
theorem tear_of (k : Int) (o : Option (List UInt8)) (g : K.F) : K.mp (K.tear k) (fsOf o ++ [(nw, g)]) = fsOf o ++ [(nw, K.tear k g)] := by
  cases o <;> simp [fsOf, K.mp, K.tear]
theorem used_of (o : Option (List UInt8)) : K.tot K.F.len (fsOf o) = (o.getD []).length := by
  cases o <;> simp [fsOf, K.tot, K.F.len]
theorem rdy_nw {d : K.DK} (h : d.down = false) : K.rdy d nw = 0 := K.rdy_of h (by decide) (by decide)
theorem rdy_ck {d : K.DK} (h : d.down = false) : K.rdy d ck = 0 := K.rdy_of h (by decide) (by decide)
theorem fnd_nw2 {d : K.DK} {o : Option (List UInt8)} {g : K.F} (h : d.fs = fsOf o ++ [(nw, g)]) (hd : d.down = false) : K.fnd d nw = 0 := by
  unfold K.fnd
  rw [if_neg (by simp [rdy_nw hd]), if_neg (by rw [h, get_nw2]; simp)]
theorem tidy_of {d : K.DK} {o : Option (List UInt8)} (h : d.fs = fsOf o) : tidy d = (0, d) := by
  unfold tidy
  rw [if_pos (by rw [h]; exact get_nw o)]
theorem tidy_two {d : K.DK} {o : Option (List UInt8)} {g : K.F} (h : d.fs = fsOf o ++ [(nw, g)]) (hd : d.down = false) (hl : d.left = 0) : tidy d = (0, { d with fs := fsOf o }) := by
  have hb : K.burn d = (0, d) := by unfold K.burn; rw [if_pos hl]
  unfold tidy
  rw [if_neg (by rw [h, get_nw2]; simp)]
  unfold K.rem
  rw [if_neg (by simp [fnd_nw2 h hd]), hb, if_neg (by simp)]
  simp only
  rw [h, del_nw2]
theorem app_of {d : K.DK} {o : Option (List UInt8)} (h : d.fs = fsOf o) (hd : d.down = false) (x : List UInt8) :
    K.app d nw x = if d.room < d.used + x.length then (6, d) else K.burn { d with fs := fsOf o ++ [(nw, ⟨[], x⟩)] } := by
  have hl := len_of o
  unfold K.app
  rw [if_neg (by simp [rdy_nw hd]), if_neg (by rw [h]; omega), h, get_nw o, put_nw]
  rfl
theorem syn_of {d : K.DK} {o : Option (List UInt8)} {g : K.F} (h : d.fs = fsOf o ++ [(nw, g)]) (hd : d.down = false) :
    K.syn d nw = if (K.burn d).1 ≠ 0 then K.burn d else (0, { (K.burn d).2 with fs := fsOf o ++ [(nw, ⟨g.all, []⟩)] }) := by
  unfold K.syn
  rw [if_neg (by simp [fnd_nw2 h hd]), h, get_nw2]
  simp only
  rw [put_nw2]
theorem ren_of {d : K.DK} {o : Option (List UInt8)} {y : List UInt8} (h : d.fs = fsOf o ++ [(nw, ⟨y, []⟩)]) (hd : d.down = false) :
    K.ren d nw ck = if (K.burn d).1 ≠ 0 then K.burn d else (0, { (K.burn d).2 with fs := fsOf (some y) }) := by
  unfold K.ren
  have hr : K.rdy2 d nw ck = 0 := by
    unfold K.rdy2
    rw [if_neg (by simp [hd]), if_neg (by unfold K.bad; decide), if_neg (by unfold K.bad; decide)]
  rw [if_neg (by simp [hr]), if_neg (by rw [h, get_nw2]; simp), h, get_nw2]
  simp only
  rw [del_nw2, put_ck]
/-- a change that a fuse lets be, or in which it crashes the disk -/
theorem burn_of {d : K.DK} {o : Option (List UInt8)} {g : K.F} (h : d.fs = fsOf o ++ [(nw, g)]) (hl : 0 ≤ d.left) :
    (∃ l, K.burn d = (0, { d with left := l }) ∧ (d.left = 0 → l = 0) ∧ (1 < d.left → l = d.left - 1) ∧ 0 ≤ l) ∨ (d.left = 1 ∧ K.burn d = (7, { d with fs := fsOf o ++ [(nw, K.tear d.keep g)], left := 0, keep := 0, down := true })) := by
  unfold K.burn
  by_cases h0 : d.left = 0
  · rw [if_pos h0]
    exact .inl ⟨d.left, rfl, fun h => h, fun h => by omega, hl⟩
  · rw [if_neg h0]
    by_cases h1 : 1 < d.left
    · rw [if_pos h1]
      exact .inl ⟨d.left - 1, rfl, fun h => by omega, fun _ => rfl, by omega⟩
    · rw [if_neg h1]
      refine .inr ⟨by omega, ?_⟩
      unfold K.fall
      rw [h, tear_of]

/-- WHAT SAVE LEAVES: nothing has changed (no room); the disk has crashed, with a file ckpt.new beside what was; the new one. -/
inductive Left (d : K.DK) (o : Option (List UInt8)) (x : List UInt8) : Int × K.DK → Prop where
  | full : d.room < d.used + x.length → Left d o x (6, d)
  | fell : ∀ g, d.left ≠ 0 → d.left < 4 → Left d o x (7, { d with fs := fsOf o ++ [(nw, g)], left := 0, keep := 0, down := true })
  | done : ∀ l, ¬ d.room < d.used + x.length → 0 ≤ l → (d.left = 0 → l = 0) → Left d o x (0, { d with fs := fsOf (some x), left := l })
theorem put_left {d : K.DK} {o : Option (List UInt8)} (h : d.fs = fsOf o) (hd : d.down = false) (hl : 0 ≤ d.left) (x : List UInt8) : Left d o x (put d x) := by
  unfold put
  rw [tidy_of h]
  simp only
  rw [if_neg (by simp), app_of h hd]
  by_cases hf : d.room < d.used + x.length
  · rw [if_pos hf, if_pos (by simp)]
    exact .full hf
  · rw [if_neg hf]
    rcases burn_of (d := { d with fs := fsOf o ++ [(nw, ⟨[], x⟩)] }) rfl hl with ⟨l1, e1, z1, y1, p1⟩ | ⟨hone, e1⟩
    · simp only at z1 y1
      rw [e1, if_neg (by simp)]
      simp only
      rw [syn_of (d := { d with fs := fsOf o ++ [(nw, ⟨[], x⟩)], left := l1 }) rfl hd]
      rcases burn_of (d := { d with fs := fsOf o ++ [(nw, ⟨[], x⟩)], left := l1 }) rfl p1 with ⟨l2, e2, z2, y2, p2⟩ | ⟨hone, e2⟩
      · simp only at z2 y2
        rw [e2]
        simp only
        rw [if_neg (by simp), if_neg (by simp)]
        simp only
        rw [show (K.F.all ⟨[], x⟩) = x from rfl, ren_of (d := { d with fs := fsOf o ++ [(nw, ⟨x, []⟩)], left := l2 }) rfl hd]
        rcases burn_of (d := { d with fs := fsOf o ++ [(nw, ⟨x, []⟩)], left := l2 }) rfl p2 with ⟨l3, e3, z3, y3, p3⟩ | ⟨hone, e3⟩
        · simp only at z3 y3
          rw [e3, if_neg (by simp)]
          exact .done l3 hf p3 (fun h => z3 (z2 (z1 h)))
        · simp only at hone
          rw [e3, if_pos (by simp)]
          refine .fell _ (fun h => ?_) ?_
          · have := z2 (z1 h); omega
          · by_cases h1 : 1 < d.left
            · have := y1 h1
              by_cases h2 : 1 < l1
              · have := y2 h2; omega
              · omega
            · omega
      · simp only at hone
        rw [e2]
        simp only
        rw [if_pos (by simp), if_pos (by simp)]
        refine .fell _ (fun h => ?_) ?_
        · have := z1 h; omega
        · by_cases h1 : 1 < d.left
          · have := y1 h1; omega
          · omega
    · simp only at hone
      rw [e1, if_pos (by simp)]
      exact .fell _ (by omega) (by omega)

/-- what is read of a disk that is started again where it is down -/
def st (d : K.DK) : Int × List UInt8 × Int := (load (K.restart d).2).1
/-- .. of a disk with these files -/
def say : Option (List UInt8) → Int × List UInt8 × Int
  | none => (0, [], 4)
  | some y => dec y
theorem read_of {d : K.DK} {o : Option (List UInt8)} (h : d.fs = fsOf o) (hd : d.down = false) : read d = say o := by
  have hg := get_ck o
  rw [← h] at hg
  unfold read K.fnd file
  rw [hg]
  cases o with
  | none => simp [rdy_ck hd, say]
  | some y => simp [rdy_ck hd, say, K.F.all]
theorem load_of {d : K.DK} {o : Option (List UInt8)} (h : d.fs = fsOf o) (hd : d.down = false) : load d = (say o, d) := by
  unfold load
  rw [tidy_of h]
  simp only
  rw [if_neg (by simp), read_of h hd]
theorem restart_up (d : K.DK) : (K.restart d).2 = { d with down := false } := by
  unfold K.restart
  by_cases h : d.down = true
  · rw [if_pos h]
  · rw [if_neg h]
    obtain ⟨a, b, c, e, f⟩ := d
    simp only at h ⊢
    simp at h
    rw [h]
theorem st_of {d : K.DK} {o : Option (List UInt8)} (h : d.fs = fsOf o) : st d = say o := by
  unfold st
  rw [restart_up, load_of (d := { d with down := false }) (o := o) h rfl]
theorem st_two {d : K.DK} {o : Option (List UInt8)} {g : K.F} (h : d.fs = fsOf o ++ [(nw, g)]) (hl : d.left = 0) : st d = say o := by
  unfold st load
  rw [restart_up, tidy_two (d := { d with down := false }) (o := o) (g := g) h rfl hl]
  simp only
  rw [if_neg (by simp)]
  exact read_of (d := { d with fs := fsOf o, down := false }) rfl rfl

/-- in one step: what is read behind a Save is what was read ahead of it, and then Save has told an error; or it is the new one -/
theorem one_step {d : K.DK} {o : Option (List UInt8)} (h : d.fs = fsOf o) (hd : d.down = false) (hl : 0 ≤ d.left) (s : Int) (b : List UInt8) :
    (st (save d s b).2 = say o ∧ (save d s b).1 ≠ 0) ∨ (st (save d s b).2 = (s, b, 0) ∧ (save d s b).1 = 0) := by
  unfold save
  by_cases hc : chk s b.length = 0
  · rw [if_neg (by simp [hc])]
    have hp := put_left h hd hl (enc s b).1
    generalize put d (enc s b).1 = R at hp ⊢
    cases hp with
    | full => exact .inl ⟨st_of h, by simp⟩
    | fell g => exact .inl ⟨st_two (o := o) (g := g) rfl rfl, by simp⟩
    | done l =>
      refine .inr ⟨?_, rfl⟩
      rw [st_of (o := some (enc s b).1) rfl]
      exact dec_enc hc
  · rw [if_pos hc]
    exact .inl ⟨st_of h, hc⟩
/-- Saves alone, without a fuse -/
theorem save_zero {d : K.DK} {o : Option (List UInt8)} (h : d.fs = fsOf o) (hd : d.down = false) (hl : d.left = 0) (s : Int) (b : List UInt8) :
    (save d s b).2 = d ∨ (chk s b.length = 0 ∧ (save d s b).2 = { d with fs := fsOf (some (enc s b).1) }) := by
  unfold save
  by_cases hc : chk s b.length = 0
  · rw [if_neg (by simp [hc])]
    have hp := put_left h hd (by omega) (enc s b).1
    generalize put d (enc s b).1 = R at hp ⊢
    cases hp with
    | full => exact .inl rfl
    | fell g h0 => exact absurd hl h0
    | done l _ _ hz =>
      have := hz hl
      subst this
      refine .inr ⟨hc, ?_⟩
      rw [← hl]
  · rw [if_pos hc]
    exact .inl rfl
/-- a Save that has room, and a fuse that is long enough or none -/
theorem save_ok {d : K.DK} {o : Option (List UInt8)} (h : d.fs = fsOf o) (hd : d.down = false) (hl : d.left = 0 ∨ 4 ≤ d.left) (s : Int) (b : List UInt8) (hr : (d.used : Int) + 524322 ≤ d.room) :
    (chk s b.length ≠ 0 ∧ save d s b = (chk s b.length, d)) ∨ (chk s b.length = 0 ∧ ∃ l, save d s b = (0, { d with fs := fsOf (some (enc s b).1), left := l }) ∧ (d.left = 0 → l = 0)) := by
  unfold save
  by_cases hc : chk s b.length = 0
  · rw [if_neg (by simp [hc])]
    have hp := put_left h hd (by omega) (enc s b).1
    have hn := enc_length s b
    generalize put d (enc s b).1 = R at hp ⊢
    cases hp with
    | full hf => exact absurd hf (by omega)
    | fell g h0 h1 => exact absurd hl (by omega)
    | done l _ _ hz => exact .inr ⟨hc, l, rfl, hz⟩
  · rw [if_pos hc]
    exact .inl ⟨hc, rfl⟩

end C
end Go.Proofs.YtogdjhhabcejgaaGreat
