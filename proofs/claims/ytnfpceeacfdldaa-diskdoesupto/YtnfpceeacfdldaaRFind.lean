/-
  The document's disk: blows, Used, find, looks.
-/
import Derived.Test.YtnfpceeacfdldaaRMem
namespace Go.Proofs.Ytnfpceeacfdldaa
open Go.RowKit Go.Maps
set_option linter.unusedVariables false

namespace K
/-- the fuse loses one -/
def blow (d : DK) : Bool × DK := if d.left = 0 then (false, d) else (decide (d.left = 1), { d with left := d.left - 1 })
theorem ok_blow {d : DK} (h : Ok d) : Ok (blow d).2 := by
  have := h.l0
  have := h.l1
  unfold blow
  split
  · exact h
  · exact ⟨h.up, h.files, h.names, h.r0, h.r1, by simp only; omega, by simp only; omega, h.k0, h.k1, h.ur, h.uc⟩
/-- how many of the names come before n -/
def pos (l : List (Nm × F)) (n : Nm) : Nat := (l.takeWhile (fun p => bytesBefore p.1 n)).length
theorem pos_le (l : List (Nm × F)) (n : Nm) : pos l n ≤ l.length := by
  unfold pos
  exact (List.takeWhile_prefix _).length_le
theorem pos_cons_true {x : Nm × F} {r : List (Nm × F)} {n : Nm} (h : bytesBefore x.1 n = true) : pos (x :: r) n = pos r n + 1 := by
  unfold pos
  rw [List.takeWhile_cons_of_pos (by simpa using h)]
  rfl
theorem pos_cons_false {x : Nm × F} {r : List (Nm × F)} {n : Nm} (h : bytesBefore x.1 n = false) : pos (x :: r) n = 0 := by
  unfold pos
  rw [List.takeWhile_cons_of_neg (by simp [h])]
  rfl
theorem pos_lt {l : List (Nm × F)} {n : Nm} {i : Nat} (h : i < pos l n) {p : Nm × F} (hp : l[i]? = some p) : bytesBefore p.1 n = true := by
  induction l generalizing i with
  | nil => simp at hp
  | cons x r ih =>
    cases hb : bytesBefore x.1 n with
    | true =>
      rw [pos_cons_true hb] at h
      cases i with
      | zero => simp at hp; subst hp; exact hb
      | succ i => simp at hp; exact ih (by omega) hp
    | false => rw [pos_cons_false hb] at h; omega
theorem pos_at {l : List (Nm × F)} {n : Nm} {p : Nm × F} (h : l[pos l n]? = some p) : bytesBefore p.1 n = false := by
  induction l with
  | nil => simp at h
  | cons x r ih =>
    cases hb : bytesBefore x.1 n with
    | true =>
      rw [pos_cons_true hb, List.getElem?_cons_succ] at h
      exact ih h
    | false =>
      rw [pos_cons_false hb] at h
      simp at h
      subst h
      exact hb
/-- the file at its place, or none there -/
theorem pos_get {l : List (Nm × F)} (hu : Up l) {n : Nm} {f : F} (h : get n l = some f) : l[pos l n]? = some (n, f) := by
  induction l with
  | nil => simp [get] at h
  | cons x r ih =>
    unfold Up at hu
    rw [List.pairwise_cons] at hu
    by_cases e : x.1 = n
    · rw [pos_cons_false (by rw [e]; exact bb_irrefl n)]
      have : get n (x :: r) = some x.2 := by simp [get, e]
      rw [this] at h
      cases h
      simp [← e]
    · have hg : get n (x :: r) = get n r := by simp [get, e]
      rw [hg] at h
      have hb : bytesBefore x.1 n = true := hu.1 _ (get_mem h)
      rw [pos_cons_true hb, List.getElem?_cons_succ]
      exact ih hu.2 h
theorem pos_none {l : List (Nm × F)} {n : Nm} (h : get n l = none) {p : Nm × F} (hp : l[pos l n]? = some p) : p.1 ≠ n :=
  get_none.1 h p (List.mem_of_getElem? hp)
/-- a new file is put at its place -/
theorem put_at {l : List (Nm × F)} (hu : Up l) {n : Nm} (h : get n l = none) (v : F) : put n v l = l.take (pos l n) ++ (n, v) :: l.drop (pos l n) := by
  have hd : del n l = l := by
    unfold del
    rw [List.filter_eq_self]
    intro p hp
    simpa using get_none.1 h p hp
  unfold put
  rw [hd]
  clear hd
  induction l with
  | nil => rfl
  | cons x r ih =>
    have hx : x.1 ≠ n := get_none.1 h x (by simp)
    have hr : get n r = none := get_none.2 (fun p hp => get_none.1 h p (by simp [hp]))
    unfold Up at hu
    rw [List.pairwise_cons] at hu
    unfold ins
    cases hb : bytesBefore x.1 n with
    | true =>
      have hb' : bytesBefore n x.1 = false := bb_asymm hb
      rw [if_neg (by simp [hb']), pos_cons_true hb, List.take_succ_cons, List.drop_succ_cons, ih hu.2 hr]
      rfl
    | false =>
      have hb' : bytesBefore n x.1 = true := by
        rcases bb_tri n x.1 with h1 | h1 | h1
        · exact h1
        · exact absurd h1.symm hx
        · rw [hb] at h1; cases h1
      rw [if_pos hb', pos_cons_false hb]
      rfl
/-- a file is gone -/
theorem del_at {l : List (Nm × F)} (hu : Up l) {n : Nm} {f : F} (h : get n l = some f) : del n l = l.take (pos l n) ++ l.drop (pos l n + 1) := by
  induction l with
  | nil => simp [get] at h
  | cons x r ih =>
    have hu' := hu
    unfold Up at hu
    rw [List.pairwise_cons] at hu
    by_cases e : x.1 = n
    · rw [pos_cons_false (by rw [e]; exact bb_irrefl n)]
      unfold del
      rw [List.filter_cons_of_neg (by simp [e])]
      simp only [List.take_zero, List.nil_append, Nat.zero_add, List.drop_succ_cons, List.drop_zero]
      rw [List.filter_eq_self]
      intro p hp
      have := bb_ne (hu.1 p hp)
      simp
      exact fun e2 => this (e.trans e2.symm)
    · have hg : get n (x :: r) = get n r := by simp [get, e]
      rw [hg] at h
      have hb : bytesBefore x.1 n = true := hu.1 _ (get_mem h)
      rw [pos_cons_true hb, List.take_succ_cons, List.drop_succ_cons]
      unfold del at ih ⊢
      rw [List.filter_cons_of_pos (by simp [e]), ih hu.2 h]
      rfl
theorem del_none {l : List (Nm × F)} {n : Nm} (h : get n l = none) : del n l = l := by
  unfold del
  rw [List.filter_eq_self]
  intro p hp
  simpa using get_none.1 h p hp
/-- one file is another one, at its place -/
theorem upd_at {l : List (Nm × F)} (hu : Up l) {n : Nm} {f : F} (h : get n l = some f) (v : F) : upd n v l = l.set (pos l n) (n, v) := by
  induction l with
  | nil => simp [get] at h
  | cons x r ih =>
    unfold Up at hu
    rw [List.pairwise_cons] at hu
    by_cases e : x.1 = n
    · rw [pos_cons_false (by rw [e]; exact bb_irrefl n)]
      unfold upd
      simp only [List.map_cons, List.set_cons_zero]
      rw [if_pos (by simpa using e)]
      congr 1
      · rw [e]
      · conv => rhs; rw [← List.map_id r]
        apply List.map_congr_left
        intro p hp
        have := bb_ne (hu.1 p hp)
        rw [if_neg (by simp; exact fun e2 => this (e.trans e2.symm))]
        rfl
    · have hg : get n (x :: r) = get n r := by simp [get, e]
      rw [hg] at h
      have hb : bytesBefore x.1 n = true := hu.1 _ (get_mem h)
      rw [pos_cons_true hb, List.set_cons_succ, ← ih hu.2 h]
      unfold upd
      simp [e]
end K

theorem Rm.len {w : World} {p : Nat} {fa : Option Addr} {fc : Nat} {l : List RM} {kp : Int} {d : K.DK} (h : Rm w p fa fc l kp d) : l.length = d.fs.length := by rw [← h.fs, List.length_map]
theorem Rm.getAt {w : World} {p : Nat} {fa : Option Addr} {fc : Nat} {l : List RM} {kp : Int} {d : K.DK} (h : Rm w p fa fc l kp d) {i : Nat} (hi : i < l.length) : ∃ m, l[i]? = some m ∧ d.fs[i]? = some m.kf ∧ m ∈ l := by
  refine ⟨l[i], List.getElem?_eq_getElem hi, ?_, List.getElem_mem hi⟩
  rw [← h.fs, List.getElem?_map, List.getElem?_eq_getElem hi]
  rfl
set_option maxHeartbeats 1600000 in
theorem rblows_any {S : Nat → Prop} {w : World} {p : Nat} {d : K.DK} (h : Rk S w p d) :
    Calls Try.prog 60 #[.pointer (some ⟨p, 0, none⟩)] w fun e w' => e = .returned (.bool (K.blow d).1) ∧ Rt S w p (K.blow d).2 w' := by
  have HK := hid h
  obtain ⟨h1, ho, fa, fc, l, kp, hm, h4, h5, h6⟩ := h
  have HOK := hid (K.ok_blow ho)
  have hl0 := ho.l0
  have hl1 := ho.l1
  obtain ⟨_, _, c2, _, _⟩ := hm.c
  have z2 := frozen_of_row (j := 2) hm.at_
  by_cases e0 : d.left = 0
  · have e : K.blow d = (false, d) := by unfold K.blow; rw [if_pos e0]
    rw [e]
    rw [e0] at c2
    clear h1 ho hm h4 h5 h6 e HOK hl0 hl1 e0
    go_enter Try.func60, Try.ntmps60
    go_wp2
    go_ret
    exact ⟨rfl, Rt.refl HK.out (Fr.refl _ _)⟩
  · have e : K.blow d = (decide (d.left = 1), { d with left := d.left - 1 }) := by unfold K.blow; rw [if_neg e0]
    rw [e] at HOK ⊢
    have hf : Fr (fun k => k = p) w (w.setCell ⟨p, 2, none⟩ (.int .i64 (d.left - 1))) := Fr.setCell (p := ⟨p, 2, none⟩) (S := fun k => k = p) (Fr.refl _ _) (fun _ => rfl) _
    have HT := hid (Rk.own (d := d) h1 (hm.own (d' := { d with left := d.left - 1 }) hf (by rw [setCell_row hm.at_]; rfl) hm.kp0 hm.kp1 (fun _ => hm.kpe e0) rfl) h4 h5 h6 hf HOK.out)
    obtain ⟨lf, hlf⟩ : ∃ lf, d.left = lf := ⟨_, rfl⟩
    rw [hlf] at c2 hl0 hl1 e0
    have HE := hid hlf
    have hb0 : (lf == 0) = false := by simpa using e0
    rw [hlf] at HT ⊢
    clear h1 ho hm h4 h5 h6 e hf hlf HOK
    by_cases e1 : lf = 1
    · subst e1
      go_enter Try.func60, Try.ntmps60
      go_wp2
      go_ret
      exact ⟨rfl, HT.out⟩
    · have hb1 : (lf - 1 == 0) = false := by simp; omega
      go_enter Try.func60, Try.ntmps60
      go_wp2
      go_ret
      exact ⟨ret_bool (by simp [e1]), HT.out⟩

end Go.Proofs.Ytnfpceeacfdldaa
