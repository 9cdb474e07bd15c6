/-
  The document's disk: blows, Used, find, looks.
  The document's disk: Used, find.
-/
import Derived.Test.YtogdjhhabcejgaaGreatRMemQ
namespace Go.Proofs.YtogdjhhabcejgaaGreat
open Go.RowKit Go.Maps
set_option linter.unusedVariables false

namespace K
/-- the fuse loses one -/
def blow (d : DK) : Bool × DK := if d.left = 0 then (false, d) else (decide (d.left = 1), { d with left := d.left - 1 })
theorem ok_blow {d : DK} (h : Ok d) : Ok (blow d).2 := by
  have := h.l0
  have := h.l1
  unfold blow
  split
  · exact h
  · exact ⟨h.up, h.files, h.names, h.r0, h.r1, by simp only; omega, by simp only; omega, h.k0, h.k1, h.ur, h.uc⟩
/-- how many of the names come before n -/
def pos (l : List (Nm × F)) (n : Nm) : Nat := (l.takeWhile (fun p => bytesBefore p.1 n)).length
theorem pos_le (l : List (Nm × F)) (n : Nm) : pos l n ≤ l.length := by
  unfold pos
  exact (List.takeWhile_prefix _).length_le
theorem pos_cons_true {x : Nm × F} {r : List (Nm × F)} {n : Nm} (h : bytesBefore x.1 n = true) : pos (x :: r) n = pos r n + 1 := by
  unfold pos
  rw [List.takeWhile_cons_of_pos (by simpa using h)]
  rfl
theorem pos_cons_false {x : Nm × F} {r : List (Nm × F)} {n : Nm} (h : bytesBefore x.1 n = false) : pos (x :: r) n = 0 := by
  unfold pos
  rw [List.takeWhile_cons_of_neg (by simp [h])]
  rfl
theorem pos_lt {l : List (Nm × F)} {n : Nm} {i : Nat} (h : i < pos l n) {p : Nm × F} (hp : l[i]? = some p) : bytesBefore p.1 n = true := by
  induction l generalizing i with
  | nil => simp at hp
  | cons x r ih =>
    cases hb : bytesBefore x.1 n with
    | true =>
      rw [pos_cons_true hb] at h
      cases i with
      | zero => simp at hp; subst hp; exact hb
      | succ i => simp at hp; exact ih (by omega) hp
    | false => rw [pos_cons_false hb] at h; omega
theorem pos_at {l : List (Nm × F)} {n : Nm} {p : Nm × F} (h : l[pos l n]? = some p) : bytesBefore p.1 n = false := by
  induction l with
  | nil => simp at h
  | cons x r ih =>
    cases hb : bytesBefore x.1 n with
    | true =>
      rw [pos_cons_true hb, List.getElem?_cons_succ] at h
      exact ih h
    | false =>
      rw [pos_cons_false hb] at h
      simp at h
      subst h
      exact hb
/-- the file at its place, or none there -/
theorem pos_get {l : List (Nm × F)} (hu : Up l) {n : Nm} {f : F} (h : get n l = some f) : l[pos l n]? = some (n, f) := by
  induction l with
  | nil => simp [get] at h
  | cons x r ih =>
    unfold Up at hu
    rw [List.pairwise_cons] at hu
    by_cases e : x.1 = n
    · rw [pos_cons_false (by rw [e]; exact bb_irrefl n)]
      have : get n (x :: r) = some x.2 := by simp [get, e]
      rw [this] at h
      cases h
      simp [← e]
    · have hg : get n (x :: r) = get n r := by simp [get, e]
      rw [hg] at h
      have hb : bytesBefore x.1 n = true := hu.1 _ (get_mem h)
      rw [pos_cons_true hb, List.getElem?_cons_succ]
      exact ih hu.2 h
theorem pos_none {l : List (Nm × F)} {n : Nm} (h : get n l = none) {p : Nm × F} (hp : l[pos l n]? = some p) : p.1 ≠ n :=
  get_none.1 h p (List.mem_of_getElem? hp)
/-- a new file is put at its place -/
theorem put_at {l : List (Nm × F)} (hu : Up l) {n : Nm} (h : get n l = none) (v : F) : put n v l = l.take (pos l n) ++ (n, v) :: l.drop (pos l n) := by
  have hd : del n l = l := by
    unfold del
    rw [List.filter_eq_self]
    intro p hp
    simpa using get_none.1 h p hp
  unfold put
  rw [hd]
  clear hd
  induction l with
  | nil => rfl
  | cons x r ih =>
    have hx : x.1 ≠ n := get_none.1 h x (by simp)
    have hr : get n r = none := get_none.2 (fun p hp => get_none.1 h p (by simp [hp]))
    unfold Up at hu
    rw [List.pairwise_cons] at hu
    unfold ins
    cases hb : bytesBefore x.1 n with
    | true =>
      have hb' : bytesBefore n x.1 = false := bb_asymm hb
      rw [if_neg (by simp [hb']), pos_cons_true hb, List.take_succ_cons, List.drop_succ_cons, ih hu.2 hr]
      rfl
    | false =>
      have hb' : bytesBefore n x.1 = true := by
        rcases bb_tri n x.1 with h1 | h1 | h1
        · exact h1
        · exact absurd h1.symm hx
        · rw [hb] at h1; cases h1
      rw [if_pos hb', pos_cons_false hb]
      rfl
/-- a file is gone -/
theorem del_at {l : List (Nm × F)} (hu : Up l) {n : Nm} {f : F} (h : get n l = some f) : del n l = l.take (pos l n) ++ l.drop (pos l n + 1) := by
  induction l with
  | nil => simp [get] at h
  | cons x r ih =>
    have hu' := hu
    unfold Up at hu
    rw [List.pairwise_cons] at hu
    by_cases e : x.1 = n
    · rw [pos_cons_false (by rw [e]; exact bb_irrefl n)]
      unfold del
      rw [List.filter_cons_of_neg (by simp [e])]
      simp only [List.take_zero, List.nil_append, Nat.zero_add, List.drop_succ_cons, List.drop_zero]
      rw [List.filter_eq_self]
      intro p hp
      have := bb_ne (hu.1 p hp)
      simp
      exact fun e2 => this (e.trans e2.symm)
    · have hg : get n (x :: r) = get n r := by simp [get, e]
      rw [hg] at h
      have hb : bytesBefore x.1 n = true := hu.1 _ (get_mem h)
      rw [pos_cons_true hb, List.take_succ_cons, List.drop_succ_cons]
      unfold del at ih ⊢
      rw [List.filter_cons_of_pos (by simp [e]), ih hu.2 h]
      rfl
theorem del_none {l : List (Nm × F)} {n : Nm} (h : get n l = none) : del n l = l := by
  unfold del
  rw [List.filter_eq_self]
  intro p hp
  simpa using get_none.1 h p hp
/-- one file is another one, at its place -/
theorem upd_at {l : List (Nm × F)} (hu : Up l) {n : Nm} {f : F} (h : get n l = some f) (v : F) : upd n v l = l.set (pos l n) (n, v) := by
  induction l with
  | nil => simp [get] at h
  | cons x r ih =>
    unfold Up at hu
    rw [List.pairwise_cons] at hu
    by_cases e : x.1 = n
    · rw [pos_cons_false (by rw [e]; exact bb_irrefl n)]
      unfold upd
      simp only [List.map_cons, List.set_cons_zero]
      rw [if_pos (by simpa using e)]
      congr 1
      · rw [e]
      · conv => rhs; rw [← List.map_id r]
        apply List.map_congr_left
        intro p hp
        have := bb_ne (hu.1 p hp)
        rw [if_neg (by simp; exact fun e2 => this (e.trans e2.symm))]
        rfl
    · have hg : get n (x :: r) = get n r := by simp [get, e]
      rw [hg] at h
      have hb : bytesBefore x.1 n = true := hu.1 _ (get_mem h)
      rw [pos_cons_true hb, List.set_cons_succ, ← ih hu.2 h]
      unfold upd
      simp [e]
end K

theorem Rm.len {w : World} {p : Nat} {fa : Option Addr} {fc : Nat} {l : List RM} {kp : Int} {d : K.DK} (h : Rm w p fa fc l kp d) : l.length = d.fs.length := by rw [← h.fs, List.length_map]
theorem Rm.getAt {w : World} {p : Nat} {fa : Option Addr} {fc : Nat} {l : List RM} {kp : Int} {d : K.DK} (h : Rm w p fa fc l kp d) {i : Nat} (hi : i < l.length) : ∃ m, l[i]? = some m ∧ d.fs[i]? = some m.kf ∧ m ∈ l := by
  refine ⟨l[i], List.getElem?_eq_getElem hi, ?_, List.getElem_mem hi⟩
  rw [← h.fs, List.getElem?_map, List.getElem?_eq_getElem hi]
  rfl
set_option maxHeartbeats 1600000 in
theorem rblows_any {S : Nat → Prop} {w : World} {p : Nat} {d : K.DK} (h : Rk S w p d) :
    Calls Tryz.prog 49 #[.pointer (some ⟨p, 0, none⟩)] w fun e w' => e = .returned (.bool (K.blow d).1) ∧ Rt S w p (K.blow d).2 w' := by
  have HK := hid h
  obtain ⟨h1, ho, fa, fc, l, kp, hm, h4, h5, h6⟩ := h
  have HOK := hid (K.ok_blow ho)
  have hl0 := ho.l0
  have hl1 := ho.l1
  obtain ⟨_, _, c2, _, _⟩ := hm.c
  have z2 := frozen_of_row (j := 2) hm.at_
  by_cases e0 : d.left = 0
  · have e : K.blow d = (false, d) := by unfold K.blow; rw [if_pos e0]
    rw [e]
    rw [e0] at c2
    clear h1 ho hm h4 h5 h6 e HOK hl0 hl1 e0
    go_enter Tryz.func49, Tryz.ntmps49
    go_wp2
    go_ret
    exact ⟨rfl, Rt.refl HK.out (Fr.refl _ _)⟩
  · have e : K.blow d = (decide (d.left = 1), { d with left := d.left - 1 }) := by unfold K.blow; rw [if_neg e0]
    rw [e] at HOK ⊢
    have hf : Fr (fun k => k = p) w (w.setCell ⟨p, 2, none⟩ (.int .i64 (d.left - 1))) := Fr.setCell (p := ⟨p, 2, none⟩) (S := fun k => k = p) (Fr.refl _ _) (fun _ => rfl) _
    have HT := hid (Rk.own (d := d) h1 (hm.own (d' := { d with left := d.left - 1 }) hf (by rw [setCell_row hm.at_]; rfl) hm.kp0 hm.kp1 (fun _ => hm.kpe e0) rfl) h4 h5 h6 hf HOK.out)
    obtain ⟨lf, hlf⟩ : ∃ lf, d.left = lf := ⟨_, rfl⟩
    rw [hlf] at c2 hl0 hl1 e0
    have HE := hid hlf
    have hb0 : (lf == 0) = false := by simpa using e0
    rw [hlf] at HT ⊢
    clear h1 ho hm h4 h5 h6 e hf hlf HOK
    by_cases e1 : lf = 1
    · subst e1
      go_enter Tryz.func49, Tryz.ntmps49
      go_wp2
      go_ret
      exact ⟨rfl, HT.out⟩
    · have hb1 : (lf - 1 == 0) = false := by simp; omega
      go_enter Tryz.func49, Tryz.ntmps49
      go_wp2
      go_ret
      exact ⟨ret_bool (by simp [e1]), HT.out⟩

end Go.Proofs.YtogdjhhabcejgaaGreat

namespace Go.Proofs.YtogdjhhabcejgaaGreat
open Go.RowKit Go.Maps
set_option linter.unusedVariables false

/-- the bytes of the first k files -/
def K.totTo (d : K.DK) (k : Nat) : Nat := K.tot K.F.len (d.fs.take k)
theorem K.totTo_next {d : K.DK} {k : Nat} {q : K.Nm × K.F} (h : d.fs[k]? = some q) : K.totTo d (k + 1) = K.totTo d k + q.2.len := by
  unfold K.totTo K.tot
  rw [List.take_add_one, h]
  simp
theorem K.totTo_le (d : K.DK) (k : Nat) : K.totTo d k ≤ d.used := by
  unfold K.totTo K.DK.used K.tot
  conv => rhs; rw [← List.take_append_drop k d.fs]
  rw [List.map_append, List.sum_append]
  exact Nat.le_add_right _ _
theorem K.totTo_all (d : K.DK) : K.totTo d d.fs.length = d.used := by unfold K.totTo K.DK.used; rw [List.take_length]
set_option maxHeartbeats 1600000 in
theorem rused_any {S : Nat → Prop} {w : World} {p : Nat} {d : K.DK} (h : Rk S w p d) :
    Calls Tryz.prog 9 #[.pointer (some ⟨p, 0, none⟩)] w fun e w' => e = .returned (.int .i64 (d.used : Nat)) ∧ w = w' := by
  obtain ⟨h1, ho, fa, fc, l, kp, hm, h4, h5, h6⟩ := h
  obtain ⟨_, c1, _, _, _⟩ := hm.c
  have huc := ho.uc
  have HM := hid hm
  have hfl := ho.files
  rw [← hm.len] at hfl
  obtain ⟨ln, hln⟩ : ∃ ln, l.length = ln := ⟨_, rfl⟩
  rw [hln] at c1 hfl
  have HLN := hid hln
  have HTA := hid (K.totTo_all d)
  unfold K.cap at huc
  clear h1 ho hm h4 h5 h6 hln
  go_enter Tryz.func9, Tryz.ntmps9
  go_wp2
  go_loop [3, 4] (fun t i => ∃ k : Nat, k ≤ ln ∧ i = .int .i64 k ∧ t = .int .i64 (K.totTo d k : Nat)) (fun _ i => ln - (intOf i).toNat)
  case atStart => exact ⟨0, by omega, rfl, rfl⟩
  case round =>
    obtain ⟨k, hk, rfl, rfl⟩ := hrel
    have hle := K.totTo_le d k
    by_cases hlt : k < ln
    · obtain ⟨m, hlm, hdm, hmem⟩ := HM.out.getAt (i := k) (by rw [HLN.out]; exact hlt)
      obtain ⟨g, rfl, q0, q1, q2⟩ := HM.out.row.at hlm
      have hnx := K.totTo_next hdm
      have hle2 := K.totTo_le d (k + 1)
      rw [show m.kf.2.len = m.b.length from m.len] at hnx
      have HNX := hid hnx
      obtain ⟨bl, hbl⟩ : ∃ bl, m.b.length = bl := ⟨_, rfl⟩
      rw [hbl] at q1 HNX hnx
      obtain ⟨tk, htk⟩ : ∃ tk, K.totTo d k = tk := ⟨_, rfl⟩
      rw [htk] at hle hnx ⊢
      rw [hnx] at hle2
      have HTK := hid htk
      clear hlm hdm hmem q0 q2 hbl htk hnx
      go_wp2
      go_round
      case rel => exact ⟨k + 1, by omega, by go_num, by rw [HNX.out, HTK.out]; go_num⟩
      case measure => simp [intOf]; omega
    · obtain rfl : k = ln := by omega
      have e : K.totTo d k = d.used := by rw [← HTA.out, ← HM.out.len, HLN.out]
      rw [e]
      clear e
      go_wp2
      go_ret
      exact ⟨rfl, rfl⟩
theorem bl_eq : ∀ a b : List UInt8, Op.bytesLess a b = bytesBefore a b
  | [], [] => rfl
  | [], _ :: _ => rfl
  | _ :: _, [] => rfl
  | x :: r, y :: t => by simp [Op.bytesLess, bytesBefore, bl_eq r t]
/-- what find answers -/
def rfnd (d : K.DK) (n : K.Nm) : Ending := .returned (.tuple #[.int .i64 (K.pos d.fs n : Nat), .bool (K.get n d.fs).isSome])
set_option maxHeartbeats 3200000 in
theorem rfind_any {S : Nat → Prop} {w : World} {p : Nat} {d : K.DK} (h : Rk S w p d) (s : ByteArray) :
    Calls Tryz.prog 48 #[.pointer (some ⟨p, 0, none⟩), .string s] w fun e w' => e = rfnd d s.data.toList ∧ ∃ n, w' = w.drewN n := by
  obtain ⟨h1, ho, fa, fc, l, kp, hm, h4, h5, h6⟩ := h
  obtain ⟨_, c1, _, _, _⟩ := hm.c
  have HM := hid hm
  have HO := hid ho
  have hfl := ho.files
  rw [← hm.len] at hfl
  have hpl := K.pos_le d.fs s.data.toList
  rw [← hm.len] at hpl
  obtain ⟨ln, hln⟩ : ∃ ln, l.length = ln := ⟨_, rfl⟩
  rw [hln] at c1 hfl hpl
  have HLN := hid hln
  obtain ⟨ps, hps⟩ : ∃ ps, K.pos d.fs s.data.toList = ps := ⟨_, rfl⟩
  rw [hps] at hpl
  have HPS := hid hps
  clear h1 ho hm h4 h5 h6 hln hps
  go_enter Tryz.func48, Tryz.ntmps48
  go_wp2
  go_loop [6] (fun i => ∃ k : Nat, k ≤ ps ∧ i = .int .i64 k) (fun i => ps - (intOf i).toNat)
  case atStart => exact ⟨0, by omega, rfl⟩
  case round =>
    obtain ⟨k, hk, rfl⟩ := hrel
    by_cases hlt : k < ln
    · obtain ⟨m, hlm, hdm, hmem⟩ := HM.out.getAt (i := k) (by rw [HLN.out]; exact hlt)
      obtain ⟨g, rfl, q0, q1, q2⟩ := HM.out.row.at hlm
      by_cases hlp : k < ps
      · have hb := K.pos_lt (by rw [HPS.out]; exact hlp) hdm
        rw [← bl_eq, ← ByteArray.toList_eq] at hb
        have hb' : Op.bytesLess m.nm s.toList = true := hb
        clear q1 q2 hb hlm hdm hmem
        go_wp2
        go_round
        case rel => exact ⟨k + 1, by omega, by go_num⟩
        case measure => simp [intOf]; omega
      · obtain rfl : k = ps := by omega
        have hb := K.pos_at (by rw [HPS.out]; exact hdm)
        rw [← bl_eq, ← ByteArray.toList_eq] at hb
        have hb' : Op.bytesLess m.nm s.toList = false := hb
        have hd1 : decide ((k : Int) < (ln : Int)) = true := by simp; omega
        have hd2 : decide (k < ln) = true := by simp; omega
        by_cases e : m.nm = s.data.toList
        · have hg : (K.get s.data.toList d.fs).isSome = true := by
            have hm2 : (s.data.toList, m.f) ∈ d.fs := by rw [← e]; exact List.mem_of_getElem? hdm
            rw [K.get_of_mem HO.out.up hm2]
            rfl
          have HG := hid hg
          have he : (m.nm == s.toList) = true := by rw [ByteArray.toList_eq]; simpa using e
          clear q1 q2 hb hlm hdm hmem hg e
          go_wp2
          go_quiet (fail)
          go_wp2
          go_ret2
          exact ⟨by unfold rfnd; rw [HPS.out, HG.out]; rfl, _, rfl⟩
        · have hg : (K.get s.data.toList d.fs).isSome = false := by
            cases hx : K.get s.data.toList d.fs with
            | none => rfl
            | some f =>
              have h2 := K.pos_get HO.out.up hx
              rw [HPS.out, hdm] at h2
              simp only [Option.some.injEq, RM.kf, Prod.mk.injEq] at h2
              exact absurd h2.1 e
          have HG := hid hg
          have he : (m.nm == s.toList) = false := by rw [ByteArray.toList_eq]; simpa using e
          clear q1 q2 hb hlm hdm hmem hg e
          go_wp2
          go_quiet (fail)
          go_wp2
          go_ret2
          exact ⟨by unfold rfnd; rw [HPS.out, HG.out]; rfl, _, rfl⟩
    · obtain rfl : k = ln := by omega
      obtain rfl : k = ps := by omega
      have hg : (K.get s.data.toList d.fs).isSome = false := by
        cases hx : K.get s.data.toList d.fs with
        | none => rfl
        | some f =>
          have h2 := K.pos_get HO.out.up hx
          rw [HPS.out, ← HLN.out, HM.out.len, List.getElem?_eq_none (Nat.le_refl _)] at h2
          cases h2
      have HG := hid hg
      have hd1 : decide ((k : Int) < (k : Int)) = false := by simp
      clear hg
      go_wp2
      go_quiet (fail)
      go_wp2
      go_ret2
      exact ⟨by unfold rfnd; rw [HPS.out, HG.out]; rfl, _, rfl⟩

end Go.Proofs.YtogdjhhabcejgaaGreat
