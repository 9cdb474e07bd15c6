/-
  The contracts of a disk: ready at one and two names, find, New, Room, Down.
  The contracts of a disk: Used, Read.
-/
import Derived.Test.YtogdjhhabcejgaaGreatKOps2Q
namespace Go.Proofs.YtogdjhhabcejgaaGreat
open Go.RowKit Go.Maps
set_option linter.unusedVariables false

theorem ready1 {c : Cl} {w : World} {p mb : Nat} {l : List (K.Nm × FM)} {d : K.DK} (h : Dm c w p mb l d) (s : ByteArray) (hz : s.size ≤ maxLen) (W : World) (b bc : Nat) (hf : Fr (fun _ => False) w W) (hb : W.cell? ⟨b, 0, none⟩ = some (.string s)) :
    Calls Tryz.prog 44 #[.pointer (some ⟨p, 0, none⟩), .slice (some ⟨b, 0, none⟩) 1 bc] W fun e w' => e = .returned (.int .i64 (K.rdy d s.data.toList)) ∧ W = w' := by
  refine ready_any W p mb d.down (cell_fr hf (fun h => h) h.k.2.1) (cell_fr hf (fun h => h) h.k.2.2.2.2) b 1 bc [s] rfl (by omega) ?_ (by simpa using hz) _ ?_ ?_ ?_
  · intro k x hx
    match k, hx with
    | 0, hx => simp at hx; subst hx; exact hb
  · intro e; unfold K.rdy; rw [if_pos e]
  · rintro e ⟨x, hx, hbx⟩
    simp at hx
    subst hx
    unfold K.rdy
    rw [if_neg (by simp [e]), if_pos hbx]
  · intro e hn
    unfold K.rdy
    rw [if_neg (by simp [e]), if_neg (fun hb => hn ⟨s, by simp, hb⟩)]
theorem ready2 {c : Cl} {w : World} {p mb : Nat} {l : List (K.Nm × FM)} {d : K.DK} (h : Dm c w p mb l d) (s t : ByteArray) (hz : s.size ≤ maxLen) (hzt : t.size ≤ maxLen) (W : World) (b bc : Nat) (hf : Fr (fun _ => False) w W) (hb : W.cell? ⟨b, 0, none⟩ = some (.string s)) (hb1 : W.cell? ⟨b, 1, none⟩ = some (.string t)) :
    Calls Tryz.prog 44 #[.pointer (some ⟨p, 0, none⟩), .slice (some ⟨b, 0, none⟩) 2 bc] W fun e w' => e = .returned (.int .i64 (K.rdy2 d s.data.toList t.data.toList)) ∧ W = w' := by
  refine ready_any W p mb d.down (cell_fr hf (fun h => h) h.k.2.1) (cell_fr hf (fun h => h) h.k.2.2.2.2) b 2 bc [s, t] rfl (by omega) ?_ (by simpa using ⟨hz, hzt⟩) _ ?_ ?_ ?_
  · intro k x hx
    match k, hx with
    | 0, hx => simp at hx; subst hx; exact hb
    | 1, hx => simp at hx; subst hx; exact hb1
  · intro e; unfold K.rdy2; rw [if_pos e]
  · rintro e ⟨x, hx, hbx⟩
    simp at hx
    unfold K.rdy2
    rw [if_neg (by simp [e])]
    by_cases hs : K.bad s.data.toList
    · rw [if_pos hs]
    · rw [if_neg hs]
      rcases hx with rfl | rfl
      · exact absurd hbx hs
      · rw [if_pos hbx]
  · intro e hn
    unfold K.rdy2
    rw [if_neg (by simp [e]), if_neg (fun hb => hn ⟨s, by simp, hb⟩), if_neg (fun hb => hn ⟨t, by simp, hb⟩)]

theorem maxLen_of {s : ByteArray} (h : s.size ≤ 140737488355327) : s.size ≤ maxLen := by unfold maxLen; omega
/-- what find answers -/
def Fd (l : List (K.Nm × FM)) (d : K.DK) (n : K.Nm) (e : Ending) : Prop :=
  (K.fnd d n ≠ 0 ∧ e = .returned (.tuple #[.pointer none, .int .i64 (K.fnd d n)])) ∨ (K.fnd d n = 0 ∧ ∃ m, K.get n l = some m ∧ e = .returned (.tuple #[.pointer (some ⟨m.g, 0, none⟩), .int .i64 0]))
set_option maxHeartbeats 1600000 in
theorem find_any (c : Cl) (w : World) (p mb : Nat) (l : List (K.Nm × FM)) (d : K.DK) (h : Dm c w p mb l d) (s : ByteArray) (hz : s.size ≤ maxLen) :
    Calls Tryz.prog 60 #[.pointer (some ⟨p, 0, none⟩), .string s] w fun e w' => Fd l d s.data.toList e ∧ Fr (fun _ => False) w w' := by
  have k1 := h.k.2.1
  have hp := lt_of_row h.at_
  have HR := hid (ready1 h s hz)
  have hg := h.get s.data.toList
  obtain ⟨R, hR⟩ : ∃ R, K.rdy d s.data.toList = R := ⟨_, rfl⟩
  obtain ⟨n, hn⟩ : ∃ n, s.data.toList = n := ⟨_, rfl⟩
  have HN := hid hn
  rw [hR] at HR
  have HD := hid h
  by_cases h0 : R = 0
  · subst h0
    cases hgl : K.get n l with
    | none =>
      have e : K.fnd d n = 4 := by
        unfold K.fnd
        rw [hn] at hR hg
        rw [if_neg (by simp [hR]), if_pos (by rw [hg.1, hgl]; rfl)]
      have hgg : K.get s.data.toList (K.mp FM.g l) = none := by rw [hg.2, hn, hgl]; rfl
      have HG := hid hgg
      have HE := hid e
      have HZ := hid hz
      rw [hn]
      clear h hg hR hn hgg e hgl
      go_enter Tryz.func60, Tryz.ntmps60
      go_wp2_with (first
        | (go_at_call 44; refine (HR.out _ _ _ (Fr.alloc (Fr.refl _ _) _) (by simp)).mono ?_; rintro e w' ⟨rfl, rfl⟩)
        | (at_lookup; refine wpList_lookup_file _ rfl _ _ rfl mb (K.mp FM.g l) rfl (HD.out.mp.kept (Fr.alloc (Fr.refl (fun _ => False) _) _) (fun h => h)) s rfl HZ.out none HG.out ?_))
      go_ret2
      exact ⟨.inl ⟨by rw [HE.out]; decide, by rw [HE.out]; rfl⟩, Fr.alloc (Fr.refl _ _) _⟩
    | some m =>
      have e : K.fnd d n = 0 := by
        unfold K.fnd
        rw [hn] at hR hg
        rw [if_neg (by simp [hR]), if_neg (by rw [hg.1, hgl]; simp)]
      have hgg : K.get s.data.toList (K.mp FM.g l) = some m.g := by rw [hg.2, hn, hgl]; rfl
      have HG := hid hgg
      have HE := hid e
      have HZ := hid hz
      have HGL := hid hgl
      rw [hn]
      clear h hg hR hn hgg e hgl
      go_enter Tryz.func60, Tryz.ntmps60
      go_wp2_with (first
        | (go_at_call 44; refine (HR.out _ _ _ (Fr.alloc (Fr.refl _ _) _) (by simp)).mono ?_; rintro e w' ⟨rfl, rfl⟩)
        | (at_lookup; refine wpList_lookup_file _ rfl _ _ rfl mb (K.mp FM.g l) rfl (HD.out.mp.kept (Fr.alloc (Fr.refl (fun _ => False) _) _) (fun h => h)) s rfl HZ.out (some m.g) HG.out ?_))
      go_ret2
      exact ⟨.inr ⟨HE.out, m, HGL.out, rfl⟩, Fr.alloc (Fr.refl _ _) _⟩
  · have e : K.fnd d n = R := by
      unfold K.fnd
      rw [hn] at hR
      rw [if_pos (by rw [hR]; exact h0), hR]
    have hne : (R == 0) = false := by simpa using h0
    have HE := hid e
    have H0 := hid h0
    rw [hn]
    clear h hg hR hn e h0
    go_enter Tryz.func60, Tryz.ntmps60
    go_wp2_with (first
      | (go_at_call 44; refine (HR.out _ _ _ (Fr.alloc (Fr.refl _ _) _) (by simp)).mono ?_; rintro e w' ⟨rfl, rfl⟩))
    go_ret2
    exact ⟨.inl ⟨by rw [HE.out]; exact H0.out, by rw [HE.out]; rfl⟩, Fr.alloc (Fr.refl _ _) _⟩

/-- THE DISK HAS TURNED, in its own blocks and new ones alone. -/
def Td (S : Nat → Prop) (w : World) (p : Nat) (d' : K.DK) (w' : World) : Prop := Dk (Nx S w w') w' p d' ∧ Fr S w w'
theorem Tn.td {S : Nat → Prop} {c : Cl} {w w' : World} {p mb : Nat} {d' : K.DK} (hS : ∀ k, S k → k < w.heap.size) (hc : ∀ k, c k ≠ none → S k) (h : Tn c w p mb d' w') (ho : K.Ok d') : Td S w p d' w' := by
  obtain ⟨c', l', h1, h2, h3⟩ := h
  refine ⟨⟨Nx.lt, ho, c', mb, l', fun k hk => ⟨(h3 k hk).imp (hc k) id, h1.lt k hk⟩, h1⟩, h2.mono (fun i _ e => hc i e)⟩
theorem Td.refl {S : Nat → Prop} {w w' : World} {p : Nat} {d : K.DK} (h : Dk S w p d) (hf : Fr (fun _ => False) w w') : Td S w p d w' :=
  ⟨(h.kept hf (fun _ _ h => h)).mono (Nx.of h.1 hf.size) Nx.lt, hf.mono (fun _ _ h => h.elim)⟩
theorem Td.pre {S : Nat → Prop} {w w1 w' : World} {p : Nat} {d : K.DK} (hf : Fr (fun _ => False) w w1) (h : Td S w1 p d w') : Td S w p d w' :=
  ⟨h.1.mono (fun k hk => ⟨hk.1.imp id (Nat.le_trans hf.size), hk.2⟩) Nx.lt, (hf.mono (T := S) (fun _ _ h => h.elim)).trans h.2 (fun _ _ h => h)⟩
theorem Td.trans {S : Nat → Prop} {w w1 w2 : World} {p : Nat} {d1 d2 : K.DK} (h : Td S w p d1 w1) (k : Td (Nx S w w1) w1 p d2 w2) : Td S w p d2 w2 :=
  ⟨k.1.mono (Nx.trans h.2.size) (fun _ h => h.2), h.2.trans k.2 (fun i hi hn => hn.1.resolve_right (by omega))⟩

set_option maxHeartbeats 800000 in
theorem new_any (room : Int) (h0 : 0 ≤ room) (h1 : room ≤ 9223372036854775807) (w : World) :
    Calls Tryz.prog 4 #[.int .i64 room] w fun e w' => e = .returned (.tuple #[.pointer (some ⟨w.heap.size + 1, 0, none⟩), .int .i64 0]) ∧ Td (fun _ => False) w (w.heap.size + 1) (K.mk room) w' := by
  have hmm := @run_makeMap Tryz.prog
  go_enter Tryz.func4, Tryz.ntmps4
  go_wp2
  go_ret2
  refine ⟨rfl, ⟨Nx.lt, K.ok_mk h0 h1, (Cl.on (Cl.on (fun _ => none) (some ⟨w.heap.size, 0, none⟩) .map) (some ⟨w.heap.size + 1, 0, none⟩) .disk), w.heap.size, [], ?_, ?_⟩, Fr.alloc (Fr.alloc (Fr.refl _ _) _) _⟩
  · intro k hk
    by_cases e : k = w.heap.size + 1
    · subst e; exact ⟨.inr (by omega), by simp⟩
    · rw [Cl.on_other _ (by simp [blk]; omega)] at hk
      by_cases e : k = w.heap.size
      · subst e; exact ⟨.inr (by omega), by simp; omega⟩
      · rw [Cl.on_other _ (by simp [blk]; omega)] at hk
        exact absurd rfl hk
  · refine ⟨?_, Cl.on_same _ rfl _, ?_, ?_, by simp, by simp, rfl, ?_⟩
    · have := Go.heap_alloc_new (w.alloc (.map #[] 0)) (.cells #[.int .i64 room, .int .i64 0, .map (some w.heap.size), .int .i64 0, .int .i64 0, .bool false] 46)
      rw [World.size_alloc] at this
      exact this
    · rw [Cl.on_other _ (by simp [blk]), Cl.on_same _ rfl]
    · exact (World.ownsMap_made w Tryz.prog 9 fileElem).alloc _
    · intro k hk
      by_cases e : k = w.heap.size + 1
      · subst e; simp
      · rw [Cl.on_other _ (by simp [blk]; omega)] at hk
        by_cases e : k = w.heap.size
        · subst e; simp; omega
        · rw [Cl.on_other _ (by simp [blk]; omega)] at hk
          exact absurd rfl hk
theorem new_neg (room : Int) (h0 : room < 0) (h1 : -9223372036854775808 ≤ room) (w : World) :
    Calls Tryz.prog 4 #[.int .i64 room] w fun e w' => e = .returned (.tuple #[.pointer none, .int .i64 1]) ∧ w = w' := by
  go_enter Tryz.func4, Tryz.ntmps4
  go_wp2
  go_ret2
  exact ⟨rfl, rfl⟩
theorem down_any {S : Nat → Prop} {w : World} {p : Nat} {d : K.DK} (h : Dk S w p d) :
    Calls Tryz.prog 10 #[.pointer (some ⟨p, 0, none⟩)] w fun e w' => e = .returned (.bool d.down) ∧ w = w' := by
  obtain ⟨_, _, c, mb, l, _, hd⟩ := h
  obtain ⟨_, k1, _, _, k4⟩ := hd.k
  generalize d.down = dn at k4 ⊢
  clear hd
  go_enter Tryz.func10, Tryz.ntmps10
  go_wp2_with (first
    | (go_at_call 27; refine (made_any _ p mb k1).mono ?_; rintro e w' ⟨rfl, rfl⟩))
  go_ret
  exact ⟨rfl, rfl⟩

end Go.Proofs.YtogdjhhabcejgaaGreat

namespace Go.Proofs.YtogdjhhabcejgaaGreat
open Go.RowKit Go.Maps
set_option linter.unusedVariables false

theorem used_dk {S : Nat → Prop} {w : World} {p : Nat} {d : K.DK} (h : Dk S w p d) :
    Calls Tryz.prog 8 #[.pointer (some ⟨p, 0, none⟩)] w fun e w' => e = .returned (.int .i64 (d.used : Nat)) ∧ Fr (fun _ => False) w w' := by
  obtain ⟨_, ho, c, mb, l, _, hd⟩ := h
  exact used_any c w p mb l d hd ho
theorem Ok_len {d : K.DK} (ho : K.Ok d) {n : K.Nm} {f : K.F} (h : (n, f) ∈ d.fs) : f.sf.length + f.tl.length ≤ K.cap := by
  have := K.tot_mem K.F.len h
  have := ho.uc
  unfold K.DK.used at this
  simp only [K.F.len] at *
  omega
/-- what Read answers -/
def Rr (d : K.DK) (n : K.Nm) (base : Nat) (e : Ending) (w' : World) : Prop :=
  (K.fnd d n ≠ 0 ∧ e = .returned (.tuple #[.slice none 0 0, .int .i64 (K.fnd d n)])) ∨ (K.fnd d n = 0 ∧ ∃ f a c, K.get n d.fs = some f ∧ e = .returned (.tuple #[.slice a f.all.length c, .int .i64 0]) ∧ Ow base w' a c f.all)
set_option maxHeartbeats 1600000 in
theorem read_any {S : Nat → Prop} {w : World} {p : Nat} {d : K.DK} (h : Dk S w p d) (s : ByteArray) (hz : s.size ≤ maxLen) :
    Calls Tryz.prog 35 #[.pointer (some ⟨p, 0, none⟩), .string s] w fun e w' => Rr d s.data.toList w.heap.size e w' ∧ Fr (fun _ => False) w w' := by
  obtain ⟨_, ho, c, mb, l, _, hd⟩ := h
  have HFi := hid (find_any c w p mb l d hd s hz)
  have hget := hid (hd.get s.data.toList).1
  have HD := hid hd
  have HO := hid ho
  clear hd ho hz
  go_enter Tryz.func35, Tryz.ntmps35
  go_wp2_with fail
  refine HFi.out.mono ?_
  rintro e w1 ⟨hfd | hfd, hf⟩
  · obtain ⟨hne, rfl⟩ := hfd
    have HN := hid hne
    have HF := hid hf
    have hb : (K.fnd d s.data.toList == 0) = false := by simpa using hne
    generalize hR : K.fnd d s.data.toList = R at hb ⊢
    have HR := hid hR
    clear hne hf hR
    go_wp2
    go_ret2
    exact ⟨.inl ⟨HN.out, by rw [HR.out]; rfl⟩, HF.out⟩
  · obtain ⟨h0, m, hm, rfl⟩ := hfd
    have H0 := hid h0
    have HF := hid hf
    have HM := hid hm
    have hmem := K.get_mem hm
    have hmf : (s.data.toList, m.f) ∈ d.fs := by rw [← HD.out.fs]; exact K.mem_mp.2 ⟨_, hmem, rfl⟩
    have HB := hid (fbytes_any c w1 m ((HD.out.fl _ hmem).kept hf (fun _ _ h => h)) (Ok_len HO.out hmf))
    clear h0 hm hmem hmf
    have HS := hid hf.size
    clear hf
    go_wp2_with (first | (go_at_call 63; refine HB.out.mono ?_; rintro e w2 ⟨a2, c2, rfl, ho2, hf2⟩; have HO2 := hid ho2; have HF2 := hid hf2; clear ho2 hf2))
    go_ret2
    refine ⟨.inr ⟨H0.out, m.f, a2, c2, by rw [hget.out, HM.out]; rfl, rfl, HO2.out.base (fun k hk => Nat.le_trans HS.out (HO2.out.lt k hk).1)⟩, HF.out.trans HF2.out (fun _ _ h => h)⟩

end Go.Proofs.YtogdjhhabcejgaaGreat
