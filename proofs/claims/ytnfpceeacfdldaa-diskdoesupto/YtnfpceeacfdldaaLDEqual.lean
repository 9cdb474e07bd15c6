/-
  DiskDoes: do both hold the same? The law's 'equal'.
-/
import Derived.Test.YtnfpceeacfdldaaLDStep2
namespace Go.Proofs.Ytnfpceeacfdldaa
open Go.RowKit Go.Maps
set_option linter.unusedVariables false

/-- both disks are cloned, apart from all else -/
theorem DD.cloned {w0 w w' : World} {p q p' : Nat} {Sd Sr : Nat → Prop} {d r : K.DK} (h : DD w0 w p q Sd Sr d r) (ht : Td (fun _ => False) w p' d w') : DD w0 w' p' q (Nx (fun _ => False) w w') Sr d r := by
  have hz := h.fr.size
  refine ⟨ht.1, h.rk.kept ht.2 (fun _ _ h => h), fun j hj hr => ?_, fun j hj => ?_, h.ger, h.fr.trans ht.2 (fun _ _ h => h)⟩
  · have := h.rk.1 j hr
    rcases hj.1 with h | h
    · exact h
    · omega
  · rcases hj.1 with h | h
    · exact h.elim
    · omega
theorem DD.rcloned {w0 w w' : World} {p q q' : Nat} {Sd Sr : Nat → Prop} {d r : K.DK} (h : DD w0 w p q Sd Sr d r) (ht : Rt (fun _ => False) w q' r w') : DD w0 w' p q' Sd (Nx (fun _ => False) w w') d r := by
  have hz := h.fr.size
  refine ⟨h.dk.kept ht.2 (fun _ _ h => h), ht.1, fun j hj hr => ?_, h.ged, fun j hj => ?_, h.fr.trans ht.2 (fun _ _ h => h)⟩
  · have := h.dk.1 j hj
    rcases hr.1 with h | h
    · exact h
    · omega
  · rcases hj.1 with h | h
    · exact h.elim
    · omega
theorem fnd_of_mem {d : K.DK} (ho : K.Ok d) (hd : d.down = false) {x : K.Nm} {i : Nat} (hx : (K.names d)[i]? = some x) : K.fnd d x = 0 ∧ ∃ f, K.get x d.fs = some f := by
  have hm : x ∈ K.names d := List.mem_of_getElem? hx
  unfold K.names at hm
  obtain ⟨⟨n, f⟩, hmm, rfl⟩ := List.mem_map.1 hm
  have hl := ho.names _ hmm
  have hg := K.get_of_mem ho.up hmm
  refine ⟨?_, f, hg⟩
  unfold K.fnd
  rw [K.rdy_of hd hl.1 hl.2]
  simp [hg]
theorem read_there {S : Nat → Prop} {w : World} {p : Nat} {d : K.DK} (h : Dk S w p d) (s : ByteArray) (hz : s.size ≤ maxLen) {f : K.F} (h0 : K.fnd d s.data.toList = 0) (hg : K.get s.data.toList d.fs = some f) (W : World) (hf : Fr (fun _ => False) w W) :
    Calls Try.prog 24 #[.pointer (some ⟨p, 0, none⟩), .string s] W fun e w' => ∃ a c, e = .returned (.tuple #[.slice a f.all.length c, .int .i64 0]) ∧ Ow W.heap.size w' a c f.all ∧ Fr (fun _ => False) W w' := by
  refine (read_any (h.kept hf (fun _ _ h => h)) s hz).mono ?_
  rintro e w' ⟨⟨hne, rfl⟩ | ⟨_, f', a, c, hg', rfl, ho⟩, hf'⟩
  · exact absurd h0 hne
  · obtain rfl : f = f' := Option.some.inj (hg.symm.trans hg')
    exact ⟨a, c, rfl, ho, hf'⟩
theorem rread_there {S : Nat → Prop} {w : World} {p : Nat} {d : K.DK} (h : Rk S w p d) (s : ByteArray) (hz : s.size ≤ maxLen) {f : K.F} (h0 : K.fnd d s.data.toList = 0) (hg : K.get s.data.toList d.fs = some f) (W : World) (hf : Fr (fun _ => False) w W) :
    Calls Try.prog 33 #[.pointer (some ⟨p, 0, none⟩), .string s] W fun e w' => ∃ a c, e = .returned (.tuple #[.slice a f.all.length c, .int .i64 0]) ∧ Ow W.heap.size w' a c f.all ∧ Fr (fun _ => False) W w' := by
  refine (rread_any (h.kept hf (fun _ _ h => h)) s hz).mono ?_
  rintro e w' ⟨⟨hne, rfl⟩ | ⟨_, f', a, c, hg', rfl, ho⟩, hf'⟩
  · exact absurd h0 hne
  · obtain rfl : f = f' := Option.some.inj (hg.symm.trans hg')
    exact ⟨a, c, rfl, ho, hf'⟩
theorem size_there {S : Nat → Prop} {w : World} {p : Nat} {d : K.DK} (h : Dk S w p d) (s : ByteArray) (hz : s.size ≤ maxLen) {f : K.F} (h0 : K.fnd d s.data.toList = 0) (hg : K.get s.data.toList d.fs = some f) (W : World) (hf : Fr (fun _ => False) w W) :
    Calls Try.prog 25 #[.pointer (some ⟨p, 0, none⟩), .string s] W fun e w' => e = .returned (.tuple #[.int .i64 (f.len : Nat), .int .i64 (f.sf.length : Nat), .int .i64 0]) ∧ Fr (fun _ => False) W w' := by
  refine (size_any (h.kept hf (fun _ _ h => h)) s hz).mono ?_
  rintro e w' ⟨⟨hne, rfl⟩ | ⟨_, f', hg', rfl⟩, hf'⟩
  · exact absurd h0 hne
  · obtain rfl : f = f' := Option.some.inj (hg.symm.trans hg')
    exact ⟨rfl, hf'⟩
theorem rsize_there {S : Nat → Prop} {w : World} {p : Nat} {d : K.DK} (h : Rk S w p d) (s : ByteArray) (hz : s.size ≤ maxLen) {f : K.F} (h0 : K.fnd d s.data.toList = 0) (hg : K.get s.data.toList d.fs = some f) (W : World) (hf : Fr (fun _ => False) w W) :
    Calls Try.prog 36 #[.pointer (some ⟨p, 0, none⟩), .string s] W fun e w' => e = .returned (.tuple #[.int .i64 (f.len : Nat), .int .i64 (f.sf.length : Nat), .int .i64 0]) ∧ Fr (fun _ => False) W w' := by
  refine (rsize_any (h.kept hf (fun _ _ h => h)) s hz).mono ?_
  rintro e w' ⟨⟨hne, rfl⟩ | ⟨_, f', hg', rfl⟩, hf'⟩
  · exact absurd h0 hne
  · obtain rfl : f = f' := Option.some.inj (hg.symm.trans hg')
    exact ⟨rfl, hf'⟩

set_option maxRecDepth 20000 in
set_option maxHeartbeats 6400000 in
theorem equal_up {w0 w : World} {p q : Nat} {Sd Sr : Nat → Prop} {d : K.DK} (h : DD w0 w p q Sd Sr d d) (hdn : d.down = false) :
    Calls Try.prog 16 #[.pointer (some ⟨p, 0, none⟩), .pointer (some ⟨q, 0, none⟩)] w fun e w' => e = .returned (.bool true) ∧ Fr (fun _ => False) w0 w' := by
  have HB := hid h
  have KDd : Hid (∀ W, Fr (fun _ => False) w W → Calls Try.prog 12 #[.pointer (some ⟨p, 0, none⟩)] W fun e w' => e = .returned (.bool d.down) ∧ Fr (fun _ => False) w w') := hid (fun W hf => (down_any (HB.out.kept hf).dk).mono (by rintro e w' ⟨rfl, rfl⟩; exact ⟨rfl, hf⟩))
  have KDr : Hid (∀ W, Fr (fun _ => False) w W → Calls Try.prog 13 #[.pointer (some ⟨q, 0, none⟩)] W fun e w' => e = .returned (.bool d.down) ∧ Fr (fun _ => False) w w') := hid (fun W hf => (rdown_any (HB.out.kept hf).rk).mono (by rintro e w' ⟨rfl, rfl⟩; exact ⟨rfl, hf⟩))
  have KUd : Hid (∀ W, Fr (fun _ => False) w W → Calls Try.prog 14 #[.pointer (some ⟨p, 0, none⟩)] W fun e w' => e = .returned (.int .i64 (d.used : Nat)) ∧ Fr (fun _ => False) w w') := hid (fun W hf => (used_dk (HB.out.kept hf).dk).mono (by rintro e w' ⟨rfl, hf'⟩; exact ⟨rfl, hf.trans hf' (fun _ _ h => h)⟩))
  have KUr : Hid (∀ W, Fr (fun _ => False) w W → Calls Try.prog 15 #[.pointer (some ⟨q, 0, none⟩)] W fun e w' => e = .returned (.int .i64 (d.used : Nat)) ∧ Fr (fun _ => False) w w') := hid (fun W hf => (rused_any (HB.out.kept hf).rk).mono (by rintro e w' ⟨rfl, rfl⟩; exact ⟨rfl, hf⟩))
  have KRd : Hid (∀ W, Fr (fun _ => False) w W → Calls Try.prog 19 #[.pointer (some ⟨p, 0, none⟩)] W fun e w' => e = .returned (.int .i64 d.room) ∧ Fr (fun _ => False) w w') := hid (fun W hf => (room_any (HB.out.kept hf).dk).mono (by rintro e w' ⟨rfl, rfl⟩; exact ⟨rfl, hf⟩))
  have KRr : Hid (∀ W, Fr (fun _ => False) w W → Calls Try.prog 43 #[.pointer (some ⟨q, 0, none⟩)] W fun e w' => e = .returned (.int .i64 d.room) ∧ Fr (fun _ => False) w w') := hid (fun W hf => (rroom_any (HB.out.kept hf).rk).mono (by rintro e w' ⟨rfl, rfl⟩; exact ⟨rfl, hf⟩))
  have KNr : Hid (∀ W, Fr (fun _ => False) w W → Calls Try.prog 41 #[.pointer (some ⟨q, 0, none⟩)] W fun e w' => ∃ a c, e = .returned (.slice a d.fs.length c) ∧ Ns w' a (K.names d) ∧ Fr (fun _ => False) w w') := hid (fun W hf => (rnames_any (HB.out.kept hf).rk).mono (by rintro e w' ⟨a, c, rfl, hn, hf'⟩; exact ⟨a, c, rfl, hn.ns, hf.trans hf' (fun _ _ h => h)⟩))
  have hnl : (K.names d).length = d.fs.length := by unfold K.names; rw [List.length_map]
  have KN : Hid (∀ W a c, Fr (fun _ => False) w W → Ns W a (K.names d) → Calls Try.prog 40 #[.pointer (some ⟨p, 0, none⟩), .slice a d.fs.length c] W fun e w' => e = .returned (.bool true) ∧ Fr (fun _ => False) w w') := hid (fun W a c hf hn => by
    have k := names_law (HB.out.kept hf).dk a c hn
    rw [hnl] at k
    exact k.mono (by rintro e w' ⟨rfl, hf'⟩; exact ⟨rfl, hf.trans hf' (fun _ _ h => h)⟩))
  rw [hdn] at KDd KDr
  obtain ⟨us, hus⟩ : ∃ x, d.used = x := ⟨_, rfl⟩
  rw [hus] at KUd KUr
  obtain ⟨rm, hrm⟩ : ∃ x, d.room = x := ⟨_, rfl⟩
  rw [hrm] at KRd KRr
  have hfl := h.dk.2.1.files
  obtain ⟨fl, hfe⟩ : ∃ x, d.fs.length = x := ⟨_, rfl⟩
  rw [hfe] at KNr KN hnl hfl
  have HNL := hid hnl
  have HDN := hid hdn
  have HF := hid (Fr.refl (fun _ => False) w)
  clear hus hrm hfe h hdn hnl
  go_enter Try.func16, Try.ntmps16
  go_wp2_with (first
    | (go_at_call 12; refine (KDd.out _ HF.out).mono ?_; rintro e wx ⟨rfl, hf⟩; replace HF := hid hf; clear hf)
    | (go_at_call 13; refine (KDr.out _ HF.out).mono ?_; rintro e wx ⟨rfl, hf⟩; replace HF := hid hf; clear hf)
    | (go_at_call 14; refine (KUd.out _ HF.out).mono ?_; rintro e wx ⟨rfl, hf⟩; replace HF := hid hf; clear hf)
    | (go_at_call 15; refine (KUr.out _ HF.out).mono ?_; rintro e wx ⟨rfl, hf⟩; replace HF := hid hf; clear hf)
    | (go_at_call 19; refine (KRd.out _ HF.out).mono ?_; rintro e wx ⟨rfl, hf⟩; replace HF := hid hf; clear hf)
    | (go_at_call 43; refine (KRr.out _ HF.out).mono ?_; rintro e wx ⟨rfl, hf⟩; replace HF := hid hf; clear hf))
  refine (KNr.out _ HF.out).mono ?_
  rintro e wn ⟨a, c, rfl, hn, hf⟩
  have HN := hid hn
  replace HF := hid hf
  clear hn hf
  go_wp2_with fail
  refine (KN.out _ a c HF.out HN.out).mono ?_
  rintro e wm ⟨rfl, hf⟩
  replace HF := hid hf
  clear hf HN
  go_wp2_with (first
    | (go_at_call 13; refine (KDr.out _ HF.out).mono ?_; rintro e wx ⟨rfl, hf⟩; replace HF := hid hf; clear hf))
  refine (KNr.out _ HF.out).mono ?_
  rintro e wl ⟨a2, c2, rfl, hn, hf⟩
  have HN := hid hn
  replace HF := hid hf
  clear hn hf
  have HDD := hid (HB.out.kept HF.out)
  go_wp2
  go_loopw [61] (fun i wr => ∃ k : Nat, k ≤ fl ∧ i = .int .i64 k ∧ Fr (fun _ => False) wl wr) (fun i _ => fl - (intOf i).toNat)
  case atStart => exact ⟨0, by omega, rfl, Fr.refl _ _⟩
  case round =>
    obtain ⟨k, hk, rfl, hfr⟩ := hrel
    by_cases hlt : k < fl
    · obtain ⟨x, hx⟩ : ∃ x, (K.names d)[k]? = some x := ⟨_, List.getElem?_eq_getElem (by rw [HNL.out]; exact hlt)⟩
      obtain ⟨hz0, f, hg⟩ := fnd_of_mem HDD.out.dk.2.1 HDN.out hx
      have hne : K.names d ≠ [] := fun e => by rw [e] at hx; simp at hx
      obtain ⟨b, rfl, hcs⟩ := HN.out.resolve_left hne
      obtain ⟨s, hs⟩ : ∃ s : ByteArray, s = ⟨x.toArray⟩ := ⟨_, rfl⟩
      have hsd : s.data.toList = x := by rw [hs]
      have cx : wr.cell? ⟨b, k, none⟩ = some (.string s) := by rw [hs]; exact cell_fr hfr (fun h => h) (hcs k x hx)
      have hsz : s.size ≤ maxLen := by
        have hm : (x, f) ∈ d.fs := K.get_mem hg
        have h1 := (HDD.out.dk.2.1.names _ hm).2
        rw [← hsd] at h1
        have h2 : s.data.toList.length = s.size := rfl
        simp only at h1
        unfold maxLen
        omega
      rw [← hsd] at hz0 hg
      have hdw := HDD.out.kept hfr
      have KA := hid (read_there hdw.dk s hsz hz0 hg)
      have KB := hid (rread_there hdw.rk s hsz hz0 hg)
      have KC := hid (size_there hdw.dk s hsz hz0 hg)
      have KD := hid (rsize_there hdw.rk s hsz hz0 hg)
      obtain ⟨al, hal⟩ : ∃ al, f.all.length = al := ⟨_, rfl⟩
      rw [hal] at KA KB
      have HAL := hid hal
      generalize f.len = gl at KC KD
      generalize f.sf.length = gs at KC KD
      have HFR := hid hfr
      clear hx hz0 hg hne hcs hs hsd hsz hdw hfr hal
      have hi : (k : Int) < (fl : Int) := by omega
      go_wp2_with fail
      refine (KA.out _ (Fr.refl _ _)).mono ?_
      rintro e w1 ⟨a1, q1, rfl, ho1, hf1⟩
      have HO1 := hid ho1
      have F1 := hid hf1
      clear ho1 hf1 KA cx
      go_wp2_with fail
      refine (KB.out _ F1.out).mono ?_
      rintro e w2 ⟨a2, q2, rfl, ho2, hf2⟩
      have HO1' := hid (HO1.out.kept hf2 (fun _ _ h => h))
      have HO2 := hid ho2
      have F2 := hid (F1.out.trans hf2 (fun _ _ h => h))
      clear ho2 hf2 KB HO1
      go_wp2_with fail
      refine (KC.out _ F2.out).mono ?_
      rintro e w3 ⟨rfl, hf3⟩
      have HO1 := hid (HO1'.out.kept hf3 (fun _ _ h => h))
      have HO2' := hid (HO2.out.kept hf3 (fun _ _ h => h))
      have F3 := hid (F2.out.trans hf3 (fun _ _ h => h))
      clear hf3 KC HO1' HO2
      go_wp2_with fail
      refine (KD.out _ F3.out).mono ?_
      rintro e w4 ⟨rfl, hf4⟩
      have cv1 := run_str w4 a1 al q1 f.all (by have := (HO1.out.kept hf4 (fun _ _ h => h)).sl; rw [HAL.out] at this; exact this)
      have cv2 := run_str w4 a2 al q2 f.all (by have := (HO2'.out.kept hf4 (fun _ _ h => h)).sl; rw [HAL.out] at this; exact this)
      have F4 := hid (HFR.out.trans (F3.out.trans hf4 (fun _ _ h => h)) (fun _ _ h => h))
      clear hf4 KD HO1 HO2'
      go_wp2
      go_roundw
      case rel => exact ⟨k + 1, by omega, by go_num, F4.out⟩
      case measure => simp [intOf]; omega
    · obtain rfl : k = fl := by omega
      have HFR := hid hfr
      clear hfr
      go_wp2
      go_ret
      exact ⟨rfl, HDD.out.fr.trans HFR.out (fun _ _ h => h)⟩
set_option maxRecDepth 20000 in
set_option maxHeartbeats 6400000 in
theorem equal_down {w0 w : World} {p q : Nat} {Sd Sr : Nat → Prop} {d : K.DK} (h : DD w0 w p q Sd Sr d d) (hdn : d.down = true) :
    Calls Try.prog 16 #[.pointer (some ⟨p, 0, none⟩), .pointer (some ⟨q, 0, none⟩)] w fun e w' => e = .returned (.bool true) ∧ Fr (fun _ => False) w0 w' := by
  have HB := hid h
  have KDd : Hid (∀ W, Fr (fun _ => False) w W → Calls Try.prog 12 #[.pointer (some ⟨p, 0, none⟩)] W fun e w' => e = .returned (.bool d.down) ∧ Fr (fun _ => False) w w') := hid (fun W hf => (down_any (HB.out.kept hf).dk).mono (by rintro e w' ⟨rfl, rfl⟩; exact ⟨rfl, hf⟩))
  have KDr : Hid (∀ W, Fr (fun _ => False) w W → Calls Try.prog 13 #[.pointer (some ⟨q, 0, none⟩)] W fun e w' => e = .returned (.bool d.down) ∧ Fr (fun _ => False) w w') := hid (fun W hf => (rdown_any (HB.out.kept hf).rk).mono (by rintro e w' ⟨rfl, rfl⟩; exact ⟨rfl, hf⟩))
  have KUd : Hid (∀ W, Fr (fun _ => False) w W → Calls Try.prog 14 #[.pointer (some ⟨p, 0, none⟩)] W fun e w' => e = .returned (.int .i64 (d.used : Nat)) ∧ Fr (fun _ => False) w w') := hid (fun W hf => (used_dk (HB.out.kept hf).dk).mono (by rintro e w' ⟨rfl, hf'⟩; exact ⟨rfl, hf.trans hf' (fun _ _ h => h)⟩))
  have KUr : Hid (∀ W, Fr (fun _ => False) w W → Calls Try.prog 15 #[.pointer (some ⟨q, 0, none⟩)] W fun e w' => e = .returned (.int .i64 (d.used : Nat)) ∧ Fr (fun _ => False) w w') := hid (fun W hf => (rused_any (HB.out.kept hf).rk).mono (by rintro e w' ⟨rfl, rfl⟩; exact ⟨rfl, hf⟩))
  have KRd : Hid (∀ W, Fr (fun _ => False) w W → Calls Try.prog 19 #[.pointer (some ⟨p, 0, none⟩)] W fun e w' => e = .returned (.int .i64 d.room) ∧ Fr (fun _ => False) w w') := hid (fun W hf => (room_any (HB.out.kept hf).dk).mono (by rintro e w' ⟨rfl, rfl⟩; exact ⟨rfl, hf⟩))
  have KRr : Hid (∀ W, Fr (fun _ => False) w W → Calls Try.prog 43 #[.pointer (some ⟨q, 0, none⟩)] W fun e w' => e = .returned (.int .i64 d.room) ∧ Fr (fun _ => False) w w') := hid (fun W hf => (rroom_any (HB.out.kept hf).rk).mono (by rintro e w' ⟨rfl, rfl⟩; exact ⟨rfl, hf⟩))
  have KNr : Hid (∀ W, Fr (fun _ => False) w W → Calls Try.prog 41 #[.pointer (some ⟨q, 0, none⟩)] W fun e w' => ∃ a c, e = .returned (.slice a d.fs.length c) ∧ Ns w' a (K.names d) ∧ Fr (fun _ => False) w w') := hid (fun W hf => (rnames_any (HB.out.kept hf).rk).mono (by rintro e w' ⟨a, c, rfl, hn, hf'⟩; exact ⟨a, c, rfl, hn.ns, hf.trans hf' (fun _ _ h => h)⟩))
  have hnl : (K.names d).length = d.fs.length := by unfold K.names; rw [List.length_map]
  have KN : Hid (∀ W a c, Fr (fun _ => False) w W → Ns W a (K.names d) → Calls Try.prog 40 #[.pointer (some ⟨p, 0, none⟩), .slice a d.fs.length c] W fun e w' => e = .returned (.bool true) ∧ Fr (fun _ => False) w w') := hid (fun W a c hf hn => by
    have k := names_law (HB.out.kept hf).dk a c hn
    rw [hnl] at k
    exact k.mono (by rintro e w' ⟨rfl, hf'⟩; exact ⟨rfl, hf.trans hf' (fun _ _ h => h)⟩))
  rw [hdn] at KDd KDr
  obtain ⟨us, hus⟩ : ∃ x, d.used = x := ⟨_, rfl⟩
  rw [hus] at KUd KUr
  obtain ⟨rm, hrm⟩ : ∃ x, d.room = x := ⟨_, rfl⟩
  rw [hrm] at KRd KRr
  have hfl := h.dk.2.1.files
  obtain ⟨fl, hfe⟩ : ∃ x, d.fs.length = x := ⟨_, rfl⟩
  have HFE : Hid (({ d with down := false } : K.DK).fs.length = fl) := hid hfe
  rw [hfe] at KNr KN hnl hfl
  have HNL : Hid ((K.names { d with down := false }).length = fl) := hid hnl
  have HER : Hid (K.restart d = (0, { d with down := false })) := hid (by unfold K.restart; rw [if_pos hdn])
  have HDN : Hid (({ d with down := false } : K.DK).down = false) := hid rfl
  have HF := hid (Fr.refl (fun _ => False) w)
  clear hus hrm hfe h hdn hnl
  go_enter Try.func16, Try.ntmps16
  go_wp2_with (first
    | (go_at_call 12; refine (KDd.out _ HF.out).mono ?_; rintro e wx ⟨rfl, hf⟩; replace HF := hid hf; clear hf)
    | (go_at_call 13; refine (KDr.out _ HF.out).mono ?_; rintro e wx ⟨rfl, hf⟩; replace HF := hid hf; clear hf)
    | (go_at_call 14; refine (KUd.out _ HF.out).mono ?_; rintro e wx ⟨rfl, hf⟩; replace HF := hid hf; clear hf)
    | (go_at_call 15; refine (KUr.out _ HF.out).mono ?_; rintro e wx ⟨rfl, hf⟩; replace HF := hid hf; clear hf)
    | (go_at_call 19; refine (KRd.out _ HF.out).mono ?_; rintro e wx ⟨rfl, hf⟩; replace HF := hid hf; clear hf)
    | (go_at_call 43; refine (KRr.out _ HF.out).mono ?_; rintro e wx ⟨rfl, hf⟩; replace HF := hid hf; clear hf))
  refine (KNr.out _ HF.out).mono ?_
  rintro e wn ⟨a, c, rfl, hn, hf⟩
  have HN := hid hn
  replace HF := hid hf
  clear hn hf
  go_wp2_with fail
  refine (KN.out _ a c HF.out HN.out).mono ?_
  rintro e wm ⟨rfl, hf⟩
  replace HF := hid hf
  clear hf HN
  go_wp2_with (first
    | (go_at_call 13; refine (KDr.out _ HF.out).mono ?_; rintro e wx ⟨rfl, hf⟩; replace HF := hid hf; clear hf))
  refine (clone_any (HB.out.kept HF.out).dk).mono ?_
  rintro e w1 ⟨p1, rfl, ht1⟩
  have HD1 := hid ((HB.out.kept HF.out).cloned ht1)
  clear ht1
  go_wp2_with fail
  refine (rclone_any HD1.out.rk).mono ?_
  rintro e w2 ⟨q1, rfl, ht2⟩
  have HD2 := hid (HD1.out.rcloned ht2)
  clear ht2 HD1
  go_wp2_with fail
  have KX := restart_any HD2.out.dk
  rw [HER.out] at KX
  refine KX.mono ?_
  rintro e w3 ⟨rfl, ht3⟩
  have HD3 := hid (HD2.out.d ht3)
  clear ht3 HD2 KX
  go_wp2_with fail
  have KY := rrestart_any HD3.out.rk
  rw [HER.out] at KY
  refine KY.mono ?_
  rintro e w4 ⟨rfl, ht4⟩
  have HD4 := hid (HD3.out.r ht4)
  clear ht4 HD3 KY
  go_wp2_with fail
  refine (rnames_any HD4.out.rk).mono ?_
  rintro e wl ⟨a2, c2, rfl, hn, hf⟩
  rw [HFE.out]
  have HN : Hid (Ns wl a2 (K.names { d with down := false })) := hid hn.ns
  have HDD := hid (HD4.out.kept hf)
  clear hn hf HD4
  go_wp2
  go_loopw [61] (fun i wr => ∃ k : Nat, k ≤ fl ∧ i = .int .i64 k ∧ Fr (fun _ => False) wl wr) (fun i _ => fl - (intOf i).toNat)
  case atStart => exact ⟨0, by omega, rfl, Fr.refl _ _⟩
  case round =>
    obtain ⟨k, hk, rfl, hfr⟩ := hrel
    by_cases hlt : k < fl
    · obtain ⟨x, hx⟩ : ∃ x, (K.names { d with down := false })[k]? = some x := ⟨_, List.getElem?_eq_getElem (by rw [HNL.out]; exact hlt)⟩
      obtain ⟨hz0, f, hg⟩ := fnd_of_mem HDD.out.dk.2.1 rfl hx
      have hne : K.names { d with down := false } ≠ [] := fun e => by rw [e] at hx; simp at hx
      obtain ⟨b, rfl, hcs⟩ := HN.out.resolve_left hne
      obtain ⟨s, hs⟩ : ∃ s : ByteArray, s = ⟨x.toArray⟩ := ⟨_, rfl⟩
      have hsd : s.data.toList = x := by rw [hs]
      have cx : wr.cell? ⟨b, k, none⟩ = some (.string s) := by rw [hs]; exact cell_fr hfr (fun h => h) (hcs k x hx)
      have hsz : s.size ≤ maxLen := by
        have hm : (x, f) ∈ ({ d with down := false } : K.DK).fs := K.get_mem hg
        have h1 := (HDD.out.dk.2.1.names _ hm).2
        rw [← hsd] at h1
        have h2 : s.data.toList.length = s.size := rfl
        simp only at h1
        unfold maxLen
        omega
      rw [← hsd] at hz0 hg
      have hdw := HDD.out.kept hfr
      have KA := hid (read_there hdw.dk s hsz hz0 hg)
      have KB := hid (rread_there hdw.rk s hsz hz0 hg)
      have KC := hid (size_there hdw.dk s hsz hz0 hg)
      have KD := hid (rsize_there hdw.rk s hsz hz0 hg)
      obtain ⟨al, hal⟩ : ∃ al, f.all.length = al := ⟨_, rfl⟩
      rw [hal] at KA KB
      have HAL := hid hal
      generalize f.len = gl at KC KD
      generalize f.sf.length = gs at KC KD
      have HFR := hid hfr
      clear hx hz0 hg hne hcs hs hsd hsz hdw hfr hal
      have hi : (k : Int) < (fl : Int) := by omega
      go_wp2_with fail
      refine (KA.out _ (Fr.refl _ _)).mono ?_
      rintro e w1 ⟨a1, q1, rfl, ho1, hf1⟩
      have HO1 := hid ho1
      have F1 := hid hf1
      clear ho1 hf1 KA cx
      go_wp2_with fail
      refine (KB.out _ F1.out).mono ?_
      rintro e w2 ⟨a2, q2, rfl, ho2, hf2⟩
      have HO1' := hid (HO1.out.kept hf2 (fun _ _ h => h))
      have HO2 := hid ho2
      have F2 := hid (F1.out.trans hf2 (fun _ _ h => h))
      clear ho2 hf2 KB HO1
      go_wp2_with fail
      refine (KC.out _ F2.out).mono ?_
      rintro e w3 ⟨rfl, hf3⟩
      have HO1 := hid (HO1'.out.kept hf3 (fun _ _ h => h))
      have HO2' := hid (HO2.out.kept hf3 (fun _ _ h => h))
      have F3 := hid (F2.out.trans hf3 (fun _ _ h => h))
      clear hf3 KC HO1' HO2
      go_wp2_with fail
      refine (KD.out _ F3.out).mono ?_
      rintro e w4 ⟨rfl, hf4⟩
      have cv1 := run_str w4 a1 al q1 f.all (by have := (HO1.out.kept hf4 (fun _ _ h => h)).sl; rw [HAL.out] at this; exact this)
      have cv2 := run_str w4 a2 al q2 f.all (by have := (HO2'.out.kept hf4 (fun _ _ h => h)).sl; rw [HAL.out] at this; exact this)
      have F4 := hid (HFR.out.trans (F3.out.trans hf4 (fun _ _ h => h)) (fun _ _ h => h))
      clear hf4 KD HO1 HO2'
      go_wp2
      go_roundw
      case rel => exact ⟨k + 1, by omega, by go_num, F4.out⟩
      case measure => simp [intOf]; omega
    · obtain rfl : k = fl := by omega
      have HFR := hid hfr
      clear hfr
      go_wp2
      go_ret
      exact ⟨rfl, HDD.out.fr.trans HFR.out (fun _ _ h => h)⟩
theorem equal_any {w0 w : World} {p q : Nat} {Sd Sr : Nat → Prop} {d : K.DK} (h : DD w0 w p q Sd Sr d d) :
    Calls Try.prog 16 #[.pointer (some ⟨p, 0, none⟩), .pointer (some ⟨q, 0, none⟩)] w fun e w' => e = .returned (.bool true) ∧ Fr (fun _ => False) w0 w' := by
  cases hdn : d.down with
  | false => exact equal_up h hdn
  | true => exact equal_down h hdn

end Go.Proofs.Ytnfpceeacfdldaa
