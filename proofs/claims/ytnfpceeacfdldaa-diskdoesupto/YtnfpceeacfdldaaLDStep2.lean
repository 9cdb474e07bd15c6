/-
  DiskDoes: the law's 'step' where nothing changes: Read, Size, names, a clone; all of it.
-/
import Derived.Test.YtnfpceeacfdldaaLDStep
namespace Go.Proofs.Ytnfpceeacfdldaa
open Go.RowKit Go.Maps
set_option linter.unusedVariables false

set_option maxRecDepth 20000 in
set_option maxHeartbeats 3200000 in
theorem step_2 {w0 w : World} {p q : Nat} {Sd Sr : Nat → Prop} {d : K.DK} (h : DD w0 w p q Sd Sr d d) (o : K.Op) (hdo : o.do_ = 2) (s t : ByteArray) (ba : Option Addr) (bm bc : Nat) (h6 : O6 w0 o s t ba bm) :
    Calls Try.prog 11 #[.pointer (some ⟨p, 0, none⟩), .pointer (some ⟨q, 0, none⟩), .agg #[.int .i64 o.do_, .string s, .string t, .slice ba bm bc, .int .i64 o.k, .int .i64 o.keep]] w fun e w' => Sp w0 q (d.used + o.b.length) e w' := by
  rw [hdo]
  have HZ := hid h6.sz
  have HB := hid h
  have KC : Hid (∀ W, Fr (fun _ => False) w W → Calls Try.prog 24 #[.pointer (some ⟨p, 0, none⟩), .string s] W fun e w' => Rr d s.data.toList W.heap.size e w' ∧ Fr (fun _ => False) W w') := hid (fun W hf => read_any (HB.out.kept hf).dk s HZ.out)
  have KR : Hid (∀ W, Fr (fun _ => False) w W → Calls Try.prog 33 #[.pointer (some ⟨q, 0, none⟩), .string s] W fun e w' => Rr d s.data.toList W.heap.size e w' ∧ Fr (fun _ => False) W w') := hid (fun W hf => rread_any (HB.out.kept hf).rk s HZ.out)
  have F0 := hid (Fr.alloc (Fr.refl (fun _ => False) w) (.cells #[.int .i64 2, .string s, .string t, .slice ba bm bc, .int .i64 o.k, .int .i64 o.keep] 33))
  obtain ⟨ok, hok⟩ : ∃ x, o.k = x := ⟨_, rfl⟩
  obtain ⟨op, hop⟩ : ∃ x, o.keep = x := ⟨_, rfl⟩
  obtain ⟨ob, hob⟩ : ∃ x, o.b.length = x := ⟨_, rfl⟩
  rw [hok, hop] at F0 ⊢
  rw [hob]
  clear hok hop h h6 hdo hob
  go_enter Try.func11, Try.ntmps11
  go_wp2_with fail
  refine (KC.out _ F0.out).mono ?_
  rintro e w1 ⟨⟨hne, rfl⟩ | ⟨hz0, f, a1, c1, hg, rfl, ho1⟩, hf1⟩
  · have g1 : w1.cell? ⟨w.heap.size, 1, none⟩ = some (.string s) := cell_fr hf1 (fun h => h) (by simp)
    have HF1 := hid (F0.out.trans hf1 (fun _ _ h => h))
    have HNE := hid hne
    obtain ⟨er, her⟩ : ∃ x, K.fnd d s.data.toList = x := ⟨_, rfl⟩
    rw [her]
    have HER := hid her
    clear hf1 hne her
    go_wp2_with fail
    refine (KR.out _ HF1.out).mono ?_
    rintro e w2 ⟨⟨_, rfl⟩ | ⟨hz, _⟩, hf2⟩
    · rw [HER.out]
      have HF2 := hid (HF1.out.trans hf2 (fun _ _ h => h))
      have cv := run_str w2 none 0 0 [] (Sl.nil _ _)
      clear hf2
      go_wp2
      go_ret2
      exact ⟨p, Sd, Sr, d, by simp, HB.out.kept HF2.out, by omega⟩
    · exact absurd hz HNE.out
  · have g1 : w1.cell? ⟨w.heap.size, 1, none⟩ = some (.string s) := cell_fr hf1 (fun h => h) (by simp)
    have HF1 := hid (F0.out.trans hf1 (fun _ _ h => h))
    have HO1 := hid ho1
    have HG := hid hg
    have HZ0 := hid hz0
    obtain ⟨fl, hfl⟩ : ∃ x, f.all.length = x := ⟨_, rfl⟩
    rw [hfl]
    have HFL := hid hfl
    clear hf1 ho1 hg hz0 hfl
    go_wp2_with fail
    refine (KR.out _ HF1.out).mono ?_
    rintro e w2 ⟨⟨hne, rfl⟩ | ⟨_, f', a2, c2, hg', rfl, ho2⟩, hf2⟩
    · exact absurd HZ0.out hne
    · obtain rfl : f = f' := Option.some.inj (HG.out.symm.trans hg')
      rw [HFL.out]
      have HF2 := hid (HF1.out.trans hf2 (fun _ _ h => h))
      have cv1 := run_str w2 a1 fl c1 f.all (by have := (HO1.out.kept hf2 (fun _ _ h => h)).sl; rw [HFL.out] at this; exact this)
      have cv2 := run_str w2 a2 fl c2 f.all (by have := ho2.sl; rw [HFL.out] at this; exact this)
      clear hf2 ho2 hg'
      go_wp2
      go_ret2
      exact ⟨p, Sd, Sr, d, by simp, HB.out.kept HF2.out, by omega⟩

set_option maxRecDepth 20000 in
set_option maxHeartbeats 3200000 in
theorem step_5 {w0 w : World} {p q : Nat} {Sd Sr : Nat → Prop} {d : K.DK} (h : DD w0 w p q Sd Sr d d) (o : K.Op) (hdo : o.do_ = 5) (s t : ByteArray) (ba : Option Addr) (bm bc : Nat) (h6 : O6 w0 o s t ba bm) :
    Calls Try.prog 11 #[.pointer (some ⟨p, 0, none⟩), .pointer (some ⟨q, 0, none⟩), .agg #[.int .i64 o.do_, .string s, .string t, .slice ba bm bc, .int .i64 o.k, .int .i64 o.keep]] w fun e w' => Sp w0 q (d.used + o.b.length) e w' := by
  rw [hdo]
  have HZ := hid h6.sz
  have HB := hid h
  have KC : Hid (∀ W, Fr (fun _ => False) w W → Calls Try.prog 25 #[.pointer (some ⟨p, 0, none⟩), .string s] W fun e w' => Sz d s.data.toList e ∧ Fr (fun _ => False) W w') := hid (fun W hf => size_any (HB.out.kept hf).dk s HZ.out)
  have KR : Hid (∀ W, Fr (fun _ => False) w W → Calls Try.prog 36 #[.pointer (some ⟨q, 0, none⟩), .string s] W fun e w' => Sz d s.data.toList e ∧ Fr (fun _ => False) W w') := hid (fun W hf => rsize_any (HB.out.kept hf).rk s HZ.out)
  have F0 := hid (Fr.alloc (Fr.refl (fun _ => False) w) (.cells #[.int .i64 5, .string s, .string t, .slice ba bm bc, .int .i64 o.k, .int .i64 o.keep] 33))
  obtain ⟨ok, hok⟩ : ∃ x, o.k = x := ⟨_, rfl⟩
  obtain ⟨op, hop⟩ : ∃ x, o.keep = x := ⟨_, rfl⟩
  obtain ⟨ob, hob⟩ : ∃ x, o.b.length = x := ⟨_, rfl⟩
  rw [hok, hop] at F0 ⊢
  rw [hob]
  clear hok hop h h6 hdo hob
  go_enter Try.func11, Try.ntmps11
  go_wp2_with fail
  refine (KC.out _ F0.out).mono ?_
  rintro e w1 ⟨⟨hne, rfl⟩ | ⟨hz0, f, hg, rfl⟩, hf1⟩
  · have g1 : w1.cell? ⟨w.heap.size, 1, none⟩ = some (.string s) := cell_fr hf1 (fun h => h) (by simp)
    have HF1 := hid (F0.out.trans hf1 (fun _ _ h => h))
    have HNE := hid hne
    obtain ⟨er, her⟩ : ∃ x, K.fnd d s.data.toList = x := ⟨_, rfl⟩
    rw [her]
    have HER := hid her
    clear hf1 hne her
    go_wp2_with fail
    refine (KR.out _ HF1.out).mono ?_
    rintro e w2 ⟨⟨_, rfl⟩ | ⟨hz, _⟩, hf2⟩
    · rw [HER.out]
      have HF2 := hid (HF1.out.trans hf2 (fun _ _ h => h))
      clear hf2
      go_wp2
      go_ret2
      exact ⟨p, Sd, Sr, d, by simp, HB.out.kept HF2.out, by omega⟩
    · exact absurd hz HNE.out
  · have g1 : w1.cell? ⟨w.heap.size, 1, none⟩ = some (.string s) := cell_fr hf1 (fun h => h) (by simp)
    have HF1 := hid (F0.out.trans hf1 (fun _ _ h => h))
    have HG := hid hg
    have HZ0 := hid hz0
    clear hf1 hg hz0
    go_wp2_with fail
    refine (KR.out _ HF1.out).mono ?_
    rintro e w2 ⟨⟨hne, rfl⟩ | ⟨_, f', hg', rfl⟩, hf2⟩
    · exact absurd HZ0.out hne
    · obtain rfl : f = f' := Option.some.inj (HG.out.symm.trans hg')
      have HF2 := hid (HF1.out.trans hf2 (fun _ _ h => h))
      clear hf2 hg'
      generalize f.len = fl
      generalize f.sf.length = fs
      go_wp2
      go_ret2
      exact ⟨p, Sd, Sr, d, by simp, HB.out.kept HF2.out, by omega⟩

theorem Nb.ns {base : Nat} {w : World} {a : Option Addr} {c : Nat} {l : List K.Nm} (h : Nb base w a c l) : Ns w a l := by
  rcases h.2 with ⟨hv, h0⟩ | ⟨g, cap, cur, hv, hb, hg, h1, h2, h3, h4⟩
  · exact .inl (List.eq_nil_of_length_eq_zero h0)
  · simp only [Value.slice.injEq] at hv
    refine .inr ⟨g, hv.1, fun j x hx => ?_⟩
    have hu : (l.map encStr)[j]? = some (encStr x) := by rw [List.getElem?_map, hx]; rfl
    rw [← h4, List.getElem?_take] at hu
    split at hu
    · exact cell_of hg (by simpa using hu)
    · cases hu
theorem names_eq (d : K.DK) : d.fs.map (·.1) = K.names d := rfl
set_option maxRecDepth 20000 in
set_option maxHeartbeats 3200000 in
theorem step_9 {w0 w : World} {p q : Nat} {Sd Sr : Nat → Prop} {d : K.DK} (h : DD w0 w p q Sd Sr d d) (o : K.Op) (hdo : o.do_ = 9) (s t : ByteArray) (ba : Option Addr) (bm bc : Nat) :
    Calls Try.prog 11 #[.pointer (some ⟨p, 0, none⟩), .pointer (some ⟨q, 0, none⟩), .agg #[.int .i64 o.do_, .string s, .string t, .slice ba bm bc, .int .i64 o.k, .int .i64 o.keep]] w fun e w' => Sp w0 q (d.used + o.b.length) e w' := by
  rw [hdo]
  have HB := hid h
  have KR : Hid (∀ W, Fr (fun _ => False) w W → Calls Try.prog 41 #[.pointer (some ⟨q, 0, none⟩)] W fun e w' => ∃ a c, e = .returned (.slice a d.fs.length c) ∧ Nb W.heap.size w' a c (d.fs.map (·.1)) ∧ Fr (fun _ => False) W w') := hid (fun W hf => rnames_any (HB.out.kept hf).rk)
  have KN : Hid (∀ W a c, Fr (fun _ => False) w W → Ns W a (K.names d) → Calls Try.prog 40 #[.pointer (some ⟨p, 0, none⟩), .slice a (K.names d).length c] W fun e w' => e = .returned (.bool true) ∧ Fr (fun _ => False) W w') := hid (fun W a c hf hn => names_law (HB.out.kept hf).dk a c hn)
  have F0 := hid (Fr.alloc (Fr.refl (fun _ => False) w) (.cells #[.int .i64 9, .string s, .string t, .slice ba bm bc, .int .i64 o.k, .int .i64 o.keep] 33))
  obtain ⟨ok, hok⟩ : ∃ x, o.k = x := ⟨_, rfl⟩
  obtain ⟨op, hop⟩ : ∃ x, o.keep = x := ⟨_, rfl⟩
  obtain ⟨ob, hob⟩ : ∃ x, o.b.length = x := ⟨_, rfl⟩
  rw [hok, hop] at F0 ⊢
  rw [hob]
  have hnl : (K.names d).length = d.fs.length := by unfold K.names; rw [List.length_map]
  rw [hnl] at KN
  obtain ⟨fl, hfl⟩ : ∃ x, d.fs.length = x := ⟨_, rfl⟩
  rw [hfl] at KR KN
  clear hok hop h hdo hob hnl hfl
  go_enter Try.func11, Try.ntmps11
  go_wp2_with fail
  refine (KR.out _ F0.out).mono ?_
  rintro e w1 ⟨a, c, rfl, hn, hf1⟩
  have HN1 := hid hn.ns
  have HF1 := hid (F0.out.trans hf1 (fun _ _ h => h))
  clear hn hf1
  go_wp2_with fail
  refine (KN.out _ a c HF1.out HN1.out).mono ?_
  rintro e w2 ⟨rfl, hf2⟩
  have HF2 := hid (HF1.out.trans hf2 (fun _ _ h => h))
  clear hf2
  go_wp2
  go_ret2
  exact ⟨p, Sd, Sr, d, by simp, HB.out.kept HF2.out, by omega⟩

set_option maxRecDepth 20000 in
set_option maxHeartbeats 3200000 in
theorem step_10 {w0 w : World} {p q : Nat} {Sd Sr : Nat → Prop} {d : K.DK} (h : DD w0 w p q Sd Sr d d) (o : K.Op) (hdo : o.do_ = 10) (s t : ByteArray) (ba : Option Addr) (bm bc : Nat) (h6 : O6 w0 o s t ba bm) (hc : d.used + bm ≤ K.cap) :
    Calls Try.prog 11 #[.pointer (some ⟨p, 0, none⟩), .pointer (some ⟨q, 0, none⟩), .agg #[.int .i64 o.do_, .string s, .string t, .slice ba bm bc, .int .i64 o.k, .int .i64 o.keep]] w fun e w' => Sp w0 q (d.used + o.b.length) e w' := by
  rw [hdo]
  have HB := hid h
  have h6 := hid h6
  have HC := hid hc
  have KC : Hid (∀ W, Fr (fun _ => False) w W → Calls Try.prog 21 #[.pointer (some ⟨p, 0, none⟩)] W fun e w' => ∃ p', e = .returned (.pointer (some ⟨p', 0, none⟩)) ∧ Fr (fun _ => False) W w' ∧ ∃ Sn, DD w0 w' p' q Sn Sr d d ∧ Dk Sd w' p d ∧ (∀ j, Sd j → ¬ Sn j) ∧ (∀ j, Sd j → ¬ Sr j)) := hid (fun W hf => by
    have h0 := HB.out.kept hf
    refine (clone_any h0.dk).mono ?_
    rintro e w' ⟨p', rfl, ht⟩
    have hz := h0.fr.size
    refine ⟨p', rfl, ht.2, _, ⟨ht.1, h0.rk.kept ht.2 (fun _ _ h => h), fun j hj hr => ?_, fun j hj => ?_, h0.ger, h0.fr.trans ht.2 (fun _ _ h => h)⟩, h0.dk.kept ht.2 (fun _ _ h => h), fun j hj hn => ?_, h0.ap⟩
    · have := h0.rk.1 j hr
      rcases hj.1 with h | h
      · exact h
      · omega
    · rcases hj.1 with h | h
      · exact h.elim
      · omega
    · have := h0.dk.1 j hj
      rcases hn.1 with h | h
      · exact h
      · omega)
  have F0 := hid (Fr.alloc (Fr.refl (fun _ => False) w) (.cells #[.int .i64 10, .string s, .string t, .slice ba bm bc, .int .i64 o.k, .int .i64 o.keep] 33))
  have HNB : Hid (¬ Sd w.heap.size) := hid (fun hs => by have := h.dk.1 _ hs; omega)
  have HGE := hid h.ged
  have HLT := hid h.dk.1
  obtain ⟨ok, hok⟩ : ∃ x, o.k = x := ⟨_, rfl⟩
  obtain ⟨op, hop⟩ : ∃ x, o.keep = x := ⟨_, rfl⟩
  rw [hok, hop] at F0 ⊢
  clear hok hop h hdo hc
  go_enter Try.func11, Try.ntmps11
  go_wp2_with fail
  refine (KC.out _ F0.out).mono ?_
  rintro e w1 ⟨p', rfl, hf1, Sn, hdd, hdo, hx1, hx2⟩
  have g1 : w1.cell? ⟨w.heap.size, 1, none⟩ = some (.string s) := cell_fr hf1 (fun h => h) (by simp)
  have g2 : w1.cell? ⟨w.heap.size, 2, none⟩ = some (.string t) := cell_fr hf1 (fun h => h) (by simp)
  have g3 : w1.cell? ⟨w.heap.size, 3, none⟩ = some (.slice ba bm bc) := cell_fr hf1 (fun h => h) (by simp)
  have hz1 := (F0.out.trans hf1 (fun _ _ h => h)).size
  have KA := hid (append_any hdo s h6.out.sz ba bm bc o.b (h6.out.b_.kept hdd.fr (fun _ _ _ h => h)) (by have := h6.out.bl; omega) (fun _ => HC.out))
  have HD := hid hdd
  have HX1 := hid hx1
  have HX2 := hid hx2
  have HDO := hid hdo
  clear hf1 hdd hdo hx1 hx2
  have hw1 : w.heap.size < w1.heap.size := World.block_lt_of_cell? _ _ g1
  go_wp2_with fail
  refine KA.out.mono ?_
  rintro e w2 ⟨rfl, ht2⟩
  have HD2 := hid (HD.out.keptS ht2.2 HGE.out (fun j hj hs => HX1.out j hs hj) (fun j hj hs => HX2.out j hs hj))
  have g12 : w2.cell? ⟨w.heap.size, 2, none⟩ = some (.string t) := cell_fr ht2.2 HNB.out g2
  have hS2 : ∀ j, Nx Sd w1 w2 j → w0.heap.size ≤ j ∧ ¬ Sn j ∧ ¬ Sr j ∧ j ≠ w.heap.size := fun j hj => by
    have h1 := HD.out.fr.size
    rcases hj.1 with hs | hs
    · exact ⟨HGE.out j hs, HX1.out j hs, HX2.out j hs, fun e => HNB.out (e ▸ hs)⟩
    · exact ⟨by omega, fun hn => by have := HD.out.dk.1 j hn; omega, fun hr => by have := HD.out.rk.1 j hr; omega, by omega⟩
  have HS2 := hid hS2
  have KB := hid (remove_any ht2.1 t h6.out.tz)
  obtain ⟨er, her⟩ : ∃ x, (K.app d s.data.toList o.b).1 = x := ⟨_, rfl⟩
  rw [her]
  have hz2 := ht2.2.size
  clear ht2 hS2 her g1 g2 g3
  go_wp2_with fail
  refine KB.out.mono ?_
  rintro e w3 ⟨rfl, ht3⟩
  have HD3 := hid (HD2.out.keptS ht3.2 (fun j hj => (HS2.out j hj).1) (fun j hj hs => (HS2.out j hs).2.1 hj) (fun j hj hs => (HS2.out j hs).2.2.1 hj))
  have hS3 : ∀ j, Nx (Nx Sd w1 w2) w2 w3 j → w0.heap.size ≤ j ∧ ¬ Sn j ∧ ¬ Sr j := fun j hj => by
    have h1 := HD2.out.fr.size
    rcases hj.1 with hs | hs
    · exact ⟨(HS2.out j hs).1, (HS2.out j hs).2.1, (HS2.out j hs).2.2.1⟩
    · exact ⟨by omega, fun hn => by have := HD2.out.dk.1 j hn; omega, fun hr => by have := HD2.out.rk.1 j hr; omega⟩
  have HS3 := hid hS3
  have KD := hid (crash_any ht3.1 0 (by decide))
  generalize (K.rem (K.app d s.data.toList o.b).2 t.data.toList).1 = er2
  clear ht3 hS3 g12
  go_wp2_with fail
  refine KD.out.mono ?_
  rintro e w4 ⟨rfl, ht4⟩
  have HD4 := hid (HD3.out.keptS ht4.2 (fun j hj => (HS3.out j hj).1) (fun j hj hs => (HS3.out j hs).2.1 hj) (fun j hj hs => (HS3.out j hs).2.2 hj))
  generalize (K.crash (K.rem (K.app d s.data.toList o.b).2 t.data.toList).2 0).1 = er3
  clear ht4
  go_wp2
  go_ret2
  exact ⟨p', Sn, Sr, d, by simp, HD4.out, by omega⟩

set_option maxRecDepth 20000 in
set_option maxHeartbeats 3200000 in
theorem step_o {w0 w : World} {p q : Nat} {Sd Sr : Nat → Prop} {d : K.DK} (h : DD w0 w p q Sd Sr d d) (o : K.Op) (s t : ByteArray) (ba : Option Addr) (bm bc : Nat) (hd : o.do_ ≠ 0 ∧ o.do_ ≠ 1 ∧ o.do_ ≠ 2 ∧ o.do_ ≠ 3 ∧ o.do_ ≠ 4 ∧ o.do_ ≠ 5 ∧ o.do_ ≠ 6 ∧ o.do_ ≠ 7 ∧ o.do_ ≠ 8 ∧ o.do_ ≠ 9 ∧ o.do_ ≠ 10) :
    Calls Try.prog 11 #[.pointer (some ⟨p, 0, none⟩), .pointer (some ⟨q, 0, none⟩), .agg #[.int .i64 o.do_, .string s, .string t, .slice ba bm bc, .int .i64 o.k, .int .i64 o.keep]] w fun e w' => Sp w0 q (d.used + o.b.length) e w' := by
  obtain ⟨d0, d1, d2, d3, d4, d5, d6, d7, d8, d9, d10⟩ := hd
  have F0 := hid (Fr.alloc (Fr.refl (fun _ => False) w) (.cells #[.int .i64 o.do_, .string s, .string t, .slice ba bm bc, .int .i64 o.k, .int .i64 o.keep] 33))
  have HB := hid h
  obtain ⟨ob, hob⟩ : ∃ x, o.b.length = x := ⟨_, rfl⟩
  rw [hob]
  generalize o.do_ = od at *
  generalize o.k = ok at *
  generalize o.keep = op at *
  clear h hob
  go_enter Try.func11, Try.ntmps11
  go_wp2
  go_ret2
  exact ⟨p, Sd, Sr, d, by simp, HB.out.kept F0.out, by omega⟩
theorem step_any {w0 w : World} {p q : Nat} {Sd Sr : Nat → Prop} {d : K.DK} (h : DD w0 w p q Sd Sr d d) (o : K.Op) (s t : ByteArray) (ba : Option Addr) (bm bc : Nat) (h6 : O6 w0 o s t ba bm) (hc : d.used + bm ≤ K.cap) :
    Calls Try.prog 11 #[.pointer (some ⟨p, 0, none⟩), .pointer (some ⟨q, 0, none⟩), .agg #[.int .i64 o.do_, .string s, .string t, .slice ba bm bc, .int .i64 o.k, .int .i64 o.keep]] w fun e w' => Sp w0 q (d.used + o.b.length) e w' := by
  by_cases d0 : o.do_ = 0
  · exact step_0 h o d0 s t ba bm bc h6 hc
  by_cases d1 : o.do_ = 1
  · exact step_1 h o d1 s t ba bm bc h6 hc
  by_cases d2 : o.do_ = 2
  · exact step_2 h o d2 s t ba bm bc h6
  by_cases d3 : o.do_ = 3
  · exact step_3 h o d3 s t ba bm bc h6 hc
  by_cases d4 : o.do_ = 4
  · exact step_4 h o d4 s t ba bm bc h6 hc
  by_cases d5 : o.do_ = 5
  · exact step_5 h o d5 s t ba bm bc h6
  by_cases d6 : o.do_ = 6
  · exact step_6 h o d6 s t ba bm bc h6 hc
  by_cases d7 : o.do_ = 7
  · exact step_7 h o d7 s t ba bm bc h6 hc
  by_cases d8 : o.do_ = 8
  · exact step_8 h o d8 s t ba bm bc h6 hc
  by_cases d9 : o.do_ = 9
  · exact step_9 h o d9 s t ba bm bc
  by_cases d10 : o.do_ = 10
  · exact step_10 h o d10 s t ba bm bc h6 hc
  exact step_o h o s t ba bm bc ⟨d0, d1, d2, d3, d4, d5, d6, d7, d8, d9, d10⟩

end Go.Proofs.Ytnfpceeacfdldaa
