/-
  The document's disk: Read, Size.
-/
import Derived.Test.YtnfpceeacfdldaaRLooks
namespace Go.Proofs.Ytnfpceeacfdldaa
open Go.RowKit Go.Maps
set_option linter.unusedVariables false

/-- the file at its place, in memory -/
theorem Rm.file {w : World} {p : Nat} {fa : Option Addr} {fc : Nat} {l : List RM} {kp : Int} {d : K.DK} (h : Rm w p fa fc l kp d) (hu : K.Up d.fs) {n : K.Nm} {f : K.F} (hg : K.get n d.fs = some f) :
    K.pos d.fs n < l.length ∧ ∃ m g, l[K.pos d.fs n]? = some m ∧ m ∈ l ∧ m.nm = n ∧ m.f = f ∧ fa = some ⟨g, 0, none⟩ ∧ w.cell? ⟨g, K.pos d.fs n * 3, none⟩ = some (encStr m.nm) ∧ w.cell? ⟨g, K.pos d.fs n * 3 + 1, none⟩ = some (.slice m.a m.b.length m.c) ∧ w.cell? ⟨g, K.pos d.fs n * 3 + 2, none⟩ = some (.int .i64 (m.sy : Nat)) := by
  have hp := K.pos_get hu hg
  have hlt : K.pos d.fs n < l.length := by rw [h.len]; exact (List.getElem?_eq_some_iff.1 hp).1
  obtain ⟨m, h1, h2, h3⟩ := h.getAt hlt
  rw [hp] at h2
  simp only [Option.some.injEq, RM.kf, Prod.mk.injEq] at h2
  obtain ⟨g, hga, q0, q1, q2⟩ := h.row.at h1
  exact ⟨hlt, m, g, h1, h3, h2.1.symm, h2.2.symm, hga, q0, q1, q2⟩
theorem fnd_some {d : K.DK} {n : K.Nm} (h : K.fnd d n = 0) : ∃ f, K.get n d.fs = some f := (K.fnd_rdy h).2

set_option maxHeartbeats 1600000 in
theorem rread_any {S : Nat → Prop} {w : World} {p : Nat} {d : K.DK} (h : Rk S w p d) (s : ByteArray) (hz : s.size ≤ maxLen) :
    Calls Try.prog 33 #[.pointer (some ⟨p, 0, none⟩), .string s] w fun e w' => Rr d s.data.toList w.heap.size e w' ∧ Fr (fun _ => False) w w' := by
  have HT := hid (fun W b bc hf hb => rthere1 h s hz W b bc hf hb)
  obtain ⟨h1, ho, fa, fc, l, kp, hm, h4, h5, h6⟩ := h
  by_cases h0 : K.fnd d s.data.toList = 0
  · obtain ⟨f, hg⟩ := fnd_some h0
    obtain ⟨hlt, m, g, hlm, hmem, hnm, hmf, rfl, q0, q1, q2⟩ := hm.file ho.up hg
    have hby := hm.by_ m hmem
    have hlen := ho.uc
    have hfl := Ok_len ho (K.get_mem hg)
    have hbl : m.b.length ≤ 200000000000000 := by rw [← m.len, hmf]; exact hfl
    have hfiles := ho.files
    rw [← hm.len] at hfiles
    have c1 := hm.c.2.1
    have HS := hid hby.1
    have HF := hid (show m.b = f.all by rw [← m.all, hmf])
    rw [h0] at HT
    obtain ⟨ps, hps⟩ : ∃ ps, K.pos d.fs s.data.toList = ps := ⟨_, rfl⟩
    have HT2 : Hid (∀ (W : World) (b bc : Nat), Fr (fun _ => False) w W → W.cell? ⟨b, 0, none⟩ = some (.string s) → Calls Try.prog 62 #[.pointer (some ⟨p, 0, none⟩), .slice (some ⟨b, 0, none⟩) 1 bc] W fun e w' => e = .returned (.tuple #[.int .i64 (ps : Nat), .int .i64 0]) ∧ Fr (fun _ => False) W w') := hid (fun W b bc hf hb => by
      have := HT.out W b bc hf hb
      rw [rth_ok rfl, hps] at this
      exact this)
    rw [hps] at hlt q1
    obtain ⟨ln, hln⟩ : ∃ ln, l.length = ln := ⟨_, rfl⟩
    rw [hln] at hlt c1 hfiles
    obtain ⟨bl, hbl'⟩ : ∃ bl, m.b.length = bl := ⟨_, rfl⟩
    rw [hbl'] at q1 hbl HS
    have HBL := hid hbl'
    have H0 := hid h0
    have HG := hid hg
    have hi : (ps : Int) < (ln : Int) := by omega
    clear h1 ho hm h4 h5 h6 h0 hg hlm hmem hnm hmf q0 q2 hby hlen hfl hps hln hbl' HT
    go_enter Try.func33, Try.ntmps33
    go_wp2_with fail
    refine (HT2.out _ _ _ (Fr.alloc (Fr.refl _ _) _) (by simp)).mono ?_
    rintro e w1 ⟨rfl, hf1⟩
    have f1 : Fr (fun _ => False) w w1 := (Fr.alloc (Fr.refl _ _) _).trans hf1 (fun _ _ h => h)
    replace c1 := cell_fr f1 (fun h => h) c1
    replace q1 := cell_fr f1 (fun h => h) q1
    have hsl := HS.out.kept f1 (fun _ _ _ h => h)
    have F1 := hid f1
    have hz1 := f1.size
    clear hf1 f1
    go_wp2_with (first
      | (at_builtin; refine wpList_append_b _ rfl (.const (.slice none 0 0)) (.tmp 25) rfl w1.heap.size none 0 0 [] rfl rfl (Ow.nil _ _) m.a bl m.c m.b rfl hsl (by omega) (Nat.le_refl _) ?_; intro ra rc w3 how hgb hat; have HO3 : Hid (Ow w1.heap.size w3 ra rc m.b) := hid (by simpa using how); have F23 := hid ((Fr.of_grown hgb).mono (T := fun _ => False) (fun i _ e => by simp [blk] at e)); clear how hgb hat))
    go_ret2
    refine ⟨.inr ⟨H0.out, f, ra, rc, HG.out, ?_, ?_⟩, F1.out.trans F23.out (fun _ _ h => h)⟩
    · rw [← HF.out, HBL.out]; simp
    · rw [← HF.out]; exact HO3.out.base (fun k hk => by have := (HO3.out.lt k hk).1; omega)
  · have HT2 : Hid (∀ (W : World) (b bc : Nat), Fr (fun _ => False) w W → W.cell? ⟨b, 0, none⟩ = some (.string s) → Calls Try.prog 62 #[.pointer (some ⟨p, 0, none⟩), .slice (some ⟨b, 0, none⟩) 1 bc] W fun e w' => e = .returned (.tuple #[.int .i64 0, .int .i64 (K.fnd d s.data.toList)]) ∧ Fr (fun _ => False) W w') := hid (fun W b bc hf hb => by
      have := HT.out W b bc hf hb
      rw [rth_no h0] at this
      exact this)
    have H0 := hid h0
    obtain ⟨R, hR⟩ : ∃ R, K.fnd d s.data.toList = R := ⟨_, rfl⟩
    rw [hR] at HT2 h0
    have hb0 : (R == 0) = false := by simpa using h0
    have HR := hid hR
    clear h1 ho hm h4 h5 h6 h0 hR HT
    go_enter Try.func33, Try.ntmps33
    go_wp2_with fail
    refine (HT2.out _ _ _ (Fr.alloc (Fr.refl _ _) _) (by simp)).mono ?_
    rintro e w1 ⟨rfl, hf1⟩
    have F1 : Hid (Fr (fun _ => False) w w1) := hid ((Fr.alloc (Fr.refl _ _) _).trans hf1 (fun _ _ h => h))
    clear hf1
    go_wp2
    go_ret2
    exact ⟨.inl ⟨H0.out, by rw [HR.out]; rfl⟩, F1.out⟩
set_option maxHeartbeats 1600000 in
theorem rsize_any {S : Nat → Prop} {w : World} {p : Nat} {d : K.DK} (h : Rk S w p d) (s : ByteArray) (hz : s.size ≤ maxLen) :
    Calls Try.prog 36 #[.pointer (some ⟨p, 0, none⟩), .string s] w fun e w' => Sz d s.data.toList e ∧ Fr (fun _ => False) w w' := by
  have HT := hid (fun W b bc hf hb => rthere1 h s hz W b bc hf hb)
  obtain ⟨h1, ho, fa, fc, l, kp, hm, h4, h5, h6⟩ := h
  by_cases h0 : K.fnd d s.data.toList = 0
  · obtain ⟨f, hg⟩ := fnd_some h0
    obtain ⟨hlt, m, g, hlm, hmem, hnm, hmf, rfl, q0, q1, q2⟩ := hm.file ho.up hg
    have hby := hm.by_ m hmem
    have hfiles := ho.files
    rw [← hm.len] at hfiles
    have c1 := hm.c.2.1
    have HL1 := hid (show f.len = m.b.length by rw [← hmf, m.len])
    have HL2 := hid (show f.sf.length = m.sy by rw [← hmf, m.sf hby.2.1])
    rw [h0] at HT
    obtain ⟨ps, hps⟩ : ∃ ps, K.pos d.fs s.data.toList = ps := ⟨_, rfl⟩
    have HT2 : Hid (∀ (W : World) (b bc : Nat), Fr (fun _ => False) w W → W.cell? ⟨b, 0, none⟩ = some (.string s) → Calls Try.prog 62 #[.pointer (some ⟨p, 0, none⟩), .slice (some ⟨b, 0, none⟩) 1 bc] W fun e w' => e = .returned (.tuple #[.int .i64 (ps : Nat), .int .i64 0]) ∧ Fr (fun _ => False) W w') := hid (fun W b bc hf hb => by
      have := HT.out W b bc hf hb
      rw [rth_ok rfl, hps] at this
      exact this)
    rw [hps] at hlt q1 q2
    obtain ⟨ln, hln⟩ : ∃ ln, l.length = ln := ⟨_, rfl⟩
    rw [hln] at hlt c1 hfiles
    obtain ⟨bl, hbl'⟩ : ∃ bl, m.b.length = bl := ⟨_, rfl⟩
    obtain ⟨sy, hsy⟩ : ∃ sy, m.sy = sy := ⟨_, rfl⟩
    rw [hbl'] at q1 HL1
    rw [hsy] at q2 HL2
    have H0 := hid h0
    have HG := hid hg
    have hi : (ps : Int) < (ln : Int) := by omega
    clear h1 ho hm h4 h5 h6 h0 hg hlm hmem hnm hmf q0 hby hps hln hbl' hsy HT
    go_enter Try.func36, Try.ntmps36
    go_wp2_with fail
    refine (HT2.out _ _ _ (Fr.alloc (Fr.refl _ _) _) (by simp)).mono ?_
    rintro e w1 ⟨rfl, hf1⟩
    have f1 : Fr (fun _ => False) w w1 := (Fr.alloc (Fr.refl _ _) _).trans hf1 (fun _ _ h => h)
    replace c1 := cell_fr f1 (fun h => h) c1
    replace q1 := cell_fr f1 (fun h => h) q1
    replace q2 := cell_fr f1 (fun h => h) q2
    have F1 := hid f1
    clear hf1 f1
    go_wp2
    go_quiet (fail)
    go_wp2
    go_ret3
    exact ⟨.inr ⟨H0.out, f, HG.out, by rw [HL1.out, HL2.out]; rfl⟩, F1.out.trans (Fr.drewN _ _) (fun _ _ h => h)⟩
  · have HT2 : Hid (∀ (W : World) (b bc : Nat), Fr (fun _ => False) w W → W.cell? ⟨b, 0, none⟩ = some (.string s) → Calls Try.prog 62 #[.pointer (some ⟨p, 0, none⟩), .slice (some ⟨b, 0, none⟩) 1 bc] W fun e w' => e = .returned (.tuple #[.int .i64 0, .int .i64 (K.fnd d s.data.toList)]) ∧ Fr (fun _ => False) W w') := hid (fun W b bc hf hb => by
      have := HT.out W b bc hf hb
      rw [rth_no h0] at this
      exact this)
    have H0 := hid h0
    obtain ⟨R, hR⟩ : ∃ R, K.fnd d s.data.toList = R := ⟨_, rfl⟩
    rw [hR] at HT2 h0
    have hb0 : (R == 0) = false := by simpa using h0
    have HR := hid hR
    clear h1 ho hm h4 h5 h6 h0 hR HT
    go_enter Try.func36, Try.ntmps36
    go_wp2_with fail
    refine (HT2.out _ _ _ (Fr.alloc (Fr.refl _ _) _) (by simp)).mono ?_
    rintro e w1 ⟨rfl, hf1⟩
    have F1 : Hid (Fr (fun _ => False) w w1) := hid ((Fr.alloc (Fr.refl _ _) _).trans hf1 (fun _ _ h => h))
    clear hf1
    go_wp2
    go_ret3
    exact ⟨.inl ⟨H0.out, by rw [HR.out]; rfl⟩, F1.out⟩

end Go.Proofs.Ytnfpceeacfdldaa
