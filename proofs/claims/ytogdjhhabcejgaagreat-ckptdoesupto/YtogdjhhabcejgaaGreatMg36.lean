/-
  The document's disk: looks, there, Read, Size.
  The document's disk: Read, Size.
-/
import Derived.Test.YtogdjhhabcejgaaGreatMg35
namespace Go.Proofs.YtogdjhhabcejgaaGreat
open Go.RowKit Go.Maps
set_option linter.unusedVariables false

theorem Rk.c4 {S : Nat → Prop} {w : World} {p : Nat} {d : K.DK} (h : Rk S w p d) : w.cell? ⟨p, 4, none⟩ = some (.bool d.down) := by
  obtain ⟨_, _, fa, fc, l, kp, hm, _⟩ := h
  exact hm.c.2.2.2.2
set_option maxHeartbeats 1600000 in
theorem rlooks_any (w : World) (p : Nat) (down : Bool) (c4 : w.cell? ⟨p, 4, none⟩ = some (.bool down)) (b len bc : Nat) (ss : List ByteArray) (hlen : ss.length = len) (hl2 : len ≤ 2)
    (hs : ∀ k s, ss[k]? = some s → w.cell? ⟨b, k, none⟩ = some (.string s)) (hz : ∀ s ∈ ss, s.size ≤ maxLen) (R : Int) (r7 : down = true → R = 7) (r20 : down = false → badS ss → R = 20) (r0 : down = false → ¬ badS ss → R = 0) :
    Calls Tryz.prog 47 #[.pointer (some ⟨p, 0, none⟩), .slice (some ⟨b, 0, none⟩) len bc] w fun e w' => e = .returned (.int .i64 R) ∧ w = w' := by
  cases down with
  | true =>
    obtain rfl := r7 rfl
    clear r7 r20 r0 hs hz
    go_enter Tryz.func47, Tryz.ntmps47
    go_wp2
    go_ret
    exact ⟨rfl, rfl⟩
  | false =>
    have R20 := hid (r20 rfl)
    have R0 := hid (r0 rfl)
    have HS := hid hs
    have HZ := hid hz
    have HL := hid hlen
    clear r7 r20 r0 hs hz hlen
    go_enter Tryz.func47, Tryz.ntmps47
    go_wp2
    go_loop [5] (fun i => ∃ k : Nat, k ≤ len ∧ i = .int .i64 k ∧ ∀ (j : Nat) s, j < k → ss[j]? = some s → ¬ K.bad s.data.toList) (fun i => len - (intOf i).toNat)
    case atStart => exact ⟨0, by omega, rfl, fun j s hj => by omega⟩
    case round =>
      obtain ⟨k, hk, rfl, hb⟩ := hrel
      have HB := hid hb
      clear hb
      by_cases hkl : k < len
      · obtain ⟨s, hs⟩ : ∃ s, ss[k]? = some s := ⟨_, List.getElem?_eq_getElem (by rw [HL.out]; exact hkl)⟩
        have hc := HS.out k s hs
        have hm := List.mem_of_getElem? hs
        have hsz := HZ.out s hm
        have hml : s.data.toList.length = s.size := by simp
        unfold maxLen at hsz
        have hi : (k : Int) < len := by omega
        have HSS := hid hs
        have HM := hid hm
        have HML := hid hml
        clear hs hm hml
        by_cases hb0 : s.size = 0
        · have hbad := hid (show R = 20 from R20.out ⟨s, HM.out, by unfold K.bad; left; rw [HML.out]; exact hb0⟩)
          have e0 : (s.toList == []) = true := by rw [ByteArray.toList_eq]; have h0 : s.data.toList = [] := List.eq_nil_of_length_eq_zero (by rw [HML.out]; exact hb0); rw [h0]; rfl
          go_wp2
          go_ret
          exact ⟨ret_int hbad.out.symm, rfl⟩
        · have e0 : (s.toList == []) = false := by rw [ByteArray.toList_eq, beq_eq_false_iff_ne]; intro h0; apply hb0; rw [← HML.out, h0]; rfl
          by_cases hb1 : 64 < s.size
          · have hbad := hid (show R = 20 from R20.out ⟨s, HM.out, by unfold K.bad; right; rw [HML.out]; exact hb1⟩)
            have e1 : (64 : Int) < s.size := by omega
            go_wp2
            go_ret
            exact ⟨ret_int hbad.out.symm, rfl⟩
          · have e1 : ¬ (64 : Int) < s.size := by omega
            go_wp2
            go_round
            case rel =>
              refine ⟨k + 1, by omega, by go_num, fun j s' hj hs' => ?_⟩
              by_cases hjk : j = k
              · subst hjk
                rw [HSS.out] at hs'
                cases hs'
                unfold K.bad
                rw [HML.out]
                omega
              · exact HB.out j s' (by omega) hs'
            case measure => simp [intOf]; omega
      · have hkk : k = len := by omega
        subst hkk
        have hr := hid (show R = 0 from R0.out (fun ⟨s, hs, hb⟩ => by
          obtain ⟨j, hj, rfl⟩ := List.mem_iff_getElem.1 hs
          exact HB.out j _ (by rw [HL.out] at hj; exact hj) (List.getElem?_eq_getElem hj) hb))
        go_wp2
        go_ret
        exact ⟨ret_int hr.out.symm, rfl⟩

theorem rlooks1 {S : Nat → Prop} {w : World} {p : Nat} {d : K.DK} (h : Rk S w p d) (s : ByteArray) (hz : s.size ≤ maxLen) (W : World) (b bc : Nat) (hf : Fr (fun _ => False) w W) (hb : W.cell? ⟨b, 0, none⟩ = some (.string s)) :
    Calls Tryz.prog 47 #[.pointer (some ⟨p, 0, none⟩), .slice (some ⟨b, 0, none⟩) 1 bc] W fun e w' => e = .returned (.int .i64 (K.rdy d s.data.toList)) ∧ W = w' := by
  refine rlooks_any W p d.down (cell_fr hf (fun h => h) h.c4) b 1 bc [s] rfl (by omega) ?_ (by simpa using hz) _ ?_ ?_ ?_
  · intro k x hx
    match k, hx with
    | 0, hx => simp at hx; subst hx; exact hb
  · intro e; unfold K.rdy; rw [if_pos e]
  · rintro e ⟨x, hx, hbx⟩
    simp at hx
    subst hx
    unfold K.rdy
    rw [if_neg (by simp [e]), if_pos hbx]
  · intro e hn
    unfold K.rdy
    rw [if_neg (by simp [e]), if_neg (fun hb => hn ⟨s, by simp, hb⟩)]
theorem rlooks2 {S : Nat → Prop} {w : World} {p : Nat} {d : K.DK} (h : Rk S w p d) (s t : ByteArray) (hz : s.size ≤ maxLen) (hzt : t.size ≤ maxLen) (W : World) (b bc : Nat) (hf : Fr (fun _ => False) w W) (hb : W.cell? ⟨b, 0, none⟩ = some (.string s)) (hb1 : W.cell? ⟨b, 1, none⟩ = some (.string t)) :
    Calls Tryz.prog 47 #[.pointer (some ⟨p, 0, none⟩), .slice (some ⟨b, 0, none⟩) 2 bc] W fun e w' => e = .returned (.int .i64 (K.rdy2 d s.data.toList t.data.toList)) ∧ W = w' := by
  refine rlooks_any W p d.down (cell_fr hf (fun h => h) h.c4) b 2 bc [s, t] rfl (by omega) ?_ (by simpa using ⟨hz, hzt⟩) _ ?_ ?_ ?_
  · intro k x hx
    match k, hx with
    | 0, hx => simp at hx; subst hx; exact hb
    | 1, hx => simp at hx; subst hx; exact hb1
  · intro e; unfold K.rdy2; rw [if_pos e]
  · rintro e ⟨x, hx, hbx⟩
    simp at hx
    unfold K.rdy2
    rw [if_neg (by simp [e])]
    by_cases hs : K.bad s.data.toList
    · rw [if_pos hs]
    · rw [if_neg hs]
      rcases hx with rfl | rfl
      · exact absurd hbx hs
      · rw [if_pos hbx]
  · intro e hn
    unfold K.rdy2
    rw [if_neg (by simp [e]), if_neg (fun hb => hn ⟨s, by simp, hb⟩), if_neg (fun hb => hn ⟨t, by simp, hb⟩)]


/-- what there answers: the file's place, or what is wrong -/
def rth (d : K.DK) (n : K.Nm) (R : Int) : Ending := .returned (.tuple (if R = 0 then #[.int .i64 (K.pos d.fs n : Nat), .int .i64 0] else #[.int .i64 0, .int .i64 R]))
theorem rth_ok {d : K.DK} {n : K.Nm} {R : Int} (h : R = 0) : rth d n R = .returned (.tuple #[.int .i64 (K.pos d.fs n : Nat), .int .i64 0]) := by unfold rth; rw [if_pos h]
theorem rth_no {d : K.DK} {n : K.Nm} {R : Int} (h : R ≠ 0) : rth d n R = .returned (.tuple #[.int .i64 0, .int .i64 R]) := by unfold rth; rw [if_neg h]
/-- there, at whatever names: what looks says of them all is known -/
theorem rthere_of {S : Nat → Prop} {w : World} {p : Nat} {d : K.DK} (h : Rk S w p d) (s : ByteArray) (W : World) (b len bc : Nat) (hl : 0 < len) (hl2 : len ≤ 2) (hf : Fr (fun _ => False) w W) (hb : W.cell? ⟨b, 0, none⟩ = some (.string s)) (R : Int)
    (HL : Calls Tryz.prog 47 #[.pointer (some ⟨p, 0, none⟩), .slice (some ⟨b, 0, none⟩) len bc] W fun e w' => e = .returned (.int .i64 R) ∧ W = w') :
    Calls Tryz.prog 74 #[.pointer (some ⟨p, 0, none⟩), .slice (some ⟨b, 0, none⟩) len bc] W fun e w' => e = rth d s.data.toList (if R ≠ 0 then R else if K.get s.data.toList d.fs = none then 4 else 0) ∧ Fr (fun _ => False) W w' := by
  have KF := hid (rfind_any (h.kept hf (fun _ _ h => h)) s)
  have HLK := hid HL
  have hi : (0 : Int) < (len : Int) := by omega
  clear h HL
  by_cases hr : R = 0
  · subst hr
    rw [if_neg (by simp)]
    cases hg : K.get s.data.toList d.fs with
    | none =>
      rw [if_pos rfl, rth_no (by decide)]
      unfold rfnd at KF
      rw [hg] at KF
      simp only [Option.isSome_none] at KF
      generalize K.pos d.fs s.data.toList = ps at KF
      clear hg
      go_enter Tryz.func74, Tryz.ntmps74
      go_wp2_with (first
        | (go_at_call 47; refine HLK.out.mono ?_; rintro e w1 ⟨rfl, rfl⟩)
        | (go_at_call 48; refine KF.out.mono ?_; rintro e w2 ⟨rfl, n2, rfl⟩))
      go_ret2
      exact ⟨rfl, Fr.drewN _ _⟩
    | some f =>
      rw [if_neg (by simp), rth_ok rfl]
      unfold rfnd at KF
      rw [hg] at KF
      simp only [Option.isSome_some] at KF
      generalize K.pos d.fs s.data.toList = ps at KF ⊢
      clear hg
      go_enter Tryz.func74, Tryz.ntmps74
      go_wp2_with (first
        | (go_at_call 47; refine HLK.out.mono ?_; rintro e w1 ⟨rfl, rfl⟩)
        | (go_at_call 48; refine KF.out.mono ?_; rintro e w2 ⟨rfl, n2, rfl⟩))
      go_ret2
      exact ⟨rfl, Fr.drewN _ _⟩
  · rw [if_pos hr, rth_no hr]
    have hb0 : (R == 0) = false := by simpa using hr
    clear hr KF
    go_enter Tryz.func74, Tryz.ntmps74
    go_wp2_with (first
      | (go_at_call 47; refine HLK.out.mono ?_; rintro e w1 ⟨rfl, rfl⟩))
    go_ret2
    exact ⟨rfl, Fr.refl _ _⟩
theorem rthere1 {S : Nat → Prop} {w : World} {p : Nat} {d : K.DK} (h : Rk S w p d) (s : ByteArray) (hz : s.size ≤ maxLen) (W : World) (b bc : Nat) (hf : Fr (fun _ => False) w W) (hb : W.cell? ⟨b, 0, none⟩ = some (.string s)) :
    Calls Tryz.prog 74 #[.pointer (some ⟨p, 0, none⟩), .slice (some ⟨b, 0, none⟩) 1 bc] W fun e w' => e = rth d s.data.toList (K.fnd d s.data.toList) ∧ Fr (fun _ => False) W w' :=
  rthere_of h s W b 1 bc (by omega) (by omega) hf hb _ (rlooks1 h s hz W b bc hf hb)

end Go.Proofs.YtogdjhhabcejgaaGreat

namespace Go.Proofs.YtogdjhhabcejgaaGreat
open Go.RowKit Go.Maps
set_option linter.unusedVariables false

/-- the file at its place, in memory -/
theorem Rm.file {w : World} {p : Nat} {fa : Option Addr} {fc : Nat} {l : List RM} {kp : Int} {d : K.DK} (h : Rm w p fa fc l kp d) (hu : K.Up d.fs) {n : K.Nm} {f : K.F} (hg : K.get n d.fs = some f) :
    K.pos d.fs n < l.length ∧ ∃ m g, l[K.pos d.fs n]? = some m ∧ m ∈ l ∧ m.nm = n ∧ m.f = f ∧ fa = some ⟨g, 0, none⟩ ∧ w.cell? ⟨g, K.pos d.fs n * 3, none⟩ = some (encStr m.nm) ∧ w.cell? ⟨g, K.pos d.fs n * 3 + 1, none⟩ = some (.slice m.a m.b.length m.c) ∧ w.cell? ⟨g, K.pos d.fs n * 3 + 2, none⟩ = some (.int .i64 (m.sy : Nat)) := by
  have hp := K.pos_get hu hg
  have hlt : K.pos d.fs n < l.length := by rw [h.len]; exact (List.getElem?_eq_some_iff.1 hp).1
  obtain ⟨m, h1, h2, h3⟩ := h.getAt hlt
  rw [hp] at h2
  simp only [Option.some.injEq, RM.kf, Prod.mk.injEq] at h2
  obtain ⟨g, hga, q0, q1, q2⟩ := h.row.at h1
  exact ⟨hlt, m, g, h1, h3, h2.1.symm, h2.2.symm, hga, q0, q1, q2⟩
theorem fnd_some {d : K.DK} {n : K.Nm} (h : K.fnd d n = 0) : ∃ f, K.get n d.fs = some f := (K.fnd_rdy h).2

set_option maxHeartbeats 1600000 in
theorem rread_any {S : Nat → Prop} {w : World} {p : Nat} {d : K.DK} (h : Rk S w p d) (s : ByteArray) (hz : s.size ≤ maxLen) :
    Calls Tryz.prog 41 #[.pointer (some ⟨p, 0, none⟩), .string s] w fun e w' => Rr d s.data.toList w.heap.size e w' ∧ Fr (fun _ => False) w w' := by
  have HT := hid (fun W b bc hf hb => rthere1 h s hz W b bc hf hb)
  obtain ⟨h1, ho, fa, fc, l, kp, hm, h4, h5, h6⟩ := h
  by_cases h0 : K.fnd d s.data.toList = 0
  · obtain ⟨f, hg⟩ := fnd_some h0
    obtain ⟨hlt, m, g, hlm, hmem, hnm, hmf, rfl, q0, q1, q2⟩ := hm.file ho.up hg
    have hby := hm.by_ m hmem
    have hlen := ho.uc
    have hfl := Ok_len ho (K.get_mem hg)
    have hbl : m.b.length ≤ 200000000000000 := by rw [← m.len, hmf]; exact hfl
    have hfiles := ho.files
    rw [← hm.len] at hfiles
    have c1 := hm.c.2.1
    have HS := hid hby.1
    have HF := hid (show m.b = f.all by rw [← m.all, hmf])
    rw [h0] at HT
    obtain ⟨ps, hps⟩ : ∃ ps, K.pos d.fs s.data.toList = ps := ⟨_, rfl⟩
    have HT2 : Hid (∀ (W : World) (b bc : Nat), Fr (fun _ => False) w W → W.cell? ⟨b, 0, none⟩ = some (.string s) → Calls Tryz.prog 74 #[.pointer (some ⟨p, 0, none⟩), .slice (some ⟨b, 0, none⟩) 1 bc] W fun e w' => e = .returned (.tuple #[.int .i64 (ps : Nat), .int .i64 0]) ∧ Fr (fun _ => False) W w') := hid (fun W b bc hf hb => by
      have := HT.out W b bc hf hb
      rw [rth_ok rfl, hps] at this
      exact this)
    rw [hps] at hlt q1
    obtain ⟨ln, hln⟩ : ∃ ln, l.length = ln := ⟨_, rfl⟩
    rw [hln] at hlt c1 hfiles
    obtain ⟨bl, hbl'⟩ : ∃ bl, m.b.length = bl := ⟨_, rfl⟩
    rw [hbl'] at q1 hbl HS
    have HBL := hid hbl'
    have H0 := hid h0
    have HG := hid hg
    have hi : (ps : Int) < (ln : Int) := by omega
    clear h1 ho hm h4 h5 h6 h0 hg hlm hmem hnm hmf q0 q2 hby hlen hfl hps hln hbl' HT
    go_enter Tryz.func41, Tryz.ntmps41
    go_wp2_with fail
    refine (HT2.out _ _ _ (Fr.alloc (Fr.refl _ _) _) (by simp)).mono ?_
    rintro e w1 ⟨rfl, hf1⟩
    have f1 : Fr (fun _ => False) w w1 := (Fr.alloc (Fr.refl _ _) _).trans hf1 (fun _ _ h => h)
    replace c1 := cell_fr f1 (fun h => h) c1
    replace q1 := cell_fr f1 (fun h => h) q1
    have hsl := HS.out.kept f1 (fun _ _ _ h => h)
    have F1 := hid f1
    have hz1 := f1.size
    clear hf1 f1
    go_wp2_with (first
      | (at_builtin; refine wpList_append_b _ rfl (.const (.slice none 0 0)) (.tmp 25) rfl w1.heap.size none 0 0 [] rfl rfl (Ow.nil _ _) m.a bl m.c m.b rfl hsl (by omega) (Nat.le_refl _) ?_; intro ra rc w3 how hgb hat; have HO3 : Hid (Ow w1.heap.size w3 ra rc m.b) := hid (by simpa using how); have F23 := hid ((Fr.of_grown hgb).mono (T := fun _ => False) (fun i _ e => by simp [blk] at e)); clear how hgb hat))
    go_ret2
    refine ⟨.inr ⟨H0.out, f, ra, rc, HG.out, ?_, ?_⟩, F1.out.trans F23.out (fun _ _ h => h)⟩
    · rw [← HF.out, HBL.out]; simp
    · rw [← HF.out]; exact HO3.out.base (fun k hk => by have := (HO3.out.lt k hk).1; omega)
  · have HT2 : Hid (∀ (W : World) (b bc : Nat), Fr (fun _ => False) w W → W.cell? ⟨b, 0, none⟩ = some (.string s) → Calls Tryz.prog 74 #[.pointer (some ⟨p, 0, none⟩), .slice (some ⟨b, 0, none⟩) 1 bc] W fun e w' => e = .returned (.tuple #[.int .i64 0, .int .i64 (K.fnd d s.data.toList)]) ∧ Fr (fun _ => False) W w') := hid (fun W b bc hf hb => by
      have := HT.out W b bc hf hb
      rw [rth_no h0] at this
      exact this)
    have H0 := hid h0
    obtain ⟨R, hR⟩ : ∃ R, K.fnd d s.data.toList = R := ⟨_, rfl⟩
    rw [hR] at HT2 h0
    have hb0 : (R == 0) = false := by simpa using h0
    have HR := hid hR
    clear h1 ho hm h4 h5 h6 h0 hR HT
    go_enter Tryz.func41, Tryz.ntmps41
    go_wp2_with fail
    refine (HT2.out _ _ _ (Fr.alloc (Fr.refl _ _) _) (by simp)).mono ?_
    rintro e w1 ⟨rfl, hf1⟩
    have F1 : Hid (Fr (fun _ => False) w w1) := hid ((Fr.alloc (Fr.refl _ _) _).trans hf1 (fun _ _ h => h))
    clear hf1
    go_wp2
    go_ret2
    exact ⟨.inl ⟨H0.out, by rw [HR.out]; rfl⟩, F1.out⟩
end Go.Proofs.YtogdjhhabcejgaaGreat
