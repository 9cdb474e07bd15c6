/-
  The contract of a log: place.
-/
import Derived.Test.YtgplkjfkafnpoaaGreatDoorWOps
namespace Go.Proofs.YtgplkjfkafnpoaaGreatDoor
open Go.RowKit
set_option linter.unusedVariables false

/-- what place answers -/
def Pl (L : W.LG) (er : Int) (new : Bool) (e : Ending) : Prop := ∃ v, e = .returned (.tuple #[v, .int .i64 er]) ∧ (er = 0 → v = .int .i64 (if new = true then (L.segs.length : Int) else (L.segs.length : Int) - 1))
theorem W.clean_segs (d : K.DK) (L : W.LG) : (W.clean d L).2.2.segs = L.segs ∧ (W.clean d L).2.2.nm = L.nm ∧ (W.clean d L).2.2.next = L.next ∧ (W.clean d L).2.2.synced = L.synced ∧ (W.clean d L).2.2.spoilt = L.spoilt := by
  unfold W.clean
  split
  · split
    · split <;> exact ⟨rfl, rfl, rfl, rfl, rfl⟩
    · exact ⟨rfl, rfl, rfl, rfl, rfl⟩
  · exact ⟨rfl, rfl, rfl, rfl, rfl⟩

theorem K.fnd_some {d : K.DK} {n : K.Nm} (h : K.fnd d n = 0) : ∃ f, K.get n d.fs = some f := by
  unfold K.fnd at h
  split at h
  · rename_i h1; exact absurd h h1
  · cases e : K.get n d.fs with
    | none => rw [e] at h; simp at h
    | some f => exact ⟨f, rfl⟩
theorem LT.pre {S : Nat → Prop} {w w1 w' : World} {p q : Nat} {d : K.DK} {L : W.LG} (h : LT S w1 p q d L w') (hf : Fr (fun _ => False) w w1) : LT S w p q d L w' :=
  ⟨h.1.mono (fun k hk => ⟨hk.1.imp id (Nat.le_trans hf.size), hk.2⟩) Nx.lt, (hf.mono (T := S) (fun _ _ h => h.elim)).trans h.2 (fun _ _ h => h)⟩

set_option maxHeartbeats 1600000 in
set_option maxRecDepth 20000 in
theorem place_any {S : Nat → Prop} {w : World} {p q : Nat} {d : K.DK} {L : W.LG} (h : LD S w p q d L) (T : Tv w) (hG : ¬ S 0) :
    Calls Tryz.prog 108 #[.pointer (some ⟨q, 0, none⟩)] w fun e w' => Pl L (W.place d L).1 (W.place d L).2.1 e ∧ LT S w p q (W.place d L).2.2.1 (W.place d L).2.2.2 w' := by
  have HH := hid h
  obtain ⟨h1, Sd, Sl, h2, h3, h4, h5, h6⟩ := h
  obtain ⟨g1, ok, c, sa, sc, sl, hcs, hm⟩ := h6
  obtain ⟨k0, k1, k2, k3, k4, k5, k6⟩ := hm.k
  have hlen : L.segs.length = sl.length := by rw [← hm.eq, List.length_map]
  cases hs : L.segs.getLast? with
  | none =>
    have hnil := List.getLast?_eq_none_iff.1 hs
    have hl0 : sl.length = 0 := by rw [← hlen, hnil]; rfl
    rw [hl0] at k2
    have E := hid (show W.place d L = (0, true, d, L) from by unfold W.place; rw [hs])
    have HL0 := hid (hlen.trans hl0)
    clear h1 h2 h3 h4 h5 g1 hm hcs ok hs hlen hl0 hnil k0 k1 k3 k4 k5 k6
    go_enter Tryz.func108, Tryz.ntmps108
    go_wp2
    go_ret2
    rw [E.out]
    exact ⟨⟨_, rfl, fun _ => by simp [HL0.out]⟩, LT.refl HH.out (Fr.refl _ _)⟩
  | some s =>
    obtain ⟨g, fo, m, rfl, hml, hmg, hpos, e1, e2⟩ := hm.last hs
    have hf := ok.fs s (List.mem_of_getLast? hs)
    obtain ⟨fi, hfi⟩ : ∃ fi, s.first = fi := ⟨_, rfl⟩
    rw [hfi] at e1 hf
    obtain ⟨n, hn⟩ : ∃ n, sl.length = n := ⟨_, rfl⟩
    rw [hn] at e1 e2 k2 hpos hlen
    have hmx : n ≤ maxLen := by have := hm.row.le.2; omega
    obtain ⟨n1, hn1⟩ : ∃ n1, n - 1 = n1 := ⟨_, rfl⟩
    rw [hn1] at e1 e2
    have i0 : (0 : Int) ≤ (n1 : Int) := by omega
    have i1 : (n1 : Int) < (n : Int) := by omega
    have hw1 : IntKind.i64.wrap ((n : Int) - 1) = (n1 : Int) := by unfold maxLen at hmx; rw [IntKind.wrap_i64]; omega
    have hw2 : IntKind.i64.wrap ((n1 : Int) + 1) = (n : Int) := by unfold maxLen at hmx; rw [IntKind.wrap_i64]; omega
    obtain ⟨nf, hnf⟩ : ∃ nf, W.seg L.nm fi = nf := ⟨_, rfl⟩
    have KF := hid (fun W (hW : Fr (fun _ => False) w W) => file_any W q L.nm ok.le (cell_fr hW (fun h => h) k1) fi (by omega) (by omega) (T.kept hW (fun h => h)))
    have KS0 : ∀ W, Fr (fun _ => False) w W → Calls Tryz.prog 47 #[.pointer (some ⟨p, 0, none⟩), encStr nf] W fun e w' => Sz d nf e ∧ Fr (fun _ => False) W w' := fun W hW => by
      have := size_any (h5.kept hW (fun _ _ h => h)) ⟨nf.toArray⟩ (by rw [← hnf]; exact seg_size _ _)
      simpa using this
    have KC := hid (fun W (hW : Fr (fun _ => False) w W) => clean_any (HH.out.kept hW (fun _ _ h => h)) (T.kept hW (fun h => h)) hG)
    rw [hnf] at KF
    have EP : W.place d L = match K.get nf d.fs with
      | some f => if K.fnd d nf ≠ 0 then (K.fnd d nf, false, d, L) else if f.len < 1024 then (0, false, d, L) else ((W.clean d L).1, true, (W.clean d L).2.1, (W.clean d L).2.2)
      | none => (K.fnd d nf, false, d, L) := by
      unfold W.place
      rw [hs]
      simp only [W.LG.file, hfi, hnf]
      cases K.get nf d.fs <;> rfl
    have HK := hid (fun W (hW : Fr (fun _ => False) w W) => And.intro (cell_fr hW (fun h => h) k0) (And.intro (cell_fr hW (fun h => h) k2) (cell_fr hW (fun h => h) e1)))
    have HLN := hid hlen
    have hn1n : ((n1 : Int)) = (n : Int) - 1 := by omega
    have HNN := hid hn1n
    by_cases hfd : K.fnd d nf = 0
    · obtain ⟨ff, hgf⟩ := K.fnd_some hfd
      have hcap : ff.len ≤ K.cap := Nat.le_trans (K.tot_mem K.F.len (K.get_mem hgf)) h5.2.1.uc
      have KS1 : ∀ W, Fr (fun _ => False) w W → Calls Tryz.prog 47 #[.pointer (some ⟨p, 0, none⟩), encStr nf] W fun e w' => e = .returned (.tuple #[.int .i64 (ff.len : Nat), .int .i64 (ff.sf.length : Nat), .int .i64 0]) ∧ Fr (fun _ => False) W w' := fun W hW =>
        (KS0 W hW).mono (fun e w' ⟨hsz, hf⟩ => ⟨by
          rcases hsz with ⟨h, _⟩ | ⟨_, f', hg', he⟩
          · exact absurd hfd h
          · rw [hgf] at hg'
            cases hg'
            exact he, hf⟩)
      have KS2 := hid KS1
      rw [hgf] at EP
      simp only [hfd, ne_eq, not_true_eq_false, if_false] at EP
      obtain ⟨fl, hfl⟩ : ∃ fl, ff.len = fl := ⟨_, rfl⟩
      obtain ⟨fs, hfs⟩ : ∃ fs, ff.sf.length = fs := ⟨_, rfl⟩
      rw [hfl] at EP KS2 hcap
      rw [hfs] at KS2
      have HEP := hid EP
      clear h1 h2 h3 h4 h5 g1 hm hcs ok hs hmg hml hn hmx hpos hn1 hnf KS0 KS1 hfi k1 k3 k4 k5 k6 T hG EP e2 hlen hfl hfs hgf hfd hn1n
      by_cases hlt : fl < 1024
      · have hlt' : (fl : Int) < 1024 := by omega
        have E2 := hid (HEP.out.trans (if_pos hlt))
        clear hlt
        go_enter Tryz.func108, Tryz.ntmps108
        go_wp2
        go_region_held3 (fun w' => w'.cell? ⟨q, 0, none⟩ = some (.pointer (some ⟨p, 0, none⟩)) ∧ w'.cell? ⟨q, 2, none⟩ = some (.slice (some ⟨g, fo, none⟩) n sc) ∧ w'.cell? ⟨g, fo + n1 * 2, none⟩ = some (.int .i64 fi)) (first | go_keep | exact ⟨s1, s2, s3⟩)
          (first
            | (go_at_call 73; refine (KF.out _ (by first | exact Fr.refl _ _ | exact Fr.drew (Fr.refl _ _) | exact Fr.drewN _ _)).mono ?_; rintro e w2 ⟨rfl, hf2⟩; have f2 : Fr (fun _ => False) w w2 := (by first | exact hf2 | exact (Fr.drew (Fr.refl _ _)).trans hf2 (fun _ _ h => h) | exact (Fr.drewN _ _).trans hf2 (fun _ _ h => h)); obtain ⟨s1, s2, s3⟩ := HK.out w2 f2; have F2 := hid f2; clear f2 hf2)
            | (go_at_call 47; refine (KS2.out _ (by first | exact F2.out | exact Fr.drew F2.out | exact F2.out.trans (Fr.drewN _ _) (fun _ _ h => h))).mono ?_; rintro e w3 ⟨rfl, hf3⟩; have f3 : Fr (fun _ => False) w w3 := (by first | exact F2.out.trans hf3 (fun _ _ h => h) | exact (Fr.drew F2.out).trans hf3 (fun _ _ h => h)); obtain ⟨s1, s2, s3⟩ := HK.out w3 f3; have F3 := hid f3; clear f3 hf3))
        go_wp2
        go_ret2
        rw [E2.out]
        exact ⟨⟨_, rfl, fun _ => by rw [HLN.out, ← HNN.out]; rfl⟩, LT.refl HH.out F3.out⟩
      · have hlt' : ¬ (fl : Int) < 1024 := by omega
        have E2 := hid (HEP.out.trans (if_neg hlt))
        clear hlt
        go_enter Tryz.func108, Tryz.ntmps108
        go_wp2
        go_region_held3 (fun w' => w'.cell? ⟨q, 0, none⟩ = some (.pointer (some ⟨p, 0, none⟩)) ∧ w'.cell? ⟨q, 2, none⟩ = some (.slice (some ⟨g, fo, none⟩) n sc) ∧ w'.cell? ⟨g, fo + n1 * 2, none⟩ = some (.int .i64 fi)) (first | go_keep | exact ⟨s1, s2, s3⟩)
          (first
            | (go_at_call 73; refine (KF.out _ (by first | exact Fr.refl _ _ | exact Fr.drew (Fr.refl _ _) | exact Fr.drewN _ _)).mono ?_; rintro e w2 ⟨rfl, hf2⟩; have f2 : Fr (fun _ => False) w w2 := (by first | exact hf2 | exact (Fr.drew (Fr.refl _ _)).trans hf2 (fun _ _ h => h) | exact (Fr.drewN _ _).trans hf2 (fun _ _ h => h)); obtain ⟨s1, s2, s3⟩ := HK.out w2 f2; have F2 := hid f2; clear f2 hf2)
            | (go_at_call 47; refine (KS2.out _ (by first | exact F2.out | exact Fr.drew F2.out | exact F2.out.trans (Fr.drewN _ _) (fun _ _ h => h))).mono ?_; rintro e w3 ⟨rfl, hf3⟩; have f3 : Fr (fun _ => False) w w3 := (by first | exact F2.out.trans hf3 (fun _ _ h => h) | exact (Fr.drew F2.out).trans hf3 (fun _ _ h => h)); obtain ⟨s1, s2, s3⟩ := HK.out w3 f3; have F3 := hid f3; clear f3 hf3))
        go_wp2_with (first | (go_at_call 71; refine (KC.out _ F3.out).mono ?_; rintro e w4 ⟨rfl, ht4⟩; have HT4 := hid ht4; clear ht4))
        go_ret2
        rw [E2.out]
        exact ⟨⟨_, rfl, fun _ => by rw [HLN.out]; rfl⟩, HT4.out.pre F3.out⟩
    · have KS1 : ∀ W, Fr (fun _ => False) w W → Calls Tryz.prog 47 #[.pointer (some ⟨p, 0, none⟩), encStr nf] W fun e w' => e = .returned (.tuple #[.int .i64 0, .int .i64 0, .int .i64 (K.fnd d nf)]) ∧ Fr (fun _ => False) W w' := fun W hW =>
        (KS0 W hW).mono (fun e w' ⟨hsz, hf⟩ => ⟨by
          rcases hsz with ⟨_, h⟩ | ⟨h, _⟩
          · exact h
          · exact absurd h hfd, hf⟩)
      have KS2 := hid KS1
      have EP2 : W.place d L = (K.fnd d nf, false, d, L) := by
        rw [EP]
        cases K.get nf d.fs with
        | none => rfl
        | some f => simp only [if_pos hfd]
      have HEP := hid EP2
      have HFD := hid hfd
      obtain ⟨er, her⟩ : ∃ er, K.fnd d nf = er := ⟨_, rfl⟩
      rw [her] at HEP KS2 HFD hfd
      have hb : (er == 0) = false := by simpa using hfd
      clear h1 h2 h3 h4 h5 g1 hm hcs ok hs hmg hml hn hmx hpos hn1 hnf KS0 KS1 hfi k1 k3 k4 k5 k6 T hG EP EP2 e2 hlen her hn1n hfd
      go_enter Tryz.func108, Tryz.ntmps108
      go_wp2
      go_region_held3 (fun w' => w'.cell? ⟨q, 0, none⟩ = some (.pointer (some ⟨p, 0, none⟩)) ∧ w'.cell? ⟨q, 2, none⟩ = some (.slice (some ⟨g, fo, none⟩) n sc) ∧ w'.cell? ⟨g, fo + n1 * 2, none⟩ = some (.int .i64 fi)) (first | go_keep | exact ⟨s1, s2, s3⟩)
          (first
            | (go_at_call 73; refine (KF.out _ (by first | exact Fr.refl _ _ | exact Fr.drew (Fr.refl _ _) | exact Fr.drewN _ _)).mono ?_; rintro e w2 ⟨rfl, hf2⟩; have f2 : Fr (fun _ => False) w w2 := (by first | exact hf2 | exact (Fr.drew (Fr.refl _ _)).trans hf2 (fun _ _ h => h) | exact (Fr.drewN _ _).trans hf2 (fun _ _ h => h)); obtain ⟨s1, s2, s3⟩ := HK.out w2 f2; have F2 := hid f2; clear f2 hf2)
            | (go_at_call 47; refine (KS2.out _ (by first | exact F2.out | exact Fr.drew F2.out | exact F2.out.trans (Fr.drewN _ _) (fun _ _ h => h))).mono ?_; rintro e w3 ⟨rfl, hf3⟩; have f3 : Fr (fun _ => False) w w3 := (by first | exact F2.out.trans hf3 (fun _ _ h => h) | exact (Fr.drew F2.out).trans hf3 (fun _ _ h => h)); obtain ⟨s1, s2, s3⟩ := HK.out w3 f3; have F3 := hid f3; clear f3 hf3))
      go_wp2
      go_ret2
      rw [HEP.out]
      exact ⟨⟨_, rfl, fun e => absurd e HFD.out⟩, LT.refl HH.out F3.out⟩

end Go.Proofs.YtgplkjfkafnpoaaGreatDoor
