/-
  The contract of a log: put, where it comes to the disk.
-/
import Derived.Test.YtgplkjfkafnpoaaGreatDoorWPut
namespace Go.Proofs.YtgplkjfkafnpoaaGreatDoor
open Go.RowKit
set_option linter.unusedVariables false

set_option maxHeartbeats 3200000 in
set_option maxRecDepth 20000 in
theorem put_new {S : Nat → Prop} {w : World} {p q : Nat} {d : K.DK} {L : W.LG} {a : Option Addr} {len : Nat} {bs : List UInt8} (h : PutPre S w p q d L a len bs) (c : Nat) (he : (W.place d L).1 = 0) (hnew : (W.place d L).2.1 = true) :
    Calls Tryz.prog 63 #[.pointer (some ⟨q, 0, none⟩), .slice a len c] w fun e w' => e = .returned (.int .i64 (W.put d L bs).1) ∧ LT S w p q (W.put d L bs).2.1 (W.put d L bs).2.2 w' := by
  have HF := hid (frame_ok a len c bs w h.sl (by have := h.len; omega))
  have KP := hid (fun W (hW : Fr (fun _ => False) w W) => place_any (h.ld.kept hW (fun _ _ h => h)) (h.tv.kept hW (fun h => h)) h.hG)
  obtain ⟨pf1, pf2, pf3, pf4, pf5, pf6, pf7⟩ := W.place_facts d L
  have hlast := pf7 he
  have HE := hid he
  have HN := hid hnew
  have E0 : W.put d L bs = if (K.app (W.place d L).2.2.1 ((W.place d L).2.2.2.file ((W.place d L).2.2.2.at_ true)) (M.frame bs)).1 ≠ 0 then ((K.app (W.place d L).2.2.1 ((W.place d L).2.2.2.file ((W.place d L).2.2.2.at_ true)) (M.frame bs)).1, (K.app (W.place d L).2.2.1 ((W.place d L).2.2.2.file ((W.place d L).2.2.2.at_ true)) (M.frame bs)).2, (W.place d L).2.2.2) else (0, (K.app (W.place d L).2.2.1 ((W.place d L).2.2.2.file ((W.place d L).2.2.2.at_ true)) (M.frame bs)).2, (W.place d L).2.2.2.add true bs) := by
    unfold W.put
    rw [if_neg (by simp [he]), hnew]
  obtain ⟨R, hR⟩ : ∃ R, W.place d L = R := ⟨_, rfl⟩
  rw [hR] at KP E0 he hnew pf1 pf2 pf3 pf4 pf5 pf6 HE HN
  obtain ⟨er, new, d1, L1⟩ := R
  simp only at KP E0 he hnew pf1 pf2 pf3 pf4 pf5 pf6 HE HN
  subst he
  subst hnew
  obtain ⟨nf, hnf⟩ : ∃ nf, L1.file (L1.at_ true) = nf := ⟨_, rfl⟩
  obtain ⟨fi, hfi⟩ : ∃ fi, L1.at_ true = fi := ⟨_, rfl⟩
  obtain ⟨B, hB⟩ : ∃ B, K.app d1 nf (M.frame bs) = B := ⟨_, rfl⟩
  rw [hnf, hB] at E0
  have HB := hid hB
  have HE0 := hid E0
  have H := hid h
  have HNF := hid hnf
  have HFI := hid hfi
  obtain ⟨fl, hfl⟩ : ∃ fl, (M.frame bs).length = fl := ⟨_, rfl⟩
  rw [hfl] at HF
  have hfl2 : fl ≤ 1048600 := by have h1 := h.len; have h2 := h.sl.1; have := M.frame_len_le bs (by omega); omega
  have HFL := hid (And.intro hfl hfl2)
  obtain ⟨n, hn⟩ : ∃ n, L.segs.length = n := ⟨_, rfl⟩
  have HNN := hid hn
  have hnb : n ≤ 100000000 := hn ▸ h.segs
  have HPF := hid (And.intro pf1 (And.intro pf2 (And.intro pf3 (And.intro pf6 (And.intro pf4 pf5)))))
  have HLS := hid hlast
  have HR := hid hR
  clear h hR hfl hB E0 hnf hfi pf1 pf2 pf3 pf4 pf5 pf6 pf7 hlast hfl2 hn
  go_enter Tryz.func63, Tryz.ntmps63
  go_wp2_with (first
    | (go_at_call 107; refine HF.out.mono ?_; rintro e w1 ⟨fa, fc, rfl, how, hf1⟩; have F1 := hid hf1; have HOW := hid how; clear how hf1))
  refine (KP.out _ F1.out).mono ?_
  rintro e w2 ⟨⟨v, rfl, hv⟩, ht2⟩
  replace hv := hv rfl
  rw [HNN.out] at hv
  simp only [if_true] at hv
  subst hv
  have HT2 := hid (ht2.pre F1.out)
  have f2 := ht2.2
  -- the frame is still there
  have hsz1 := F1.out.size
  have hSlt := H.out.ld.1
  have hfr2 : Sl w2 fa fl (M.frame bs) := by
    have h1 := HOW.out.sl
    rw [HFL.out.1] at h1
    exact h1.kept f2 (fun hz k hk e => by have h2 := (HOW.out.lt k hk).1; have h3 := hSlt k e; omega)
  have hrec2 : Sl w2 a len bs := (H.out.sl.kept F1.out (fun _ _ _ h => h)).kept f2 (fun hz k hk e => H.out.ap hz k hk e)
  have hT2 : Tv w2 := (H.out.tv.kept F1.out (fun h => h)).kept f2 H.out.hG
  obtain ⟨x1, Sd, Sl', x2, x3, x4, x5, x6⟩ := HT2.out.1
  obtain ⟨g1, ok, co, sa, sc, sl, hcs, hm⟩ := x6
  have H6 := hid (show Lk Sl' w2 q p L1 from ⟨g1, ok, co, sa, sc, sl, hcs, hm⟩)
  obtain ⟨k0, k1, k2, k3, k4, k5, k6⟩ := hm.k
  have hsl : sl.length = n := by rw [← HNN.out, ← HPF.out.1, ← hm.eq, List.length_map]
  rw [hsl] at k2
  have hql := lt_of_row hm.at_
  have hSq : Sl' q := hcs q (by rw [hm.cq]; simp)
  have NSd : ¬ Sd q := fun e => x4 q e hSq
  have hf : fi = L1.next := by rw [← HFI.out]; rfl
  have hf0 : -9223372036854775808 ≤ fi := by have := ok.n0; omega
  have hf1 : fi ≤ 9223372036854775807 := by have := ok.n1; omega
  rw [← hf] at k3
  have HFN := hid hf
  clear hf
  have hpn : ¬ (n : Int) < (n : Int) := by omega
  have KF := hid (fun W (hW : Fr (fun _ => False) w2 W) => file_any W q L1.nm ok.le (cell_fr hW (fun h => h) k1) fi hf0 hf1 (hT2.kept hW (fun h => h)))
  have hnf2 : W.seg L1.nm fi = nf := by rw [← HNF.out, ← HFI.out]; rfl
  rw [hnf2] at KF
  have KA0 : ∀ W, Fr (fun _ => False) w2 W → Calls Tryz.prog 36 #[.pointer (some ⟨p, 0, none⟩), encStr nf, .slice fa fl fc] W fun e w' => e = .returned (.int .i64 B.1) ∧ Td Sd W p B.2 w' := fun W hW => by
    have := append_any (x5.kept hW (fun _ _ h => h)) ⟨nf.toArray⟩ (by rw [← hnf2]; exact seg_size _ _) fa fl fc (M.frame bs) (hfr2.kept hW (fun _ _ _ h => h)) (by have := HFL.out.2; omega) (fun hh => by have h1 := H.out.room; have h2 := HPF.out.2.2.2.1; omega)
    rw [← HB.out]
    simpa using this
  have KA := hid KA0
  have HX := hid (And.intro x1 (And.intro x2 (And.intro x3 x4)))
  have HM := hid hm
  have HCS := hid hcs
  have HOK := hid ok
  have HREC := hid hrec2
  have HNS := hid NSd
  have HSL := hid hsl
  have HK := hid (fun W (hW : Fr (fun _ => False) w2 W) => cell_fr hW (fun h => h) k0)
  clear x1 x2 x3 x4 x5 g1 ok hcs hm hrec2 hfr2 hT2 hsz1 hSlt f2 ht2 hnf2 KA0 NSd hsl hSq k1 k4 k5 k6 hql
  go_wp2
  go_region_held3 (fun w' => w'.cell? ⟨q, 0, none⟩ = some (.pointer (some ⟨p, 0, none⟩))) (first | go_keep | exact s1)
    (first
      | (go_at_call 73; refine (KF.out _ (by first | exact Fr.refl _ _ | exact Fr.drew (Fr.refl _ _) | exact Fr.drewN _ _)).mono ?_; rintro e w3 ⟨rfl, hf3⟩; have f3 : Fr (fun _ => False) w2 w3 := (by first | exact hf3 | exact (Fr.drew (Fr.refl _ _)).trans hf3 (fun _ _ h => h) | exact (Fr.drewN _ _).trans hf3 (fun _ _ h => h)); have s1 := HK.out w3 f3; have F3 := hid f3; clear f3 hf3)
      | (go_at_call 36; refine (KA.out _ (by first | exact F3.out | exact Fr.drew F3.out | exact F3.out.trans (Fr.drewN _ _) (fun _ _ h => h))).mono ?_; rintro e w4 ⟨rfl, ht4⟩; have s1 := cell_fr ht4.2 HNS.out s1; have HT4 := hid (ht4.pre' (by first | exact F3.out | exact Fr.drew F3.out | exact F3.out.trans (Fr.drewN _ _) (fun _ _ h => h))); clear ht4))
  obtain ⟨x1, x2, x3, x4⟩ := HX.out
  by_cases hz : B.1 = 0
  · rw [hz]
    have E2 := hid (show W.put d L bs = (0, B.2, L1.add true bs) from by rw [HE0.out, if_neg (by simp [hz])])
    have hm4 := HM.out.kept HT4.out.2 (fun k hk e => x4 k e (HCS.out k hk))
    have hrec4 : Sl w4 a len bs := HREC.out.kept HT4.out.2 (fun hz k hk e => by
      have h1 := x2 k e
      rcases h1.1 with h2 | h2
      · exact H.out.ap hz k hk h2
      · have := H.out.sl.lt hz k hk
        omega)
    obtain ⟨k0, k1, k2, k3, k4, k5, k6⟩ := hm4.k
    rw [HSL.out] at k2
    have hql := lt_of_row hm4.at_
    obtain ⟨sa5, sc5, w5, hr5, hrow5, hf5, hat5⟩ := seg_append w4 59 sa sc sl n HSL.out (by have := hm4.row; rw [HSL.out] at this; exact this) (by omega) fi
    have hm6 : Lm (fun k => if blk sa5 = some k then some .segs else co k) (w5.setCell ⟨q, 2, none⟩ (.slice sa5 (n + 1) sc5)) q p sa5 sc5 (sl ++ [⟨fi, none, 0, []⟩]) { L1 with segs := L1.segs ++ [⟨fi, []⟩] } := by
      have := hm4.addSeg fi (sa' := sa5) (sc' := sc5) (w1 := w5) (by rw [HSL.out]; exact hrow5) hf5 hat5
      rw [HSL.out] at this
      exact this
    have hqsa : blk sa ≠ some q := fun e => by have := hm4.cs q e; rw [hm4.cq] at this; simp at this
    have q5 := hf5.cells hm4.at_ hqsa
    have c52 : w5.cell? ⟨q, 2, none⟩ = some (.slice sa n sc) := by have := cell_of (j := 2) q5 rfl; rw [HSL.out] at this; exact this
    have z52 := frozen_of_row (j := 2) q5
    obtain ⟨w6, hw6⟩ : ∃ w6, w6 = w5.setCell ⟨q, 2, none⟩ (.slice sa5 (n + 1) sc5) := ⟨_, rfl⟩
    rw [← hw6] at hm6
    have hlen6 : (sl ++ [(⟨fi, none, 0, []⟩ : SM)]).length = n + 1 := by rw [List.length_append, HSL.out]; rfl
    have hi6 : (sl ++ [(⟨fi, none, 0, []⟩ : SM)])[n]? = some ⟨fi, none, 0, []⟩ := by rw [List.getElem?_append_right (by have := HSL.out; omega), HSL.out]; simp
    have ha6 := scs_at hi6
    obtain ⟨g, fo, hg5⟩ := hm6.row.some_of (by rw [hlen6]; omega)
    subst hg5
    have e61 := hm6.row.cell ha6.2
    rw [← Nat.add_assoc] at e61
    simp only [List.length_nil] at e61
    have c62 : w6.cell? ⟨q, 2, none⟩ = some (.slice (some ⟨g, fo, none⟩) (n + 1) sc5) := by have := hm6.k.2.2.1; rw [hlen6] at this; exact this
    have z6g := hm6.row.frozen (fo + n * 2 + 1)
    have f46 : Fr (fun k => co k ≠ none) w4 w6 := by rw [hw6]; exact Fr.setCell (p := ⟨q, 2, none⟩) (hf5.mono (fun k _ e => by rw [hm4.cs k e]; simp)) (fun _ => by rw [hm4.cq]; simp) _
    have hrec6 : Sl w6 a len bs := hrec4.kept f46 (fun hz k hk e => by
      have h1 := x3 k (HCS.out k e)
      rcases h1.1 with h2 | h2
      · exact H.out.ap hz k hk h2
      · have := H.out.sl.lt hz k hk; omega)
    have KC := hid (fun W (hW : Fr (fun _ => False) w6 W) => clone_any a len c bs W (hrec6.kept hW (fun _ _ _ h => h)) (by have := H.out.len; omega))
    have KR := hid (fun w7 (hf7 : Fr (fun _ => False) w6 w7) (ba : Option Addr) (bc : Nat) => rec_append w7 28 none 0 0 [] ⟨rfl, .inl ⟨rfl, rfl⟩⟩ (by omega) ba len bc)
    have HM6 := hid hm6
    have HI6 := hid (And.intro hi6 hlen6)
    have F46 := hid f46
    have HC6 := hid (show ∀ k, (if blk (some (⟨g, fo, none⟩ : Addr)) = some k then some LC.segs else co k) ≠ none → co k ≠ none ∨ w4.heap.size ≤ k from fun k hk => by
      by_cases e : blk (some (⟨g, fo, none⟩ : Addr)) = some k
      · rcases hat5 with e2 | ⟨j, e2, hj⟩
        · rw [e2] at e; exact .inl (by rw [hm4.cs k e]; simp)
        · rw [e2] at e; simp [blk] at e; exact .inr (by omega)
      · rw [if_neg e] at hk; exact .inl hk)
    have R5 := hid hr5
    have HK6 := hid (fun W (hW : Fr (fun _ => False) w6 W) => And.intro (cell_fr hW (fun h => h) e61) (show W.frozen? ⟨g, fo + n * 2 + 1, none⟩ = false from (hm6.row.kept hW (fun _ _ h => h)).frozen (fo + n * 2 + 1)))
    have HBL := hid H.out.sl.1
    have i0 : (0 : Int) ≤ (n : Int) := by omega
    have i1 : (n : Int) < ((n + 1 : Nat) : Int) := by omega
    have HNX := hid (show L1.next ≤ 999999999999 from by have h1 := H.out.next; have h2 := HPF.out.2.2.1; omega)
    have HW6 := hid hw6
    have HX4 := hid (And.intro x1 (And.intro x2 (And.intro x3 x4)))
    have hw1 : IntKind.i64.wrap (L1.next + 1) = L1.next + 1 := by rw [IntKind.wrap_i64]; have h1 := HOK.out.n0; have h2 := HNX.out; omega
    clear hw6 hm6 hi6 hlen6 f46 hrec6 hrec4 hrow5 hf5 hat5 hqsa q5 ha6 hm4 k0 k1 k3 k4 k5 k6 x1 x2 x3 x4 hz e61 z6g hr5
    have PAST := hid (show ∀ w7 ba bc (ra' : Option Addr) rc' w8, Fr (fun _ => False) w6 w7 → Ow w6.heap.size w7 ba bc bs → w8.ownsRow 0 50 1 (.slice ra' 1 rc') 1 ([] ++ [.slice ba len bc]) → Fr (fun k => blk none = some k) w7 w8 → (ra' = none ∨ ∃ k, ra' = some ⟨k, 0, none⟩ ∧ w7.heap.size < k) →
        LT S w p q B.2 (L1.add true bs) (((w8.setCell ⟨g, fo + n * 2 + 1, none⟩ (.slice ra' 1 rc')).setCell ⟨q, 3, none⟩ (.int .i64 (L1.next + 1))).setCell ⟨q, 5, none⟩ (.bool true)) ∧ (w8.setCell ⟨g, fo + n * 2 + 1, none⟩ (.slice ra' 1 rc')).cell? ⟨q, 3, none⟩ = some (.int .i64 L1.next) ∧ (w8.setCell ⟨g, fo + n * 2 + 1, none⟩ (.slice ra' 1 rc')).frozen? ⟨q, 3, none⟩ = false ∧ (w8.setCell ⟨g, fo + n * 2 + 1, none⟩ (.slice ra' 1 rc')).cell? ⟨q, 5, none⟩ = some (.bool L1.dirty) ∧ (w8.setCell ⟨g, fo + n * 2 + 1, none⟩ (.slice ra' 1 rc')).frozen? ⟨q, 5, none⟩ = false from by
      intro w7 ba bc ra' rc' w8 hf7 how hrow hf8 hpl
      obtain ⟨c', hmr, hcc, hfr⟩ := HM6.out.rec_done HI6.out.1 (by rw [HI6.out.2]) (n := 0) (bl := len) rfl HBL.out hf7 how hrow hf8 hpl
      obtain ⟨hmc, hfc⟩ := hmr.counted
      refine ⟨?_, hmr.k.2.2.2.1, frozen_of_row (j := 3) hmr.at_, hmr.k.2.2.2.2.2.1, frozen_of_row (j := 5) hmr.at_⟩
      obtain ⟨x1, x2, x3, x4⟩ := HX4.out
      have e1 : ({ ({ L1 with segs := L1.segs ++ [⟨fi, []⟩] } : W.LG) with segs := W.more (L1.segs ++ [⟨fi, []⟩]) bs, next := L1.next + 1, dirty := true } : W.LG) = L1.add true bs := by
        unfold W.LG.add
        rw [W.more_snoc, HFN.out]
        rfl
      have hmc2 : Lm c' _ q p _ sc5 _ (L1.add true bs) := e1 ▸ hmc
      have hqc : co q ≠ none := by rw [HM.out.cq]; simp
      have f6l : Fr (fun k => co k ≠ none) w4 (w8.setCell ⟨g, fo + n * 2 + 1, none⟩ (.slice ra' 1 rc')) := F46.out.trans hfr (fun i hi e => (HC6.out i e).resolve_right (by omega))
      have ffin : Fr (fun k => co k ≠ none) w4 _ := f6l.trans hfc (fun i _ e => e ▸ hqc)
      refine HT2.out.trans (LD.both x1 x2 x3 x4 HT4.out (ffin.mono (fun i _ e => HCS.out i e)) ⟨Nx.lt, W.ok_add HOK.out true bs HNX.out (fun h => by cases h), c', _, _, _, fun k hk => ⟨?_, hmc2.lt k hk⟩, hmc2⟩)
      rcases hcc k hk with h1 | h1
      · rcases HC6.out k h1 with h2 | h2
        · exact .inl (HCS.out k h2)
        · exact .inr h2
      · exact .inr (by have := F46.out.size; omega))
    go_wp2_with (first
      | (at_builtin; refine wpList_append_eq _ _ rfl (.tmp 69) (.tmp 72) _ rfl _ _ _ rfl rfl R5.out ?_))
    rw [← HW6.out]
    obtain ⟨s60, z60⟩ := HK6.out w6 (Fr.refl _ _)
    go_region_law (first
      | (rw [if_pos (by rfl)]; refine wp_append_eq (.tmp 86) (.tmp 89) _ rfl _ _ _ rfl rfl R8.out ?_)
      | (rw [if_pos (by rfl)]; go_simp; go_at_call 70; refine (KC.out _ (by first | exact Fr.refl _ _ | exact Fr.drew (Fr.refl _ _) | exact Fr.drewN _ _)).mono ?_; rintro e w7 ⟨ba, bc, rfl, how, hf7⟩; have f7 : Fr (fun _ => False) w6 w7 := (by first | exact hf7 | exact (Fr.drew (Fr.refl _ _)).trans hf7 (fun _ _ h => h)); obtain ⟨ra8, rc8, w8, hr8, hrow8, hf8, hat8⟩ := KR.out w7 f7 ba bc; have R8 := hid hr8; have how' : Ow w6.heap.size w7 ba bc bs := how.base (fun k hk => by have := (how.lt k hk).1; simpa using this); obtain ⟨lt8, y1, y2, y3, y4⟩ := PAST.out w7 ba bc ra8 rc8 w8 f7 how' hrow8 hf8 hat8; have LT8 := hid lt8; obtain ⟨s7, z7⟩ := HK6.out w7 f7; obtain ⟨s7a, z7a⟩ := HK6.out _ (Fr.alloc f7 (.cells #[.slice ba len bc] 50)); have f78 : Fr (fun _ => False) w6 w8 := f7.trans hf8 (fun _ _ e => by simp [blk] at e); obtain ⟨s8, z8⟩ := HK6.out w8 f78; clear lt8 hr8 hrow8 hf8 hat8 how how' hf7 f7 f78; dsimp only))
    all_goals go_wp2
    all_goals go_ret
    all_goals rw [E2.out]
    all_goals exact ⟨rfl, LT8.out⟩
  · have E2 := hid (show W.put d L bs = (B.1, B.2, L1) from by rw [HE0.out, if_pos hz])
    have hb : (B.1 == 0) = false := by simpa using hz
    have HLT := hid (HT2.out.trans (LD.disk x1 x2 x3 x4 H6.out HT4.out))
    clear x1 x2 x3 x4 hz
    go_wp2
    go_ret
    rw [E2.out]
    exact ⟨rfl, HLT.out⟩

set_option maxHeartbeats 3200000 in
set_option maxRecDepth 20000 in
theorem put_old {S : Nat → Prop} {w : World} {p q : Nat} {d : K.DK} {L : W.LG} {a : Option Addr} {len : Nat} {bs : List UInt8} (h : PutPre S w p q d L a len bs) (c : Nat) (he : (W.place d L).1 = 0) (hnew : (W.place d L).2.1 = false) :
    Calls Tryz.prog 63 #[.pointer (some ⟨q, 0, none⟩), .slice a len c] w fun e w' => e = .returned (.int .i64 (W.put d L bs).1) ∧ LT S w p q (W.put d L bs).2.1 (W.put d L bs).2.2 w' := by
  have HF := hid (frame_ok a len c bs w h.sl (by have := h.len; omega))
  have KP := hid (fun W (hW : Fr (fun _ => False) w W) => place_any (h.ld.kept hW (fun _ _ h => h)) (h.tv.kept hW (fun h => h)) h.hG)
  obtain ⟨pf1, pf2, pf3, pf4, pf5, pf6, pf7⟩ := W.place_facts d L
  have hlast := pf7 he
  have HE := hid he
  have HN := hid hnew
  have E0 : W.put d L bs = if (K.app (W.place d L).2.2.1 ((W.place d L).2.2.2.file ((W.place d L).2.2.2.at_ false)) (M.frame bs)).1 ≠ 0 then ((K.app (W.place d L).2.2.1 ((W.place d L).2.2.2.file ((W.place d L).2.2.2.at_ false)) (M.frame bs)).1, (K.app (W.place d L).2.2.1 ((W.place d L).2.2.2.file ((W.place d L).2.2.2.at_ false)) (M.frame bs)).2, (W.place d L).2.2.2) else (0, (K.app (W.place d L).2.2.1 ((W.place d L).2.2.2.file ((W.place d L).2.2.2.at_ false)) (M.frame bs)).2, (W.place d L).2.2.2.add false bs) := by
    unfold W.put
    rw [if_neg (by simp [he]), hnew]
  obtain ⟨R, hR⟩ : ∃ R, W.place d L = R := ⟨_, rfl⟩
  rw [hR] at KP E0 he hnew pf1 pf2 pf3 pf4 pf5 pf6 HE HN
  obtain ⟨er, new, d1, L1⟩ := R
  simp only at KP E0 he hnew pf1 pf2 pf3 pf4 pf5 pf6 HE HN
  subst he
  subst hnew
  obtain ⟨nf, hnf⟩ : ∃ nf, L1.file (L1.at_ false) = nf := ⟨_, rfl⟩
  obtain ⟨fi, hfi⟩ : ∃ fi, L1.at_ false = fi := ⟨_, rfl⟩
  obtain ⟨B, hB⟩ : ∃ B, K.app d1 nf (M.frame bs) = B := ⟨_, rfl⟩
  rw [hnf, hB] at E0
  have HB := hid hB
  have HE0 := hid E0
  have H := hid h
  have HNF := hid hnf
  have HFI := hid hfi
  obtain ⟨fl, hfl⟩ : ∃ fl, (M.frame bs).length = fl := ⟨_, rfl⟩
  rw [hfl] at HF
  have hfl2 : fl ≤ 1048600 := by have h1 := h.len; have h2 := h.sl.1; have := M.frame_len_le bs (by omega); omega
  have HFL := hid (And.intro hfl hfl2)
  obtain ⟨n, hn⟩ : ∃ n, L.segs.length = n := ⟨_, rfl⟩
  have HNN := hid hn
  have hnb : n ≤ 100000000 := hn ▸ h.segs
  have HPF := hid (And.intro pf1 (And.intro pf2 (And.intro pf3 (And.intro pf6 (And.intro pf4 pf5)))))
  have HLS := hid hlast
  have HR := hid hR
  clear h hR hfl hB E0 hnf hfi pf1 pf2 pf3 pf4 pf5 pf6 pf7 hlast hfl2 hn
  go_enter Tryz.func63, Tryz.ntmps63
  go_wp2_with (first
    | (go_at_call 107; refine HF.out.mono ?_; rintro e w1 ⟨fa, fc, rfl, how, hf1⟩; have F1 := hid hf1; have HOW := hid how; clear how hf1))
  refine (KP.out _ F1.out).mono ?_
  rintro e w2 ⟨⟨v, rfl, hv⟩, ht2⟩
  replace hv := hv rfl
  rw [HNN.out] at hv
  simp only [Bool.false_eq_true, if_false] at hv
  obtain ⟨s, hs⟩ := HLS.out (by rw [HR.out])
  have hnp : 0 < n := by
    rw [← HNN.out]
    rcases Nat.eq_zero_or_pos L.segs.length with e | e
    · rw [List.eq_nil_of_length_eq_zero e] at hs; cases hs
    · exact e
  obtain ⟨n1, hn1⟩ : ∃ n1 : Nat, (n : Int) - 1 = (n1 : Int) := ⟨n - 1, by omega⟩
  rw [hn1] at hv
  subst hv
  have HT2 := hid (ht2.pre F1.out)
  have f2 := ht2.2
  -- the frame is still there
  have hsz1 := F1.out.size
  have hSlt := H.out.ld.1
  have hfr2 : Sl w2 fa fl (M.frame bs) := by
    have h1 := HOW.out.sl
    rw [HFL.out.1] at h1
    exact h1.kept f2 (fun hz k hk e => by have h2 := (HOW.out.lt k hk).1; have h3 := hSlt k e; omega)
  have hrec2 : Sl w2 a len bs := (H.out.sl.kept F1.out (fun _ _ _ h => h)).kept f2 (fun hz k hk e => H.out.ap hz k hk e)
  have hT2 : Tv w2 := (H.out.tv.kept F1.out (fun h => h)).kept f2 H.out.hG
  obtain ⟨x1, Sd, Sl', x2, x3, x4, x5, x6⟩ := HT2.out.1
  obtain ⟨g1, ok, co, sa, sc, sl, hcs, hm⟩ := x6
  have H6 := hid (show Lk Sl' w2 q p L1 from ⟨g1, ok, co, sa, sc, sl, hcs, hm⟩)
  obtain ⟨k0, k1, k2, k3, k4, k5, k6⟩ := hm.k
  have hsl : sl.length = n := by rw [← HNN.out, ← HPF.out.1, ← hm.eq, List.length_map]
  rw [hsl] at k2
  have hql := lt_of_row hm.at_
  have hSq : Sl' q := hcs q (by rw [hm.cq]; simp)
  have NSd : ¬ Sd q := fun e => x4 q e hSq
  obtain ⟨g, fo, m, rfl, hml, hmg, hpos, e1, e2⟩ := hm.last (show L1.segs.getLast? = some s from by rw [HPF.out.1]; exact hs)
  have hf : fi = s.first := by rw [← HFI.out]; unfold W.LG.at_; rw [HPF.out.1, hs]; rfl
  have hfb := ok.fs s (by rw [HPF.out.1]; exact List.mem_of_getLast? hs)
  have hf0 : -9223372036854775808 ≤ fi := by omega
  have hf1 : fi ≤ 9223372036854775807 := by omega
  have hnn : sl.length - 1 = n1 := by omega
  rw [hnn] at e1 e2 hml
  rw [← hf] at e1
  have i0 : (0 : Int) ≤ (n1 : Int) := by omega
  have i1 : (n1 : Int) < (n : Int) := by omega
  have hne : ((n1 : Int) == (n : Int)) = false := by simp; omega
  have HML := hid hml
  have HMG := hid hmg
  have HS1 := hid (show n1 + 1 = sl.length from by omega)
  have HMF := hid (show m.rl.length ≤ 100000000 from by
    have h1 := H.out.few s (List.mem_of_getLast? hs)
    rw [← hmg] at h1
    simpa [SM.sg] using h1)
  clear hf hfb hnn hml hmg hpos hs hnp hn1 e2
  have KF := hid (fun W (hW : Fr (fun _ => False) w2 W) => file_any W q L1.nm ok.le (cell_fr hW (fun h => h) k1) fi hf0 hf1 (hT2.kept hW (fun h => h)))
  have hnf2 : W.seg L1.nm fi = nf := by rw [← HNF.out, ← HFI.out]; rfl
  rw [hnf2] at KF
  have KA0 : ∀ W, Fr (fun _ => False) w2 W → Calls Tryz.prog 36 #[.pointer (some ⟨p, 0, none⟩), encStr nf, .slice fa fl fc] W fun e w' => e = .returned (.int .i64 B.1) ∧ Td Sd W p B.2 w' := fun W hW => by
    have := append_any (x5.kept hW (fun _ _ h => h)) ⟨nf.toArray⟩ (by rw [← hnf2]; exact seg_size _ _) fa fl fc (M.frame bs) (hfr2.kept hW (fun _ _ _ h => h)) (by have := HFL.out.2; omega) (fun hh => by have h1 := H.out.room; have h2 := HPF.out.2.2.2.1; omega)
    rw [← HB.out]
    simpa using this
  have KA := hid KA0
  have HX := hid (And.intro x1 (And.intro x2 (And.intro x3 x4)))
  have HM := hid hm
  have HCS := hid hcs
  have HOK := hid ok
  have HREC := hid hrec2
  have HNS := hid NSd
  have HSL := hid hsl
  have HK := hid (fun W (hW : Fr (fun _ => False) w2 W) => cell_fr hW (fun h => h) k0)
  clear x1 x2 x3 x4 x5 g1 ok hcs hm hrec2 hfr2 hT2 hsz1 hSlt f2 ht2 hnf2 KA0 NSd hsl hSq k1 k4 k5 k6 hql
  go_wp2
  go_region_held3 (fun w' => w'.cell? ⟨q, 0, none⟩ = some (.pointer (some ⟨p, 0, none⟩))) (first | go_keep | exact s1)
    (first
      | (go_at_call 73; refine (KF.out _ (by first | exact Fr.refl _ _ | exact Fr.drew (Fr.refl _ _) | exact Fr.drewN _ _)).mono ?_; rintro e w3 ⟨rfl, hf3⟩; have f3 : Fr (fun _ => False) w2 w3 := (by first | exact hf3 | exact (Fr.drew (Fr.refl _ _)).trans hf3 (fun _ _ h => h) | exact (Fr.drewN _ _).trans hf3 (fun _ _ h => h)); have s1 := HK.out w3 f3; have F3 := hid f3; clear f3 hf3)
      | (go_at_call 36; refine (KA.out _ (by first | exact F3.out | exact Fr.drew F3.out | exact F3.out.trans (Fr.drewN _ _) (fun _ _ h => h))).mono ?_; rintro e w4 ⟨rfl, ht4⟩; have s1 := cell_fr ht4.2 HNS.out s1; have HT4 := hid (ht4.pre' (by first | exact F3.out | exact Fr.drew F3.out | exact F3.out.trans (Fr.drewN _ _) (fun _ _ h => h))); clear ht4))
  obtain ⟨x1, x2, x3, x4⟩ := HX.out
  by_cases hz : B.1 = 0
  · rw [hz]
    have E2 := hid (show W.put d L bs = (0, B.2, L1.add false bs) from by rw [HE0.out, if_neg (by simp [hz])])
    have hm4 := HM.out.kept HT4.out.2 (fun k hk e => x4 k e (HCS.out k hk))
    have hrec4 : Sl w4 a len bs := HREC.out.kept HT4.out.2 (fun hz k hk e => by
      have h1 := x2 k e
      rcases h1.1 with h2 | h2
      · exact H.out.ap hz k hk h2
      · have := H.out.sl.lt hz k hk
        omega)
    obtain ⟨k0, k1, k2, k3, k4, k5, k6⟩ := hm4.k
    rw [HSL.out] at k2
    have hql := lt_of_row hm4.at_
    have hrow4 := (hm4.sg n1 m HML.out).row
    have e61 := hm4.row.cell (scs_at HML.out).2
    rw [← Nat.add_assoc] at e61
    obtain ⟨ml, hml⟩ : ∃ ml, m.rl.length = ml := ⟨_, rfl⟩
    rw [hml] at e61 hrow4
    have HMLN := hid hml
    have hmb : ml ≤ 100000000 := hml ▸ HMF.out
    have KC := hid (fun W (hW : Fr (fun _ => False) w4 W) => clone_any a len c bs W (hrec4.kept hW (fun _ _ _ h => h)) (by have := H.out.len; omega))
    have KR := hid (fun w7 (hf7 : Fr (fun _ => False) w4 w7) (ba : Option Addr) (bc : Nat) => rec_append w7 28 m.ra m.rc ml (m.rl.map RcM.v) (ownsRow_kept hrow4 hf7 (fun _ _ h => h)) (by omega) ba len bc)
    have HM4 := hid hm4
    have HK6 := hid (fun W (hW : Fr (fun _ => False) w4 W) => And.intro (cell_fr hW (fun h => h) e61) (show W.frozen? ⟨g, fo + n1 * 2 + 1, none⟩ = false from (hm4.row.kept hW (fun _ _ h => h)).frozen (fo + n1 * 2 + 1)))
    have hmrg : blk m.ra ≠ some g := fun e => by have h1 := (hm4.sg n1 m HML.out).cr g e; have h2 := hm4.cs g rfl; rw [h1] at h2; simp at h2
    have HK8 := hid (fun W (hW : Fr (fun k => blk m.ra = some k) w4 W) => And.intro (cell_fr hW hmrg e61) (show W.frozen? ⟨g, fo + n1 * 2 + 1, none⟩ = false from (hm4.row.kept hW (fun k hk e => by simp [blk] at hk; exact hmrg (by rw [e, hk]))).frozen (fo + n1 * 2 + 1)))
    have HBL := hid H.out.sl.1
    have HNX := hid (show L1.next ≤ 999999999999 from by have h1 := H.out.next; have h2 := HPF.out.2.2.1; omega)
    have HX4 := hid (And.intro x1 (And.intro x2 (And.intro x3 x4)))
    have hw1 : IntKind.i64.wrap (L1.next + 1) = L1.next + 1 := by rw [IntKind.wrap_i64]; have h1 := HOK.out.n0; have h2 := HNX.out; omega
    have HSN := hid (show L1.segs ≠ [] from fun e => by have h1 := HM.out.eq; rw [e] at h1; have h2 := HS1.out; have h3 : sl = [] := List.map_eq_nil_iff.1 h1; rw [h3] at h2; simp at h2)
    clear hrec4 hm4 k0 k1 k3 k4 k5 k6 x1 x2 x3 x4 hz e61 hrow4 hml hmrg
    have PAST := hid (show ∀ w7 ba bc (ra' : Option Addr) rc' w8, Fr (fun _ => False) w4 w7 → Ow w4.heap.size w7 ba bc bs → w8.ownsRow 0 50 1 (.slice ra' (ml + 1) rc') (ml + 1) (m.rl.map RcM.v ++ [.slice ba len bc]) → Fr (fun k => blk m.ra = some k) w7 w8 → (ra' = m.ra ∨ ∃ k, ra' = some ⟨k, 0, none⟩ ∧ w7.heap.size < k) →
        LT S w p q B.2 (L1.add false bs) (((w8.setCell ⟨g, fo + n1 * 2 + 1, none⟩ (.slice ra' (ml + 1) rc')).setCell ⟨q, 3, none⟩ (.int .i64 (L1.next + 1))).setCell ⟨q, 5, none⟩ (.bool true)) ∧ (w8.setCell ⟨g, fo + n1 * 2 + 1, none⟩ (.slice ra' (ml + 1) rc')).cell? ⟨q, 3, none⟩ = some (.int .i64 L1.next) ∧ (w8.setCell ⟨g, fo + n1 * 2 + 1, none⟩ (.slice ra' (ml + 1) rc')).frozen? ⟨q, 3, none⟩ = false ∧ (w8.setCell ⟨g, fo + n1 * 2 + 1, none⟩ (.slice ra' (ml + 1) rc')).cell? ⟨q, 5, none⟩ = some (.bool L1.dirty) ∧ (w8.setCell ⟨g, fo + n1 * 2 + 1, none⟩ (.slice ra' (ml + 1) rc')).frozen? ⟨q, 5, none⟩ = false from by
      intro w7 ba bc ra' rc' w8 hf7 how hrow hf8 hpl
      obtain ⟨c', hmr, hcc, hfr⟩ := HM4.out.rec_done HML.out HS1.out HMLN.out HBL.out hf7 how hrow hf8 hpl
      obtain ⟨hmc, hfc⟩ := hmr.counted
      refine ⟨?_, hmr.k.2.2.2.1, frozen_of_row (j := 3) hmr.at_, hmr.k.2.2.2.2.2.1, frozen_of_row (j := 5) hmr.at_⟩
      obtain ⟨x1, x2, x3, x4⟩ := HX4.out
      have hmc2 : Lm c' _ q p _ sc _ (L1.add false bs) := hmc
      have hqc : co q ≠ none := by rw [HM.out.cq]; simp
      have ffin : Fr (fun k => co k ≠ none) w4 _ := hfr.trans hfc (fun i _ e => e ▸ hqc)
      refine HT2.out.trans (LD.both x1 x2 x3 x4 HT4.out (ffin.mono (fun i _ e => HCS.out i e)) ⟨Nx.lt, W.ok_add HOK.out false bs HNX.out (fun _ => HSN.out), c', _, _, _, fun k hk => ⟨?_, hmc2.lt k hk⟩, hmc2⟩)
      rcases hcc k hk with h1 | h1
      · exact .inl (HCS.out k h1)
      · exact .inr h1)
    go_wp2
    obtain ⟨s60, z60⟩ := HK6.out w4 (Fr.refl _ _)
    go_region_law (first
      | (rw [if_pos (by rfl)]; refine wp_append_eq (.tmp 86) (.tmp 89) _ rfl _ _ _ rfl rfl R8.out ?_)
      | (rw [if_pos (by rfl)]; go_simp; go_at_call 70; refine (KC.out _ (by first | exact Fr.refl _ _ | exact Fr.drew (Fr.refl _ _) | exact Fr.drewN _ _)).mono ?_; rintro e w7 ⟨ba, bc, rfl, how, hf7⟩; have f7 : Fr (fun _ => False) w4 w7 := (by first | exact hf7 | exact (Fr.drew (Fr.refl _ _)).trans hf7 (fun _ _ h => h)); obtain ⟨ra8, rc8, w8, hr8, hrow8, hf8, hat8⟩ := KR.out w7 f7 ba bc; have R8 := hid hr8; have how' : Ow w4.heap.size w7 ba bc bs := how.base (fun k hk => by have := (how.lt k hk).1; simpa using this); obtain ⟨lt8, y1, y2, y3, y4⟩ := PAST.out w7 ba bc ra8 rc8 w8 f7 how' hrow8 hf8 hat8; have LT8 := hid lt8; obtain ⟨s7, z7⟩ := HK6.out w7 f7; obtain ⟨s7a, z7a⟩ := HK6.out _ (Fr.alloc f7 (.cells #[.slice ba len bc] 50)); have f78 : Fr (fun k => blk m.ra = some k) w4 w8 := (f7.mono (fun _ _ h => h.elim)).trans hf8 (fun _ _ e => e); obtain ⟨s8, z8⟩ := HK8.out w8 f78; clear lt8 hr8 hrow8 hf8 hat8 how how' hf7 f7 f78; dsimp only))
    all_goals go_wp2
    all_goals go_ret
    all_goals rw [E2.out]
    all_goals exact ⟨rfl, LT8.out⟩
  · have E2 := hid (show W.put d L bs = (B.1, B.2, L1) from by rw [HE0.out, if_pos hz])
    have hb : (B.1 == 0) = false := by simpa using hz
    have HLT := hid (HT2.out.trans (LD.disk x1 x2 x3 x4 H6.out HT4.out))
    clear x1 x2 x3 x4 hz
    go_wp2
    go_ret
    rw [E2.out]
    exact ⟨rfl, HLT.out⟩

end Go.Proofs.YtgplkjfkafnpoaaGreatDoor
