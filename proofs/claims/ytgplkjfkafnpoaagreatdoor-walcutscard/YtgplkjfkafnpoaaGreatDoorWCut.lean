/-
  The contract of a log: Cut.
-/
import Derived.Test.YtgplkjfkafnpoaaGreatDoorWAsk
namespace Go.Proofs.YtgplkjfkafnpoaaGreatDoor
open Go.RowKit
set_option linter.unusedVariables false
namespace W
def cutGo (nm : List UInt8) (b : Int) : K.DK → List SG → Int × K.DK × List SG
  | d, s :: t :: r => if t.first ≤ b then (if (K.rem d (seg nm s.first)).1 ≠ 0 then ((K.rem d (seg nm s.first)).1, (K.rem d (seg nm s.first)).2, s :: t :: r) else cutGo nm b (K.rem d (seg nm s.first)).2 (t :: r)) else (0, d, s :: t :: r)
  | d, l => (0, d, l)
theorem cutGo_cons (nm : List UInt8) (b : Int) (d : K.DK) (s t : SG) (r : List SG) : cutGo nm b d (s :: t :: r) = if t.first ≤ b then (if (K.rem d (seg nm s.first)).1 ≠ 0 then ((K.rem d (seg nm s.first)).1, (K.rem d (seg nm s.first)).2, s :: t :: r) else cutGo nm b (K.rem d (seg nm s.first)).2 (t :: r)) else (0, d, s :: t :: r) := by
  conv => lhs; unfold cutGo
def cut (d : K.DK) (L : LG) (b : Int) : Int × K.DK × LG := ((cutGo L.nm b d L.segs).1, (cutGo L.nm b d L.segs).2.1, { L with segs := (cutGo L.nm b d L.segs).2.2 })
end W
/-- the colours behind the first segment's removal -/
def LC.down : Option LC → Option LC
  | some (.recs 0) => none
  | some (.recs (i + 1)) => some (.recs i)
  | x => x
theorem LC.down_some {x : Option LC} (h : LC.down x ≠ none) : x ≠ none := by
  intro e
  subst e
  exact h rfl
theorem run_cutS (w : World) (g fo n c : Nat) (hn : 1 ≤ n) (hc : 1 < c) :
    (Instr.slice 59 (.slice (some ⟨g, fo, none⟩) n c) (some (.int .i64 1)) none none).run Tryz.prog w = .ok (.slice (some ⟨g, fo + 2, none⟩) (n - 1) (c - 1)) w := by
  obtain ⟨i0, hi, hz0, hz1, hz2⟩ := info_parts infoSeg
  have h1 : (Instr.sliceBound (.int .i64 1) n .sliceB).run Tryz.prog w = .ok 1 w := by
    have : (0 : Int) ≤ 1 ∧ (1 : Int) ≤ (n : Int) := by omega
    simp [Instr.sliceBound, asIntOf, this]
  have h2 : ¬ c = 1 := by omega
  simp [Instr.slice, Instr.sliceBounds, h1, run_underlying Tryz.underlying59, sizeOf, typeInfo, hi, hz1, h2, Addr.add_lit]
/-- the first segment is gone -/
theorem Lm.drop {c : Nat → Option LC} {w : World} {q p g fo sc n : Nat} {m : SM} {r : List SM} {L : W.LG} (h : Lm c w q p (some ⟨g, fo, none⟩) sc (m :: r) L) (hn : (m :: r).length = n) (hr : 0 < r.length) :
    Lm (fun k => LC.down (c k)) (((w.setCell ⟨g, fo, none⟩ (.int .i64 0)).setCell ⟨g, fo + 1, none⟩ (.slice none 0 0)).setCell ⟨q, 2, none⟩ (.slice (some ⟨g, fo + 2, none⟩) (n - 1) (sc - 1))) q p (some ⟨g, fo + 2, none⟩) (sc - 1) r { L with segs := r.map SM.sg } ∧
      Fr (fun k => c k ≠ none) w (((w.setCell ⟨g, fo, none⟩ (.int .i64 0)).setCell ⟨g, fo + 1, none⟩ (.slice none 0 0)).setCell ⟨q, 2, none⟩ (.slice (some ⟨g, fo + 2, none⟩) (n - 1) (sc - 1))) := by
  have hcg : c g = some .segs := h.cs g rfl
  have hqg : q ≠ g := fun e => by have := h.cq; rw [e, hcg] at this; simp at this
  have hf1 : Fr (fun k => k = g) w ((w.setCell ⟨g, fo, none⟩ (.int .i64 0)).setCell ⟨g, fo + 1, none⟩ (.slice none 0 0)) := Fr.setCell (p := ⟨g, fo + 1, none⟩) (Fr.setCell (p := ⟨g, fo, none⟩) (S := fun k => k = g) (Fr.refl _ _) (fun _ => rfl) _) (fun _ => rfl) _
  have hro1 : Ro ((w.setCell ⟨g, fo, none⟩ (.int .i64 0)).setCell ⟨g, fo + 1, none⟩ (.slice none 0 0)) 112 2 (some ⟨g, fo + 2, none⟩) r.length (sc - 1) (scs r) := by
    have hl : (m :: r).length = r.length + 1 := rfl
    rcases h.row.2 with ⟨hv, _⟩ | ⟨g', o, cur, hv, hg, h1, h2, h3, h4⟩
    · cases hv
    · simp only [Option.some.injEq, Addr.mk.injEq, and_true] at hv
      obtain ⟨rfl, rfl⟩ := hv
      rw [hl] at h1 h4
      refine ⟨scs_length r, .inr ⟨g, o + 1, (cur.setIfInBounds (o * 2) (.int .i64 0)).setIfInBounds (o * 2 + 1) (.slice none 0 0), by rw [Nat.add_mul], setCell_row (setCell_row hg _) _, by omega, by omega, ?_, ?_⟩⟩
      · simp only [Array.size_setIfInBounds, h3]
        congr 1
        omega
      · rw [Array.toList_setIfInBounds, Array.toList_setIfInBounds, List.drop_set, if_pos (by omega), List.drop_set, if_pos (by omega)]
        have e1 : scs (m :: r) = SM.cs m ++ scs r := by simp [scs]
        rw [e1] at h4
        have e2 := congrArg (List.drop 2) h4
        rw [List.drop_take, List.drop_drop, List.drop_append, show (SM.cs m).length = 2 from rfl, (show List.drop 2 (SM.cs m) = [] from rfl), List.nil_append] at e2
        simp only [Nat.sub_self, List.drop_zero] at e2
        rw [← e2]
        congr 1
        · omega
        · congr 1
          omega
  have hb1 := hf1.cells h.at_ hqg
  generalize (w.setCell ⟨g, fo, none⟩ (.int .i64 0)).setCell ⟨g, fo + 1, none⟩ (.slice none 0 0) = w1 at hf1 hro1 hb1 ⊢
  have hf2 : Fr (fun k => k = q) w1 (w1.setCell ⟨q, 2, none⟩ (.slice (some ⟨g, fo + 2, none⟩) (n - 1) (sc - 1))) := Fr.setCell (p := ⟨q, 2, none⟩) (S := fun k => k = q) (Fr.refl _ _) (fun _ => rfl) _
  have hfa : Fr (fun k => k = g ∨ k = q) w (w1.setCell ⟨q, 2, none⟩ (.slice (some ⟨g, fo + 2, none⟩) (n - 1) (sc - 1))) := (hf1.mono (fun _ _ e => .inl e)).trans hf2 (fun _ _ e => .inr e)
  have hn1 : n - 1 = r.length := by rw [← hn]; rfl
  refine ⟨⟨?_, hro1.kept hf2 (fun k hk e => by simp [blk] at hk; exact hqg (by rw [← e, hk])), by show LC.down (c q) = _; rw [h.cq]; rfl, fun k hk => ?_, fun i s hi => ?_, rfl, fun k hk => ?_⟩, hfa.mono (fun i _ e => by rcases e with e | e <;> subst e; rw [hcg]; simp; rw [h.cq]; simp)⟩
  · rw [setCell_row hb1, hn1]
    rfl
  · simp [blk] at hk
    subst hk
    show LC.down (c g) = _
    rw [hcg]
    rfl
  · have hs := (h.sg (i + 1) s (by simpa using hi)).kept hfa (fun k hk e => by
      rcases e with e | e <;> subst e
      · rw [hcg] at hk; simp at hk
      · rw [h.cq] at hk; simp at hk)
    exact ⟨hs.row, fun k hk => by show LC.down (c k) = _; rw [hs.cr k hk]; rfl, hs.by_, fun r hr hz k hk => by show LC.down (c k) = _; rw [hs.cb r hr hz k hk]; rfl⟩
  · have := h.lt k (LC.down_some hk)
    exact Nat.lt_of_lt_of_le this hfa.size

/-- how many segments the log's cell tells -/
def segsAt (q : Nat) (w : World) : Nat := match w.cell? ⟨q, 2, none⟩ with | some (.slice _ n _) => n | _ => 0

set_option maxHeartbeats 3200000 in
set_option maxRecDepth 20000 in
theorem wcut_any {S : Nat → Prop} {w : World} {p q : Nat} {d : K.DK} {L : W.LG} (h : LD S w p q d L) (T : Tv w) (hG : ¬ S 0) (b : Int) :
    Calls Tryz.prog 24 #[.pointer (some ⟨q, 0, none⟩), .int .i64 b] w fun e w' => e = .returned (.int .i64 (W.cut d L b).1) ∧ LT S w p q (W.cut d L b).2.1 (W.cut d L b).2.2 w' := by
  have H := hid h
  have HT := hid T
  have HG := hid hG
  obtain ⟨ok, c1, c3, c4, c6, hSq⟩ := h.cells
  have HM := hid (lmade_any w q L.nm ok.ne c1)
  clear h T hG ok c1 c3 c4 c6 hSq
  go_enter Tryz.func24, Tryz.ntmps24
  go_wp2_with (first | (go_at_call 67; refine HM.out.mono ?_; rintro e w' ⟨rfl, rfl⟩))
  go_loopw [5] (fun _ wr => ∃ (dj : K.DK) (sj : List W.SG), Hid (LT S w p q dj { L with segs := sj } wr ∧ W.cutGo L.nm b d L.segs = W.cutGo L.nm b dj sj)) (fun _ wr => segsAt q wr)
  case atStart => exact ⟨d, L.segs, hid ⟨LT.refl H.out (Fr.refl _ _), rfl⟩⟩
  case round =>
    obtain ⟨dj, sj, hall⟩ := hrel
    obtain ⟨x1, Sd, Sl', x2, x3, x4, x5, g1, ok, co, sa, sc, sl, hcs, hm⟩ := hall.out.1.1
    obtain ⟨k0, k1, k2, k3, k4, k5, k6⟩ := hm.k
    have heq : sl.map SM.sg = sj := hm.eq
    obtain ⟨n, hn⟩ : ∃ n, sl.length = n := ⟨_, rfl⟩
    rw [hn] at k2
    have hmx : n ≤ maxLen := by have := hm.row.le.2; omega
    have hmeas : segsAt q wr = n := by unfold segsAt; rw [k2]
    match sl, heq, hn, hm with
    | [], heq, hn, hm =>
      simp at hn
      subst hn
      simp at heq
      subst heq
      have E := hid (show W.cut d L b = (0, dj, { L with segs := [] }) from by unfold W.cut; rw [hall.out.2]; rfl)
      clear x1 x2 x3 x4 x5 g1 ok hcs hm k0 k1 k3 k4 k5 k6 hmx hmeas
      go_wp2
      go_ret
      rw [E.out]
      exact ⟨rfl, hall.out.1⟩
    | [m], heq, hn, hm =>
      simp at hn
      subst hn
      have E := hid (show W.cut d L b = (0, dj, { L with segs := sj }) from by unfold W.cut; rw [hall.out.2, ← heq]; rfl)
      clear x1 x2 x3 x4 x5 g1 ok hcs hm k0 k1 k3 k4 k5 k6 hmx hmeas heq
      go_wp2
      go_ret
      rw [E.out]
      exact ⟨rfl, hall.out.1⟩
    | m :: m2 :: r, heq, hn, hm =>
      have hn2 : 2 ≤ n := by rw [← hn]; simp
      obtain ⟨g, fo, rfl⟩ := hm.row.some_of (by simp)
      have e0 := hm.row.cell (scs_at (l := m :: m2 :: r) (i := 0) (m := m) rfl).1
      have e00 := hm.row.cell (scs_at (l := m :: m2 :: r) (i := 0) (m := m) rfl).2
      have e1 := hm.row.cell (scs_at (l := m :: m2 :: r) (i := 1) (m := m2) rfl).1
      simp only [Nat.zero_mul, Nat.add_zero, Nat.one_mul, Nat.zero_add] at e0 e00 e1
      have hgt : (1 : Int) < (n : Int) := by omega
      have hg0 : (0 : Int) < (n : Int) := by omega
      have hg00 : 0 < n := by omega
      have hfs := ok.fs m.sg (by show m.sg ∈ sj; rw [← heq]; simp)
      have hf0 : 0 ≤ m.first ∧ m.first ≤ 999999999999 := hfs
      obtain ⟨f0, hf0'⟩ : ∃ f0, m.first = f0 := ⟨_, rfl⟩
      obtain ⟨f1, hf1'⟩ : ∃ f1, m2.first = f1 := ⟨_, rfl⟩
      rw [hf0'] at e0 hf0
      rw [hf1'] at e1
      by_cases hle : f1 ≤ b
      · obtain ⟨nf, hnf⟩ : ∃ nf, W.seg L.nm f0 = nf := ⟨_, rfl⟩
        have hTr : Tv wr := HT.out.kept hall.out.1.2 HG.out
        have KF := hid (fun W (hW : Fr (fun _ => False) wr W) => file_any W q L.nm ok.le (cell_fr hW (fun h => h) k1) f0 (by omega) (by omega) (hTr.kept hW (fun h => h)))
        rw [hnf] at KF
        have KR0 : ∀ W, Fr (fun _ => False) wr W → Calls Tryz.prog 72 #[.pointer (some ⟨p, 0, none⟩), encStr nf] W fun e w' => e = .returned (.int .i64 (K.rem dj nf).1) ∧ Td Sd W p (K.rem dj nf).2 w' := fun W hW => by
          have := remove_any (x5.kept hW (fun _ _ h => h)) ⟨nf.toArray⟩ (by rw [← hnf]; exact seg_size _ _)
          simpa using this
        have KR := hid KR0
        have EG := hid (show W.cutGo L.nm b d L.segs = if (K.rem dj nf).1 ≠ 0 then ((K.rem dj nf).1, (K.rem dj nf).2, sj) else W.cutGo L.nm b (K.rem dj nf).2 ((m2 :: r).map SM.sg) from by
          rw [hall.out.2, ← heq]
          have e5 : W.cutGo L.nm b dj ((m :: m2 :: r).map SM.sg) = _ := W.cutGo_cons L.nm b dj m.sg m2.sg (r.map SM.sg)
          rw [e5, if_pos (by show m2.first ≤ b; rw [hf1']; exact hle), show W.seg L.nm m.sg.first = nf from by show W.seg L.nm m.first = nf; rw [hf0']; exact hnf]
          rfl)
        obtain ⟨R, hR⟩ : ∃ R, K.rem dj nf = R := ⟨_, rfl⟩
        rw [hR] at KR EG
        have hql := lt_of_row hm.at_
        have hcg : co g = some .segs := hm.cs g rfl
        have hSq : Sl' q := hcs q (by rw [hm.cq]; simp)
        have hSg : Sl' g := hcs g (by rw [hcg]; simp)
        have HNS := hid (show ¬ Sd q ∧ ¬ Sd g from ⟨fun e => x4 q e hSq, fun e => x4 g e hSg⟩)
        have HX := hid (And.intro x1 (And.intro x2 (And.intro x3 x4)))
        have H6 := hid (show Lk Sl' wr q p { L with segs := sj } from ⟨g1, ok, co, _, sc, _, hcs, hm⟩)
        have HMM := hid hm
        have HCS := hid hcs
        have HOK := hid ok
        have HN := hid hn
        have HEQ := hid heq
        have HK := hid (fun W (hW : Fr (fun _ => False) wr W) => And.intro (cell_fr hW (fun h => h) k0) (And.intro (cell_fr hW (fun h => h) k2) (cell_fr hW (fun h => h) e0)))
        have HMS := hid hmeas
        clear x1 x2 x3 x4 x5 g1 ok hcs hm k1 k3 k4 k5 k6 heq hn hfs hf0' hf1' hTr hnf KR0 hR hql hcg hSq hSg hmeas e00
        go_wp2
        go_region_held3 (fun w' => w'.cell? ⟨q, 0, none⟩ = some (.pointer (some ⟨p, 0, none⟩)) ∧ w'.cell? ⟨q, 2, none⟩ = some (.slice (some ⟨g, fo, none⟩) n sc) ∧ w'.cell? ⟨g, fo, none⟩ = some (.int .i64 f0)) (first | go_keep | exact ⟨s1, s2, s3⟩)
          (first
            | (go_at_call 73; refine (KF.out _ (by first | exact Fr.refl _ _ | exact Fr.drew (Fr.refl _ _) | exact Fr.drewN _ _)).mono ?_; rintro e w2 ⟨rfl, hf2⟩; have f2 : Fr (fun _ => False) wr w2 := (by first | exact hf2 | exact (Fr.drew (Fr.refl _ _)).trans hf2 (fun _ _ h => h) | exact (Fr.drewN _ _).trans hf2 (fun _ _ h => h)); obtain ⟨s1, s2, s3⟩ := HK.out w2 f2; have F2 := hid f2; clear f2 hf2)
            | (go_at_call 72; refine (KR.out _ (by first | exact F2.out | exact Fr.drew F2.out | exact F2.out.trans (Fr.drewN _ _) (fun _ _ h => h))).mono ?_; rintro e w3 ⟨rfl, ht3⟩; have s1 := cell_fr ht3.2 HNS.out.1 s1; have s2 := cell_fr ht3.2 HNS.out.1 s2; have s3 := cell_fr ht3.2 HNS.out.2 s3; have HT3 := hid (ht3.pre' (by first | exact F2.out | exact Fr.drew F2.out | exact F2.out.trans (Fr.drewN _ _) (fun _ _ h => h))); clear ht3))
        obtain ⟨x1, x2, x3, x4⟩ := HX.out
        by_cases hz : R.1 = 0
        · rw [hz]
          have hm3 := HMM.out.kept HT3.out.2 (fun k hk e => x4 k e (HCS.out k hk))
          have hdrop := hm3.drop (n := n) HN.out (by simp)
          have z0 := hm3.row.frozen fo
          have z1 := hm3.row.frozen (fo + 1)
          have zq := frozen_of_row (j := 2) hm3.at_
          have y2 := hm3.k.2.2.1
          rw [HN.out] at y2
          have y0 : w3.cell? ⟨g, fo, none⟩ = some (.int .i64 f0) := s3
          have hle2 := hm3.row.le.1
          rw [HN.out] at hle2
          have KCU := hid (fun W => run_cutS W g fo n sc (by omega) (by omega))
          have EG2 := hid (show W.cutGo L.nm b d L.segs = W.cutGo L.nm b R.2 ((m2 :: r).map SM.sg) from by rw [EG.out, if_neg (by simp [hz])])
          have HDR := hid hdrop
          have hqg : q ≠ g := fun e => by have h1 := hm3.cq; have h2 := hm3.cs g rfl; rw [e, h2] at h1; simp at h1
          have fgg : Fr (fun k => k = g) w3 ((w3.setCell ⟨g, fo, none⟩ (.int .i64 0)).setCell ⟨g, fo + 1, none⟩ (.slice none 0 0)) := Fr.setCell (p := ⟨g, fo + 1, none⟩) (Fr.setCell (p := ⟨g, fo, none⟩) (S := fun k => k = g) (Fr.refl _ _) (fun _ => rfl) _) (fun _ => rfl) _
          have y22 := cell_fr fgg hqg y2
          have zq2 := frozen_of_row (j := 2) (fgg.cells hm3.at_ hqg)
          have y3 := KCU.out ((w3.setCell ⟨g, fo, none⟩ (.int .i64 0)).setCell ⟨g, fo + 1, none⟩ (.slice none 0 0))
          have y01 : w3.cell? ⟨g, fo + 1, none⟩ = some (.slice m.ra m.rl.length m.rc) := hm3.row.cell (j := 1) (scs_at (l := m :: m2 :: r) (i := 0) (m := m) rfl).2
          clear hdrop fgg hm3 hqg
          go_wp2
          have hl2 : (m2 :: r).length = n - 1 := by have := HN.out; simp only [List.length_cons] at this ⊢; omega
          refine ⟨⟨R.2, (m2 :: r).map SM.sg, hid ⟨hall.out.1.trans (LD.both x1 x2 x3 x4 HT3.out (HDR.out.2.mono (fun i _ e => HCS.out i e)) ⟨Nx.lt, ⟨HOK.out.nm, HOK.out.n0, HOK.out.n1, fun s hs => HOK.out.fs s (by show s ∈ sj; rw [← HEQ.out, List.map_cons]; exact List.mem_cons_of_mem _ hs), fun _ => by simp⟩, _, _, _, _, fun k hk => Nx.of (fun j hj => Nat.lt_of_lt_of_le (H6.out.1 j hj) HT3.out.2.size) HDR.out.2.size k (HCS.out k (LC.down_some hk)), HDR.out.1⟩), EG2.out⟩⟩, ?_⟩
          rw [HMS.out]
          unfold segsAt
          rw [HDR.out.1.k.2.2.1]
          simp only
          omega
        · have hbz : (R.1 == 0) = false := by simpa using hz
          have E := hid (show W.cut d L b = (R.1, R.2, { L with segs := sj }) from by unfold W.cut; rw [EG.out, if_pos hz])
          have HLT := hid (hall.out.1.trans (LD.disk x1 x2 x3 x4 H6.out HT3.out))
          clear x1 x2 x3 x4 hz
          go_wp2
          go_ret
          rw [E.out]
          exact ⟨rfl, HLT.out⟩
      · have E := hid (show W.cut d L b = (0, dj, { L with segs := sj }) from by
          unfold W.cut
          rw [hall.out.2, ← heq]
          have : W.cutGo L.nm b dj ((m :: m2 :: r).map SM.sg) = (0, dj, (m :: m2 :: r).map SM.sg) := by
            show W.cutGo L.nm b dj (m.sg :: m2.sg :: r.map SM.sg) = _
            unfold W.cutGo
            rw [if_neg (by show ¬ m2.first ≤ b; rw [hf1']; exact hle)]
            rfl
          rw [this])
        clear x1 x2 x3 x4 x5 g1 ok hcs hm k0 k1 k3 k4 k5 k6 hmx hmeas heq hn hfs hf0' hf1'
        go_wp2
        go_ret
        rw [E.out]
        exact ⟨rfl, hall.out.1⟩

end Go.Proofs.YtgplkjfkafnpoaaGreatDoor
