/-
  WalCuts' walk.
-/
import Derived.Test.YtgplkjfkafnpoaaGreatDoorWLive
import Derived.Test.YtgplkjfkafnpoaaGreatDoorWCutM
import Derived.Test.YtgplkjfkafnpoaaGreatDoorWRecs
namespace Go.Proofs.YtgplkjfkafnpoaaGreatDoor
open Go.RowKit Go.Shelf
set_option linter.unusedVariables false
attribute [local go_sem] Oper.semAt_some

/-- one operation of a script: its kind, its records -/
structure Op5 where
  do_ : Int
  rs : List (List UInt8)
def Oat5 (U : Nat → Prop) (w : World) (b x : Nat) (o : Op5) : Prop :=
  ∃ A L C n keep stop, w.cell? ⟨b, x, none⟩ = some (.int .i64 o.do_) ∧ w.cell? ⟨b, x + 1, none⟩ = some (.slice A L C) ∧ w.cell? ⟨b, x + 2, none⟩ = some (.int .i64 n) ∧ w.cell? ⟨b, x + 3, none⟩ = some (.int .i64 keep) ∧ w.cell? ⟨b, x + 4, none⟩ = some (.int .i64 stop) ∧ Rq U w A L o.rs ∧ L ≤ 9223372036854775807
theorem Oat5.kept {U S : Nat → Prop} {w w' : World} {b x : Nat} {o : Op5} (h : Oat5 U w b x o) (hf : Fr S w w') (hb : U b) (hS : ∀ k, U k → ¬ S k) : Oat5 U w' b x o := by
  obtain ⟨A, L, C, n, keep, stop, h0, h1, h2, h3, h4, h5, h6⟩ := h
  exact ⟨A, L, C, n, keep, stop, cell_fr hf (hS b hb) h0, cell_fr hf (hS b hb) h1, cell_fr hf (hS b hb) h2, cell_fr hf (hS b hb) h3, cell_fr hf (hS b hb) h4, h5.kept hf hS, h6⟩
/-- WHAT A SCRIPT READS AS. -/
def Sc5 (U : Nat → Prop) (w : World) (a : Option Addr) (len : Nat) (ops : List Op5) : Prop :=
  ops.length = len ∧ (len = 0 ∨ ∃ b off, a = some ⟨b, off, none⟩ ∧ U b ∧ ∀ i o, ops[i]? = some o → Oat5 U w b (off + i * 5) o)
theorem Sc5.at {U S : Nat → Prop} {w w' : World} {a : Option Addr} {len : Nat} {ops : List Op5} (h : Sc5 U w a len ops) (hf : Fr S w w') (hS : ∀ k, U k → ¬ S k) {i : Nat} (hi : i < len) : ∃ b off o, a = some ⟨b, off, none⟩ ∧ U b ∧ Oat5 U w' b (off + i * 5) o := by
  obtain ⟨hl, h⟩ := h
  rcases h with h | ⟨b, off, ha, hb, hc⟩
  · omega
  · have hx : ops[i]? = some ops[i] := List.getElem?_eq_getElem (by omega)
    exact ⟨b, off, ops[i], ha, hb, (hc i _ hx).kept hf hb hS⟩

theorem wp_of_act5 {F : Fence} {n : Nat} {P : Program} {c : Code} {Q : Exit → Act → World → Prop} {a : Act} {w : World} (h : ∀ a0, a0 = a → c.wpIn F n P Q a0 w) : c.wpIn F n P Q a w := h a rfl
/-- what a round of the range over Records keeps -/
structure CI (w6 : World) (nb : Nat) (f : Int) (pre : List (Int × Value)) (W : World) : Prop where
  fr : Fr (fun k => k = nb) w6 W
  nb_ : W.heap[nb]? = some (.cells #[.int .i64 (f + (pre.length : Int))] 2 (0, 0))
  eq : pre.map Prod.fst = (List.range pre.length).map (fun i : Nat => f + (i : Int))
theorem CI.own (w6 : World) (nb : Nat) (f : Int) (h : nb < w6.heap.size) : OwnFrom w6.heap.size (CI w6 nb f) := fun pre A B row hs hg hr =>
  ⟨hs.fr.trans (Fr.of_grown hg) (fun i hi e => by have := (hr i e).1; omega), (Fr.of_grown hg).cells hs.nb_ (fun e => by have := (hr nb e).1; omega), hs.eq⟩
theorem nums_of {sl : List SM} {l : List W.SG} (h : sl.map SM.sg = l) : numsOf sl = l.flatMap (fun s => (List.range s.recs.length).map (fun i : Nat => s.first + (i : Int))) := by
  subst h
  unfold numsOf numsS
  rw [List.flatMap_map]
  simp [SM.sg]
theorem pre_eq {pre : List (Int × Value)} {N : Nat} {f : Int} (h : pre.map Prod.fst <+: (List.range N).map (fun i : Nat => f + (i : Int))) : pre.map Prod.fst = (List.range pre.length).map (fun i : Nat => f + (i : Int)) := by
  have h1 := List.prefix_iff_eq_take.1 h
  have h2 := h.length_le
  rw [List.length_map] at h1
  simp only [List.length_map, List.length_range] at h2
  rw [h1, ← List.map_take, List.take_range, Nat.min_eq_left h2]

set_option maxRecDepth 100000 in
set_option maxHeartbeats 8000000 in
theorem walCuts_walk (w : World) (T : Tv w) (A : Option Addr) (m c : Nat) (ops : List Op5) (hm : m ≤ 9223372036854775807) (hs : Sc5 (fun k => k < w.heap.size) w A m ops) (b : Int) :
    Calls Tryz.prog 8 #[.slice A m c, .int .i64 b] w fun e w' => e = .returned (.bool true) ∧ Fr (fun _ => False) w w' := by
  refine (callsIn_wide (n := 8)).1 ?_
  have hf0 : Fence.wide.fn 20 := trivial
  have hf2 : Fence.wide.fn 24 := trivial
  have hf3 : Fence.wide.fn 26 := trivial
  have hf5 : Fence.wide.fn 28 := trivial
  have hf6 : Fence.wide.fn 25 := trivial
  have hf7 : Fence.wide.fn 22 := trivial
  have hf8 : Fence.wide.fn 14 := trivial
  have hf9 : Fence.wide.fn 16 := trivial
  have hf10 : Fence.wide.fn 9 := trivial
  have HS := hid hs
  have HT := hid T
  clear hs T
  refine callsIn_of_wp_marks Tryz.func8 rfl trivial ?_ rfl
  simp only [Tryz.ntmps8, List.size_toArray, List.length_cons, List.length_nil, Nat.reduceAdd, Nat.reduceSub, Array.replicate_succ, Array.replicate_zero, List.push_toArray, List.append_toArray, List.nil_append, List.cons_append]
  gi_wp2_with fail
  refine (callsIn_wide.2 (live_any _ (HT.out.kept (Fr.alloc (Fr.refl (fun _ => False) _) _) (fun h => h)))).mono ?_
  rintro e w1 ⟨rfl, hf1⟩
  have F1 := hid (show Fr (fun _ => False) w w1 from (Fr.alloc (Fr.refl _ _) _).trans hf1 (fun _ _ h => h))
  have B1 := hid (hf1.cells (Go.heap_alloc_new w _) (fun h => h))
  have hlt1 : w.heap.size < w1.heap.size := lt_of_row B1.out
  have hlg : (⟨#[108, 111, 103]⟩ : ByteArray).data.toList = W.log := rfl
  have KN := hid (new_any 1048576 (by omega) (by omega) w1)
  have KO := hid (fun (S : Nat → Prop) (wo : World) p (h : Dk S wo p (K.mk 1048576)) => open_empty h rfl rfl ⟨#[108, 111, 103]⟩ (by unfold maxLen; decide) W.log_nm)
  rw [hlg] at KO
  clear hf1 hlg
  gi_wp2_with (first
    | (gi_at_call 14; refine (callsIn_wide.2 KN.out).mono ?_; rintro e w2 ⟨rfl, ht2⟩; have HT2 := hid ht2; clear ht2)
    | (gi_at_call 16; refine (callsIn_wide.2 (KO.out _ _ _ HT2.out.1)).mono ?_; rintro e w3 ⟨q, hq, rfl, hld, hf3⟩; have HLD := hid hld; have F3 := hid (HT2.out.2.trans hf3 (fun _ _ h => h)); clear hld hf3 hq))
  have hs12 := HT2.out.2.size
  have hld3 : LD (fun k => w.heap.size < k ∧ k < w3.heap.size) w3 (w1.heap.size + 1) q (K.mk 1048576) (W.empty W.log) := HLD.out.mono (fun k hk => ⟨by
    rcases hk.1 with h | h
    · have := h.1.resolve_left (fun h => h); omega
    · omega, hk.2⟩) (fun k hk => hk.2)
  have HL3 := hid (show ∃ S3 : Nat → Prop, (∀ k, S3 k → w.heap.size < k) ∧ LD S3 w3 (w1.heap.size + 1) q (K.mk 1048576) (W.empty W.log) ∧ W.Inv (K.mk 1048576) (W.empty W.log) ∧ Fr (fun _ => False) w w3 ∧ w3.heap[w.heap.size]? = some (.cells #[.bool false] 4 (0, 0)) from ⟨_, fun k h => h.1, hld3, W.inv_empty (by omega) (by omega) W.log_nm _ rfl rfl rfl, F1.out.trans F3.out (fun _ _ h => h), F3.out.cells B1.out (fun h => h)⟩)
  clear hs12 hld3 HLD F3 HT2 KN KO hlt1 B1 F1
  generalize w1.heap.size + 1 = p at HL3 ⊢
  gi_loopw [39] (fun i wr => ∃ (k : Nat) (S : Nat → Prop) (d : K.DK) (L : W.LG), k ≤ m ∧ i = .int .i64 k ∧ Hid ((∀ k, S k → w.heap.size < k) ∧ LD S wr p q d L ∧ W.Inv d L ∧ Fr (fun _ => False) w wr ∧ wr.heap[w.heap.size]? = some (.cells #[.bool false] 4 (0, 0)))) (fun i _ => m - (intOf i).toNat)
  case atStart =>
    obtain ⟨S3, h3⟩ := HL3.out
    exact ⟨0, S3, _, _, Nat.zero_le _, rfl, hid h3⟩
  case round =>
    obtain ⟨k, S, d, L, hk, rfl, hall⟩ := hrel
    by_cases hlt : k < m
    · obtain ⟨g, fo, o, rfl, hg, Ra, Rl, Rc, on, okeep, ostop, c0, c1, c2, c3, c4, hrq, hRl⟩ := HS.out.at hall.out.2.2.2.1 (fun _ _ h => h) hlt
      have HRQ := hid hrq
      have i0 : (0 : Int) ≤ (k : Int) := by omega
      have i1 : (k : Int) < (m : Int) := by omega
      obtain ⟨od, hod⟩ : ∃ od, o.do_ = od := ⟨_, rfl⟩
      rw [hod] at c0
      clear hrq hod
      have HN := hid (fun (v0 v1 v2 v3 v4 : Value) => show Fr (fun _ => False) wr (wr.alloc (.cells #[v0, v1, v2, v3, v4] 30)) from Fr.alloc (Fr.refl _ _) _)
      by_cases hz : od = 0
      · subst hz
        gi_wp2
        have hfa := HN.out (.int .i64 0) (.slice Ra Rl Rc) (.int .i64 on) (.int .i64 okeep) (.int .i64 ostop)
        generalize wr.alloc (.cells #[.int .i64 0, .slice Ra Rl Rc, .int .i64 on, .int .i64 okeep, .int .i64 ostop] 30) = wx at hfa ⊢
        have hG : ¬ S 0 := fun h => by have h1 := HT.out.lt; have h2 := hall.out.1 _ h; omega
        have hwx : Fr (fun _ => False) w wx := hall.out.2.2.2.1.trans hfa (fun _ _ h => h)
        have hpre : AppPre W.Inv S (fun k => k < w.heap.size) wx p q d L Ra Rl o.rs := ⟨hall.out.2.1.kept hfa (fun _ _ h => h), HT.out.kept hwx (fun h => h), hG, by have h1 := hall.out.2.2.1.room; have : K.cap = 200000000000000 := rfl; omega, HRQ.out.kept hfa (fun _ _ h => h), fun k hk => ⟨fun h => by have := hall.out.1 k h; omega, Nat.lt_of_lt_of_le hk hwx.size⟩, hRl, hall.out.2.2.1, fun _ _ _ hI h0 h1 _ => hI.put h0 h1, fun _ _ hI => hI.few, fun _ _ hI => .inr hI.low⟩
        refine (callsIn_wide.2 (wappend_any hpre Rc)).mono ?_
        rintro e w4 ⟨rfl, ht4⟩
        have HR4 := hid (show (∀ k, Nx S wx w4 k → w.heap.size < k) ∧ LD (Nx S wx w4) w4 p q (W.app d L o.rs).2.1 (W.app d L o.rs).2.2 ∧ W.Inv (W.app d L o.rs).2.1 (W.app d L o.rs).2.2 ∧ Fr (fun _ => False) w w4 ∧ w4.heap[w.heap.size]? = some (.cells #[.bool false] 4 (0, 0)) from ⟨fun k hk => by
          rcases hk.1 with h | h
          · exact hall.out.1 k h
          · have h1 := lt_of_row hall.out.2.2.2.2; have h2 := hfa.size; omega, ht4.1, hall.out.2.2.1.app _, hwx.trans ht4.2 (fun i hi e => by have := hall.out.1 i e; omega), ht4.2.cells (hfa.cells hall.out.2.2.2.2 (fun h => h)) (fun e => by have := hall.out.1 _ e; omega)⟩)
        clear hpre ht4 hG hwx hfa
        gi_wp2
        go_roundw
        case rel => exact ⟨k + 1, _, _, _, by omega, by first | go_num | trivial, HR4⟩
        case measure => simp [intOf]; omega
      · have hzb : (od == 0) = false := by simpa using hz
        gi_wp2
        have hfa := HN.out (.int .i64 od) (.slice Ra Rl Rc) (.int .i64 on) (.int .i64 okeep) (.int .i64 ostop)
        go_roundw
        case rel => exact ⟨k + 1, S, d, L, by omega, by first | go_num | trivial, hid ⟨hall.out.1, hall.out.2.1.kept hfa (fun _ _ h => h), hall.out.2.2.1, hall.out.2.2.2.1.trans hfa (fun _ _ h => h), hfa.cells hall.out.2.2.2.2 (fun h => h)⟩⟩
        case measure => simp [intOf]; omega
    · obtain rfl : k = m := by omega
      have hG : ¬ S 0 := fun h => by have h1 := HT.out.lt; have h2 := hall.out.1 _ h; omega
      obtain ⟨c1, c2, c3, c4, c5, c6, c7⟩ := W.cut_ok hall.out.2.2.1 b
      have KF := hid (lfirst_any hall.out.2.1)
      have KX := hid (lnext_any hall.out.2.1)
      have KG := hid (lsegs_any hall.out.2.1)
      have KC := hid (wcut_any hall.out.2.1 (HT.out.kept hall.out.2.2.2.1 (fun h => h)) hG b)
      obtain ⟨d2, L2, hR⟩ : ∃ d2 L2, W.cut d L b = (0, d2, L2) := ⟨_, _, Prod.ext c1 rfl⟩
      rw [hR] at c2 c3 c4 c5 c6 c7 KC
      simp only at c2 c3 c4 c5 c6 c7
      obtain ⟨f1, hf1⟩ : ∃ f1, L.first = f1 := ⟨_, rfl⟩
      obtain ⟨n1, hn1⟩ : ∃ n1, L.next = n1 := ⟨_, rfl⟩
      obtain ⟨s1, hs1⟩ : ∃ s1, L.segs.length = s1 := ⟨_, rfl⟩
      obtain ⟨f2, hf2⟩ : ∃ f2, L2.first = f2 := ⟨_, rfl⟩
      obtain ⟨s2, hs2⟩ : ∃ s2, L2.segs.length = s2 := ⟨_, rfl⟩
      rw [hf1] at KF c3 c4
      rw [hn1] at KX c2 c6
      rw [hs1] at KG c5
      rw [hf2] at c3 c4
      rw [hs2] at c5
      have HN1 := hid hn1
      have HL := hid (And.intro hf2 (And.intro hs2 (And.intro c2 (And.intro c6 (And.intro c7 hs1)))))
      clear hf1 hn1 hs1 hf2 hs2 hR c1 c2 c6 c7 hG
      have hsg : (¬ (0 : Int) < (s1 : Int)) ∨ ((0 : Int) < (s1 : Int) ∧ ¬ (s2 : Int) < 1) := by
        rcases Nat.eq_zero_or_pos s1 with h | h
        · exact .inl (by omega)
        · exact .inr ⟨by omega, by have := c5 h; omega⟩
      have hc3 : ¬ f2 < f1 := by omega
      have hc4 : ¬ max f1 b < f2 := by omega
      clear c3 c4 c5
      rcases hsg with hsg | ⟨hsg, hsg2⟩
      all_goals (
        gi_wp2_with (first
          | (gi_at_call 25; refine (callsIn_wide.2 KF.out).mono ?_; rintro e w' ⟨rfl, rfl⟩)
          | (gi_at_call 26; refine (callsIn_wide.2 KX.out).mono ?_; rintro e w' ⟨rfl, rfl⟩)
          | (gi_at_call 28; refine (callsIn_wide.2 KG.out).mono ?_; rintro e w' ⟨rfl, rfl⟩)
          | (gi_at_call 24; refine (callsIn_wide.2 KC.out).mono ?_; rintro e w5 ⟨rfl, ht5⟩; have HT5 := hid ht5; have KF2 := hid (lfirst_any ht5.1); have KX2 := hid (lnext_any ht5.1); have KG2 := hid (lsegs_any ht5.1); rw [HL.out.1] at KF2; rw [HL.out.2.2.1] at KX2; rw [HL.out.2.1] at KG2; clear ht5)
          | (gi_at_call 25; refine (callsIn_wide.2 KF2.out).mono ?_; rintro e w' ⟨rfl, rfl⟩)
          | (gi_at_call 26; refine (callsIn_wide.2 KX2.out).mono ?_; rintro e w' ⟨rfl, rfl⟩)
          | (gi_at_call 28; refine (callsIn_wide.2 KG2.out).mono ?_; rintro e w' ⟨rfl, rfl⟩))
        have hfl : Fr (fun _ => False) w5 (w5.alloc (.cells #[.int .i64 f2] 2)) := Fr.alloc (Fr.refl _ _) _
        have hnb := Go.heap_alloc_new w5 (.cells #[.int .i64 f2] 2)
        generalize w5.alloc (.cells #[.int .i64 f2] 2) = wl at hfl hnb ⊢
        have hsub : ∀ s, s ∈ L2.segs → s ∈ L.segs := fun s hs => HL.out.2.2.2.2.1.subset hs
        have hfew := hall.out.2.2.1.few
        have hl2 : L2.segs.length ≤ 100000000 := Nat.le_trans HL.out.2.2.2.2.1.length_le hfew.1
        refine (callsIn_wide.2 (records_any (HT5.out.1.kept hfl (fun _ _ h => h)) (by omega))).mono ?_
        rintro e w6 ⟨B, ka, kc, sl, co, rfl, hR, hsl, hRk, hf6⟩
        have hbn := (hf6.cells hnb (fun h => h))
        have HSEQ := hid (recs1_stops 7 (by omega) B kc ka sl co (fun k => k = w5.heap.size) w6 hR (fun k hk e => by
            rcases hRk k hk with h | h
            · have := h.2; omega
            · have := lt_of_row hnb; omega) (fun k hk => by have := lt_of_row hbn; omega)
          (by have := congrArg List.length hsl; rw [List.length_map] at this; omega)
          (fun s hs => by
            have hm2 : s.sg ∈ L2.segs := by rw [← hsl]; exact List.mem_map.2 ⟨s, hs, rfl⟩
            have h1 := hfew.2 _ (hsub _ hm2)
            have h2 := hall.out.2.2.1.fs _ (hsub _ hm2)
            have h3 : s.rl.length ≤ 100000000 := by simpa [SM.sg] using h1
            have h4 : 0 ≤ s.first ∧ s.first ≤ 999999999999 := h2
            omega)
          (fun s hs r hr => by
            have hm2 : s.sg ∈ L2.segs := by rw [← hsl]; exact List.mem_map.2 ⟨s, hs, rfl⟩
            have h1 := hall.out.2.2.1.rl _ (hsub _ hm2) r.b (List.mem_map.2 ⟨r, hr, rfl⟩)
            omega))
        have hnc := W.nums_chain L2.segs n1 HL.out.2.2.2.1 f2 (by rw [← HL.out.1]; unfold W.LG.first; rw [HL.out.2.2.1]; cases L2.segs <;> rfl)
        have HNM := hid (show numsOf sl = (List.range (n1 - f2).toNat).map (fun i : Nat => f2 + (i : Int)) from (nums_of hsl).trans hnc.2)
        have hlow := hall.out.2.2.1.low
        have HFF := hid (hfl.trans hf6 (fun _ _ h => h))
        have hnbl := lt_of_row hbn
        have HBN := hid hbn
        have hfn := hnc.1
        have hlow1 : n1 ≤ 999999999999 := by rw [← HN1.out]; exact hlow
        have hwn : ¬ w.heap.size = w5.heap.size := fun e => by have h1 := lt_of_row hall.out.2.2.2.2; have h2 := HT5.out.2.size; omega
        have HRB := hid (HFF.out.cells (HT5.out.2.cells hall.out.2.2.2.2 (fun e => by have := hall.out.1 _ e; omega)) (fun h => h))
        have HW5 := hid (show Fr (fun _ => False) w w5 from hall.out.2.2.2.1.trans HT5.out.2 (fun i hi e => by have := hall.out.1 i e; omega))
        have hf20 : 0 ≤ f2 := by
          rw [← HL.out.1]
          unfold W.LG.first
          cases hsg2 : L2.segs with
          | nil => show 0 ≤ L2.next; have := HT5.out.1.cells.1.n0; exact this
          | cons s t => exact (HT5.out.1.cells.1.fs s (by rw [hsg2]; simp)).1
        clear hfl hnb hsub hfew hl2 hR hsl hRk hf6 hbn hnc
        gi_wp2_with fail
        refine wp_of_act5 (fun a0 ha0 => ?_)
        refine wpIn_rangeFunc_ownG (w := w6) rfl (by omega) (gf := 69) (lb := #[.pointer (some ⟨B, 0, none⟩)]) (by rw [ha0]; rfl) trivial (enters_of Tryz.func69 (by kernel_rfl) rfl)
          HSEQ.out (fun h k => h.trans k)
          (fun W l o o' hl hW hc _ k cs t m hk _ => World.putObj_heap_other (fun e => by rw [e, hW] at hk; cases hk; cases hc))
          (Below.refl _ _) (fun _ => rfl) (CI w6 w5.heap.size f2) (fun _ pre _ => ¬ pre.map Prod.fst = (List.range pre.length).map (fun i : Nat => f2 + (i : Int))) (CI.own w6 _ f2 hnbl) (fun _ _ _ _ _ hs _ _ => hs) ⟨Fr.refl _ _, by simpa using HBN.out, rfl⟩
          (fun x => { tmps := ((a0.tmps.setIfInBounds 94 (.int .i64 x.1)).setIfInBounds 95 x.2).setIfInBounds 15 (.int .i64 x.1), defers := [] }) ?assign ?body ?done ?stop
        case assign =>
          subst ha0
          intro l x W K hK
          gi_wp2
          exact hK
        case stop =>
          rintro D c pre W _ hp h _
          rw [HNM.out] at hp
          exact absurd (pre_eq hp) h
        case body =>
          subst ha0
          rintro l pre x W hci hlt
          have hlt2 : (pre.length : Int) < n1 - f2 := by
            rw [HNM.out, List.length_map, List.length_range] at hlt
            omega
          have c0 := cell_of (j := 0) hci.nb_ rfl
          have z0 := frozen_of_row (j := 0) hci.nb_
          have hrb := hci.fr.cells HRB.out hwn
          have c1 := cell_of (j := 0) hrb rfl
          have z1 := frozen_of_row (j := 0) hrb
          have HRB2 := hid hrb
          have HCI := hid hci
          have hw1 : IntKind.i64.wrap (f2 + (pre.length : Int) + 1) = f2 + (pre.length : Int) + 1 := by rw [IntKind.wrap_i64]; omega
          obtain ⟨pl, hpl⟩ : ∃ pl, pre.length = pl := ⟨_, rfl⟩
          have HPL := hid hpl
          rw [hpl] at c0 hw1 hlt2
          clear hci hrb hlt hpl
          obtain ⟨x1, x2⟩ := x
          by_cases hx : x1 = f2 + (pl : Int)
          · subst hx
            clear c1 z1
            gi_wp2
            have f9 : Fr (fun k => k = w5.heap.size) W (W.setCell ⟨w5.heap.size, 0, none⟩ (.int .i64 (f2 + (pl : Int) + 1))) := Fr.setCell (p := ⟨w5.heap.size, 0, none⟩) (S := fun k => k = w5.heap.size) (Fr.refl _ _) (fun _ => rfl) _
            refine ⟨⟨f9.size, fun k o hk h0 _ => f9.cells h0 (fun e => by omega)⟩, fun k cs t m hk hM => f9.block k (lt_of_row hk) hM, HCI.out.fr.trans f9 (fun _ _ h => h), ?_, ?_⟩
            · rw [setCell_row HCI.out.nb_]
              simp [HPL.out]
              omega
            · rw [List.map_append, HCI.out.eq, List.length_append, List.length_cons, List.length_nil, List.range_succ, List.map_append, HPL.out]
              rfl
          · have e1 : (x1 == f2 + (pl : Int)) = false := by simpa using hx
            gi_wp2
            have f9 : Fr (fun k => k = w.heap.size) W (W.setCell ⟨w.heap.size, 0, none⟩ (.bool false)) := Fr.setCell (p := ⟨w.heap.size, 0, none⟩) (S := fun k => k = w.heap.size) (Fr.refl _ _) (fun _ => rfl) _
            refine ⟨⟨f9.size, fun k o hk h0 _ => f9.cells h0 (fun e => by have h1 := HW5.out.size; have h2 := HFF.out.size; omega)⟩, fun hp => hx ?_⟩
            rw [List.map_append, List.length_append, List.length_cons, List.length_nil, List.range_succ, List.map_append, HPL.out] at hp
            have h3 := (List.append_inj hp (by rw [List.length_map, List.length_map, List.length_range, HPL.out])).2
            simpa using h3
        case done =>
          subst ha0
          rintro D xs W hD hxs hci hK
          have hlen : xs.length = (n1 - f2).toNat := by
            have h1 := congrArg List.length (hxs.trans HNM.out)
            simpa using h1
          have hval : f2 + (xs.length : Int) = n1 := by omega
          have hn2 := hci.nb_
          rw [hval] at hn2
          have c0 := cell_of (j := 0) hn2 rfl
          have hrb := hci.fr.cells HRB.out hwn
          have c1 := cell_of (j := 0) hrb rfl
          have z1 := frozen_of_row (j := 0) hrb
          have HRB2 := hid hrb
          have HCI := hid hci
          have HK := hid hK
          have HD := hid hD
          clear hci hrb hn2 hxs hlen hval hK hD
          gi_wp2
          have hw : w.heap.size < W.heap.size := lt_of_row HRB2.out
          have n2 : D ≠ w.heap.size := fun e => by have h1 := HK.out; rw [e, HRB2.out] at h1; simp at h1
          have q2 : (W.setCell ⟨w.heap.size, 0, none⟩ (.bool true)).heap[D]? = some (.deferred (some [])) := (Below.heap_setCell _ _ _ _ n2).trans HK.out
          have qr : ((W.setCell ⟨w.heap.size, 0, none⟩ (.bool true)).putObj D (.deferred none)).heap[w.heap.size]? = some (.cells #[.bool true] 4 (0, 0)) := by
            rw [World.putObj_heap_other n2.symm, setCell_row HRB2.out]; rfl
          have qc := cell_of (j := 0) qr rfl
          have hD2 := HD.out
          have hsz5 := HW5.out.size
          have hsz6 := HFF.out.size
          have hfw : Fr (fun _ => False) w W := (HW5.out.trans HFF.out (fun _ _ h => h)).trans HCI.out.fr (fun i hi e => by omega)
          refine ⟨by simp, .inl ⟨_, _, rfl, run_takeDeferred q2, ?_⟩⟩
          refine ⟨.bool true, ?_, rfl, ?_⟩
          · simp [results, Tryz.f8, go_sem, qc]
          · have f1' : Fr (fun _ => False) w (W.setCell ⟨w.heap.size, 0, none⟩ (.bool true)) := Fr.setCell (p := ⟨w.heap.size, 0, none⟩) hfw (fun h => by simp only at h; omega) _
            exact f1'.trans (Fr.of_grown (grownBy_putObj' _ D _)) (fun i hi e => by simp at e; omega))

end Go.Proofs.YtgplkjfkafnpoaaGreatDoor
