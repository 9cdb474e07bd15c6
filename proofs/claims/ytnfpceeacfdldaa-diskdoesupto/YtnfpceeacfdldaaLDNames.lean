/-
  DiskDoes: are these the names that a disk tells, twice? The law's 'names'.
-/
import Derived.Test.YtnfpceeacfdldaaKSorted
import Derived.Test.YtnfpceeacfdldaaKIt
import Derived.Test.YtnfpceeacfdldaaRound
namespace Go.Proofs.Ytnfpceeacfdldaa
open Go.RowKit Go.Maps Go.Shelf
set_option linter.unusedVariables false
attribute [local go_sem] Oper.semAt_some

/-- what the walk carries: the box of 'want', the result's cell, the names that are told, the names that are wanted -/
structure NW (w W : World) (B : Nat) (a : Option Addr) (cap : Nat) (wa : Option Addr) (wc : Nat) (ss : List K.Nm) : Prop where
  fr : Fr (fun _ => False) w W
  wb : W.heap[w.heap.size]? = some (.cells #[.slice wa ss.length wc] 70 (0, 0))
  rb : W.heap[w.heap.size + 1]? = some (.cells #[.bool false] 4 (0, 0))
  cb : W.cell? ⟨B, 0, none⟩ = some (.slice a ss.length cap)
  ns : Ns W a ss
  ws : Ns W wa ss
theorem Ns.kept {S : Nat → Prop} {w w' : World} {a : Option Addr} {ss : List K.Nm} (h : Ns w a ss) (hf : Fr S w w') (hS : ss ≠ [] → ∀ k, blk a = some k → ¬ S k) : Ns w' a ss := by
  rcases h with h | ⟨b, rfl, hc⟩
  · exact .inl h
  · by_cases he : ss = []
    · exact .inl he
    · exact .inr ⟨b, rfl, fun j x hx => cell_fr hf (hS he b rfl) (hc j x hx)⟩
theorem Ns.lt {w : World} {a : Option Addr} {ss : List K.Nm} (h : Ns w a ss) (he : ss ≠ []) : ∀ k, blk a = some k → k < w.heap.size := by
  rcases h with h | ⟨b, rfl, hc⟩
  · exact absurd h he
  · intro k hk
    simp [blk] at hk
    subst hk
    have hp := List.length_pos_iff.2 he
    have hx : ss[0]? = some (ss[0]'hp) := by simp [hp]
    exact World.block_lt_of_cell? _ _ (hc 0 _ hx)
theorem NW.kept {S : Nat → Prop} {w W W' : World} {B : Nat} {a : Option Addr} {cap : Nat} {wa : Option Addr} {wc : Nat} {ss : List K.Nm} (h : NW w W B a cap wa wc ss) (hf : Fr S W W') (h1 : ∀ k, S k → w.heap.size + 2 ≤ k) (hB : ¬ S B) (ha : ss ≠ [] → ∀ k, blk a = some k → ¬ S k) (hw : ss ≠ [] → ∀ k, blk wa = some k → ¬ S k) : NW w W' B a cap wa wc ss :=
  ⟨h.fr.trans hf (fun i hi hs => by have := h1 i hs; omega), hf.cells h.wb (fun hs => by have := h1 _ hs; omega), hf.cells h.rb (fun hs => by have := h1 _ hs; omega), cell_fr hf hB h.cb, h.ns.kept hf ha, h.ws.kept hf hw⟩
/-- what the loop over the names keeps: n's cell -/
def NI (wn : World) (nb : Nat) (ss pre : List K.Nm) (W : World) : Prop := Fr (fun k => k = nb) wn W ∧ W.heap[nb]? = some (.cells #[.int .i64 (pre.length : Nat)] 3 (0, 0)) ∧ pre <+: ss
theorem NI.own (wn : World) (nb : Nat) (ss : List K.Nm) (hn : nb < wn.heap.size) : OwnFrom wn.heap.size (NI wn nb ss) := by
  rintro pre A B row ⟨h1, h2, h3⟩ hg hr
  exact ⟨h1.trans (Fr.of_grown hg) (fun i hi e => by have := (hr i e).1; omega), (Fr.of_grown hg).cells h2 (fun e => by have := (hr _ e).1; omega), h3⟩

theorem lt_of_row' {w : World} {p : Nat} {o : Obj} (h : w.heap[p]? = some o) : p < w.heap.size := lt_of_row h
theorem wp_of_act' {F : Fence} {n : Nat} {P : Program} {c : Code} {Q : Exit → Act → World → Prop} {a : Act} {w : World} (h : ∀ a0, a0 = a → c.wpIn F n P Q a0 w) : c.wpIn F n P Q a w := h a rfl
theorem encS_ne {x y : K.Nm} (h : x ≠ y) : ((⟨x.toArray⟩ : ByteArray).toList == (⟨y.toArray⟩ : ByteArray).toList) = false := by
  rw [ByteArray.toList_eq, ByteArray.toList_eq]
  simpa using h
set_option maxRecDepth 100000 in
set_option maxHeartbeats 8000000 in
theorem names_law {S : Nat → Prop} {w : World} {p : Nat} {d : K.DK} (h : Dk S w p d) (wa : Option Addr) (wc : Nat) (hws : Ns w wa (K.names d)) :
    Calls Try.prog 40 #[.pointer (some ⟨p, 0, none⟩), .slice wa (K.names d).length wc] w fun e w' => e = .returned (.bool true) ∧ Fr (fun _ => False) w w' := by
  refine (callsIn_wide (n := 8)).1 ?_
  have hf0 : Fence.wide.fn 23 := trivial
  have hlen : (K.names d).length ≤ 1024 := by unfold K.names; rw [List.length_map]; exact h.2.1.files
  refine callsIn_of_wp_marks Try.func40 rfl trivial ?_ rfl
  simp only [Try.ntmps40, List.size_toArray, List.length_cons, List.length_nil, Nat.reduceAdd, Nat.reduceSub, Array.replicate_succ, Array.replicate_zero, List.push_toArray, List.append_toArray, List.nil_append, List.cons_append]
  obtain ⟨ss, hss⟩ : ∃ ss, K.names d = ss := ⟨_, rfl⟩
  rw [hss] at hws hlen ⊢
  obtain ⟨ln, hln⟩ : ∃ ln, ss.length = ln := ⟨_, rfl⟩
  rw [hln]
  have HLN := hid hln
  have HLE := hid hlen
  have HWS := hid hws
  have HK := hid h
  have HSS := hid hss
  clear hln hlen hws h hss
  gi_wp2_with fail
  obtain ⟨wz, hwz⟩ : ∃ wz, wz = (w.alloc (.cells #[.slice wa ln wc] 70)).alloc (.cells #[.bool false] 4) := ⟨_, rfl⟩
  rw [← hwz]
  have hzz : wz.heap.size = w.heap.size + 2 := by rw [hwz]; simp
  have fz : Fr (fun _ => False) w wz := by rw [hwz]; exact Fr.alloc (Fr.alloc (Fr.refl _ _) _) _
  have bz0 : wz.heap[w.heap.size]? = some (.cells #[.slice wa ln wc] 70 (0, 0)) := by rw [hwz]; exact (Below.heap_alloc _ _ _ (by simp)).trans (Go.heap_alloc_new w _)
  have bz1 : wz.heap[w.heap.size + 1]? = some (.cells #[.bool false] 4 (0, 0)) := by
    have := Go.heap_alloc_new (w.alloc (.cells #[.slice wa ln wc] 70)) (.cells #[.bool false] 4)
    rw [World.size_alloc] at this
    rw [hwz]; exact this
  clear hwz
  refine (callsIn_wide.2 (names_any (HK.out.kept fz (fun _ _ h => h)))).mono ?_
  rintro e wn ⟨B, a, cap, rfl, hB, hNs, hNk, hfn⟩
  rw [HSS.out] at hB hNs hNk
  have hst : NW w wn B a cap wa wc ss := ⟨fz.trans hfn (fun _ _ h => h), by rw [HLN.out]; exact hfn.cells bz0 (fun h => h), hfn.cells bz1 (fun h => h), hB, hNs, HWS.out.kept (fz.trans hfn (fun _ _ h => h)) (fun _ _ _ h => h)⟩
  have hNk' : ∀ k, Nk B a ss k → k < wn.heap.size ∧ w.heap.size + 2 ≤ k := fun k hk => ⟨(hNk k hk).2, by have := (hNk k hk).1; omega⟩
  have hWl : ss ≠ [] → ∀ k, blk wa = some k → k < w.heap.size := fun he k hk => HWS.out.lt he k hk
  have HNK := hid hNk'
  have HWL := hid hWl
  have HST0 := hid hst
  have hz0 : w.heap.size + 2 ≤ wn.heap.size := by have := hfn.size; omega
  clear hB hNs hNk hfn fz bz0 bz1 hzz hst hNk' hWl
  gi_wp2_with fail
  refine wpIn_loop_rounds 3 ?_
  rw [roundsIn_succ]
  gi_wp2_with fail
  obtain ⟨nb0, hnb⟩ : ∃ nb, nb = wn.heap.size := ⟨_, rfl⟩
  obtain ⟨u0, hu⟩ : ∃ u, u = wn.alloc (.cells #[.int .i64 0] 3) := ⟨_, rfl⟩
  rw [← hu, ← hnb]
  have fu : Fr (fun _ => False) wn u0 := by rw [hu]; exact Fr.alloc (Fr.refl _ _) _
  have bu : u0.heap[nb0]? = some (.cells #[.int .i64 0] 3 (0, 0)) := by rw [hu, hnb]; exact Go.heap_alloc_new wn _
  have hlb : nb0 < u0.heap.size := lt_of_row bu
  have hzu := fu.size
  have HSU := hid (HST0.out.kept fu (fun _ h => h.elim) (fun h => h) (fun _ _ _ h => h) (fun _ _ _ h => h))
  have HNB0 : Hid (wn.heap.size = nb0) := hid hnb.symm
  have HKN : Hid (∀ k, Nk B a ss k → k ≠ nb0 ∧ k < u0.heap.size) := hid (fun k hk => by have h1 := (HNK.out k hk).1; exact ⟨by omega, by omega⟩)
  have HWN : Hid (ss ≠ [] → ∀ k, blk wa = some k → k ≠ nb0) := hid (fun he k hk => by have h1 := HWL.out he k hk; omega)
  have HNI := hid (show NI u0 nb0 ss [] u0 from ⟨Fr.refl _ _, bu, List.nil_prefix⟩)
  have HFU0 := hid fu
  clear hu hnb bu fu
  refine wp_of_act' (fun a0 ha0 => ?_)
  refine wpIn_rangeFunc_ownG (w := u0) rfl (by omega) (gf := 49) (lb := #[.pointer (some ⟨B, 0, none⟩)]) (by rw [ha0]; rfl) trivial (enters_of Try.func49 (by kernel_rfl) rfl)
    (names1_stops Fence.wide _ trivial rfl (by omega) B cap a ss HLE.out u0 HSU.out.cb HSU.out.ns) (fun h k => h.trans k)
    (fun W l o o' hl hW _ _ k hk => World.putObj_heap_other (fun e => by have := (HKN.out k hk).2; omega))
    (Below.refl _ _) (fun _ => rfl) (NI u0 nb0 ss) (fun _ pre _ => ¬ pre <+: ss) (NI.own u0 nb0 ss hlb) (fun _ _ _ _ _ hs _ _ => hs) HNI.out
    (fun x => { tmps := (a0.tmps.setIfInBounds 13 (encStr x)).setIfInBounds 7 (encStr x), defers := [] }) ?assign ?body ?done ?stop
  case assign =>
    subst ha0
    intro l x W K hK
    gi_wp2
    exact hK
  case stop =>
    rintro D c pre W _ hp h _
    exact absurd hp h
  case body =>
    subst ha0
    rintro l pre x W ⟨hfr, hn0, hpre⟩ hlt
    have hns := HSU.out.kept hfr (fun k e => by have := HNB0.out; omega) (fun e => (HKN.out B (.inl rfl)).1 e) (fun he k hk e => (HKN.out k (.inr ⟨he, hk⟩)).1 e) (fun he k hk e => HWN.out he k hk e)
    obtain ⟨y, hy⟩ : ∃ y, ss[pre.length]? = some y := ⟨_, List.getElem?_eq_getElem hlt⟩
    have hne : ss ≠ [] := fun e => by subst e; simp at hlt
    obtain ⟨b, rfl, hcs⟩ := hns.ws.resolve_left hne
    have c0 := cell_of (j := 0) hn0 rfl
    have c1 := cell_of (j := 0) hns.wb rfl
    have c2 := cell_of (j := 0) hns.rb rfl
    have c3 := hcs _ _ hy
    have z2 := frozen_of_row (j := 0) hns.rb
    have z0 := frozen_of_row (j := 0) hn0
    have HRB := hid hns.rb
    have HN0 := hid hn0
    have HFR := hid hfr
    have HPRE := hid hpre
    have HY := hid hy
    rw [HLN.out] at c1 hlt
    obtain ⟨pl, hpl⟩ : ∃ pl, pre.length = pl := ⟨_, rfl⟩
    have HPL := hid hpl
    rw [hpl] at c0 c3 hlt
    have hi : (pl : Int) < (ln : Int) := by omega
    have hi3 : (ln : Int) ≤ 1024 := by have h1 := HLE.out; rw [HLN.out] at h1; omega
    have hi2 : decide ((ln : Int) ≤ (pl : Int)) = false := by simp; omega
    clear hfr hn0 hpre hns hy hcs hne hpl
    have hrw : w.heap.size + 1 < u0.heap.size := lt_of_row HSU.out.rb
    by_cases hxy : x = y
    · subst hxy
      clear c2 z2
      gi_wp2
      have f9 : Fr (fun k => k = nb0) W (W.setCell ⟨nb0, 0, none⟩ (.int .i64 ((pl : Int) + 1))) := Fr.setCell (p := ⟨nb0, 0, none⟩) (S := fun k => k = nb0) (Fr.refl _ _) (fun _ => rfl) _
      have hle := HFR.out.size
      have hpx : pre ++ [x] <+: ss := by
        obtain ⟨t, ht⟩ := HPRE.out
        have h1 := HY.out
        rw [← ht, List.getElem?_append_right (Nat.le_refl _)] at h1
        cases t with
        | nil => simp at h1
        | cons z r =>
          simp at h1
          subst h1
          exact ⟨r, by rw [← ht]; simp⟩
      refine ⟨⟨f9.size, fun k o hk h0 _ => f9.cells h0 (fun e => by omega)⟩, fun k hk => f9.block k (by have := (HKN.out k hk).2; omega) (HKN.out k hk).1, HFR.out.trans f9 (fun _ _ h => h), ?_, hpx⟩
      rw [setCell_row HN0.out]
      simp [HPL.out]
    · have e1 : (x == y) = false := by simpa using hxy
      gi_wp2
      have f9 : Fr (fun k => k = w.heap.size + 1) W (W.setCell ⟨w.heap.size + 1, 0, none⟩ (.bool false)) := Fr.setCell (p := ⟨w.heap.size + 1, 0, none⟩) (S := fun k => k = w.heap.size + 1) (Fr.refl _ _) (fun _ => rfl) _
      refine ⟨⟨f9.size, fun k o hk h0 _ => f9.cells h0 (fun e => by omega)⟩, fun hp => hxy ?_⟩
      obtain ⟨t, ht⟩ := hp
      have h1 := HY.out
      rw [← ht, List.append_assoc, List.getElem?_append_right (Nat.le_refl _)] at h1
      simpa using h1
  case done =>
    subst ha0
    rintro D0 xs W0 hD hxs ⟨hfr, hn0, _⟩ hK0
    rw [hxs] at hn0
    have hns := HSU.out.kept hfr (fun k e => by have := HNB0.out; omega) (fun e => (HKN.out B (.inl rfl)).1 e) (fun he k hk e => (HKN.out k (.inr ⟨he, hk⟩)).1 e) (fun he k hk e => HWN.out he k hk e)
    have HST1 := hid hns
    rw [HLN.out] at hn0
    have c0 := cell_of (j := 0) hn0 rfl
    have c1 := cell_of (j := 0) hns.wb rfl
    rw [HLN.out] at c1
    have hzW := hfr.size
    clear hfr hn0 hns
    gi_wp2_with fail
    clear c0 c1
    rw [roundsIn_succ]
    have hl0 := lt_of_row' hK0
    have hz0 : w.heap.size + 2 ≤ W0.heap.size := by omega
    gi_wp2_with fail
    obtain ⟨nb1, hnb⟩ : ∃ nb, nb = W0.heap.size := ⟨_, rfl⟩
    obtain ⟨u1, hu⟩ : ∃ u, u = W0.alloc (.cells #[.int .i64 0] 3) := ⟨_, rfl⟩
    rw [← hu, ← hnb]
    have fu : Fr (fun _ => False) W0 u1 := by rw [hu]; exact Fr.alloc (Fr.refl _ _) _
    have bu : u1.heap[nb1]? = some (.cells #[.int .i64 0] 3 (0, 0)) := by rw [hu, hnb]; exact Go.heap_alloc_new W0 _
    have hlb : nb1 < u1.heap.size := lt_of_row bu
    have hzu := fu.size
    have HSU := hid (HST1.out.kept fu (fun _ h => h.elim) (fun h => h) (fun _ _ _ h => h) (fun _ _ _ h => h))
    have HNB1 : Hid (W0.heap.size = nb1) := hid hnb.symm
    have HKN : Hid (∀ k, Nk B a ss k → k ≠ nb1 ∧ k < u1.heap.size) := hid (fun k hk => by have h1 := (HNK.out k hk).1; exact ⟨by omega, by omega⟩)
    have HWN : Hid (ss ≠ [] → ∀ k, blk wa = some k → k ≠ nb1) := hid (fun he k hk => by have h1 := HWL.out he k hk; omega)
    have HNI := hid (show NI u1 nb1 ss [] u1 from ⟨Fr.refl _ _, bu, List.nil_prefix⟩)
    have HFU1 := hid fu
    clear hu hnb bu fu
    refine wp_of_act' (fun a0 ha0 => ?_)
    refine wpIn_rangeFunc_ownG (w := u1) rfl (by omega) (gf := 49) (lb := #[.pointer (some ⟨B, 0, none⟩)]) (by rw [ha0]; rfl) trivial (enters_of Try.func49 (by kernel_rfl) rfl)
      (names1_stops Fence.wide _ trivial rfl (by omega) B cap a ss HLE.out u1 HSU.out.cb HSU.out.ns) (fun h k => h.trans k)
      (fun W l o o' hl hW _ _ k hk => World.putObj_heap_other (fun e => by have := (HKN.out k hk).2; omega))
      (Below.refl _ _) (fun _ => rfl) (NI u1 nb1 ss) (fun _ pre _ => ¬ pre <+: ss) (NI.own u1 nb1 ss hlb) (fun _ _ _ _ _ hs _ _ => hs) HNI.out
      (fun x => { tmps := (a0.tmps.setIfInBounds 13 (encStr x)).setIfInBounds 7 (encStr x), defers := [] }) ?assign ?body ?done ?stop
    case assign =>
      subst ha0
      intro l x W K hK
      gi_wp2
      exact hK
    case stop =>
      rintro D c pre W _ hp h _
      exact absurd hp h
    case body =>
      subst ha0
      rintro l pre x W ⟨hfr, hn0, hpre⟩ hlt
      have hns := HSU.out.kept hfr (fun k e => by have := HNB1.out; omega) (fun e => (HKN.out B (.inl rfl)).1 e) (fun he k hk e => (HKN.out k (.inr ⟨he, hk⟩)).1 e) (fun he k hk e => HWN.out he k hk e)
      obtain ⟨y, hy⟩ : ∃ y, ss[pre.length]? = some y := ⟨_, List.getElem?_eq_getElem hlt⟩
      have hne : ss ≠ [] := fun e => by subst e; simp at hlt
      obtain ⟨b, rfl, hcs⟩ := hns.ws.resolve_left hne
      have c0 := cell_of (j := 0) hn0 rfl
      have c1 := cell_of (j := 0) hns.wb rfl
      have c2 := cell_of (j := 0) hns.rb rfl
      have c3 := hcs _ _ hy
      have z2 := frozen_of_row (j := 0) hns.rb
      have z0 := frozen_of_row (j := 0) hn0
      have HRB := hid hns.rb
      have HN0 := hid hn0
      have HFR := hid hfr
      have HPRE := hid hpre
      have HY := hid hy
      rw [HLN.out] at c1 hlt
      obtain ⟨pl, hpl⟩ : ∃ pl, pre.length = pl := ⟨_, rfl⟩
      have HPL := hid hpl
      rw [hpl] at c0 c3 hlt
      have hi : (pl : Int) < (ln : Int) := by omega
      have hi3 : (ln : Int) ≤ 1024 := by have h1 := HLE.out; rw [HLN.out] at h1; omega
      have hi2 : decide ((ln : Int) ≤ (pl : Int)) = false := by simp; omega
      clear hfr hn0 hpre hns hy hcs hne hpl
      have hrw : w.heap.size + 1 < u1.heap.size := lt_of_row HSU.out.rb
      by_cases hxy : x = y
      · subst hxy
        clear c2 z2
        gi_wp2
        have f9 : Fr (fun k => k = nb1) W (W.setCell ⟨nb1, 0, none⟩ (.int .i64 ((pl : Int) + 1))) := Fr.setCell (p := ⟨nb1, 0, none⟩) (S := fun k => k = nb1) (Fr.refl _ _) (fun _ => rfl) _
        have hle := HFR.out.size
        have hpx : pre ++ [x] <+: ss := by
          obtain ⟨t, ht⟩ := HPRE.out
          have h1 := HY.out
          rw [← ht, List.getElem?_append_right (Nat.le_refl _)] at h1
          cases t with
          | nil => simp at h1
          | cons z r =>
            simp at h1
            subst h1
            exact ⟨r, by rw [← ht]; simp⟩
        refine ⟨⟨f9.size, fun k o hk h0 _ => f9.cells h0 (fun e => by omega)⟩, fun k hk => f9.block k (by have := (HKN.out k hk).2; omega) (HKN.out k hk).1, HFR.out.trans f9 (fun _ _ h => h), ?_, hpx⟩
        rw [setCell_row HN0.out]
        simp [HPL.out]
      · have e1 : (x == y) = false := by simpa using hxy
        gi_wp2
        have f9 : Fr (fun k => k = w.heap.size + 1) W (W.setCell ⟨w.heap.size + 1, 0, none⟩ (.bool false)) := Fr.setCell (p := ⟨w.heap.size + 1, 0, none⟩) (S := fun k => k = w.heap.size + 1) (Fr.refl _ _) (fun _ => rfl) _
        refine ⟨⟨f9.size, fun k o hk h0 _ => f9.cells h0 (fun e => by omega)⟩, fun hp => hxy ?_⟩
        obtain ⟨t, ht⟩ := hp
        have h1 := HY.out
        rw [← ht, List.append_assoc, List.getElem?_append_right (Nat.le_refl _)] at h1
        simpa using h1
    case done =>
      subst ha0
      rintro D1 xs W1 hD hxs ⟨hfr, hn0, _⟩ hK1
      rw [hxs] at hn0
      have hns := HSU.out.kept hfr (fun k e => by have := HNB1.out; omega) (fun e => (HKN.out B (.inl rfl)).1 e) (fun he k hk e => (HKN.out k (.inr ⟨he, hk⟩)).1 e) (fun he k hk e => HWN.out he k hk e)
      have HST2 := hid hns
      rw [HLN.out] at hn0
      have c0 := cell_of (j := 0) hn0 rfl
      have c1 := cell_of (j := 0) hns.wb rfl
      rw [HLN.out] at c1
      have hzW := hfr.size
      have hK01 : W1.heap[D0]? = some (.deferred (some [])) := hfr.cells (HFU1.out.cells hK0 (fun h => h)) (fun e => by have := HNB1.out; omega)
      have hd01 : D0 ≠ D1 := by omega
      clear hfr hn0 hns
      gi_wp2_with fail
      clear c0 c1
      rw [roundsIn_succ]
      have r0 : W1.cell? ⟨w.heap.size + 1, 0, none⟩ = some (.bool false) := cell_of HST2.out.rb rfl
      have r1 : W1.frozen? ⟨w.heap.size + 1, 0, none⟩ = false := frozen_of_row HST2.out.rb
      gi_wp2
      have hst := HST2.out
      have n2 : D1 ≠ w.heap.size + 1 := fun e => by rw [e, hst.rb] at hK1; simp at hK1
      have n1 : D0 ≠ w.heap.size + 1 := fun e => by rw [e, hst.rb] at hK01; simp at hK01
      have q2 : (W1.setCell ⟨w.heap.size + 1, 0, none⟩ (.bool true)).heap[D1]? = some (.deferred (some [])) := (Below.heap_setCell _ _ _ _ n2).trans hK1
      have q1 : ((W1.setCell ⟨w.heap.size + 1, 0, none⟩ (.bool true)).putObj D1 (.deferred none)).heap[D0]? = some (.deferred (some [])) := (World.putObj_heap_other hd01).trans ((Below.heap_setCell _ _ _ _ n1).trans hK01)
      have qr : (((W1.setCell ⟨w.heap.size + 1, 0, none⟩ (.bool true)).putObj D1 (.deferred none)).putObj D0 (.deferred none)).heap[w.heap.size + 1]? = some (.cells #[.bool true] 4 (0, 0)) := by
        rw [World.putObj_heap_other n1.symm, World.putObj_heap_other n2.symm, setCell_row hst.rb]; rfl
      have qc := cell_of (j := 0) qr rfl
      have hu0 := HFU0.out.size
      have hu1 := HFU1.out.size
      have hs2 := hst.fr.size
      refine ⟨by simp, .inl ⟨_, _, rfl, run_takeDeferred q2, ?_⟩⟩
      refine ⟨by simp, .inl ⟨_, _, rfl, run_takeDeferred q1, ?_⟩⟩
      refine ⟨.bool true, ?_, rfl, ?_⟩
      · simp [results, Try.f40, go_sem, qc]
      · have f1 : Fr (fun _ => False) w (W1.setCell ⟨w.heap.size + 1, 0, none⟩ (.bool true)) := Fr.setCell (p := ⟨w.heap.size + 1, 0, none⟩) hst.fr (fun h => by simp only at h; omega) _
        exact (f1.trans (Fr.of_grown (grownBy_putObj' _ D1 _)) (fun i hi e => by simp at e; omega)).trans (Fr.of_grown (grownBy_putObj' _ D0 _)) (fun i hi e => by simp at e; omega)

end Go.Proofs.Ytnfpceeacfdldaa
