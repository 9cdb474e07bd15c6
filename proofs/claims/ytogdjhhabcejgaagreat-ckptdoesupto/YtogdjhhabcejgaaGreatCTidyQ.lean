/-
  The contracts of ckpt's has and tidy.
-/
import Derived.Test.YtogdjhhabcejgaaGreatCMaths
import Derived.Test.YtogdjhhabcejgaaGreatKSortedQ
import Derived.Test.YtogdjhhabcejgaaGreatMg20
import Derived.Test.YtogdjhhabcejgaaGreatKMore2Q
namespace Go.Proofs.YtogdjhhabcejgaaGreat
open Go.RowKit Go.Maps Go.Shelf
set_option linter.unusedVariables false
attribute [local go_sem] Oper.semAt_some

theorem wp_of_actC {F : Fence} {n : Nat} {P : Program} {c : Code} {Q : Exit → Act → World → Prop} {a : Act} {w : World} (h : ∀ a0, a0 = a → c.wpIn F n P Q a0 w) : c.wpIn F n P Q a w := h a rfl
/-- what the rounds have found: nothing yet -/
def HI (u : World) (s : K.Nm) (pre : List K.Nm) (W : World) : Prop := Fr (fun _ => False) u W ∧ s ∉ pre
/-- .. or it -/
def HX (u : World) (r : Nat) (s : K.Nm) (c : Code) (pre : List K.Nm) (W : World) : Prop := c = .ret ∧ Fr (fun k => k = r) u W ∧ W.heap[r]? = some (.cells #[.bool true] 4 (0, 0)) ∧ s ∈ pre
theorem HI.own (u : World) (s : K.Nm) : OwnFrom u.heap.size (HI u s) := by
  rintro pre A B row ⟨h1, h2⟩ hg hr
  exact ⟨h1.trans (Fr.of_grown hg) (fun i hi e => by have := (hr i e).1; omega), h2⟩
theorem HX.own (u : World) (r : Nat) (hr0 : r < u.heap.size) (s : K.Nm) (c : Code) : OwnFrom u.heap.size (HX u r s c) := by
  rintro pre A B row ⟨h0, h1, h2, h3⟩ hg hr
  exact ⟨h0, h1.trans (Fr.of_grown hg) (fun i hi e => by have := (hr i e).1; omega), (Fr.of_grown hg).cells h2 (fun e => by have := (hr _ e).1; omega), h3⟩
theorem K.get_names {l : List (K.Nm × K.F)} (n : K.Nm) : K.get n l = none ↔ n ∉ l.map (·.1) := by
  rw [K.get_none]
  constructor
  · intro h hm
    obtain ⟨p, hp, rfl⟩ := List.mem_map.1 hm
    exact h p hp rfl
  · intro h p hp e
    exact h (List.mem_map.2 ⟨p, hp, e⟩)

set_option maxRecDepth 100000 in
set_option maxHeartbeats 4000000 in
theorem ckHas_any {S : Nat → Prop} {w : World} {p : Nat} {d : K.DK} (h : Dk S w p d) (s : K.Nm) :
    Calls Tryz.prog 58 #[.pointer (some ⟨p, 0, none⟩), encStr s] w fun e w' => e = .returned (.bool (decide (K.get s d.fs ≠ none))) ∧ Fr (fun _ => False) w w' := by
  refine (callsIn_wide (n := 8)).1 ?_
  have hf0 : Fence.wide.fn 12 := trivial
  have hlen : (K.names d).length ≤ 1024 := by unfold K.names; rw [List.length_map]; exact h.2.1.files
  have hget : K.get s d.fs = none ↔ s ∉ K.names d := K.get_names s
  refine callsIn_of_wp_marks Tryz.func58 rfl trivial ?_ rfl
  simp only [Tryz.ntmps58, List.size_toArray, List.length_cons, List.length_nil, Nat.reduceAdd, Nat.reduceSub, Array.replicate_succ, Array.replicate_zero, List.push_toArray, List.append_toArray, List.nil_append, List.cons_append]
  obtain ⟨ss, hss⟩ : ∃ ss, K.names d = ss := ⟨_, rfl⟩
  obtain ⟨g, hg⟩ : ∃ g, decide (K.get s d.fs ≠ none) = g := ⟨_, rfl⟩
  have hg' : g = decide (s ∈ ss) := by rw [← hg, ← hss]; simp [hget]
  rw [hg]
  rw [hss] at hlen
  have HLE := hid hlen
  have HK := hid h
  have HSS := hid hss
  have HG := hid hg'
  clear hlen h hss hget hg hg'
  gi_wp2_with fail
  obtain ⟨wz, hwz⟩ : ∃ wz, wz = (w.alloc (.cells #[encStr s] 9)).alloc (.cells #[.bool false] 4) := ⟨_, rfl⟩
  rw [← hwz]
  have hzz : wz.heap.size = w.heap.size + 2 := by rw [hwz]; simp
  have fz : Fr (fun _ => False) w wz := by rw [hwz]; exact Fr.alloc (Fr.alloc (Fr.refl _ _) _) _
  have bz0 : wz.heap[w.heap.size]? = some (.cells #[encStr s] 9 (0, 0)) := by rw [hwz]; exact (Below.heap_alloc _ _ _ (by simp)).trans (Go.heap_alloc_new w _)
  have bz1 : wz.heap[w.heap.size + 1]? = some (.cells #[.bool false] 4 (0, 0)) := by
    have := Go.heap_alloc_new (w.alloc (.cells #[encStr s] 9)) (.cells #[.bool false] 4)
    rw [World.size_alloc] at this
    rw [hwz]; exact this
  clear hwz
  refine (callsIn_wide.2 (names_any (HK.out.kept fz (fun _ _ h => h)))).mono ?_
  rintro e wn ⟨B, a, cap, rfl, hB, hNs, hNk, hfn⟩
  rw [HSS.out] at hB hNs hNk
  have hNk' : ∀ k, Nk B a ss k → k < wn.heap.size ∧ w.heap.size + 2 ≤ k := fun k hk => ⟨(hNk k hk).2, by have := (hNk k hk).1; omega⟩
  have bn0 := hfn.cells bz0 (fun h => h)
  have bn1 := hfn.cells bz1 (fun h => h)
  have fn : Fr (fun _ => False) w wn := fz.trans hfn (fun _ _ h => h)
  have HNK := hid hNk'
  have HB0 := hid bn0
  have HB1 := hid bn1
  have HFN := hid fn
  have hl1 : w.heap.size + 1 < wn.heap.size := lt_of_row bn1
  clear hNk hNk' hfn fz bz0 bz1 bn0 bn1 fn hzz
  gi_wp2_with fail
  refine wp_of_actC (fun a0 ha0 => ?_)
  refine wpIn_rangeFunc_ownG (w := wn) rfl (by omega) (gf := 30) (lb := #[.pointer (some ⟨B, 0, none⟩)]) (by rw [ha0]; rfl) trivial (enters_of Tryz.func30 (by kernel_rfl) rfl)
    (names1_stops Fence.wide _ trivial rfl (by omega) B cap a ss HLE.out wn hB hNs) (fun h k => h.trans k)
    (fun W l o o' hl hW _ _ k hk => World.putObj_heap_other (fun e => by have := (HNK.out k hk).1; omega))
    (Below.refl _ _) (fun _ => rfl) (HI wn s) (HX wn (w.heap.size + 1) s) (HI.own wn s) (HX.own wn _ hl1 s) ⟨Fr.refl _ _, by simp⟩
    (fun x => { tmps := (a0.tmps.setIfInBounds 8 (encStr x)).setIfInBounds 5 (encStr x), defers := [] }) ?assign ?body ?done ?stop
  case assign =>
    subst ha0
    intro l x W K hK
    gi_wp2
    exact hK
  case body =>
    subst ha0
    rintro l pre x W ⟨hfr, hpre⟩ hlt
    have b0 := hfr.cells HB0.out (fun h => h)
    have b1 := hfr.cells HB1.out (fun h => h)
    have c0 := cell_of (j := 0) b0 rfl
    have c1 := cell_of (j := 0) b1 rfl
    have z1 := frozen_of_row (j := 0) b1
    have HFR := hid hfr
    have HPRE := hid hpre
    have HR1 := hid b1
    have hle := hfr.size
    clear hfr hpre b0 b1
    by_cases hxy : x = s
    · subst hxy
      gi_wp2
      have f9 : Fr (fun k => k = w.heap.size + 1) W (W.setCell ⟨w.heap.size + 1, 0, none⟩ (.bool true)) := Fr.setCell (p := ⟨w.heap.size + 1, 0, none⟩) (S := fun k => k = w.heap.size + 1) (Fr.refl _ _) (fun _ => rfl) _
      refine ⟨⟨f9.size, fun k o hk h0 _ => f9.cells h0 (fun e => by omega)⟩, rfl, (HFR.out.mono (T := fun k => k = w.heap.size + 1) (fun _ _ h => h.elim)).trans f9 (fun _ _ h => h), by rw [setCell_row HR1.out]; rfl, by simp⟩
    · have e1 : (x == s) = false := by simpa using hxy
      gi_wp2
      exact ⟨KeepsFrom.refl _ _, Kq.refl _ _, HFR.out, by simp [HPRE.out]; exact fun e => hxy e.symm⟩
  case done =>
    subst ha0
    rintro D0 xs W0 hD hxs ⟨hfr, hpre⟩ hK0
    have b1 := hfr.cells HB1.out (fun h => h)
    have c1 := cell_of (j := 0) b1 rfl
    have z1 := frozen_of_row (j := 0) b1
    have HFR := hid hfr
    have HPRE := hid hpre
    have HR1 := hid b1
    have HXS := hid hxs
    clear hfr hpre b1 hxs
    gi_wp2
    have hn : D0 ≠ w.heap.size + 1 := fun e => by rw [e, HR1.out] at hK0; simp at hK0
    have q0 : (W0.setCell ⟨w.heap.size + 1, 0, none⟩ (.bool false)).heap[D0]? = some (.deferred (some [])) := (Below.heap_setCell _ _ _ _ hn).trans hK0
    have qr : ((W0.setCell ⟨w.heap.size + 1, 0, none⟩ (.bool false)).putObj D0 (.deferred none)).heap[w.heap.size + 1]? = some (.cells #[.bool false] 4 (0, 0)) := by
      rw [World.putObj_heap_other hn.symm, setCell_row HR1.out]; rfl
    have qc := cell_of (j := 0) qr rfl
    have hg : g = false := by rw [HG.out, ← HXS.out]; simp [HPRE.out]
    have hs0 := HFN.out.size
    have hf2 := HFN.out.trans HFR.out (fun _ _ h => h)
    refine ⟨by simp, .inl ⟨_, _, rfl, run_takeDeferred q0, ?_⟩⟩
    refine ⟨.bool false, ?_, by rw [hg], ?_⟩
    · simp [results, Tryz.f58, go_sem, qc]
    · have f1 : Fr (fun _ => False) w (W0.setCell ⟨w.heap.size + 1, 0, none⟩ (.bool false)) := Fr.setCell (p := ⟨w.heap.size + 1, 0, none⟩) hf2 (fun h => by simp only at h; omega) _
      exact f1.trans (Fr.of_grown (grownBy_putObj' _ D0 _)) (fun i hi e => by simp at e; omega)
  case stop =>
    subst ha0
    rintro D0 c pre W hD hp ⟨rfl, hfr, hr, hs⟩ hK0
    gi_wp2
    have hn : D0 ≠ w.heap.size + 1 := fun e => by rw [e, hr] at hK0; simp at hK0
    have qr : (W.putObj D0 (.deferred none)).heap[w.heap.size + 1]? = some (.cells #[.bool true] 4 (0, 0)) := by
      rw [World.putObj_heap_other hn.symm]; exact hr
    have qc := cell_of (j := 0) qr rfl
    have hg : g = true := by rw [HG.out]; exact decide_eq_true (hp.subset hs)
    have hs0 := HFN.out.size
    refine ⟨by simp, .inl ⟨_, _, rfl, run_takeDeferred hK0, ?_⟩⟩
    refine ⟨.bool true, ?_, by rw [hg], ?_⟩
    · simp [results, Tryz.f58, go_sem, qc]
    · have f1 : Fr (fun _ => False) w W := HFN.out.trans hfr (fun i hi e => by omega)
      exact f1.trans (Fr.of_grown (grownBy_putObj' _ D0 _)) (fun i hi e => by simp at e; omega)

/-- the name ckpt.new as the program writes it -/
theorem nw_str : (⟨#[99, 107, 112, 116, 46, 110, 101, 119]⟩ : ByteArray).data.toList = C.nw := rfl
theorem ck_str : (⟨#[99, 107, 112, 116]⟩ : ByteArray).data.toList = C.ck := rfl
set_option maxHeartbeats 800000 in
theorem tidy_any {S : Nat → Prop} {w : World} {p : Nat} {d : K.DK} (h : Dk S w p d) :
    Calls Tryz.prog 32 #[.pointer (some ⟨p, 0, none⟩)] w fun e w' => e = .returned (.int .i64 (C.tidy d).1) ∧ Td S w p (C.tidy d).2 w' := by
  have KH := hid (ckHas_any h C.nw)
  by_cases hg : K.get C.nw d.fs = none
  · have e0 : C.tidy d = (0, d) := by unfold C.tidy; rw [if_pos hg]
    have e1 : decide (K.get C.nw d.fs ≠ none) = false := by simp [hg]
    rw [e0]
    rw [e1] at KH
    have H := hid h
    clear e0 e1 h hg
    go_enter Tryz.func32, Tryz.ntmps32
    go_wp2_with (first
      | (go_at_call 58; refine KH.out.mono ?_; rintro e w1 ⟨rfl, hf1⟩; have F1 := hid hf1; clear hf1))
    go_ret
    exact ⟨rfl, Td.refl H.out F1.out⟩
  · have e0 : C.tidy d = K.rem d C.nw := by unfold C.tidy; rw [if_neg hg]
    have e1 : decide (K.get C.nw d.fs ≠ none) = true := by simp [hg]
    rw [e0]
    rw [e1] at KH
    have H := hid h
    have KR := hid (fun W (hf : Fr (fun _ => False) w W) => remove_any (h.kept hf (fun _ _ h => h)) ⟨#[99, 107, 112, 116, 46, 110, 101, 119]⟩ (by decide))
    rw [nw_str] at KR
    generalize K.rem d C.nw = R at KR ⊢
    clear e0 e1 h hg
    go_enter Tryz.func32, Tryz.ntmps32
    go_wp2_with (first
      | (go_at_call 58; refine KH.out.mono ?_; rintro e w1 ⟨rfl, hf1⟩; have F1 := hid hf1; clear hf1)
      | (go_at_call 59; refine (KR.out w1 F1.out).mono ?_; rintro e w2 ⟨rfl, ht2⟩; have HT := hid (Td.pre F1.out ht2); clear ht2))
    go_ret
    exact ⟨rfl, HT.out⟩

end Go.Proofs.YtogdjhhabcejgaaGreat
