/-
  The document's acceptor: Prepare, Accept, Forget.
-/
import Derived.Test.YtedhmhlhjonloaaARef3
namespace Go.Proofs.Ytedhmhlhjonloaa
open Go.RowKit Go.Maps
set_option linter.unusedVariables false
set_option linter.unusedSimpArgs false

theorem Rf.turn {I : Nat → Prop} {w w' : World} {q : Nat} {ra : Option Addr} {rc : Nat} {xs : List El} {a : A.Ac} (h : Rf I w q ra rc xs a) (b : A.Bl) (fs : Int) (hf : Fr (fun k => k = q) w w') (hat : w'.heap[q]? = some (.cells #[.int .i64 b.1, .int .i64 b.2, .int .i64 fs, .slice ra xs.length rc] 30 (0, 0))) : Rf I w' q ra rc xs ⟨b, fs, a.l⟩ :=
  ⟨hat, h.ls.kept hf (fun i hi e => h.nq (e ▸ hi)), h.cap, h.l, h.up, h.nq⟩
theorem A.cmp_lt {a b : A.Bl} : A.cmp b a < 0 ↔ A.le a b = false := by
  unfold A.cmp
  constructor
  · intro h
    split at h
    · assumption
    · split at h <;> omega
  · intro h
    rw [if_pos h]; omega
theorem Rf.from_ls {I : Nat → Prop} {w : World} {q : Nat} {ra : Option Addr} {rc : Nat} {xs : List El} {a : A.Ac} (h : Rf I w q ra rc xs a) (f : Int) : (xs.filter (fun x => decide (f ≤ x.2.slot))).map (fun x => (x.2.slot, x.2)) = A.from_ f a.l := by
  rw [← h.l]
  unfold A.from_
  rw [List.filter_map]
  rfl
theorem Rf.from_sd {I : Nat → Prop} {w : World} {q : Nat} {ra : Option Addr} {rc : Nat} {xs : List El} {a : A.Ac} (h : Rf I w q ra rc xs a) (f : Int) : (xs.filter (fun x => decide (f ≤ x.2.slot))).map Prod.snd = (A.from_ f a.l).map (·.2) := by
  rw [← h.from_ls f, List.map_map]
  rfl
theorem Rg.more {I J : Nat → Prop} {w : World} {q : Nat} {a : A.Ac} (h : Rg I w q a) (hJ : ∀ k, I k → J k) (hl : ∀ k, J k → k < w.heap.size) (hq : ¬ J q) : Rg J w q a := by
  obtain ⟨h1, h2, ra, rc, xs, h3⟩ := h
  exact ⟨hl, h2, ra, rc, xs, ⟨h3.at_, h3.ls.mono hJ, h3.cap, h3.l, h3.up, hq⟩⟩
theorem Rg.nw {I : Nat → Prop} {w w' : World} {q : Nat} {a a' : A.Ac} (h0 : Rg I w q a) (h : Rg I w' q a') (hs : w.heap.size ≤ w'.heap.size) : Rg (Nw I w w') w' q a' :=
  h.more (fun k hk => .inl hk) (fun k hk => by rcases hk with hk | hk; exact h.1 k hk; exact hk.2) (fun hk => by
    have := h0.2.1
    obtain ⟨_, _, ra, rc, xs, h3⟩ := h
    rcases hk with hk | hk
    · exact h3.nq hk
    · omega)
set_option maxHeartbeats 3200000 in
set_option maxRecDepth 20000 in
theorem rprepare_any {I : Nat → Prop} {w : World} {q : Nat} {a : A.Ac} (h : Rg I w q a) (b1 b2 k : Int) (hl : a.l.length ≤ 300000000000) :
    Calls Try.prog 41 #[ptrV q, .agg #[.int .i64 b1, .int .i64 b2], .int .i64 k] w fun r w' => ∃ ra rc xs, r = .returned (.tuple #[.slice ra (List.length xs) rc, .int .i64 (A.prepare a (b1, b2) k).1]) ∧ List.map Prod.snd xs = (A.prepare a (b1, b2) k).2.1 ∧ Ls (Nw I w w') w' ra xs ∧ Rg I w' q (A.prepare a (b1, b2) k).2.2 ∧ Fr (fun k => k = q) w w' := by
  have HG := hid h
  obtain ⟨hI, hq, ra, rc, xs, hf⟩ := h
  have HF := hid hf
  have hln := hf.len
  have f0 : Fr (fun _ => False) w (w.alloc (.cells #[.int .i64 b1, .int .i64 b2] 27)) := Fr.alloc (Fr.refl _ _) _
  have bb : (w.alloc (.cells #[.int .i64 b1, .int .i64 b2] 27)).heap[w.heap.size]? = some (.cells #[.int .i64 b1, .int .i64 b2] 27 (0, 0)) := Go.heap_alloc_new w _
  have KC := hid (fun (W : World) => rcheck_any b1 b2 W)
  have KS := hid (fun (W : World) => rslot_any k W)
  have KP := hid (fun (W : World) => rcompare_any b1 b2 a.pr.1 a.pr.2 W)
  obtain ⟨R, hR⟩ : ∃ x, A.prepare a (b1, b2) k = x := ⟨_, rfl⟩
  rw [hR]
  unfold A.prepare A.judge at hR
  have hcl := A.cmp_lt (a := a.pr) (b := (b1, b2))
  change A.cmp (b1, b2) (a.pr.1, a.pr.2) < 0 ↔ _ at hcl
  generalize A.cmp (b1, b2) (a.pr.1, a.pr.2) = c at KP hcl
  generalize A.okB (b1, b2) = x1 at KC hR
  generalize A.okS k = x2 at KS hR
  generalize A.le a.pr (b1, b2) = x3 at hcl hR
  have HQ := hid hq
  have HI := hid hI
  have HC := hid (fun (V : World) (hfr : Fr (fun _ => False) (w.alloc (.cells #[.int .i64 b1, .int .i64 b2] 27)) V) => show V.cell? ⟨q, 0, none⟩ = some (.int .i64 a.pr.1) ∧ V.cell? ⟨q, 1, none⟩ = some (.int .i64 a.pr.2) ∧ V.cell? ⟨w.heap.size, 0, none⟩ = some (.int .i64 b1) ∧ V.cell? ⟨w.heap.size, 1, none⟩ = some (.int .i64 b2) from
    ⟨cellA ((f0.trans hfr (fun _ _ h => h)).cells hf.at_ (fun h => h)) rfl, cellA ((f0.trans hfr (fun _ _ h => h)).cells hf.at_ (fun h => h)) rfl, cellA (hfr.cells bb (fun h => h)) rfl, cellA (hfr.cells bb (fun h => h)) rfl⟩)
  have F0 := hid f0
  have HCL := hid hcl
  clear hI hq hf f0 bb hcl
  have fail1 : ∀ (W : World), R = (1, [], a) → Fr (fun _ => False) w W → ∃ ra rc xs, (Ending.returned (.tuple #[.slice none 0 0, .int .i64 1]) = .returned (.tuple #[.slice ra (List.length xs) rc, .int .i64 R.1])) ∧ List.map Prod.snd xs = R.2.1 ∧ Ls (Nw I w W) W ra xs ∧ Rg I W q R.2.2 ∧ Fr (fun k => k = q) w W := by
    rintro W rfl fW
    exact ⟨none, 0, [], rfl, rfl, Ls.nil _ _ _, HG.out.fr fW, fW.mono (fun _ _ h => h.elim)⟩
  have FAIL1 := hid fail1
  clear fail1
  cases x1 with
  | false =>
    simp at hR
    have HR := hid hR.symm
    clear hR
    go_enter Try.func41, Try.ntmps41
    obtain ⟨_, _, c2, c3⟩ := HC.out _ (Fr.refl _ _)
    go_wp2_with (first | (go_at_call 23; refine (KC.out _).mono ?_; rintro e w1 ⟨rfl, f1⟩; have F1 := hid f1; clear f1))
    go_ret2
    exact FAIL1.out _ HR.out (F0.out.trans F1.out (fun _ _ h => h))
  | true =>
    cases x2 with
    | false =>
      simp at hR
      have HR := hid hR.symm
      clear hR
      go_enter Try.func41, Try.ntmps41
      obtain ⟨_, _, c2, c3⟩ := HC.out _ (Fr.refl _ _)
      go_wp2_with (first | (go_at_call 23; refine (KC.out _).mono ?_; rintro e w1 ⟨rfl, f1⟩; have F1 := hid f1; clear f1) | (go_at_call 24; refine (KS.out _).mono ?_; rintro e w2 ⟨rfl, rfl⟩))
      go_ret2
      exact FAIL1.out _ HR.out (F0.out.trans F1.out (fun _ _ h => h))
    | true =>
      have S0 : Hid (∀ V : World, Fr (fun _ => False) (w.alloc (.cells #[.int .i64 b1, .int .i64 b2] 27)) V → (fun W : World => W.cell? ⟨q, 0, none⟩ = some (.int .i64 a.pr.1) ∧ W.cell? ⟨q, 1, none⟩ = some (.int .i64 a.pr.2) ∧ W.cell? ⟨w.heap.size, 0, none⟩ = some (.int .i64 b1) ∧ W.cell? ⟨w.heap.size, 1, none⟩ = some (.int .i64 b2)) V) := HC
      cases x3 with
      | false =>
        have hc : c < 0 := HCL.out.2 rfl
        simp at hR
        have HR := hid hR.symm
        clear hR
        go_enter Try.func41, Try.ntmps41
        obtain ⟨_, _, c2, c3⟩ := HC.out _ (Fr.refl _ _)
        go_wp2_with (first | (go_at_call 23; refine (KC.out _).mono ?_; rintro e w1 ⟨rfl, f1⟩; have F1 := hid f1; clear f1) | (go_at_call 24; refine (KS.out _).mono ?_; rintro e w2 ⟨rfl, rfl⟩))
        go_region_held3 (fun W => W.cell? ⟨q, 0, none⟩ = some (.int .i64 a.pr.1) ∧ W.cell? ⟨q, 1, none⟩ = some (.int .i64 a.pr.2) ∧ W.cell? ⟨w.heap.size, 0, none⟩ = some (.int .i64 b1) ∧ W.cell? ⟨w.heap.size, 1, none⟩ = some (.int .i64 b2)) (first | exact S0.out _ F3.out | exact S0.out _ (Fr.drew F1.out))
          (first | (go_at_call 22; refine (KP.out _).mono ?_; rintro e w3 ⟨rfl, f3⟩; have F3 := hid ((Fr.drew F1.out).trans f3 (fun _ _ h => h)); clear f3))
        go_wp2
        go_ret2
        have fW := F0.out.trans F3.out (fun _ _ h => h)
        rw [HR.out]
        exact ⟨none, 0, [], rfl, rfl, Ls.nil _ _ _, HG.out.fr fW, fW.mono (fun _ _ h => h.elim)⟩
      | true =>
        have hc : ¬ c < 0 := fun h => by have := HCL.out.1 h; cases this
        simp at hR
        have HR := hid hR.symm
        clear hR
        go_enter Try.func41, Try.ntmps41
        obtain ⟨_, _, c2, c3⟩ := HC.out _ (Fr.refl _ _)
        go_wp2_with (first | (go_at_call 23; refine (KC.out _).mono ?_; rintro e w1 ⟨rfl, f1⟩; have F1 := hid f1; clear f1) | (go_at_call 24; refine (KS.out _).mono ?_; rintro e w2 ⟨rfl, rfl⟩))
        clear c2 c3
        go_region_held3 (fun W => W.cell? ⟨q, 0, none⟩ = some (.int .i64 a.pr.1) ∧ W.cell? ⟨q, 1, none⟩ = some (.int .i64 a.pr.2) ∧ W.cell? ⟨w.heap.size, 0, none⟩ = some (.int .i64 b1) ∧ W.cell? ⟨w.heap.size, 1, none⟩ = some (.int .i64 b2)) (first | exact S0.out _ F3.out | exact S0.out _ (Fr.drew F1.out))
          (first | (go_at_call 22; refine (KP.out _).mono ?_; rintro e w3 ⟨rfl, f3⟩; have F3 := hid ((Fr.drew F1.out).trans f3 (fun _ _ h => h)); clear f3))
        obtain ⟨p0, p1, d0, d1⟩ := S0.out _ F3.out
        have fw3 := F0.out.trans F3.out (fun _ _ h => h)
        have hf3 := HF.out.kept fw3 (fun h => h) (fun _ _ h => h)
        have z0 := frozen_of_row (j := 0) hf3.at_
        have z1 := frozen_of_row (j := 1) hf3.at_
        have hne : w.heap.size ≠ q := by have := HQ.out; omega
        have pr0 := setCell_row (j := 1) (setCell_row (j := 0) hf3.at_ (.int .i64 b1)) (.int .i64 b2)
        have hf4 := hf3.turn (b1, b2) a.fs Fr.setCell2 (by exact pr0)
        have FW := hid ((fw3.mono (fun _ _ h => h.elim)).trans (Fr.setCell2 (w := w3) (p := q) (i := 0) (j := 1) (u := .int .i64 b1) (v := .int .i64 b2)) (fun _ _ h => h))
        have HF4 := hid hf4
        clear fw3 hf3 pr0 hf4
        generalize a.pr.1 = y1 at *
        generalize a.pr.2 = y2 at *
        go_wp2_with fail
        generalize hw4 : (w3.setCell ⟨q, 0, none⟩ (.int .i64 b1)).setCell ⟨q, 1, none⟩ (.int .i64 b2) = w4 at HF4 FW ⊢
        clear hw4 p0 p1 d0 d1 z0 z1
        refine (rall_any HF4.out (by omega) k).mono ?_
        rintro e w5 ⟨oa, oc, ys, hys, rfl, hls, hcap, f5⟩
        have hs4 := FW.out.size
        have hs5 := f5.size
        have fin : List.map Prod.snd ys = (A.from_ k a.l).map (·.2) ∧ Ls (Nw I w w5) w5 oa ys ∧ Rg I w5 q ⟨(b1, b2), a.fs, a.l⟩ ∧ Fr (fun k => k = q) w w5 := by
          refine ⟨by rw [hys]; exact HF4.out.from_sd k, hls.mono (fun i hi => hi.elim .inl (fun h => .inr ⟨by omega, h.2⟩)), ⟨fun i hi => ?_, ?_, ra, rc, xs, HF4.out.kept f5 (fun h => h) (fun _ _ h => h)⟩, FW.out.trans f5 (fun _ _ h => h.elim)⟩
          · have := HI.out i hi; omega
          · have := HQ.out; omega
        have FIN := hid fin
        obtain ⟨m, hm⟩ : ∃ m, ys.length = m := ⟨_, rfl⟩
        rw [hm]
        have HM := hid hm
        clear hys hls hcap f5 hs4 hs5 fin hm
        go_wp2
        go_ret2
        rw [HR.out]
        exact ⟨oa, oc, ys, by rw [HM.out]; rfl, FIN.out⟩
set_option maxHeartbeats 3200000 in
set_option maxRecDepth 20000 in
theorem raccept_any {I J : Nat → Prop} {w : World} {q : Nat} {a : A.Ac} (h : Rg I w q a) (b1 b2 k : Int) {ec : List Value} {en : A.En} (hs : Re J w ec en) (hl : a.l.length ≤ 300000000000) (hJ : ¬ J q) :
    Calls Try.prog 29 #[ptrV q, .agg #[.int .i64 b1, .int .i64 b2], .int .i64 k, .agg ec.toArray] w fun r w' => r = .returned (.int .i64 (A.accept a (b1, b2) k en).1) ∧ Rg (Nw I w w') w' q (A.accept a (b1, b2) k en).2 ∧ Fr (fun k => k = q) w w' := by
  have HG := hid h
  obtain ⟨hI, hq, ra, rc, xs, hf⟩ := h
  have HF := hid hf
  have hln := hf.len
  obtain ⟨eca, heca⟩ : ∃ x, ec.toArray = x := ⟨_, rfl⟩
  have hsz : eca.size = 56 := by rw [← heca]; simp [hs.len]
  rw [heca]
  obtain ⟨W, hW⟩ : ∃ W, (w.alloc (.cells #[.int .i64 b1, .int .i64 b2] 27)).alloc (.cells eca 46) = W := ⟨_, rfl⟩
  have f0 : Fr (fun _ => False) w W := by rw [← hW]; exact Fr.alloc (Fr.alloc (Fr.refl _ _) _) _
  have bb : W.heap[w.heap.size]? = some (.cells #[.int .i64 b1, .int .i64 b2] 27 (0, 0)) := by rw [← hW]; exact (Below.heap_alloc _ _ _ (by simp)).trans (Go.heap_alloc_new w _)
  have be : W.heap[w.heap.size + 1]? = some (.cells eca 46 (0, 0)) := by
    have h1 := Go.heap_alloc_new (w.alloc (.cells #[.int .i64 b1, .int .i64 b2] 27)) (.cells eca 46)
    rw [World.size_alloc] at h1
    rw [← hW]; exact h1
  have KC := hid (fun (W : World) => rcheck_any b1 b2 W)
  have KS := hid (fun (W : World) => rslot_any k W)
  have KP := hid (fun (W : World) => rcompare_any b1 b2 a.pr.1 a.pr.2 W)
  obtain ⟨R, hR⟩ : ∃ x, A.accept a (b1, b2) k en = x := ⟨_, rfl⟩
  rw [hR]
  unfold A.accept A.judge at hR
  have hcl := A.cmp_lt (a := a.pr) (b := (b1, b2))
  change A.cmp (b1, b2) (a.pr.1, a.pr.2) < 0 ↔ _ at hcl
  generalize A.cmp (b1, b2) (a.pr.1, a.pr.2) = c at KP hcl
  generalize A.okB (b1, b2) = x1 at KC hR
  generalize A.okS k = x2 at KS hR
  generalize A.le a.pr (b1, b2) = x3 at hcl hR
  have HQ := hid hq
  have HI := hid hI
  have HC := hid (fun (V : World) (hfr : Fr (fun _ => False) W V) => show V.cell? ⟨q, 0, none⟩ = some (.int .i64 a.pr.1) ∧ V.cell? ⟨q, 1, none⟩ = some (.int .i64 a.pr.2) ∧ V.cell? ⟨w.heap.size, 0, none⟩ = some (.int .i64 b1) ∧ V.cell? ⟨w.heap.size, 1, none⟩ = some (.int .i64 b2) from
    ⟨cellA ((f0.trans hfr (fun _ _ h => h)).cells hf.at_ (fun h => h)) rfl, cellA ((f0.trans hfr (fun _ _ h => h)).cells hf.at_ (fun h => h)) rfl, cellA (hfr.cells bb (fun h => h)) rfl, cellA (hfr.cells bb (fun h => h)) rfl⟩)
  have F0 := hid f0
  have HCL := hid hcl
  have HW := hid hW
  have BE := hid be
  have HS := hid hs
  have HEC := hid heca
  clear hI hq hf f0 bb be hcl hW hs heca
  cases x1 with
  | false =>
    simp at hR
    have HR := hid hR.symm
    clear hR
    go_enter Try.func29, Try.ntmps29
    go_upto_region 1 with fail
    rw [HW.out]
    obtain ⟨_, _, c2, c3⟩ := HC.out _ (Fr.refl _ _)
    go_wp2_with (first | (go_at_call 23; refine (KC.out _).mono ?_; rintro e w1 ⟨rfl, f1⟩; have F1 := hid f1; clear f1))
    go_ret
    have fW := F0.out.trans F1.out (fun _ _ h => h)
    rw [HR.out]
    exact ⟨rfl, HG.out.nw (HG.out.fr fW) fW.size, fW.mono (fun _ _ h => h.elim)⟩
  | true =>
    cases x2 with
    | false =>
      simp at hR
      have HR := hid hR.symm
      clear hR
      go_enter Try.func29, Try.ntmps29
      go_upto_region 1 with fail
      rw [HW.out]
      obtain ⟨_, _, c2, c3⟩ := HC.out _ (Fr.refl _ _)
      go_wp2_with (first | (go_at_call 23; refine (KC.out _).mono ?_; rintro e w1 ⟨rfl, f1⟩; have F1 := hid f1; clear f1) | (go_at_call 24; refine (KS.out _).mono ?_; rintro e w2 ⟨rfl, rfl⟩))
      go_ret
      have fW := F0.out.trans F1.out (fun _ _ h => h)
      rw [HR.out]
      exact ⟨rfl, HG.out.nw (HG.out.fr fW) fW.size, fW.mono (fun _ _ h => h.elim)⟩
    | true =>
      cases x3 with
      | false =>
        have hc : c < 0 := HCL.out.2 rfl
        simp at hR
        have HR := hid hR.symm
        clear hR
        go_enter Try.func29, Try.ntmps29
        go_upto_region 1 with fail
        rw [HW.out]
        obtain ⟨_, _, c2, c3⟩ := HC.out _ (Fr.refl _ _)
        go_wp2_with (first | (go_at_call 23; refine (KC.out _).mono ?_; rintro e w1 ⟨rfl, f1⟩; have F1 := hid f1; clear f1) | (go_at_call 24; refine (KS.out _).mono ?_; rintro e w2 ⟨rfl, rfl⟩))
        clear c2 c3
        go_region_held3 (fun W => W.cell? ⟨q, 0, none⟩ = some (.int .i64 a.pr.1) ∧ W.cell? ⟨q, 1, none⟩ = some (.int .i64 a.pr.2) ∧ W.cell? ⟨w.heap.size, 0, none⟩ = some (.int .i64 b1) ∧ W.cell? ⟨w.heap.size, 1, none⟩ = some (.int .i64 b2)) (first | exact HC.out _ F3.out | exact HC.out _ (Fr.drew F1.out))
          (first | (go_at_call 22; refine (KP.out _).mono ?_; rintro e w3 ⟨rfl, f3⟩; have F3 := hid ((Fr.drew F1.out).trans f3 (fun _ _ h => h)); clear f3))
        go_wp2
        go_ret
        have fW := F0.out.trans F3.out (fun _ _ h => h)
        rw [HR.out]
        exact ⟨rfl, HG.out.nw (HG.out.fr fW) fW.size, fW.mono (fun _ _ h => h.elim)⟩
      | true =>
        have hc : ¬ c < 0 := fun h => by have := HCL.out.1 h; cases this
        by_cases hfs : k < a.fs
        · simp [hfs] at hR
          have HR := hid hR.symm
          clear hR
          go_enter Try.func29, Try.ntmps29
          go_upto_region 1 with fail
          rw [HW.out]
          obtain ⟨_, _, c2, c3⟩ := HC.out _ (Fr.refl _ _)
          go_wp2_with (first | (go_at_call 23; refine (KC.out _).mono ?_; rintro e w1 ⟨rfl, f1⟩; have F1 := hid f1; clear f1) | (go_at_call 24; refine (KS.out _).mono ?_; rintro e w2 ⟨rfl, rfl⟩))
          clear c2 c3
          go_region_held3 (fun W => W.cell? ⟨q, 0, none⟩ = some (.int .i64 a.pr.1) ∧ W.cell? ⟨q, 1, none⟩ = some (.int .i64 a.pr.2) ∧ W.cell? ⟨w.heap.size, 0, none⟩ = some (.int .i64 b1) ∧ W.cell? ⟨w.heap.size, 1, none⟩ = some (.int .i64 b2)) (first | exact HC.out _ F3.out | exact HC.out _ (Fr.drew F1.out))
            (first | (go_at_call 22; refine (KP.out _).mono ?_; rintro e w3 ⟨rfl, f3⟩; have F3 := hid ((Fr.drew F1.out).trans f3 (fun _ _ h => h)); clear f3))
          have pf : w3.cell? ⟨q, 2, none⟩ = some (.int .i64 a.fs) := cellA ((F0.out.trans F3.out (fun _ _ h => h)).cells HF.out.at_ (fun h => h)) rfl
          go_wp2
          go_ret
          have fW := F0.out.trans F3.out (fun _ _ h => h)
          rw [HR.out]
          exact ⟨rfl, HG.out.nw (HG.out.fr fW) fW.size, fW.mono (fun _ _ h => h.elim)⟩
        · simp [hfs] at hR
          have HR := hid hR.symm
          clear hR
          go_enter Try.func29, Try.ntmps29
          go_upto_region 1 with fail
          rw [HW.out]
          obtain ⟨_, _, c2, c3⟩ := HC.out _ (Fr.refl _ _)
          go_wp2_with (first | (go_at_call 23; refine (KC.out _).mono ?_; rintro e w1 ⟨rfl, f1⟩; have F1 := hid f1; clear f1) | (go_at_call 24; refine (KS.out _).mono ?_; rintro e w2 ⟨rfl, rfl⟩))
          clear c2 c3
          go_region_held3 (fun W => W.cell? ⟨q, 0, none⟩ = some (.int .i64 a.pr.1) ∧ W.cell? ⟨q, 1, none⟩ = some (.int .i64 a.pr.2) ∧ W.cell? ⟨w.heap.size, 0, none⟩ = some (.int .i64 b1) ∧ W.cell? ⟨w.heap.size, 1, none⟩ = some (.int .i64 b2)) (first | exact HC.out _ F3.out | exact HC.out _ (Fr.drew F1.out))
            (first | (go_at_call 22; refine (KP.out _).mono ?_; rintro e w3 ⟨rfl, f3⟩; have F3 := hid ((Fr.drew F1.out).trans f3 (fun _ _ h => h)); clear f3))
          obtain ⟨p0, p1, d0, d1⟩ := HC.out _ F3.out
          have fw3 := F0.out.trans F3.out (fun _ _ h => h)
          have hf3 := HF.out.kept fw3 (fun h => h) (fun _ _ h => h)
          have pf : w3.cell? ⟨q, 2, none⟩ = some (.int .i64 a.fs) := cellA hf3.at_ rfl
          have z0 := frozen_of_row (j := 0) hf3.at_
          have z1 := frozen_of_row (j := 1) hf3.at_
          have hne : w.heap.size ≠ q := by have := HQ.out; omega
          have hne1 : w.heap.size + 1 ≠ q := by have := HQ.out; omega
          have pr0 := setCell_row (j := 1) (setCell_row (j := 0) hf3.at_ (.int .i64 b1)) (.int .i64 b2)
          have hf4 := hf3.turn (b1, b2) a.fs Fr.setCell2 (by exact pr0)
          have e2 := (Fr.setCell2 (w := w3) (p := q) (i := 0) (j := 1) (u := .int .i64 b1) (v := .int .i64 b2)).cells (F3.out.cells BE.out (fun h => h)) hne1
          have LD := hid (load_whole (ty := 46) e2 Try.underlying46 rfl (by rw [hsz]; kernel_rfl))
          have FW := hid ((fw3.mono (fun _ _ h => h.elim)).trans (Fr.setCell2 (w := w3) (p := q) (i := 0) (j := 1) (u := .int .i64 b1) (v := .int .i64 b2)) (fun _ _ h => h))
          have HF4 := hid hf4
          clear fw3 hf3 pr0 hf4 e2
          generalize a.pr.1 = y1 at *
          generalize a.pr.2 = y2 at *
          go_wp2_with (first
            | (refine wpList_load_v LD.out (by exact ⟨_, rfl, rfl⟩) (by kernel_rfl) ?_))
          rw [fold_set 3 56 eca _ hsz (by rfl)]
          have rs : Rs J ((w3.setCell ⟨q, 0, none⟩ (.int .i64 b1)).setCell ⟨q, 1, none⟩ (.int .i64 b2)) (.int .i64 k :: .int .i64 b1 :: .int .i64 b2 :: ec).toArray ⟨k, (b1, b2), en⟩ := ⟨ec, rfl, HS.out.kept FW.out (fun i hi e => hJ (e ▸ hi))⟩
          generalize hcs : (List.take 3 (Array.toList _) ++ eca.toList).toArray = cs
          have hcs' : cs = (.int .i64 k :: .int .i64 b1 :: .int .i64 b2 :: ec).toArray := by rw [← hcs, ← HEC.out]; rfl
          clear hcs
          rw [← hcs'] at rs
          clear hcs'
          generalize (w3.setCell ⟨q, 0, none⟩ (.int .i64 b1)).setCell ⟨q, 1, none⟩ (.int .i64 b2) = w4 at *
          have hs4 := FW.out.size
          refine (rput_any HF4.out (fun i hi => by have := HI.out i hi; omega) (by have := HQ.out; omega) (by omega) rs).mono ?_
          rintro r w5 ⟨rfl, rg5, f5⟩
          have f6 : Fr (fun k => k = q) w w5 := FW.out.trans f5 (fun _ _ h => h)
          have rg6 : Rg (Nw I w w5) w5 q (A.keep ⟨(b1, b2), a.fs, a.l⟩ ⟨k, (b1, b2), en⟩) := rg5.more (fun i hi => hi.elim .inl (fun h => .inr ⟨by omega, h.2⟩)) (fun i hi => hi.elim (fun h => by have := HI.out i h; have := f6.size; omega) (fun h => h.2)) (fun hi => hi.elim (fun h => HF.out.nq h) (fun h => by have := HQ.out; omega))
          have FIN := hid (And.intro rg6 f6)
          clear rg5 f5 f6 rg6 rs hs4
          go_wp2
          go_ret
          rw [HR.out]
          exact ⟨rfl, FIN.out⟩
/-- Forget -/
def A.forget (a : A.Ac) (k : Int) : Int × A.Ac := if A.okS k = true then (0, ⟨a.pr, max a.fs k, A.from_ k a.l⟩) else (1, a)
set_option maxHeartbeats 3200000 in
set_option maxRecDepth 20000 in
theorem rforget_any {I : Nat → Prop} {w : World} {q : Nat} {a : A.Ac} (h : Rg I w q a) (k : Int) (hl : a.l.length ≤ 300000000000) :
    Calls Try.prog 43 #[ptrV q, .int .i64 k] w fun r w' => r = .returned (.int .i64 (A.forget a k).1) ∧ Rg (Nw I w w') w' q (A.forget a k).2 ∧ Fr (fun k => k = q) w w' := by
  have HG := hid h
  obtain ⟨hI, hq, ra, rc, xs, hf⟩ := h
  have HF := hid hf
  have hln := hf.len
  have KS := hid (fun (W : World) => rslot_any k W)
  obtain ⟨R, hR⟩ : ∃ x, A.forget a k = x := ⟨_, rfl⟩
  rw [hR]
  unfold A.forget at hR
  generalize A.okS k = x2 at KS hR
  have HQ := hid hq
  have HI := hid hI
  clear hI hq hf
  cases x2 with
  | false =>
    simp at hR
    have HR := hid hR.symm
    clear hR
    go_enter Try.func43, Try.ntmps43
    go_wp2_with (first | (go_at_call 24; refine (KS.out _).mono ?_; rintro e w2 ⟨rfl, rfl⟩))
    go_ret
    rw [HR.out]
    exact ⟨rfl, HG.out.nw HG.out (Nat.le_refl _), Fr.refl _ _⟩
  | true =>
    simp at hR
    have HR := hid hR.symm
    clear hR
    have KA := hid (rall_any HF.out (by omega) k)
    go_enter Try.func43, Try.ntmps43
    go_wp2_with (first | (go_at_call 24; refine (KS.out _).mono ?_; rintro e w2 ⟨rfl, rfl⟩))
    refine KA.out.mono ?_
    rintro e w1 ⟨oa, oc, ys, hys, rfl, hls, hcap, f1⟩
    have hf1 := HF.out.kept f1 (fun h => h) (fun _ _ h => h)
    have c3 : w1.cell? ⟨q, 3, none⟩ = some (.slice ra xs.length rc) := cellA hf1.at_ rfl
    have c2 : w1.cell? ⟨q, 2, none⟩ = some (.int .i64 a.fs) := cellA hf1.at_ rfl
    have z3 := frozen_of_row (j := 3) hf1.at_
    have z2 := frozen_of_row (j := 2) hf1.at_
    have b2 := setCell_row (j := 2) (setCell_row (j := 3) hf1.at_ (.slice oa ys.length oc)) (.int .i64 (max a.fs k))
    have fs : Fr (fun k => k = q) w1 ((w1.setCell ⟨q, 3, none⟩ (.slice oa ys.length oc)).setCell ⟨q, 2, none⟩ (.int .i64 (max a.fs k))) := Fr.setCell2
    have hs1 := f1.size
    have hss := fs.size
    have f2 : Fr (fun k => k = q) w ((w1.setCell ⟨q, 3, none⟩ (.slice oa ys.length oc)).setCell ⟨q, 2, none⟩ (.int .i64 (max a.fs k))) := (f1.mono (fun _ _ h => h.elim)).trans fs (fun _ _ h => h)
    have hq := HQ.out
    have fin : Rg (Nw I w ((w1.setCell ⟨q, 3, none⟩ (.slice oa ys.length oc)).setCell ⟨q, 2, none⟩ (.int .i64 (max a.fs k)))) ((w1.setCell ⟨q, 3, none⟩ (.slice oa ys.length oc)).setCell ⟨q, 2, none⟩ (.int .i64 (max a.fs k))) q ⟨a.pr, max a.fs k, A.from_ k a.l⟩ := by
      refine ⟨fun i hi => ?_, by omega, oa, oc, ys, ⟨b2, (hls.kept fs (fun i hi e => ?_)).mono (fun i hi => ?_), hcap, by rw [hys]; exact HF.out.from_ls k, HF.out.up.from_ k, ?_⟩⟩
      · rcases hi with hi | hi
        · have := HI.out i hi; omega
        · exact hi.2
      · subst e
        rcases hi with hi | hi
        · exact HF.out.nq hi
        · omega
      · rcases hi with hi | hi
        · exact .inl hi
        · exact .inr ⟨hi.1, by omega⟩
      · rintro (hi | hi)
        · exact HF.out.nq hi
        · omega
    have FIN := hid (And.intro fin f2)
    obtain ⟨m, hm⟩ : ∃ m, ys.length = m := ⟨_, rfl⟩
    obtain ⟨m2, hm2⟩ : ∃ m, xs.length = m := ⟨_, rfl⟩
    obtain ⟨m3, hm3⟩ : ∃ m, a.fs = m := ⟨_, rfl⟩
    rw [hm, hm3] at FIN
    rw [hm]
    rw [hm2] at c3
    rw [hm3] at c2 HR
    clear hys hls hcap f1 hf1 b2 fs hs1 hss f2 hq fin hm hm2 hm3
    go_wp2
    go_ret
    rw [HR.out]
    exact ⟨rfl, FIN.out⟩
end Go.Proofs.Ytedhmhlhjonloaa
