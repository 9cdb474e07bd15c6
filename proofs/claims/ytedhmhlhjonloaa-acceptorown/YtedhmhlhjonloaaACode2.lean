/-
  An acceptor: At, Forget, Clone.
-/
import Derived.Test.YtedhmhlhjonloaaARef4
namespace Go.Proofs.Ytedhmhlhjonloaa
open Go.RowKit Go.Maps
set_option linter.unusedVariables false
set_option linter.unusedSimpArgs false

/-- what stands at a slot -/
theorem OMi.look {w : World} {mb : Nat} {l : List (Int × Nat)} (h : OMi w mb l) {f : Int} (h0 : -9223372036854775808 ≤ f) (h1 : f ≤ 9223372036854775807) :
    (Instr.lookup 88 (.map (some mb)) (.int .i64 f) true).run Try.prog w = .ok (.tuple #[.pointer ((A.get f l).map fun g => ⟨g, 0, none⟩), .bool (A.get f l).isSome]) w := by
  obtain ⟨v, ps, hrun, hR⟩ := h.look_ok keyedI Try.underlying88 (zeroSl w) (zd := .nil) (zp := []) rfl (Maps.keyOf_int_mk Try.underlying2 (wfI h0 h1))
  rw [A.toD_has] at hrun
  rw [A.toD_at] at hR
  have hv : v = .pointer ((A.get f l).map fun g => ⟨g, 0, none⟩) := by
    cases hg : A.get f l with
    | none =>
      rw [hg] at hR
      rcases slElem_inv hR with ⟨g, rfl, e⟩ | ⟨rfl, e⟩
      · simp at e
      · rfl
    | some v' =>
      rw [hg] at hR
      rcases slElem_inv hR with ⟨g, rfl, e⟩ | ⟨rfl, e⟩
      · simp at e; rw [e.1]; rfl
      · simp at e
  rw [hrun, hv]
set_option maxHeartbeats 3200000 in
set_option maxRecDepth 20000 in
theorem acAt_any {I : Nat → Prop} {w : World} {p mb : Nat} {a : A.Ac} (h : At_ I w p mb a) (f : Int) (h0 : -9223372036854775808 ≤ f) (h1 : f ≤ 9223372036854775807) :
    Calls Try.prog 31 #[ptrV p, .int .i64 f] w fun e w' => ∃ cs, e = .returned (.tuple #[.agg cs, .bool (A.get f a.l).isSome]) ∧ Rs (fun g => w.heap.size ≤ g ∧ g < w'.heap.size) w' cs ((A.get f a.l).getD A.zsd) ∧ Fr (fun _ => False) w w' := by
  obtain ⟨W, hW⟩ : ∃ W, w.alloc (.cells zS59 79) = W := ⟨_, rfl⟩
  have f0 : Fr (fun _ => False) w W := by rw [← hW]; exact Fr.alloc (Fr.refl _ _) _
  have b0 : W.heap[w.heap.size]? = some (.cells zS59 79 (0, 0)) := by rw [← hW]; exact Go.heap_alloc_new w _
  have hsz : W.heap.size = w.heap.size + 1 := by rw [← hW]; simp
  obtain ⟨hI, hp, hm, l, ham⟩ := h.fr f0
  have KM := hid (acMade_any (cellA (j := 3) ham.at_ rfl))
  have c3 : W.cell? ⟨p, 3, none⟩ = some (.map (some mb)) := cellA ham.at_ rfl
  have hlk := ham.mp.look h0 h1
  have hgs : A.get f (A.mp SM.g l) = (A.get f l).map SM.g := A.get_mp SM.g f l
  have hga : A.get f a.l = (A.get f l).map SM.s := by rw [← ham.ls, A.get_mp]
  rw [hgs] at hlk
  rw [hga]
  have HW := hid hW
  have F0 := hid f0
  have B0 := hid b0
  have HSZ := hid hsz
  unfold zS59 at HW
  cases hg : A.get f l with
  | none =>
    rw [hg] at hlk
    simp only [Option.map_none, Option.isSome_none, Option.getD_none] at hlk ⊢
    obtain ⟨V, st, lr, fV⟩ := box_back (c := zS59) b0 (Nat.le_refl _) (by kernel_rfl) (A.zsd_rs (fun _ => False) w).one Try.underlying79 rfl
    have fin : Rs (fun g => w.heap.size ≤ g ∧ g < V.heap.size) V zS59 A.zsd ∧ Fr (fun _ => False) w V := ⟨A.zsd_rs _ V, f0.trans fV (fun i hi e => by omega)⟩
    obtain ⟨va, hva⟩ : ∃ va, Value.agg zS59 = va := ⟨_, rfl⟩
    rw [hva] at st lr
    have HVA := hid hva
    have ST := hid st
    have LR := hid lr
    have FIN := hid fin
    clear hW f0 b0 hI hp hm ham hgs hga hg st lr fV fin hva hsz
    go_enter Try.func31, Try.ntmps31
    go_wp2_with fail
    rw [HW.out]
    refine KM.out.mono ?_
    rintro e w2 ⟨rfl, rfl⟩
    go_wp2_with (first
      | (refine wpList_store_v ST.out (by exact ⟨_, _, rfl, rfl, HVA.out⟩) (by kernel_rfl) ?_))
    exact bodyPost_ret (v := .tuple #[va, .bool false]) (results_cell2 Try.results31 _ _ _ _ _ _ (by rfl) LR.out (by rfl)) rfl ⟨zS59, by rw [HVA.out], FIN.out⟩
  | some m =>
    rw [hg] at hlk
    simp only [Option.map_some, Option.isSome_some, Option.getD_some] at hlk ⊢
    obtain ⟨e1, e2, cs, e3, e4⟩ := ham.sl _ (A.get_mem hg)
    simp only at e3 e4
    have LD := hid (load_whole (ty := 79) e3 Try.underlying79 rfl (by rw [e4.size]; kernel_rfl))
    have KC := hid (cloned_any e4)
    clear hW f0 b0 hI hp hm ham hgs hga hg e1 e2 e3 e4 hsz
    go_enter Try.func31, Try.ntmps31
    go_wp2_with fail
    rw [HW.out]
    refine KM.out.mono ?_
    rintro e w2 ⟨rfl, rfl⟩
    go_wp2_with (first
      | (refine wpList_load_v LD.out (by exact ⟨_, rfl, rfl⟩) (by kernel_rfl) ?_))
    refine KC.out.mono ?_
    rintro e w3 ⟨c3', rfl, r3, f3⟩
    have hz := r3.size
    obtain ⟨V, st, lr, fV⟩ := box_back (c := c3') (f3.cells B0.out (fun h => h)) (by rw [hz]; exact Nat.le_refl _) (by rw [hz]; kernel_rfl) r3.one Try.underlying79 rfl
    have fin : Rs (fun g => w.heap.size ≤ g ∧ g < V.heap.size) V c3' m.s ∧ Fr (fun _ => False) w V := by
      have h3 := fV.size
      have h4 := HSZ.out
      refine ⟨(r3.kept fV (fun i hi e => by omega)).mono (fun i hi => by omega), (F0.out.trans f3 (fun _ _ h => h)).trans fV (fun i hi e => by omega)⟩
    have ST := hid st
    have LR := hid lr
    have FIN := hid fin
    clear r3 f3 st lr fV fin
    go_wp2_with (first
      | (refine wpList_store_v ST.out (by exact ⟨_, _, rfl, rfl, rfl⟩) (by kernel_rfl) ?_))
    exact bodyPost_ret (v := .tuple #[.agg c3', .bool true]) (results_cell2 Try.results31 _ _ _ _ _ _ (by rfl) LR.out (by rfl)) rfl ⟨c3', rfl, FIN.out⟩
/-! ### Forget -/
/-- what is left of the map while it is gone through -/
def A.gone {α : Type} (k : Int) (L : Int → Bool) (l : List (Int × α)) : List (Int × α) := l.filter (fun p => L p.1 || decide (k ≤ p.1))
theorem A.gone_start {α : Type} {k : Int} {L : Int → Bool} {l : List (Int × α)} (h : ∀ p ∈ l, L p.1 = true) : A.gone k L l = l := by
  unfold A.gone
  rw [List.filter_eq_self]
  intro p hp
  simp [h p hp]
theorem A.gone_end {α : Type} {k : Int} {L : Int → Bool} {l : List (Int × α)} (h : ∀ z, L z = false) : A.gone k L l = A.from_ k l := by
  unfold A.gone A.from_
  exact List.filter_congr (fun p hp => by simp [h])
theorem A.gone_keep {α : Type} {k : Int} {L : Int → Bool} {l : List (Int × α)} {x : Int} (h : k ≤ x) : A.gone k (fun z => L z && !(z == x)) l = A.gone k L l := by
  unfold A.gone
  refine List.filter_congr (fun p hp => ?_)
  by_cases e : p.1 = x
  · simp [e, h]
  · have : (p.1 == x) = false := by simpa using e
    simp [this]
theorem A.gone_del {α : Type} {k : Int} {L : Int → Bool} {l : List (Int × α)} {x : Int} (h : ¬ k ≤ x) : A.gone k (fun z => L z && !(z == x)) l = A.del x (A.gone k L l) := by
  unfold A.gone A.del
  rw [List.filter_filter]
  refine List.filter_congr (fun p hp => ?_)
  by_cases e : p.1 = x
  · simp [e, h]
  · have : (p.1 == x) = false := by simpa using e
    simp [this]
theorem A.Up.gone {α : Type} {k : Int} {L : Int → Bool} {l : List (Int × α)} (h : A.Up l) : A.Up (A.gone k L l) := List.Pairwise.filter _ h
theorem A.mp_gone {α β : Type} (f : α → β) (k : Int) (L : Int → Bool) (l : List (Int × α)) : A.mp f (A.gone k L l) = A.gone k L (A.mp f l) := by
  unfold A.gone A.mp
  rw [List.filter_map]
  rfl
theorem il_strike (left : Lit → Bool) (x : Int) : il (fun z => left z && !z.sameKey (.int .i64 x)) = fun z => il left z && !(z == x) := by
  funext z
  show (left (.int .i64 z) && !(Lit.int .i64 z).sameKey (.int .i64 x)) = (left (.int .i64 z) && !(z == x))
  rw [A.same_int]
set_option maxHeartbeats 800000 in
theorem forget1 {W : World} {b : Nat} {k x : Int} {v : Value} (c : W.cell? ⟨b, 0, none⟩ = some (.int .i64 k)) : Calls Try.prog 40 #[.int .i64 x, v, ptrV b] W fun e w' => e = .returned (.bool (decide (x < k))) ∧ W = w' := by
  go_enter Try.func40, Try.ntmps40
  go_wp2
  go_ret
  exact ⟨rfl, rfl⟩
set_option maxHeartbeats 3200000 in
set_option maxRecDepth 20000 in
theorem deleteFunc_any {w : World} {mb : Nat} {m : List (Int × Nat)} (h : OMi w mb m) (hu : A.Up m) (hmb : mb < w.heap.size) {b : Nat} {k : Int} (cb : w.cell? ⟨b, 0, none⟩ = some (.int .i64 k)) (hsm : ∀ q ∈ m, -9223372036854775808 ≤ q.1 ∧ q.1 ≤ 9223372036854775807) :
    Calls Try.prog 39 #[.map (some mb), .func (.func 40) #[] #[ptrV b]] w fun e w' => e = .returned (.tuple #[]) ∧ OMi w' mb (A.from_ k m) ∧ Fr (fun i => i = mb) w w' := by
  have hbm : b ≠ mb := fun e => by
    obtain ⟨es, clock, hb, _⟩ := h
    subst e
    unfold World.cell? at cb
    simp [hb] at cb
  have hbl : b < w.heap.size := World.block_lt_of_cell? w _ cb
  have HM := hid h
  have HU := hid hu
  have HSM := hid hsm
  have HCB := hid cb
  have HB := hid (And.intro hbm (And.intro hbl hmb))
  clear h hu hsm cb hbm hbl hmb
  unfold ptrV
  go_enter Try.func39, Try.ntmps39
  go_wp2_with (first
    | (at_range; refine wpList_range_own _ rfl _ 88 rfl 2 93 keyedI Try.underlying88 slElem mb _ _ rfl HM.out ?_; intro w0 hrg0 hg0 hs0))
  go_frame
  go_loopw [] (fun wr => ∃ left cnt, wr.ranges Try.prog 2 slElem mb w.heap.size m.length (A.toD (A.gone k (il left) m)) left cnt ∧ Fr (fun i => i = mb) w wr ∧ w.heap.size < wr.heap.size)
    (fun wr => wr.rangeLeft mb w.heap.size)
  case atStart =>
    have f0 : Fr (fun i => i = mb) w w0 := ⟨hg0.os, hg0.tape, hg0.output, hg0.size, fun k hk _ => hg0.block k hk (by simp)⟩
    have hst : A.gone k (il (Maps.has (A.toD m))) m = m := A.gone_start (fun q hq => by
      show Maps.has (A.toD m) (.int .i64 q.1) = true
      rw [A.toD_has, A.get_of_mem HU.out (show (q.1, q.2) ∈ m from hq)]
      rfl)
    exact ⟨Maps.has (A.toD m), _, by rw [hst]; exact hrg0, f0, by omega⟩
  case round =>
    obtain ⟨left, cnt, hrg, hfr, hsz⟩ := hrel
    have HR := hid hrg
    have HF := hid hfr
    have HZ := hid hsz
    clear hrg hfr hsz
    go_wp2_with (first
      | (at_next; refine wpList_next_sl _ rfl _ rfl mb w.heap.size _ _ left cnt rfl HR.out ?_ ?_))
    · intro _ hl0
      have HL0 := hid hl0
      clear hl0
      go_wp2
      go_end0
      refine ⟨rfl, ?_, HF.out⟩
      have h1 := HR.out.owns
      rw [A.gone_end (L := il left) (fun z => HL0.out _)] at h1
      exact OMi.tight h1
    · intro x g w1 cnt1 hlx hgx hrg1 hlt1 hg1 hs1 hen
      have f1 : Fr (fun j => j = w.heap.size) wr w1 := (Fr.of_grown hg1).mono (fun i _ e => by simp at e; exact e.symm)
      have fw1 : Fr (fun i => i = mb) w w1 := HF.out.trans f1 (fun i hi e => by omega)
      have hcb : w1.cell? ⟨b, 0, none⟩ = some (.int .i64 k) := cellFr fw1 HB.out.1 HCB.out
      have KF := hid (fun v => forget1 (x := x) (v := v) hcb)
      have hxm : ∃ g, (x, g) ∈ m := by
        have h1 := A.get_mem hgx
        exact ⟨g, (List.mem_filter.1 h1).1⟩
      have hxs : -9223372036854775808 ≤ x ∧ x ≤ 9223372036854775807 := by obtain ⟨g, hg⟩ := hxm; exact HSM.out _ hg
      have F1 := hid fw1
      have HLT := hid (And.intro hlt1 hs1)
      unfold ptrV at hen KF
      have HRL := hid (show wr.rangeLeft mb w.heap.size = cnt from HR.out.left_eq)
      by_cases hk : k ≤ x
      · have hdx : ¬ x < k := by omega
        have fin : w1.ranges Try.prog 2 slElem mb w.heap.size m.length (A.toD (A.gone k (il (fun z => left z && !z.sameKey (.int .i64 x))) m)) (fun z => left z && !z.sameKey (.int .i64 x)) cnt1 := by
          rw [il_strike, A.gone_keep hk]; exact hrg1
        have FIN := hid fin
        clear hlx hgx hrg1 hg1 f1 fw1 hcb hxm fin hlt1 hs1
        go_wp2_with (first
          | (go_at_call 40; refine (KF.out _).mono ?_; rintro e w2 ⟨rfl, rfl⟩))
        go_roundw
        case rel => exact ⟨_, cnt1, FIN.out, F1.out, by rw [HLT.out.2]; exact HZ.out⟩
        case measure => rw [FIN.out.left_eq, HRL.out]; exact HLT.out.1
      · have hdx : x < k := by omega
        have HRG1 := hid hrg1
        have hkey := Maps.keyOf_int_mk Try.underlying2 (wfI hxs.1 hxs.2)
        have HKEY := hid hkey
        clear hlx hgx hrg1 hg1 f1 fw1 hcb hxm hlt1 hs1 hkey
        go_wp2_with (first
          | (go_at_call 40; refine (KF.out _).mono ?_; rintro e w2 ⟨rfl, rfl⟩)
          | (at_delete; refine wpList_delete_ranges _ rfl _ _ 88 2 rfl 93 keyedI Try.underlying88 slElem mb w.heap.size _ _ _ _ rfl HRG1.out _ _ rfl HKEY.out ?_; intro w3 cnt3 hrg3 hle3 htn3; have HR3 := hid hrg3; have HT3 := hid htn3; have HL3 := hid hle3; clear hrg3 htn3 hle3))
        have fin : w3.ranges Try.prog 2 slElem mb w.heap.size m.length (A.toD (A.gone k (il (fun z => left z && !z.sameKey (.int .i64 x))) m)) (fun z => left z && !z.sameKey (.int .i64 x)) cnt3 := by
          have h1 := HR3.out
          rw [A.toD_del, Maps.strike_twice] at h1
          rw [il_strike, A.gone_del (by omega)]
          exact h1
        have f3 : Fr (fun i => i = mb) w1 w3 := (Fr.of_grown HT3.out.grown).mono (fun i _ e => by simp at e; exact e.symm)
        have h3s := f3.size
        have FIN := hid fin
        have F3 := hid (F1.out.trans f3 (fun _ _ h => h))
        have H3S := hid h3s
        clear fin f3 h3s
        go_roundw
        case rel => exact ⟨_, _, _, _, _, _, _, _, _, _, _, _, _, ⟨_, cnt3, FIN.out, F3.out, by have h1 := HLT.out.2; have h2 := HZ.out; have h3 := H3S.out; omega⟩, rfl⟩
        case measure => rw [FIN.out.left_eq, HRL.out]; have h1 := HLT.out.1; have h2 := HL3.out; omega
set_option maxHeartbeats 3200000 in
set_option maxRecDepth 20000 in
theorem acForget_any {I : Nat → Prop} {w : World} {p mb : Nat} {a : A.Ac} (h : At_ I w p mb a) (k : Int) :
    Calls Try.prog 13 #[ptrV p, .int .i64 k] w fun r w' => r = .returned (.int .i64 (A.forget a k).1) ∧ At_ I w' p mb (A.forget a k).2 ∧ Fr (fun i => i = p ∨ i = mb) w w' := by
  have f0 : Fr (fun _ => False) w (w.alloc (.cells #[.int .i64 k] 2)) := Fr.alloc (Fr.refl _ _) _
  have b0 : (w.alloc (.cells #[.int .i64 k] 2)).heap[w.heap.size]? = some (.cells #[.int .i64 k] 2 (0, 0)) := Go.heap_alloc_new w _
  have cb : (w.alloc (.cells #[.int .i64 k] 2)).cell? ⟨w.heap.size, 0, none⟩ = some (.int .i64 k) := cellA b0 rfl
  have HH := hid h
  obtain ⟨hI, hp, hm, l, ham⟩ := h.fr f0
  have KM := hid (acMade_any (cellA (j := 3) ham.at_ rfl))
  have c3 : (w.alloc (.cells #[.int .i64 k] 2)).cell? ⟨p, 3, none⟩ = some (.map (some mb)) := cellA ham.at_ rfl
  have KS := hid (fun (W : World) => isSlot_any k W)
  have KD := hid (deleteFunc_any ham.mp (ham.up.mp SM.g) hm cb (fun q hq => by obtain ⟨r, hr, rfl⟩ := A.mem_mp.1 hq; exact ham.sm r hr))
  obtain ⟨R, hR⟩ : ∃ x, A.forget a k = x := ⟨_, rfl⟩
  rw [hR]
  unfold A.forget at hR
  generalize A.okS k = x2 at KS hR
  have HAM := hid ham
  have F0 := hid f0
  have B0 := hid b0
  have HPM := hid (And.intro HH.out.2.1 HH.out.2.2.1)
  have HI := hid HH.out.1
  clear h hI hp hm ham f0 b0
  unfold ptrV at KD
  cases x2 with
  | false =>
    simp at hR
    have HR := hid hR.symm
    clear hR
    go_enter Try.func13, Try.ntmps13
    go_wp2_with (first
      | (go_at_call 34; refine KM.out.mono ?_; rintro e w2 ⟨rfl, rfl⟩)
      | (go_at_call 38; refine (KS.out _).mono ?_; rintro e w2 ⟨rfl, rfl⟩))
    go_ret
    rw [HR.out]
    exact ⟨rfl, HH.out.fr F0.out, F0.out.mono (fun _ _ h => h.elim)⟩
  | true =>
    simp at hR
    have HR := hid hR.symm
    clear hR
    go_enter Try.func13, Try.ntmps13
    go_wp2_with (first
      | (go_at_call 34; refine KM.out.mono ?_; rintro e w2 ⟨rfl, rfl⟩)
      | (go_at_call 38; refine (KS.out _).mono ?_; rintro e w2 ⟨rfl, rfl⟩)
      | (go_at_call 39; refine KD.out.mono ?_; rintro e w2 ⟨rfl, om2, f2⟩; have OM2 := hid om2; have F2 := hid f2; clear om2 f2))
    have ham := HAM.out
    have hat2 := F2.out.cells ham.at_ ham.ne
    have d2 : w2.cell? ⟨p, 2, none⟩ = some (.int .i64 a.fs) := cellA hat2 rfl
    have db : w2.cell? ⟨w.heap.size, 0, none⟩ = some (.int .i64 k) := cellA (F2.out.cells B0.out (fun e => by have := HPM.out.2; omega)) rfl
    have z2 := frozen_of_row (j := 2) hat2
    have b2 := setCell_row (j := 2) hat2 (.int .i64 (max a.fs k))
    have fs : Fr (fun i => i = p) w2 (w2.setCell ⟨p, 2, none⟩ (.int .i64 (max a.fs k))) := Fr.setCell (p := ⟨p, 2, none⟩) (S := fun i => i = p) (Fr.refl _ _) (fun _ => rfl) _
    have hs2 := F2.out.size
    rw [World.size_alloc] at hs2
    have fall : Fr (fun i => i = p ∨ i = mb) w (w2.setCell ⟨p, 2, none⟩ (.int .i64 (max a.fs k))) := ((F0.out.mono (fun _ _ h => h.elim)).trans F2.out (fun _ _ h => .inr h)).trans fs (fun _ _ h => .inl h)
    have fin : ∀ W', Fr (fun _ => False) (w2.setCell ⟨p, 2, none⟩ (.int .i64 (max a.fs k))) W' → At_ I W' p mb ⟨a.pr, max a.fs k, A.from_ k a.l⟩ := by
      intro W' fW
      have hsW := fW.size
      rw [setCell_size] at hsW
      have hpm := HPM.out
      have fall2 : Fr (fun i => i = p ∨ i = mb) (w.alloc (.cells #[.int .i64 k] 2)) W' := ((F2.out.mono (fun _ _ h => .inr h)).trans fs (fun _ _ h => .inl h)).trans fW (fun _ _ h => h.elim)
      refine ⟨fun i hi => by have := HI.out i hi; omega, by omega, by omega, A.from_ k l, ⟨fW.cells b2 (fun h => h), ?_, ham.ne, ham.np, ham.nm, fun q hq => ?_, ham.up.from_ k, ?_, fun q hq => ham.sm q (List.mem_filter.1 hq).1⟩⟩
      · have h1 := OM2.out
        rw [A.from_mp] at h1
        exact (h1.kept fs (fun e => ham.ne e.symm)).kept fW (fun h => h)
      · obtain ⟨e1, e2, cs, e3, e4⟩ := ham.sl q (List.mem_filter.1 hq).1
        exact ⟨e1, e2, cs, fall2.cells e3 (fun e => e.elim (fun e => ham.np (e ▸ e2)) (fun e => ham.nm (e ▸ e2))), e4.kept fall2 (fun i hi e => e.elim (fun e => ham.np (e ▸ hi)) (fun e => ham.nm (e ▸ hi)))⟩
      · show A.mp SM.s (A.from_ k l) = A.from_ k a.l
        rw [← A.from_mp, ham.ls]
    have FIN := hid fin
    have FALL := hid fall
    obtain ⟨m3, hm3⟩ : ∃ m, a.fs = m := ⟨_, rfl⟩
    rw [hm3] at d2 FIN HR FALL
    have hnw : w.heap.size ≠ p := by have := HPM.out.1; omega
    clear ham hat2 b2 fs hs2 fall fin hm3
    go_region
    all_goals
      go_wp2
      go_ret
      rw [HR.out]
      first | exact ⟨rfl, FIN.out _ (Fr.refl _ _), FALL.out⟩ | exact ⟨rfl, FIN.out _ (Fr.drew (Fr.refl _ _)), FALL.out.trans (Fr.drew (Fr.refl (fun _ => False) _)) (fun _ _ h => h.elim)⟩
end Go.Proofs.Ytedhmhlhjonloaa
