/-
  The document's acceptor in memory: All, At.
-/
import Derived.Test.YtedhmhlhjonloaaASameL
import Derived.Test.YtedhmhlhjonloaaAClone
namespace Go.Proofs.Ytedhmhlhjonloaa
open Go.RowKit Go.Maps
set_option linter.unusedVariables false
set_option linter.unusedSimpArgs false

/-- THE DOCUMENT'S ACCEPTOR: four cells at q; its list lies in blocks of I, which are never written. -/
structure Rf (I : Nat → Prop) (w : World) (q : Nat) (ra : Option Addr) (rc : Nat) (xs : List El) (a : A.Ac) : Prop where
  at_ : w.heap[q]? = some (.cells #[.int .i64 a.pr.1, .int .i64 a.pr.2, .int .i64 a.fs, .slice ra xs.length rc] 30 (0, 0))
  ls : Ls I w ra xs
  cap : xs.length ≤ rc
  l : xs.map (fun x => (x.2.slot, x.2)) = a.l
  up : A.Up a.l
  nq : ¬ I q
theorem Rf.kept {I S : Nat → Prop} {w w' : World} {q : Nat} {ra : Option Addr} {rc : Nat} {xs : List El} {a : A.Ac} (h : Rf I w q ra rc xs a) (hf : Fr S w w') (hq : ¬ S q) (hI : ∀ k, I k → ¬ S k) : Rf I w' q ra rc xs a :=
  ⟨hf.cells h.at_ hq, h.ls.kept hf hI, h.cap, h.l, h.up, h.nq⟩
theorem Rf.len {I : Nat → Prop} {w : World} {q : Nat} {ra : Option Addr} {rc : Nat} {xs : List El} {a : A.Ac} (h : Rf I w q ra rc xs a) : xs.length = a.l.length := by rw [← h.l, List.length_map]
def Rg (I : Nat → Prop) (w : World) (q : Nat) (a : A.Ac) : Prop := (∀ k, I k → k < w.heap.size) ∧ q < w.heap.size ∧ ∃ ra rc xs, Rf I w q ra rc xs a
theorem Rg.kept {I S : Nat → Prop} {w w' : World} {q : Nat} {a : A.Ac} (h : Rg I w q a) (hf : Fr S w w') (hq : ¬ S q) (hI : ∀ k, I k → ¬ S k) : Rg I w' q a := by
  obtain ⟨h1, h2, ra, rc, xs, h3⟩ := h
  exact ⟨fun k hk => Nat.lt_of_lt_of_le (h1 k hk) hf.size, Nat.lt_of_lt_of_le h2 hf.size, ra, rc, xs, h3.kept hf hq hI⟩
theorem Rg.fr {I : Nat → Prop} {w w' : World} {q : Nat} {a : A.Ac} (h : Rg I w q a) (hf : Fr (fun _ => False) w w') : Rg I w' q a := h.kept hf (fun h => h) (fun _ _ h => h)
theorem filter_take {α : Type} (p : α → Bool) (xs : List α) (k : Nat) (x : α) (hx : xs[k]? = some x) : (xs.take (k + 1)).filter p = (xs.take k).filter p ++ (if p x then [x] else []) := by
  rw [List.take_add_one, hx, List.filter_append]
  simp [List.filter_cons]
/-- the element at hand, as it is loaded -/
theorem Ls.whole {I : Nat → Prop} {w : World} {g o : Nat} {xs : List El} (h : Ls I w (some ⟨g, o, none⟩) xs) {i : Nat} {x : El} (hx : xs[i]? = some x) :
    w.cell? ⟨g, o + i * 59, none⟩ = some (.int .i64 x.2.slot) ∧ (Instr.loadAt 79 (.pointer (some ⟨g, o + i * 59, none⟩))).run Try.prog w = .ok (.agg x.1) w ∧ Rs I w x.1 x.2 := by
  obtain ⟨ec, hxa, _, hlx⟩ := h.lx hx
  have := hlx.ls
  rw [← hxa] at this
  exact ⟨hlx.c0, this, h.el x (List.mem_of_getElem? hx)⟩
theorem Rs.ones {I : Nat → Prop} {w : World} {cs : Array Value} {s : A.Sd} (h : Rs I w cs s) : ∀ u ∈ cs.toList, u.oneCell' = true := fun u hu => by
  have := h.one
  rw [Array.all_eq_true_iff_forall_mem] at this
  exact this u (by simpa using hu)
set_option maxHeartbeats 3200000 in
set_option maxRecDepth 20000 in
theorem rall_any {I : Nat → Prop} {w : World} {q : Nat} {ra : Option Addr} {rc : Nat} {xs : List El} {a : A.Ac} (h : Rf I w q ra rc xs a) (hl : xs.length ≤ 300000000000) (f : Int) :
    Calls Try.prog 17 #[ptrV q, .int .i64 f] w fun e w' => ∃ oa oc ys, ys = xs.filter (fun x => decide (f ≤ x.2.slot)) ∧ e = .returned (.slice oa (List.length ys) oc) ∧ Ls (Nw I w w') w' oa ys ∧ ys.length ≤ oc ∧ Fr (fun _ => False) w w' := by
  obtain ⟨n, hn⟩ : ∃ n, xs.length = n := ⟨_, rfl⟩
  have HN := hid hn
  have HH := hid h
  rw [hn] at hl
  clear h hn
  go_enter Try.func17, Try.ntmps17
  go_wp2
  go_loopw [5, 6] (fun o i wr => ∃ (k : Nat) (oa : Option Addr) (oc m : Nat), k ≤ n ∧ i = .int .i64 k ∧ o = .slice oa m oc ∧ m ≤ k ∧ Hid (m = ((xs.take k).filter (fun x => decide (f ≤ x.2.slot))).length ∧ Ro wr 79 59 oa m oc (flatE ((xs.take k).filter (fun x => decide (f ≤ x.2.slot)))) ∧ (∀ j, blk oa = some j → w.heap.size ≤ j) ∧ Fr (fun _ => False) w wr))
    (fun _ i _ => n - (intOf i).toNat)
  case atStart => exact ⟨0, none, 0, 0, Nat.zero_le _, rfl, rfl, Nat.zero_le _, hid ⟨rfl, Ro.nil _ _ _, by simp [blk], Fr.refl _ _⟩⟩
  case round =>
    obtain ⟨k, oa, oc, m, hk, rfl, rfl, hmk, hall⟩ := hrel
    have hW := HH.out.kept hall.out.2.2.2 (fun h => h) (fun _ _ h => h)
    have c3 : wr.cell? ⟨q, 3, none⟩ = some (.slice ra n rc) := cellA hW.at_ (by rw [← HN.out]; rfl)
    by_cases hlt : k < n
    · obtain ⟨x, hx⟩ : ∃ x, xs[k]? = some x := ⟨_, List.getElem?_eq_getElem (by rw [HN.out]; exact hlt)⟩
      obtain ⟨g, o, rfl⟩ := hW.ls.some_of (by rw [HN.out]; omega)
      obtain ⟨hc0, hld, hrs⟩ := hW.ls.whole hx
      have hft := filter_take (fun x : El => decide (f ≤ x.2.slot)) xs k x hx
      obtain ⟨cs, sd⟩ := x
      simp only at hc0 hld hrs hft
      have i0 : (0 : Int) ≤ (k : Int) := by omega
      have i1 : (k : Int) < (n : Int) := by omega
      have LD := hid hld
      have HRS := hid hrs
      have HFT := hid hft
      by_cases hle : f ≤ sd.slot
      · obtain ⟨a', c', W2, hr, hro, hf2, hn2⟩ := sd_append wr oa oc m _ hall.out.2.1 (by omega) cs hrs.size hrs.ones
        have hfo : Array.foldl (fun (cs : Array Value) x => cs.setIfInBounds x.2 x.1) zS59 cs.zipIdx 0 59 = cs := fold_set0 59 cs zS59 hrs.size rfl
        have hr2 := hr
        rw [← hfo] at hr2
        have R2 := hid hr2
        have hz := hrs.size
        have fin : m + 1 = ((xs.take (k + 1)).filter (fun x => decide (f ≤ x.2.slot))).length ∧ Ro W2 79 59 a' (m + 1) c' (flatE ((xs.take (k + 1)).filter (fun x => decide (f ≤ x.2.slot)))) ∧ (∀ j, blk a' = some j → w.heap.size ≤ j) ∧ Fr (fun _ => False) w W2 := by
          have hnew := hall.out.2.2.1
          have hfr := hall.out.2.2.2
          have hs := hfr.size
          refine ⟨?_, ?_, fun j hj => ?_, hfr.trans hf2 (fun i hi e => by have := hnew i e; omega)⟩
          · rw [hft, List.length_append, ← hall.out.1]; simp [hle]
          · rw [hft]; simp only [hle, decide_true, if_true]; rw [flatE_append, flatE_one]; exact hro
          · rcases hn2 j hj with h1 | h1
            · exact hnew j h1
            · omega
        have FIN := hid fin
        clear hW hx hld hrs hft hr hro hf2 hn2 hfo hr2 fin
        go_wp2_with (first
          | (refine wpList_load_v LD.out (by exact ⟨_, rfl, rfl⟩) (by kernel_rfl) ?_)
          | (at_builtin; refine wpList_append_eq _ _ rfl _ _ _ rfl _ _ _ rfl rfl (by exact R2.out) ?_))
        go_roundw
        case rel => exact ⟨k + 1, a', c', m + 1, by omega, by first | go_num | trivial, rfl, by omega, FIN⟩
        case measure => simp [intOf]; omega
      · have hft2 : (xs.take (k + 1)).filter (fun x => decide (f ≤ x.2.slot)) = (xs.take k).filter (fun x => decide (f ≤ x.2.slot)) := by rw [hft]; simp [hle]
        have HF2 := hid hft2
        clear hW hx hld hrs hft hft2
        go_wp2
        go_roundw
        case rel => exact ⟨k + 1, oa, oc, m, by omega, by first | go_num | trivial, rfl, by omega, by rw [HF2.out]; exact hall⟩
        case measure => simp [intOf]; omega
    · obtain rfl : k = n := by omega
      clear hW
      go_wp2
      go_ret
      obtain ⟨h1, h2, h3, h4⟩ := hall.out
      have h5 : xs.take k = xs := List.take_of_length_le (by rw [HN.out]; exact Nat.le_refl _)
      rw [h5] at h1 h2
      refine ⟨oa, oc, _, rfl, by rw [← h1]; rfl, ⟨?_, fun x hx => ?_⟩, by rw [← h1]; exact h2.le.1, h4⟩
      · rw [← h1]; exact Rw.of_ro h2 (fun g hg => .inr ⟨h3 g hg, h2.lt g hg⟩)
      · exact (((HH.out.ls.fr h4).el x (List.mem_filter.1 hx).1)).mono (fun i hi => .inl hi)
/-- nothing: a slotted entry of zeros -/
def A.zsd : A.Sd := ⟨0, (0, 0), A.zen⟩
theorem A.zsd_rs (I : Nat → Prop) (w : World) : Rs I w zS59 A.zsd := ⟨A.zfx, rfl, A.zen_re I w⟩
theorem Rf.get_at {I : Nat → Prop} {w : World} {q : Nat} {ra : Option Addr} {rc : Nat} {xs : List El} {a : A.Ac} (h : Rf I w q ra rc xs a) {x : El} (hx : x ∈ xs) : A.get x.2.slot a.l = some x.2 :=
  A.get_of_mem h.up (by rw [← h.l]; exact List.mem_map.2 ⟨x, hx, rfl⟩)
theorem Rf.get_no {I : Nat → Prop} {w : World} {q : Nat} {ra : Option Addr} {rc : Nat} {xs : List El} {a : A.Ac} (h : Rf I w q ra rc xs a) {f : Int} (hx : ∀ x ∈ xs, x.2.slot ≠ f) : A.get f a.l = none := by
  rw [A.get_none, ← h.l]
  intro p hp
  obtain ⟨x, hx', rfl⟩ := List.mem_map.1 hp
  exact hx x hx'
set_option maxHeartbeats 3200000 in
set_option maxRecDepth 20000 in
theorem rat_any {I : Nat → Prop} {w : World} {q : Nat} {ra : Option Addr} {rc : Nat} {xs : List El} {a : A.Ac} (h : Rf I w q ra rc xs a) (hI : ∀ k, I k → k < w.heap.size) (hl : xs.length ≤ 300000000000) (f : Int) :
    Calls Try.prog 44 #[ptrV q, .int .i64 f] w fun e w' => ∃ cs, e = .returned (.tuple #[.agg cs, .bool (A.get f a.l).isSome]) ∧ Rs I w' cs ((A.get f a.l).getD A.zsd) ∧ Fr (fun _ => False) w w' := by
  obtain ⟨n, hn⟩ : ∃ n, xs.length = n := ⟨_, rfl⟩
  have HN := hid hn
  have HH := hid h
  rw [hn] at hl
  obtain ⟨W, hW⟩ : ∃ W, w.alloc (.cells zS59 79) = W := ⟨_, rfl⟩
  have f0 : Fr (fun _ => False) w W := by rw [← hW]; exact Fr.alloc (Fr.refl _ _) _
  have b0 : W.heap[w.heap.size]? = some (.cells zS59 79 (0, 0)) := by rw [← hW]; exact Go.heap_alloc_new w _
  have h1 := h.kept f0 (fun h => h) (fun _ _ h => h)
  have c3 : W.cell? ⟨q, 3, none⟩ = some (.slice ra n rc) := cellA h1.at_ (by rw [← hn]; rfl)
  have HW := hid hW
  have F0 := hid f0
  have B0 := hid b0
  have H1 := hid h1
  have HNI := hid (fun i (hi : I i) => show i ≠ w.heap.size by have := hI i hi; omega)
  clear h hn hW f0 b0 h1 hI
  go_enter Try.func44, Try.ntmps44
  go_wp2_with fail
  go_loopw [6] (fun i wr => ∃ (k : Nat), k ≤ n ∧ i = .int .i64 k ∧ Hid (wr = W ∧ ∀ x ∈ xs.take k, x.2.slot ≠ f)) (fun i _ => n - (intOf i).toNat)
  case atStart => exact ⟨0, Nat.zero_le _, rfl, hid ⟨HW.out, by simp⟩⟩
  case round =>
    obtain ⟨k, hk, rfl, hall⟩ := hrel
    obtain rfl := hall.out.1
    by_cases hlt : k < n
    · obtain ⟨x, hx⟩ : ∃ x, xs[k]? = some x := ⟨_, List.getElem?_eq_getElem (by rw [HN.out]; exact hlt)⟩
      obtain ⟨g, o, rfl⟩ := H1.out.ls.some_of (by rw [HN.out]; omega)
      obtain ⟨hc0, hld, hrs⟩ := H1.out.ls.whole hx
      have hga := H1.out.get_at (List.mem_of_getElem? hx)
      have htk : (∀ y ∈ xs.take k, y.2.slot ≠ f) → x.2.slot ≠ f → ∀ y ∈ xs.take (k + 1), y.2.slot ≠ f := fun h1 h2 y hy => by
        rw [List.take_add_one, hx, List.mem_append] at hy
        rcases hy with hy | hy
        · exact h1 y hy
        · simp at hy; rw [hy]; exact h2
      obtain ⟨cs, sd⟩ := x
      simp only at hc0 hld hrs hga htk
      have i0 : (0 : Int) ≤ (k : Int) := by omega
      have i1 : (k : Int) < (n : Int) := by omega
      have LD := hid hld
      by_cases he : sd.slot = f
      · have hz := hrs.size
        obtain ⟨V, st, lr, fV⟩ := box_back (c := cs) B0.out (by rw [hz]; exact Nat.le_refl _) (by rw [hz]; kernel_rfl) hrs.one Try.underlying79 rfl
        have fin : Rs I V cs ((A.get f a.l).getD A.zsd) ∧ Fr (fun _ => False) w V ∧ (A.get f a.l).isSome = true := by
          rw [← he, hga]
          refine ⟨hrs.kept fV (fun i hi e => ?_), F0.out.trans fV (fun i hi e => by omega), rfl⟩
          subst e
          exact absurd rfl (HNI.out _ hi)
        have ST := hid st
        have LR := hid lr
        have FIN := hid fin
        clear hx hld hrs hga htk st lr fV fin
        go_wp2_with (first
          | (refine wpList_load_v LD.out (by exact ⟨_, rfl, rfl⟩) (by kernel_rfl) ?_)
          | (refine wpList_store_v ST.out (by exact ⟨_, _, rfl, rfl, rfl⟩) (by kernel_rfl) ?_))
        exact bodyPost_ret (v := .tuple #[.agg cs, .bool true]) (results_cell2 Try.results44 _ _ _ _ _ _ (by rfl) LR.out (by rfl)) rfl ⟨cs, by rw [FIN.out.2.2], FIN.out.1, FIN.out.2.1⟩
      · have HTK := hid (htk hall.out.2 he)
        clear hx hld hrs hga htk
        go_wp2
        go_roundw
        case rel => exact ⟨k + 1, by omega, by first | go_num | trivial, hid ⟨by first | trivial | rfl, HTK.out⟩⟩
        case measure => simp [intOf]; omega
    · obtain rfl : k = n := by omega
      have hno : ∀ x ∈ xs, x.2.slot ≠ f := by
        have h1 := hall.out.2
        rwa [List.take_of_length_le (by rw [HN.out]; exact Nat.le_refl _)] at h1
      have hg := HH.out.get_no hno
      obtain ⟨V, st, lr, fV⟩ := box_back (c := zS59) B0.out (Nat.le_refl _) (by kernel_rfl) (A.zsd_rs (fun _ => False) w).one Try.underlying79 rfl
      have fin : Rs I V zS59 ((A.get f a.l).getD A.zsd) ∧ Fr (fun _ => False) w V ∧ (A.get f a.l).isSome = false := by
        rw [hg]
        exact ⟨A.zsd_rs I V, F0.out.trans fV (fun i hi e => by omega), rfl⟩
      have ST := hid st
      have LR := hid lr
      have FIN := hid fin
      clear hno hg st lr fV fin
      go_wp2_with (first
        | (refine wpList_store_v (by exact ST.out) (by exact ⟨_, _, rfl, rfl, rfl⟩) (by kernel_rfl) ?_))
      exact bodyPost_ret (v := .tuple #[.agg zS59, .bool false]) (results_cell2 Try.results44 _ _ _ _ _ _ (by rfl) LR.out (by rfl)) rfl ⟨zS59, by rw [FIN.out.2.2], FIN.out.1, FIN.out.2.1⟩
end Go.Proofs.Ytedhmhlhjonloaa
