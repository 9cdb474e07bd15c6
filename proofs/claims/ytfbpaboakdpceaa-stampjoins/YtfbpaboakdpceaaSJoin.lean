/-
  The code's Join and Meet.
-/
import Derived.Test.YtfbpaboakdpceaaSFold
import Derived.Deep.QuietTactic
namespace Go.Proofs.Ytfbpaboakdpceaa
open Go.RowKit
set_option linter.unusedVariables false
set_option linter.unusedSimpArgs false

/-- one of them, whole -/
theorem Ri.load {w W : World} {b o n : Nat} {z : Nat → Nat → Int} (hc : ∀ i j, i < n → j < 8 → w.cell? ⟨b, o + i * 8 + j, none⟩ = some (.int .i64 (z i j))) (hf : Fr (fun _ => False) w W) {i : Nat} (hi : i < n) :
    (Instr.loadAt 42 (.pointer (some ⟨b, o + i * 8, none⟩))).run Try.prog W = .ok (.agg (V8 (z i))) W := by
  have := run_loadAt_mid (P := Try.prog) W b (o + i * 8) 42 (V8 (z i)).toList _ (fun j v hv => by
    have hj : j < 8 := by have := (List.getElem?_eq_some_iff.1 hv).1; simpa using this
    have h1 := V8.at (z i) hj
    rw [← Array.getElem?_toList, hv] at h1
    cases h1
    exact cellFr hf (fun h => h) (hc i j hi hj)) Try.underlying42 rfl (by kernel_rfl)
  simpa using this
theorem infoVc : (Try.prog.info? 42).map (fun i => (i.zero, i.size, i.bytes)) = some (some (.agg (V8 (fun _ => 0))), 8, 64) := by kernel_rfl
def cutV (a : Option Addr) (c l : Nat) : Option Addr := if c = l then a else a.map (·.add (l * 8))
theorem run_cutV_lo (w : World) (a : Option Addr) (n c l : Nat) (hl : l ≤ n) (x : Int) (hx : x = (l : Int)) :
    (Instr.slice 40 (.slice a n c) (some (.int .i64 x)) none none).run Try.prog w = .ok (.slice (cutV a c l) (n - l) (c - l)) w := by
  subst hx
  obtain ⟨i0, hi, hz0, hz1, hz2⟩ := info_parts infoVc
  have h1 : (Instr.sliceBound (.int .i64 (l : Int)) n .sliceB).run Try.prog w = .ok l w := by
    have : (0 : Int) ≤ (l : Int) ∧ (l : Int) ≤ (n : Int) := by omega
    simp [Instr.sliceBound, asIntOf, this]
  simp [Instr.slice, Instr.sliceBounds, h1, run_underlying Try.underlying40, sizeOf, typeInfo, hi, hz1, cutV]
theorem sliceAt_V {lo hi mx : Option Value} {u v : Value} {w : World} (h : (Instr.slice 40 u lo hi mx).run Try.prog w = .ok v w) : (Instr.sliceAt 40 u lo hi mx).run Try.prog w = .ok v w := by
  simp [Instr.sliceAt, run_underlying Try.underlying40, h]
theorem wpList_slice_v {ops : Array Oper} {rest : List Oper} {o : Oper} {a : Act} {w : World} {Q : Exit → Act → World → Prop} {ty : TypeId} {u v : Value} {lo hi mx : Option Value} (hl : (Instr.sliceAt ty u lo hi mx).run Try.prog w = .ok v w) (h0 : ∃ x l h m, o.op = .slice ty x l h m ∧ a.eval x = u ∧ l.map a.eval = lo ∧ h.map a.eval = hi ∧ m.map a.eval = mx) (hw : Region.wanted o (yielded ops a.tmps) = true)
    (h : wpList Try.prog ops Q rest (a.put o.dst v) w) : wpList Try.prog ops Q (o :: rest) a w :=
  wpList_step fun K hK => by
    obtain ⟨x, l, hh, m, ho, hx, h1, h2, h3⟩ := h0
    rw [if_pos hw]
    unfold Oper.wp execOp
    simp only [ho, hx, h1, h2, h3, hl, Sem.run_bind, Result.andThen_ok]
    exact hK _ _ h
theorem sjoin1 (x y : Int) (w : World) : Calls Try.prog 44 #[.int .i64 x, .int .i64 y] w fun e w' => e = .returned (.int .i64 (max x y)) ∧ w = w' := by
  go_enter Try.func44, Try.ntmps44
  go_wp2
  all_goals (go_ret; exact ⟨ret_int (by omega), rfl⟩)
set_option maxHeartbeats 3200000 in
theorem sjoin_by {w : World} {a : Option Addr} {n c : Nat} {z : Nat → Nat → Int} (h : Ri w 8 a n z) (hb : n ≤ 140737488355328) (hcap : n ≤ c) : Calls Try.prog 43 #[.func (.func 44) #[] #[], .slice a n c] w fun e w' => e = .returned (.agg (V8 (fun j => S.fold max z j n))) ∧ Fr (fun _ => False) w w' := by
  by_cases hn : n = 0
  · subst hn
    obtain ⟨V, st, hbV, fV⟩ := box_whole (V := w.alloc (.cells (V8 (fun _ => 0)) 42)) (b := w.heap.size) (c := V8 (fun j => S.fold max z j 0)) (Go.heap_alloc_new w _) rfl (by kernel_rfl) (by kernel_rfl)
    have lr := loadVar_whole (ty := 42) hbV Try.underlying42 rfl (by kernel_rfl)
    have FIN := hid ((Fr.alloc (Fr.refl (fun _ => False) w) _).trans fV (fun i hi e => by omega))
    have ST := hid st
    have LR := hid lr
    clear st lr hbV fV h hb hcap
    go_enter Try.func43, Try.ntmps43
    go_wp2_with (first
      | (refine wpList_store_v ST.out (by exact ⟨_, _, rfl, rfl, rfl⟩) (by kernel_rfl) ?_))
    exact bodyPost_ret (v := .agg (V8 (fun j => S.fold max z j 0))) (results_cell1 Try.results43 _ _ _ _ _ (by rfl) LR.out) rfl ⟨rfl, FIN.out⟩
  · obtain ⟨b, o, rfl, hc⟩ := h.some_of (by omega)
    have HC := hid hc
    have l0 := Ri.load hc (Fr.alloc (Fr.refl (fun _ => False) w) (.cells (V8 (fun _ => 0)) 42)) (i := 0) (by omega)
    rw [show o + 0 * 8 = o by omega] at l0
    obtain ⟨V, st, hbV, fV⟩ := box_whole (V := (w.alloc (.cells (V8 (fun _ => 0)) 42)).alloc (.cells (V8 (fun _ => 0)) 42)) (b := w.heap.size + 1) (c := V8 (z 0)) (S.two1 w _ _) rfl (by kernel_rfl) (by kernel_rfl)
    have HV0 := hid (show Vb V (w.heap.size + 1) (z 0) ∧ Vb V w.heap.size (fun _ => 0) ∧ Fr (fun _ => False) w V from ⟨hbV, fV.cells (S.two0 w _ _) (by omega), (Fr.alloc (Fr.alloc (Fr.refl (fun _ => False) w) _) _).trans fV (fun i hi e => by omega)⟩)
    have L0 := hid l0
    have ST0 := hid st
    clear h hc l0 st hbV fV
    have hn1 : ((n : Int) == 0) = false := by simp; omega
    have hn0 : (0 : Int) < (n : Int) := by omega
    have hcut : 0 < n - 1 → cutV (some ⟨b, o, none⟩) c 1 = some ⟨b, o + 8, none⟩ := fun h => by
      unfold cutV
      rw [if_neg (by omega)]
      rfl
    have cut := fun W => sliceAt_V (run_cutV_lo W (some ⟨b, o, none⟩) n c 1 (by omega) 1 rfl)
    generalize cutV (some ⟨b, o, none⟩) c 1 = A at hcut cut
    obtain ⟨m, hm⟩ : ∃ m, n - 1 = m := ⟨_, rfl⟩
    rw [hm] at hcut cut
    have CUT := hid cut
    have HCUT := hid hcut
    have HM := hid (show n = m + 1 by omega)
    clear cut hcut hm
    generalize hva : Value.agg (V8 (z 0)) = va at L0 ST0
    clear hva
    go_enter Try.func43, Try.ntmps43
    go_wp2_with (first
      | (refine wpList_load_v L0.out (by exact ⟨_, rfl, rfl⟩) (by kernel_rfl) ?_)
      | (refine wpList_store_v ST0.out (by exact ⟨_, _, rfl, rfl, rfl⟩) (by kernel_rfl) ?_)
      | (refine wpList_slice_v (CUT.out _) (by exact ⟨_, _, _, _, rfl, rfl, rfl, rfl, rfl⟩) (by kernel_rfl) ?_))
    clear ST0 L0 CUT
    go_loopw [20] (fun i wr => ∃ (k : Nat), k ≤ m ∧ i = .int .i64 k ∧ Hid (Vb wr (w.heap.size + 1) (fun j => S.fold max z j (k + 1)) ∧ Vb wr w.heap.size (fun _ => 0) ∧ Fr (fun _ => False) w wr)) (fun i _ => m - (intOf i).toNat)
    case atStart => exact ⟨0, Nat.zero_le _, rfl, HV0⟩
    case round =>
      clear HV0
      obtain ⟨k, hk, rfl, HV⟩ := hrel
      by_cases hlt : k < m
      · obtain rfl := HCUT.out (by omega)
        have i0 : (0 : Int) ≤ (k : Int) := by omega
        have i1 : (k : Int) < (m : Int) := by omega
        have l1 := Ri.load HC.out HV.out.2.2 (i := k + 1) (by have := HM.out; omega)
        rw [show o + (k + 1) * 8 = o + 8 + k * 8 by omega] at l1
        obtain ⟨V, st, hbV, fV⟩ := box_whole (V := wr.alloc (.cells (V8 (fun _ => 0)) 42)) (b := wr.heap.size) (c := V8 (z (k + 1))) (Go.heap_alloc_new wr _) rfl (by kernel_rfl) (by kernel_rfl)
        have ld := load_whole (ty := 42) hbV Try.underlying42 rfl (by kernel_rfl)
        have fW : Fr (fun _ => False) wr V := (Fr.alloc (Fr.refl (fun _ => False) wr) _).trans fV (fun i hi e => by omega)
        have HV1 := hid (show Vb V (w.heap.size + 1) (fun j => S.fold max z j (k + 1)) ∧ Vb V w.heap.size (fun _ => 0) ∧ Fr (fun _ => False) w V from ⟨HV.out.1.fr fW, HV.out.2.1.fr fW, HV.out.2.2.trans fW (fun _ _ h => h)⟩)
        have HIX := hid (fun (q : Nat) (hq : q < 8) (W : World) => run_index8 (z (k + 1)) hq W)
        generalize hva2 : Value.agg (V8 (z (k + 1))) = vb at l1 st ld HIX
        have L1 := hid l1
        have ST1 := hid st
        have LD1 := hid ld
        clear hva2 l1 st ld hbV fV fW HV
        go_wp2_with (first
          | (refine wpList_load_v L1.out (by exact ⟨_, rfl, rfl⟩) (by kernel_rfl) ?_)
          | (refine wpList_load_v LD1.out (by exact ⟨_, rfl, rfl⟩) (by kernel_rfl) ?_)
          | (refine wpList_store_v ST1.out (by exact ⟨_, _, rfl, rfl, rfl⟩) (by kernel_rfl) ?_))
        clear L1 ST1 LD1
        obtain ⟨wo, hwo⟩ : ∃ wo, wo = wr := ⟨_, rfl⟩
        rw [← hwo]
        clear hwo
        go_loopw [25] (fun i wr => ∃ (q : Nat), q ≤ 8 ∧ i = .int .i64 q ∧ Hid (Vb wr (w.heap.size + 1) (S.mix q (fun j => S.fold max z j (k + 2)) (fun j => S.fold max z j (k + 1))) ∧ Vb wr w.heap.size (fun _ => 0) ∧ Fr (fun _ => False) w wr)) (fun i _ => 8 - (intOf i).toNat)
        case atStart => exact ⟨0, by omega, rfl, hid ⟨by rw [S.mix_0]; exact HV1.out.1, HV1.out.2⟩⟩
        case round =>
          obtain ⟨q, hq, rfl, HQ⟩ := hrel
          by_cases hq8 : q < 8
          · have j0 : (0 : Int) ≤ (q : Int) := by omega
            have j1 : (q : Int) < 8 := by omega
            have c1 : wr.cell? ⟨w.heap.size + 1, q, none⟩ = some (.int .i64 (S.fold max z q (k + 1))) := by have := HQ.out.1.cell hq8; rwa [S.mix_at] at this
            have z1 : wr.frozen? ⟨w.heap.size + 1, q, none⟩ = false := HQ.out.1.frozen q
            have hlt2 : w.heap.size + 1 < wr.heap.size := lt_of_row HQ.out.1
            have STEP := hid (fun (V : World) (v : Int) (hf : Fr (fun _ => False) wr V) (hv : v = S.fold max z q (k + 2)) => show Vb (V.setCell ⟨w.heap.size + 1, q, none⟩ (.int .i64 v)) (w.heap.size + 1) (S.mix (q + 1) (fun j => S.fold max z j (k + 2)) (fun j => S.fold max z j (k + 1))) ∧ Vb (V.setCell ⟨w.heap.size + 1, q, none⟩ (.int .i64 v)) w.heap.size (fun _ => 0) ∧ Fr (fun _ => False) w (V.setCell ⟨w.heap.size + 1, q, none⟩ (.int .i64 v)) from ⟨(HQ.out.1.fr hf).set hq8 hv, (Below.heap_setCell _ _ _ _ (by show w.heap.size ≠ w.heap.size + 1; omega)).trans (HQ.out.2.1.fr hf), Fr.setCell (HQ.out.2.2.trans hf (fun _ _ h => h)) (fun h => by have : w.heap.size + 1 < w.heap.size := h; omega) _⟩)
            have HE := hid (show max (S.fold max z q (k + 1)) (z (k + 1) q) = S.fold max z q (k + 2) from rfl)
            have IX := hid (HIX.out q hq8)
            have KJ := hid (sjoin1 (S.fold max z q (k + 1)) (z (k + 1) q))
            generalize S.fold max z q (k + 1) = y at c1 HE KJ
            generalize z (k + 1) q = x at HE IX KJ
            generalize max y x = u at HE KJ
            go_wp2_with (first
              | (refine wpList_index_v (IX.out _) (by exact ⟨_, _, rfl, rfl, rfl⟩) (by kernel_rfl) ?_)
              | (go_at_call 44; refine (KJ.out _).mono ?_; rintro e wx ⟨rfl, rfl⟩))
            go_roundw
            case rel => exact ⟨q + 1, by omega, by first | go_num | trivial, hid (STEP.out _ u (by first | exact Fr.refl _ _ | exact Fr.drew (Fr.refl _ _) | exact Fr.drew (Fr.drew (Fr.refl _ _)) | exact Fr.drewN _ _ | exact Fr.drew (Fr.drewN _ _)) HE.out)⟩
            case measure => simp [intOf]; omega
          · obtain rfl : q = 8 := by omega
            have HQ2 := hid (show Vb wr (w.heap.size + 1) (fun j => S.fold max z j (k + 1 + 1)) ∧ Vb wr w.heap.size (fun _ => 0) ∧ Fr (fun _ => False) w wr from ⟨by have := HQ.out.1; unfold Vb at this ⊢; rwa [S.mix_8] at this, HQ.out.2⟩)
            have hnb : m ≤ 140737488355328 := by have := HM.out; omega
            go_wp2
            go_roundw
            case rel => exact ⟨k + 1, by omega, by first | go_num | trivial, HQ2⟩
            case measure => simp [intOf]; omega
      · obtain rfl : k = m := by omega
        obtain ⟨V, st, hbV, fV⟩ := box_whole (V := wr) (b := w.heap.size) (c := V8 (fun j => S.fold max z j (k + 1))) HV.out.2.1 rfl (by kernel_rfl) (by kernel_rfl)
        have ld := load_whole (ty := 42) HV.out.1 Try.underlying42 rfl (by kernel_rfl)
        have lr := loadVar_whole (ty := 42) hbV Try.underlying42 rfl (by kernel_rfl)
        have FIN := hid (HV.out.2.2.trans fV (fun i hi e => by omega))
        generalize hva : Value.agg (V8 (fun j => S.fold max z j (k + 1))) = va at st ld lr
        have HVA := hid hva
        have ST := hid st
        have LD := hid ld
        have LR := hid lr
        clear hva st ld lr hbV fV HV
        go_wp2_with (first
          | (refine wpList_load_v LD.out (by exact ⟨_, rfl, rfl⟩) (by kernel_rfl) ?_)
          | (refine wpList_store_v ST.out (by exact ⟨_, _, rfl, rfl, rfl⟩) (by kernel_rfl) ?_))
        exact bodyPost_ret (v := va) (results_cell1 Try.results43 _ _ _ _ _ (by rfl) LR.out) rfl ⟨by rw [← HVA.out, HM.out], FIN.out⟩
theorem smeet1 (x y : Int) (w : World) : Calls Try.prog 45 #[.int .i64 x, .int .i64 y] w fun e w' => e = .returned (.int .i64 (min x y)) ∧ w = w' := by
  go_enter Try.func45, Try.ntmps45
  go_wp2
  all_goals (go_ret; exact ⟨ret_int (by omega), rfl⟩)
set_option maxHeartbeats 3200000 in
theorem smeet_by {w : World} {a : Option Addr} {n c : Nat} {z : Nat → Nat → Int} (h : Ri w 8 a n z) (hb : n ≤ 140737488355328) (hcap : n ≤ c) : Calls Try.prog 43 #[.func (.func 45) #[] #[], .slice a n c] w fun e w' => e = .returned (.agg (V8 (fun j => S.fold min z j n))) ∧ Fr (fun _ => False) w w' := by
  by_cases hn : n = 0
  · subst hn
    obtain ⟨V, st, hbV, fV⟩ := box_whole (V := w.alloc (.cells (V8 (fun _ => 0)) 42)) (b := w.heap.size) (c := V8 (fun j => S.fold min z j 0)) (Go.heap_alloc_new w _) rfl (by kernel_rfl) (by kernel_rfl)
    have lr := loadVar_whole (ty := 42) hbV Try.underlying42 rfl (by kernel_rfl)
    have FIN := hid ((Fr.alloc (Fr.refl (fun _ => False) w) _).trans fV (fun i hi e => by omega))
    have ST := hid st
    have LR := hid lr
    clear st lr hbV fV h hb hcap
    go_enter Try.func43, Try.ntmps43
    go_wp2_with (first
      | (refine wpList_store_v ST.out (by exact ⟨_, _, rfl, rfl, rfl⟩) (by kernel_rfl) ?_))
    exact bodyPost_ret (v := .agg (V8 (fun j => S.fold min z j 0))) (results_cell1 Try.results43 _ _ _ _ _ (by rfl) LR.out) rfl ⟨rfl, FIN.out⟩
  · obtain ⟨b, o, rfl, hc⟩ := h.some_of (by omega)
    have HC := hid hc
    have l0 := Ri.load hc (Fr.alloc (Fr.refl (fun _ => False) w) (.cells (V8 (fun _ => 0)) 42)) (i := 0) (by omega)
    rw [show o + 0 * 8 = o by omega] at l0
    obtain ⟨V, st, hbV, fV⟩ := box_whole (V := (w.alloc (.cells (V8 (fun _ => 0)) 42)).alloc (.cells (V8 (fun _ => 0)) 42)) (b := w.heap.size + 1) (c := V8 (z 0)) (S.two1 w _ _) rfl (by kernel_rfl) (by kernel_rfl)
    have HV0 := hid (show Vb V (w.heap.size + 1) (z 0) ∧ Vb V w.heap.size (fun _ => 0) ∧ Fr (fun _ => False) w V from ⟨hbV, fV.cells (S.two0 w _ _) (by omega), (Fr.alloc (Fr.alloc (Fr.refl (fun _ => False) w) _) _).trans fV (fun i hi e => by omega)⟩)
    have L0 := hid l0
    have ST0 := hid st
    clear h hc l0 st hbV fV
    have hn1 : ((n : Int) == 0) = false := by simp; omega
    have hn0 : (0 : Int) < (n : Int) := by omega
    have hcut : 0 < n - 1 → cutV (some ⟨b, o, none⟩) c 1 = some ⟨b, o + 8, none⟩ := fun h => by
      unfold cutV
      rw [if_neg (by omega)]
      rfl
    have cut := fun W => sliceAt_V (run_cutV_lo W (some ⟨b, o, none⟩) n c 1 (by omega) 1 rfl)
    generalize cutV (some ⟨b, o, none⟩) c 1 = A at hcut cut
    obtain ⟨m, hm⟩ : ∃ m, n - 1 = m := ⟨_, rfl⟩
    rw [hm] at hcut cut
    have CUT := hid cut
    have HCUT := hid hcut
    have HM := hid (show n = m + 1 by omega)
    clear cut hcut hm
    generalize hva : Value.agg (V8 (z 0)) = va at L0 ST0
    clear hva
    go_enter Try.func43, Try.ntmps43
    go_wp2_with (first
      | (refine wpList_load_v L0.out (by exact ⟨_, rfl, rfl⟩) (by kernel_rfl) ?_)
      | (refine wpList_store_v ST0.out (by exact ⟨_, _, rfl, rfl, rfl⟩) (by kernel_rfl) ?_)
      | (refine wpList_slice_v (CUT.out _) (by exact ⟨_, _, _, _, rfl, rfl, rfl, rfl, rfl⟩) (by kernel_rfl) ?_))
    clear ST0 L0 CUT
    go_loopw [20] (fun i wr => ∃ (k : Nat), k ≤ m ∧ i = .int .i64 k ∧ Hid (Vb wr (w.heap.size + 1) (fun j => S.fold min z j (k + 1)) ∧ Vb wr w.heap.size (fun _ => 0) ∧ Fr (fun _ => False) w wr)) (fun i _ => m - (intOf i).toNat)
    case atStart => exact ⟨0, Nat.zero_le _, rfl, HV0⟩
    case round =>
      clear HV0
      obtain ⟨k, hk, rfl, HV⟩ := hrel
      by_cases hlt : k < m
      · obtain rfl := HCUT.out (by omega)
        have i0 : (0 : Int) ≤ (k : Int) := by omega
        have i1 : (k : Int) < (m : Int) := by omega
        have l1 := Ri.load HC.out HV.out.2.2 (i := k + 1) (by have := HM.out; omega)
        rw [show o + (k + 1) * 8 = o + 8 + k * 8 by omega] at l1
        obtain ⟨V, st, hbV, fV⟩ := box_whole (V := wr.alloc (.cells (V8 (fun _ => 0)) 42)) (b := wr.heap.size) (c := V8 (z (k + 1))) (Go.heap_alloc_new wr _) rfl (by kernel_rfl) (by kernel_rfl)
        have ld := load_whole (ty := 42) hbV Try.underlying42 rfl (by kernel_rfl)
        have fW : Fr (fun _ => False) wr V := (Fr.alloc (Fr.refl (fun _ => False) wr) _).trans fV (fun i hi e => by omega)
        have HV1 := hid (show Vb V (w.heap.size + 1) (fun j => S.fold min z j (k + 1)) ∧ Vb V w.heap.size (fun _ => 0) ∧ Fr (fun _ => False) w V from ⟨HV.out.1.fr fW, HV.out.2.1.fr fW, HV.out.2.2.trans fW (fun _ _ h => h)⟩)
        have HIX := hid (fun (q : Nat) (hq : q < 8) (W : World) => run_index8 (z (k + 1)) hq W)
        generalize hva2 : Value.agg (V8 (z (k + 1))) = vb at l1 st ld HIX
        have L1 := hid l1
        have ST1 := hid st
        have LD1 := hid ld
        clear hva2 l1 st ld hbV fV fW HV
        go_wp2_with (first
          | (refine wpList_load_v L1.out (by exact ⟨_, rfl, rfl⟩) (by kernel_rfl) ?_)
          | (refine wpList_load_v LD1.out (by exact ⟨_, rfl, rfl⟩) (by kernel_rfl) ?_)
          | (refine wpList_store_v ST1.out (by exact ⟨_, _, rfl, rfl, rfl⟩) (by kernel_rfl) ?_))
        clear L1 ST1 LD1
        obtain ⟨wo, hwo⟩ : ∃ wo, wo = wr := ⟨_, rfl⟩
        rw [← hwo]
        clear hwo
        go_loopw [25] (fun i wr => ∃ (q : Nat), q ≤ 8 ∧ i = .int .i64 q ∧ Hid (Vb wr (w.heap.size + 1) (S.mix q (fun j => S.fold min z j (k + 2)) (fun j => S.fold min z j (k + 1))) ∧ Vb wr w.heap.size (fun _ => 0) ∧ Fr (fun _ => False) w wr)) (fun i _ => 8 - (intOf i).toNat)
        case atStart => exact ⟨0, by omega, rfl, hid ⟨by rw [S.mix_0]; exact HV1.out.1, HV1.out.2⟩⟩
        case round =>
          obtain ⟨q, hq, rfl, HQ⟩ := hrel
          by_cases hq8 : q < 8
          · have j0 : (0 : Int) ≤ (q : Int) := by omega
            have j1 : (q : Int) < 8 := by omega
            have c1 : wr.cell? ⟨w.heap.size + 1, q, none⟩ = some (.int .i64 (S.fold min z q (k + 1))) := by have := HQ.out.1.cell hq8; rwa [S.mix_at] at this
            have z1 : wr.frozen? ⟨w.heap.size + 1, q, none⟩ = false := HQ.out.1.frozen q
            have hlt2 : w.heap.size + 1 < wr.heap.size := lt_of_row HQ.out.1
            have STEP := hid (fun (V : World) (v : Int) (hf : Fr (fun _ => False) wr V) (hv : v = S.fold min z q (k + 2)) => show Vb (V.setCell ⟨w.heap.size + 1, q, none⟩ (.int .i64 v)) (w.heap.size + 1) (S.mix (q + 1) (fun j => S.fold min z j (k + 2)) (fun j => S.fold min z j (k + 1))) ∧ Vb (V.setCell ⟨w.heap.size + 1, q, none⟩ (.int .i64 v)) w.heap.size (fun _ => 0) ∧ Fr (fun _ => False) w (V.setCell ⟨w.heap.size + 1, q, none⟩ (.int .i64 v)) from ⟨(HQ.out.1.fr hf).set hq8 hv, (Below.heap_setCell _ _ _ _ (by show w.heap.size ≠ w.heap.size + 1; omega)).trans (HQ.out.2.1.fr hf), Fr.setCell (HQ.out.2.2.trans hf (fun _ _ h => h)) (fun h => by have : w.heap.size + 1 < w.heap.size := h; omega) _⟩)
            have HE := hid (show min (S.fold min z q (k + 1)) (z (k + 1) q) = S.fold min z q (k + 2) from rfl)
            have IX := hid (HIX.out q hq8)
            have KJ := hid (smeet1 (S.fold min z q (k + 1)) (z (k + 1) q))
            generalize S.fold min z q (k + 1) = y at c1 HE KJ
            generalize z (k + 1) q = x at HE IX KJ
            generalize min y x = u at HE KJ
            go_wp2_with (first
              | (refine wpList_index_v (IX.out _) (by exact ⟨_, _, rfl, rfl, rfl⟩) (by kernel_rfl) ?_)
              | (go_at_call 45; refine (KJ.out _).mono ?_; rintro e wx ⟨rfl, rfl⟩))
            go_roundw
            case rel => exact ⟨q + 1, by omega, by first | go_num | trivial, hid (STEP.out _ u (by first | exact Fr.refl _ _ | exact Fr.drew (Fr.refl _ _) | exact Fr.drew (Fr.drew (Fr.refl _ _)) | exact Fr.drewN _ _ | exact Fr.drew (Fr.drewN _ _)) HE.out)⟩
            case measure => simp [intOf]; omega
          · obtain rfl : q = 8 := by omega
            have HQ2 := hid (show Vb wr (w.heap.size + 1) (fun j => S.fold min z j (k + 1 + 1)) ∧ Vb wr w.heap.size (fun _ => 0) ∧ Fr (fun _ => False) w wr from ⟨by have := HQ.out.1; unfold Vb at this ⊢; rwa [S.mix_8] at this, HQ.out.2⟩)
            have hnb : m ≤ 140737488355328 := by have := HM.out; omega
            go_wp2
            go_roundw
            case rel => exact ⟨k + 1, by omega, by first | go_num | trivial, HQ2⟩
            case measure => simp [intOf]; omega
      · obtain rfl : k = m := by omega
        obtain ⟨V, st, hbV, fV⟩ := box_whole (V := wr) (b := w.heap.size) (c := V8 (fun j => S.fold min z j (k + 1))) HV.out.2.1 rfl (by kernel_rfl) (by kernel_rfl)
        have ld := load_whole (ty := 42) HV.out.1 Try.underlying42 rfl (by kernel_rfl)
        have lr := loadVar_whole (ty := 42) hbV Try.underlying42 rfl (by kernel_rfl)
        have FIN := hid (HV.out.2.2.trans fV (fun i hi e => by omega))
        generalize hva : Value.agg (V8 (fun j => S.fold min z j (k + 1))) = va at st ld lr
        have HVA := hid hva
        have ST := hid st
        have LD := hid ld
        have LR := hid lr
        clear hva st ld lr hbV fV HV
        go_wp2_with (first
          | (refine wpList_load_v LD.out (by exact ⟨_, rfl, rfl⟩) (by kernel_rfl) ?_)
          | (refine wpList_store_v ST.out (by exact ⟨_, _, rfl, rfl, rfl⟩) (by kernel_rfl) ?_))
        exact bodyPost_ret (v := va) (results_cell1 Try.results43 _ _ _ _ _ (by rfl) LR.out) rfl ⟨by rw [← HVA.out, HM.out], FIN.out⟩
end Go.Proofs.Ytfbpaboakdpceaa
