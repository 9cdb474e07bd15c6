/-
  The document's Join and Meet.
-/
import Derived.Test.YtfbpaboakdpceaaSFold
import Derived.Deep.QuietTactic
namespace Go.Proofs.Ytfbpaboakdpceaa
open Go.RowKit
set_option linter.unusedVariables false
set_option linter.unusedSimpArgs false

set_option maxHeartbeats 3200000 in
theorem rsjoin_any {w : World} {a : Option Addr} {n c : Nat} {z : Nat → Nat → Int} (h : Ri w 8 a n z) (hb : n ≤ 140737488355328) : Calls Try.prog 25 #[.slice a n c] w fun e w' => e = .returned (.agg (V8 (fun j => S.fold max z j n))) ∧ Fr (fun _ => False) w w' := by
  have HH := hid h
  clear h
  go_enter Try.func25, Try.ntmps25
  go_wp2
  go_loopw [4] (fun i wr => ∃ (k : Nat), k ≤ n ∧ i = .int .i64 k ∧ Hid (Vb wr (w.heap.size + 1) (fun j => S.fold max z j k) ∧ Vb wr w.heap.size (fun _ => 0) ∧ Fr (fun _ => False) w wr)) (fun i _ => n - (intOf i).toNat)
  case atStart => exact ⟨0, Nat.zero_le _, rfl, hid ⟨S.two1 w _ _, S.two0 w _ _, Fr.alloc (Fr.alloc (Fr.refl _ _) _) _⟩⟩
  case round =>
    obtain ⟨k, hk, rfl, HV⟩ := hrel
    by_cases hlt : k < n
    · obtain ⟨b, o, rfl, hc⟩ := HH.out.some_of (by omega)
      have HC := hid hc
      clear hc
      have i0 : (0 : Int) ≤ (k : Int) := by omega
      have i1 : (k : Int) < (n : Int) := by omega
      go_wp2
      obtain ⟨wo, hwo⟩ : ∃ wo, wo = wr := ⟨_, rfl⟩
      rw [← hwo] at HV ⊢
      clear hwo
      go_loopw [5] (fun i wr => ∃ (q : Nat), q ≤ 8 ∧ i = .int .i64 q ∧ Hid (Vb wr (w.heap.size + 1) (S.mix q (fun j => S.fold max z j (k + 1)) (fun j => S.fold max z j k)) ∧ Vb wr w.heap.size (fun _ => 0) ∧ Fr (fun _ => False) w wr)) (fun i _ => 8 - (intOf i).toNat)
      case atStart => exact ⟨0, by omega, rfl, hid ⟨by rw [S.mix_0]; exact HV.out.1, HV.out.2⟩⟩
      case round =>
        obtain ⟨q, hq, rfl, HQ⟩ := hrel
        by_cases hq8 : q < 8
        · have j0 : (0 : Int) ≤ (q : Int) := by omega
          have j1 : (q : Int) < 8 := by omega
          have c0 : wr.cell? ⟨b, o + k * 8 + q, none⟩ = some (.int .i64 (z k q)) := cellFr HQ.out.2.2 (fun h => h) (HC.out k q hlt hq8)
          have c1 : wr.cell? ⟨w.heap.size + 1, q, none⟩ = some (.int .i64 (S.fold max z q k)) := by have := HQ.out.1.cell hq8; rwa [S.mix_at] at this
          have z1 : wr.frozen? ⟨w.heap.size + 1, q, none⟩ = false := HQ.out.1.frozen q
          have hlt2 : w.heap.size + 1 < wr.heap.size := lt_of_row HQ.out.1
          have STEP := hid (fun (V : World) (v : Int) (hf : Fr (fun _ => False) wr V) (hv : v = S.fold max z q (k + 1)) => show Vb (V.setCell ⟨w.heap.size + 1, q, none⟩ (.int .i64 v)) (w.heap.size + 1) (S.mix (q + 1) (fun j => S.fold max z j (k + 1)) (fun j => S.fold max z j k)) ∧ Vb (V.setCell ⟨w.heap.size + 1, q, none⟩ (.int .i64 v)) w.heap.size (fun _ => 0) ∧ Fr (fun _ => False) w (V.setCell ⟨w.heap.size + 1, q, none⟩ (.int .i64 v)) from ⟨(HQ.out.1.fr hf).set hq8 hv, (Below.heap_setCell _ _ _ _ (by show w.heap.size ≠ w.heap.size + 1; omega)).trans (HQ.out.2.1.fr hf), Fr.setCell (HQ.out.2.2.trans hf (fun _ _ h => h)) (fun h => by have : w.heap.size + 1 < w.heap.size := h; omega) _⟩)
          have STAY := hid (fun (V : World) (hf : Fr (fun _ => False) wr V) (hv : S.fold max z q k = S.fold max z q (k + 1)) => show Vb V (w.heap.size + 1) (S.mix (q + 1) (fun j => S.fold max z j (k + 1)) (fun j => S.fold max z j k)) ∧ Vb V w.heap.size (fun _ => 0) ∧ Fr (fun _ => False) w V from ⟨(HQ.out.1.fr hf).keep hv, HQ.out.2.1.fr hf, HQ.out.2.2.trans hf (fun _ _ h => h)⟩)
          by_cases hk0 : k = 0
          · have HE := hid (show z k q = S.fold max z q (k + 1) by subst hk0; rfl)
            have hk1 : ((k : Int) == 0) = true := by subst hk0; rfl
            generalize hx : z k q = x at c0 HE
            generalize hy : S.fold max z q k = y at c1
            clear hx hy hk0
            go_wp2
            go_quiet (fail)
            all_goals go_wp2
            all_goals (try go_region)
            all_goals go_wp2
            all_goals go_roundw
            case rel => exact ⟨q + 1, by omega, by first | go_num | trivial, hid (STEP.out _ x (by first | exact Fr.refl _ _ | exact Fr.drew (Fr.refl _ _) | exact Fr.drew (Fr.drew (Fr.refl _ _)) | exact Fr.drewN _ _ | exact Fr.drew (Fr.drewN _ _)) HE.out)⟩
            case measure => simp [intOf]; omega
          · have HE := hid (S.fold_succ max z q hk0)
            have hk1 : ((k : Int) == 0) = false := by simp; omega
            clear hk0
            by_cases hcm : S.fold max z q k < z k q
            · have HE2 := hid (show z k q = S.fold max z q (k + 1) by rw [HE.out]; omega)
              generalize hx : z k q = x at c0 HE2 hcm
              generalize hy : S.fold max z q k = y at c1 hcm
              clear hx hy HE
              go_wp2
              go_quiet (fail)
              all_goals go_wp2
              all_goals (try go_region)
              all_goals go_wp2
              all_goals go_roundw
              case rel => exact ⟨q + 1, by omega, by first | go_num | trivial, hid (STEP.out _ x (by first | exact Fr.refl _ _ | exact Fr.drew (Fr.refl _ _) | exact Fr.drew (Fr.drew (Fr.refl _ _)) | exact Fr.drewN _ _ | exact Fr.drew (Fr.drewN _ _)) HE2.out)⟩
              case measure => simp [intOf]; omega
            · have HE2 := hid (show S.fold max z q k = S.fold max z q (k + 1) by rw [HE.out]; omega)
              generalize hx : z k q = x at c0 hcm
              generalize hy : S.fold max z q k = y at c1 hcm
              clear hx hy HE
              go_wp2
              go_quiet (fail)
              all_goals go_wp2
              all_goals go_roundw
              case rel => exact ⟨q + 1, by omega, by first | go_num | trivial, hid (STAY.out _ (by first | exact Fr.refl _ _ | exact Fr.drew (Fr.refl _ _) | exact Fr.drew (Fr.drew (Fr.refl _ _)) | exact Fr.drewN _ _ | exact Fr.drew (Fr.drewN _ _)) HE2.out)⟩
              case measure => simp [intOf]; omega
        · obtain rfl : q = 8 := by omega
          have HQ2 := hid (show Vb wr (w.heap.size + 1) (fun j => S.fold max z j (k + 1)) ∧ Vb wr w.heap.size (fun _ => 0) ∧ Fr (fun _ => False) w wr from ⟨by have := HQ.out.1; unfold Vb at this ⊢; rwa [S.mix_8] at this, HQ.out.2⟩)
          go_wp2
          go_roundw
          case rel => exact ⟨k + 1, by omega, by first | go_num | trivial, HQ2⟩
          case measure => simp [intOf]; omega
    · obtain rfl : k = n := by omega
      obtain ⟨V, st, hbV, fV⟩ := box_whole (V := wr) (b := w.heap.size) (c := V8 (fun j => S.fold max z j k)) HV.out.2.1 rfl (by kernel_rfl) (by kernel_rfl)
      have ld := load_whole (ty := 42) HV.out.1 Try.underlying42 rfl (by kernel_rfl)
      have lr := loadVar_whole (ty := 42) hbV Try.underlying42 rfl (by kernel_rfl)
      have FIN := hid (HV.out.2.2.trans fV (fun i hi e => by omega))
      generalize hva : Value.agg (V8 (fun j => S.fold max z j k)) = va at st ld lr
      have HVA := hid hva
      have ST := hid st
      have LD := hid ld
      have LR := hid lr
      clear hva st ld lr hbV fV HV HH
      go_wp2_with (first
        | (refine wpList_load_v LD.out (by exact ⟨_, rfl, rfl⟩) (by kernel_rfl) ?_)
        | (refine wpList_store_v ST.out (by exact ⟨_, _, rfl, rfl, rfl⟩) (by kernel_rfl) ?_))
      exact bodyPost_ret (v := va) (results_cell1 Try.results25 _ _ _ _ _ (by rfl) LR.out) rfl ⟨by rw [HVA.out], FIN.out⟩
set_option maxHeartbeats 3200000 in
theorem rsmeet_any {w : World} {a : Option Addr} {n c : Nat} {z : Nat → Nat → Int} (h : Ri w 8 a n z) (hb : n ≤ 140737488355328) : Calls Try.prog 27 #[.slice a n c] w fun e w' => e = .returned (.agg (V8 (fun j => S.fold min z j n))) ∧ Fr (fun _ => False) w w' := by
  have HH := hid h
  clear h
  go_enter Try.func27, Try.ntmps27
  go_wp2
  go_loopw [4] (fun i wr => ∃ (k : Nat), k ≤ n ∧ i = .int .i64 k ∧ Hid (Vb wr (w.heap.size + 1) (fun j => S.fold min z j k) ∧ Vb wr w.heap.size (fun _ => 0) ∧ Fr (fun _ => False) w wr)) (fun i _ => n - (intOf i).toNat)
  case atStart => exact ⟨0, Nat.zero_le _, rfl, hid ⟨S.two1 w _ _, S.two0 w _ _, Fr.alloc (Fr.alloc (Fr.refl _ _) _) _⟩⟩
  case round =>
    obtain ⟨k, hk, rfl, HV⟩ := hrel
    by_cases hlt : k < n
    · obtain ⟨b, o, rfl, hc⟩ := HH.out.some_of (by omega)
      have HC := hid hc
      clear hc
      have i0 : (0 : Int) ≤ (k : Int) := by omega
      have i1 : (k : Int) < (n : Int) := by omega
      go_wp2
      obtain ⟨wo, hwo⟩ : ∃ wo, wo = wr := ⟨_, rfl⟩
      rw [← hwo] at HV ⊢
      clear hwo
      go_loopw [5] (fun i wr => ∃ (q : Nat), q ≤ 8 ∧ i = .int .i64 q ∧ Hid (Vb wr (w.heap.size + 1) (S.mix q (fun j => S.fold min z j (k + 1)) (fun j => S.fold min z j k)) ∧ Vb wr w.heap.size (fun _ => 0) ∧ Fr (fun _ => False) w wr)) (fun i _ => 8 - (intOf i).toNat)
      case atStart => exact ⟨0, by omega, rfl, hid ⟨by rw [S.mix_0]; exact HV.out.1, HV.out.2⟩⟩
      case round =>
        obtain ⟨q, hq, rfl, HQ⟩ := hrel
        by_cases hq8 : q < 8
        · have j0 : (0 : Int) ≤ (q : Int) := by omega
          have j1 : (q : Int) < 8 := by omega
          have c0 : wr.cell? ⟨b, o + k * 8 + q, none⟩ = some (.int .i64 (z k q)) := cellFr HQ.out.2.2 (fun h => h) (HC.out k q hlt hq8)
          have c1 : wr.cell? ⟨w.heap.size + 1, q, none⟩ = some (.int .i64 (S.fold min z q k)) := by have := HQ.out.1.cell hq8; rwa [S.mix_at] at this
          have z1 : wr.frozen? ⟨w.heap.size + 1, q, none⟩ = false := HQ.out.1.frozen q
          have hlt2 : w.heap.size + 1 < wr.heap.size := lt_of_row HQ.out.1
          have STEP := hid (fun (V : World) (v : Int) (hf : Fr (fun _ => False) wr V) (hv : v = S.fold min z q (k + 1)) => show Vb (V.setCell ⟨w.heap.size + 1, q, none⟩ (.int .i64 v)) (w.heap.size + 1) (S.mix (q + 1) (fun j => S.fold min z j (k + 1)) (fun j => S.fold min z j k)) ∧ Vb (V.setCell ⟨w.heap.size + 1, q, none⟩ (.int .i64 v)) w.heap.size (fun _ => 0) ∧ Fr (fun _ => False) w (V.setCell ⟨w.heap.size + 1, q, none⟩ (.int .i64 v)) from ⟨(HQ.out.1.fr hf).set hq8 hv, (Below.heap_setCell _ _ _ _ (by show w.heap.size ≠ w.heap.size + 1; omega)).trans (HQ.out.2.1.fr hf), Fr.setCell (HQ.out.2.2.trans hf (fun _ _ h => h)) (fun h => by have : w.heap.size + 1 < w.heap.size := h; omega) _⟩)
          have STAY := hid (fun (V : World) (hf : Fr (fun _ => False) wr V) (hv : S.fold min z q k = S.fold min z q (k + 1)) => show Vb V (w.heap.size + 1) (S.mix (q + 1) (fun j => S.fold min z j (k + 1)) (fun j => S.fold min z j k)) ∧ Vb V w.heap.size (fun _ => 0) ∧ Fr (fun _ => False) w V from ⟨(HQ.out.1.fr hf).keep hv, HQ.out.2.1.fr hf, HQ.out.2.2.trans hf (fun _ _ h => h)⟩)
          by_cases hk0 : k = 0
          · have HE := hid (show z k q = S.fold min z q (k + 1) by subst hk0; rfl)
            have hk1 : ((k : Int) == 0) = true := by subst hk0; rfl
            generalize hx : z k q = x at c0 HE
            generalize hy : S.fold min z q k = y at c1
            clear hx hy hk0
            go_wp2
            go_quiet (fail)
            all_goals go_wp2
            all_goals (try go_region)
            all_goals go_wp2
            all_goals go_roundw
            case rel => exact ⟨q + 1, by omega, by first | go_num | trivial, hid (STEP.out _ x (by first | exact Fr.refl _ _ | exact Fr.drew (Fr.refl _ _) | exact Fr.drew (Fr.drew (Fr.refl _ _)) | exact Fr.drewN _ _ | exact Fr.drew (Fr.drewN _ _)) HE.out)⟩
            case measure => simp [intOf]; omega
          · have HE := hid (S.fold_succ min z q hk0)
            have hk1 : ((k : Int) == 0) = false := by simp; omega
            clear hk0
            by_cases hcm : z k q < S.fold min z q k
            · have HE2 := hid (show z k q = S.fold min z q (k + 1) by rw [HE.out]; omega)
              generalize hx : z k q = x at c0 HE2 hcm
              generalize hy : S.fold min z q k = y at c1 hcm
              clear hx hy HE
              go_wp2
              go_quiet (fail)
              all_goals go_wp2
              all_goals (try go_region)
              all_goals go_wp2
              all_goals go_roundw
              case rel => exact ⟨q + 1, by omega, by first | go_num | trivial, hid (STEP.out _ x (by first | exact Fr.refl _ _ | exact Fr.drew (Fr.refl _ _) | exact Fr.drew (Fr.drew (Fr.refl _ _)) | exact Fr.drewN _ _ | exact Fr.drew (Fr.drewN _ _)) HE2.out)⟩
              case measure => simp [intOf]; omega
            · have HE2 := hid (show S.fold min z q k = S.fold min z q (k + 1) by rw [HE.out]; omega)
              generalize hx : z k q = x at c0 hcm
              generalize hy : S.fold min z q k = y at c1 hcm
              clear hx hy HE
              go_wp2
              go_quiet (fail)
              all_goals go_wp2
              all_goals go_roundw
              case rel => exact ⟨q + 1, by omega, by first | go_num | trivial, hid (STAY.out _ (by first | exact Fr.refl _ _ | exact Fr.drew (Fr.refl _ _) | exact Fr.drew (Fr.drew (Fr.refl _ _)) | exact Fr.drewN _ _ | exact Fr.drew (Fr.drewN _ _)) HE2.out)⟩
              case measure => simp [intOf]; omega
        · obtain rfl : q = 8 := by omega
          have HQ2 := hid (show Vb wr (w.heap.size + 1) (fun j => S.fold min z j (k + 1)) ∧ Vb wr w.heap.size (fun _ => 0) ∧ Fr (fun _ => False) w wr from ⟨by have := HQ.out.1; unfold Vb at this ⊢; rwa [S.mix_8] at this, HQ.out.2⟩)
          go_wp2
          go_roundw
          case rel => exact ⟨k + 1, by omega, by first | go_num | trivial, HQ2⟩
          case measure => simp [intOf]; omega
    · obtain rfl : k = n := by omega
      obtain ⟨V, st, hbV, fV⟩ := box_whole (V := wr) (b := w.heap.size) (c := V8 (fun j => S.fold min z j k)) HV.out.2.1 rfl (by kernel_rfl) (by kernel_rfl)
      have ld := load_whole (ty := 42) HV.out.1 Try.underlying42 rfl (by kernel_rfl)
      have lr := loadVar_whole (ty := 42) hbV Try.underlying42 rfl (by kernel_rfl)
      have FIN := hid (HV.out.2.2.trans fV (fun i hi e => by omega))
      generalize hva : Value.agg (V8 (fun j => S.fold min z j k)) = va at st ld lr
      have HVA := hid hva
      have ST := hid st
      have LD := hid ld
      have LR := hid lr
      clear hva st ld lr hbV fV HV HH
      go_wp2_with (first
        | (refine wpList_load_v LD.out (by exact ⟨_, rfl, rfl⟩) (by kernel_rfl) ?_)
        | (refine wpList_store_v ST.out (by exact ⟨_, _, rfl, rfl, rfl⟩) (by kernel_rfl) ?_))
      exact bodyPost_ret (v := va) (results_cell1 Try.results27 _ _ _ _ _ (by rfl) LR.out) rfl ⟨by rw [HVA.out], FIN.out⟩
end Go.Proofs.Ytfbpaboakdpceaa
