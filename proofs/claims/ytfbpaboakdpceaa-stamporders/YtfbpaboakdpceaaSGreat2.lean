/-
  The greatest of many stamps: the code's.
-/
import Derived.Test.YtfbpaboakdpceaaSGreat
namespace Go.Proofs.Ytfbpaboakdpceaa
open Go.RowKit
set_option linter.unusedVariables false
set_option linter.unusedSimpArgs false

theorem infoSt : (Try.prog.info? 23).map (fun i => (i.zero, i.size, i.bytes)) = some (some (.agg #[.int .i64 0, .int .i64 0]), 2, 16) := by kernel_rfl
def cutS2 (a : Option Addr) (c l : Nat) : Option Addr := if c = l then a else a.map (·.add (l * 2))
theorem run_cutS_lo (w : World) (a : Option Addr) (n c l : Nat) (hl : l ≤ n) (x : Int) (hx : x = (l : Int)) :
    (Instr.sliceAt 24 (.slice a n c) (some (.int .i64 x)) none none).run Try.prog w = .ok (.slice (cutS2 a c l) (n - l) (c - l)) w := by
  subst hx
  obtain ⟨i0, hi, hz0, hz1, hz2⟩ := info_parts infoSt
  have h1 : (Instr.sliceBound (.int .i64 (l : Int)) n .sliceB).run Try.prog w = .ok l w := by
    have : (0 : Int) ≤ (l : Int) ∧ (l : Int) ≤ (n : Int) := by omega
    simp [Instr.sliceBound, asIntOf, this]
  simp [Instr.sliceAt, Instr.slice, Instr.sliceBounds, h1, run_underlying Try.underlying24, sizeOf, typeInfo, hi, hz1, cutS2]
set_option maxHeartbeats 3200000 in
theorem sgreat_any {w : World} {a : Option Addr} {n c : Nat} {z : Nat → Nat → Int} (h : Ri w 2 a n z) (hb : n ≤ 140737488355328) (hcap : n ≤ c) : Calls Try.prog 14 #[.slice a n c] w fun e w' => e = .returned (.agg #[.int .i64 (S.gr z n).1, .int .i64 (S.gr z n).2]) ∧ Fr (fun _ => False) w w' := by
  by_cases hn : n = 0
  · subst hn
    obtain ⟨V, st, hbV, fV⟩ := box_whole (V := w.alloc (.cells #[.int .i64 0, .int .i64 0] 23)) (b := w.heap.size) (c := #[.int .i64 0, .int .i64 0]) (Go.heap_alloc_new w _) rfl (by kernel_rfl) (by kernel_rfl)
    have lr := loadVar_whole (ty := 23) hbV Try.underlying23 rfl (by kernel_rfl)
    have FIN := hid ((Fr.alloc (Fr.refl (fun _ => False) w) _).trans fV (fun i hi e => by omega))
    have ST := hid st
    have LR := hid lr
    clear st lr hbV fV h hb hcap
    go_enter Try.func14, Try.ntmps14
    go_wp2_with (first
      | (refine wpList_store_v ST.out (by exact ⟨_, _, rfl, rfl, rfl⟩) (by kernel_rfl) ?_))
    exact bodyPost_ret (v := .agg #[.int .i64 0, .int .i64 0]) (results_cell1 Try.results14 _ _ _ _ _ (by rfl) LR.out) rfl ⟨rfl, FIN.out⟩
  · obtain ⟨b, o, rfl, hc⟩ := h.some_of (by omega)
    have HC := hid hc
    have l0 := Ri.load2 hc (Fr.alloc (Fr.refl (fun _ => False) w) (.cells #[.int .i64 0, .int .i64 0] 23)) (i := 0) (by omega)
    rw [show o + 0 * 2 = o by omega] at l0
    obtain ⟨V, st, hbV, fV⟩ := box_whole (V := (w.alloc (.cells #[.int .i64 0, .int .i64 0] 23)).alloc (.cells #[.int .i64 0, .int .i64 0] 23)) (b := w.heap.size + 1) (c := #[.int .i64 (z 0 0), .int .i64 (z 0 1)]) (S.two1 w _ _) rfl (by kernel_rfl) (by kernel_rfl)
    have HV0 := hid (show Sb V (w.heap.size + 1) (S.gr z (0 + 1)) ∧ Sb V w.heap.size (0, 0) ∧ Fr (fun _ => False) w V from ⟨hbV, fV.cells (S.two0 w _ _) (by omega), (Fr.alloc (Fr.alloc (Fr.refl (fun _ => False) w) _) _).trans fV (fun i hi e => by omega)⟩)
    have L0 := hid l0
    have ST0 := hid st
    clear h hc l0 st hbV fV
    have hn1 : ((n : Int) == 0) = false := by simp; omega
    have hn0 : (0 : Int) < (n : Int) := by omega
    have hcut : 0 < n - 1 → cutS2 (some ⟨b, o, none⟩) c 1 = some ⟨b, o + 2, none⟩ := fun h => by
      unfold cutS2
      rw [if_neg (by omega)]
      rfl
    have cut := fun W => run_cutS_lo W (some ⟨b, o, none⟩) n c 1 (by omega) 1 rfl
    generalize cutS2 (some ⟨b, o, none⟩) c 1 = A at hcut cut
    obtain ⟨m, hm⟩ : ∃ m, n - 1 = m := ⟨_, rfl⟩
    rw [hm] at hcut cut
    have CUT := hid cut
    have HCUT := hid hcut
    have HM := hid (show n = m + 1 by omega)
    clear cut hcut hm
    generalize hva : Value.agg #[.int .i64 (z 0 0), .int .i64 (z 0 1)] = va at L0 ST0
    clear hva
    go_enter Try.func14, Try.ntmps14
    go_wp2_with (first
      | (refine wpList_load_v L0.out (by exact ⟨_, rfl, rfl⟩) (by kernel_rfl) ?_)
      | (refine wpList_store_v ST0.out (by exact ⟨_, _, rfl, rfl, rfl⟩) (by kernel_rfl) ?_)
      | (refine wpList_slice_v (CUT.out _) (by exact ⟨_, _, _, _, rfl, rfl, rfl, rfl, rfl⟩) (by kernel_rfl) ?_))
    clear ST0 L0 CUT
    go_loopw [16] (fun i wr => ∃ (k : Nat), k ≤ m ∧ i = .int .i64 k ∧ Hid (Sb wr (w.heap.size + 1) (S.gr z (k + 1)) ∧ Sb wr w.heap.size (0, 0) ∧ Fr (fun _ => False) w wr)) (fun i _ => m - (intOf i).toNat)
    case atStart => exact ⟨0, Nat.zero_le _, rfl, HV0⟩
    case round =>
      clear HV0
      obtain ⟨k, hk, rfl, HV⟩ := hrel
      by_cases hlt : k < m
      · obtain rfl := HCUT.out (by omega)
        have i0 : (0 : Int) ≤ (k : Int) := by omega
        have i1 : (k : Int) < (m : Int) := by omega
        have hnb : m ≤ 140737488355328 := by have := HM.out; omega
        have l1 := Ri.load2 HC.out HV.out.2.2 (i := k + 1) (by have := HM.out; omega)
        rw [show o + (k + 1) * 2 = o + 2 + k * 2 by omega] at l1
        obtain ⟨V, st, hbV, fV⟩ := box_whole (V := wr.alloc (.cells #[.int .i64 0, .int .i64 0] 23)) (b := wr.heap.size) (c := #[.int .i64 (z (k + 1) 0), .int .i64 (z (k + 1) 1)]) (Go.heap_alloc_new wr _) rfl (by kernel_rfl) (by kernel_rfl)
        have fW : Fr (fun _ => False) wr V := (Fr.alloc (Fr.refl (fun _ => False) wr) _).trans fV (fun i hi e => by omega)
        have hg := HV.out.1.fr fW
        have LS := hid (fun U (hf : Fr (fun _ => False) V U) => load_whole (ty := 23) (hf.cells hbV (fun h => h)) Try.underlying23 rfl (by kernel_rfl))
        have LG := hid (load_whole (ty := 23) hg Try.underlying23 rfl (by kernel_rfl))
        have HV1 := hid (fun U (hf : Fr (fun _ => False) V U) => show Sb U (w.heap.size + 1) (S.gr z (k + 1)) ∧ Sb U w.heap.size (0, 0) ∧ Fr (fun _ => False) w U from ⟨hg.fr hf, (HV.out.2.1.fr fW).fr hf, (HV.out.2.2.trans fW (fun _ _ h => h)).trans hf (fun _ _ h => h)⟩)
        have KC := hid (scompare_any (z (k + 1) 0) (z (k + 1) 1) (S.gr z (k + 1)).1 (S.gr z (k + 1)).2)
        have HE := hid (show S.gr z (k + 1 + 1) = if 0 < S.cmp (z (k + 1) 0) (z (k + 1) 1) (S.gr z (k + 1)).1 (S.gr z (k + 1)).2 then (z (k + 1) 0, z (k + 1) 1) else S.gr z (k + 1) from rfl)
        have L1 := hid l1
        have ST1 := hid st
        clear l1 st hbV fV fW hg HV
        by_cases hc0 : 0 < S.cmp (z (k + 1) 0) (z (k + 1) 1) (S.gr z (k + 1)).1 (S.gr z (k + 1)).2
        · rw [if_pos hc0] at HE
          generalize S.cmp (z (k + 1) 0) (z (k + 1) 1) (S.gr z (k + 1)).1 (S.gr z (k + 1)).2 = x at hc0 KC
          go_wp2_with (first
            | (refine wpList_load_v L1.out (by exact ⟨_, rfl, rfl⟩) (by kernel_rfl) ?_)
            | (refine wpList_load_v (LS.out _ FU.out) (by exact ⟨_, rfl, rfl⟩) (by kernel_rfl) ?_)
            | (refine wpList_load_v (LS.out _ (Fr.refl _ _)) (by exact ⟨_, rfl, rfl⟩) (by kernel_rfl) ?_)
            | (refine wpList_load_v LG.out (by exact ⟨_, rfl, rfl⟩) (by kernel_rfl) ?_)
            | (refine wpList_store_v ST2.out (by exact ⟨_, _, rfl, rfl, rfl⟩) (by kernel_rfl) ?_)
            | (refine wpList_store_v ST1.out (by exact ⟨_, _, rfl, rfl, rfl⟩) (by kernel_rfl) ?_)
            | (go_at_call 10; refine (KC.out _).mono ?_; rintro e u1 ⟨rfl, hfu⟩; have FU := hid hfu; obtain ⟨V2, st2, hbV2, fV2⟩ := box_whole (b := w.heap.size + 1) (c := #[.int .i64 (z (k + 1) 0), .int .i64 (z (k + 1) 1)]) (HV1.out u1 hfu).1 rfl (by kernel_rfl) (by kernel_rfl); have ST2 := hid st2; have FIN := hid (show Sb V2 (w.heap.size + 1) (S.gr z (k + 1 + 1)) ∧ Sb V2 w.heap.size (0, 0) ∧ Fr (fun _ => False) w V2 from ⟨by unfold Sb; rw [HE.out]; exact hbV2, fV2.cells (HV1.out u1 hfu).2.1 (by omega), (HV1.out u1 hfu).2.2.trans fV2 (fun i hi e => by omega)⟩); clear hfu st2 hbV2 fV2))
          go_roundw
          case rel => exact ⟨k + 1, by omega, by first | go_num | trivial, FIN⟩
          case measure => simp [intOf]; omega
        · rw [if_neg hc0] at HE
          generalize S.cmp (z (k + 1) 0) (z (k + 1) 1) (S.gr z (k + 1)).1 (S.gr z (k + 1)).2 = x at hc0 KC
          go_wp2_with (first
            | (refine wpList_load_v L1.out (by exact ⟨_, rfl, rfl⟩) (by kernel_rfl) ?_)
            | (refine wpList_load_v (LS.out _ (Fr.refl _ _)) (by exact ⟨_, rfl, rfl⟩) (by kernel_rfl) ?_)
            | (refine wpList_load_v LG.out (by exact ⟨_, rfl, rfl⟩) (by kernel_rfl) ?_)
            | (refine wpList_store_v ST1.out (by exact ⟨_, _, rfl, rfl, rfl⟩) (by kernel_rfl) ?_)
            | (go_at_call 10; refine (KC.out _).mono ?_; rintro e u1 ⟨rfl, hfu⟩; have FIN := hid (show Sb u1 (w.heap.size + 1) (S.gr z (k + 1 + 1)) ∧ Sb u1 w.heap.size (0, 0) ∧ Fr (fun _ => False) w u1 from ⟨by rw [HE.out]; exact (HV1.out u1 hfu).1, (HV1.out u1 hfu).2⟩); clear hfu))
          go_roundw
          case rel => exact ⟨k + 1, by omega, by first | go_num | trivial, FIN⟩
          case measure => simp [intOf]; omega
      · obtain rfl : k = m := by omega
        obtain ⟨V, st, hbV, fV⟩ := box_whole (V := wr) (b := w.heap.size) (c := #[.int .i64 (S.gr z (k + 1)).1, .int .i64 (S.gr z (k + 1)).2]) HV.out.2.1 rfl (by kernel_rfl) (by kernel_rfl)
        have ld := load_whole (ty := 23) HV.out.1 Try.underlying23 rfl (by kernel_rfl)
        have lr := loadVar_whole (ty := 23) hbV Try.underlying23 rfl (by kernel_rfl)
        have FIN := hid (HV.out.2.2.trans fV (fun i hi e => by omega))
        generalize hva : Value.agg #[.int .i64 (S.gr z (k + 1)).1, .int .i64 (S.gr z (k + 1)).2] = va at st ld lr
        have HVA := hid hva
        have ST := hid st
        have LD := hid ld
        have LR := hid lr
        clear hva st ld lr hbV fV HV
        go_wp2_with (first
          | (refine wpList_load_v LD.out (by exact ⟨_, rfl, rfl⟩) (by kernel_rfl) ?_)
          | (refine wpList_store_v ST.out (by exact ⟨_, _, rfl, rfl, rfl⟩) (by kernel_rfl) ?_))
        exact bodyPost_ret (v := va) (results_cell1 Try.results14 _ _ _ _ _ (by rfl) LR.out) rfl ⟨by rw [← HVA.out, HM.out], FIN.out⟩
end Go.Proofs.Ytfbpaboakdpceaa
