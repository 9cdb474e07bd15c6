/-
  WireNone, the walk: writers and readers that no call made refuse.
-/
import Derived.Test.YtilliicanbbjkabNone
namespace Go.Proofs.Ytilliicanbbjkab
open Go.RowKit
set_option linter.unusedVariables false

set_option maxRecDepth 20000 in
set_option maxHeartbeats 1600000 in
theorem wireNone_walk (n : Int) (a : Option Addr) (len cap : Nat) (w : World) (hm : len ≤ 9223372036854775807) :
    Calls Try.prog 5 #[.int .i64 n, .slice a len cap] w fun e w' => e = .returned (.bool true) ∧ Below w.heap.size w w' := by
  go_enter Try.func5, Try.ntmps5
  go_wp2
  go_loopw [21] (fun i wr => ∃ (k : Nat), k ≤ 2 ∧ i = .int .i64 k ∧ Fr (fun _ => False) w wr ∧ wr.cell? ⟨w.heap.size + 1, 0, none⟩ = some (.pointer none) ∧ wr.cell? ⟨w.heap.size + 1, 1, none⟩ = some (.pointer (some ⟨w.heap.size, 0, none⟩)) ∧ wr.cell? ⟨w.heap.size, 0, none⟩ = some (.bool false)) (fun i _ => 2 - (intOf i).toNat)
  case atStart => exact ⟨0, by omega, rfl, Fr.alloc (Fr.alloc (Fr.refl _ _) _) _, by simp, by simp, by simp⟩
  case round =>
    obtain ⟨k, hk, rfl, hfr, hc0, hc1, hc2⟩ := hrel
    have HF := hid hfr
    clear hfr
    by_cases hlt : k < 2
    · obtain ⟨v, hv, hcv⟩ : ∃ v, No wr v ∧ wr.cell? ⟨w.heap.size + 1, k, none⟩ = some v := by
        match k, hlt with
        | 0, _ => exact ⟨_, .inl rfl, hc0⟩
        | 1, _ => exact ⟨_, .inr ⟨_, rfl, hc2⟩, hc1⟩
      have HV := hid hv
      have HC : Hid _ := hid (And.intro hc0 (And.intro hc1 hc2))
      clear hv hc0 hc1 hc2
      go_wp2_with (first
        | (go_at_call 17; refine (noWInt _ v HV.out n).mono ?_; rintro e w1 ⟨rfl, rfl⟩)
        | (go_at_call 12; refine (noWBytes _ v HV.out a len cap hm).mono ?_; rintro e w1 ⟨rfl, rfl⟩)
        | (go_at_call 18; refine (noWText _ v HV.out _ (by decide)).mono ?_; rintro e w1 ⟨rfl, hf1⟩; have HV1 := hid (HV.out.kept hf1); have HF1 := hid hf1; clear hf1)
        | (go_at_call 19; refine (noWFlag _ v HV1.out true).mono ?_; rintro e w2 ⟨rfl, rfl⟩)
        | (go_at_call 20; refine (noWLen _ v HV1.out).mono ?_; rintro e w2 ⟨rfl, rfl⟩)
        | (go_at_call 14; refine (noWOut _ v HV1.out).mono ?_; rintro e w2 ⟨rfl, rfl⟩))
      go_roundw
      case rel =>
        have kept : ∀ {b o : Nat} {v : Value}, wr.cell? ⟨b, o, none⟩ = some v → w1.cell? ⟨b, o, none⟩ = some v := fun {b o v} h => by
          rw [World.cell?_of_block (w := wr) (w' := w1) (HF1.out.block b (World.block_lt_of_cell? wr _ h) (fun h => h))]; exact h
        exact ⟨k + 1, by omega, by go_num, HF.out.trans HF1.out (fun _ _ h => h), kept HC.out.1, kept HC.out.2.1, kept HC.out.2.2⟩
      case measure => simp [intOf]; omega
    · clear hc0 hc1 hc2
      have hsz := HF.out.size
      obtain ⟨B1, hB⟩ : ∃ B1, wr.heap.size = B1 := ⟨_, rfl⟩
      go_wp2
      go_loopw [61] (fun i wq => ∃ (k : Nat), k ≤ 2 ∧ i = .int .i64 k ∧ Fr (fun _ => False) w wq ∧ wq.cell? ⟨B1 + 1, 0, none⟩ = some (.pointer none) ∧ wq.cell? ⟨B1 + 1, 1, none⟩ = some (.pointer (some ⟨B1, 0, none⟩)) ∧ wq.cell? ⟨B1, 0, none⟩ = some (.bool false)) (fun i _ => 2 - (intOf i).toNat)
      case atStart => subst hB; exact ⟨0, by omega, rfl, Fr.alloc (Fr.alloc HF.out _) _, by simp, by simp, by simp⟩
      case round =>
        clear hB hsz HF
        obtain ⟨j, hj, rfl, hfr, hc0, hc1, hc2⟩ := hrel
        have HF2 := hid hfr
        clear hfr
        by_cases hjlt : j < 2
        · obtain ⟨v, hv, hcv⟩ : ∃ v, No wr v ∧ wr.cell? ⟨B1 + 1, j, none⟩ = some v := by
            match j, hjlt with
            | 0, _ => exact ⟨_, .inl rfl, hc0⟩
            | 1, _ => exact ⟨_, .inr ⟨_, rfl, hc2⟩, hc1⟩
          have HV := hid hv
          have HC := hid (And.intro hc0 (And.intro hc1 hc2))
          clear hv hc0 hc1 hc2
          have hstr : (str []).toList = [] := by rw [ByteArray.toList_eq, str_toList]
          go_wp2_with (first
            | (go_at_call 21; refine (noRInt _ v HV.out).mono ?_; rintro e w1 ⟨rfl, rfl⟩)
            | (go_at_call 16; refine (noRBytes _ v HV.out).mono ?_; rintro e w1 ⟨xa, xc, rfl, hf1⟩; have HV1 := hid (HV.out.kept hf1); have HF1 := hid hf1; clear hf1)
            | (go_at_call 22; refine (noRText _ v HV1.out).mono ?_; rintro e w2 ⟨rfl, rfl⟩)
            | (go_at_call 23; refine (noRFlag _ v HV1.out).mono ?_; rintro e w2 ⟨rfl, rfl⟩)
            | (go_at_call 24; refine (noRLeft _ v HV1.out).mono ?_; rintro e w2 ⟨rfl, rfl⟩)
            | (go_at_call 25; refine (noREnd _ v HV1.out).mono ?_; rintro e w2 ⟨rfl, rfl⟩))
          go_roundw
          case rel =>
            have kept : ∀ {b o : Nat} {v : Value}, wr.cell? ⟨b, o, none⟩ = some v → w1.cell? ⟨b, o, none⟩ = some v := fun {b o v} h => by
              rw [World.cell?_of_block (w := wr) (w' := w1) (HF1.out.block b (World.block_lt_of_cell? wr _ h) (fun h => h))]; exact h
            exact ⟨j + 1, by omega, by go_num, HF2.out.trans HF1.out (fun _ _ h => h), kept HC.out.1, kept HC.out.2.1, kept HC.out.2.2⟩
          case measure => simp [intOf]; omega
        · clear hc0 hc1 hc2
          go_wp2_with fail
          refine (live_any _).mono ?_
          rintro e w1 ⟨rfl, f1⟩
          have F1 := hid (HF2.out.trans f1 (fun _ _ h => h))
          clear f1
          go_wp2
          go_ret
          exact ⟨rfl, F1.out.below (Nat.le_refl _) (fun _ _ h => h)⟩
end Go.Proofs.Ytilliicanbbjkab
