/-
  WireSums, the walk: the check of lists is that of all their bytes.
-/
import Derived.Test.YtilliicanbbjkaaLive
import Derived.Test.YtilliicanbbjkaaRefCrc
namespace Go.Proofs.Ytilliicanbbjkaa
open Go.RowKit
set_option linter.unusedVariables false

theorem Sls.kept {S : Nat → Prop} {w w' : World} {a : Option Addr} {len : Nat} {bss : List (List UInt8)} (h : Sls w a len bss) (hf : Fr S w w') (hS : ∀ k, k < w.heap.size → ¬ S k) : Sls w' a len bss := by
  obtain ⟨hl, h0⟩ := h
  refine ⟨hl, ?_⟩
  rcases h0 with h0 | ⟨b, off, rfl, hc⟩
  · exact .inl h0
  · refine .inr ⟨b, off, rfl, fun k bs hk => ?_⟩
    obtain ⟨A, L, C, h1, h2, h3⟩ := hc k bs hk
    have hb := World.block_lt_of_cell? w _ h1
    refine ⟨A, L, C, ?_, h2.kept hf (fun hz i hi => hS i (h2.lt hz i hi)), h3⟩
    rw [World.cell?_of_block (w := w) (w' := w') (hf.block b hb (hS b hb))]
    exact h1
/-- a row of one row -/
theorem Sls.one {w : World} {a : Option Addr} {n c : Nat} {bs : List UInt8} (h : Sl w a n bs) (hn : n ≤ 9223372036854775807) (t : TypeId) : Sls (w.alloc (.cells #[.slice a n c] t)) (some ⟨w.heap.size, 0, none⟩) 1 [bs] := by
  refine ⟨rfl, .inr ⟨_, _, rfl, fun k b hk => ?_⟩⟩
  match k, hk with
  | 0, hk =>
    simp at hk; subst hk
    exact ⟨a, n, c, by rw [cell_of_row _ _ _ _ _ _ (Go.heap_alloc_new w _)]; rfl, h.alloc _, hn⟩

set_option maxHeartbeats 800000 in
theorem wireSums_walk (a : Option Addr) (len cap : Nat) (bss : List (List UInt8)) (w : World) (h : Sls w a len bss) (hm : len ≤ 9223372036854775807) (hbd : bss.flatten.length ≤ 140737488355328) :
    Calls Try.prog 8 #[.slice a len cap] w fun e w' => e = .returned (.bool true) ∧ Below w.heap.size w w' := by
  go_enter Try.func8, Try.ntmps8
  go_wp2
  go_loopw [3, 8] (fun v i wr => ∃ (k : Nat) (a1 : Option Addr) (c1 : Nat), k ≤ len ∧ i = .int .i64 k ∧ v = .slice a1 (bss.take k).flatten.length c1 ∧ Ow w.heap.size wr a1 c1 (bss.take k).flatten ∧ Fr (fun _ => False) w wr) (fun _ i _ => len - (intOf i).toNat)
  case atStart => exact ⟨0, none, 0, by omega, rfl, rfl, Ow.nil _ _, Fr.refl _ _⟩
  case round =>
    obtain ⟨k, a1, c1, hk, rfl, rfl, how, hfr⟩ := hrel
    have hsz := hfr.size
    have HS := hid (h.kept hfr (fun _ _ h => h))
    obtain ⟨al, hal⟩ : ∃ al, al = (bss.take k).flatten := ⟨_, rfl⟩
    rw [← hal] at how ⊢
    obtain ⟨n, hn⟩ : ∃ n, al.length = n := ⟨_, rfl⟩
    rw [hn]
    have HN := hid hn
    have HO := hid how
    have HF := hid hfr
    have HAL := hid hal
    clear how hfr hal hn
    by_cases hlt : k < len
    · obtain ⟨b, off, bs, A, L, C, rfl, hx, hc, hsl, hL⟩ := HS.out.at hlt
      have hnx : (bss.take (k + 1)).flatten = al ++ bs := by rw [flat_next hx, HAL.out]
      have hle : n + L ≤ 200000000000000 := by
        have h1 : (bss.take (k + 1)).flatten.length ≤ bss.flatten.length := by
          conv => rhs; rw [← List.take_append_drop (k + 1) bss]
          rw [List.flatten_append, List.length_append]; omega
        rw [hnx, List.length_append, HN.out, hsl.1] at h1
        omega
      have HNX := hid hnx
      clear hx hnx
      go_wp2_with (at_builtin; refine wpList_append_b _ rfl (.tmp 12) (.tmp 13) rfl w.heap.size a1 n c1 al rfl HN.out HO.out A L C bs rfl hsl hle hsz ?_; intro a2 c2 w2 how2 hgb hat)
      have f2 : Fr (fun _ => False) w w2 := HF.out.trans (Fr.of_grown hgb) (fun i hi e => by have := (HO.out.lt i e).1; omega)
      have HF2 := hid f2
      have HO2 := hid how2
      clear f2 hgb hat how2
      go_wp2
      go_roundw
      case rel => exact ⟨k + 1, a2, c2, by omega, by go_num, by rw [HNX.out, List.length_append, HN.out, hsl.1], by rw [HNX.out]; exact HO2.out, HF2.out⟩
      case measure => simp [intOf]; omega
    · have hall : al = bss.flatten := by rw [HAL.out, List.take_of_length_le (by rw [h.1]; omega)]
      have hln : n ≤ 9223372036854775807 := by have := HN.out; rw [hall] at this; omega
      have HALL := hid hall
      clear hall HAL
      go_wp2_with fail
      refine (live_any _).mono ?_
      rintro e w1 ⟨rfl, f1⟩
      have HS1 := hid (HS.out.kept f1 (fun _ _ h => h))
      have HO1 := hid (HO.out.kept f1 (fun _ _ h => h))
      have F1 := hid (HF.out.trans f1 (fun _ _ h => h))
      clear f1 HS HO HF
      obtain ⟨q, hq⟩ : ∃ q, q = M.crc bss.flatten := ⟨_, rfl⟩
      have hsl1 : Sl w1 a1 n al := by have := HO1.out.sl; rw [HN.out] at this; exact this
      have K1 := hid (sum_any a len cap bss w1 HS1.out hm)
      have K2 := hid (refSum_any a1 n c1 al w1 hsl1 hln)
      have K3 := hid (sum_any (some ⟨w1.heap.size, 0, none⟩) 1 1 [al] (w1.alloc (.cells #[.slice a1 n c1] 26)) (Sls.one hsl1 hln 26) (by omega))
      have K4 := hid (refSum_any a1 n c1 al (w1.alloc (.cells #[.slice a1 n c1] 26)) (hsl1.alloc _) hln)
      have e1 : ([al] : List (List UInt8)).flatten = al := by simp
      rw [e1, HALL.out, ← hq] at K3
      rw [HALL.out, ← hq] at K2 K4
      rw [← hq] at K1
      clear e1 hq hsl1 HS1 HALL
      go_wp2_with fail
      refine K1.out.mono ?_
      rintro e w2 ⟨rfl, rfl⟩
      go_wp2_with fail
      refine K2.out.mono ?_
      rintro e w2 ⟨rfl, rfl⟩
      go_wp2_with fail
      refine K3.out.mono ?_
      rintro e w2 ⟨rfl, rfl⟩
      go_wp2_with fail
      refine K4.out.mono ?_
      rintro e w2 ⟨rfl, rfl⟩
      go_wp2
      go_ret
      exact ⟨rfl, (Fr.alloc F1.out _).below (Nat.le_refl _) (fun _ _ h => h)⟩
end Go.Proofs.Ytilliicanbbjkaa
