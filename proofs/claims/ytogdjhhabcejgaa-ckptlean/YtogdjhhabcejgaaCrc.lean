/-
  The contracts of the check's functions.
-/
import Derived.Test.YtogdjhhabcejgaaRows
import Derived.Test.YtogdjhhabcejgaaMaths
import Derived.Test.YtogdjhhabcejgaaMem
import Derived.WalkKit
import Derived.Outline
namespace Go.Proofs.Ytogdjhhabcejgaa
open Go.RowKit
set_option linter.unusedVariables false

theorem xor_max (m : Nat) (h : m < 4294967296) : bits BinOp.xor IntKind.u32 IntKind.u32.max (m : Int) = ((4294967295 ^^^ m : Nat) : Int) := by
  have e : IntKind.u32.max = ((4294967295 : Nat) : Int) := by simp [IntKind.max, IntKind.signed, IntKind.bits]
  rw [e]; exact u32_xor_nat _ _ (by omega) h
theorem st_one (m : Nat) (h : m < 4294967296) (hm : (((m : Int) % 2) == 1) = true) : bits BinOp.xor IntKind.u32 ((m : Int) / 2) 3988292384 = ((M.st m : Nat) : Int) := by
  have e4 : ((m : Int) / 2) = ((m / 2 : Nat) : Int) := by omega
  have h1 : m % 2 = 1 := by simp at hm; omega
  rw [e4]
  have := u32_xor_nat (m / 2) 3988292384 (by omega) (by omega)
  unfold M.st
  rw [if_pos h1]
  exact this
theorem st_zero (m : Nat) (hm : (((m : Int) % 2) == 1) = false) : ((m : Int) / 2) = ((M.st m : Nat) : Int) := by
  have h1 : ¬ m % 2 = 1 := by simp at hm; omega
  unfold M.st
  rw [if_neg h1]; omega

set_option maxHeartbeats 400000 in
theorem shift_any (s : Nat) (hs : s < 4294967296) (w : World) :
    Calls Try.prog 79 #[.int .u32 s] w fun e w' => e = .returned (.int .u32 (M.stN 8 s : Nat)) ∧ w = w' := by
  go_enter Try.func79, Try.ntmps79
  go_wp2
  go_loop [0, 4] (fun t i => ∃ k : Nat, k ≤ 8 ∧ i = .int .i64 k ∧ t = .int .u32 (M.stN k s : Nat)) (fun _ i => 8 - (intOf i).toNat)
  case atStart => exact ⟨0, by omega, rfl, rfl⟩
  case round =>
    obtain ⟨k, hk, rfl, rfl⟩ := hrel
    have hb := M.stN_lt k s hs
    obtain ⟨m, hm⟩ : ∃ m, m = M.stN k s := ⟨_, rfl⟩
    rw [← hm] at hb ⊢
    have HM : Hid (m = M.stN k s) := hm
    clear hm
    by_cases hlt : k < 8
    · go_wp2
      go_round
      case rel => exact ⟨k + 1, by omega, by go_num, by rw [M.st_bits m hb, HM.out]; rfl⟩
      case measure => simp [intOf]; omega
    · go_wp2
      go_ret
      have : k = 8 := by omega
      subst this
      exact ⟨ret_int (by rw [HM.out]), rfl⟩

theorem take_next {bs : List UInt8} {k : Nat} {x : UInt8} (h : bs[k]? = some x) : bs.take (k + 1) = bs.take k ++ [x] := by
  rw [List.take_add_one, h]; rfl

/-- WHAT A SLICE OF SLICES OF BYTES READS AS. -/
def Sls (w : World) (a : Option Addr) (len : Nat) (bss : List (List UInt8)) : Prop :=
  bss.length = len ∧ (len = 0 ∨ ∃ b off, a = some ⟨b, off, none⟩ ∧ ∀ k bs, bss[k]? = some bs → ∃ A L C, w.cell? ⟨b, off + k, none⟩ = some (.slice A L C) ∧ Sl w A L bs ∧ L ≤ 9223372036854775807)
theorem Sls.at {w : World} {a : Option Addr} {len : Nat} {bss : List (List UInt8)} (h : Sls w a len bss) {k : Nat} (hk : k < len) :
    ∃ b off bs A L C, a = some ⟨b, off, none⟩ ∧ bss[k]? = some bs ∧ w.cell? ⟨b, off + k, none⟩ = some (.slice A L C) ∧ Sl w A L bs ∧ L ≤ 9223372036854775807 := by
  obtain ⟨hl, h⟩ := h
  rcases h with h | ⟨b, off, ha, hc⟩
  · omega
  · have hx : bss[k]? = some bss[k] := by simp [hl, hk]
    obtain ⟨A, L, C, h1, h2, h3⟩ := hc k _ hx
    exact ⟨b, off, bss[k], A, L, C, ha, hx, h1, h2, h3⟩
theorem Sls.one {w : World} {a : Option Addr} {n c : Nat} {bs : List UInt8} (h : Sl w a n bs) (hn : n ≤ 9223372036854775807) (t : TypeId) : Sls (w.alloc (.cells #[.slice a n c] t)) (some ⟨w.heap.size, 0, none⟩) 1 [bs] := by
  refine ⟨rfl, .inr ⟨_, _, rfl, fun k b hk => ?_⟩⟩
  match k, hk with
  | 0, hk =>
    simp at hk; subst hk
    exact ⟨a, n, c, by rw [cell_of_row _ _ _ _ _ _ (Go.heap_alloc_new w _)]; rfl, h.alloc _, hn⟩
theorem flat_next {bss : List (List UInt8)} {k : Nat} {bs : List UInt8} (h : bss[k]? = some bs) : (bss.take (k + 1)).flatten = (bss.take k).flatten ++ bs := by
  rw [List.take_add_one, h]; simp

set_option maxHeartbeats 400000 in
/-- the check of lists -/
theorem sum_any (a : Option Addr) (len cap : Nat) (bss : List (List UInt8)) (w : World) (hb : Sls w a len bss) (hm : len ≤ 9223372036854775807) :
    Calls Try.prog 57 #[.slice a len cap] w fun e w' => e = .returned (.int .u32 (M.crc bss.flatten : Nat)) ∧ w = w' := by
  go_enter Try.func57, Try.ntmps57
  go_wp2
  go_loop [3, 10] (fun t i => ∃ k : Nat, k ≤ len ∧ i = .int .i64 k ∧ t = .int .u32 (M.crcL 4294967295 (bss.take k).flatten : Nat)) (fun _ i => len - (intOf i).toNat)
  case atStart => exact ⟨0, by omega, rfl, rfl⟩
  case round =>
    obtain ⟨k, hk, rfl, rfl⟩ := hrel
    have hlt0 := M.crcL_lt (bss.take k).flatten 4294967295 (by omega)
    obtain ⟨m, hm⟩ : ∃ m, m = M.crcL 4294967295 (bss.take k).flatten := ⟨_, rfl⟩
    rw [← hm] at hlt0 ⊢
    have HM : Hid (m = M.crcL 4294967295 (bss.take k).flatten) := hm
    clear hm
    by_cases hlt : k < len
    · obtain ⟨b, off, bs, A, L, C, rfl, hx, hc, hsl, hL⟩ := hb.at hlt
      have HX : Hid (bss[k]? = some bs) := hx
      clear hx
      go_wp2
      go_loop [3, 16] (fun t i => ∃ j : Nat, j ≤ L ∧ i = .int .i64 j ∧ t = .int .u32 (M.crcL m (bs.take j) : Nat)) (fun _ i => L - (intOf i).toNat)
      case atStart => exact ⟨0, by omega, rfl, rfl⟩
      case round =>
        obtain ⟨j, hj, rfl, rfl⟩ := hrel
        have hb' := M.crcL_lt (bs.take j) m hlt0
        obtain ⟨q, hq⟩ : ∃ q, q = M.crcL m (bs.take j) := ⟨_, rfl⟩
        rw [← hq] at hb' ⊢
        have HQ : Hid (q = M.crcL m (bs.take j)) := hq
        clear hq
        by_cases hjlt : j < L
        · obtain ⟨b1, off1, x, rfl, hx, hc1⟩ := hsl.at hjlt
          have HX1 : Hid (bs[j]? = some x) := hx
          clear hx
          have hxl := x.toNat_lt
          have e0 : bits .xor .u32 (q : Int) (x.toNat : Int) = ((q ^^^ x.toNat : Nat) : Int) := u32_xor_nat _ _ hb' (by omega)
          have hs := M.xor_lt q x.toNat hb' (by omega)
          obtain ⟨s, hs'⟩ : ∃ s, s = q ^^^ x.toNat := ⟨_, rfl⟩
          rw [← hs'] at hs e0
          have HS : Hid (s = q ^^^ x.toNat) := hs'
          clear hs'
          go_wp2_with (go_at_call 79; refine (shift_any s hs _).mono ?_; rintro e w' ⟨rfl, rfl⟩)
          go_round
          case rel => exact ⟨j + 1, by omega, by go_num, by rw [take_next HX1.out, M.crcL_snoc, HS.out, HQ.out]; rfl⟩
          case measure => simp [intOf]; omega
        · go_wp2
          go_round
          case rel => exact ⟨k + 1, by omega, by go_num, by rw [flat_next HX.out, M.crcL_append, HQ.out, HM.out, List.take_of_length_le (l := bs) (by rw [hsl.1]; omega)]⟩
          case measure => simp [intOf]; omega
    · go_wp2
      go_ret
      have : k = len := by omega
      subst this
      exact ⟨ret_int (by rw [xor_max m hlt0, HM.out, List.take_of_length_le (by rw [hb.1]; exact Nat.le_refl _)]; rfl), rfl⟩

end Go.Proofs.Ytogdjhhabcejgaa
