/-
  The contracts of the check's functions.
  The contracts of appendSum and Frame.
-/
import Derived.Test.YtogdjhhabcejgaaGreatRows
import Derived.Test.YtogdjhhabcejgaaGreatMaths
import Derived.Test.YtogdjhhabcejgaaGreatMem
import Derived.WalkKit
import Derived.Outline
import Derived.Test.YtogdjhhabcejgaaGreatInts
import Derived.Deep.QuietTactic
import Derived.BigQuiet
namespace Go.Proofs.YtogdjhhabcejgaaGreat
open Go.RowKit
set_option linter.unusedVariables false

theorem xor_max (m : Nat) (h : m < 4294967296) : bits BinOp.xor IntKind.u32 IntKind.u32.max (m : Int) = ((4294967295 ^^^ m : Nat) : Int) := by
  have e : IntKind.u32.max = ((4294967295 : Nat) : Int) := by simp [IntKind.max, IntKind.signed, IntKind.bits]
  rw [e]; exact u32_xor_nat _ _ (by omega) h
theorem st_one (m : Nat) (h : m < 4294967296) (hm : (((m : Int) % 2) == 1) = true) : bits BinOp.xor IntKind.u32 ((m : Int) / 2) 3988292384 = ((M.st m : Nat) : Int) := by
  have e4 : ((m : Int) / 2) = ((m / 2 : Nat) : Int) := by omega
  have h1 : m % 2 = 1 := by simp at hm; omega
  rw [e4]
  have := u32_xor_nat (m / 2) 3988292384 (by omega) (by omega)
  unfold M.st
  rw [if_pos h1]
  exact this
theorem st_zero (m : Nat) (hm : (((m : Int) % 2) == 1) = false) : ((m : Int) / 2) = ((M.st m : Nat) : Int) := by
  have h1 : ¬ m % 2 = 1 := by simp at hm; omega
  unfold M.st
  rw [if_neg h1]; omega

set_option maxHeartbeats 400000 in
theorem shift_any (s : Nat) (hs : s < 4294967296) (w : World) :
    Calls Tryz.prog 114 #[.int .u32 s] w fun e w' => e = .returned (.int .u32 (M.stN 8 s : Nat)) ∧ w = w' := by
  go_enter Tryz.func114, Tryz.ntmps114
  go_wp2
  go_loop [0, 4] (fun t i => ∃ k : Nat, k ≤ 8 ∧ i = .int .i64 k ∧ t = .int .u32 (M.stN k s : Nat)) (fun _ i => 8 - (intOf i).toNat)
  case atStart => exact ⟨0, by omega, rfl, rfl⟩
  case round =>
    obtain ⟨k, hk, rfl, rfl⟩ := hrel
    have hb := M.stN_lt k s hs
    obtain ⟨m, hm⟩ : ∃ m, m = M.stN k s := ⟨_, rfl⟩
    rw [← hm] at hb ⊢
    have HM : Hid (m = M.stN k s) := hm
    clear hm
    by_cases hlt : k < 8
    · go_wp2
      go_round
      case rel => exact ⟨k + 1, by omega, by go_num, by rw [M.st_bits m hb, HM.out]; rfl⟩
      case measure => simp [intOf]; omega
    · go_wp2
      go_ret
      have : k = 8 := by omega
      subst this
      exact ⟨ret_int (by rw [HM.out]), rfl⟩

theorem take_next {bs : List UInt8} {k : Nat} {x : UInt8} (h : bs[k]? = some x) : bs.take (k + 1) = bs.take k ++ [x] := by
  rw [List.take_add_one, h]; rfl

/-- WHAT A SLICE OF SLICES OF BYTES READS AS. -/
def Sls (w : World) (a : Option Addr) (len : Nat) (bss : List (List UInt8)) : Prop :=
  bss.length = len ∧ (len = 0 ∨ ∃ b off, a = some ⟨b, off, none⟩ ∧ ∀ k bs, bss[k]? = some bs → ∃ A L C, w.cell? ⟨b, off + k, none⟩ = some (.slice A L C) ∧ Sl w A L bs ∧ L ≤ 9223372036854775807)
theorem Sls.at {w : World} {a : Option Addr} {len : Nat} {bss : List (List UInt8)} (h : Sls w a len bss) {k : Nat} (hk : k < len) :
    ∃ b off bs A L C, a = some ⟨b, off, none⟩ ∧ bss[k]? = some bs ∧ w.cell? ⟨b, off + k, none⟩ = some (.slice A L C) ∧ Sl w A L bs ∧ L ≤ 9223372036854775807 := by
  obtain ⟨hl, h⟩ := h
  rcases h with h | ⟨b, off, ha, hc⟩
  · omega
  · have hx : bss[k]? = some bss[k] := by simp [hl, hk]
    obtain ⟨A, L, C, h1, h2, h3⟩ := hc k _ hx
    exact ⟨b, off, bss[k], A, L, C, ha, hx, h1, h2, h3⟩
theorem Sls.one {w : World} {a : Option Addr} {n c : Nat} {bs : List UInt8} (h : Sl w a n bs) (hn : n ≤ 9223372036854775807) (t : TypeId) : Sls (w.alloc (.cells #[.slice a n c] t)) (some ⟨w.heap.size, 0, none⟩) 1 [bs] := by
  refine ⟨rfl, .inr ⟨_, _, rfl, fun k b hk => ?_⟩⟩
  match k, hk with
  | 0, hk =>
    simp at hk; subst hk
    exact ⟨a, n, c, by rw [cell_of_row _ _ _ _ _ _ (Go.heap_alloc_new w _)]; rfl, h.alloc _, hn⟩
theorem flat_next {bss : List (List UInt8)} {k : Nat} {bs : List UInt8} (h : bss[k]? = some bs) : (bss.take (k + 1)).flatten = (bss.take k).flatten ++ bs := by
  rw [List.take_add_one, h]; simp

set_option maxHeartbeats 400000 in
/-- the check of lists -/
theorem sum_any (a : Option Addr) (len cap : Nat) (bss : List (List UInt8)) (w : World) (hb : Sls w a len bss) (hm : len ≤ 9223372036854775807) :
    Calls Tryz.prog 93 #[.slice a len cap] w fun e w' => e = .returned (.int .u32 (M.crc bss.flatten : Nat)) ∧ w = w' := by
  go_enter Tryz.func93, Tryz.ntmps93
  go_wp2
  go_loop [3, 10] (fun t i => ∃ k : Nat, k ≤ len ∧ i = .int .i64 k ∧ t = .int .u32 (M.crcL 4294967295 (bss.take k).flatten : Nat)) (fun _ i => len - (intOf i).toNat)
  case atStart => exact ⟨0, by omega, rfl, rfl⟩
  case round =>
    obtain ⟨k, hk, rfl, rfl⟩ := hrel
    have hlt0 := M.crcL_lt (bss.take k).flatten 4294967295 (by omega)
    obtain ⟨m, hm⟩ : ∃ m, m = M.crcL 4294967295 (bss.take k).flatten := ⟨_, rfl⟩
    rw [← hm] at hlt0 ⊢
    have HM : Hid (m = M.crcL 4294967295 (bss.take k).flatten) := hm
    clear hm
    by_cases hlt : k < len
    · obtain ⟨b, off, bs, A, L, C, rfl, hx, hc, hsl, hL⟩ := hb.at hlt
      have HX : Hid (bss[k]? = some bs) := hx
      clear hx
      go_wp2
      go_loop [3, 16] (fun t i => ∃ j : Nat, j ≤ L ∧ i = .int .i64 j ∧ t = .int .u32 (M.crcL m (bs.take j) : Nat)) (fun _ i => L - (intOf i).toNat)
      case atStart => exact ⟨0, by omega, rfl, rfl⟩
      case round =>
        obtain ⟨j, hj, rfl, rfl⟩ := hrel
        have hb' := M.crcL_lt (bs.take j) m hlt0
        obtain ⟨q, hq⟩ : ∃ q, q = M.crcL m (bs.take j) := ⟨_, rfl⟩
        rw [← hq] at hb' ⊢
        have HQ : Hid (q = M.crcL m (bs.take j)) := hq
        clear hq
        by_cases hjlt : j < L
        · obtain ⟨b1, off1, x, rfl, hx, hc1⟩ := hsl.at hjlt
          have HX1 : Hid (bs[j]? = some x) := hx
          clear hx
          have hxl := x.toNat_lt
          have e0 : bits .xor .u32 (q : Int) (x.toNat : Int) = ((q ^^^ x.toNat : Nat) : Int) := u32_xor_nat _ _ hb' (by omega)
          have hs := M.xor_lt q x.toNat hb' (by omega)
          obtain ⟨s, hs'⟩ : ∃ s, s = q ^^^ x.toNat := ⟨_, rfl⟩
          rw [← hs'] at hs e0
          have HS : Hid (s = q ^^^ x.toNat) := hs'
          clear hs'
          go_wp2_with (go_at_call 114; refine (shift_any s hs _).mono ?_; rintro e w' ⟨rfl, rfl⟩)
          go_round
          case rel => exact ⟨j + 1, by omega, by go_num, by rw [take_next HX1.out, M.crcL_snoc, HS.out, HQ.out]; rfl⟩
          case measure => simp [intOf]; omega
        · go_wp2
          go_round
          case rel => exact ⟨k + 1, by omega, by go_num, by rw [flat_next HX.out, M.crcL_append, HQ.out, HM.out, List.take_of_length_le (l := bs) (by rw [hsl.1]; omega)]⟩
          case measure => simp [intOf]; omega
    · go_wp2
      go_ret
      have : k = len := by omega
      subst this
      exact ⟨ret_int (by rw [xor_max m hlt0, HM.out, List.take_of_length_le (by rw [hb.1]; exact Nat.le_refl _)]; rfl), rfl⟩

end Go.Proofs.YtogdjhhabcejgaaGreat

namespace Go.Proofs.YtogdjhhabcejgaaGreat
open Go.RowKit
set_option linter.unusedVariables false



set_option maxRecDepth 20000 in
set_option maxHeartbeats 400000 in
theorem appendSum_any (base : Nat) (a : Option Addr) (len c : Nat) (bs : List UInt8) (s : Nat) (w : World) (hl : bs.length = len) (h : Ow base w a c bs) (hs : s < 4294967296) (hb : base ≤ w.heap.size) (hbd : len ≤ 150000000000000) :
    Calls Tryz.prog 92 #[.slice a len c, .int .u32 (s : Nat)] w fun e w' => ∃ a' c', e = .returned (.slice a' (len + 4) c') ∧ Grew base w a w' a' c' (bs ++ M.le4 s) := by
  go_enter Tryz.func92, Tryz.ntmps92
  go_wp2
  go_loopw [0, 6] (fun t i wr => ∃ (a1 : Option Addr) (c1 : Nat) (k : Nat), k ≤ 4 ∧ t = .slice a1 (len + k) c1 ∧ i = .int .i64 k ∧ Grew base w a wr a1 c1 (bs ++ (List.range k).map (M.sumB s)))
    (fun _ i _ => 4 - (intOf i).toNat)
  case atStart => exact ⟨a, c, 0, by omega, rfl, rfl, by simpa using Grew.start h⟩
  case round =>
    obtain ⟨a1, c1, k, hk, rfl, rfl, hg⟩ := hrel
    have hsz := hg.size
    by_cases hlt : k < 4
    · have HG := hid (fun o => hg.alloc o)
      have e1 := M.sumB_int s k
      obtain ⟨x, hx⟩ : ∃ x, x = M.sumB s k := ⟨_, rfl⟩
      rw [← hx] at e1
      have HX := hid hx
      clear hx hg
      go_wp2_with (at_builtin; refine wpList_append_b _ rfl (.tmp 9) (.tmp 15) rfl base a1 (len + k) c1 (bs ++ (List.range k).map (M.sumB s)) rfl (by simp [hl]) (HG.out _).1 (some ⟨wr.heap.size, 0, none⟩) 1 1 [x] rfl (Sl.one wr _ x _ rfl) (by omega) (by simp; omega) ?_; intro a2 c2 w2 how hgb hat)
      have HG2 := hid ((HG.out _).step how hgb hat)
      clear how hgb hat HG
      go_wp2
      go_roundw
      case rel => exact ⟨a2, c2, k + 1, by omega, by simp [Nat.add_assoc], by go_num, by rw [List.range_succ, List.map_append, List.map_cons, List.map_nil, ← List.append_assoc, ← HX.out]; exact HG2.out⟩
      case measure => simp [intOf]; omega
    · have HG := hid hg
      clear hg
      go_wp2
      go_ret
      have : k = 4 := by omega
      subst this
      exact ⟨a1, c1, rfl, HG.out⟩

theorem frame_long (a : Option Addr) (len c : Nat) (w : World) (h : 1048576 < len) (hm : len ≤ 9223372036854775807) :
    Calls Tryz.prog 84 #[.slice a len c] w fun e w' => e = .returned (.tuple #[.slice none 0 0, .int .i64 3]) ∧ w = w' := by
  have h' : (1048576 : Int) < (len : Int) := by omega
  go_enter Tryz.func84, Tryz.ntmps84
  go_wp2
  go_ret2
  exact ⟨rfl, rfl⟩

set_option maxHeartbeats 400000 in
theorem frame_ok (a : Option Addr) (len c : Nat) (bs : List UInt8) (w : World) (h : Sl w a len bs) (hlen : len ≤ 1048576) :
    Calls Tryz.prog 84 #[.slice a len c] w fun e w' => ∃ a' c', e = .returned (.tuple #[.slice a' (M.frame bs).length c', .int .i64 0]) ∧ Ow w.heap.size w' a' c' (M.frame bs) ∧ Fr (fun _ => False) w w' := by
  obtain ⟨i0, hi, hz0, hz1, hz2⟩ := info_parts info5
  have hmk : ∀ u : World, (Instr.makeSlice 31 (.int .i64 0) (.int .i64 (10 + (len : Int) + 4))).run Tryz.prog u =
      .ok (.slice (some ⟨u.heap.size, 0, none⟩) 0 (len + 14)) (u.alloc (.cells (madeCells #[.int .u8 0] (len + 14)) 5)) := fun u => by
    have h := run_make (P := Tryz.prog) u 31 5 i0 (.int .u8 0) Tryz.underlying31 hi hz0 .i64 .i64 0 (10 + (len : Int) + 4) (by omega) (by omega) (by rw [hz2]; omega) (by omega)
    have e : (10 + (len : Int) + 4).toNat = len + 14 := by omega
    rw [e] at h
    simpa [hz1, Value.cells] using h
  have hbl := h.1
  have hcrc := M.crc_lt bs
  have hel := M.enc_ten _ (M.fd_lt len (by omega) (by omega))
  have how0 : Ow w.heap.size (w.alloc (.cells (madeCells #[.int .u8 0] (len + 14)) 5)) (some ⟨w.heap.size, 0, none⟩) (len + 14) [] :=
    .inr ⟨_, _, _, rfl, Nat.le_refl _, Go.heap_alloc_new w _, by simp, by rw [size_madeCells]; exact Nat.le_refl _, by unfold maxLen; omega, by simp⟩
  have K1 := hid (appendInt_any w.heap.size _ 0 (len + 14) [] len _ rfl how0 (by omega) (by omega) (by simp) (by omega))
  have hfr : M.frame bs = M.enc (M.fd len) ++ bs ++ M.le4 (M.crc bs) := by unfold M.frame; rw [hbl]
  rw [List.nil_append] at K1
  obtain ⟨en, hen⟩ : ∃ en, M.enc (M.fd len) = en := ⟨_, rfl⟩
  rw [hen] at K1 hfr hel
  obtain ⟨el, hel'⟩ : ∃ el, en.length = el := ⟨_, rfl⟩
  rw [hel'] at K1 hel
  rw [Nat.zero_add] at K1
  obtain ⟨sm, hsm⟩ : ∃ sm, M.crc bs = sm := ⟨_, rfl⟩
  rw [hsm] at hcrc hfr
  have HSM := hid hsm
  have hfl : (M.frame bs).length = el + len + 4 := by rw [hfr, List.length_append, List.length_append, M.le4_length, hel', hbl]
  rw [hfl]
  have HFR := hid hfr
  have HEL := hid hel'
  clear how0 hen hsm hfr hel' hfl hz0 hz1 hz2 hi
  go_enter Tryz.func84, Tryz.ntmps84
  go_wp2_with (first
    | (go_at_call 110; refine K1.out.mono ?_; rintro e w1 ⟨a1, c1, rfl, hg⟩; have HG := hid hg; have hf1 : Fr (fun _ => False) w w1 := (Fr.alloc (Fr.refl _ w) _).trans hg.2.1 (fun i hi e => by simp [blk] at e; omega); have hs1 := h.kept hf1 (fun _ _ _ h => h); have hsz1 := hf1.size; have HF1 := hid hf1; clear hg hf1)
    | (at_builtin; refine wpList_append_b _ rfl (.tmp 17) (.tmp 18) rfl w.heap.size a1 el c1 en rfl HEL.out HG.out.1 a len c bs rfl hs1 (by omega) hsz1 ?_; intro a2 c2 w2 how hgb hat; have HO2 := hid how; have hf2 := HF1.out.trans (Fr.of_grown hgb) (fun i hi e => by have := (HG.out.1.lt i e).1; omega); have hs2 := h.kept hf2 (fun _ _ _ h => h); have hsz2 := hf2.size; have HF2 := hid hf2; clear how hgb hat hf2))
  have K2 := hid (sum_any (some ⟨w2.heap.size, 0, none⟩) 1 1 [bs] (w2.alloc (.cells #[.slice a len c] 31)) (Sls.one hs2 (by omega) 31) (by omega))
  have e1 : ([bs] : List (List UInt8)).flatten = bs := by simp
  rw [e1, HSM.out] at K2
  have K3 := hid (appendSum_any w.heap.size a2 (el + len) c2 (en ++ bs) sm (w2.alloc (.cells #[.slice a len c] 31)) (by rw [List.length_append, HEL.out, hbl]) (HO2.out.kept (Fr.alloc (Fr.refl (fun _ => False) _) _) (fun _ _ h => h)) hcrc (by simp; omega) (by omega))
  clear e1
  refine K2.out.mono ?_
  rintro e w3 ⟨rfl, rfl⟩
  go_wp2_with fail
  refine K3.out.mono ?_
  rintro e w4 ⟨a4, c4, rfl, hg4⟩
  have HG4 := hid hg4
  clear hg4
  go_wp2
  go_ret2
  refine ⟨a4, c4, rfl, ?_, ?_⟩
  · rw [HFR.out]; exact HG4.out.1
  · exact (Fr.alloc HF2.out _).trans HG4.out.2.1 (fun i hi e => by have := (HO2.out.lt i e).1; omega)


end Go.Proofs.YtogdjhhabcejgaaGreat
