/-
  The contracts of appendSum and Frame.
-/
import Derived.Test.YtogdjhhabcejgaaCrc
import Derived.Test.YtogdjhhabcejgaaInts
import Derived.Deep.QuietTactic
import Derived.BigQuiet
namespace Go.Proofs.Ytogdjhhabcejgaa
open Go.RowKit
set_option linter.unusedVariables false



set_option maxRecDepth 20000 in
set_option maxHeartbeats 400000 in
theorem appendSum_any (base : Nat) (a : Option Addr) (len c : Nat) (bs : List UInt8) (s : Nat) (w : World) (hl : bs.length = len) (h : Ow base w a c bs) (hs : s < 4294967296) (hb : base ≤ w.heap.size) (hbd : len ≤ 150000000000000) :
    Calls Try.prog 56 #[.slice a len c, .int .u32 (s : Nat)] w fun e w' => ∃ a' c', e = .returned (.slice a' (len + 4) c') ∧ Grew base w a w' a' c' (bs ++ M.le4 s) := by
  go_enter Try.func56, Try.ntmps56
  go_wp2
  go_loopw [0, 6] (fun t i wr => ∃ (a1 : Option Addr) (c1 : Nat) (k : Nat), k ≤ 4 ∧ t = .slice a1 (len + k) c1 ∧ i = .int .i64 k ∧ Grew base w a wr a1 c1 (bs ++ (List.range k).map (M.sumB s)))
    (fun _ i _ => 4 - (intOf i).toNat)
  case atStart => exact ⟨a, c, 0, by omega, rfl, rfl, by simpa using Grew.start h⟩
  case round =>
    obtain ⟨a1, c1, k, hk, rfl, rfl, hg⟩ := hrel
    have hsz := hg.size
    by_cases hlt : k < 4
    · have HG := hid (fun o => hg.alloc o)
      have e1 := M.sumB_int s k
      obtain ⟨x, hx⟩ : ∃ x, x = M.sumB s k := ⟨_, rfl⟩
      rw [← hx] at e1
      have HX := hid hx
      clear hx hg
      go_wp2_with (at_builtin; refine wpList_append_b _ rfl (.tmp 9) (.tmp 15) rfl base a1 (len + k) c1 (bs ++ (List.range k).map (M.sumB s)) rfl (by simp [hl]) (HG.out _).1 (some ⟨wr.heap.size, 0, none⟩) 1 1 [x] rfl (Sl.one wr _ x _ rfl) (by omega) (by simp; omega) ?_; intro a2 c2 w2 how hgb hat)
      have HG2 := hid ((HG.out _).step how hgb hat)
      clear how hgb hat HG
      go_wp2
      go_roundw
      case rel => exact ⟨a2, c2, k + 1, by omega, by simp [Nat.add_assoc], by go_num, by rw [List.range_succ, List.map_append, List.map_cons, List.map_nil, ← List.append_assoc, ← HX.out]; exact HG2.out⟩
      case measure => simp [intOf]; omega
    · have HG := hid hg
      clear hg
      go_wp2
      go_ret
      have : k = 4 := by omega
      subst this
      exact ⟨a1, c1, rfl, HG.out⟩

theorem frame_long (a : Option Addr) (len c : Nat) (w : World) (h : 1048576 < len) (hm : len ≤ 9223372036854775807) :
    Calls Try.prog 48 #[.slice a len c] w fun e w' => e = .returned (.tuple #[.slice none 0 0, .int .i64 3]) ∧ w = w' := by
  have h' : (1048576 : Int) < (len : Int) := by omega
  go_enter Try.func48, Try.ntmps48
  go_wp2
  go_ret2
  exact ⟨rfl, rfl⟩

set_option maxHeartbeats 400000 in
theorem frame_ok (a : Option Addr) (len c : Nat) (bs : List UInt8) (w : World) (h : Sl w a len bs) (hlen : len ≤ 1048576) :
    Calls Try.prog 48 #[.slice a len c] w fun e w' => ∃ a' c', e = .returned (.tuple #[.slice a' (M.frame bs).length c', .int .i64 0]) ∧ Ow w.heap.size w' a' c' (M.frame bs) ∧ Fr (fun _ => False) w w' := by
  obtain ⟨i0, hi, hz0, hz1, hz2⟩ := info_parts info5
  have hmk : ∀ u : World, (Instr.makeSlice 22 (.int .i64 0) (.int .i64 (10 + (len : Int) + 4))).run Try.prog u =
      .ok (.slice (some ⟨u.heap.size, 0, none⟩) 0 (len + 14)) (u.alloc (.cells (madeCells #[.int .u8 0] (len + 14)) 5)) := fun u => by
    have h := run_make (P := Try.prog) u 22 5 i0 (.int .u8 0) Try.underlying22 hi hz0 .i64 .i64 0 (10 + (len : Int) + 4) (by omega) (by omega) (by rw [hz2]; omega) (by omega)
    have e : (10 + (len : Int) + 4).toNat = len + 14 := by omega
    rw [e] at h
    simpa [hz1, Value.cells] using h
  have hbl := h.1
  have hcrc := M.crc_lt bs
  have hel := M.enc_ten _ (M.fd_lt len (by omega) (by omega))
  have how0 : Ow w.heap.size (w.alloc (.cells (madeCells #[.int .u8 0] (len + 14)) 5)) (some ⟨w.heap.size, 0, none⟩) (len + 14) [] :=
    .inr ⟨_, _, _, rfl, Nat.le_refl _, Go.heap_alloc_new w _, by simp, by rw [size_madeCells]; exact Nat.le_refl _, by unfold maxLen; omega, by simp⟩
  have K1 := hid (appendInt_any w.heap.size _ 0 (len + 14) [] len _ rfl how0 (by omega) (by omega) (by simp) (by omega))
  have hfr : M.frame bs = M.enc (M.fd len) ++ bs ++ M.le4 (M.crc bs) := by unfold M.frame; rw [hbl]
  rw [List.nil_append] at K1
  obtain ⟨en, hen⟩ : ∃ en, M.enc (M.fd len) = en := ⟨_, rfl⟩
  rw [hen] at K1 hfr hel
  obtain ⟨el, hel'⟩ : ∃ el, en.length = el := ⟨_, rfl⟩
  rw [hel'] at K1 hel
  rw [Nat.zero_add] at K1
  obtain ⟨sm, hsm⟩ : ∃ sm, M.crc bs = sm := ⟨_, rfl⟩
  rw [hsm] at hcrc hfr
  have HSM := hid hsm
  have hfl : (M.frame bs).length = el + len + 4 := by rw [hfr, List.length_append, List.length_append, M.le4_length, hel', hbl]
  rw [hfl]
  have HFR := hid hfr
  have HEL := hid hel'
  clear how0 hen hsm hfr hel' hfl hz0 hz1 hz2 hi
  go_enter Try.func48, Try.ntmps48
  go_wp2_with (first
    | (go_at_call 75; refine K1.out.mono ?_; rintro e w1 ⟨a1, c1, rfl, hg⟩; have HG := hid hg; have hf1 : Fr (fun _ => False) w w1 := (Fr.alloc (Fr.refl _ w) _).trans hg.2.1 (fun i hi e => by simp [blk] at e; omega); have hs1 := h.kept hf1 (fun _ _ _ h => h); have hsz1 := hf1.size; have HF1 := hid hf1; clear hg hf1)
    | (at_builtin; refine wpList_append_b _ rfl (.tmp 17) (.tmp 18) rfl w.heap.size a1 el c1 en rfl HEL.out HG.out.1 a len c bs rfl hs1 (by omega) hsz1 ?_; intro a2 c2 w2 how hgb hat; have HO2 := hid how; have hf2 := HF1.out.trans (Fr.of_grown hgb) (fun i hi e => by have := (HG.out.1.lt i e).1; omega); have hs2 := h.kept hf2 (fun _ _ _ h => h); have hsz2 := hf2.size; have HF2 := hid hf2; clear how hgb hat hf2))
  have K2 := hid (sum_any (some ⟨w2.heap.size, 0, none⟩) 1 1 [bs] (w2.alloc (.cells #[.slice a len c] 22)) (Sls.one hs2 (by omega) 22) (by omega))
  have e1 : ([bs] : List (List UInt8)).flatten = bs := by simp
  rw [e1, HSM.out] at K2
  have K3 := hid (appendSum_any w.heap.size a2 (el + len) c2 (en ++ bs) sm (w2.alloc (.cells #[.slice a len c] 22)) (by rw [List.length_append, HEL.out, hbl]) (HO2.out.kept (Fr.alloc (Fr.refl (fun _ => False) _) _) (fun _ _ h => h)) hcrc (by simp; omega) (by omega))
  clear e1
  refine K2.out.mono ?_
  rintro e w3 ⟨rfl, rfl⟩
  go_wp2_with fail
  refine K3.out.mono ?_
  rintro e w4 ⟨a4, c4, rfl, hg4⟩
  have HG4 := hid hg4
  clear hg4
  go_wp2
  go_ret2
  refine ⟨a4, c4, rfl, ?_, ?_⟩
  · rw [HFR.out]; exact HG4.out.1
  · exact (Fr.alloc HF2.out _).trans HG4.out.2.1 (fun i hi e => by have := (HO2.out.lt i e).1; omega)


end Go.Proofs.Ytogdjhhabcejgaa
