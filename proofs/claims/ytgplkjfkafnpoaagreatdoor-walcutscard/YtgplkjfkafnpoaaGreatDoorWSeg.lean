/-
  The name of a segment.
-/
import Derived.Test.YtgplkjfkafnpoaaGreatDoorWName
namespace Go.Proofs.YtgplkjfkafnpoaaGreatDoor
open Go.RowKit
set_option linter.unusedVariables false
namespace W
/-- a number in twelve digits -/
def dig (f : Int) : List UInt8 := Lib.repeatL [48] (12 - (Lib.itoa f).length) ++ Lib.itoa f
/-- the name of a segment -/
def seg (l : List UInt8) (f : Int) : List UInt8 := if isNm l = true ∧ 0 ≤ f ∧ f ≤ 999999999999 then l ++ 46 :: dig f else []
theorem nDigits_le : ∀ (k u : Nat), 1 ≤ k → u < 10 ^ k → Lib.nDigits u ≤ k
  | 0, _, h, _ => by omega
  | 1, u, _, h => by
    unfold Lib.nDigits
    rw [dif_pos (by omega)]
    exact Nat.le_refl _
  | k + 2, u, _, h => by
    unfold Lib.nDigits
    split
    · omega
    · have := nDigits_le (k + 1) (u / 10) (by omega) (by rw [Nat.pow_succ] at h; omega)
      omega
theorem itoa_len {f : Int} (h0 : 0 ≤ f) (h1 : f ≤ 999999999999) : (Lib.itoa f).length ≤ 12 := by
  unfold Lib.itoa
  rw [if_neg (by omega), Lib.decDigits_length]
  exact nDigits_le 12 _ (by omega) (by omega)
theorem dig_len {f : Int} (h0 : 0 ≤ f) (h1 : f ≤ 999999999999) : (dig f).length = 12 := by
  have := itoa_len h0 h1
  unfold dig
  rw [List.length_append, Lib.repeatL_length]
  simp
  omega
theorem seg_len (l : List UInt8) (f : Int) : (seg l f).length ≤ 33 := by
  unfold seg
  split
  · rename_i h
    have := (isNm_iff.1 h.1).2
    rw [List.length_append, List.length_cons, dig_len h.2.1 h.2.2]
    omega
  · simp
end W
/-- the table of powers, as it is laid -/
abbrev Tv (w : World) : Prop := Lib.TabIs Tryz.prog w "internal/strconv.uint64pow10" .u64 Lib.pow10Tab
theorem gPow : Tryz.prog.globalNamed "internal/strconv.uint64pow10" = some 0 := by kernel_rfl
theorem Tv.kept {S : Nat → Prop} {w w' : World} (h : Tv w) (hf : Fr S w w') (hS : ¬ S 0) : Tv w' := by
  unfold Tv Lib.TabIs World.var? at h ⊢
  rw [gPow] at h ⊢
  simp only [Option.bind_some] at h ⊢
  have hlt : 0 < w.heap.size := by
    rcases Nat.lt_or_ge 0 w.heap.size with h1 | h1
    · exact h1
    · rw [Array.getElem?_eq_none h1] at h; cases h
  rw [hf.block _ hlt hS]
  exact h
theorem Tv.lt {w : World} (h : Tv w) : 0 < w.heap.size := by
  unfold Tv Lib.TabIs World.var? at h
  rw [gPow] at h
  simp only [Option.bind_some] at h
  rcases Nat.lt_or_ge 0 w.heap.size with h1 | h1
  · exact h1
  · rw [Array.getElem?_eq_none h1] at h; cases h
theorem Fr.of_grow (w : World) (os : Array Obj) (k : Nat) : Fr (fun _ => False) w (Sort.grow (w.drewN k) os) :=
  ⟨rfl, rfl, rfl, by simp [Sort.grow, World.drewN], fun i hi _ => by
    show (w.heap ++ os)[i]? = w.heap[i]?
    rw [Array.getElem?_append_left hi]⟩

set_option maxHeartbeats 800000 in
theorem segment_any (s : ByteArray) (hz : s.size ≤ maxLen) (f : Int) (hf0 : -9223372036854775808 ≤ f) (hf1 : f ≤ 9223372036854775807) (w : World) (T : Tv w) :
    Calls Tryz.prog 18 #[.string s, .int .i64 f] w fun e w' => e = .returned (encStr (W.seg s.data.toList f)) ∧ Fr (fun _ => False) w w' := by
  have HI := hid (isName_any s hz w)
  have HF := hid (fmtInt_any f hf0 hf1 w T)
  by_cases hn : W.isNm s.data.toList = true
  · rw [hn] at HI
    by_cases h0 : f < 0
    · have E := hid (show W.seg s.data.toList f = [] from by unfold W.seg; rw [if_neg (by omega)])
      clear hn
      go_enter Tryz.func18, Tryz.ntmps18
      go_wp2_with (first | (go_at_call 46; refine HI.out.mono ?_; rintro e w' ⟨rfl, rfl⟩))
      go_ret
      exact ⟨by rw [E.out]; rfl, Fr.refl _ _⟩
    · by_cases h1 : 999999999999 < f
      · have E := hid (show W.seg s.data.toList f = [] from by unfold W.seg; rw [if_neg (by omega)])
        clear hn
        go_enter Tryz.func18, Tryz.ntmps18
        go_wp2_with (first | (go_at_call 46; refine HI.out.mono ?_; rintro e w' ⟨rfl, rfl⟩))
        go_ret
        exact ⟨by rw [E.out]; rfl, Fr.refl _ _⟩
      · have E := hid (show W.seg s.data.toList f = s.data.toList ++ 46 :: W.dig f from by unfold W.seg; rw [if_pos ⟨hn, by omega, by omega⟩])
        have hl := W.itoa_len (f := f) (by omega) (by omega)
        have hs20 := (W.isNm_iff.1 hn).2.2
        have D := hid (show W.dig f = Lib.repeatL [48] (12 - (Lib.itoa f).length) ++ Lib.itoa f from rfl)
        obtain ⟨dg, hdg⟩ : ∃ dg, Lib.itoa f = dg := ⟨_, rfl⟩
        rw [hdg] at hl HF D
        have hsz : (ByteArray.mk dg.toArray).size = dg.length := by simp [ByteArray.size]
        obtain ⟨n, hln⟩ : ∃ n, dg.length = n := ⟨_, rfl⟩
        rw [hln] at hl hsz D
        have hw : IntKind.i64.wrap (12 - (n : Int)) = ((12 - n : Nat) : Int) := by rw [IntKind.wrap_i64]; omega
        have HR := hid (fun w => repeat_any ⟨#[48]⟩ (12 - n) w (by omega) (by simp [ByteArray.size]; omega))
        have hs1 : s.size ≤ 20 := by rw [Array.length_toList] at hs20; exact hs20
        have hrl : (Lib.repeatL [48] (12 - n)).length = 12 - n := by rw [Lib.repeatL_length]; simp
        have g1 : ¬ 9223372036854775807 < s.size + 1 := by omega
        have g2 : ¬ 9223372036854775807 < s.size + 1 + (Lib.repeatL [48] (12 - n)).length := by omega
        have g3 : ¬ 9223372036854775807 < s.size + 1 + (Lib.repeatL [48] (12 - n)).length + n := by omega
        have RS := hid (show encStr (W.seg s.data.toList f) = .string (s ++ ⟨#[46]⟩ ++ ⟨(Lib.repeatL [48] (12 - n)).toArray⟩ ++ ⟨dg.toArray⟩) from by
          rw [E.out, D.out]
          unfold encStr
          congr 1
          apply ByteArray.ext
          simp [ByteArray.data_append])
        clear hn hdg hln hrl hs1 hs20
        go_enter Tryz.func18, Tryz.ntmps18
        go_wp2_with (first
          | (go_at_call 46; refine HI.out.mono ?_; rintro e w' ⟨rfl, rfl⟩)
          | (go_at_call 60; refine HF.out.mono ?_; rintro e w1 ⟨rfl, k1, os1, hw1⟩; have F1 := hid (show Fr (fun _ => False) w w1 from hw1 ▸ Fr.of_grow _ _ _); clear hw1)
          | (go_at_call 61; refine (HR.out _).mono ?_; rintro e w2 ⟨rfl, hb2⟩; have F2 := hid (F1.out.trans (Fr.of_below hb2) (fun _ _ h => h)); clear hb2))
        go_ret
        exact ⟨by rw [RS.out]; rfl, F2.out⟩
  · have hn' : W.isNm s.data.toList = false := by simpa using hn
    rw [hn'] at HI
    have E := hid (show W.seg s.data.toList f = [] from by unfold W.seg; rw [if_neg (fun h => hn h.1)])
    clear hn hn'
    go_enter Tryz.func18, Tryz.ntmps18
    go_wp2_with (first | (go_at_call 46; refine HI.out.mono ?_; rintro e w' ⟨rfl, rfl⟩))
    go_ret
    exact ⟨by rw [E.out]; rfl, Fr.refl _ _⟩

end Go.Proofs.YtgplkjfkafnpoaaGreatDoor
