/-
  The document's names of logs and segments; its Open of a disk without files.
-/
import Derived.Test.YtgplkjfkafnpoaaGreatDoorWLive
import Derived.Test.YtgplkjfkafnpoaaGreatDoorKNone
namespace Go.Proofs.YtgplkjfkafnpoaaGreatDoor
open Go.RowKit
set_option linter.unusedVariables false

set_option maxHeartbeats 800000 in
theorem refname_any (s : ByteArray) (hz : s.size ≤ maxLen) (w : World) :
    Calls Tryz.prog 51 #[.string s] w fun e w' => e = .returned (.bool (W.isNm s.data.toList)) ∧ w = w' := by
  obtain ⟨n, hn⟩ : ∃ n, s.size = n := ⟨_, rfl⟩
  have hlen : s.data.toList.length = n := by rw [Array.length_toList]; exact hn
  have hzn : n ≤ 9223372036854775807 := by unfold maxLen at hz; omega
  have HX := hid (fun w k x => run_str_at w s k x)
  obtain ⟨l, hl⟩ : ∃ l, s.data.toList = l := ⟨_, rfl⟩
  rw [hl] at hlen HX ⊢
  have HN := hid hn
  clear hl hz
  go_enter Tryz.func51, Tryz.ntmps51
  go_wp2
  go_loopw [3] (fun i wr => ∃ k : Nat, k ≤ n ∧ i = .int .i64 k ∧ wr = w ∧ Hid (∀ j x, j < k → l[j]? = some x → W.az x = true)) (fun i _ => n - (intOf i).toNat)
  case atStart => exact ⟨0, Nat.zero_le _, rfl, rfl, hid (fun j x h => absurd h (Nat.not_lt_zero _))⟩
  case round =>
    obtain ⟨k, hk, rfl, rfl, hall⟩ := hrel
    by_cases hlt : k < n
    · obtain ⟨x, hx⟩ : ∃ x, l[k]? = some x := ⟨l[k]'(by omega), List.getElem?_eq_getElem (by omega)⟩
      have r1 := HX.out wr k x hx
      have hx0 : (0 : Int) ≤ (x.toNat : Int) := by omega
      obtain ⟨xv, hxv⟩ : ∃ xv : Int, (x.toNat : Int) = xv := ⟨_, rfl⟩
      unfold B at r1
      rw [hxv] at r1 hx0
      by_cases h1 : xv < 97
      · have hf : W.isNm l = false := W.isNm_not hx (by unfold W.az; simp; omega)
        have HF := hid hf
        clear hf
        go_wp2
        go_ret
        exact ⟨by rw [HF.out]; rfl, rfl⟩
      · by_cases h2 : 122 < xv
        · have hf : W.isNm l = false := W.isNm_not hx (by unfold W.az; simp; omega)
          have HF := hid hf
          clear hf
          go_wp2
          go_ret
          exact ⟨by rw [HF.out]; rfl, rfl⟩
        · have HA := hid (show ∀ j y, j < k + 1 → l[j]? = some y → W.az y = true from fun j y hj hy => by
            by_cases e : j = k
            · subst e
              rw [hx] at hy
              cases hy
              unfold W.az
              simp
              omega
            · exact hall.out j y (by omega) hy)
          clear hx
          go_wp2
          go_roundw
          case rel => exact ⟨k + 1, by omega, by first | go_num | trivial, by first | trivial | rfl, HA⟩
          case measure => simp [intOf]; omega
    · have hkn : k = n := by omega
      subst hkn
      have HA := hid (show ∀ x ∈ l, W.az x = true from fun x hx => by
        obtain ⟨j, hj, e⟩ := List.getElem_of_mem hx
        exact hall.out j x (by omega) (by rw [List.getElem?_eq_getElem hj, e]))
      by_cases h1 : 1 ≤ k
      · by_cases h2 : k ≤ 20
        · have d20 : decide ((k : Int) ≤ 20) = true := decide_eq_true (by omega)
          have HF := hid (show W.isNm l = true from W.isNm_iff.2 ⟨HA.out, by omega, by omega⟩)
          go_wp2
          go_ret
          exact ⟨by rw [HF.out]; rfl, rfl⟩
        · have d20 : decide ((k : Int) ≤ 20) = false := decide_eq_false (by omega)
          have HF := hid (show W.isNm l = false from by
            cases e : W.isNm l with
            | false => rfl
            | true => have := (W.isNm_iff.1 e).2; omega)
          go_wp2
          go_ret
          exact ⟨by rw [HF.out]; rfl, rfl⟩
      · have HF := hid (show W.isNm l = false from by
          cases e : W.isNm l with
          | false => rfl
          | true => have := (W.isNm_iff.1 e).2; omega)
        go_wp2
        go_ret
        exact ⟨by rw [HF.out]; rfl, rfl⟩


/-- noughts ahead -/
def W.pad (k : Nat) (l : List UInt8) : List UInt8 := Lib.repeatL [48] k ++ l
theorem W.pad_succ (k : Nat) (l : List UInt8) : W.pad (k + 1) l = 48 :: W.pad k l := rfl
theorem W.repeat_comm (k : Nat) : Lib.repeatL [48] k ++ [48] = (48 : UInt8) :: Lib.repeatL [48] k := by
  induction k with
  | zero => rfl
  | succ k ih => show 48 :: (Lib.repeatL [48] k ++ [48]) = _; rw [ih]; rfl

set_option maxHeartbeats 1600000 in
theorem refseg_any (s : ByteArray) (hz : s.size ≤ maxLen) (f : Int) (hf0 : -9223372036854775808 ≤ f) (hf1 : f ≤ 9223372036854775807) (w : World) (T : Tv w) :
    Calls Tryz.prog 19 #[.string s, .int .i64 f] w fun e w' => e = .returned (encStr (W.seg s.data.toList f)) ∧ Fr (fun _ => False) w w' := by
  have HI := hid (refname_any s hz w)
  have HF := hid (fmtInt_any f hf0 hf1 w T)
  by_cases hn : W.isNm s.data.toList = true
  · rw [hn] at HI
    by_cases h0 : f < 0
    · have E := hid (show W.seg s.data.toList f = [] from by unfold W.seg; rw [if_neg (by omega)])
      clear hn
      go_enter Tryz.func19, Tryz.ntmps19
      go_wp2_with (first | (go_at_call 51; refine HI.out.mono ?_; rintro e w' ⟨rfl, rfl⟩))
      go_ret
      exact ⟨by rw [E.out]; rfl, Fr.refl _ _⟩
    · by_cases h1 : 999999999999 < f
      · have E := hid (show W.seg s.data.toList f = [] from by unfold W.seg; rw [if_neg (by omega)])
        clear hn
        go_enter Tryz.func19, Tryz.ntmps19
        go_wp2_with (first | (go_at_call 51; refine HI.out.mono ?_; rintro e w' ⟨rfl, rfl⟩))
        go_ret
        exact ⟨by rw [E.out]; rfl, Fr.refl _ _⟩
      · have E := hid (show W.seg s.data.toList f = s.data.toList ++ 46 :: W.dig f from by unfold W.seg; rw [if_pos ⟨hn, by omega, by omega⟩])
        have hl := W.itoa_len (f := f) (by omega) (by omega)
        have hs20 := (W.isNm_iff.1 hn).2.2
        have hs1 : s.size ≤ 20 := by rw [Array.length_toList] at hs20; exact hs20
        have D := hid (show W.dig f = W.pad (12 - (Lib.itoa f).length) (Lib.itoa f) from rfl)
        obtain ⟨dg, hdg⟩ : ∃ dg, Lib.itoa f = dg := ⟨_, rfl⟩
        rw [hdg] at hl HF D
        clear hn hdg hs20
        go_enter Tryz.func19, Tryz.ntmps19
        go_wp2_with (first
          | (go_at_call 51; refine HI.out.mono ?_; rintro e w' ⟨rfl, rfl⟩)
          | (go_at_call 60; refine HF.out.mono ?_; rintro e w1 ⟨rfl, k1, os1, hw1⟩; have F1 := hid (show Fr (fun _ => False) w w1 from hw1 ▸ Fr.of_grow _ _ _); clear hw1))
        go_loopw [5] (fun v wr => ∃ (k : Nat) (b : ByteArray), k + dg.length ≤ 12 ∧ v = .string b ∧ wr = w1 ∧ Hid (b = ⟨(W.pad k dg).toArray⟩)) (fun v _ => 12 - (match v with | .string b => b.size | _ => 0))
        case atStart => exact ⟨0, _, by omega, rfl, rfl, hid rfl⟩
        case round =>
          obtain ⟨k, b, hk, rfl, rfl, hb⟩ := hrel
          have hpl : (W.pad k dg).length = k + dg.length := by unfold W.pad; rw [List.length_append, Lib.repeatL_length]; simp
          have hbs : b.size = k + dg.length := by rw [hb.out]; simp [ByteArray.size, hpl]
          obtain ⟨n, hn⟩ : ∃ n, b.size = n := ⟨_, rfl⟩
          have HN := hid (hn.symm.trans hbs)
          by_cases hlt : n < 12
          · have hlt' : (n : Int) < 12 := by omega
            have g1 : ¬ 9223372036854775807 < 1 + n := by omega
            clear hpl hbs
            go_wp2
            go_roundw
            case rel => exact ⟨k + 1, _, by have := HN.out; omega, rfl, by first | rfl | trivial, hid (by
              apply ByteArray.ext
              simp [ByteArray.data_append, hb.out, W.pad_succ])⟩
            case measure =>
              have : (⟨#[48]⟩ ++ b : ByteArray).size = 1 + b.size := by rw [ByteArray.size_append]; rfl
              simp [this]
              omega
          · have hlt' : ¬ (n : Int) < 12 := by omega
            have g1 : ¬ 9223372036854775807 < s.size + 1 := by omega
            have g2 : ¬ 9223372036854775807 < s.size + 1 + n := by have := HN.out; omega
            have RS := hid (show encStr (W.seg s.data.toList f) = .string (s ++ ⟨#[46]⟩ ++ b) from by
              have hk2 : 12 - dg.length = k := by have := HN.out; omega
              rw [E.out, D.out, hk2, hb.out]
              unfold encStr
              congr 1
              apply ByteArray.ext
              simp [ByteArray.data_append])
            clear hpl hbs
            go_wp2
            go_ret
            exact ⟨by rw [RS.out]; rfl, F1.out⟩
  · have hn' : W.isNm s.data.toList = false := by simpa using hn
    rw [hn'] at HI
    have E := hid (show W.seg s.data.toList f = [] from by unfold W.seg; rw [if_neg (fun h => hn h.1)])
    clear hn hn'
    go_enter Tryz.func19, Tryz.ntmps19
    go_wp2_with (first | (go_at_call 51; refine HI.out.mono ?_; rintro e w' ⟨rfl, rfl⟩))
    go_ret
    exact ⟨by rw [E.out]; rfl, Fr.refl _ _⟩
/-- the document's disk, new -/
theorem rnew0 (w : World) : Calls Tryz.prog 15 #[.int .i64 100] w fun e w' => e = .returned (.tuple #[.pointer (some ⟨w.heap.size, 0, none⟩), .int .i64 0]) ∧ w'.heap[w.heap.size]? = some (.cells #[.int .i64 100, .slice none 0 0, .int .i64 0, .int .i64 0, .bool false] 88 (0, 0)) ∧ Fr (fun _ => False) w w' := by
  go_enter Tryz.func15, Tryz.ntmps15
  go_wp2
  go_ret2
  exact ⟨rfl, Go.heap_alloc_new w _, Fr.alloc (Fr.refl _ _) _⟩
theorem rdown0 (w : World) (p : Nat) (c4 : w.cell? ⟨p, 4, none⟩ = some (.bool false)) : Calls Tryz.prog 52 #[.pointer (some ⟨p, 0, none⟩)] w fun e w' => e = .returned (.bool false) ∧ w = w' := by
  go_enter Tryz.func52, Tryz.ntmps52
  go_wp2
  go_ret
  exact ⟨rfl, rfl⟩
theorem rnames0 (w : World) (p : Nat) (c1 : w.cell? ⟨p, 1, none⟩ = some (.slice none 0 0)) : Calls Tryz.prog 53 #[.pointer (some ⟨p, 0, none⟩)] w fun e w' => e = .returned (.slice none 0 0) ∧ w = w' := by
  go_enter Tryz.func53, Tryz.ntmps53
  go_wp2
  go_loopw [3, 4] (fun l i wr => l = .slice none 0 0 ∧ i = .int .i64 0 ∧ w = wr) (fun _ _ _ => 0)
  case atStart => exact ⟨rfl, rfl, rfl⟩
  case round =>
    obtain ⟨rfl, rfl, rfl⟩ := hrel
    go_wp2
    go_ret
    exact ⟨rfl, rfl⟩

set_option maxHeartbeats 1600000 in
set_option maxRecDepth 100000 in
theorem refopen0 (w : World) (p : Nat) (b : w.heap[p]? = some (.cells #[.int .i64 100, .slice none 0 0, .int .i64 0, .int .i64 0, .bool false] 88 (0, 0))) (s : ByteArray) (hz : s.size ≤ maxLen) :
    Calls Tryz.prog 17 #[.pointer (some ⟨p, 0, none⟩), .string s] w fun e w' => ∃ v, e = .returned (.tuple #[v, .int .i64 (if W.isNm s.data.toList = true then 0 else 1)]) ∧ Fr (fun _ => False) w w' := by
  have HI := hid (refname_any s hz w)
  have c1 := cell_of (j := 1) b rfl
  have c4 := cell_of (j := 4) b rfl
  have HD := hid (rdown0 w p c4)
  have BB := hid b
  clear b c4
  cases hn : W.isNm s.data.toList with
  | false =>
    rw [hn] at HI
    clear hn
    go_enter Tryz.func17, Tryz.ntmps17
    go_wp2_with (first | (go_at_call 51; refine HI.out.mono ?_; rintro e w' ⟨rfl, rfl⟩))
    go_ret2
    exact ⟨⟨_, rfl⟩, Fr.refl _ _⟩
  | true =>
    rw [hn] at HI
    clear hn
    go_enter Tryz.func17, Tryz.ntmps17
    go_wp2_with (first
      | (go_at_call 51; refine HI.out.mono ?_; rintro e w' ⟨rfl, rfl⟩)
      | (go_at_call 52; refine HD.out.mono ?_; rintro e w' ⟨rfl, rfl⟩)
      | (go_at_call 53; refine (rnames0 _ p (cell_fr (Fr.alloc (Fr.refl (fun _ => False) _) _) (fun h => h) c1)).mono ?_; rintro e w' ⟨rfl, hw2⟩; have b2 : w'.heap[w.heap.size]? = some (.cells #[.pointer (some ⟨p, 0, none⟩), .string s, .slice none 0 0, .int .i64 0, .int .i64 0, .bool false] 79 (0, 0)) := hw2 ▸ Go.heap_alloc_new w _; have c22 := cell_of (j := 2) b2 rfl; have c23 := cell_of (j := 3) b2 rfl; have c24 := cell_of (j := 4) b2 rfl; have z24 := frozen_of_row (j := 4) b2; clear b2; have F2 := hid (show Fr (fun _ => False) w w' from hw2 ▸ Fr.alloc (Fr.refl _ _) _); clear hw2))
    go_loopw [8, 9] (fun l i wr => l = .slice none 0 0 ∧ i = .int .i64 0 ∧ w' = wr) (fun _ _ _ => 0)
    case atStart => exact ⟨rfl, rfl, rfl⟩
    case round =>
      obtain ⟨rfl, rfl, rfl⟩ := hrel
      go_wp2
      go_loopw [12] (fun i wr => i = .int .i64 0 ∧ w' = wr) (fun _ _ => 0)
      case atStart => exact ⟨rfl, rfl⟩
      case round =>
        obtain ⟨rfl, rfl⟩ := hrel
        go_wp2
        go_loopw [19] (fun i wr => i = .int .i64 0 ∧ w' = wr) (fun _ _ => 0)
        case atStart => exact ⟨rfl, rfl⟩
        case round =>
          obtain ⟨rfl, rfl⟩ := hrel
          go_wp2
          go_ret2
          have ff : Fr (fun _ => False) w (w'.setCell ⟨w.heap.size, 4, none⟩ (.int .i64 0)) := Fr.setCell (p := ⟨w.heap.size, 4, none⟩) F2.out (fun h => by simp only at h; omega) _
          exact ⟨⟨_, rfl⟩, ff⟩

end Go.Proofs.YtgplkjfkafnpoaaGreatDoor
