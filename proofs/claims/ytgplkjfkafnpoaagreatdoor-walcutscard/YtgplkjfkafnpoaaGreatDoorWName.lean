/-
  The names of logs and of segments.
-/
import Derived.Test.YtgplkjfkafnpoaaGreatDoorKMem
import Derived.Test.YtgplkjfkafnpoaaGreatDoorWLib
namespace Go.Proofs.YtgplkjfkafnpoaaGreatDoor
open Go.RowKit
set_option linter.unusedVariables false
namespace W
def az (x : UInt8) : Bool := decide (97 ≤ x.toNat ∧ x.toNat ≤ 122)
/-- which names a log may have -/
def isNm (l : List UInt8) : Bool := l.all az && decide (1 ≤ l.length ∧ l.length ≤ 20)
theorem isNm_iff {l : List UInt8} : isNm l = true ↔ (∀ x ∈ l, az x = true) ∧ 1 ≤ l.length ∧ l.length ≤ 20 := by
  unfold isNm
  simp [List.all_eq_true]
theorem isNm_not {l : List UInt8} {k : Nat} {x : UInt8} (hk : l[k]? = some x) (h : az x = false) : isNm l = false := by
  cases e : isNm l with
  | false => rfl
  | true => rw [(isNm_iff.1 e).1 _ (List.mem_of_getElem? hk)] at h; cases h
end W

/-- the byte of a string -/
theorem run_str_at (w : World) (s : ByteArray) (k : Nat) (x : UInt8) (h : s.data.toList[k]? = some x) :
    (Instr.index 9 (.string s) (.int .i64 (k : Int))).run Tryz.prog w = .ok (B x) w := by
  have hk : k < s.data.toList.length := by
    rcases Nat.lt_or_ge k s.data.toList.length with h1 | h1
    · exact h1
    · rw [List.getElem?_eq_none h1] at h; cases h
  have hk2 : k < s.size := by rw [Array.length_toList] at hk; exact hk
  have hi : (0 : Int) ≤ (k : Int) ∧ (k : Int) < (s.size : Int) := by omega
  rw [run_index_string (P := Tryz.prog) (w := w) 9 s .i64 (k : Int) Tryz.underlying9, dif_pos hi]
  have e2 : s.data.toList[k]? = some (s[(k : Int).toNat]'(by omega)) := by
    rw [List.getElem?_eq_getElem hk, Array.getElem_toList]
    rfl
  rw [h] at e2
  simp only [Option.some.injEq] at e2
  rw [← e2]

set_option maxHeartbeats 800000 in
theorem isName_any (s : ByteArray) (hz : s.size ≤ maxLen) (w : World) :
    Calls Tryz.prog 46 #[.string s] w fun e w' => e = .returned (.bool (W.isNm s.data.toList)) ∧ w = w' := by
  obtain ⟨n, hn⟩ : ∃ n, s.size = n := ⟨_, rfl⟩
  have hlen : s.data.toList.length = n := by rw [Array.length_toList]; exact hn
  have hzn : n ≤ 9223372036854775807 := by unfold maxLen at hz; omega
  have HX := hid (fun w k x => run_str_at w s k x)
  obtain ⟨l, hl⟩ : ∃ l, s.data.toList = l := ⟨_, rfl⟩
  rw [hl] at hlen HX ⊢
  have HN := hid hn
  clear hl hz
  go_enter Tryz.func46, Tryz.ntmps46
  go_wp2
  go_loopw [6] (fun i wr => ∃ k : Nat, k ≤ n ∧ i = .int .i64 k ∧ wr = w ∧ Hid (∀ j x, j < k → l[j]? = some x → W.az x = true)) (fun i _ => n - (intOf i).toNat)
  case atStart => exact ⟨0, Nat.zero_le _, rfl, rfl, hid (fun j x h => absurd h (Nat.not_lt_zero _))⟩
  case round =>
    obtain ⟨k, hk, rfl, rfl, hall⟩ := hrel
    by_cases hlt : k < n
    · obtain ⟨x, hx⟩ : ∃ x, l[k]? = some x := ⟨l[k]'(by omega), List.getElem?_eq_getElem (by omega)⟩
      have r1 := HX.out wr k x hx
      have hx0 : (0 : Int) ≤ (x.toNat : Int) := by omega
      obtain ⟨xv, hxv⟩ : ∃ xv : Int, (x.toNat : Int) = xv := ⟨_, rfl⟩
      unfold B at r1
      rw [hxv] at r1 hx0
      by_cases h1 : xv < 97
      · have hf : W.isNm l = false := W.isNm_not hx (by unfold W.az; simp; omega)
        have HF := hid hf
        clear hf
        go_wp2
        go_ret
        exact ⟨by rw [HF.out]; rfl, rfl⟩
      · by_cases h2 : 122 < xv
        · have hf : W.isNm l = false := W.isNm_not hx (by unfold W.az; simp; omega)
          have HF := hid hf
          clear hf
          go_wp2
          go_ret
          exact ⟨by rw [HF.out]; rfl, rfl⟩
        · have HA := hid (show ∀ j y, j < k + 1 → l[j]? = some y → W.az y = true from fun j y hj hy => by
            by_cases e : j = k
            · subst e
              rw [hx] at hy
              cases hy
              unfold W.az
              simp
              omega
            · exact hall.out j y (by omega) hy)
          clear hx
          go_wp2
          go_roundw
          case rel => exact ⟨k + 1, by omega, by first | go_num | trivial, by first | trivial | rfl, HA⟩
          case measure => simp [intOf]; omega
    · have hkn : k = n := by omega
      subst hkn
      have HA := hid (show ∀ x ∈ l, W.az x = true from fun x hx => by
        obtain ⟨j, hj, e⟩ := List.getElem_of_mem hx
        exact hall.out j x (by omega) (by rw [List.getElem?_eq_getElem hj, e]))
      by_cases h1 : 1 ≤ k
      · by_cases h2 : k ≤ 20
        · have d20 : decide ((k : Int) ≤ 20) = true := decide_eq_true (by omega)
          have HF := hid (show W.isNm l = true from W.isNm_iff.2 ⟨HA.out, by omega, by omega⟩)
          go_wp2
          go_ret
          exact ⟨by rw [HF.out]; rfl, rfl⟩
        · have d20 : decide ((k : Int) ≤ 20) = false := decide_eq_false (by omega)
          have HF := hid (show W.isNm l = false from by
            cases e : W.isNm l with
            | false => rfl
            | true => have := (W.isNm_iff.1 e).2; omega)
          go_wp2
          go_ret
          exact ⟨by rw [HF.out]; rfl, rfl⟩
      · have HF := hid (show W.isNm l = false from by
          cases e : W.isNm l with
          | false => rfl
          | true => have := (W.isNm_iff.1 e).2; omega)
        go_wp2
        go_ret
        exact ⟨by rw [HF.out]; rfl, rfl⟩

end Go.Proofs.YtgplkjfkafnpoaaGreatDoor
