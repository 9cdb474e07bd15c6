/-
  The document's Name.
-/
import Derived.Test.YtilbdpnioajkoaaGreatMg12
namespace Go.Proofs.YtilbdpnioajkoaaGreat
open Go.RowKit
set_option linter.unusedVariables false
set_option maxRecDepth 100000
set_option linter.unusedSimpArgs false

theorem wpList_index_t {ops : Array Oper} {rest : List Oper} {o : Oper} {a : Act} {w : World} {Q : Exit → Act → World → Prop} {ty : TypeId} {u i v : Value} (hl : (Instr.index ty u i).run Tryz.prog w = .ok v w) (h0 : ∃ x y, o.op = .index ty x y ∧ a.eval x = u ∧ a.eval y = i) (hw : Region.wanted o (yielded ops a.tmps) = true)
    (h : wpList Tryz.prog ops Q rest (a.put o.dst v) w) : wpList Tryz.prog ops Q (o :: rest) a w :=
  wpList_step fun K hK => by
    obtain ⟨x, y, ho, hx, hy⟩ := h0
    rw [if_pos hw]
    unfold Oper.wp execOp
    simp only [ho, hx, hy, hl, Sem.run_bind, Result.andThen_ok]
    exact hK _ _ h
/-- its sum -/
def S.tot (f : Nat → Int) : Nat → Int
  | 0 => 0
  | k + 1 => wrap64 (S.tot f k + f k)
def S.cnt (n : Int) : Bool := decide (0 ≤ n ∧ n ≤ 1099511627776)
/-- a vector may be -/
def S.okv (f : Nat → Int) : Nat → Bool
  | 0 => true
  | k + 1 => S.okv f k && S.cnt (f k)
theorem run_str_byte_t (w : World) (s : ByteArray) (k : Nat) (x : UInt8) (h : s.data.toList[k]? = some x) :
    (Instr.index 9 (.string s) (.int .i64 (k : Int))).run Tryz.prog w = .ok (B x) w := by
  have hk : k < s.data.toList.length := by
    rcases Nat.lt_or_ge k s.data.toList.length with h1 | h1
    · exact h1
    · rw [List.getElem?_eq_none h1] at h; cases h
  have hk2 : k < s.size := by rw [Array.length_toList] at hk; exact hk
  have hi : (0 : Int) ≤ (k : Int) ∧ (k : Int) < (s.size : Int) := by omega
  rw [run_index_string (P := Tryz.prog) (w := w) 9 s .i64 (k : Int) Tryz.underlying9, dif_pos hi]
  have e2 : s.data.toList[k]? = some (s[(k : Int).toNat]'(by omega)) := by
    rw [List.getElem?_eq_getElem hk, Array.getElem_toList]
    rfl
  rw [h] at e2
  simp only [Option.some.injEq] at e2
  rw [← e2]
set_option maxHeartbeats 3200000 in
theorem rtname_any (s : ByteArray) (w : World) : Calls Tryz.prog 50 #[.string s] w fun e w' => e = .returned (.bool (T.nam s)) ∧ w = w' := by
  by_cases hl : 255 < s.size
  · have h1 : (255 : Int) < (s.size : Int) := by omega
    rw [show T.nam s = false by simp [T.nam, T.txt, Nat.not_le.2 hl]]
    cases h0 : s.toList.isEmpty <;>
    · go_enter Tryz.func50, Tryz.ntmps50
      go_wp2
      go_ret
      exact ⟨rfl, rfl⟩
  · have hl1 : ¬ (255 : Int) < (s.size : Int) := by omega
    have hl2 : s.size ≤ 255 := by omega
    have hlen : s.data.toList.length = s.size := by rw [Array.length_toList]; rfl
    by_cases hbad : s.toList.isEmpty = true ∨ (s.toList == [46]) = true ∨ (s.toList == [46, 46]) = true
    · rw [show T.nam s = false by
        unfold T.nam T.txt
        rcases hbad with h | h | h <;> simp [h]]
      cases h0 : s.toList.isEmpty <;> cases h1 : (s.toList == [46]) <;> cases h2 : (s.toList == [46, 46]) <;>
      · first
        | (exfalso; simp [h0, h1, h2] at hbad; done)
        | (clear hbad
           go_enter Tryz.func50, Tryz.ntmps50
           go_wp2
           all_goals (go_ret; exact ⟨rfl, rfl⟩))
    · have h0 : s.toList.isEmpty = false := by cases h : s.toList.isEmpty with | false => rfl | true => exact absurd (.inl h) hbad
      have h1 : (s.toList == [46]) = false := by cases h : (s.toList == [46]) with | false => rfl | true => exact absurd (.inr (.inl h)) hbad
      have h2 : (s.toList == [46, 46]) = false := by cases h : (s.toList == [46, 46]) with | false => rfl | true => exact absurd (.inr (.inr h)) hbad
      have HR := hid (show T.nam s = !T.slash s by simp [T.nam, T.txt, h0, h1, h2, hl2])
      obtain ⟨n, hn⟩ : ∃ n, s.size = n := ⟨_, rfl⟩
      have HB := hid (fun w k x => run_str_byte_t w s k x)
      have HLEN := hid (hlen.trans hn)
      clear hbad hlen hl2
      go_enter Tryz.func50, Tryz.ntmps50
      rw [hn] at hl hl1
      go_wp2
      go_loopw [3] (fun i wr => ∃ (k : Nat), k ≤ n ∧ i = .int .i64 k ∧ Hid (∀ j, j < k → s.data.toList[j]? ≠ some 47) ∧ wr = w) (fun i _ => n - (intOf i).toNat)
      case atStart => exact ⟨0, Nat.zero_le _, rfl, hid (fun j hj => by omega), rfl⟩
      case round =>
        obtain ⟨k, hk, rfl, HK, rfl⟩ := hrel
        by_cases hlt : k < n
        · obtain ⟨x, hx⟩ : ∃ x, s.data.toList[k]? = some x := ⟨_, List.getElem?_eq_getElem (by rw [HLEN.out]; exact hlt)⟩
          have HX := hid hx
          have IX := hid (fun W => HB.out W k x hx)
          have i0 : (0 : Int) ≤ (k : Int) := by omega
          have i1 : (k : Int) < (n : Int) := by omega
          clear hx
          by_cases h47 : x = 47
          · have HN := hid (show T.nam s = false by
              have h5 : T.slash s = true := by
                simp only [T.slash, List.contains_iff_mem]
                rw [h47] at HX
                exact List.mem_of_getElem? HX.out
              rw [HR.out, h5]; rfl)
            have hy : ((x.toNat : Int) == 47) = true := by rw [h47]; rfl
            unfold B at IX
            generalize (x.toNat : Int) = y at IX hy
            clear h47
            go_wp2_with (first
              | (refine wpList_index_t (IX.out _) (by exact ⟨_, _, rfl, rfl, rfl⟩) (by kernel_rfl) ?_))
            go_ret
            exact ⟨ret_bool HN.out.symm, rfl⟩
          · have hy : ((x.toNat : Int) == 47) = false := by
              simp only [beq_eq_false_iff_ne, ne_eq]
              intro e
              apply h47
              apply UInt8.toNat_inj.1
              show x.toNat = 47
              omega
            have HK2 := hid (show ∀ j, j < k + 1 → s.data.toList[j]? ≠ some 47 from fun j hj => by
              by_cases e : j = k
              · subst e
                rw [HX.out]
                intro e2
                exact h47 (Option.some.inj e2)
              · exact HK.out j (by omega))
            unfold B at IX
            generalize (x.toNat : Int) = y at IX hy
            clear h47
            go_wp2_with (first
              | (refine wpList_index_t (IX.out _) (by exact ⟨_, _, rfl, rfl, rfl⟩) (by kernel_rfl) ?_))
            go_roundw
            case rel => exact ⟨k + 1, by omega, by first | go_num | trivial, HK2, by first | rfl | trivial⟩
            case measure => simp [intOf]; omega
        · obtain rfl : k = n := by omega
          have HN := hid (show T.nam s = true by
            have h5 : T.slash s = false := by
              cases h : T.slash s with
              | false => rfl
              | true =>
                simp only [T.slash, List.contains_iff_mem] at h
                obtain ⟨j, hj⟩ := List.getElem?_of_mem h
                exact absurd hj (HK.out j (by have := (List.getElem?_eq_some_iff.1 hj).1; rw [HLEN.out] at this; exact this))
            rw [HR.out, h5]; rfl)
          go_wp2
          go_ret
          exact ⟨ret_bool HN.out.symm, rfl⟩
end Go.Proofs.YtilbdpnioajkoaaGreat
