/-
  The contract of the document's ParseBytes.
-/
import Derived.Test.YtogdjhhabcejgaaGreatReaderQ
import Derived.Test.YtogdjhhabcejgaaGreatMg29
namespace Go.Proofs.YtogdjhhabcejgaaGreat
open Go.RowKit
set_option linter.unusedVariables false

set_option maxHeartbeats 800000 in
theorem parseBytes_any (a : Option Addr) (len c : Nat) (bs : List UInt8) (w : World) (h : Sl w a len bs) (hlc : len ≤ c) (hm : len ≤ 200000000000000) :
    Calls Tryz.prog 78 #[.slice a len c] w fun e w' => ∃ xa xc, e = .returned (.tuple #[.slice xa (M.takeB bs).1.length xc, .int .i64 ((M.takeB bs).2.1 : Nat), .int .i64 (M.takeB bs).2.2]) ∧ Ow w.heap.size w' xa xc (M.takeB bs).1 ∧ Fr (fun _ => False) w w' := by
  have hbl := h.1
  have K := hid (parseInt_any a len c bs w h (by omega))
  have hs := M.takeI_size bs
  unfold M.takeB M.takeL
  obtain ⟨t1, t2, t3, ht⟩ : ∃ t1 t2 t3, M.takeI bs = (t1, t2, t3) := ⟨_, _, _, rfl⟩
  rw [ht] at K hs ⊢
  simp only at K hs ⊢
  rw [hbl] at hs ⊢
  clear ht
  by_cases h3 : t3 = 0
  · subst h3
    by_cases hneg : t1 < 0
    · simp only [ne_eq, not_true_eq_false, if_false, hneg, if_true]
      rw [if_pos (by simp)]
      go_enter Tryz.func78, Tryz.ntmps78
      go_wp2_with (first | (go_at_call 77; refine K.out.mono ?_; rintro e w' ⟨rfl, rfl⟩))
      go_ret3
      exact ⟨none, 0, rfl, Ow.nil _ _, Fr.refl _ _⟩
    · simp only [ne_eq, not_true_eq_false, if_false, hneg]
      obtain ⟨m, rfl⟩ : ∃ m : Nat, t1 = (m : Int) := ⟨t1.toNat, by omega⟩
      rw [Int.toNat_natCast]
      by_cases hshort : ((len - t2 : Nat) : Int) < (m : Int)
      · rw [if_pos hshort]
        have hshort' : (len : Int) - (t2 : Int) < (m : Int) := by omega
        go_enter Tryz.func78, Tryz.ntmps78
        go_wp2_with (first | (go_at_call 77; refine K.out.mono ?_; rintro e w' ⟨rfl, rfl⟩))
        go_ret3
        exact ⟨none, 0, rfl, Ow.nil _ _, Fr.refl _ _⟩
      · rw [if_neg hshort]
        have hnot : ¬ (len : Int) - (t2 : Int) < (m : Int) := by omega
        have k1 := fun w => run_cut_both w a len c t2 (t2 + m) (by omega) (by omega) ((t2 : Int) + (m : Int)) (by omega)
        have hb1 : Sl w (cutA a c t2) m ((bs.drop t2).take m) := (h.cut hlc t2 hs).take m (by omega)
        rw [Nat.add_sub_cancel_left] at k1
        obtain ⟨a1, ha1⟩ : ∃ a1, cutA a c t2 = a1 := ⟨_, rfl⟩
        obtain ⟨c1, hc1⟩ : ∃ c1, c - t2 = c1 := ⟨_, rfl⟩
        rw [ha1, hc1] at k1
        rw [ha1] at hb1
        obtain ⟨body, hbody⟩ : ∃ body, (bs.drop t2).take m = body := ⟨_, rfl⟩
        rw [hbody] at hb1 ⊢
        have hbodyl := hb1.1
        clear ha1 hc1 hbody hshort
        go_enter Tryz.func78, Tryz.ntmps78
        go_wp2_with (first
          | (go_at_call 77; refine K.out.mono ?_; rintro e w' ⟨rfl, rfl⟩)
          | (at_builtin; refine wpList_append_b _ rfl (.tmp 26) (.tmp 32) rfl w.heap.size none 0 0 [] rfl rfl (Ow.nil _ _) a1 m c1 body rfl hb1 (by omega) (Nat.le_refl _) ?_; intro a3 c3 w3 how hgb hat; have HO3 := hid how; have hf3 : Fr (fun _ => False) w w3 := (Fr.of_grown hgb).mono (fun i hi e => by simp [blk] at e); have HF3 := hid hf3; clear how hgb hat hf3))
        go_ret3
        refine ⟨a3, c3, ?_, HO3.out, HF3.out⟩
        rw [hbodyl]
        simp
  · simp only [ne_eq, h3, not_false_eq_true, if_true]
    have h3' : (t3 != 0) = true := by simpa using h3
    clear h3
    go_enter Tryz.func78, Tryz.ntmps78
    go_wp2_with (first | (go_at_call 77; refine K.out.mono ?_; rintro e w' ⟨rfl, rfl⟩))
    go_ret3
    exact ⟨none, 0, rfl, Ow.nil _ _, Fr.refl _ _⟩

end Go.Proofs.YtogdjhhabcejgaaGreat
