/-
  WalNames' walk.
-/
import Derived.Test.YtgplkjfkafnpoaaGreatDoorWRef
namespace Go.Proofs.YtgplkjfkafnpoaaGreatDoor
open Go.RowKit
set_option linter.unusedVariables false

theorem open_bad (w : World) (v : Value) (s : ByteArray) (hz : s.size ≤ maxLen) (hn : W.isNm s.data.toList = false) :
    Calls Tryz.prog 16 #[v, .string s] w fun e w' => e = .returned (.tuple #[.pointer none, .int .i64 1]) ∧ w = w' := by
  have HI := hid (isName_any s hz w)
  rw [hn] at HI
  clear hn
  go_enter Tryz.func16, Tryz.ntmps16
  go_wp2_with (first | (go_at_call 46; refine HI.out.mono ?_; rintro e w' ⟨rfl, rfl⟩))
  go_ret2
  exact ⟨rfl, rfl⟩
theorem open_nil (w : World) : Calls Tryz.prog 16 #[.pointer none, .string ⟨#[108, 111, 103]⟩] w fun e w' => e = .returned (.tuple #[.pointer none, .int .i64 2]) ∧ Fr (fun _ => False) w w' := by
  have HI := hid (isName_any ⟨#[108, 111, 103]⟩ (by unfold maxLen; decide) w)
  rw [show W.isNm (⟨#[108, 111, 103]⟩ : ByteArray).data.toList = true from W.log_nm] at HI
  have HS := hid (noSize w (.pointer none) (.inl rfl) ⟨#[108, 111, 103]⟩)
  go_enter Tryz.func16, Tryz.ntmps16
  go_wp2_with (first
    | (go_at_call 46; refine HI.out.mono ?_; rintro e w' ⟨rfl, rfl⟩)
    | (go_at_call 47; refine HS.out.mono ?_; rintro e w1 ⟨rfl, hf1⟩; have F1 := hid hf1; clear hf1))
  go_ret2
  exact ⟨rfl, F1.out⟩

set_option maxHeartbeats 3200000 in
set_option maxRecDepth 100000 in
theorem walNames_walk (w : World) (T : Tv w) (s : ByteArray) (hz : s.size ≤ maxLen) (f : Int) (hf0 : -9223372036854775808 ≤ f) (hf1 : f ≤ 9223372036854775807) :
    Calls Tryz.prog 4 #[.string s, .int .i64 f] w fun e w' => e = .returned (.bool true) ∧ Fr (fun _ => False) w w' := by
  have KN := hid (new_any 100 (by omega) (by omega) w)
  have KG := hid (fun W (hW : Fr (fun _ => False) w W) => segment_any s hz f hf0 hf1 W (T.kept hW (fun h => h)))
  have KR := hid (fun W (hW : Fr (fun _ => False) w W) => refseg_any s hz f hf0 hf1 W (T.kept hW (fun h => h)))
  have KL := hid (fun W (hW : Fr (fun _ => False) w W) => live_any W (T.kept hW (fun h => h)))
  have RO := hid (fun W p b => refopen0 W p b s hz)
  obtain ⟨sg, hsg⟩ : ∃ sg, W.seg s.data.toList f = sg := ⟨_, rfl⟩
  rw [hsg] at KG KR
  clear T hsg
  cases hn : W.isNm s.data.toList with
  | true =>
    have KO := hid (fun (S : Nat → Prop) (wo : World) p (h : Dk S wo p (K.mk 100)) => open_empty h rfl rfl s hz hn)
    rw [hn] at RO
    simp only [if_true] at RO
    clear hn
    go_enter Tryz.func4, Tryz.ntmps4
    go_wp2_with (first
      | (go_at_call 14; refine KN.out.mono ?_; rintro e w1 ⟨rfl, ht1⟩; have HT1 := hid ht1; clear ht1)
      | (go_at_call 15; refine (rnew0 _).mono ?_; rintro e w2 ⟨rfl, hb2, hf2⟩; have F2 := hid (HT1.out.2.trans hf2 (fun _ _ h => h)); have HD2 := hid (HT1.out.1.kept hf2 (fun _ _ h => h)); have HB2 := hid hb2; clear hb2 hf2)
      | (go_at_call 9; refine (KL.out _ F2.out).mono ?_; rintro e w3 ⟨rfl, hf3⟩; have F3 := hid (F2.out.trans hf3 (fun _ _ h => h)); have HD3 := hid (HD2.out.kept hf3 (fun _ _ h => h)); have HB3 := hid (hf3.cells HB2.out (fun h => h)); clear hf3)
      | (go_at_call_of 16 (Value.string s); refine (KO.out _ _ _ HD3.out).mono ?_; rintro e w4 ⟨q, hq, rfl, hld, hf4⟩; have F4 := hid (F3.out.trans hf4 (fun _ _ h => h)); have HB4 := hid (hf4.cells HB3.out (fun h => h)); clear hld hf4 hq)
      | (go_at_call 16; refine (open_nil _).mono ?_; rintro e w6 ⟨rfl, hf6⟩; have F6 := hid (F5.out.trans hf6 (fun _ _ h => h)); clear hf6)
      | (go_at_call 17; refine (RO.out _ _ HB4.out).mono ?_; rintro e w5 ⟨v5, rfl, hf5⟩; have F5 := hid (F4.out.trans hf5 (fun _ _ h => h)); clear hf5)
      | (go_at_call 18; refine (KG.out _ F6.out).mono ?_; rintro e w7 ⟨rfl, hf7⟩; have F7 := hid (F6.out.trans hf7 (fun _ _ h => h)); clear hf7)
      | (go_at_call 19; refine (KR.out _ F7.out).mono ?_; rintro e w8 ⟨rfl, hf8⟩; have F8 := hid (F7.out.trans hf8 (fun _ _ h => h)); clear hf8))
    go_ret
    exact ⟨rfl, F8.out⟩
  | false =>
    have KO := hid (fun (wo : World) v => open_bad wo v s hz hn)
    rw [hn] at RO
    simp only [Bool.false_eq_true, if_false] at RO
    clear hn
    go_enter Tryz.func4, Tryz.ntmps4
    go_wp2_with (first
      | (go_at_call 14; refine KN.out.mono ?_; rintro e w1 ⟨rfl, ht1⟩; have HT1 := hid ht1; clear ht1)
      | (go_at_call 15; refine (rnew0 _).mono ?_; rintro e w2 ⟨rfl, hb2, hf2⟩; have F2 := hid (HT1.out.2.trans hf2 (fun _ _ h => h)); have HD2 := hid (HT1.out.1.kept hf2 (fun _ _ h => h)); have HB2 := hid hb2; clear hb2 hf2)
      | (go_at_call 9; refine (KL.out _ F2.out).mono ?_; rintro e w3 ⟨rfl, hf3⟩; have F3 := hid (F2.out.trans hf3 (fun _ _ h => h)); have HD3 := hid (HD2.out.kept hf3 (fun _ _ h => h)); have HB3 := hid (hf3.cells HB2.out (fun h => h)); clear hf3)
      | (go_at_call_of 16 (Value.string s); refine (KO.out _ _).mono ?_; rintro e w4 ⟨rfl, hw4⟩; have F4 := hid (show Fr (fun _ => False) w w4 from hw4 ▸ F3.out); have HB4 := hid (hw4 ▸ HB3.out); clear hw4)
      | (go_at_call 16; refine (open_nil _).mono ?_; rintro e w6 ⟨rfl, hf6⟩; have F6 := hid (F5.out.trans hf6 (fun _ _ h => h)); clear hf6)
      | (go_at_call 17; refine (RO.out _ _ HB4.out).mono ?_; rintro e w5 ⟨v5, rfl, hf5⟩; have F5 := hid (F4.out.trans hf5 (fun _ _ h => h)); clear hf5)
      | (go_at_call 18; refine (KG.out _ F6.out).mono ?_; rintro e w7 ⟨rfl, hf7⟩; have F7 := hid (F6.out.trans hf7 (fun _ _ h => h)); clear hf7)
      | (go_at_call 19; refine (KR.out _ F7.out).mono ?_; rintro e w8 ⟨rfl, hf8⟩; have F8 := hid (F7.out.trans hf8 (fun _ _ h => h)); clear hf8))
    go_ret
    exact ⟨rfl, F8.out⟩

end Go.Proofs.YtgplkjfkafnpoaaGreatDoor
