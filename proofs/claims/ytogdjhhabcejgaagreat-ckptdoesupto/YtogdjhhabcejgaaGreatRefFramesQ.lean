/-
  The contracts of the document's Frame and Unframe.
-/
import Derived.Test.YtogdjhhabcejgaaGreatMg23
import Derived.Test.YtogdjhhabcejgaaGreatMg29
import Derived.Test.YtogdjhhabcejgaaGreatRefInt
import Derived.Test.YtogdjhhabcejgaaGreatMaths2
namespace Go.Proofs.YtogdjhhabcejgaaGreat
open Go.RowKit
set_option linter.unusedVariables false

theorem refFrame_long (a : Option Addr) (len c : Nat) (w : World) (h : 1048576 < len) (hm : len ≤ 9223372036854775807) :
    Calls Tryz.prog 69 #[.slice a len c] w fun e w' => e = .returned (.tuple #[.slice none 0 0, .int .i64 3]) ∧ w = w' := by
  have h' : (1048576 : Int) < (len : Int) := by omega
  go_enter Tryz.func69, Tryz.ntmps69
  go_wp2
  go_ret2
  exact ⟨rfl, rfl⟩

theorem M.sumB0 (s : Nat) : (s : Int) % 256 = ((M.sumB s 0).toNat : Int) := by rw [← M.sumB_int]; simp
theorem M.sumB1 (s : Nat) : (s : Int) / 256 % 256 = ((M.sumB s 1).toNat : Int) := by rw [← M.sumB_int]; simp
theorem M.sumB2 (s : Nat) : (s : Int) / 65536 % 256 = ((M.sumB s 2).toNat : Int) := by rw [← M.sumB_int]; simp
theorem M.sumB3 (s : Nat) (h : s < 4294967296) : (s : Int) / 16777216 = ((M.sumB s 3).toNat : Int) := by
  have := M.sumB_int s 3
  have e : (2 : Int) ^ (8 * 3) = 16777216 := by decide
  rw [e] at this
  omega
theorem M.le4_eq (s : Nat) : M.le4 s = [M.sumB s 0, M.sumB s 1, M.sumB s 2, M.sumB s 3] := rfl

set_option maxHeartbeats 400000 in
theorem refFrame_ok (a : Option Addr) (len c : Nat) (bs : List UInt8) (w : World) (h : Sl w a len bs) (hlen : len ≤ 1048576) :
    Calls Tryz.prog 69 #[.slice a len c] w fun e w' => ∃ a' c', e = .returned (.tuple #[.slice a' (M.frame bs).length c', .int .i64 0]) ∧ Ow w.heap.size w' a' c' (M.frame bs) ∧ Fr (fun _ => False) w w' := by
  have hbl := h.1
  have K1 := hid (refSum_any a len c bs w h (by omega))
  have K2 := hid (refBytes_any a len c bs w h (by omega))
  have hcrc := M.crc_lt bs
  have hel := M.enc_ten _ (M.fd_lt len (by omega) (by omega))
  have hfr : M.frame bs = M.enc (M.fd len) ++ bs ++ M.le4 (M.crc bs) := by unfold M.frame; rw [hbl]
  obtain ⟨en, hen⟩ : ∃ en, M.enc (M.fd len) = en := ⟨_, rfl⟩
  rw [hen] at K2 hfr hel
  obtain ⟨el, hel'⟩ : ∃ el, en.length = el := ⟨_, rfl⟩
  rw [hel'] at K2 hel
  obtain ⟨sm, hsm⟩ : ∃ sm, M.crc bs = sm := ⟨_, rfl⟩
  rw [hsm] at hcrc hfr K1
  have hfl : (M.frame bs).length = el + len + 4 := by rw [hfr, List.length_append, List.length_append, M.le4_length, hel', hbl]
  rw [hfl]
  have HFR := hid hfr
  have HEL := hid hel'
  have e0 := M.sumB0 sm
  have e1 := M.sumB1 sm
  have e2 := M.sumB2 sm
  have e3 := M.sumB3 sm hcrc
  have hle := M.le4_eq sm
  obtain ⟨x0, h0⟩ : ∃ x, M.sumB sm 0 = x := ⟨_, rfl⟩
  obtain ⟨x1, h1⟩ : ∃ x, M.sumB sm 1 = x := ⟨_, rfl⟩
  obtain ⟨x2, h2⟩ : ∃ x, M.sumB sm 2 = x := ⟨_, rfl⟩
  obtain ⟨x3, h3⟩ : ∃ x, M.sumB sm 3 = x := ⟨_, rfl⟩
  rw [h0] at e0 hle
  rw [h1] at e1 hle
  rw [h2] at e2 hle
  rw [h3] at e3 hle
  have HLE := hid hle
  clear hen hsm hfr hel' hfl h0 h1 h2 h3 hle
  go_enter Tryz.func69, Tryz.ntmps69
  go_wp2_with (first
    | (go_at_call 98; refine K1.out.mono ?_; rintro e w1 ⟨rfl, rfl⟩)
    | (go_at_call 71; refine K2.out.mono ?_; rintro e w1 ⟨a1, c1, rfl, ho, hf⟩; have HO := hid ho; have HF := hid hf; have hsz := hf.size; have hs1 := Sl.laid w1 [x0, x1, x2, x3] #[.int .u8 (x0.toNat : Int), .int .u8 (x1.toNat : Int), .int .u8 (x2.toNat : Int), .int .u8 (x3.toNat : Int)] 5 (0, 0) rfl; have HS1 := hid hs1; have HO1 := hid (ho.kept (Fr.alloc (Fr.refl (fun _ => False) w1) (.cells #[.int .u8 (x0.toNat : Int), .int .u8 (x1.toNat : Int), .int .u8 (x2.toNat : Int), .int .u8 (x3.toNat : Int)] 5)) (fun _ _ h => h)); clear ho hf hs1)
    | (at_builtin; refine wpList_append_b _ rfl (.tmp 11) (.tmp 23) rfl w.heap.size a1 (el + len) c1 (en ++ bs) rfl (by rw [List.length_append, HEL.out, hbl]) HO1.out (some ⟨w1.heap.size, 0, none⟩) 4 4 [x0, x1, x2, x3] rfl HS1.out (by omega) (by simp; omega) ?_; intro a2 c2 w2 how hgb hat; have HO2 := hid how; have HF2 := hid ((Fr.alloc HF.out (.cells #[.int .u8 (x0.toNat : Int), .int .u8 (x1.toNat : Int), .int .u8 (x2.toNat : Int), .int .u8 (x3.toNat : Int)] 5)).trans (Fr.of_grown hgb) (fun i hi e => by have := (HO.out.lt i e).1; omega)); clear how hgb hat))
  go_ret2
  exact ⟨a2, c2, rfl, by rw [HFR.out, HLE.out]; exact HO2.out, HF2.out⟩

set_option maxRecDepth 20000 in
set_option maxHeartbeats 1600000 in
theorem refUnframe_any (a : Option Addr) (len c : Nat) (bs : List UInt8) (w : World) (h : Sl w a len bs) (hlc : len ≤ c) (hm : len ≤ 200000000000000) :
    Calls Tryz.prog 76 #[.slice a len c] w fun e w' => ∃ xa xc, e = .returned (.tuple #[.slice xa (M.unframe bs).1.length xc, .int .i64 ((M.unframe bs).2.1 : Nat), .int .i64 (M.unframe bs).2.2]) ∧ Ow w.heap.size w' xa xc (M.unframe bs).1 ∧ Fr (fun _ => False) w w' := by
  have hbl := h.1
  have K := hid (parseInt_any a len c bs w h (by omega))
  have hs := M.takeI_size bs
  unfold M.unframe M.takeL
  obtain ⟨t1, t2, t3, ht⟩ : ∃ t1 t2 t3, M.takeI bs = (t1, t2, t3) := ⟨_, _, _, rfl⟩
  rw [ht] at K hs ⊢
  simp only at K hs ⊢
  rw [hbl] at hs ⊢
  clear ht
  by_cases h3 : t3 = 0
  · subst h3
    by_cases hneg : t1 < 0
    · simp only [ne_eq, not_true_eq_false, if_false, hneg, if_true]
      rw [if_pos (by simp)]
      go_enter Tryz.func76, Tryz.ntmps76
      go_wp2_with (first | (go_at_call 77; refine K.out.mono ?_; rintro e w' ⟨rfl, rfl⟩))
      go_ret3
      exact ⟨none, 0, rfl, Ow.nil _ _, Fr.refl _ _⟩
    · simp only [ne_eq, not_true_eq_false, if_false, hneg]
      by_cases hlong : 1048576 < t1
      · rw [if_pos hlong]
        go_enter Tryz.func76, Tryz.ntmps76
        go_wp2_with (first | (go_at_call 77; refine K.out.mono ?_; rintro e w' ⟨rfl, rfl⟩))
        go_ret3
        exact ⟨none, 0, rfl, Ow.nil _ _, Fr.refl _ _⟩
      · rw [if_neg hlong]
        obtain ⟨m, rfl⟩ : ∃ m : Nat, t1 = (m : Int) := ⟨t1.toNat, by omega⟩
        rw [Int.toNat_natCast]
        by_cases hshort : len < t2 + m + 4
        · rw [if_pos hshort]
          have hshort' : (len : Int) - (t2 : Int) < (m : Int) + 4 := by omega
          go_enter Tryz.func76, Tryz.ntmps76
          go_wp2_with (first | (go_at_call 77; refine K.out.mono ?_; rintro e w' ⟨rfl, rfl⟩))
          go_ret3
          exact ⟨none, 0, rfl, Ow.nil _ _, Fr.refl _ _⟩
        · rw [if_neg hshort]
          have hnot : ¬ (len : Int) - (t2 : Int) < (m : Int) + 4 := by omega
          have k1 := fun w => run_cut_both w a len c t2 (t2 + m) (by omega) (by omega) ((t2 : Int) + (m : Int)) (by omega)
          have hb1 : Sl w (cutA a c t2) m ((bs.drop t2).take m) := (h.cut hlc t2 hs).take m (by omega)
          have hb2 : Sl w (cutA a c (t2 + m)) 4 ((bs.drop (t2 + m)).take 4) := (h.cut hlc (t2 + m) (by omega)).take 4 (by omega)
          rw [Nat.add_sub_cancel_left] at k1
          obtain ⟨a1, ha1⟩ : ∃ a1, cutA a c t2 = a1 := ⟨_, rfl⟩
          obtain ⟨c1, hc1⟩ : ∃ c1, c - t2 = c1 := ⟨_, rfl⟩
          rw [ha1, hc1] at k1
          rw [ha1] at hb1
          obtain ⟨body, hbody⟩ : ∃ body, (bs.drop t2).take m = body := ⟨_, rfl⟩
          rw [hbody] at hb1 ⊢
          have hbodyl := hb1.1
          obtain ⟨b, off, x, hab, _, _⟩ := h.at (k := 0) (by omega)
          subst hab
          have hcell0 : ∀ w', Fr (fun _ => False) w w' → ∀ i (hi : i < 4), w'.cell? ⟨b, off + (t2 + m + i), none⟩ = some (.int .u8 ((bs[t2 + m + i]'(by omega)).toNat : Int)) := by
            intro w' hf i hi
            obtain ⟨b', off', y, e, hy, hc⟩ := (h.kept hf (fun _ _ _ h => h)).at (k := t2 + m + i) (by omega)
            simp only [Option.some.injEq, Addr.mk.injEq] at e
            obtain ⟨rfl, rfl, _⟩ := e
            rw [hc]
            have : bs[t2 + m + i]? = some (bs[t2 + m + i]'(by omega)) := List.getElem?_eq_getElem (by omega)
            rw [this] at hy
            simp only [Option.some.injEq] at hy
            rw [hy]
          have hfour : (bs.drop (t2 + m)).take 4 = [bs[t2 + m]'(by omega), bs[t2 + m + 1]'(by omega), bs[t2 + m + 2]'(by omega), bs[t2 + m + 3]'(by omega)] := by
            rw [List.drop_eq_getElem_cons (by omega), List.drop_eq_getElem_cons (by omega), List.drop_eq_getElem_cons (by omega), List.drop_eq_getElem_cons (by omega)]
            rfl
          rw [hfour]
          obtain ⟨y0, hy0⟩ : ∃ y, bs[t2 + m]'(by omega) = y := ⟨_, rfl⟩
          obtain ⟨y1, hy1⟩ : ∃ y, bs[t2 + m + 1]'(by omega) = y := ⟨_, rfl⟩
          obtain ⟨y2, hy2⟩ : ∃ y, bs[t2 + m + 2]'(by omega) = y := ⟨_, rfl⟩
          obtain ⟨y3, hy3⟩ : ∃ y, bs[t2 + m + 3]'(by omega) = y := ⟨_, rfl⟩
          have hcell : ∀ w', Fr (fun _ => False) w w' → w'.cell? ⟨b, off + (t2 + m), none⟩ = some (.int .u8 (y0.toNat : Int)) ∧ w'.cell? ⟨b, off + (t2 + m + 1), none⟩ = some (.int .u8 (y1.toNat : Int)) ∧ w'.cell? ⟨b, off + (t2 + m + 2), none⟩ = some (.int .u8 (y2.toNat : Int)) ∧ w'.cell? ⟨b, off + (t2 + m + 3), none⟩ = some (.int .u8 (y3.toNat : Int)) := by
            intro w' hf
            subst hy0 hy1 hy2 hy3
            exact ⟨hcell0 w' hf 0 (by omega), hcell0 w' hf 1 (by omega), hcell0 w' hf 2 (by omega), hcell0 w' hf 3 (by omega)⟩
          rw [hy0, hy1, hy2, hy3]
          have hcrc := M.crc_lt body
          obtain ⟨sm, hsm⟩ : ∃ sm, M.crc body = sm := ⟨_, rfl⟩
          rw [hsm] at hcrc ⊢
          have HSM := hid hsm
          have e0 := M.sumB0 sm
          have e1 := M.sumB1 sm
          have e2 := M.sumB2 sm
          have e3 := M.sumB3 sm hcrc
          rw [M.le4_eq sm]
          obtain ⟨x0, h0⟩ : ∃ x, M.sumB sm 0 = x := ⟨_, rfl⟩
          obtain ⟨x1, h1⟩ : ∃ x, M.sumB sm 1 = x := ⟨_, rfl⟩
          obtain ⟨x2, h2⟩ : ∃ x, M.sumB sm 2 = x := ⟨_, rfl⟩
          obtain ⟨x3, h3⟩ : ∃ x, M.sumB sm 3 = x := ⟨_, rfl⟩
          rw [h0] at e0 ⊢
          rw [h1] at e1 ⊢
          rw [h2] at e2 ⊢
          rw [h3] at e3 ⊢
          have HCELL := hid hcell
          clear ha1 hc1 hbody hfour hy0 hy1 hy2 hy3 hsm h0 h1 h2 h3 hb2 hcell hcell0 h hshort
          by_cases q0 : y0 = x0
          · have b0 : ((y0.toNat : Int) != (x0.toNat : Int)) = false := by rw [q0]; simp
            by_cases q1 : y1 = x1
            · have b1 : ((y1.toNat : Int) != (x1.toNat : Int)) = false := by rw [q1]; simp
              by_cases q2 : y2 = x2
              · have b2 : ((y2.toNat : Int) != (x2.toNat : Int)) = false := by rw [q2]; simp
                by_cases q3 : y3 = x3
                · have b3 : ((y3.toNat : Int) != (x3.toNat : Int)) = false := by rw [q3]; simp
                  rw [if_neg (by simp [q0, q1, q2, q3])]
                  clear q0 q1 q2 q3
                  go_enter Tryz.func76, Tryz.ntmps76
                  go_wp2_with (first
                    | (go_at_call 77; refine K.out.mono ?_; rintro e w' ⟨rfl, rfl⟩)
                    | (at_builtin; refine wpList_append_b _ rfl (.tmp 35) (.tmp 40) rfl w.heap.size none 0 0 [] rfl rfl (Ow.nil _ _) a1 m c1 body rfl hb1 (by omega) (Nat.le_refl _) ?_; intro a3 c3 w3 how hgb hat; have HO3 := hid how; have hf3 : Fr (fun _ => False) w w3 := (Fr.of_grown hgb).mono (fun i hi e => by simp [blk] at e); have HF3 := hid hf3; have hs3 : Sl w3 a3 m body := (by have := how.sl; rw [List.nil_append, hbodyl] at this; exact this); have K3 := hid (refSum_any a3 m c3 body w3 hs3 (by omega)); rw [HSM.out] at K3; obtain ⟨g0, g1, g2, g3⟩ := HCELL.out w3 hf3; clear how hgb hat hf3 hs3)
                    | (go_at_call 98; refine K3.out.mono ?_; rintro e w4 ⟨rfl, rfl⟩))
                  go_ret3
                  refine ⟨a3, c3, ?_, HO3.out, HF3.out⟩
                  rw [hbodyl]
                  simp
                · rw [if_pos (by simp [q3])]
                  have b3 : ((y3.toNat : Int) != (x3.toNat : Int)) = true := by simp; intro e; exact q3 (UInt8.toNat_inj.1 (by omega))
                  clear q0 q1 q2 q3
                  go_enter Tryz.func76, Tryz.ntmps76
                  go_wp2_with (first
                    | (go_at_call 77; refine K.out.mono ?_; rintro e w' ⟨rfl, rfl⟩)
                    | (at_builtin; refine wpList_append_b _ rfl (.tmp 35) (.tmp 40) rfl w.heap.size none 0 0 [] rfl rfl (Ow.nil _ _) a1 m c1 body rfl hb1 (by omega) (Nat.le_refl _) ?_; intro a3 c3 w3 how hgb hat; have HO3 := hid how; have hf3 : Fr (fun _ => False) w w3 := (Fr.of_grown hgb).mono (fun i hi e => by simp [blk] at e); have HF3 := hid hf3; have hs3 : Sl w3 a3 m body := (by have := how.sl; rw [List.nil_append, hbodyl] at this; exact this); have K3 := hid (refSum_any a3 m c3 body w3 hs3 (by omega)); rw [HSM.out] at K3; obtain ⟨g0, g1, g2, g3⟩ := HCELL.out w3 hf3; clear how hgb hat hf3 hs3)
                    | (go_at_call 98; refine K3.out.mono ?_; rintro e w4 ⟨rfl, rfl⟩))
                  go_ret3
                  exact ⟨none, 0, rfl, Ow.nil _ _, HF3.out⟩
              · rw [if_pos (by simp [q2])]
                have b2 : ((y2.toNat : Int) != (x2.toNat : Int)) = true := by simp; intro e; exact q2 (UInt8.toNat_inj.1 (by omega))
                clear q0 q1 q2
                go_enter Tryz.func76, Tryz.ntmps76
                go_wp2_with (first
                  | (go_at_call 77; refine K.out.mono ?_; rintro e w' ⟨rfl, rfl⟩)
                  | (at_builtin; refine wpList_append_b _ rfl (.tmp 35) (.tmp 40) rfl w.heap.size none 0 0 [] rfl rfl (Ow.nil _ _) a1 m c1 body rfl hb1 (by omega) (Nat.le_refl _) ?_; intro a3 c3 w3 how hgb hat; have HO3 := hid how; have hf3 : Fr (fun _ => False) w w3 := (Fr.of_grown hgb).mono (fun i hi e => by simp [blk] at e); have HF3 := hid hf3; have hs3 : Sl w3 a3 m body := (by have := how.sl; rw [List.nil_append, hbodyl] at this; exact this); have K3 := hid (refSum_any a3 m c3 body w3 hs3 (by omega)); rw [HSM.out] at K3; obtain ⟨g0, g1, g2, g3⟩ := HCELL.out w3 hf3; clear how hgb hat hf3 hs3)
                  | (go_at_call 98; refine K3.out.mono ?_; rintro e w4 ⟨rfl, rfl⟩))
                go_ret3
                exact ⟨none, 0, rfl, Ow.nil _ _, HF3.out⟩
            · rw [if_pos (by simp [q1])]
              have b1 : ((y1.toNat : Int) != (x1.toNat : Int)) = true := by simp; intro e; exact q1 (UInt8.toNat_inj.1 (by omega))
              clear q0 q1
              go_enter Tryz.func76, Tryz.ntmps76
              go_wp2_with (first
                | (go_at_call 77; refine K.out.mono ?_; rintro e w' ⟨rfl, rfl⟩)
                | (at_builtin; refine wpList_append_b _ rfl (.tmp 35) (.tmp 40) rfl w.heap.size none 0 0 [] rfl rfl (Ow.nil _ _) a1 m c1 body rfl hb1 (by omega) (Nat.le_refl _) ?_; intro a3 c3 w3 how hgb hat; have HO3 := hid how; have hf3 : Fr (fun _ => False) w w3 := (Fr.of_grown hgb).mono (fun i hi e => by simp [blk] at e); have HF3 := hid hf3; have hs3 : Sl w3 a3 m body := (by have := how.sl; rw [List.nil_append, hbodyl] at this; exact this); have K3 := hid (refSum_any a3 m c3 body w3 hs3 (by omega)); rw [HSM.out] at K3; obtain ⟨g0, g1, g2, g3⟩ := HCELL.out w3 hf3; clear how hgb hat hf3 hs3)
                | (go_at_call 98; refine K3.out.mono ?_; rintro e w4 ⟨rfl, rfl⟩))
              go_ret3
              exact ⟨none, 0, rfl, Ow.nil _ _, HF3.out⟩
          · rw [if_pos (by simp [q0])]
            have b0 : ((y0.toNat : Int) != (x0.toNat : Int)) = true := by simp; intro e; exact q0 (UInt8.toNat_inj.1 (by omega))
            clear q0
            go_enter Tryz.func76, Tryz.ntmps76
            go_wp2_with (first
              | (go_at_call 77; refine K.out.mono ?_; rintro e w' ⟨rfl, rfl⟩)
              | (at_builtin; refine wpList_append_b _ rfl (.tmp 35) (.tmp 40) rfl w.heap.size none 0 0 [] rfl rfl (Ow.nil _ _) a1 m c1 body rfl hb1 (by omega) (Nat.le_refl _) ?_; intro a3 c3 w3 how hgb hat; have HO3 := hid how; have hf3 : Fr (fun _ => False) w w3 := (Fr.of_grown hgb).mono (fun i hi e => by simp [blk] at e); have HF3 := hid hf3; have hs3 : Sl w3 a3 m body := (by have := how.sl; rw [List.nil_append, hbodyl] at this; exact this); have K3 := hid (refSum_any a3 m c3 body w3 hs3 (by omega)); rw [HSM.out] at K3; obtain ⟨g0, g1, g2, g3⟩ := HCELL.out w3 hf3; clear how hgb hat hf3 hs3)
              | (go_at_call 98; refine K3.out.mono ?_; rintro e w4 ⟨rfl, rfl⟩))
            go_ret3
            exact ⟨none, 0, rfl, Ow.nil _ _, HF3.out⟩
  · simp only [ne_eq, h3, not_false_eq_true, if_true]
    have h3' : (t3 != 0) = true := by simpa using h3
    clear h3
    go_enter Tryz.func76, Tryz.ntmps76
    go_wp2_with (first | (go_at_call 77; refine K.out.mono ?_; rintro e w' ⟨rfl, rfl⟩))
    go_ret3
    exact ⟨none, 0, rfl, Ow.nil _ _, Fr.refl _ _⟩
end Go.Proofs.YtogdjhhabcejgaaGreat
