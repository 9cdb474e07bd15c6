/-
  The contracts of the document's reader.
-/
import Derived.Test.YtilliicanbbjkaaReader
import Derived.Test.YtilliicanbbjkaaRefReads
namespace Go.Proofs.Ytilliicanbbjkaa
open Go.RowKit
set_option linter.unusedVariables false

/-- THE DOCUMENT's READER lies in block s, and has bs left, which lie at a. -/
structure RR (w : World) (s : Nat) (a : Option Addr) (c : Nat) (bs : List UInt8) : Prop where
  at_ : w.heap[s]? = some (.cells #[.slice a bs.length c] 39 (0, 0))
  sl : Sl w a bs.length bs
  le : bs.length ≤ c
  mx : bs.length ≤ 200000000000000
theorem one_apart (a : Option Addr) (n c : Nat) : ∀ (j : Nat) (x : UInt8), (#[Value.slice a n c] : Array Value)[j]? ≠ some (B x) := by
  intro j x
  match j with
  | 0 => simp
  | j + 1 => simp
theorem RR.kept {S : Nat → Prop} {w w' : World} {p : Nat} {a : Option Addr} {c : Nat} {bs : List UInt8} (h : RR w p a c bs) (hf : Fr S w w') (hp : ¬ S p) (hS : 0 < bs.length → ∀ k, blk a = some k → ¬ S k) : RR w' p a c bs :=
  ⟨hf.cells h.at_ hp, h.sl.kept hf hS, h.le, h.mx⟩
theorem RR.c0 {w : World} {p : Nat} {a : Option Addr} {c : Nat} {bs : List UInt8} (h : RR w p a c bs) : w.cell? ⟨p, 0, none⟩ = some (.slice a bs.length c) := by
  rw [cell_of_row w p 0 _ _ _ h.at_]; rfl
theorem RR.f0 {w : World} {p : Nat} {a : Option Addr} {c : Nat} {bs : List UInt8} (h : RR w p a c bs) : w.frozen? ⟨p, 0, none⟩ = false := frozen_of_row h.at_
theorem RR.cut {w : World} {p : Nat} {a : Option Addr} {c : Nat} {bs : List UInt8} (h : RR w p a c bs) (k : Nat) (hk : k ≤ bs.length) (n c' : Nat) (hn : bs.length - k = n) (hc : c - k = c') (a' : Option Addr) (ha : cutA a c k = a') :
    RR (w.setCell ⟨p, 0, none⟩ (.slice a' n c')) p a' c' (bs.drop k) ∧ Fr (fun i => i = p) w (w.setCell ⟨p, 0, none⟩ (.slice a' n c')) ∧ blk a' = blk a := by
  subst hn hc ha
  have hl := h.le
  have hm := h.mx
  have hf : Fr (fun i => i = p) w (w.setCell ⟨p, 0, none⟩ (.slice (cutA a c k) (bs.length - k) (c - k))) := Fr.setCell (S := fun i => i = p) (Fr.refl _ _) (fun _ => rfl) _
  refine ⟨⟨?_, ?_, ?_, ?_⟩, hf, blk_cutA _ _ _⟩
  · rw [setCell_row h.at_, List.length_drop]; rfl
  · rw [List.length_drop]
    have h1 := h.sl.cut h.le k hk
    refine h1.kept hf (fun hz i hi e => ?_)
    subst e
    rw [blk_cutA] at hi
    exact (Sl.apart h.at_ (one_apart _ _ _) h.sl (by omega)) hi
  · rw [List.length_drop]; omega
  · rw [List.length_drop]; omega
/-- what becomes of it when k bytes are taken -/
def RRP (w : World) (p : Nat) (a : Option Addr) (bs : List UInt8) (k : Nat) (w' : World) : Prop :=
  ∃ a' c', RR w' p a' c' (bs.drop k) ∧ Fr (fun i => i = p) w w' ∧ blk a' = blk a

set_option maxHeartbeats 400000 in
theorem refRInt_any (w : World) (p : Nat) (a : Option Addr) (c : Nat) (bs : List UInt8) (h : RR w p a c bs) :
    Calls Try.prog 17 #[.pointer (some ⟨p, 0, none⟩)] w fun e w' => e = .returned (.tuple #[.int .i64 (M.takeI bs).1, .int .i64 (M.takeI bs).2.2]) ∧ RRP w p a bs (M.takeI bs).2.1 w' := by
  have c0 := h.c0
  have f0 := h.f0
  have hm := h.mx
  have K := hid (parseInt_any a bs.length c bs w h.sl (by omega))
  have hs := M.takeI_size bs
  obtain ⟨t1, t2, t3, ht⟩ : ∃ t1 t2 t3, M.takeI bs = (t1, t2, t3) := ⟨_, _, _, rfl⟩
  rw [ht] at K hs ⊢
  simp only at K hs ⊢
  have kc := fun w => run_cut_lo w a bs.length c t2 hs
  obtain ⟨n', hn'⟩ : ∃ n', bs.length - t2 = n' := ⟨_, rfl⟩
  obtain ⟨c', hc'⟩ : ∃ c', c - t2 = c' := ⟨_, rfl⟩
  obtain ⟨a', ha'⟩ : ∃ a', cutA a c t2 = a' := ⟨_, rfl⟩
  have HC := hid (h.cut t2 hs n' c' hn' hc' a' ha')
  rw [hn', hc', ha'] at kc
  obtain ⟨l, hl⟩ : ∃ l, bs.length = l := ⟨_, rfl⟩
  rw [hl] at kc c0 K
  clear hn' hc' ha' hl hs hm ht
  go_enter Try.func17, Try.ntmps17
  go_wp2_with (first | (go_at_call 42; refine K.out.mono ?_; rintro e w' ⟨rfl, rfl⟩))
  go_ret2
  exact ⟨rfl, a', c', HC.out⟩

set_option maxHeartbeats 400000 in
theorem refRFlag_any (w : World) (p : Nat) (a : Option Addr) (c : Nat) (bs : List UInt8) (h : RR w p a c bs) :
    Calls Try.prog 22 #[.pointer (some ⟨p, 0, none⟩)] w fun e w' => e = .returned (.tuple #[.bool (M.takeF bs).1, .int .i64 (M.takeF bs).2.2]) ∧ RRP w p a bs (M.takeF bs).2.1 w' := by
  have c0 := h.c0
  have f0 := h.f0
  have hm := h.mx
  have K := hid (parseInt_any a bs.length c bs w h.sl (by omega))
  have hs := M.takeI_size bs
  have he := M.takeI_err bs
  unfold M.takeF
  obtain ⟨t1, t2, t3, ht⟩ : ∃ t1 t2 t3, M.takeI bs = (t1, t2, t3) := ⟨_, _, _, rfl⟩
  rw [ht] at K hs he ⊢
  simp only at K hs he ⊢
  have kc := fun w => run_cut_lo w a bs.length c t2 hs
  obtain ⟨n', hn'⟩ : ∃ n', bs.length - t2 = n' := ⟨_, rfl⟩
  obtain ⟨c', hc'⟩ : ∃ c', c - t2 = c' := ⟨_, rfl⟩
  obtain ⟨a', ha'⟩ : ∃ a', cutA a c t2 = a' := ⟨_, rfl⟩
  have HC := hid (h.cut t2 hs n' c' hn' hc' a' ha')
  rw [hn', hc', ha'] at kc
  obtain ⟨l, hl⟩ : ∃ l, bs.length = l := ⟨_, rfl⟩
  rw [hl] at kc c0 K
  have HLn := hid hl
  clear hn' hc' ha' hl hs hm ht
  by_cases h3 : t3 = 0
  · subst h3
    rw [if_neg (by simp)]
    by_cases hbad : t1 ≠ 0 ∧ t1 ≠ 1
    · rw [if_pos hbad]
      by_cases hneg : t1 < 0
      · clear hbad he
        go_enter Try.func22, Try.ntmps22
        go_wp2_with (first | (go_at_call 42; refine K.out.mono ?_; rintro e w' ⟨rfl, rfl⟩))
        go_ret2
        exact ⟨rfl, a, c, by simpa using h, Fr.refl _ _, rfl⟩
      · have hgt : 1 < t1 := by omega
        clear hbad he
        go_enter Try.func22, Try.ntmps22
        go_wp2_with (first | (go_at_call 42; refine K.out.mono ?_; rintro e w' ⟨rfl, rfl⟩))
        go_ret2
        exact ⟨rfl, a, c, by simpa using h, Fr.refl _ _, rfl⟩
    · rw [if_neg hbad]
      have h01 : t1 = 0 ∨ t1 = 1 := by
        by_cases e0 : t1 = 0
        · exact .inl e0
        · by_cases e1 : t1 = 1
          · exact .inr e1
          · exact absurd ⟨e0, e1⟩ hbad
      clear hbad he
      rcases h01 with rfl | rfl
      all_goals
        go_enter Try.func22, Try.ntmps22
        go_wp2_with (first | (go_at_call 42; refine K.out.mono ?_; rintro e w' ⟨rfl, rfl⟩))
        go_ret2
        exact ⟨rfl, a', c', HC.out⟩
  · rw [if_pos (by simpa using h3)]
    have h3' : (t3 == 0) = false := by simpa using h3
    obtain ⟨e1, e2⟩ := he h3
    subst e1 e2
    have HZ := hid (h.cut 0 (by omega) l c (by rw [HLn.out]; rfl) (by simp) a (cutA_zero a c))
    clear h3 he
    go_enter Try.func22, Try.ntmps22
    go_wp2_with (first | (go_at_call 42; refine K.out.mono ?_; rintro e w' ⟨rfl, rfl⟩))
    go_ret2
    exact ⟨rfl, a, c, HZ.out.1, HZ.out.2.1, rfl⟩

set_option maxHeartbeats 800000 in
theorem parseBytes_any (a : Option Addr) (len c : Nat) (bs : List UInt8) (w : World) (h : Sl w a len bs) (hlc : len ≤ c) (hm : len ≤ 200000000000000) :
    Calls Try.prog 44 #[.slice a len c] w fun e w' => ∃ xa xc, e = .returned (.tuple #[.slice xa (M.takeB bs).1.length xc, .int .i64 ((M.takeB bs).2.1 : Nat), .int .i64 (M.takeB bs).2.2]) ∧ Ow w.heap.size w' xa xc (M.takeB bs).1 ∧ Fr (fun _ => False) w w' := by
  have hbl := h.1
  have K := hid (parseInt_any a len c bs w h (by omega))
  have hs := M.takeI_size bs
  unfold M.takeB M.takeL
  obtain ⟨t1, t2, t3, ht⟩ : ∃ t1 t2 t3, M.takeI bs = (t1, t2, t3) := ⟨_, _, _, rfl⟩
  rw [ht] at K hs ⊢
  simp only at K hs ⊢
  rw [hbl] at hs ⊢
  clear ht
  by_cases h3 : t3 = 0
  · subst h3
    by_cases hneg : t1 < 0
    · simp only [ne_eq, not_true_eq_false, if_false, hneg, if_true]
      rw [if_pos (by simp)]
      go_enter Try.func44, Try.ntmps44
      go_wp2_with (first | (go_at_call 42; refine K.out.mono ?_; rintro e w' ⟨rfl, rfl⟩))
      go_ret3
      exact ⟨none, 0, rfl, Ow.nil _ _, Fr.refl _ _⟩
    · simp only [ne_eq, not_true_eq_false, if_false, hneg]
      obtain ⟨m, rfl⟩ : ∃ m : Nat, t1 = (m : Int) := ⟨t1.toNat, by omega⟩
      rw [Int.toNat_natCast]
      by_cases hshort : ((len - t2 : Nat) : Int) < (m : Int)
      · rw [if_pos hshort]
        have hshort' : (len : Int) - (t2 : Int) < (m : Int) := by omega
        go_enter Try.func44, Try.ntmps44
        go_wp2_with (first | (go_at_call 42; refine K.out.mono ?_; rintro e w' ⟨rfl, rfl⟩))
        go_ret3
        exact ⟨none, 0, rfl, Ow.nil _ _, Fr.refl _ _⟩
      · rw [if_neg hshort]
        have hnot : ¬ (len : Int) - (t2 : Int) < (m : Int) := by omega
        have k1 := fun w => run_cut_both w a len c t2 (t2 + m) (by omega) (by omega) ((t2 : Int) + (m : Int)) (by omega)
        have hb1 : Sl w (cutA a c t2) m ((bs.drop t2).take m) := (h.cut hlc t2 hs).take m (by omega)
        rw [Nat.add_sub_cancel_left] at k1
        obtain ⟨a1, ha1⟩ : ∃ a1, cutA a c t2 = a1 := ⟨_, rfl⟩
        obtain ⟨c1, hc1⟩ : ∃ c1, c - t2 = c1 := ⟨_, rfl⟩
        rw [ha1, hc1] at k1
        rw [ha1] at hb1
        obtain ⟨body, hbody⟩ : ∃ body, (bs.drop t2).take m = body := ⟨_, rfl⟩
        rw [hbody] at hb1 ⊢
        have hbodyl := hb1.1
        clear ha1 hc1 hbody hshort
        go_enter Try.func44, Try.ntmps44
        go_wp2_with (first
          | (go_at_call 42; refine K.out.mono ?_; rintro e w' ⟨rfl, rfl⟩)
          | (at_builtin; refine wpList_append_b _ rfl (.tmp 26) (.tmp 32) rfl w.heap.size none 0 0 [] rfl rfl (Ow.nil _ _) a1 m c1 body rfl hb1 (by omega) (Nat.le_refl _) ?_; intro a3 c3 w3 how hgb hat; have HO3 := hid how; have hf3 : Fr (fun _ => False) w w3 := (Fr.of_grown hgb).mono (fun i hi e => by simp [blk] at e); have HF3 := hid hf3; clear how hgb hat hf3))
        go_ret3
        refine ⟨a3, c3, ?_, HO3.out, HF3.out⟩
        rw [hbodyl]
        simp
  · simp only [ne_eq, h3, not_false_eq_true, if_true]
    have h3' : (t3 != 0) = true := by simpa using h3
    clear h3
    go_enter Try.func44, Try.ntmps44
    go_wp2_with (first | (go_at_call 42; refine K.out.mono ?_; rintro e w' ⟨rfl, rfl⟩))
    go_ret3
    exact ⟨none, 0, rfl, Ow.nil _ _, Fr.refl _ _⟩

set_option maxHeartbeats 400000 in
theorem refRBytes_any (w : World) (p : Nat) (a : Option Addr) (c : Nat) (bs : List UInt8) (h : RR w p a c bs) :
    Calls Try.prog 19 #[.pointer (some ⟨p, 0, none⟩)] w fun e w' => ∃ xa xc, e = .returned (.tuple #[.slice xa (M.takeB bs).1.length xc, .int .i64 (M.takeB bs).2.2]) ∧ Ow w.heap.size w' xa xc (M.takeB bs).1 ∧ RRP w p a bs (M.takeB bs).2.1 w' := by
  have c0 := h.c0
  have hm := h.mx
  have hp := lt_of_row h.at_
  have K := hid (parseBytes_any a bs.length c bs w h.sl h.le (by omega))
  have hs := M.takeB_size bs
  obtain ⟨t1, t2, t3, ht⟩ : ∃ t1 t2 t3, M.takeB bs = (t1, t2, t3) := ⟨_, _, _, rfl⟩
  rw [ht] at K hs ⊢
  simp only at K hs ⊢
  obtain ⟨xl, hxl⟩ : ∃ xl, t1.length = xl := ⟨_, rfl⟩
  rw [hxl] at K ⊢
  have kc := fun w => run_cut_lo w a bs.length c t2 hs
  obtain ⟨n', hn'⟩ : ∃ n', bs.length - t2 = n' := ⟨_, rfl⟩
  obtain ⟨c', hc'⟩ : ∃ c', c - t2 = c' := ⟨_, rfl⟩
  obtain ⟨a', ha'⟩ : ∃ a', cutA a c t2 = a' := ⟨_, rfl⟩
  have HC := hid (fun (w1 : World) (h1 : RR w1 p a c bs) => h1.cut t2 hs n' c' hn' hc' a' ha')
  rw [hn', hc', ha'] at kc
  obtain ⟨l, hl⟩ : ∃ l, bs.length = l := ⟨_, rfl⟩
  rw [hl] at kc c0 K
  have HL := hid hl
  clear hn' hc' ha' hl hs hm ht hxl
  go_enter Try.func19, Try.ntmps19
  go_wp2_with (first | (go_at_call 44; refine K.out.mono ?_; rintro e w1 ⟨xa, xc, rfl, hx, hf⟩; have hr1 := h.kept hf (fun h => h) (fun _ _ _ h => h); have d0 := hr1.c0; have e0 := hr1.f0; rw [HL.out] at d0; have HR1 := hid hr1; have HX := hid hx; have HF := hid hf; clear hx hf hr1))
  go_ret2
  obtain ⟨h1, h2, h3⟩ := HC.out _ HR1.out
  exact ⟨xa, xc, rfl, HX.out.kept h2 (fun k hk e => by have := (HX.out.lt k hk).1; omega), a', c', h1, (HF.out.mono (fun _ _ h => h.elim)).trans h2 (fun _ _ h => h), h3⟩
end Go.Proofs.Ytilliicanbbjkaa
