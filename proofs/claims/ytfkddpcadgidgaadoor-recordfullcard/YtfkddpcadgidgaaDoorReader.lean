/-
  The contracts of the reader.
-/
import Derived.Test.YtfkddpcadgidgaaDoorInts
import Derived.Test.YtfkddpcadgidgaaDoorReads
import Derived.Test.YtfkddpcadgidgaaDoorWriter
namespace Go.Proofs.YtfkddpcadgidgaaDoor
open Go.RowKit
set_option linter.unusedVariables false

/-- A READER THAT A CALL MADE lies in block p, and has bs left, which lie at a. -/
structure Rd (w : World) (p : Nat) (a : Option Addr) (c : Nat) (bs : List UInt8) : Prop where
  at_ : w.heap[p]? = some (.cells #[.bool true, .slice a bs.length c] 139 (0, 0))
  sl : Sl w a bs.length bs
  le : bs.length ≤ c
  mx : bs.length ≤ 200000000000000

theorem Rd.kept {S : Nat → Prop} {w w' : World} {p : Nat} {a : Option Addr} {c : Nat} {bs : List UInt8} (h : Rd w p a c bs) (hf : Fr S w w') (hp : ¬ S p) (hS : ∀ k, blk a = some k → ¬ S k) : Rd w' p a c bs :=
  ⟨hf.cells h.at_ hp, h.sl.kept hf (fun _ => hS), h.le, h.mx⟩
theorem Rd.kept' {S : Nat → Prop} {w w' : World} {p : Nat} {a : Option Addr} {c : Nat} {bs : List UInt8} (h : Rd w p a c bs) (hf : Fr S w w') (hp : ¬ S p) (hS : 0 < bs.length → ∀ k, blk a = some k → ¬ S k) : Rd w' p a c bs :=
  ⟨hf.cells h.at_ hp, h.sl.kept hf hS, h.le, h.mx⟩
theorem Rd.c0 {w : World} {p : Nat} {a : Option Addr} {c : Nat} {bs : List UInt8} (h : Rd w p a c bs) : w.cell? ⟨p, 0, none⟩ = some (.bool true) := by
  rw [cell_of_row w p 0 _ _ _ h.at_]; rfl
theorem Rd.c1 {w : World} {p : Nat} {a : Option Addr} {c : Nat} {bs : List UInt8} (h : Rd w p a c bs) : w.cell? ⟨p, 1, none⟩ = some (.slice a bs.length c) := by
  rw [cell_of_row w p 1 _ _ _ h.at_]; rfl
theorem Rd.f1 {w : World} {p : Nat} {a : Option Addr} {c : Nat} {bs : List UInt8} (h : Rd w p a c bs) : w.frozen? ⟨p, 1, none⟩ = false := frozen_of_row h.at_
/-- k bytes are taken -/
theorem Rd.cut {w : World} {p : Nat} {a : Option Addr} {c : Nat} {bs : List UInt8} (h : Rd w p a c bs) (k : Nat) (hk : k ≤ bs.length) (n c' : Nat) (hn : bs.length - k = n) (hc : c - k = c') (a' : Option Addr) (ha : cutA a c k = a') :
    Rd (w.setCell ⟨p, 1, none⟩ (.slice a' n c')) p a' c' (bs.drop k) ∧ Fr (fun i => i = p) w (w.setCell ⟨p, 1, none⟩ (.slice a' n c')) ∧ blk a' = blk a := by
  subst hn hc ha
  have hl := h.le
  have hm := h.mx
  have hr : (w.setCell ⟨p, 1, none⟩ (.slice (cutA a c k) (bs.length - k) (c - k))).heap[p]? = _ := setCell_row h.at_ _
  have hf : Fr (fun i => i = p) w (w.setCell ⟨p, 1, none⟩ (.slice (cutA a c k) (bs.length - k) (c - k))) := Fr.setCell (S := fun i => i = p) (Fr.refl _ _) (fun _ => rfl) _
  refine ⟨⟨?_, ?_, ?_, ?_⟩, hf, blk_cutA _ _ _⟩
  · rw [hr, List.length_drop]; rfl
  · rw [List.length_drop]
    have h1 := h.sl.cut h.le k hk
    refine h1.kept hf (fun hz i hi e => ?_)
    subst e
    rw [blk_cutA] at hi
    exact (Sl.apart h.at_ (two_apart _ _ _ _) h.sl (by omega)) hi
  · rw [List.length_drop]; omega
  · rw [List.length_drop]; omega

theorem newReader_any (a : Option Addr) (len c : Nat) (bs : List UInt8) (w : World) (h : Sl w a len bs) (hm : len ≤ 200000000000000) :
    Calls Tryd.prog 53 #[.slice a len c] w fun e w' => ∃ p a' c', e = .returned (.pointer (some ⟨p, 0, none⟩)) ∧ Rd w' p a' c' bs ∧ Fr (fun _ => False) w w' ∧ w.heap.size ≤ p ∧ (∀ k, blk a' = some k → w.heap.size ≤ k) := by
  have K := hid (clone_any a len c bs w h hm)
  go_enter Tryd.func53, Tryd.ntmps53
  go_wp2_with fail
  refine K.out.mono ?_
  rintro e w1 ⟨a1, c1, rfl, h1, h2⟩
  have H1 := hid h1
  have H2 := hid h2
  clear h1 h2
  go_wp2
  go_ret
  have hl := h.1
  have hlt := H1.out.lt
  refine ⟨w1.heap.size, a1, c1, rfl, ⟨?_, ?_, H1.out.len, by omega⟩, Fr.alloc H2.out _, H2.out.size, fun k hk => (hlt k hk).1⟩
  · rw [hl]; exact Go.heap_alloc_new w1 _
  · exact H1.out.sl.kept (Fr.alloc (Fr.refl (fun _ => False) _) _) (fun _ _ _ h => h)

theorem rIsMade_any (p : Nat) (w : World) (h : w.cell? ⟨p, 0, none⟩ = some (.bool true)) :
    Calls Tryd.prog 105 #[.pointer (some ⟨p, 0, none⟩)] w fun e w' => e = .returned (.bool true) ∧ w = w' := by
  go_enter Tryd.func105, Tryd.ntmps105
  go_wp2
  go_ret
  exact ⟨rfl, rfl⟩

/-- WHAT BECOMES OF A READER of which k bytes are taken. -/
def RP (w : World) (p : Nat) (a : Option Addr) (bs : List UInt8) (k : Nat) (w' : World) : Prop :=
  ∃ a' c', Rd w' p a' c' (bs.drop k) ∧ Fr (fun i => i = p) w w' ∧ blk a' = blk a
theorem RP.none {w : World} {p : Nat} {a : Option Addr} {c : Nat} {bs : List UInt8} (h : Rd w p a c bs) : RP w p a bs 0 w := ⟨a, c, by simpa using h, Fr.refl _ _, rfl⟩

set_option maxHeartbeats 400000 in
theorem rInt_any (w : World) (p : Nat) (a : Option Addr) (c : Nat) (bs : List UInt8) (h : Rd w p a c bs) :
    Calls Tryd.prog 107 #[.pointer (some ⟨p, 0, none⟩)] w fun e w' => e = .returned (.tuple #[.int .i64 (M.takeI bs).1, .int .i64 (M.takeI bs).2.2]) ∧ RP w p a bs (M.takeI bs).2.1 w' := by
  have c0 := h.c0
  have c1 := h.c1
  have f1 := h.f1
  have hm := h.mx
  have K := hid (takeInt_any a bs.length c bs w h.sl (by omega))
  have hs := M.takeI_size bs
  have he := M.takeI_err bs
  obtain ⟨t1, t2, t3, ht⟩ : ∃ t1 t2 t3, M.takeI bs = (t1, t2, t3) := ⟨_, _, _, rfl⟩
  rw [ht] at K hs he ⊢
  simp only at K hs he ⊢
  by_cases h3 : t3 = 0
  · have kc := fun w => run_cut_lo w a bs.length c t2 hs
    obtain ⟨n', hn'⟩ : ∃ n', bs.length - t2 = n' := ⟨_, rfl⟩
    obtain ⟨c', hc'⟩ : ∃ c', c - t2 = c' := ⟨_, rfl⟩
    obtain ⟨a', ha'⟩ : ∃ a', cutA a c t2 = a' := ⟨_, rfl⟩
    have HC := hid (h.cut t2 hs n' c' hn' hc' a' ha')
    rw [hn', hc', ha'] at kc
    obtain ⟨l, hl⟩ : ∃ l, bs.length = l := ⟨_, rfl⟩
    rw [hl] at kc c1 K
    clear hn' hc' ha' hl hs he hm ht
    subst h3
    go_enter Tryd.func107, Tryd.ntmps107
    go_wp2_with (first | (go_at_call 105; refine (rIsMade_any p _ c0).mono ?_; rintro e w' ⟨rfl, rfl⟩) | (go_at_call 112; refine K.out.mono ?_; rintro e w' ⟨rfl, rfl⟩))
    go_ret2
    exact ⟨rfl, a', c', HC.out⟩
  · have h3' : (t3 != 0) = true := by simpa using h3
    obtain ⟨e1, e2⟩ := he h3
    subst e1 e2
    obtain ⟨l, hl⟩ : ∃ l, bs.length = l := ⟨_, rfl⟩
    rw [hl] at c1 K
    clear hl hs he hm ht h3
    go_enter Tryd.func107, Tryd.ntmps107
    go_wp2_with (first | (go_at_call 105; refine (rIsMade_any p _ c0).mono ?_; rintro e w' ⟨rfl, rfl⟩) | (go_at_call 112; refine K.out.mono ?_; rintro e w' ⟨rfl, rfl⟩))
    go_ret2
    exact ⟨rfl, RP.none h⟩

theorem rEnd_any (w : World) (p : Nat) (a : Option Addr) (c : Nat) (bs : List UInt8) (h : Rd w p a c bs) :
    Calls Tryd.prog 80 #[.pointer (some ⟨p, 0, none⟩)] w fun e w' => e = .returned (.int .i64 (if bs.length = 0 then 0 else 13)) ∧ w = w' := by
  have c0 := h.c0
  have c1 := h.c1
  by_cases hz : bs.length = 0
  · rw [if_pos hz]
    rw [hz] at c1
    clear hz
    go_enter Tryd.func80, Tryd.ntmps80
    go_wp2_with (first | (go_at_call 105; refine (rIsMade_any p _ c0).mono ?_; rintro e w' ⟨rfl, rfl⟩))
    go_ret
    exact ⟨rfl, rfl⟩
  · rw [if_neg hz]
    have hz' : (0 : Int) < (bs.length : Int) := by omega
    go_enter Tryd.func80, Tryd.ntmps80
    go_wp2_with (first | (go_at_call 105; refine (rIsMade_any p _ c0).mono ?_; rintro e w' ⟨rfl, rfl⟩))
    go_ret
    exact ⟨rfl, rfl⟩

set_option maxHeartbeats 400000 in
theorem rPiece_any (w : World) (p : Nat) (a : Option Addr) (c : Nat) (bs : List UInt8) (h : Rd w p a c bs) :
    Calls Tryd.prog 116 #[.pointer (some ⟨p, 0, none⟩)] w fun e w' => ∃ xa xc, e = .returned (.tuple #[.slice xa (M.takeB bs).1.length xc, .int .i64 (M.takeB bs).2.2]) ∧
      Sl w' xa (M.takeB bs).1.length (M.takeB bs).1 ∧ RP w p a bs (M.takeB bs).2.1 w' := by
  have c0 := h.c0
  have c1 := h.c1
  have f1 := h.f1
  have hm := h.mx
  have K := hid (takeLen_any a bs.length c bs w h.sl (by omega))
  have hs := M.takeL_size bs
  have hp := M.takeL_pos bs
  have hle := h.le
  unfold M.takeB
  obtain ⟨t1, t2, t3, ht⟩ : ∃ t1 t2 t3, M.takeL bs = (t1, t2, t3) := ⟨_, _, _, rfl⟩
  rw [ht] at K hs hp ⊢
  simp only at K hs hp ⊢
  by_cases h3 : t3 = 0
  · subst h3
    rw [if_neg (by simp)]
    have hsl := h.sl.cut h.le t2 hs
    have kc := fun w => run_cut_lo w a bs.length c t2 hs
    by_cases hbad : ((bs.length - t2 : Nat) : Int) < t1
    · rw [if_pos hbad]
      obtain ⟨n', hn'⟩ : ∃ n', bs.length - t2 = n' := ⟨_, rfl⟩
      obtain ⟨c', hc'⟩ : ∃ c', c - t2 = c' := ⟨_, rfl⟩
      obtain ⟨a', ha'⟩ : ∃ a', cutA a c t2 = a' := ⟨_, rfl⟩
      rw [hn', hc', ha'] at kc
      rw [hn'] at hbad
      obtain ⟨l, hl⟩ : ∃ l, bs.length = l := ⟨_, rfl⟩
      rw [hl] at kc c1 K
      clear hn' hc' ha' hl hs hm ht hsl hle
      go_enter Tryd.func116, Tryd.ntmps116
      go_wp2_with (first | (go_at_call 105; refine (rIsMade_any p _ c0).mono ?_; rintro e w' ⟨rfl, rfl⟩) | (go_at_call 117; refine K.out.mono ?_; rintro e w' ⟨rfl, rfl⟩))
      go_ret2
      exact ⟨none, 0, rfl, Sl.nil _ _, RP.none h⟩
    · rw [if_neg hbad]
      obtain ⟨m, rfl⟩ : ∃ m : Nat, t1 = (m : Int) := ⟨t1.toNat, by omega⟩
      rw [Int.toNat_natCast]
      have k1 := fun w => run_cut_lo w (cutA a c t2) (bs.length - t2) (c - t2) m (by omega)
      have k2 := fun w => run_cut_hi w (cutA a c t2) (bs.length - t2) (c - t2) m (by omega)
      have hx : Sl w (cutA a c t2) m ((bs.drop t2).take m) := hsl.take m (by omega)
      have hxl : ((bs.drop t2).take m).length = m := hx.1
      have hcut : cutA (cutA a c t2) (c - t2) m = cutA a c (t2 + m) ∨ bs.length - (t2 + m) = 0 := by
        by_cases hz : bs.length - (t2 + m) = 0
        · exact .inr hz
        · left
          unfold cutA
          rw [if_neg (by omega), if_neg (by omega), if_neg (by omega)]
          cases a with
          | none => rfl
          | some a =>
            simp only [Option.map_some, Addr.add]
            by_cases e1 : t2 = 0
            · subst e1; simp
            · by_cases e2 : m = 0
              · subst e2; simp
              · simp [e1, e2, Nat.add_assoc]
      obtain ⟨a1, ha1⟩ : ∃ a1, cutA a c t2 = a1 := ⟨_, rfl⟩
      rw [ha1] at kc k1 k2 hx hcut
      have hb1 : blk a1 = blk a := by rw [← ha1, blk_cutA]
      obtain ⟨a2, ha2⟩ : ∃ a2, cutA a1 (c - t2) m = a2 := ⟨_, rfl⟩
      rw [ha2] at k1 hcut
      have hb2 : blk a2 = blk a := by rw [← ha2, blk_cutA, hb1]
      have hfr : Fr (fun i => i = p) w (w.setCell ⟨p, 1, none⟩ (.slice a2 (bs.length - t2 - m) (c - t2 - m))) := Fr.setCell (S := fun i => i = p) (Fr.refl _ _) (fun _ => rfl) _
      have hap : 0 < bs.length → ∀ i, blk a = some i → ¬ i = p := fun hz i hi e => by
        subst e; exact (Sl.apart h.at_ (two_apart _ _ _ _) h.sl hz) hi
      have HR : Hid (Rd (w.setCell ⟨p, 1, none⟩ (.slice a2 (bs.length - t2 - m) (c - t2 - m))) p a2 (c - t2 - m) (bs.drop (t2 + m))) := by
        refine ⟨?_, ?_, by rw [List.length_drop]; omega, by rw [List.length_drop]; omega⟩
        · rw [setCell_row h.at_, List.length_drop, Nat.sub_add_eq]; rfl
        · rw [List.length_drop]
          refine Sl.kept ?_ hfr (fun hz i hi e => hap (by omega) i (hb2 ▸ hi) e)
          rcases hcut with e | e
          · rw [e]; exact h.sl.cut h.le (t2 + m) (by omega)
          · rw [e]; exact ⟨by rw [List.length_drop]; exact e, .inl rfl⟩
      have HX : Hid (Sl (w.setCell ⟨p, 1, none⟩ (.slice a2 (bs.length - t2 - m) (c - t2 - m))) a1 m ((bs.drop t2).take m)) :=
        hx.kept hfr (fun hz i hi e => hap (by omega) i (hb1 ▸ hi) e)
      have HF := hid hfr
      have HB2 := hid hb2
      have HXL := hid hxl
      obtain ⟨n', hn'⟩ : ∃ n', bs.length - t2 = n' := ⟨_, rfl⟩
      obtain ⟨c', hc'⟩ : ∃ c', c - t2 = c' := ⟨_, rfl⟩
      have hnb : ¬ ((n' : Int) < (m : Int)) := by rw [← hn']; exact hbad
      rw [hn'] at kc k1 k2 HR HX HF
      rw [hc'] at kc k1 k2 HR HX HF
      obtain ⟨n2, hn2⟩ : ∃ n2, n' - m = n2 := ⟨_, rfl⟩
      obtain ⟨c2, hc2⟩ : ∃ c2, c' - m = c2 := ⟨_, rfl⟩
      rw [hn2, hc2] at k1 HR HX HF
      obtain ⟨l, hl⟩ : ∃ l, bs.length = l := ⟨_, rfl⟩
      rw [hl] at kc c1 K
      clear hn' hc' ha1 ha2 hl hs hm ht hsl hle hx hxl hcut hb1 hb2 hfr hap hn2 hc2 hbad h
      go_enter Tryd.func116, Tryd.ntmps116
      go_wp2_with (first | (go_at_call 105; refine (rIsMade_any p _ c0).mono ?_; rintro e w' ⟨rfl, rfl⟩) | (go_at_call 117; refine K.out.mono ?_; rintro e w' ⟨rfl, rfl⟩))
      go_ret2
      rw [HXL.out]
      exact ⟨a1, c', rfl, HX.out, a2, c2, HR.out, HF.out, HB2.out⟩
  · rw [if_pos (by simpa using h3)]
    have h3' : (t3 != 0) = true := by simpa using h3
    obtain ⟨l, hl⟩ : ∃ l, bs.length = l := ⟨_, rfl⟩
    rw [hl] at c1 K
    clear hl hs hm ht h3 hle
    go_enter Tryd.func116, Tryd.ntmps116
    go_wp2_with (first | (go_at_call 105; refine (rIsMade_any p _ c0).mono ?_; rintro e w' ⟨rfl, rfl⟩) | (go_at_call 117; refine K.out.mono ?_; rintro e w' ⟨rfl, rfl⟩))
    go_ret2
    exact ⟨none, 0, rfl, Sl.nil _ _, RP.none h⟩

theorem RP.on {w : World} {p : Nat} {a : Option Addr} {bs : List UInt8} {k : Nat} {w1 w2 : World} (h : RP w p a bs k w1) (hf : Fr (fun _ => False) w1 w2) : RP w p a bs k w2 := by
  obtain ⟨a', c', h1, h2, h3⟩ := h
  exact ⟨a', c', h1.kept hf (fun h => h) (fun _ _ h => h), h2.trans hf (fun _ _ h => h.elim), h3⟩
theorem RP.size {w : World} {p : Nat} {a : Option Addr} {bs : List UInt8} {k : Nat} {w1 : World} (h : RP w p a bs k w1) : w.heap.size ≤ w1.heap.size := by
  obtain ⟨a', c', h1, h2, h3⟩ := h
  exact h2.size
theorem M.takeB_le (bs : List UInt8) : (M.takeB bs).1.length ≤ bs.length := by
  unfold M.takeB
  split
  · simp
  · split
    · simp
    · simp only [List.length_take, List.length_drop]; omega

set_option maxHeartbeats 400000 in
theorem rBytes_any (w : World) (p : Nat) (a : Option Addr) (c : Nat) (bs : List UInt8) (h : Rd w p a c bs) :
    Calls Tryd.prog 114 #[.pointer (some ⟨p, 0, none⟩)] w fun e w' => ∃ xa xc, e = .returned (.tuple #[.slice xa (M.takeB bs).1.length xc, .int .i64 (M.takeB bs).2.2]) ∧
      Ow w.heap.size w' xa xc (M.takeB bs).1 ∧ RP w p a bs (M.takeB bs).2.1 w' := by
  have K := hid (rPiece_any w p a c bs h)
  have hl : (M.takeB bs).1.length ≤ 200000000000000 := Nat.le_trans (M.takeB_le bs) h.mx
  obtain ⟨t1, t2, t3, ht⟩ : ∃ t1 t2 t3, M.takeB bs = (t1, t2, t3) := ⟨_, _, _, rfl⟩
  rw [ht] at K hl ⊢
  simp only at K hl ⊢
  obtain ⟨n, hn⟩ : ∃ n, t1.length = n := ⟨_, rfl⟩
  rw [hn] at K hl ⊢
  clear ht
  have HN := hid hn
  clear hn
  go_enter Tryd.func114, Tryd.ntmps114
  go_wp2_with (first
    | (go_at_call 116; refine K.out.mono ?_; rintro e w1 ⟨xa, xc, rfl, hx, hr⟩; have HX := hid hx; have HR := hid hr; clear hx hr)
    | (go_at_call 31; refine (clone_any xa n xc t1 _ HX.out hl).mono ?_; rintro e w2 ⟨ya, yc, rfl, hy, hf⟩; have HY := hid hy; have HF := hid hf; clear hy hf))
  go_ret2
  exact ⟨ya, yc, rfl, HY.out.base (fun k hk => Nat.le_trans HR.out.size (HY.out.lt k hk).1), HR.out.on HF.out⟩

set_option maxHeartbeats 400000 in
theorem rText_any (w : World) (p : Nat) (a : Option Addr) (c : Nat) (bs : List UInt8) (h : Rd w p a c bs) :
    Calls Tryd.prog 113 #[.pointer (some ⟨p, 0, none⟩)] w fun e w' => e = .returned (.tuple #[.string (str (M.takeB bs).1), .int .i64 (M.takeB bs).2.2]) ∧ RP w p a bs (M.takeB bs).2.1 w' := by
  have K := hid (rPiece_any w p a c bs h)
  obtain ⟨t1, t2, t3, ht⟩ : ∃ t1 t2 t3, M.takeB bs = (t1, t2, t3) := ⟨_, _, _, rfl⟩
  rw [ht] at K ⊢
  simp only at K ⊢
  obtain ⟨n, hn⟩ : ∃ n, t1.length = n := ⟨_, rfl⟩
  rw [hn] at K
  clear ht hn
  go_enter Tryd.func113, Tryd.ntmps113
  go_wp2_with (first
    | (go_at_call 116; refine K.out.mono ?_; rintro e w1 ⟨xa, xc, rfl, hx, hr⟩; have hxs := run_str _ xa n xc t1 hx; have HR := hid hr; clear hx hr))
  go_ret2
  exact ⟨rfl, HR.out⟩

end Go.Proofs.YtfkddpcadgidgaaDoor
