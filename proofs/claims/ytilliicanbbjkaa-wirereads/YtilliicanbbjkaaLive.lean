/-
  live: the answers that the document fixes are given.
-/
import Derived.Test.YtilliicanbbjkaaCrc
import Derived.Test.YtilliicanbbjkaaReader
import Derived.Lib.SlBytesConst
namespace Go.Proofs.Ytilliicanbbjkaa
open Go.RowKit
set_option linter.unusedVariables false

theorem M.enc_m1 : M.enc (M.fd (-1)) = [1] := by
  have : M.fd (-1) = 1 := rfl
  rw [this, M.enc_small 1 (by omega)]; rfl
theorem M.take_64 : M.takeI [128, 1] = (64, 2, 0) := by decide
theorem M.crc_digits : M.crc [49, 50, 51, 52, 53, 54, 55, 56, 57] = 3421780262 := by decide +kernel

/-- a row of bytes that is laid down -/
theorem Sl.laid (w : World) (bs : List UInt8) (cs : Array Value) (t : TypeId) (m : Nat × Nat) (h : cs.toList = bs.map B) : Sl (w.alloc (.cells cs t m)) (some ⟨w.heap.size, 0, none⟩) bs.length bs := by
  refine ⟨rfl, .inr ⟨_, _, rfl, fun k x hx => ?_⟩⟩
  rw [cell_of_row _ _ _ cs t m (Go.heap_alloc_new w _), Nat.zero_add, ← Array.getElem?_toList, h]
  simp [hx]

theorem convert_const2 (w : World) (D : Obj) (C : Array Value) (n c : Nat) :
    (convert 26 26 (.slice (some ⟨w.heap.size + 1, 0, none⟩) n c)).run Try.prog ((w.alloc D).alloc (.cells C 5)) = .ok (.slice (some ⟨w.heap.size + 1, 0, none⟩) n c) ((w.alloc D).alloc (.cells C 5 (C.size, C.size + 1))) := by
  have h := Lib.run_convert_bytes_const (P := Try.prog) (w.alloc D) 26 5 C n c Try.underlying26 Try.underlying5
  have e : (w.alloc D).heap.size = w.heap.size + 1 := by simp
  rw [e] at h
  exact h
theorem Sl.alloc {w : World} {a : Option Addr} {n : Nat} {bs : List UInt8} (h : Sl w a n bs) (o : Obj) : Sl (w.alloc o) a n bs := h.kept (Fr.alloc (Fr.refl (fun _ => False) _) _) (fun _ _ _ h => h)
/-- two rows, and a row of the two -/
theorem Sls.two (w : World) (m1 m2 : Nat × Nat) (b1 b2 : List UInt8) (n1 n2 : Nat) (cs1 cs2 : Array Value) (h1 : cs1.toList = b1.map B) (h2 : cs2.toList = b2.map B) (e1 : b1.length = n1) (e2 : b2.length = n2) (l1 : n1 ≤ 9223372036854775807) (l2 : n2 ≤ 9223372036854775807) (t u v : TypeId) :
    Sls (((w.alloc (.cells cs1 t m1)).alloc (.cells cs2 u m2)).alloc (.cells #[.slice (some ⟨w.heap.size, 0, none⟩) n1 n1, .slice (some ⟨w.heap.size + 1, 0, none⟩) n2 n2] v)) (some ⟨w.heap.size + 1 + 1, 0, none⟩) 2 [b1, b2] := by
  have s1 : Sl (((w.alloc (.cells cs1 t m1)).alloc (.cells cs2 u m2)).alloc (.cells #[.slice (some ⟨w.heap.size, 0, none⟩) n1 n1, .slice (some ⟨w.heap.size + 1, 0, none⟩) n2 n2] v)) (some ⟨w.heap.size, 0, none⟩) n1 b1 := by
    have := ((Sl.laid w b1 cs1 t m1 h1).alloc (.cells cs2 u m2)).alloc (.cells #[.slice (some ⟨w.heap.size, 0, none⟩) n1 n1, .slice (some ⟨w.heap.size + 1, 0, none⟩) n2 n2] v)
    rw [e1] at this
    exact this
  have s2 : Sl (((w.alloc (.cells cs1 t m1)).alloc (.cells cs2 u m2)).alloc (.cells #[.slice (some ⟨w.heap.size, 0, none⟩) n1 n1, .slice (some ⟨w.heap.size + 1, 0, none⟩) n2 n2] v)) (some ⟨w.heap.size + 1, 0, none⟩) n2 b2 := by
    have := (Sl.laid (w.alloc (.cells cs1 t m1)) b2 cs2 u m2 h2).alloc (.cells #[.slice (some ⟨w.heap.size, 0, none⟩) n1 n1, .slice (some ⟨w.heap.size + 1, 0, none⟩) n2 n2] v)
    have e : (w.alloc (.cells cs1 t m1)).heap.size = w.heap.size + 1 := by simp
    rw [e2, e] at this
    exact this
  have hrow : (((w.alloc (.cells cs1 t m1)).alloc (.cells cs2 u m2)).alloc (.cells #[.slice (some ⟨w.heap.size, 0, none⟩) n1 n1, .slice (some ⟨w.heap.size + 1, 0, none⟩) n2 n2] v)).heap[w.heap.size + 1 + 1]? = some (.cells #[.slice (some ⟨w.heap.size, 0, none⟩) n1 n1, .slice (some ⟨w.heap.size + 1, 0, none⟩) n2 n2] v) := by
    have := Go.heap_alloc_new ((w.alloc (.cells cs1 t m1)).alloc (.cells cs2 u m2)) (.cells #[.slice (some ⟨w.heap.size, 0, none⟩) n1 n1, .slice (some ⟨w.heap.size + 1, 0, none⟩) n2 n2] v)
    have e : ((w.alloc (.cells cs1 t m1)).alloc (.cells cs2 u m2)).heap.size = w.heap.size + 1 + 1 := by simp
    rw [e] at this
    exact this
  refine ⟨rfl, .inr ⟨_, _, rfl, fun k bs hk => ?_⟩⟩
  match k, hk with
  | 0, hk =>
    simp at hk; subst hk
    exact ⟨_, _, _, by rw [cell_of_row _ _ _ _ _ _ hrow]; rfl, s1, l1⟩
  | 1, hk =>
    simp at hk; subst hk
    exact ⟨_, _, _, by rw [cell_of_row _ _ _ _ _ _ hrow]; rfl, s2, l2⟩
set_option maxHeartbeats 1000000 in
theorem live_any (w : World) : Calls Try.prog 10 #[] w fun e w' => e = .returned (.bool true) ∧ Fr (fun _ => False) w w' := by
  have kc := fun (w : World) (C : Array Value) (n c : Nat) => Lib.run_convert_bytes_const (P := Try.prog) w 26 5 C n c Try.underlying26 Try.underlying5
  have kc2 := convert_const2
  go_enter Try.func10, Try.ntmps10
  go_wp2_with fail
  refine (newWriter_any _).mono ?_
  rintro e w1 ⟨rfl, hw1, f1⟩
  obtain ⟨p, hp⟩ : ∃ p, p = w.heap.size := ⟨_, rfl⟩
  rw [← hp] at hw1 ⊢
  have HW1 := hid hw1
  have F1 := hid f1
  have HP := hid hp
  clear hw1 f1 hp
  go_wp2_with fail
  refine (newReader_any (some ⟨w1.heap.size, 0, none⟩) 2 2 [128, 1] _ (Sl.laid w1 [128, 1] _ _ _ rfl) (by omega)).mono ?_
  rintro e w2 ⟨q, qa, qc, rfl, hr2, f2, hq, hqa⟩
  have f2' : Fr (fun _ => False) w1 w2 := (Fr.alloc (Fr.refl _ w1) _).trans f2 (fun _ _ h => h)
  have hz2 : w1.heap.size ≤ q ∧ (∀ k, blk qa = some k → w1.heap.size ≤ k) ∧ w1.heap.size ≤ w2.heap.size := by
    have hs : ∀ o, (w1.alloc o).heap.size = w1.heap.size + 1 := fun o => by simp
    simp only [hs] at hq hqa
    exact ⟨by omega, fun k hk => by have := hqa k hk; omega, f2'.size⟩
  have HW2 := hid (HW1.out.kept f2' (fun h => h) (fun _ _ h => h))
  have HR2 := hid hr2
  have F2 := hid (F1.out.trans f2' (fun _ _ h => h))
  have HZ2 := hid hz2
  have hpl : p < w1.heap.size := lt_of_row HW1.out.at_
  have hql : q < w2.heap.size := lt_of_row HR2.out.at_
  have HQL := hid hql
  clear hql
  have HPL := hid hpl
  clear hr2 f2 f2' hz2 hq hqa HW1 F1 hpl
  go_wp2_with fail
  refine (wInt_any p w2 p none 0 [] HW2.out (-1) (by omega) (by omega) (Nat.le_of_lt (lt_of_row HW2.out.at_)) (by simp)).mono ?_
  intro e w3 h3
  rcases h3 with ⟨h3, _⟩ | ⟨_, rfl, a3, c3, hw3, f3, hb3⟩
  · rw [M.enc_m1] at h3; simp at h3
  rw [M.enc_m1] at hw3
  have HW3 := hid hw3
  have hne : q ≠ p ∧ (∀ k, blk qa = some k → ¬ k = p) := ⟨by have := HZ2.out.1; have := HPL.out; omega, fun k hk e => by have := HZ2.out.2.1 k hk; have := HPL.out; omega⟩
  have HR3 := hid (HR2.out.kept f3 (by simp [blk, hne.1]) (fun k hk => by simp [blk, hne.2 k hk]))
  have F3 := hid (F2.out.trans f3 (fun i hi h => by have := HP.out; simp [blk] at h; omega))
  have hlt3 := f3.size
  have HS3 := hid hlt3
  have hb3' : ∀ k, blk a3 = some k → w2.heap.size ≤ k := fun k hk => by
    rcases hb3 with e | e
    · rw [e] at hk; simp [blk] at hk
    · exact e k hk
  have HB3 := hid hb3'
  have HNE := hid hne
  clear hw3 f3 hb3 hne hlt3 hb3' HR2 HW2 F2
  go_wp2_with fail
  refine (rInt_any w3 q qa qc [128, 1] HR3.out).mono ?_
  rintro e w4 ⟨rfl, a4, c4, hr4, f4, _⟩
  rw [M.take_64]
  have hq2 : q < w2.heap.size ∧ (∀ k, blk a3 = some k → ¬ k = q) := ⟨HQL.out, fun k hk e => by have := HB3.out k hk; have := HQL.out; omega⟩
  have HW4 := hid (HW3.out.kept f4 (fun e => HNE.out.1 e.symm) (fun k hk => hq2.2 k hk))
  have F4 := hid (F3.out.trans f4 (fun i hi h => by have := HP.out; have := HPL.out; have := HZ2.out.1; omega))
  clear hr4 f4 hq2
  go_wp2_with fail
  refine (wOut_any p w4 p a3 c3 [1] HW4.out (by simp)).mono ?_
  rintro e w5 ⟨a5, c5, rfl, ho5, f5⟩
  have HO5 := hid ho5
  have F5 := hid (F4.out.trans f5 (fun _ _ h => h))
  clear ho5 f5
  go_wp2_with fail
  refine (equal_any a5 (some ⟨w5.heap.size, 0, none⟩) 1 c5 1 1 [1] [1] _ (HO5.out.sl.kept (Fr.alloc (Fr.refl (fun _ => False) w5) _) (fun _ _ _ h => h)) (Sl.laid w5 [1] _ _ _ rfl)).mono ?_
  rintro e w6 ⟨rfl, hw6⟩
  rw [decide_eq_true (rfl : ([1] : List UInt8) = [1])]
  have F6 : Hid (Fr (fun _ => False) w w6) := hid (by rw [← hw6]; exact Fr.alloc F5.out _)
  clear hw6 F5 HO5
  go_wp2_with fail
  refine (sum_any (some ⟨w6.heap.size + 1 + 1, 0, none⟩) 2 2 [[49, 50, 51, 52], [53, 54, 55, 56, 57]] _ (Sls.two w6 _ _ [49, 50, 51, 52] [53, 54, 55, 56, 57] 4 5 _ _ rfl rfl rfl rfl (by omega) (by omega) _ _ _) (by omega)).mono ?_
  rintro e w7 ⟨rfl, hw7⟩
  have ec : (([[49, 50, 51, 52], [53, 54, 55, 56, 57]] : List (List UInt8)).flatten) = [49, 50, 51, 52, 53, 54, 55, 56, 57] := rfl
  rw [ec, M.crc_digits]
  have F7 : Hid (Fr (fun _ => False) w w7) := hid (by rw [← hw7]; exact Fr.alloc (Fr.alloc (Fr.alloc F6.out _) _) _)
  clear hw7 F6 ec
  go_wp2
  go_ret
  exact ⟨rfl, F7.out⟩
/-- a row of one row -/
theorem Sls.one {w : World} {a : Option Addr} {n c : Nat} {bs : List UInt8} (h : Sl w a n bs) (hn : n ≤ 9223372036854775807) (t : TypeId) : Sls (w.alloc (.cells #[.slice a n c] t)) (some ⟨w.heap.size, 0, none⟩) 1 [bs] := by
  refine ⟨rfl, .inr ⟨_, _, rfl, fun k b hk => ?_⟩⟩
  match k, hk with
  | 0, hk =>
    simp at hk; subst hk
    exact ⟨a, n, c, by rw [cell_of_row _ _ _ _ _ _ (Go.heap_alloc_new w _)]; rfl, h.alloc _, hn⟩

end Go.Proofs.Ytilliicanbbjkaa
