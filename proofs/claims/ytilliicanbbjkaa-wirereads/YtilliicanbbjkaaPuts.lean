/-
  The contract of the statements' put.
-/
import Derived.Test.YtilliicanbbjkaaLive
import Derived.Test.YtilliicanbbjkaaRefInt
import Derived.Deep.RegionHeld3
namespace Go.Proofs.Ytilliicanbbjkaa
open Go.RowKit
set_option linter.unusedVariables false

/-- what a part is put as -/
def partEnc (k n : Int) (bs : List UInt8) : List UInt8 :=
  if k = 0 then M.enc (M.fd n) else if k = 1 ∨ k = 2 then encB bs else M.enc (M.fd (if 0 < n then 1 else 0))

theorem partEnc_len (k n : Int) (bs : List UInt8) (h1 : -9223372036854775808 ≤ n) (h2 : n ≤ 9223372036854775807) (hb : bs.length ≤ 9223372036854775807) : 0 < (partEnc k n bs).length ∧ (partEnc k n bs).length ≤ 10 + bs.length := by
  unfold partEnc
  split
  · have := M.enc_ten _ (M.fd_lt n h1 h2); have := M.enc_pos (M.fd n); omega
  · split
    · unfold encB
      rw [List.length_append]
      have := M.enc_ten _ (M.fd_lt bs.length (by omega) (by omega)); have := M.enc_pos (M.fd bs.length); omega
    · have := M.enc_ten _ (M.fd_lt (if 0 < n then 1 else 0) (by split <;> omega) (by split <;> omega)); have := M.enc_pos (M.fd (if 0 < n then 1 else 0)); omega
theorem cell_kept {S : Nat → Prop} {w w' : World} (hf : Fr S w w') {b o : Nat} {v : Value} (h : w.cell? ⟨b, o, none⟩ = some v) (hS : ¬ S b) : w'.cell? ⟨b, o, none⟩ = some v := by
  rw [World.cell?_of_block (w := w) (w' := w') (hf.block b (World.block_lt_of_cell? w _ h) hS)]; exact h

theorem WP.fr {base : Nat} {w : World} {p : Nat} {a : Option Addr} {c : Nat} {bs add : List UInt8} {e : Ending} {w' : World} (h : WP base w p a c bs add e w') : Fr (fun k => k = p ∨ blk a = some k) w w' := by
  rcases h with ⟨_, _, h, _⟩ | ⟨_, _, _, _, _, h, _⟩
  · exact h.mono (fun _ _ h => h.elim)
  · exact h
/-- WHAT put ANSWERS: the bytes that a part must be put as, and the writer's own error. -/
def PutP (base : Nat) (w : World) (p : Nat) (a : Option Addr) (c : Nat) (bs en : List UInt8) (e : Ending) (w' : World) : Prop :=
  ∃ ra rc er, e = .returned (.tuple #[.slice ra en.length rc, .int .i64 er]) ∧ Ow w.heap.size w' ra rc en ∧ WP base w p a c bs en (.returned (.int .i64 er)) w'
theorem PutP.mk {base : Nat} {w w1 : World} {p : Nat} {a : Option Addr} {c : Nat} {bs en : List UInt8} {ra : Option Addr} {rc : Nat} {er : Int} {w' : World} {b1 : Nat} (ho : Ow b1 w1 ra rc en) (hb1 : w.heap.size < b1) (hp : p < w.heap.size) (hal : ∀ k, blk a = some k → k < w.heap.size)
    (h1 : WP base w1 p a c bs en (.returned (.int .i64 er)) w') (f1 : Fr (fun _ => False) w w1) : PutP base w p a c bs en (.returned (.tuple #[.slice ra en.length rc, .int .i64 er])) w' := by
  refine ⟨ra, rc, er, rfl, ?_, h1.from f1⟩
  refine (ho.kept h1.fr (fun k hk e => ?_)).base (fun k hk => by have := (ho.lt k hk).1; omega)
  have := (ho.lt k hk).1
  rcases e with rfl | e
  · omega
  · have := hal k e; omega

theorem box_apart {w : World} {p : Nat} {a : Option Addr} (hp : p < w.heap.size) (hal : ∀ k, blk a = some k → k < w.heap.size) : ¬ (w.heap.size = p ∨ blk a = some w.heap.size) := by
  rintro (e | e)
  · omega
  · have := hal _ e; omega

set_option maxHeartbeats 800000 in
theorem putInt (base : Nat) (w : World) (p : Nat) (a : Option Addr) (c : Nat) (bs : List UInt8) (h : Wr base w p a c bs) (n : Int) (h1 : -9223372036854775808 ≤ n) (h2 : n ≤ 9223372036854775807) (ba : Option Addr) (bl bc : Nat) (hbase : base ≤ w.heap.size) (hbs : bs.length ≤ 1048576) :
    Calls Try.prog 11 #[.pointer (some ⟨p, 0, none⟩), .agg #[.int .i64 0, .int .i64 n, .slice ba bl bc]] w fun e w' => PutP base w p a c bs (M.enc (M.fd n)) e w' := by
  have hp := lt_of_row h.at_
  have hal : ∀ k, blk a = some k → k < w.heap.size := fun k hk => (h.row.lt k hk).2
  have HAL := hid hal
  have HW := hid h
  have K1 := fun W => refInt_any n W h1 h2
  have K2 := fun W hW hb => wInt_any base W p a c bs hW n h1 h2 hb hbs
  obtain ⟨en, hen⟩ : ∃ en, M.enc (M.fd n) = en := ⟨_, rfl⟩
  obtain ⟨el, hel⟩ : ∃ el, en.length = el := ⟨_, rfl⟩
  rw [hen]
  simp only [hen, hel] at K1 K2
  have HK1 := hid K1
  have HK2 := hid K2
  have HEL := hid hel
  clear hal hen hel h K1 K2
  go_enter Try.func11, Try.ntmps11
  go_wp2
  go_region_held3 (fun w' => w'.cell? ⟨w.heap.size, 1, none⟩ = some (.int .i64 n)) (first | go_keep | exact s1 | exact s2)
    (first
      | (go_at_call 35; refine (HK1.out _).mono ?_; rintro e w1 ⟨ra, rc, rfl, ho, hf⟩; have f1 : Fr (fun _ => False) w w1 := (by first | exact (Fr.alloc (Fr.refl _ w) _).trans hf (fun _ _ h => h) | exact (Fr.drew (Fr.alloc (Fr.refl _ w) _)).trans hf (fun _ _ h => h)); have s1 : w1.cell? ⟨w.heap.size, 1, none⟩ = some (.int .i64 n) := cell_kept hf (by simp) (fun h => h); have HO1 := hid ho; have F1 := hid f1; clear ho hf f1)
      | (go_at_call 25; refine (HK2.out w1 (HW.out.kept F1.out (fun h => h) (fun _ _ h => h)) (Nat.le_trans hbase F1.out.size)).mono ?_; intro e w2 hwp; obtain ⟨er, rfl, hwp⟩ := hwp.ret; have s2 : w2.cell? ⟨w.heap.size, 1, none⟩ = some (.int .i64 n) := cell_kept hwp.fr s1 (box_apart hp HAL.out); have HWP := hid hwp; clear hwp))
  go_wp2
  go_ret2
  rw [← HEL.out]
  exact PutP.mk HO1.out (by simp) hp HAL.out HWP.out F1.out

set_option maxHeartbeats 800000 in
theorem putBytes (base : Nat) (w : World) (p : Nat) (a : Option Addr) (c : Nat) (bs : List UInt8) (h : Wr base w p a c bs) (n : Int) (h1 : -9223372036854775808 ≤ n) (h2 : n ≤ 9223372036854775807) (ba : Option Addr) (bl bc : Nat) (bb : List UInt8) (hb : Sl w ba bl bb) (hne : 0 < bl → ∀ k, blk ba = some k → blk a ≠ some k) (hbl : bl ≤ 140737488351232) (hbase : base ≤ w.heap.size) (hbs : bs.length ≤ 1048576) :
    Calls Try.prog 11 #[.pointer (some ⟨p, 0, none⟩), .agg #[.int .i64 1, .int .i64 n, .slice ba bl bc]] w fun e w' => PutP base w p a c bs (encB bb) e w' := by
  have hp := lt_of_row h.at_
  have hal : ∀ k, blk a = some k → k < w.heap.size := fun k hk => (h.row.lt k hk).2
  have HAL := hid hal
  have HW := hid h
  have hE : M.enc (M.fd (bl : Int)) ++ bb = encB bb := by unfold encB; rw [hb.1]
  have hL : (M.enc (M.fd (bl : Int))).length + bl = (encB bb).length := by rw [← hE, List.length_append, hb.1]
  have K1 := fun W hW => refBytes_any ba bl bc bb W hW (by omega)
  have K2 := fun W hW hs hb => wBytes_any base W p a c bs hW ba bl bc bb hs hne hb (by omega) hbs
  obtain ⟨en, hen⟩ : ∃ en, encB bb = en := ⟨_, rfl⟩
  obtain ⟨el, hel⟩ : ∃ el, en.length = el := ⟨_, rfl⟩
  rw [hen]
  simp only [hE, hL, hen, hel] at K1 K2
  have HK1 := hid K1
  have HK2 := hid K2
  have HEL := hid hel
  clear hal hen hel h K1 K2
  go_enter Try.func11, Try.ntmps11
  go_wp2
  go_region_held3 (fun w' => w'.cell? ⟨w.heap.size, 2, none⟩ = some (.slice ba bl bc)) (first | go_keep | exact s1 | exact s2)
    (first
      | (go_at_call 36; refine (HK1.out _ (hb.kept (by first | exact Fr.alloc (Fr.refl _ w) _ | exact Fr.drew (Fr.alloc (Fr.refl _ w) _)) (fun _ _ _ h => h))).mono ?_; rintro e w1 ⟨ra, rc, rfl, ho, hf⟩; have f1 : Fr (fun _ => False) w w1 := (by first | exact (Fr.alloc (Fr.refl _ w) _).trans hf (fun _ _ h => h) | exact (Fr.drew (Fr.alloc (Fr.refl _ w) _)).trans hf (fun _ _ h => h)); have s1 : w1.cell? ⟨w.heap.size, 2, none⟩ = some (.slice ba bl bc) := cell_kept hf (by simp) (fun h => h); have HO1 := hid ho; have F1 := hid f1; clear ho hf f1)
      | (go_at_call 26; refine (HK2.out w1 (HW.out.kept F1.out (fun h => h) (fun _ _ h => h)) (hb.kept F1.out (fun _ _ _ h => h)) (Nat.le_trans hbase F1.out.size)).mono ?_; intro e w2 hwp; obtain ⟨er, rfl, hwp⟩ := hwp.ret; have s2 : w2.cell? ⟨w.heap.size, 2, none⟩ = some (.slice ba bl bc) := cell_kept hwp.fr s1 (box_apart hp HAL.out); have HWP := hid hwp; clear hwp))
  go_wp2
  go_ret2
  rw [← HEL.out]
  exact PutP.mk HO1.out (by simp) hp HAL.out HWP.out F1.out

set_option maxHeartbeats 800000 in
theorem putText (base : Nat) (w : World) (p : Nat) (a : Option Addr) (c : Nat) (bs : List UInt8) (h : Wr base w p a c bs) (n : Int) (h1 : -9223372036854775808 ≤ n) (h2 : n ≤ 9223372036854775807) (ba : Option Addr) (bl bc : Nat) (bb : List UInt8) (hb : Sl w ba bl bb) (hne : 0 < bl → ∀ k, blk ba = some k → blk a ≠ some k) (hbl : bl ≤ 140737488351232) (hbase : base ≤ w.heap.size) (hbs : bs.length ≤ 1048576) :
    Calls Try.prog 11 #[.pointer (some ⟨p, 0, none⟩), .agg #[.int .i64 2, .int .i64 n, .slice ba bl bc]] w fun e w' => PutP base w p a c bs (encB bb) e w' := by
  have hp := lt_of_row h.at_
  have hal : ∀ k, blk a = some k → k < w.heap.size := fun k hk => (h.row.lt k hk).2
  have HAL := hid hal
  have HW := hid h
  have hE : M.enc (M.fd (bl : Int)) ++ bb = encB bb := by unfold encB; rw [hb.1]
  have hL : (M.enc (M.fd (bl : Int))).length + bl = (encB bb).length := by rw [← hE, List.length_append, hb.1]
  have hap : 0 < bl → ∀ k, blk ba = some k → ¬ (k = p ∨ blk a = some k) := fun hz k hk e => by
    rcases e with rfl | e
    · exact (Sl.apart h.at_ (two_apart _ _ _ _) hb hz) hk
    · exact hne hz k hk e
  have hb0 := hb.1
  have HAP := hid hap
  have K1 := fun W hW => refBytes_any ba bl bc bb W hW (by omega)
  have K2 := fun W hW hb => wText_any base W p a c bs hW bb hb (by have := (show bb.length = bl from hb0); omega) hbs
  obtain ⟨en, hen⟩ : ∃ en, encB bb = en := ⟨_, rfl⟩
  obtain ⟨el, hel⟩ : ∃ el, en.length = el := ⟨_, rfl⟩
  rw [hen]
  simp only [hE, hL, hen, hel] at K1 K2
  have HK1 := hid K1
  have HK2 := hid K2
  have HEL := hid hel
  clear hal hen hel h K1 K2
  go_enter Try.func11, Try.ntmps11
  go_wp2
  go_region_held3 (fun w' => w'.cell? ⟨w.heap.size, 2, none⟩ = some (.slice ba bl bc) ∧ (convert 26 9 (.slice ba bl bc)).run Try.prog w' = .ok (.string (str bb)) w') (first | exact ⟨by simp, run_str _ ba bl bc bb (hb.kept (by first | exact Fr.alloc (Fr.refl _ w) _ | exact Fr.drew (Fr.alloc (Fr.refl _ w) _)) (fun _ _ _ h => h))⟩ | go_keep | exact s1 | exact s2)
    (first
      | (go_at_call 36; refine (HK1.out _ (hb.kept (by first | exact Fr.alloc (Fr.refl _ w) _ | exact Fr.drew (Fr.alloc (Fr.refl _ w) _)) (fun _ _ _ h => h))).mono ?_; rintro e w1 ⟨ra, rc, rfl, ho, hf⟩; have f1 : Fr (fun _ => False) w w1 := (by first | exact (Fr.alloc (Fr.refl _ w) _).trans hf (fun _ _ h => h) | exact (Fr.drew (Fr.alloc (Fr.refl _ w) _)).trans hf (fun _ _ h => h)); have s1 : w1.cell? ⟨w.heap.size, 2, none⟩ = some (.slice ba bl bc) ∧ (convert 26 9 (.slice ba bl bc)).run Try.prog w1 = .ok (.string (str bb)) w1 := ⟨cell_kept hf (by simp) (fun h => h), run_str w1 ba bl bc bb (hb.kept f1 (fun _ _ _ h => h))⟩; have HO1 := hid ho; have F1 := hid f1; clear ho hf f1)
      | (go_at_call 37; refine (HK2.out w1 (HW.out.kept F1.out (fun h => h) (fun _ _ h => h)) (Nat.le_trans hbase F1.out.size)).mono ?_; intro e w2 hwp; obtain ⟨er, rfl, hwp⟩ := hwp.ret; have s2 : w2.cell? ⟨w.heap.size, 2, none⟩ = some (.slice ba bl bc) ∧ (convert 26 9 (.slice ba bl bc)).run Try.prog w2 = .ok (.string (str bb)) w2 := ⟨cell_kept hwp.fr s1.1 (box_apart hp HAL.out), run_str w2 ba bl bc bb ((hb.kept F1.out (fun _ _ _ h => h)).kept hwp.fr HAP.out)⟩; have HWP := hid hwp; clear hwp))
  go_wp2
  go_ret2
  rw [← HEL.out]
  exact PutP.mk HO1.out (by simp) hp HAL.out HWP.out F1.out

set_option maxHeartbeats 800000 in
theorem putFlag (base : Nat) (w : World) (p : Nat) (a : Option Addr) (c : Nat) (bs : List UInt8) (h : Wr base w p a c bs) (k : Int) (k0 : (k == 0) = false) (k1 : (k == 1) = false) (k2 : (k == 2) = false) (n : Int) (h1 : -9223372036854775808 ≤ n) (h2 : n ≤ 9223372036854775807) (ba : Option Addr) (bl bc : Nat) (hbase : base ≤ w.heap.size) (hbs : bs.length ≤ 1048576) :
    Calls Try.prog 11 #[.pointer (some ⟨p, 0, none⟩), .agg #[.int .i64 k, .int .i64 n, .slice ba bl bc]] w fun e w' => PutP base w p a c bs (M.enc (M.fd (if 0 < n then 1 else 0))) e w' := by
  have hp := lt_of_row h.at_
  have hal : ∀ k, blk a = some k → k < w.heap.size := fun k hk => (h.row.lt k hk).2
  have HAL := hid hal
  have HW := hid h
  have K1 := fun W => refInt_any (if 0 < n then 1 else 0) W (by split <;> omega) (by split <;> omega)
  have K2 := fun W hW hb => wFlag_any base W p a c bs hW (decide (0 < n)) hb hbs
  have hd : (if decide (0 < n) = true then (1 : Int) else 0) = if 0 < n then 1 else 0 := by simp
  rw [hd] at K2
  obtain ⟨en, hen⟩ : ∃ en, M.enc (M.fd (if 0 < n then 1 else 0)) = en := ⟨_, rfl⟩
  obtain ⟨el, hel⟩ : ∃ el, en.length = el := ⟨_, rfl⟩
  rw [hen]
  simp only [hen, hel] at K1 K2
  have HEL := hid hel
  clear hal hen hel h hd
  by_cases hn : 0 < n
  · simp only [hn, if_true] at K1
    rw [decide_eq_true hn] at K2
    have HK1 := hid K1
    have HK2 := hid K2
    clear K1 K2
    go_enter Try.func11, Try.ntmps11
    go_wp2
    go_region_held3 (fun w' => w'.cell? ⟨w.heap.size, 1, none⟩ = some (.int .i64 n)) (first | go_keep | exact s1 | exact s2)
      (first
        | (go_at_call 35; refine (HK1.out _).mono ?_; rintro e w1 ⟨ra, rc, rfl, ho, hf⟩; have f1 : Fr (fun _ => False) w w1 := (by first | exact (Fr.alloc (Fr.refl _ w) _).trans hf (fun _ _ h => h) | exact (Fr.drew (Fr.alloc (Fr.refl _ w) _)).trans hf (fun _ _ h => h)); have s1 : w1.cell? ⟨w.heap.size, 1, none⟩ = some (.int .i64 n) := cell_kept hf (by simp) (fun h => h); have HO1 := hid ho; have F1 := hid f1; clear ho hf f1)
        | (go_at_call 27; refine (HK2.out w1 (HW.out.kept F1.out (fun h => h) (fun _ _ h => h)) (Nat.le_trans hbase F1.out.size)).mono ?_; intro e w2 hwp; obtain ⟨er, rfl, hwp⟩ := hwp.ret; have s2 : w2.cell? ⟨w.heap.size, 1, none⟩ = some (.int .i64 n) := cell_kept hwp.fr s1 (box_apart hp HAL.out); have HWP := hid hwp; clear hwp))
    go_wp2
    go_ret2
    rw [← HEL.out]
    exact PutP.mk HO1.out (by simp) hp HAL.out HWP.out F1.out
  · simp only [hn, if_false] at K1
    have HK1 := hid K1
    have HK2 := hid K2
    clear K1 K2
    go_enter Try.func11, Try.ntmps11
    go_wp2
    go_region_held3 (fun w' => w'.cell? ⟨w.heap.size, 1, none⟩ = some (.int .i64 n)) (first | go_keep | exact s1 | exact s2)
      (first
        | (go_at_call 35; refine (HK1.out _).mono ?_; rintro e w1 ⟨ra, rc, rfl, ho, hf⟩; have f1 : Fr (fun _ => False) w w1 := (by first | exact (Fr.alloc (Fr.refl _ w) _).trans hf (fun _ _ h => h) | exact (Fr.drew (Fr.alloc (Fr.refl _ w) _)).trans hf (fun _ _ h => h)); have s1 : w1.cell? ⟨w.heap.size, 1, none⟩ = some (.int .i64 n) := cell_kept hf (by simp) (fun h => h); have HO1 := hid ho; have F1 := hid f1; clear ho hf f1)
        | (go_at_call 27; refine (HK2.out w1 (HW.out.kept F1.out (fun h => h) (fun _ _ h => h)) (Nat.le_trans hbase F1.out.size)).mono ?_; intro e w2 hwp; obtain ⟨er, rfl, hwp⟩ := hwp.ret; have s2 : w2.cell? ⟨w.heap.size, 1, none⟩ = some (.int .i64 n) := cell_kept hwp.fr s1 (box_apart hp HAL.out); have HWP := hid hwp; clear hwp))
    go_wp2
    go_ret2
    rw [← HEL.out]
    exact PutP.mk HO1.out (by simp) hp HAL.out HWP.out F1.out

/-- any part -/
theorem put_any' (base : Nat) (w : World) (p : Nat) (a : Option Addr) (c : Nat) (bs : List UInt8) (h : Wr base w p a c bs) (k n : Int) (h1 : -9223372036854775808 ≤ n) (h2 : n ≤ 9223372036854775807) (ba : Option Addr) (bl bc : Nat) (bb : List UInt8) (hb : Sl w ba bl bb)
    (hne : 0 < bl → ∀ k, blk ba = some k → blk a ≠ some k) (hbl : bl ≤ 140737488351232) (hbase : base ≤ w.heap.size) (hbs : bs.length ≤ 1048576) :
    Calls Try.prog 11 #[.pointer (some ⟨p, 0, none⟩), .agg #[.int .i64 k, .int .i64 n, .slice ba bl bc]] w fun e w' => PutP base w p a c bs (partEnc k n bb) e w' := by
  unfold partEnc
  by_cases e0 : k = 0
  · subst e0
    rw [if_pos rfl]
    exact putInt base w p a c bs h n h1 h2 ba bl bc hbase hbs
  · rw [if_neg e0]
    by_cases e1 : k = 1
    · subst e1
      rw [if_pos (.inl rfl)]
      exact putBytes base w p a c bs h n h1 h2 ba bl bc bb hb hne hbl hbase hbs
    · by_cases e2 : k = 2
      · subst e2
        rw [if_pos (.inr rfl)]
        exact putText base w p a c bs h n h1 h2 ba bl bc bb hb hne hbl hbase hbs
      · rw [if_neg (by simp [e1, e2])]
        exact putFlag base w p a c bs h k (by simpa using e0) (by simpa using e1) (by simpa using e2) n h1 h2 ba bl bc hbase hbs

end Go.Proofs.Ytilliicanbbjkaa
