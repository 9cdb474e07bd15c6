/-
  DiskDoes, the walk: both disks are driven by the script, and answer alike.
-/
import Derived.Test.YtnfpceeacfdldaaLDEqual
namespace Go.Proofs.Ytnfpceeacfdldaa
open Go.RowKit Go.Maps
set_option linter.unusedVariables false

set_option maxRecDepth 20000 in
set_option maxHeartbeats 1600000 in
theorem does_neg (room : Int) (h0 : room < 0) (h1 : -9223372036854775808 ≤ room) (sa : Option Addr) (sn sc : Nat) (w : World) :
    Calls Try.prog 3 #[.int .i64 room, .slice sa sn sc] w fun e w' => e = .returned (.bool true) ∧ Below w.heap.size w w' := by
  go_enter Try.func3, Try.ntmps3
  go_wp2_with (first
    | (go_at_call 8; refine (new_neg room h0 h1 _).mono ?_; rintro e w1 ⟨rfl, rfl⟩)
    | (go_at_call 9; refine (rnew_neg room h0 h1 _).mono ?_; rintro e w1 ⟨rfl, rfl⟩)
    | (go_at_call 10; refine (begun_any _).mono ?_; rintro e w2 ⟨rfl, hf2⟩; have F2 := hid hf2; clear hf2))
  go_ret
  exact ⟨rfl, F2.out.below (Nat.le_refl _) (fun _ _ h => h)⟩

/-- what the script's loop keeps -/
def DI (w : World) (q : Nat) (ops : List K.Op) (k : Nat) (v : Value) (W : World) : Prop := ∃ p Sd Sr d, v = .pointer (some ⟨p, 0, none⟩) ∧ DD w W p q Sd Sr d d ∧ d.used ≤ bulk ops k
set_option maxRecDepth 20000 in
set_option maxHeartbeats 6400000 in
theorem does_pos (room : Int) (h0 : 0 ≤ room) (h1 : room ≤ 9223372036854775807) (sa : Option Addr) (sn sc : Nat) (ops : List K.Op) (w : World) (hs : Sc w sa sn ops) (hsl : sn ≤ 9223372036854775807) (hbk : (ops.map (fun o => o.b.length + 1)).sum ≤ 1048576) :
    Calls Try.prog 3 #[.int .i64 room, .slice sa sn sc] w fun e w' => e = .returned (.bool true) ∧ Below w.heap.size w w' := by
  go_enter Try.func3, Try.ntmps3
  go_wp2_with fail
  refine (new_any room h0 h1 w).mono ?_
  rintro e w1 ⟨rfl, ht1⟩
  obtain ⟨S1, hd1, hS1, hf1, _⟩ := ht1.ge (b := w.heap.size) (fun _ h => h.elim) (Nat.le_refl _)
  obtain ⟨p, hp⟩ : ∃ p, p = w.heap.size + 1 := ⟨_, rfl⟩
  rw [← hp] at hd1 ⊢
  have HD1 := hid hd1
  have F1 := hid hf1
  have HS1 := hid hS1
  clear hd1 hf1 hS1 ht1 hp
  go_wp2_with fail
  refine (rnew_any room h0 h1 w1).mono ?_
  rintro e w2 ⟨rfl, ht2⟩
  obtain ⟨q, hq⟩ : ∃ q, q = w1.heap.size := ⟨_, rfl⟩
  rw [← hq] at ht2 ⊢
  have hz1 := F1.out.size
  have HDD : Hid (DD w w2 p q S1 (Nx (fun _ => False) w1 w2) (K.mk room) (K.mk room)) := hid ⟨HD1.out.kept ht2.2 (fun _ _ h => h), ht2.1, fun j hj hr => by
      have := HD1.out.1 j hj
      rcases hr.1 with h | h
      · exact h
      · omega, HS1.out, fun j hj => by
      rcases hj.1 with h | h
      · exact h.elim
      · omega, F1.out.trans ht2.2 (fun _ _ h => h)⟩
  clear ht2 hz1 HD1 F1 HS1 hq
  go_wp2_with fail
  refine (begun_any _).mono ?_
  rintro e w3 ⟨rfl, hf3⟩
  have H0 : Hid (DI w q ops 0 (.pointer (some ⟨p, 0, none⟩)) w3) := hid ⟨p, _, _, _, rfl, HDD.out.kept hf3, Nat.zero_le _⟩
  clear hf3 HDD
  go_wp2
  go_loopw [5, 40] (fun v i wr => ∃ k : Nat, k ≤ sn ∧ i = .int .i64 k ∧ DI w q ops k v wr) (fun _ i _ => sn - (intOf i).toNat)
  case atStart => exact ⟨0, by omega, rfl, H0.out⟩
  case round =>
    obtain ⟨k, hk, rfl, p1, Sd, Sr, d, rfl, hdd, hus⟩ := hrel
    by_cases hlt : k < sn
    · obtain ⟨b, off, o, rfl, hok, s, t, A, L, C, b0, b1, b2, b3, b4, b5, h6⟩ := hs.at (Fr.refl (fun _ => False) w) hlt
      have c0 := cell_fr hdd.fr (fun h => h) b0
      have c1 := cell_fr hdd.fr (fun h => h) b1
      have c2 := cell_fr hdd.fr (fun h => h) b2
      have c3 := cell_fr hdd.fr (fun h => h) b3
      have c4 := cell_fr hdd.fr (fun h => h) b4
      have c5 := cell_fr hdd.fr (fun h => h) b5
      have hbn := bulk_next hok
      have hbl := bulk_le ops (k + 1)
      have hb6 := h6.b_.1
      have fa : Fr (fun _ => False) wr (wr.alloc (.cells #[.int .i64 o.do_, .string s, .string t, .slice A L C, .int .i64 o.k, .int .i64 o.keep] 33)) := Fr.alloc (Fr.refl _ _) _
      have KS := hid (step_any (hdd.kept fa) o s t A L C h6 (by show _ ≤ 200000000000000; omega))
      have HBN : Hid (d.used + o.b.length ≤ bulk ops (k + 1)) := hid (by omega)
      clear b0 b1 b2 b3 b4 b5 hok hbn hbl hb6 fa h6 hdd hus
      obtain ⟨us, hus⟩ : ∃ us, d.used + o.b.length = us := ⟨_, rfl⟩
      rw [hus] at KS HBN
      generalize o.do_ = od at *
      generalize o.k = okk at *
      generalize o.keep = okp at *
      clear hus
      go_wp2_with fail
      refine KS.out.mono ?_
      rintro e w4 ⟨p2, Sd2, Sr2, d2, rfl, hdd2, hu2⟩
      have HD := hid hdd2
      have HU2 := hid (Nat.le_trans hu2 HBN.out)
      have KDd := hid (down_any hdd2.dk)
      have KDr := hid (rdown_any hdd2.rk)
      have KUd := hid (used_dk hdd2.dk)
      have KUr : Hid (∀ W, Fr (fun _ => False) w4 W → Calls Try.prog 15 #[.pointer (some ⟨q, 0, none⟩)] W fun e w' => e = .returned (.int .i64 (d2.used : Nat)) ∧ W = w') := hid (fun W hf => rused_any (HD.out.kept hf).rk)
      obtain ⟨us2, hus2⟩ : ∃ x, d2.used = x := ⟨_, rfl⟩
      rw [hus2] at KUd KUr
      obtain ⟨dn, hdn⟩ : ∃ x, d2.down = x := ⟨_, rfl⟩
      rw [hdn] at KDd KDr
      clear hdd2 hu2 KS c0 c1 c2 c3 c4 c5 hus2 hdn
      go_wp2_with (first
        | (go_at_call 12; refine KDd.out.mono ?_; rintro e wx ⟨rfl, rfl⟩)
        | (go_at_call 13; refine KDr.out.mono ?_; rintro e wx ⟨rfl, rfl⟩)
        | (go_at_call 14; refine KUd.out.mono ?_; rintro e w5 ⟨rfl, hf⟩; have HF5 := hid hf; clear hf)
        | (go_at_call 15; refine (KUr.out _ HF5.out).mono ?_; rintro e wx ⟨rfl, rfl⟩))
      go_roundw
      case rel => exact ⟨k + 1, by omega, by go_num, p2, Sd2, Sr2, d2, rfl, HD.out.kept HF5.out, HU2.out⟩
      case measure => simp [intOf]; omega
    · have KE := hid (equal_any hdd)
      have HFR := hid hdd.fr
      clear hdd hus
      go_wp2_with (first | (go_at_call 16; refine KE.out.mono ?_; rintro e w9 ⟨rfl, hf⟩; have HF9 := hid hf; clear hf))
      go_ret
      exact ⟨rfl, HF9.out.below (Nat.le_refl _) (fun _ _ h => h)⟩

theorem diskDoes_walk (room : Int) (h0 : -9223372036854775808 ≤ room) (h1 : room ≤ 9223372036854775807) (sa : Option Addr) (sn sc : Nat) (ops : List K.Op) (w : World) (hs : Sc w sa sn ops) (hsl : sn ≤ 9223372036854775807) (hbk : (ops.map (fun o => o.b.length + 1)).sum ≤ 1048576) :
    Calls Try.prog 3 #[.int .i64 room, .slice sa sn sc] w fun e w' => e = .returned (.bool true) ∧ Below w.heap.size w w' := by
  by_cases h : room < 0
  · exact does_neg room h h0 sa sn sc w
  · exact does_pos room (by omega) h1 sa sn sc ops w hs hsl hbk

end Go.Proofs.Ytnfpceeacfdldaa
