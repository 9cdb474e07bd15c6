/-
  CkptNone's walk.
-/
import Derived.Test.YtogdjhhabcejgaaCNone
import Derived.Test.YtogdjhhabcejgaaCBegun
import Derived.Test.YtogdjhhabcejgaaCRefCode
namespace Go.Proofs.Ytogdjhhabcejgaa
open Go.RowKit Go.Maps
set_option linter.unusedVariables false

set_option maxHeartbeats 3200000 in
set_option maxRecDepth 20000 in
theorem ckptNone_walk (s : Int) (h1 : -9223372036854775808 ≤ s) (h2 : s ≤ 9223372036854775807) (a : Option Addr) (n c : Nat) (bs : List UInt8) (w : World) (h : Sl w a n bs) :
    Calls Try.prog 7 #[.int .i64 s, .slice a n c] w fun e w' => e = .returned (.bool true) ∧ Below w.heap.size w w' := by
  have hbl := h.1
  have HSL := hid (fun W (hf : Fr (fun _ => False) w W) => h.kept hf (fun _ _ _ h => h))
  have KR := hid (fun W (hf : Fr (fun _ => False) w W) => refEncode_any s h1 h2 a n c bs W (h.kept hf (fun _ _ _ h => h)))
  have KS := hid (fun W (hf : Fr (fun _ => False) w W) v (hn : NoD W (.pointer v)) => noSave W v hn s h1 h2 a n c bs (h.kept hf (fun _ _ _ h => h)))
  rw [C.enc_snd, hbl] at KR
  unfold C.noSave at KS
  generalize C.chk s n = er at KR KS
  generalize (C.enc s bs).1 = x at KR
  clear h hbl
  by_cases hk : er = 0
  · subst hk
    rw [if_neg (by simp)] at KS
    go_enter Try.func7, Try.ntmps7
    go_wp2_with (first
      | (go_at_call 12; refine (ckBegun_any w).mono ?_; rintro e w1 ⟨rfl, hf1⟩; have F1 := hid hf1; clear hf1))
    obtain ⟨zb, hzb⟩ : ∃ zb, w1.heap.size = zb := ⟨_, rfl⟩
    obtain ⟨wz, hwz⟩ : ∃ wz, wz = (w1.alloc (.cells #[.int .i64 0, .int .i64 0, .map none, .int .i64 0, .int .i64 0, .bool false] 51)).alloc (.cells #[.pointer none, .pointer (some ⟨w1.heap.size, 0, none⟩)] 32) := ⟨_, rfl⟩
    rw [← hwz]
    have fz : Fr (fun _ => False) w wz := F1.out.trans (by rw [hwz]; exact Fr.alloc (Fr.alloc (Fr.refl _ _) _) _) (fun _ _ h => h)
    have z0 : wz.heap[zb]? = some (.cells #[.int .i64 0, .int .i64 0, .map none, .int .i64 0, .int .i64 0, .bool false] 51 (0, 0)) := by rw [hwz, ← hzb]; exact (Below.heap_alloc _ _ _ (by simp)).trans (Go.heap_alloc_new w1 _)
    have z1 : wz.heap[zb + 1]? = some (.cells #[.pointer none, .pointer (some ⟨zb, 0, none⟩)] 32 (0, 0)) := by
      have := Go.heap_alloc_new (w1.alloc (.cells #[.int .i64 0, .int .i64 0, .map none, .int .i64 0, .int .i64 0, .bool false] 51)) (.cells #[.pointer none, .pointer (some ⟨w1.heap.size, 0, none⟩)] 32)
      rw [World.size_alloc, hzb] at this
      rw [hwz, hzb]; exact this
    rw [hzb]
    have FZ := hid fz
    have Z0 := hid z0
    have Z1 := hid z1
    clear fz z0 z1 hwz hzb
    go_loopw [19] (fun i wr => ∃ k : Nat, k ≤ 2 ∧ i = .int .i64 k ∧ Fr (fun _ => False) wz wr) (fun i _ => 2 - (intOf i).toNat)
    case atStart => exact ⟨0, by omega, rfl, Fr.refl _ _⟩
    case round =>
      obtain ⟨k, hk, rfl, hfr⟩ := hrel
      have q0 := hfr.cells Z0.out (fun h => h)
      have q1 := hfr.cells Z1.out (fun h => h)
      have l0 := cell_of (j := 0) q1 rfl
      have l1 := cell_of (j := 1) q1 rfl
      have HN0 := hid (show NoD wr (.pointer none) from .inl rfl)
      have HN1 := hid (show NoD wr (.pointer (some ⟨zb, 0, none⟩)) from .inr ⟨zb, rfl, cell_of q0 rfl⟩)
      have FR := hid hfr
      have F2 := hid (FZ.out.trans hfr (fun _ _ h => h))
      clear q0 q1 hfr
      have h3 : k = 0 ∨ k = 1 ∨ k = 2 := by omega
      rcases h3 with rfl | rfl | rfl
      · clear l1 HN1
        go_wp2_with (first
          | (go_at_call 15; refine (KS.out wr F2.out _ HN0.out).mono ?_; rintro e w3 ⟨rfl, hf3⟩; have F3 := hid hf3; clear hf3)
          | (go_at_call 9; refine (KR.out w3 (F2.out.trans F3.out (fun _ _ h => h))).mono ?_; rintro e w4 ⟨xa, xc, rfl, ho4, hf4⟩; have F4 := hid (F3.out.trans hf4 (fun _ _ h => h)); clear ho4 hf4)
          | (go_at_call 21; refine (noLoad w4 _ (HN0.out.kept F4.out)).mono ?_; rintro e w5 ⟨rfl, hf5⟩; have F5 := hid (F4.out.trans hf5 (fun _ _ h => h)); clear hf5))
        go_roundw
        case rel => exact ⟨1, by omega, by go_num, FR.out.trans F5.out (fun _ _ h => h)⟩
        case measure => simp [intOf]
      · clear l0 HN0
        go_wp2_with (first
          | (go_at_call 15; refine (KS.out wr F2.out _ HN1.out).mono ?_; rintro e w3 ⟨rfl, hf3⟩; have F3 := hid hf3; clear hf3)
          | (go_at_call 9; refine (KR.out w3 (F2.out.trans F3.out (fun _ _ h => h))).mono ?_; rintro e w4 ⟨xa, xc, rfl, ho4, hf4⟩; have F4 := hid (F3.out.trans hf4 (fun _ _ h => h)); clear ho4 hf4)
          | (go_at_call 21; refine (noLoad w4 _ (HN1.out.kept F4.out)).mono ?_; rintro e w5 ⟨rfl, hf5⟩; have F5 := hid (F4.out.trans hf5 (fun _ _ h => h)); clear hf5))
        go_roundw
        case rel => exact ⟨2, by omega, by go_num, FR.out.trans F5.out (fun _ _ h => h)⟩
        case measure => simp [intOf]
      · go_wp2
        go_ret
        exact ⟨rfl, F2.out.below (Nat.le_refl _) (fun _ _ h => h)⟩
  · rw [if_pos hk] at KS
    go_enter Try.func7, Try.ntmps7
    go_wp2_with (first
      | (go_at_call 12; refine (ckBegun_any w).mono ?_; rintro e w1 ⟨rfl, hf1⟩; have F1 := hid hf1; clear hf1))
    obtain ⟨zb, hzb⟩ : ∃ zb, w1.heap.size = zb := ⟨_, rfl⟩
    obtain ⟨wz, hwz⟩ : ∃ wz, wz = (w1.alloc (.cells #[.int .i64 0, .int .i64 0, .map none, .int .i64 0, .int .i64 0, .bool false] 51)).alloc (.cells #[.pointer none, .pointer (some ⟨w1.heap.size, 0, none⟩)] 32) := ⟨_, rfl⟩
    rw [← hwz]
    have fz : Fr (fun _ => False) w wz := F1.out.trans (by rw [hwz]; exact Fr.alloc (Fr.alloc (Fr.refl _ _) _) _) (fun _ _ h => h)
    have z0 : wz.heap[zb]? = some (.cells #[.int .i64 0, .int .i64 0, .map none, .int .i64 0, .int .i64 0, .bool false] 51 (0, 0)) := by rw [hwz, ← hzb]; exact (Below.heap_alloc _ _ _ (by simp)).trans (Go.heap_alloc_new w1 _)
    have z1 : wz.heap[zb + 1]? = some (.cells #[.pointer none, .pointer (some ⟨zb, 0, none⟩)] 32 (0, 0)) := by
      have := Go.heap_alloc_new (w1.alloc (.cells #[.int .i64 0, .int .i64 0, .map none, .int .i64 0, .int .i64 0, .bool false] 51)) (.cells #[.pointer none, .pointer (some ⟨w1.heap.size, 0, none⟩)] 32)
      rw [World.size_alloc, hzb] at this
      rw [hwz, hzb]; exact this
    rw [hzb]
    have FZ := hid fz
    have Z0 := hid z0
    have Z1 := hid z1
    clear fz z0 z1 hwz hzb
    go_loopw [19] (fun i wr => ∃ k : Nat, k ≤ 2 ∧ i = .int .i64 k ∧ Fr (fun _ => False) wz wr) (fun i _ => 2 - (intOf i).toNat)
    case atStart => exact ⟨0, by omega, rfl, Fr.refl _ _⟩
    case round =>
      obtain ⟨k, hk2, rfl, hfr⟩ := hrel
      have q0 := hfr.cells Z0.out (fun h => h)
      have q1 := hfr.cells Z1.out (fun h => h)
      have l0 := cell_of (j := 0) q1 rfl
      have l1 := cell_of (j := 1) q1 rfl
      have HN0 := hid (show NoD wr (.pointer none) from .inl rfl)
      have HN1 := hid (show NoD wr (.pointer (some ⟨zb, 0, none⟩)) from .inr ⟨zb, rfl, cell_of q0 rfl⟩)
      have FR := hid hfr
      have F2 := hid (FZ.out.trans hfr (fun _ _ h => h))
      clear q0 q1 hfr
      have h3 : k = 0 ∨ k = 1 ∨ k = 2 := by omega
      rcases h3 with rfl | rfl | rfl
      · clear l1 HN1
        go_wp2_with (first
          | (go_at_call 15; refine (KS.out wr F2.out _ HN0.out).mono ?_; rintro e w3 ⟨rfl, hf3⟩; have F3 := hid hf3; clear hf3)
          | (go_at_call 9; refine (KR.out w3 (F2.out.trans F3.out (fun _ _ h => h))).mono ?_; rintro e w4 ⟨xa, xc, rfl, ho4, hf4⟩; have F4 := hid (F3.out.trans hf4 (fun _ _ h => h)); clear ho4 hf4)
          | (go_at_call 21; refine (noLoad w4 _ (HN0.out.kept F4.out)).mono ?_; rintro e w5 ⟨rfl, hf5⟩; have F5 := hid (F4.out.trans hf5 (fun _ _ h => h)); clear hf5))
        go_roundw
        case rel => exact ⟨1, by omega, by go_num, FR.out.trans F5.out (fun _ _ h => h)⟩
        case measure => simp [intOf]
      · clear l0 HN0
        go_wp2_with (first
          | (go_at_call 15; refine (KS.out wr F2.out _ HN1.out).mono ?_; rintro e w3 ⟨rfl, hf3⟩; have F3 := hid hf3; clear hf3)
          | (go_at_call 9; refine (KR.out w3 (F2.out.trans F3.out (fun _ _ h => h))).mono ?_; rintro e w4 ⟨xa, xc, rfl, ho4, hf4⟩; have F4 := hid (F3.out.trans hf4 (fun _ _ h => h)); clear ho4 hf4)
          | (go_at_call 21; refine (noLoad w4 _ (HN1.out.kept F4.out)).mono ?_; rintro e w5 ⟨rfl, hf5⟩; have F5 := hid (F4.out.trans hf5 (fun _ _ h => h)); clear hf5))
        go_roundw
        case rel => exact ⟨2, by omega, by go_num, FR.out.trans F5.out (fun _ _ h => h)⟩
        case measure => simp [intOf]
      · go_wp2
        go_ret
        exact ⟨rfl, F2.out.below (Nat.le_refl _) (fun _ _ h => h)⟩

end Go.Proofs.Ytogdjhhabcejgaa
