/-
  AcceptorAgain, over any script.
-/
import Derived.Test.YtedhmhlhjonloaaALaw
namespace Go.Proofs.Ytedhmhlhjonloaa
open Go.RowKit Go.Maps
set_option linter.unusedVariables false
set_option linter.unusedSimpArgs false

set_option maxHeartbeats 8000000 in
set_option maxRecDepth 20000 in
theorem acceptorAgain_walk {w : World} (sa : Option Addr) (n c : Nat) (os : List Lo) (hz : Lz (fun g => g < w.heap.size) w sa os) (hn : os.length = n) (hb : n ≤ 270000000000) :
    Calls Try.prog 8 #[.slice sa n c] w fun e w' => e = .returned (.bool true) ∧ Below w.heap.size w w' := by
  have HZ := hid hz
  have HN := hid hn
  clear hz hn
  go_enter Try.func8, Try.ntmps8
  go_wp2_with (first
    | (go_at_call 9; refine (acNew_any _).mono ?_; rintro e w1 ⟨p, mb, rfl, hp, hm, hat, f1⟩; have AT := hid hat; have F1 := hid f1; have HPM := hid (And.intro hp hm); clear hat f1 hp hm)
    | (go_at_call 10; refine (live_any _).mono ?_; rintro e w2 ⟨rfl, f2⟩; have F2 := hid f2; clear f2))
  have f3 : Fr (fun _ => False) w2 (w2.alloc (.cells #[.int .i64 0, .int .i64 0, .int .i64 0, .slice none 0 0] 30)) := Fr.alloc (Fr.refl _ _) _
  have f12 := F1.out.trans F2.out (fun _ _ h => h)
  have bt0 : Bt (fun _ => False) (fun _ => False) (w2.alloc (.cells #[.int .i64 0, .int .i64 0, .int .i64 0, .slice none 0 0] 30)) p mb w2.heap.size A.new := by
    have h1 := (AT.out.fr F2.out)
    exact ⟨h1.fr f3, rg_new w2, fun h => h, fun h => h, fun h => h, by have := h1.2.1; omega, by have := h1.2.2.1; omega⟩
  have BT0 := hid bt0
  have F03 := hid (f12.trans f3 (fun _ _ h => h))
  have HQ := hid (show w.heap.size ≤ w2.heap.size from f12.size)
  obtain ⟨q, hq⟩ : ∃ q, w2.heap.size = q := ⟨_, rfl⟩
  rw [hq] at BT0 HQ ⊢
  clear f3 f12 bt0 hq
  go_loopw [20] (fun i wr => ∃ (k : Nat), k ≤ n ∧ i = .int .i64 k ∧ Hid (∃ I J a, Bt I J wr p mb q a ∧ a.l.length ≤ k ∧ Fr (fun _ => False) w wr)) (fun i _ => n - (intOf i).toNat)
  case atStart => exact ⟨0, Nat.zero_le _, rfl, hid ⟨_, _, _, BT0.out, by simp [A.new], F03.out⟩⟩
  case round =>
    obtain ⟨k, hk, rfl, hall⟩ := hrel
    by_cases hlt : k < n
    · obtain ⟨I, J, a, hbt, hal, hfr⟩ := hall.out
      obtain ⟨x, hx⟩ : ∃ x, os[k]? = some x := ⟨_, List.getElem?_eq_getElem (by rw [HN.out]; exact hlt)⟩
      have hzr := HZ.out.fr hfr
      obtain ⟨g, o, rfl, hld⟩ := hzr.at hx
      have hrl := hzr.el x (List.mem_of_getElem? hx)
      obtain ⟨cs, op⟩ := x
      simp only at hld hrl
      have hsz := hrl.size
      obtain ⟨V, st, hbV, fV⟩ := box_whole (V := wr.alloc (.cells zL61 48)) (c := cs) (Go.heap_alloc_new wr _) (by rw [hsz]; rfl) (by rw [hsz]; kernel_rfl) hrl.one
      have fW : Fr (fun _ => False) wr V := (Fr.alloc (Fr.refl (fun _ => False) wr) _).trans fV (fun i hi e => by omega)
      have hbtV := hbt.fr fW
      have hrlV := hrl.kept fW (fun _ _ h => h)
      have hE : ¬ (p < w.heap.size) ∧ ¬ (mb < w.heap.size) ∧ ¬ (q < w.heap.size) := by have := HPM.out; have := HQ.out; omega
      obtain ⟨ec, hcs, hre, _⟩ := hrlV
      have c0 : V.cell? ⟨wr.heap.size, 0, none⟩ = some (.int .i64 op.kind) := cellA hbV (by rw [hcs]; rfl)
      have hn1 : ¬ Pq p mb q wr.heap.size := fun e => by
        rcases e with e | e | e
        · have := hbt.at_.2.1; omega
        · have := hbt.at_.2.2.1; omega
        · have := hbt.rg.2.1; omega
      have i0 : (0 : Int) ≤ (k : Int) := by omega
      have i1 : (k : Int) < (n : Int) := by omega
      have LD := hid hld
      have ST := hid st
      have LDV := hid (fun (V' : World) (hV : V'.heap[wr.heap.size]? = some (.cells cs 48 (0, 0))) => load_whole (ty := 48) hV Try.underlying48 rfl (by rw [hsz]; kernel_rfl))
      have HBV := hid hbV
      have FW := hid (hfr.trans fW (fun _ _ h => h))
      have HE := hid hE
      have HN1 := hid hn1
      have HRL := hid (hrl.kept fW (fun _ _ h => h))
      have HBT := hid hbtV
      have HAL := hid hal
      have LDV0 := hid (LDV.out V hbV)
      by_cases hkd : op.kind = 0 ∨ op.kind = 1
      · have KD := hid (does_01 hbtV HRL.out hE (by omega) hkd)
        have HKD := hid hkd
        clear hx hzr hld hrl st hbV fV fW hbtV hE hcs hre hn1 hbt hal hfr hall
        rcases hkd with hk0 | hk0
        all_goals
          rw [hk0] at c0
          clear hk0
          go_wp2_with (first
            | (refine wpList_load_v LD.out (by exact ⟨_, rfl, rfl⟩) (by kernel_rfl) ?_)
            | (refine wpList_store_v (by exact ST.out) (by exact ⟨_, _, rfl, rfl, rfl⟩) (by kernel_rfl) ?_)
            | (refine wpList_load_v LDV0.out (by exact ⟨_, rfl, rfl⟩) (by kernel_rfl) ?_))
          refine KD.out.mono ?_
          rintro e w3 ⟨a1, ⟨rfl, hbt1, f1'⟩, hl1, ha1⟩
          have hb3 := f1'.cells HBV.out HN1.out
          have LDV1 := hid (LDV.out w3 hb3)
          have KD2 := hid (does_01 hbt1 (HRL.out.kept f1' (fun i hi e => by have hi : i < w.heap.size := hi; have h2 := HE.out; rcases e with e | e | e <;> omega)) HE.out (by have := HAL.out; omega) HKD.out)
          have HD1 := hid (And.intro hbt1 (And.intro f1' (And.intro hl1 hb3)))
          have HA1 := hid ha1
          clear hbt1 f1' hl1 hb3 ha1
          go_wp2_with (first
            | (refine wpList_load_v LDV1.out (by exact ⟨_, rfl, rfl⟩) (by kernel_rfl) ?_))
          refine KD2.out.mono ?_
          rintro e w4 ⟨a2, ⟨rfl, hbt2, f2'⟩, hl2', ha2⟩
          have hl2 : a2.l.length ≤ a.l.length + 1 := by rw [ha2, HA1.out]; exact A.op_twice a op HKD.out
          clear hl2' ha2
          have KT := hid (told_both hbt2 (by have := HAL.out; omega) 0)
          have HD2 := hid (And.intro hbt2 (And.intro f2' hl2))
          clear hbt2 f2' hl2
          go_wp2_with (first
            | (go_at_call 16; refine KT.out.mono ?_; rintro e w5 ⟨B, rfl, f5, KT2'⟩; have KT2 := hid KT2'; have F5 := hid f5; clear KT2' f5)
            | (go_at_call 17; refine KT2.out.mono ?_; rintro e w6 ⟨oa, on, oc, rfl, f6, KT3'⟩; have KT3 := hid (KT3' 0 w6 (Fr.refl _ _)); have F6 := hid f6; clear KT3' f6)
            | (go_at_call 15; refine KT3.out.mono ?_; rintro e w7 ⟨rfl, f7⟩; have F7 := hid f7; clear f7))
          have fin : ∃ I J a, Bt I J w7 p mb q a ∧ a.l.length ≤ k + 1 ∧ Fr (fun _ => False) w w7 := by
            have f57 := (F5.out.trans F6.out (fun _ _ h => h)).trans F7.out (fun _ _ h => h)
            refine ⟨_, _, a2, HD2.out.1.fr f57, by have h2 := HD2.out.2.2; have h3 := HAL.out; omega, ?_⟩
            have hh := HE.out
            exact ((FW.out.trans HD1.out.2.1 (fun i hi e => by rcases e with e | e | e <;> omega)).trans HD2.out.2.1 (fun i hi e => by rcases e with e | e | e <;> omega)).trans f57 (fun _ _ h => h)
          have FIN := hid fin
          clear fin
          go_roundw
          case rel => exact ⟨k + 1, by omega, by first | go_num | trivial, FIN⟩
          case measure => simp [intOf]; omega
      · have hk0 : (op.kind != 0) = true := by simp; exact fun e => hkd (.inl e)
        have hk1 : (op.kind != 1) = true := by simp; exact fun e => hkd (.inr e)
        have hk0' : ¬ op.kind = 0 := fun e => hkd (.inl e)
        have hk1' : ¬ op.kind = 1 := fun e => hkd (.inr e)
        clear hx hzr hld hrl st hbV fV fW hbtV hE hcs hre hn1 hbt hal hfr hall hkd
        go_wp2_with (first
          | (refine wpList_load_v LD.out (by exact ⟨_, rfl, rfl⟩) (by kernel_rfl) ?_)
          | (refine wpList_store_v (by exact ST.out) (by exact ⟨_, _, rfl, rfl, rfl⟩) (by kernel_rfl) ?_))
        go_roundw
        case rel => exact ⟨k + 1, by omega, by first | go_num | trivial, hid ⟨I, J, a, HBT.out, by have := HAL.out; omega, FW.out⟩⟩
        case measure => simp [intOf]; omega
    · obtain rfl : k = n := by omega
      go_wp2
      go_ret
      obtain ⟨I, J, a, _, _, hfr⟩ := hall.out
      exact ⟨rfl, hfr.below (Nat.le_refl _) (fun _ _ h => h)⟩
end Go.Proofs.Ytedhmhlhjonloaa
