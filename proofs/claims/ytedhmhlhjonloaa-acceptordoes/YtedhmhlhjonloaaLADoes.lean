/-
  AcceptorDoes, over any script.
-/
import Derived.Test.YtedhmhlhjonloaaADoes3
namespace Go.Proofs.Ytedhmhlhjonloaa
open Go.RowKit Go.Maps
set_option linter.unusedVariables false
set_option linter.unusedSimpArgs false

/-- does, whatever the operation -/
theorem does_all {I J E : Nat → Prop} {w : World} {p mb q : Nat} {a : A.Ac} (h : Bt I J w p mb q a) {cs : Array Value} {o : A.Lop} (hc : Rl E w cs o) (hE : ¬ E p ∧ ¬ E mb ∧ ¬ E q) (hl : a.l.length < 300000000000) :
    Calls Try.prog 14 #[ptrV p, ptrV q, .agg cs] w fun e w' => ∃ a', Dn I J w p mb q a' e w' ∧ a'.l.length ≤ a.l.length + 1 := by
  by_cases h0 : o.kind = 0
  · exact (does_01 h hc hE hl (.inl h0)).mono (fun e w' ⟨a', h1, h2, _⟩ => ⟨a', h1, h2⟩)
  · by_cases h1 : o.kind = 1
    · exact (does_01 h hc hE hl (.inr h1)).mono (fun e w' ⟨a', h1, h2, _⟩ => ⟨a', h1, h2⟩)
    · by_cases h2 : o.kind = 2
      · exact (does_2 h hc hE hl h2).mono (fun e w' hd => ⟨_, hd, by have := A.forget_l a o.slot; omega⟩)
      · by_cases h3 : o.kind = 3
        · exact (does_3 h hc hE hl h3).mono (fun e w' hd => ⟨_, hd, by omega⟩)
        · exact (does_other h hc hE hl ⟨h0, h1, h2, h3⟩).mono (fun e w' hd => ⟨_, hd, by omega⟩)
set_option maxHeartbeats 8000000 in
set_option maxRecDepth 20000 in
theorem acceptorDoes_walk {w : World} (sa : Option Addr) (n c : Nat) (os : List Lo) (hz : Lz (fun g => g < w.heap.size) w sa os) (hn : os.length = n) (hb : n ≤ 270000000000) :
    Calls Try.prog 3 #[.slice sa n c] w fun e w' => e = .returned (.bool true) ∧ Below w.heap.size w w' := by
  have HZ := hid hz
  have HN := hid hn
  clear hz hn
  go_enter Try.func3, Try.ntmps3
  go_wp2_with (first
    | (go_at_call 9; refine (acNew_any _).mono ?_; rintro e w1 ⟨p, mb, rfl, hp, hm, hat, f1⟩; have AT := hid hat; have F1 := hid f1; have HPM := hid (And.intro hp hm); clear hat f1 hp hm)
    | (go_at_call 10; refine (live_any _).mono ?_; rintro e w2 ⟨rfl, f2⟩; have F2 := hid f2; clear f2))
  have f3 : Fr (fun _ => False) w1 (w1.alloc (.cells #[.int .i64 0, .int .i64 0, .int .i64 0, .slice none 0 0] 30)) := Fr.alloc (Fr.refl _ _) _
  have bt0 : Bt (fun _ => False) (fun _ => False) w2 p mb w1.heap.size A.new := by
    have h1 := AT.out
    exact ⟨(h1.fr f3).fr F2.out, (rg_new w1).fr F2.out, fun h => h, fun h => h, fun h => h, by have := h1.2.1; omega, by have := h1.2.2.1; omega⟩
  have BT0 := hid bt0
  have F03 := hid ((F1.out.trans f3 (fun _ _ h => h)).trans F2.out (fun _ _ h => h))
  have HQ := hid (show w.heap.size ≤ w1.heap.size from F1.out.size)
  obtain ⟨q, hq⟩ : ∃ q, w1.heap.size = q := ⟨_, rfl⟩
  rw [hq] at BT0 HQ ⊢
  clear f3 bt0 hq
  go_loopw [3, 19] (fun av i wr => ∃ (k p mb : Nat), k ≤ n ∧ i = .int .i64 k ∧ av = .pointer (some ⟨p, 0, none⟩) ∧ w.heap.size ≤ p ∧ w.heap.size ≤ mb ∧ Hid (∃ I J a, Bt I J wr p mb q a ∧ a.l.length ≤ k ∧ Fr (fun _ => False) w wr)) (fun _ i _ => n - (intOf i).toNat)
  case atStart => exact ⟨0, p, mb, Nat.zero_le _, rfl, rfl, HPM.out.1, HPM.out.2, hid ⟨_, _, _, BT0.out, by simp [A.new], F03.out⟩⟩
  case round =>
    clear HPM AT F1 F2 BT0 F03
    obtain ⟨k, p, mb, hk, rfl, rfl, hp0, hm0, hall⟩ := hrel
    by_cases hlt : k < n
    · obtain ⟨I, J, a, hbt, hal, hfr⟩ := hall.out
      obtain ⟨x, hx⟩ : ∃ x, os[k]? = some x := ⟨_, List.getElem?_eq_getElem (by rw [HN.out]; exact hlt)⟩
      have hzr := HZ.out.fr hfr
      obtain ⟨g, o, rfl, hld⟩ := hzr.at hx
      have hrl := hzr.el x (List.mem_of_getElem? hx)
      obtain ⟨cs, op⟩ := x
      simp only at hld hrl
      have hsz := hrl.size
      obtain ⟨V, st, hbV, fV⟩ := box_whole (V := wr.alloc (.cells zL61 48)) (c := cs) (Go.heap_alloc_new wr _) (by rw [hsz]; rfl) (by rw [hsz]; kernel_rfl) hrl.one
      have fW : Fr (fun _ => False) wr V := (Fr.alloc (Fr.refl (fun _ => False) wr) _).trans fV (fun i hi e => by omega)
      have hbtV := hbt.fr fW
      have hrlV := hrl.kept fW (fun _ _ h => h)
      have hqw := HQ.out
      have hE : ¬ (p < w.heap.size) ∧ ¬ (mb < w.heap.size) ∧ ¬ (q < w.heap.size) := by omega
      obtain ⟨ec, hcs, hre, hs0, hs1⟩ := hrlV
      have lbV := Lb.of (o := op) hre.len (by rw [← hcs]; exact hbV)
      have hnpq : wr.heap.size ≠ p ∧ wr.heap.size ≠ mb ∧ wr.heap.size ≠ q := by
        have h1 := hbt.at_.2.1
        have h2 := hbt.at_.2.2.1
        have h3 := hbt.rg.2.1
        omega
      have i0 : (0 : Int) ≤ (k : Int) := by omega
      have i1 : (k : Int) < (n : Int) := by omega
      have LD := hid hld
      have ST := hid st
      have LDV := hid (fun (V' : World) (hV : V'.heap[wr.heap.size]? = some (.cells cs 48 (0, 0))) => load_whole (ty := 48) hV Try.underlying48 rfl (by rw [hsz]; kernel_rfl))
      have LBB := hid (fun (V' : World) (hV : V'.heap[wr.heap.size]? = some (.cells cs 48 (0, 0))) => Lb.of (o := op) hre.len (by rw [← hcs]; exact hV))
      have HBV := hid hbV
      have FW := hid (hfr.trans fW (fun _ _ h => h))
      have HNP := hid hnpq
      have HRL := hid (hrl.kept fW (fun _ _ h => h))
      have HRE := hid hre
      have HBT := hid hbtV
      have HAL := hid hal
      have HE := hid hE
      have HPP := hid (And.intro hp0 (And.intro hm0 hqw))
      have hfin : ∀ (p' mb' : Nat) (I' J' : Nat → Prop) (W : World), w.heap.size ≤ p' → w.heap.size ≤ mb' → Bt I' J' W p' mb' q a → W.heap[wr.heap.size]? = some (.cells cs 48 (0, 0)) → Fr (fun _ => False) w W → Rl (fun g => g < w.heap.size) W cs op →
          Calls Try.prog 14 #[ptrV p', ptrV q, .agg cs] W fun e w' => e = .returned (.bool true) ∧ ∃ I J a, Bt I J w' p' mb' q a ∧ a.l.length ≤ k + 1 ∧ Fr (fun _ => False) w w' := by
        intro p' mb' I' J' W h1 h2 hb' hbx hf' hr'
        refine (does_all hb' hr' (by omega) (by omega)).mono ?_
        rintro e w' ⟨a', ⟨rfl, hbt', f'⟩, hl'⟩
        exact ⟨rfl, _, _, a', hbt', by omega, hf'.trans f' (fun i hi e => by rcases e with e | e | e <;> omega)⟩
      have HFIN := hid hfin
      by_cases hkd : op.kind = 4
      · have k0 : V.cell? ⟨wr.heap.size, 0, none⟩ = some (.int .i64 4) := by rw [← hkd]; exact lbV.c0
        have KC := hid (acClone_any hbtV.at_)
        clear hx hzr hld hrl st hbV fV fW hbtV hE hcs hre hnpq hbt hal hfr hall lbV hqw hfin
        go_wp2_with (first
          | (refine wpList_load_v LD.out (by exact ⟨_, rfl, rfl⟩) (by kernel_rfl) ?_)
          | (refine wpList_store_v (by exact ST.out) (by exact ⟨_, _, rfl, rfl, rfl⟩) (by kernel_rfl) ?_))
        refine KC.out.mono ?_
        rintro e w3 ⟨p2, mb2, rfl, hp2, hm2, hat2, f3⟩
        have hb3 := f3.cells HBV.out (fun h => h)
        have lb3 := LBB.out _ hb3
        have c1 := lb3.c1
        have c2 := lb3.c2
        have c3 := lb3.c3
        have LE3 := hid lb3.le
        have KA := hid (acAccept_any (HBT.out.at_.fr f3) op.bl.1 op.bl.2 op.slot (HRE.out.kept f3 (fun _ _ h => h)) (by have := HAL.out; omega) HE.out.1)
        have H3 := hid (And.intro hp2 (And.intro hm2 (And.intro hat2 (And.intro f3 hb3))))
        clear hp2 hm2 hat2 f3 hb3 lb3
        unfold ptrV
        go_wp2_with (first
          | (refine wpList_load_v LE3.out (by exact ⟨_, rfl, rfl⟩) (by kernel_rfl) ?_))
        refine KA.out.mono ?_
        rintro e w4 ⟨rfl, hat4, f4⟩
        have hb4 := f4.cells H3.out.2.2.2.2 (fun e => e.elim HNP.out.1 HNP.out.2.1)
        have c34 := (LBB.out _ hb4).c3
        have KF := hid (acForget_any hat4 op.slot)
        have H4 := hid (And.intro f4 hb4)
        clear hat4 f4 hb4 c1 c2 c3
        go_wp2_with fail
        refine KF.out.mono ?_
        rintro e w5 ⟨rfl, _, f5⟩
        have hb5 := f5.cells H4.out.2 (fun e => e.elim HNP.out.1 HNP.out.2.1)
        have f45 : Fr (fun i => i = p ∨ i = mb) w3 w5 := H4.out.1.trans f5 (fun _ _ h => h)
        have hv := HBT.out.at_.2.1
        have hv2 := HBT.out.at_.2.2.1
        have hv3 := HBT.out.rg.2.1
        obtain ⟨hp2, hm2, hat2, f3, hb3⟩ := H3.out
        obtain ⟨_, _, _, l0, am0⟩ := HBT.out.at_
        have hbt5 : Bt I J w5 p2 mb2 q a := by
          refine ⟨hat2.kept f45 (fun e => by rcases e with e | e <;> omega) (fun e => by rcases e with e | e <;> omega) (fun i hi e => e.elim (fun e => am0.np (e ▸ hi)) (fun e => am0.nm (e ▸ hi))), (HBT.out.rg.fr f3).out f45 HBT.out.qp HBT.out.qm HBT.out.jp HBT.out.jm, fun h => by have := HBT.out.rg.1 _ h; omega, fun h => by have := HBT.out.rg.1 _ h; omega, HBT.out.iq, by omega, by omega⟩
        have hpp := HPP.out
        have hVs := FW.out.size
        have f05 : Fr (fun _ => False) w w5 := (FW.out.trans f3 (fun _ _ h => h)).trans f45 (fun i hi e => by rcases e with e | e <;> omega)
        have KD := hid (HFIN.out p2 mb2 I J w5 (by omega) (by omega) hbt5 hb5 f05 ((HRL.out.kept f3 (fun _ _ h => h)).kept f45 (fun i hi e => by have hi : i < w.heap.size := hi; rcases e with e | e <;> omega)))
        have LD5 := hid (LDV.out _ hb5)
        have HP2 := hid (show w.heap.size ≤ p2 ∧ w.heap.size ≤ mb2 by omega)
        clear f5 hb5 f45 hv hv2 hv3 hp2 hm2 hat2 f3 hb3 am0 hbt5 hpp hVs f05
        unfold ptrV at KD
        go_wp2_with (first
          | (refine wpList_load_v LD5.out (by exact ⟨_, rfl, rfl⟩) (by kernel_rfl) ?_)
          | (go_at_call 14; refine KD.out.mono ?_; rintro e w6 ⟨rfl, hfin6⟩; have FIN6 := hid hfin6; clear hfin6))
        go_roundw
        case rel => exact ⟨k + 1, p2, mb2, by omega, by first | go_num | trivial, rfl, HP2.out.1, HP2.out.2, FIN6⟩
        case measure => simp [intOf]; omega
      · have k0 : V.cell? ⟨wr.heap.size, 0, none⟩ = some (.int .i64 op.kind) := lbV.c0
        have hk4 : (op.kind == 4) = false := by simpa using hkd
        have KD := hid (HFIN.out p mb I J V hp0 hm0 hbtV hbV FW.out HRL.out)
        have LD5 := hid (LDV.out _ hbV)
        clear hx hzr hld hrl st hbV fV fW hbtV hE hcs hre hnpq hbt hal hfr hall lbV hqw hfin hkd
        unfold ptrV at KD
        go_wp2_with (first
          | (refine wpList_load_v LD.out (by exact ⟨_, rfl, rfl⟩) (by kernel_rfl) ?_)
          | (refine wpList_store_v (by exact ST.out) (by exact ⟨_, _, rfl, rfl, rfl⟩) (by kernel_rfl) ?_)
          | (refine wpList_load_v LD5.out (by exact ⟨_, rfl, rfl⟩) (by kernel_rfl) ?_)
          | (go_at_call 14; refine KD.out.mono ?_; rintro e w6 ⟨rfl, hfin6⟩; have FIN6 := hid hfin6; clear hfin6))
        go_roundw
        case rel => exact ⟨k + 1, p, mb, by omega, by first | go_num | trivial, rfl, HPP.out.1, HPP.out.2.1, FIN6⟩
        case measure => simp [intOf]; omega
    · obtain rfl : k = n := by omega
      obtain ⟨I, J, a, hbt, hal, hfr⟩ := hall.out
      have KT := hid (told_both hbt (by omega) 0)
      have HFR := hid hfr
      clear hbt hal hfr hall
      unfold ptrV at KT
      go_wp2_with (first
        | (go_at_call 16; refine KT.out.mono ?_; rintro e w5 ⟨B, rfl, f5, KT2'⟩; have KT2 := hid KT2'; have F5 := hid f5; clear KT2' f5)
        | (go_at_call 17; refine KT2.out.mono ?_; rintro e w6 ⟨oa, on, oc, rfl, f6, KT3'⟩; have KT3 := hid (KT3' 0 w6 (Fr.refl _ _)); have F6 := hid f6; clear KT3' f6)
        | (go_at_call 15; refine KT3.out.mono ?_; rintro e w7 ⟨rfl, f7⟩; have F7 := hid f7; clear f7))
      go_ret
      exact ⟨rfl, (((HFR.out.trans F5.out (fun _ _ h => h)).trans F6.out (fun _ _ h => h)).trans F7.out (fun _ _ h => h)).below (Nat.le_refl _) (fun _ _ h => h)⟩
end Go.Proofs.Ytedhmhlhjonloaa
