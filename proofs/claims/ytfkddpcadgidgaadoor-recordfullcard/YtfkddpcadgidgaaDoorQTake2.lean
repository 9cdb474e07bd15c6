/-
  The simplest entry is read: the reader's entry.
-/
import Derived.Test.YtfkddpcadgidgaaDoorQTake
namespace Go.Proofs.YtfkddpcadgidgaaDoor
open Go.RowKit
set_option linter.unusedVariables false

set_option maxRecDepth 20000 in
set_option maxHeartbeats 6400000 in
theorem erEntry {S : Nat → Prop} {w : World} {g : Nat} {T : TypeId} {p : Nat} (tb : Tb w) (hg : w.heap[g]? = some (.cells #[.pointer (some ⟨p, 0, none⟩), .int .i64 0] T (0, 0))) (hr : Rq S w p [14, 6]) (hS : ∀ k, S k → k ≠ g ∧ k < w.heap.size) (hGS : 0 ≠ g ∧ 0 ≠ p) :
    Calls Tryd.prog 54 #[.pointer (some ⟨g, 0, none⟩)] w fun e w' => e = .returned (.agg M.e73) ∧ w'.heap[g]? = some (.cells #[.pointer (some ⟨p, 0, none⟩), .int .i64 0] T (0, 0)) ∧ Rq S w' p [] ∧ Fr (fun k => k = p ∨ k = g) w w' := by
  have hSp : S p := by obtain ⟨_, _, _, _, h⟩ := hr; exact h
  have hgl := lt_of_row hg
  have fW : Fr (fun _ => False) w ((w.alloc (.cells M.e00 36)).alloc (.cells M.e00 36)) := Fr.alloc (Fr.alloc (Fr.refl _ _) _) _
  have br : ((w.alloc (.cells M.e00 36)).alloc (.cells M.e00 36)).heap[w.heap.size]? = some (.cells M.e00 36 (0, 0)) := (Below.heap_alloc _ _ _ (by simp)).trans (Go.heap_alloc_new w _)
  have b0 : ((w.alloc (.cells M.e00 36)).alloc (.cells M.e00 36)).heap[w.heap.size + 1]? = some (.cells M.e00 36 (0, 0)) := by
    have := Go.heap_alloc_new (w.alloc (.cells M.e00 36)) (.cells M.e00 36)
    rw [World.size_alloc] at this
    exact this
  obtain ⟨W, hW⟩ : ∃ W, (w.alloc (.cells M.e00 36)).alloc (.cells M.e00 36) = W := ⟨_, rfl⟩
  obtain ⟨rb, hrb⟩ : ∃ rb, w.heap.size = rb := ⟨_, rfl⟩
  obtain ⟨eb, heb⟩ : ∃ eb, rb + 1 = eb := ⟨_, rfl⟩
  rw [hW] at fW b0 br
  rw [hrb] at br
  rw [hrb, heb] at b0
  have KI : Hid (∀ V, Fr (fun _ => False) W V → ∀ n, V.heap.size = n → Calls Tryd.prog 77 #[.pointer (some ⟨g, 0, none⟩), .slice (some ⟨n, 0, none⟩) 1 1] (V.alloc (.cells #[.pointer (some ⟨eb, 0, none⟩)] 142)) fun e w' => (∃ v, e = .returned v) ∧ Fk (fun k => k = p) (fun W => Rq S W p [6]) W g T (.pointer (some ⟨p, 0, none⟩)) eb 0 M.e00 36 7 0 w') := hid (fun V hf n hn => by
    have fv := Fr.alloc hf (.cells #[.pointer (some ⟨eb, 0, none⟩)] 142)
    have hz := hf.size
    have hz0 := fW.size
    refine (frInts1 (R := fun k => k = p) (PP := fun W => Rq S W p [6]) (fv.cells (fW.cells hg (fun h => h)) (fun h => h)) n 1 eb 0 (by subst hn; exact cell_at (Go.heap_alloc_new V _) rfl) (fv.cells b0 (fun h => h)) (old := 0) rfl (by omega) (fun e => (hS p hSp).1 e.symm) (fun e => by have := (hS p hSp).2; omega) (fun k e => by subst e; have := (hS k hSp).2; simp; omega) (v := 7) (er := 0) (by omega) (fun X hX => ((((hr.kept fW (fun _ _ h => h)).kept fv (fun _ _ h => h)).kept hX (fun _ _ h => h)).int 7 0 1 M.take14).mono (fun e w' h => h)) (fun A B hA hAB => hA.kept hAB (fun k hk e => by have := hS k hk; simp at e; omega))).mono ?_
    rintro e w' ⟨h1, h2⟩
    exact ⟨h1, h2.g_, h2.q_, h2.pp, (fv.mono (T := fun k => k = p ∨ k = g ∨ k = eb) (fun _ _ h => h.elim)).trans h2.fr (fun _ _ h => h)⟩)
  have HW := hid hW
  have HEB := hid heb
  have HRB := hid hrb
  have BR := hid br
  have FW := hid fW
  have TB := hid tb
  have HS := hid hS
  have HGS := hid hGS
  have HSP := hid hSp
  have hG0 : 0 < w.heap.size := by have := World.block_lt_of_cell? _ _ (tb 0 0 rfl); simpa using this
  clear hW fW b0 br tb hg hr hS hGS heb hrb hSp
  unfold M.e00 at HW
  go_enter Tryd.func54, Tryd.ntmps54
  go_upto_region 2 with fail
  rw [HW.out, HRB.out, HEB.out]
  clear HW
  go_wp2_with fail
  refine (KI.out W (Fr.refl _ W) _ rfl).mono ?_
  rintro e w2 ⟨⟨v, rfl⟩, hk⟩
  have HK := hid hk
  clear hk
  have c2 : w2.cell? ⟨eb, 0, none⟩ = some (.int .i64 7) := cell_at (j := 0) HK.out.q_ rfl
  have t2 : Tb w2 := (TB.out.kept FW.out (fun h => h)).kept HK.out.fr (fun e => by have h1 := HGS.out; have h2 := HEB.out; have h3 := HRB.out; omega)
  have KR := hid (entryRow_ok w2 t2 7 (by omega))
  rw [show M.eRow 7 0 = 16 from rfl, show M.eRow 7 1 = 0 from rfl, show M.eRow 7 2 = 0 from rfl, show M.eRow 7 3 = 0 from rfl] at KR
  clear KI
  go_wp2_with fail
  refine KR.out.mono ?_
  rintro e w3 ⟨rfl, hf3⟩
  obtain ⟨W3, hW3⟩ : ∃ W3, w3.alloc (.cells #[.int .i64 16, .int .i64 0, .int .i64 0, .int .i64 0] 130) = W3 := ⟨_, rfl⟩
  obtain ⟨nb, hnb⟩ : ∃ nb, w3.heap.size = nb := ⟨_, rfl⟩
  have f33 : Fr (fun _ => False) w3 W3 := by rw [← hW3]; exact Fr.alloc (Fr.refl _ _) _
  have bn : W3.heap[nb]? = some (.cells #[.int .i64 16, .int .i64 0, .int .i64 0, .int .i64 0] 130 (0, 0)) := by rw [← hW3, ← hnb]; exact Go.heap_alloc_new w3 _
  have f23 := hf3.trans f33 (fun _ _ h => h)
  have g3 := f23.cells HK.out.g_ (fun h => h)
  have e3 := f23.cells HK.out.q_ (fun h => h)
  have r3 := HK.out.pp.kept f23 (fun _ _ h => h)
  have dg := cell_at (j := 1) g3 rfl
  have hz3 := hf3.size
  have hz33 := f33.size
  have hz2 := HK.out.fr.size
  have hzW := FW.out.size
  have hE := HEB.out
  have hR := HRB.out
  have hbl := lt_of_row BR.out
  have hel := lt_of_row HK.out.q_
  have hnn : W3.heap.size = nb + 1 := by rw [← hW3, ← hnb]; simp
  have K5 := hid (fun lc => erFields g3 r3 eb e3 rfl (by omega) (fun k hk => by have h1 := HS.out k hk; exact ⟨h1.1, by omega, by omega⟩) nb lc (Is.part bn 0 4 [16, 0, 0, 0] rfl rfl) ⟨fun hs => by have := (HS.out nb hs).2; omega, by omega, by omega⟩)
  have KF := hid (frRefuse dg)
  have HW3 := hid hW3
  have HNB := hid hnb
  have F23 := hid f23
  clear hW3 hnb f33 bn f23 g3 e3 r3 dg hz3 hz33 hz2 hzW hE hR hbl hel hnn hf3 KR c2 t2
  go_wp2_with fail
  rw [HW3.out, HNB.out]
  refine KF.out.mono ?_
  rintro e wx ⟨⟨v4, rfl⟩, rfl⟩
  clear KF HW3
  go_wp2_with fail
  refine (K5.out _).mono ?_
  rintro e w5 ⟨⟨v5, rfl⟩, hk5⟩
  have hrow : (M.e00.setIfInBounds 0 (.int .i64 7)).setIfInBounds 53 (.int .i64 3) = M.e73 := rfl
  have q5 := hk5.q_
  rw [hrow] at q5
  have lz : (Instr.loadAt 36 (.pointer (some ⟨eb, 0, none⟩))).run Tryd.prog w5 = .ok (.agg M.e73) w5 := run_loadAt_mid w5 eb 0 _ M.e73.toList _ (rangeAt_of q5 0 M.e73.toList rfl) Tryd.underlying36 rfl (by kernel_rfl)
  have hE := HEB.out
  have hR := HRB.out
  have b5 : w5.heap[rb]? = some (.cells M.e00 36 (0, 0)) := hk5.fr.cells (F23.out.cells (HK.out.fr.cells BR.out (fun e => by have := (HS.out p HSP.out).2; omega)) (fun h => h)) (fun e => by have := (HS.out p HSP.out).2; omega)
  have th : w5.there rb 0 M.e73.size := fun j hj => by
    have hj : j < 56 := hj
    refine ⟨?_, frozen_of_row b5⟩
    rw [Nat.zero_add, cell_of_row w5 rb j _ _ _ b5]
    have : j < M.e00.size := hj
    simp [this]
  have st := run_storeAt_mid (P := Tryd.prog) w5 rb 0 36 M.e73 th (by kernel_rfl) (by kernel_rfl)
  have rg := World.rangeAt_setCells_same w5 rb 0 M.e73.toList th
  have f6 := Fr.setCells w5 rb 0 M.e73.toList
  obtain ⟨w6, hw6⟩ : ∃ w6, w5.setCells rb 0 M.e73.toList = w6 := ⟨_, rfl⟩
  rw [hw6] at st rg f6
  have lr := run_loadVar_mid (P := Tryd.prog) w6 rb 0 36 M.e73.toList _ rg Tryd.underlying36 rfl (by kernel_rfl)
  obtain ⟨va, hva⟩ : ∃ v, Value.agg M.e73 = v := ⟨_, rfl⟩
  rw [show Value.agg M.e73.toList.toArray = .agg M.e73 from rfl] at lr
  rw [hva] at lz st lr
  have HVA := hid hva
  have LZ := hid lz
  have ST := hid st
  have LR := hid lr
  have F6 := hid f6
  have HK5 := hid hk5
  clear hrow q5 lz hE hR b5 th st rg f6 hw6 lr hva hk5 K5
  go_upto_region 6 with fail
  repeat (first
    | (refine wpList_load_v LZ.out (by exact ⟨_, rfl, rfl⟩) (by kernel_rfl) ?_)
    | (refine wpList_store_v ST.out (by exact ⟨_, _, rfl, rfl, rfl⟩) (by kernel_rfl) ?_)
    | go_values | go_skip | go_guarded | go_step | go_upon | go_back)
  refine bodyPost_ret (v := va) (results_cell1 Tryd.results54 _ _ _ _ _ (by rfl) LR.out) rfl ⟨by rw [← HVA.out], ?_, ?_, ?_⟩
  · exact F6.out.cells HK5.out.g_ (fun e => by have h1 := HRB.out; omega)
  · exact HK5.out.pp.kept F6.out (fun k hk e => by have h1 := (HS.out k hk).2; have h2 := HRB.out; omega)
  · have h1 := HRB.out
    have h2 := HEB.out
    have h3 := FW.out.size
    refine (((FW.out.mono (T := fun k => k = p ∨ k = g ∨ k = eb ∨ k = rb) (fun _ _ h => h.elim)).trans HK.out.fr (fun i hi e => by omega)).trans ((F23.out.mono (T := fun k => k = p ∨ k = g ∨ k = eb) (fun _ _ h => h.elim)).trans HK5.out.fr (fun _ _ h => h)) (fun i hi e => by omega)).trans F6.out (fun i hi e => by omega) |>.mono (fun i hi e => by omega)

end Go.Proofs.YtfkddpcadgidgaaDoor
