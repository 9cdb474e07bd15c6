/-
  The simplest entry is read: TakeEntry.
-/
import Derived.Test.YtfkddpcadgidgaaDoorQTake3
namespace Go.Proofs.YtfkddpcadgidgaaDoor
open Go.RowKit
set_option linter.unusedVariables false

set_option maxRecDepth 20000 in
set_option maxHeartbeats 6400000 in
theorem takeLeave (w : World) (tb : Tb w) (a : Option Addr) (c : Nat) (hs : Sl w a 2 [14, 6]) : Calls Tryd.prog 22 #[.slice a 2 c] w fun e w' => e = .returned (.tuple #[.agg M.e73, .int .i64 0]) ∧ Fr (fun _ => False) w w' := by
  obtain ⟨rb, hrb⟩ : ∃ rb, w.heap.size = rb := ⟨_, rfl⟩
  obtain ⟨g, hg⟩ : ∃ g, rb + 1 = g := ⟨_, rfl⟩
  obtain ⟨W, hW⟩ : ∃ W, (w.alloc (.cells M.e00 36)).alloc (.cells #[.pointer none, .int .i64 0] 110) = W := ⟨_, rfl⟩
  have fW : Fr (fun _ => False) w W := by rw [← hW]; exact Fr.alloc (Fr.alloc (Fr.refl _ _) _) _
  have br : W.heap[rb]? = some (.cells M.e00 36 (0, 0)) := by rw [← hW, ← hrb]; exact (Below.heap_alloc _ _ _ (by simp)).trans (Go.heap_alloc_new w _)
  have bg : W.heap[g]? = some (.cells #[.pointer none, .int .i64 0] 110 (0, 0)) := by
    have := Go.heap_alloc_new (w.alloc (.cells M.e00 36)) (.cells #[.pointer none, .int .i64 0] 110)
    rw [World.size_alloc, hrb, hg] at this
    rw [← hW]; exact this
  have hsz : W.heap.size = g + 1 := by rw [← hW, ← hg, ← hrb]; simp
  have KN := hid (newReader_any a 2 c [14, 6] W (hs.kept fW (fun _ _ _ h => h)) (by omega))
  have HW := hid hW
  have HG := hid hg
  have FW := hid fW
  have BG := hid bg
  have BR := hid br
  have HRB := hid hrb
  have TB := hid tb
  have HSZ := hid hsz
  have hG0 : 0 < w.heap.size := by have := World.block_lt_of_cell? _ _ (tb 0 0 rfl); simpa using this
  have HG0 := hid hG0
  clear hg hW fW bg br hrb tb hs hsz hG0
  unfold M.e00 at HW
  go_enter Tryd.func22, Tryd.ntmps22
  go_wp2_with fail
  rw [HW.out, HRB.out, HG.out]
  refine KN.out.mono ?_
  rintro e w2 ⟨p, a', c', rfl, hrd, hf2, hp, ha⟩
  have b2 := hf2.cells BG.out (fun h => h)
  have c2 := cell_at (j := 0) b2 rfl
  have z2 := frozen_of_row (j := 0) b2
  have f3 : Fr (fun k => k = g) w2 (w2.setCell ⟨g, 0, none⟩ (.pointer (some ⟨p, 0, none⟩))) := Fr.setCell (p := ⟨g, 0, none⟩) (S := fun k => k = g) (Fr.refl _ _) (fun _ => rfl) _
  have b3 : (w2.setCell ⟨g, 0, none⟩ (.pointer (some ⟨p, 0, none⟩))).heap[g]? = some (.cells #[.pointer (some ⟨p, 0, none⟩), .int .i64 0] 110 (0, 0)) := by rw [setCell_row b2]; rfl
  obtain ⟨w3, hw3⟩ : ∃ w3, w2.setCell ⟨g, 0, none⟩ (.pointer (some ⟨p, 0, none⟩)) = w3 := ⟨_, rfl⟩
  rw [hw3] at f3 b3
  have hsz := HSZ.out
  have hgw := HG.out
  have hrw := HRB.out
  have hpl := lt_of_row hrd.at_
  have hz3 := f3.size
  have hal : ∀ k, blk a' = some k → k < w2.heap.size := fun k hk => hrd.sl.lt (by simp) k hk
  have hr3 : Rq (fun k => g < k ∧ k < w3.heap.size) w3 p [14, 6] := ⟨a', c', hrd.kept f3 (fun e => by omega) (fun k hk e => by have := ha k hk; omega), fun k hk => ⟨by have := ha k hk; omega, by have := hal k hk; omega⟩, ⟨by omega, by omega⟩⟩
  have fw3 : Fr (fun k => k = g) w w3 := ((FW.out.trans hf2 (fun _ _ h => h)).mono (T := fun k => k = g) (fun _ _ h => h.elim)).trans f3 (fun _ _ h => h)
  have hG0 := HG0.out
  have t3 : Tb w3 := TB.out.kept fw3 (fun e => by omega)
  have KE := hid (erEntry t3 b3 hr3 (fun k hk => ⟨by omega, hk.2⟩) ⟨by omega, by omega⟩)
  have HW3 := hid hw3
  have FW3 := hid fw3
  have HP : Hid (g < p ∧ p < w3.heap.size) := hid ⟨by omega, by omega⟩
  have br3 : w3.heap[rb]? = some (.cells M.e00 36 (0, 0)) := f3.cells (hf2.cells BR.out (fun h => h)) (fun e => by omega)
  have BR3 := hid br3
  clear br3 hrw hrd hf2 hp ha b2 f3 b3 hw3 hsz hgw hpl hz3 hal hr3 fw3 hG0 t3 KN HW
  go_upto_region 2 with fail
  rw [HW3.out]
  clear HW3 c2 z2
  go_wp2_with fail
  refine KE.out.mono ?_
  rintro e w4 ⟨rfl, g4, r4, f4⟩
  have F4 := hid f4
  obtain ⟨va, hva⟩ : ∃ v, Value.agg M.e73 = v := ⟨_, rfl⟩
  have be0 : (w4.alloc (.cells M.e00 36)).heap[w4.heap.size]? = some (.cells M.e00 36 (0, 0)) := Go.heap_alloc_new w4 _
  have te : (w4.alloc (.cells M.e00 36)).there w4.heap.size 0 M.e73.size := there_of be0 (by decide)
  have ste := run_storeAt_mid (P := Tryd.prog) _ _ 0 36 M.e73 te (by kernel_rfl) (by kernel_rfl)
  have rge := World.rangeAt_setCells_same _ _ 0 M.e73.toList te
  have f44 : Fr (fun _ => False) w4 ((w4.alloc (.cells M.e00 36)).setCells w4.heap.size 0 M.e73.toList) := ((Fr.alloc (Fr.refl (fun k => k = w4.heap.size) w4) (.cells M.e00 36)).trans (Fr.setCells _ _ _ _) (fun _ _ h => h)).mono (fun i hi e => by omega)
  obtain ⟨W4, hW4⟩ : ∃ W4, (w4.alloc (.cells M.e00 36)).setCells w4.heap.size 0 M.e73.toList = W4 := ⟨_, rfl⟩
  rw [hW4] at ste rge f44
  have KD := hid (frEnd (f44.cells g4 (fun h => h)) (r4.kept f44 (fun _ _ h => h)))
  have hez : w4.heap.size < W4.heap.size := by
    rw [← hW4]
    have h1 := (Fr.setCells (w4.alloc (.cells M.e00 36)) w4.heap.size 0 M.e73.toList).size
    rw [World.size_alloc] at h1
    omega
  rw [hva] at ste
  rw [hva]
  have HVA := hid hva
  have STE := hid ste
  have RGE := hid rge
  have F44 := hid f44
  have HEZ := hid hez
  clear g4 r4 f4 KE hva hW4 be0 te ste rge f44 hez
  unfold M.e00 at STE
  dsimp only
  repeat (first
    | (refine wpList_store_v STE.out (by exact ⟨_, _, rfl, rfl, rfl⟩) (by kernel_rfl) ?_)
    | (go_at_call 55; refine KD.out.mono ?_)
    | go_values | go_skip | go_guarded | go_step | go_upon | go_back)
  rintro e w5 ⟨⟨v5, rfl⟩, g5, f5⟩
  have d5 := cell_at (j := 1) g5 rfl
  have hG0 := HG0.out
  have hgw := HG.out
  have hrw := HRB.out
  have hp := HP.out
  have hez := HEZ.out
  have hz4 := F4.out.size
  have hz3 := FW3.out.size
  have f45 := F44.out.mono (T := fun k => k = g ∨ k = p) (fun _ _ h => h.elim)
  have f05 : Fr (fun k => k = g ∨ k = p) w w5 := (((FW3.out.mono (T := fun k => k = g ∨ k = p) (fun _ _ h => .inl h)).trans F4.out (fun _ _ h => h.symm)).trans f45 (fun _ _ h => h)).trans f5 (fun _ _ h => .inl h)
  have t5 : Tb w5 := TB.out.kept f05 (fun e => by omega)
  have KJ := hid (judgedLeave w5 t5)
  have b5 : w5.heap[rb]? = some (.cells M.e00 36 (0, 0)) := f5.cells (F44.out.cells (F4.out.cells BR3.out (fun e => by omega)) (fun h => h)) (fun e => by omega)
  have rg5 : w5.rangeAt w4.heap.size 0 M.e73.toList := rangeAt_kept RGE.out f5 (fun e => by have := lt_of_row BR3.out; omega)
  have lz : (Instr.loadAt 36 (.pointer (some ⟨w4.heap.size, 0, none⟩))).run Tryd.prog w5 = .ok (.agg M.e73) w5 := run_loadAt_mid w5 w4.heap.size 0 _ M.e73.toList _ rg5 Tryd.underlying36 rfl (by kernel_rfl)
  have hva : Value.agg M.e73 = va := HVA.out
  have st : ∀ V, Fr (fun _ => False) w5 V → (Instr.storeAt 36 (.pointer (some ⟨rb, 0, none⟩)) (.agg M.e73)).run Tryd.prog V = .ok () (V.setCells rb 0 M.e73.toList) ∧ (loadVar 36 ⟨rb, 0, none⟩).run Tryd.prog (V.setCells rb 0 M.e73.toList) = .ok (.agg M.e73) (V.setCells rb 0 M.e73.toList) := fun V hf => by
    have th : V.there rb 0 M.e73.size := there_of (hf.cells b5 (fun h => h)) (by decide)
    exact ⟨run_storeAt_mid (P := Tryd.prog) V _ 0 36 M.e73 th (by kernel_rfl) (by kernel_rfl), run_loadVar_mid (P := Tryd.prog) _ _ 0 36 M.e73.toList _ (World.rangeAt_setCells_same V _ 0 M.e73.toList th) Tryd.underlying36 rfl (by kernel_rfl)⟩
  rw [hva] at KJ lz st
  have LZ := hid lz
  have ST := hid st
  have F05 := hid f05
  clear g5 f5 f05 t5 KD hG0 hgw hrw hp hez hz4 hz3 f45 b5 rg5 lz hva st STE RGE
  dsimp only
  repeat (first
    | (refine wpList_load_v LZ.out (by exact ⟨_, rfl, rfl⟩) (by kernel_rfl) ?_)
    | (go_at_call 56; refine KJ.out.mono ?_; rintro e w6 ⟨rfl, hf6⟩; have st6 := ST.out _ hf6; have f7 := Fr.setCells w6 rb 0 M.e73.toList; obtain ⟨w7, hw7⟩ : ∃ w7, w6.setCells rb 0 M.e73.toList = w7 := ⟨_, rfl⟩; rw [hw7] at st6 f7; have ST6 := hid st6.1; have LR6 := hid st6.2; have F7 := hid f7; have F6 := hid hf6; clear hf6 st6 f7 hw7; dsimp only)
    | (refine wpList_store_v ST6.out (by exact ⟨_, _, rfl, rfl, rfl⟩) (by kernel_rfl) ?_)
    | go_values | go_skip | go_guarded | go_step | go_upon | go_back)
  refine bodyPost_ret (v := .tuple #[va, .int .i64 0]) (results_cell2 Tryd.results22 _ _ _ _ _ _ (by rfl) LR6.out (by rfl)) rfl ⟨by rw [← HVA.out], ?_⟩
  have hgw := HG.out
  have hrw := HRB.out
  have hp := HP.out
  have hz3 := FW3.out.size
  exact (((F05.out.mono (T := fun k => k = g ∨ k = p ∨ k = rb) (fun _ _ h => by omega)).trans (F6.out.mono (T := fun k => k = rb) (fun _ _ h => h.elim)) (fun _ _ h => by omega)).trans F7.out (fun _ _ h => by omega)).mono (fun i hi e => by omega)

end Go.Proofs.YtfkddpcadgidgaaDoor
