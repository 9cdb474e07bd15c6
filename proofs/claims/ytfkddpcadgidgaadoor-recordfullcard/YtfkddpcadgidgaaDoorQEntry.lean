/-
  The simplest entry as bytes: record.Entry.
-/
import Derived.Test.YtfkddpcadgidgaaDoorQFw3
namespace Go.Proofs.YtfkddpcadgidgaaDoor
open Go.RowKit
set_option linter.unusedVariables false

theorem M.enc7 : M.enc (M.fd 7) = [14] := by simp [M.fd, M.enc]
theorem M.enc3 : M.enc (M.fd 3) = [6] := by simp [M.fd, M.enc]
theorem M.pns73 : M.pns (M.pns (0, []) [7]) [3] = (0, [14, 6]) := by simp [M.pns, M.pn, M.enc7, M.enc3]
set_option maxRecDepth 20000 in
set_option maxHeartbeats 6400000 in
theorem recEntry (w : World) (tb : Tb w) : Calls Tryd.prog 19 #[.agg M.e73] w fun e w' => ∃ a c, e = .returned (.tuple #[.slice a 2 c, .int .i64 0]) ∧ Ow w.heap.size w' a c [14, 6] ∧ Fr (fun _ => False) w w' := by
  have fW : Fr (fun _ => False) w (w.alloc (.cells M.e73 36)) := Fr.alloc (Fr.refl _ _) _
  have b0 : (w.alloc (.cells M.e73 36)).heap[w.heap.size]? = some (.cells M.e73 36 (0, 0)) := Go.heap_alloc_new w _
  obtain ⟨W, hW⟩ : ∃ W, w.alloc (.cells M.e73 36) = W := ⟨_, rfl⟩
  rw [hW] at fW b0
  have tW := tb.kept fW (fun h => h)
  have lz : (Instr.loadAt 36 (.pointer (some ⟨w.heap.size, 0, none⟩))).run Tryd.prog W = .ok (.agg M.e73) W := run_loadAt_mid W w.heap.size 0 _ M.e73.toList _ (rangeAt_of b0 0 M.e73.toList rfl) Tryd.underlying36 rfl (by kernel_rfl)
  have KC := hid (checkLeave W tW)
  obtain ⟨va, hva⟩ : ∃ v, Value.agg M.e73 = v := ⟨_, rfl⟩
  rw [hva] at lz KC
  have HW := hid hW
  have HVA := hid hva
  have B0 := hid b0
  have FW := hid fW
  have LZ := hid lz
  have TW := hid tW
  have hsz : w.heap.size < W.heap.size := lt_of_row b0
  clear hW hva b0 fW lz tW tb
  unfold M.e73 at HW HVA ⊢
  go_enter Tryd.func19, Tryd.ntmps19
  go_upto_region 1 with fail
  rw [HW.out, HVA.out]
  clear HW HVA
  repeat (first
    | (refine wpList_load_v LZ.out (by exact ⟨_, rfl, rfl⟩) (by kernel_rfl) ?_)
    | (go_at_call 43; refine KC.out.mono ?_; rintro e w1 ⟨rfl, hf1⟩; have F1 := hid hf1; clear hf1; dsimp only)
    | go_values | go_skip | go_guarded | go_step | go_upon | go_back)
  obtain ⟨g, hg⟩ : ∃ g, w1.heap.size = g := ⟨_, rfl⟩
  obtain ⟨W2, hW2⟩ : ∃ W2, w1.alloc (.cells #[.pointer none, .int .i64 0] 92) = W2 := ⟨_, rfl⟩
  have f12 : Fr (fun _ => False) w1 W2 := by rw [← hW2]; exact Fr.alloc (Fr.refl _ _) _
  have bg : W2.heap[g]? = some (.cells #[.pointer none, .int .i64 0] 92 (0, 0)) := by rw [← hW2, ← hg]; exact Go.heap_alloc_new w1 _
  rw [hW2, hg]
  refine (newWriter_any W2).mono ?_
  rintro e w2 ⟨rfl, hw2, hf2⟩
  obtain ⟨p, hp⟩ : ∃ p, W2.heap.size = p := ⟨_, rfl⟩
  rw [hp] at hw2 ⊢
  have bg2 := hf2.cells bg (fun h => h)
  have c2 := cell_at (j := 0) bg2 rfl
  have z2 := frozen_of_row (j := 0) bg2
  have hgl : g < W2.heap.size := lt_of_row bg
  have f3 : Fr (fun k => k = g) w2 (w2.setCell ⟨g, 0, none⟩ (.pointer (some ⟨p, 0, none⟩))) := Fr.setCell (p := ⟨g, 0, none⟩) (S := fun k => k = g) (Fr.refl _ _) (fun _ => rfl) _
  have hq : Fq (fun k => k = g ∨ k = p) (w2.setCell ⟨g, 0, none⟩ (.pointer (some ⟨p, 0, none⟩))) g 92 p (0, []) := ⟨by rw [setCell_row bg2]; rfl, ⟨none, 0, ⟨f3.cells hw2.at_ (fun e => by omega), Ow.nil _ _, by simp [blk], Nat.zero_le _⟩, by simp [blk]⟩, by omega, .inl rfl, .inr rfl, fun k hk => by rw [setCell_size]; have h1 := lt_of_row hw2.at_; have h2 := lt_of_row bg2; rcases hk with rfl | rfl <;> omega, by simp⟩
  have hw0 : Fr (fun k => k = g) w (w2.setCell ⟨g, 0, none⟩ (.pointer (some ⟨p, 0, none⟩))) := ((((FW.out.trans F1.out (fun _ _ h => h)).trans f12 (fun _ _ h => h)).trans hf2 (fun _ _ h => h)).mono (T := fun k => k = g) (fun _ _ h => h.elim)).trans f3 (fun _ _ h => h)
  have hWz := F1.out.size
  have HG : Hid (w.heap.size < g ∧ g < p ∧ W.heap.size ≤ g) := hid ⟨by omega, by omega, by omega⟩
  have hE : Fr (fun k => k = g) W (w2.setCell ⟨g, 0, none⟩ (.pointer (some ⟨p, 0, none⟩))) := (((F1.out.trans f12 (fun _ _ h => h)).trans hf2 (fun _ _ h => h)).mono (T := fun k => k = g) (fun _ _ h => h.elim)).trans f3 (fun _ _ h => h)
  have be := hE.cells B0.out (fun e => by omega)
  have t3 : Tb (w2.setCell ⟨g, 0, none⟩ (.pointer (some ⟨p, 0, none⟩))) := TW.out.kept hE (fun e => by have := World.block_lt_of_cell? _ _ (TW.out 0 0 rfl); simp only at this; omega)
  have hG0 : 0 < W.heap.size := by have := World.block_lt_of_cell? _ _ (TW.out 0 0 rfl); simpa using this
  have KE := hid (ewEntry hq t3 (fun e => by omega) w.heap.size (cell_at (j := 0) be rfl) (cell_at (j := 53) be rfl) (fun e => by omega))
  rw [M.pns73] at KE
  have HW0 := hid hw0
  clear hW2 hg f12 bg hw2 hf2 hp bg2 hgl f3 hq hw0 hWz hE be t3 hG0
  go_wp2_with (first | (go_at_call 44; refine KE.out.mono ?_; rintro e w4 ⟨⟨v, rfl⟩, ht4⟩; have HT4 := hid ht4; clear ht4))
  have KO := hid (fwOut HT4.out.1 2 rfl)
  clear KE
  go_wp2_with (first | (go_at_call 45; refine KO.out.mono ?_; rintro e w5 ⟨a, c, rfl, ho, hf5⟩; have HO := hid ho; have F5 := hid hf5; clear ho hf5))
  go_ret2
  have h4 := HT4.out.2
  have hz : w.heap.size ≤ w4.heap.size := Nat.le_trans HW0.out.size h4.size
  refine ⟨a, c, rfl, HO.out.base (fun k hk => by have := (HO.out.lt k hk).1; omega), ?_⟩
  exact ((HW0.out.trans (h4.mono (T := fun k => k = g ∨ k = p) (fun _ _ h => h)) (S := fun k => k = g) (fun i hi e => by have := HG.out; omega)).trans F5.out (fun _ _ h => h.elim)).mono (fun i hi e => by have := HG.out; omega)

end Go.Proofs.YtfkddpcadgidgaaDoor
