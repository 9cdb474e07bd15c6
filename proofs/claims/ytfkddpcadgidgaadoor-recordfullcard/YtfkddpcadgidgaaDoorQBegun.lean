/-
  The law's begun: the simplest entry goes to bytes and back.
-/
import Derived.Test.YtfkddpcadgidgaaDoorQTake4
import Derived.Test.YtfkddpcadgidgaaDoorQEntry
namespace Go.Proofs.YtfkddpcadgidgaaDoor
open Go.RowKit
set_option linter.unusedVariables false
set_option maxRecDepth 20000 in
set_option maxHeartbeats 6400000 in
theorem begunTrue (w : World) (tb : Tb w) : Calls Tryd.prog 6 #[] w fun e w' => e = .returned (.bool true) ∧ Fr (fun _ => False) w w' := by
  obtain ⟨va, hva⟩ : ∃ v, Value.agg M.e73 = v := ⟨_, rfl⟩
  have kE := recEntry w tb
  rw [hva] at kE
  have KE := hid kE
  have HVA := hid hva
  clear kE hva
  unfold M.e73 at HVA
  go_enter Tryd.func6, Tryd.ntmps6
  repeat (first
    | (go_at_call 19; rw [HVA.out]; refine KE.out.mono ?_; rintro e w1 ⟨a, c, rfl, ho, f1⟩; have F1 := hid f1; have HO := hid ho; clear f1 ho; dsimp only)
    | (go_at_call 22; fail_if_success skip)
    | go_values | go_skip | go_guarded | go_step | go_upon | go_back)
  have fW1 : Fr (fun _ => False) w1 (w1.alloc (.cells #[.int .u8 14, .int .u8 6] 5)) := Fr.alloc (Fr.refl _ _) _
  have bW1 : (w1.alloc (.cells #[.int .u8 14, .int .u8 6] 5)).heap[w1.heap.size]? = some (.cells #[.int .u8 14, .int .u8 6] 5 (0, 0)) := Go.heap_alloc_new w1 _
  obtain ⟨W1, hW1⟩ : ∃ W1, w1.alloc (.cells #[.int .u8 14, .int .u8 6] 5) = W1 := ⟨_, rfl⟩
  rw [hW1] at fW1 bW1
  rw [hW1]
  have sl1 : Sl W1 (some ⟨w1.heap.size, 0, none⟩) 2 [14, 6] := ⟨rfl, .inr ⟨_, _, rfl, fun k x hk => by
    rw [Nat.zero_add, cell_of_row W1 _ k _ _ _ bW1]
    match k, hk with
    | 0, h => cases h; rfl
    | 1, h => cases h; rfl⟩⟩
  have f01 : Fr (fun _ => False) w W1 := F1.out.trans fW1 (fun _ _ h => h)
  have kT := takeLeave W1 (tb.kept f01 (fun h => h)) _ 2 sl1
  rw [show Value.agg M.e73 = va from HVA.out] at kT
  refine kT.mono ?_
  rintro e w2 ⟨rfl, f2⟩
  have be0 : (w2.alloc (.cells M.e00 36)).heap[w2.heap.size]? = some (.cells M.e00 36 (0, 0)) := Go.heap_alloc_new w2 _
  have te : (w2.alloc (.cells M.e00 36)).there w2.heap.size 0 M.e73.size := there_of be0 (by decide)
  have ste := run_storeAt_mid (P := Tryd.prog) _ _ 0 36 M.e73 te (by kernel_rfl) (by kernel_rfl)
  have rge := World.rangeAt_setCells_same _ _ 0 M.e73.toList te
  have f22 : Fr (fun _ => False) w2 ((w2.alloc (.cells M.e00 36)).setCells w2.heap.size 0 M.e73.toList) := ((Fr.alloc (Fr.refl (fun k => k = w2.heap.size) w2) (.cells M.e00 36)).trans (Fr.setCells _ _ _ _) (fun _ _ h => h)).mono (fun i hi e => by omega)
  obtain ⟨W2, hW2⟩ : ∃ W2, (w2.alloc (.cells M.e00 36)).setCells w2.heap.size 0 M.e73.toList = W2 := ⟨_, rfl⟩
  rw [hW2] at ste rge f22
  rw [show Value.agg M.e73 = va from HVA.out] at ste
  have f02 : Fr (fun _ => False) w W2 := (f01.trans f2 (fun _ _ h => h)).trans f22 (fun _ _ h => h)
  have f12 : Fr (fun _ => False) w1 W2 := (fW1.trans f2 (fun _ _ h => h)).trans f22 (fun _ _ h => h)
  have F02 := hid f02
  have F12 := hid f12
  have STE := hid ste
  have RGE := hid rge
  clear fW1 bW1 hW1 sl1 f01 kT f2 be0 te ste rge f22 hW2 f02 f12 KE
  unfold M.e00 at STE
  dsimp only
  repeat (first
    | (refine wpList_store_v STE.out (by exact ⟨_, _, rfl, rfl, rfl⟩) (by kernel_rfl) ?_)
    | (go_at_call 21; fail_if_success skip)
    | go_values | go_skip | go_guarded | go_step | go_upon | go_back)
  have fW3 : Fr (fun _ => False) W2 (W2.alloc (.cells #[.int .u8 14, .int .u8 6] 5)) := Fr.alloc (Fr.refl _ _) _
  have bW3 : (W2.alloc (.cells #[.int .u8 14, .int .u8 6] 5)).heap[W2.heap.size]? = some (.cells #[.int .u8 14, .int .u8 6] 5 (0, 0)) := Go.heap_alloc_new W2 _
  obtain ⟨W3, hW3⟩ : ∃ W3, W2.alloc (.cells #[.int .u8 14, .int .u8 6] 5) = W3 := ⟨_, rfl⟩
  rw [hW3] at fW3 bW3
  rw [hW3]
  have sl3 : Sl W3 (some ⟨W2.heap.size, 0, none⟩) 2 [14, 6] := ⟨rfl, .inr ⟨_, _, rfl, fun k x hk => by
    rw [Nat.zero_add, cell_of_row W3 _ k _ _ _ bW3]
    match k, hk with
    | 0, h => cases h; rfl
    | 1, h => cases h; rfl⟩⟩
  have sl0 : Sl W3 a 2 [14, 6] := HO.out.sl.kept (F12.out.trans fW3 (fun _ _ h => h)) (fun _ _ _ h => h)
  have kq := equal_any a _ 2 c 2 2 _ _ W3 sl0 sl3
  have rg3 := rangeAt_kept RGE.out fW3 (fun h => h)
  have c0 := rg3 0 (.int .i64 7) rfl
  have c53 := rg3 53 (.int .i64 3) rfl
  rw [Nat.zero_add] at c0 c53
  have f03 := F02.out.trans fW3 (fun _ _ h => h)
  have F03 := hid f03
  clear fW3 bW3 hW3 sl3 sl0 STE RGE rg3 f03
  refine kq.mono ?_
  rintro e w4 ⟨rfl, rfl⟩
  clear kq
  dsimp only
  go_wp2_with fail
  exact bodyPost_ret (v := .bool true) (results_tmp Tryd.results6 _ _ _) rfl ⟨rfl, F03.out⟩

end Go.Proofs.YtfkddpcadgidgaaDoor
