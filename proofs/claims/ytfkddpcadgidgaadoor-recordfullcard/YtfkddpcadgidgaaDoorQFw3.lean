/-
  The simplest entry is written.
-/
import Derived.Test.YtfkddpcadgidgaaDoorQFw2
namespace Go.Proofs.YtfkddpcadgidgaaDoor
open Go.RowKit
set_option linter.unusedVariables false

set_option maxRecDepth 20000 in
set_option maxHeartbeats 3200000 in
theorem ewEntry {S : Nat → Prop} {w : World} {g : Nat} {T : TypeId} {p : Nat} {st : Int × List UInt8} (h : Fq S w g T p st) (tb : Tb w) (hG : ¬ S 0) (eb : Nat) (c0 : w.cell? ⟨eb, 0, none⟩ = some (.int .i64 7)) (c53 : w.cell? ⟨eb, 53, none⟩ = some (.int .i64 3)) (heb : ¬ S eb) :
    Calls Tryd.prog 44 #[.pointer (some ⟨g, 0, none⟩), .pointer (some ⟨eb, 0, none⟩)] w fun e w' => (∃ v, e = .returned v) ∧ Ft S w g T p (M.pns (M.pns st [7]) [3]) w' := by
  have HF := hid h
  have KR := hid (entryRow_ok w tb 7 (by omega))
  rw [show M.eRow 7 0 = 16 from rfl, show M.eRow 7 1 = 0 from rfl, show M.eRow 7 2 = 0 from rfl, show M.eRow 7 3 = 0 from rfl] at KR
  have HEB := hid heb
  clear h tb hG heb
  go_enter Tryd.func44, Tryd.ntmps44
  go_wp2_with fail
  refine KR.out.mono ?_
  rintro e w1 ⟨rfl, hf1⟩
  have F1 := hid hf1
  have d0 := cellFr hf1 (fun h => h) c0
  have d53 := cellFr hf1 (fun h => h) c53
  clear hf1 KR c0 c53
  obtain ⟨W, hW⟩ : ∃ W, w1.alloc (.cells #[.int .i64 16, .int .i64 0, .int .i64 0, .int .i64 0] 130) = W := ⟨_, rfl⟩
  have fW : Fr (fun _ => False) w1 W := by rw [← hW]; exact Fr.alloc (Fr.refl _ _) _
  have bW : W.heap[w1.heap.size]? = some (.cells #[.int .i64 16, .int .i64 0, .int .i64 0, .int .i64 0] 130 (0, 0)) := by rw [← hW]; exact Go.heap_alloc_new w1 _
  have HW := hid hW
  have k0 := cellFr fW (fun h => h) d0
  have k53 := cellFr fW (fun h => h) d53
  obtain ⟨nb, hnb⟩ : ∃ nb, w1.heap.size = nb := ⟨_, rfl⟩
  rw [hnb] at bW
  have HNB := hid hnb
  have FW := hid (F1.out.trans fW (fun _ _ h => h))
  have BW := hid bW
  have HFW := hid (HF.out.kept FW.out (fun _ _ h => h))
  have hSn : ¬ S nb := fun hs => by have := HF.out.lt nb hs; have := F1.out.size; omega
  have HSN := hid hSn
  have KI : Hid (∀ V, Fr (fun _ => False) W V → ∀ n, V.heap.size = n → Calls Tryd.prog 67 #[.pointer (some ⟨g, 0, none⟩), .slice (some ⟨n, 0, none⟩) 1 1] (V.alloc (.cells #[.int .i64 7] 3)) fun e w' => (∃ v, e = .returned v) ∧ Ft S W g T p (M.pns st [7]) w') := hid (fun V hf n hn => by
    refine (fwInts (HFW.out.kept (Fr.alloc hf (.cells #[.int .i64 7] 3)) (fun _ _ h => h)) (some ⟨n, 0, none⟩) 1 1 [7] (Is.newn V n hn [7] _ _ 1 rfl rfl) (fun _ j hj hs => by simp [blk] at hj; have := HFW.out.lt j hs; have := hf.size; omega) (by omega) (by simp)).mono ?_
    rintro e w' ⟨h1, h2⟩
    exact ⟨h1, Ft.pre (Fr.alloc hf _) h2⟩)
  clear hW fW bW d0 d53 hnb hSn
  go_upto_region 1 with fail
  rw [HW.out, HNB.out]
  clear HW
  go_region_held3 (fun w' => w'.cell? ⟨eb, 0, none⟩ = some (.int .i64 7)) (first | go_keep | exact s1)
    (first
      | (go_at_call 67; refine (KI.out W (Fr.refl _ W) _ rfl).mono ?_; rintro e w2 ⟨⟨v, rfl⟩, ht2⟩; have HT2 := hid ht2; have s1 : w2.cell? ⟨eb, 0, none⟩ = some (.int .i64 7) := cellFr ht2.2 HEB.out k0; have s53 := cellFr ht2.2 HEB.out k53; have B2 := hid (ht2.2.cells BW.out HSN.out); clear ht2)
      | (go_at_call 67; refine (KI.out W.drew (Fr.drew (Fr.refl _ W)) _ rfl).mono ?_; rintro e w2 ⟨⟨v, rfl⟩, ht2⟩; have HT2 := hid ht2; have s1 : w2.cell? ⟨eb, 0, none⟩ = some (.int .i64 7) := cellFr ht2.2 HEB.out k0; have s53 := cellFr ht2.2 HEB.out k53; have B2 := hid (ht2.2.cells BW.out HSN.out); clear ht2))
  have hne : ¬ Ny S W w2 eb ∧ ¬ Ny S W w2 nb := ⟨fun hs => by
      rcases hs.1 with h | h
      · exact HEB.out h
      · have := World.block_lt_of_cell? _ _ k0; simp only at this; omega, fun hs => by
      rcases hs.1 with h | h
      · exact HSN.out h
      · have := lt_of_row BW.out; omega⟩
  have KE := hid (fun lc => ewFields HT2.out.1 eb 3 s53 (by omega) hne.1 nb lc (Is.part B2.out 0 4 [16, 0, 0, 0] rfl rfl) hne.2)
  clear hne k0 k53 KI s1
  go_wp2_with (first | (go_at_call 75; refine (KE.out _).mono ?_; rintro e w3 ⟨⟨v, rfl⟩, ht3⟩; have HT3 := hid ht3; clear ht3))
  go_end0
  exact ⟨⟨_, rfl⟩, Ft.pre FW.out (HT2.out.trans HT3.out)⟩

end Go.Proofs.YtfkddpcadgidgaaDoor
