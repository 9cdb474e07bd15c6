/-
  Each law's first call: live.
-/
import Derived.Test.YtffjekhlloippaaYPut
namespace Go.Proofs.Ytffjekhlloippaa
open Go.RowKit Go.Maps
set_option linter.unusedVariables false
set_option linter.unusedSimpArgs false
set_option maxRecDepth 100000
namespace Y
theorem live1 : judge [] 7 1 = 1 := by decide
theorem live2 : put [] 7 1 (0, 0, 0, 24) = [(7, (1, (0, 0, 0, 24)))] := by decide
theorem live3 : judge [(7, (1, (0, 0, 0, 24)))] 7 1 = 2 := by decide
theorem live4 : said [(7, (1, (0, 0, 0, 24)))] 7 1 = (0, 0, 0, 24) := by decide
theorem live5 : said [] 7 1 = (0, 0, 0, 0) := by decide
end Y
set_option maxHeartbeats 3200000 in
theorem ylive_any (w : World) : Calls Try.prog 10 #[] w fun e w' => e = .returned (.bool true) ∧ Fr (fun _ => False) w w' := by
  have KN := hid (fun (W : World) => ynew_any W)
  go_enter Try.func10, Try.ntmps10
  go_wp2_with fail
  refine (KN.out _).mono ?_
  rintro e w1 ⟨rfl, hm1, hf1⟩
  have hs1 := hf1.size
  have hp1 := lt_of_row hm1.box
  generalize hp : w.heap.size + 1 = p at hm1 ⊢
  generalize hmb : w.heap.size = mb at hm1
  have KA := hid (yask_any hm1 (s := 7) (q := 1) (by decide))
  rw [Y.live1, Y.live5] at KA
  dsimp only
  have F1 := hid hf1
  have HM := hid hm1
  have HS := hid (show mb < w1.heap.size ∧ w.heap.size ≤ mb from ⟨hm1.map.lt, by omega⟩)
  clear hf1 hs1 hp1 hm1 hp hmb
  go_wp2_with fail
  refine KA.out.mono ?_
  rintro e w2 ⟨rfl, hf2⟩
  have F2 := hid hf2
  have HM2 := hid (HM.out.kept hf2 (fun h => h) (fun h => h))
  have HZ2 := hid hf2.size
  clear hf2 KA
  dsimp only
  have KP := hid (yput_any (HM2.out.kept (Fr.alloc (Fr.refl (fun _ => False) w2) (.cells #[.int .i64 0, .int .i64 0, .int .i64 0, .int .i64 0] 34)) (fun h => h) (fun h => h)) (s := 7) (q := 1) (by decide) (0, 0, 0, 24))
  rw [Y.live1, Y.live2] at KP
  go_wp2_with fail
  refine KP.out.mono ?_
  rintro e w3 ⟨rfl, hm3, hf3⟩
  have KA3 := hid (yask_any hm3 (s := 7) (q := 1) (by decide))
  rw [Y.live3, Y.live4] at KA3
  have F3 := hid (show Fr (fun _ => False) w w3 from (F1.out.trans F2.out (fun _ _ h => h)).trans ((Fr.alloc (Fr.refl (fun i => i = mb) w2) _).trans hf3 (fun _ _ h => h)) (fun i hi e => by have := HS.out.2; omega))
  have HM3 := hid hm3
  clear hm3 hf3 KP
  dsimp only
  go_wp2_with fail
  refine KA3.out.mono ?_
  rintro e w4 ⟨rfl, hf4⟩
  have F4 := hid (F3.out.trans hf4 (fun _ _ h => h))
  have HM4 := hid (HM3.out.kept hf4 (fun h => h) (fun h => h))
  clear hf4 KA3
  dsimp only
  go_wp2_with fail
  refine (ylen_any (HM4.out.kept (Fr.alloc (Fr.refl (fun _ => False) w4) _) (fun h => h) (fun h => h))).mono ?_
  rintro e w5 ⟨rfl, rfl⟩
  dsimp only
  go_wp2
  go_ret
  exact ⟨rfl, Fr.alloc F4.out _⟩
end Go.Proofs.Ytffjekhlloippaa
