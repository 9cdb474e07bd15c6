/-
  Tree's laws begin with a node that comes under the root: begun.
-/
import Derived.Test.YtenengkeckanmaaGreatTDo1Q
import Derived.Test.YtenengkeckanmaaGreatTNewQ
namespace Go.Proofs.YtenengkeckanmaaGreat
open Go.RowKit Go.Maps
set_option linter.unusedVariables false
set_option maxRecDepth 100000
set_option linter.unusedSimpArgs false

def T.op5 : S.Op := ⟨0, 0, 1, 5, 1, ⟨#[97]⟩, ⟨#[]⟩, ⟨#[]⟩⟩
theorem T.kids_zero (n : Int) (s : ByteArray) : T.kids T.zero n s = [] := by simp [T.kids, T.zero]
theorem T.up_zero : A.Up T.zero := by simp [A.Up, T.zero]
theorem T.may5 : T.may1 T.zero T.op5 = true := by
  have h : T.nam T.op5.a = true := by simp [T.nam, T.txt, T.slash, T.op5, ByteArray.toList_eq, ByteArray.size]
  simp [T.may1, h]
  decide
theorem T.look5 : T.lookup (A.put 5 ⟨1, ⟨#[97]⟩, []⟩ T.zero) 1 ⟨#[97]⟩ = some 5 := by decide
theorem T.len5 : (A.put 5 ⟨1, ⟨#[97]⟩, []⟩ T.zero : T.Tr).length = 3 := by decide
set_option maxHeartbeats 1600000 in
theorem tbegun_any (w : World) : Calls Tryz.prog 11 #[] w fun e w' => e = .returned (.bool true) ∧ Fr (fun _ => False) w w' := by
  have KN := hid tnew_any
  have KD := hid (show ∀ (c : Nat → Option T.Col) (V : World) (p : Nat), Tm c V 0 p 0 0 T.zero → Lo c V.heap.size → Calls Tryz.prog 22 #[ptr p, .agg T.op5.cs] V fun e w' => Fr (fun i => c i ≠ none) V w' ∧ ∃ d c' mb' f', e = .returned (.tuple #[.agg #[ptr d], .bool true]) ∧ Tf c' w' 2 p 1 1 (A.put 5 ⟨1, ⟨#[97]⟩, []⟩ T.zero) mb' f' from fun c V p ⟨mb, f, hT⟩ hl =>
    (do1_any hT hl (by decide) (by decide) (by decide) T.up_zero (by decide) T.op5 (by unfold S.Op.in64 T.op5; decide) rfl T.may5 (T.kids_zero _)).mono (fun e w' ⟨h1, d, v, c', f', h2, h3, h4, h5, h6⟩ => ⟨h1, d, c', mb, f', h2, h5⟩))
  go_enter Tryz.func11, Tryz.ntmps11
  go_wp2_with (first
    | (go_at_call 9; refine (KN.out _).mono ?_; rintro e w1 ⟨p, c, rfl, hT, f1, hlo⟩; have HT := hid hT; have F1 := hid f1; have HLO := hid hlo; clear hT f1 hlo))
  have LO := hid (show Lo c w1.heap.size from fun i hi => (HLO.out i hi).2)
  refine (KD.out c w1 p HT.out LO.out).mono ?_
  rintro e w2 ⟨fx, d, c', mb, f, rfl, hT⟩
  have F2 := hid (F1.out.trans fx (fun i hi e => absurd (HLO.out i e).1 (by omega)))
  have hT := hT.kept (Fr.alloc (Fr.refl (fun _ => False) w2) (.cells #[ptr d] 53)) (fun _ _ h => h)
  have KL := hid (lookup_any hT (n := 1) (by decide) (s := ⟨#[97]⟩) (by decide))
  rw [T.look5] at KL
  have KS := hid (tlen_any hT)
  rw [T.len5] at KS
  clear fx hT
  dsimp only
  go_wp2_with (first
    | (go_at_call 31; refine KL.out.mono ?_; rintro e wx ⟨rfl, rfl⟩)
    | (go_at_call 13; refine KS.out.mono ?_; rintro e wx ⟨rfl, rfl⟩))
  go_ret
  exact ⟨rfl, Fr.alloc F2.out _⟩
end Go.Proofs.YtenengkeckanmaaGreat
