/-
  The law's 'state': what Load answers of a copy of a disk that is started again where it is down.
-/
import Derived.Test.YtogdjhhabcejgaaCBegun
import Derived.Test.YtogdjhhabcejgaaKClone
namespace Go.Proofs.Ytogdjhhabcejgaa
open Go.RowKit Go.Maps
set_option linter.unusedVariables false

set_option maxHeartbeats 1600000 in
theorem state_any {S : Nat → Prop} {w : World} {p : Nat} {d : K.DK} (h : Dk S w p d) :
    Calls Try.prog 16 #[.pointer (some ⟨p, 0, none⟩)] w fun e w' => ∃ a c, e = .returned (.tuple #[.int .i64 (C.st d).1, .slice a (C.st d).2.1.length c, .int .i64 (C.st d).2.2]) ∧ Ow w.heap.size w' a c (C.st d).2.1 ∧ Fr (fun _ => False) w w' := by
  have KC := hid (dclone_any h)
  have KS := hid (fun (S' : Nat → Prop) W q (hd : Dk S' W q d) => restart_any hd)
  have KL := hid (fun (S' : Nat → Prop) W q (hd : Dk S' W q (K.restart d).2) => load_any hd)
  unfold Lr at KL
  have hst : C.st d = (C.load (K.restart d).2).1 := rfl
  rw [← hst] at KL
  clear hst h
  generalize C.st d = R at KL ⊢
  generalize K.restart d = Q at KS KL
  obtain ⟨r1, dr⟩ := Q
  obtain ⟨t1, b1, e1⟩ := R
  simp only at KS KL ⊢
  go_enter Try.func16, Try.ntmps16
  go_wp2_with (first
    | (go_at_call 41; refine KC.out.mono ?_; rintro e w1 ⟨q, rfl, ht1⟩; have HT1 := hid ht1; clear ht1)
    | (go_at_call 42; refine (KS.out _ w1 q HT1.out.1).mono ?_; rintro e w2 ⟨rfl, ht2⟩; have HT2 := hid (Td.trans HT1.out ht2); clear ht2)
    | (go_at_call 21; refine (KL.out _ w2 q HT2.out.1).mono ?_; rintro e w4 ⟨w3, a4, c4, rfl, ht3, ho4, hf4⟩; have HO4 := hid (ho4.base (base' := w.heap.size) (fun k hk => by have h1 := (ho4.lt k hk).1; have h2 := (Td.trans HT2.out ht3).2.size; omega)); have F4 := hid ((Td.trans HT2.out ht3).2.trans hf4 (fun _ _ h => h)); clear ht3 ho4 hf4))
  go_ret3
  exact ⟨a4, c4, rfl, HO4.out, F4.out⟩

end Go.Proofs.Ytogdjhhabcejgaa
