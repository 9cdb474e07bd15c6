/-
  ckpt's laws begin with a checkpoint that is kept: begun.
-/
import Derived.Test.YtogdjhhabcejgaaCSave
import Derived.Test.YtogdjhhabcejgaaCPlain
namespace Go.Proofs.Ytogdjhhabcejgaa
open Go.RowKit Go.Maps
set_option linter.unusedVariables false

theorem C.enc_short (s : Int) (b : List UInt8) (h : C.chk s b.length = 0) : (C.enc s b).1.length ≤ b.length + 34 := by
  have hc := C.chk_ok h
  have hl := C.body_length h
  rw [C.enc_ok h]
  simp only
  rw [M.frame_length]
  have h1 := M.enc_ten (M.fd (C.body s b).length) (M.fd_lt _ (by omega) (by omega))
  have h2 : (C.body s b).length ≤ b.length + 20 := by
    unfold C.body
    rw [List.length_append]
    have := M.enc_ten (M.fd s) (M.fd_lt _ (by omega) (by omega))
    have := C.encB_length b (by omega)
    omega
  omega
/-- a disk with a checkpoint, or none, and nothing else -/
def C.dk (room : Int) (o : Option (List UInt8)) : K.DK := { K.mk room with fs := C.fsOf o }
theorem C.save5 : C.save (K.mk 1000) 5 [120] = (0, C.dk 1000 (some (C.enc 5 [120]).1)) := by
  have hk : C.chk 5 ([120] : List UInt8).length = 0 := C.chk_of (by omega) (by omega) (by simp)
  have hl := C.enc_short 5 [120] hk
  have hp := C.put_left (d := K.mk 1000) (o := none) rfl rfl (Int.le_refl _) (C.enc 5 [120]).1
  unfold C.save
  rw [if_neg (fun h => h hk)]
  generalize C.put (K.mk 1000) (C.enc 5 [120]).1 = R at hp ⊢
  cases hp with
  | full hf => exact absurd hf (by show ¬ ((1000 : Int) < ((0 : Nat) : Int) + _); simp at hl; omega)
  | fell g h0 => exact absurd rfl h0
  | done l _ _ hz =>
    have := hz rfl
    subst this
    rfl
theorem C.load5 : C.load (C.dk 1000 (some (C.enc 5 [120]).1)) = ((5, [120], 0), C.dk 1000 (some (C.enc 5 [120]).1)) := by
  rw [C.load_of (o := some (C.enc 5 [120]).1) rfl rfl]
  have : C.say (some (C.enc 5 [120]).1) = (5, [120], 0) := C.dec_enc (C.chk_of (by omega) (by omega) (by simp))
  rw [this]

set_option maxHeartbeats 3200000 in
set_option maxRecDepth 20000 in
theorem ckBegun_any (w : World) : Calls Try.prog 12 #[] w fun e w' => e = .returned (.bool true) ∧ Fr (fun _ => False) w w' := by
  have kc := fun (w : World) (C : Array Value) (n c : Nat) => Lib.run_convert_bytes_const (P := Try.prog) w 22 5 C n c Try.underlying22 Try.underlying5
  have KN := hid (new_any 1000 (by omega) (by omega) w)
  have KS := hid (fun (S : Nat → Prop) W p (hd : Dk S W p (K.mk 1000)) a c (hs : Sl W a 1 [120]) => save_any hd 5 (by omega) (by omega) a 1 c [120] hs (by show 0 + 524322 ≤ 200000000000000; omega))
  rw [C.save5] at KS
  simp only at KS
  have HS1 := hid (fun (W : World) (m : Nat × Nat) => show Sl (W.alloc (.cells #[.int .u8 120] 5 m)) (some ⟨W.heap.size, 0, none⟩) 1 [120] from sl_lit W [120] _ m)
  go_enter Try.func12, Try.ntmps12
  go_wp2_with (first
    | (go_at_call 14; refine KN.out.mono ?_; rintro e w1 ⟨rfl, ht1⟩; have HT1 := hid ht1; clear ht1)
    | (go_at_call 15; refine (KS.out _ _ _ (HT1.out.1.kept (Fr.alloc (Fr.refl (fun _ => False) _) _) (fun _ _ h => h)) _ _ (HS1.out w1 _)).mono ?_; rintro e w2 ⟨rfl, ht2⟩; have HT2 := hid (Td.trans HT1.out (Td.pre (Fr.alloc (Fr.refl (fun _ => False) _) _) ht2)); clear ht2)
    | (go_at_call 21; refine (load_any HT2.out.1).mono ?_; unfold Lr; rw [C.load5]; rintro e w4 ⟨w3, a3, c3, rfl, ht3, ho3, hf3⟩; have HO3 := hid ho3; have cv := krun_str w4 a3 1 c3 [120] ho3.sl; rw [show kstr [120] = ⟨#[120]⟩ from rfl] at cv; have F3 := hid ((Td.trans HT2.out ht3).2.trans hf3 (fun _ _ h => h)); clear ht3 ho3 hf3))
  go_ret
  exact ⟨rfl, F3.out⟩

end Go.Proofs.Ytogdjhhabcejgaa
