/-
  ckpt's laws begin with a checkpoint that is kept: begun.
  The contract of Names' iterator, over whatever the names are of.
-/
import Derived.Test.YtogdjhhabcejgaaGreatCSaveQ
import Derived.Test.YtogdjhhabcejgaaGreatCPlain
import Derived.Test.YtogdjhhabcejgaaGreatMg20
namespace Go.Proofs.YtogdjhhabcejgaaGreat
open Go.RowKit Go.Maps
set_option linter.unusedVariables false

theorem C.enc_short (s : Int) (b : List UInt8) (h : C.chk s b.length = 0) : (C.enc s b).1.length ≤ b.length + 34 := by
  have hc := C.chk_ok h
  have hl := C.body_length h
  rw [C.enc_ok h]
  simp only
  rw [M.frame_length]
  have h1 := M.enc_ten (M.fd (C.body s b).length) (M.fd_lt _ (by omega) (by omega))
  have h2 : (C.body s b).length ≤ b.length + 20 := by
    unfold C.body
    rw [List.length_append]
    have := M.enc_ten (M.fd s) (M.fd_lt _ (by omega) (by omega))
    have := C.encB_length b (by omega)
    omega
  omega
/-- a disk with a checkpoint, or none, and nothing else -/
def C.dk (room : Int) (o : Option (List UInt8)) : K.DK := { K.mk room with fs := C.fsOf o }
theorem C.save5 : C.save (K.mk 1000) 5 [120] = (0, C.dk 1000 (some (C.enc 5 [120]).1)) := by
  have hk : C.chk 5 ([120] : List UInt8).length = 0 := C.chk_of (by omega) (by omega) (by simp)
  have hl := C.enc_short 5 [120] hk
  have hp := C.put_left (d := K.mk 1000) (o := none) rfl rfl (Int.le_refl _) (C.enc 5 [120]).1
  unfold C.save
  rw [if_neg (fun h => h hk)]
  generalize C.put (K.mk 1000) (C.enc 5 [120]).1 = R at hp ⊢
  cases hp with
  | full hf => exact absurd hf (by show ¬ ((1000 : Int) < ((0 : Nat) : Int) + _); simp at hl; omega)
  | fell g h0 => exact absurd rfl h0
  | done l _ _ hz =>
    have := hz rfl
    subst this
    rfl
theorem C.load5 : C.load (C.dk 1000 (some (C.enc 5 [120]).1)) = ((5, [120], 0), C.dk 1000 (some (C.enc 5 [120]).1)) := by
  rw [C.load_of (o := some (C.enc 5 [120]).1) rfl rfl]
  have : C.say (some (C.enc 5 [120]).1) = (5, [120], 0) := C.dec_enc (C.chk_of (by omega) (by omega) (by simp))
  rw [this]

set_option maxHeartbeats 3200000 in
set_option maxRecDepth 20000 in
theorem ckBegun_any (w : World) : Calls Tryz.prog 6 #[] w fun e w' => e = .returned (.bool true) ∧ Fr (fun _ => False) w w' := by
  have kc := fun (w : World) (C : Array Value) (n c : Nat) => Lib.run_convert_bytes_const (P := Tryz.prog) w 31 5 C n c Tryz.underlying31 Tryz.underlying5
  have KN := hid (new_any 1000 (by omega) (by omega) w)
  have KS := hid (fun (S : Nat → Prop) W p (hd : Dk S W p (K.mk 1000)) a c (hs : Sl W a 1 [120]) => save_any hd 5 (by omega) (by omega) a 1 c [120] hs (by show 0 + 524322 ≤ 200000000000000; omega))
  rw [C.save5] at KS
  simp only at KS
  have HS1 := hid (fun (W : World) (m : Nat × Nat) => show Sl (W.alloc (.cells #[.int .u8 120] 5 m)) (some ⟨W.heap.size, 0, none⟩) 1 [120] from sl_lit W [120] _ m)
  go_enter Tryz.func6, Tryz.ntmps6
  go_wp2_with (first
    | (go_at_call 4; refine KN.out.mono ?_; rintro e w1 ⟨rfl, ht1⟩; have HT1 := hid ht1; clear ht1)
    | (go_at_call 14; refine (KS.out _ _ _ (HT1.out.1.kept (Fr.alloc (Fr.refl (fun _ => False) _) _) (fun _ _ h => h)) _ _ (HS1.out w1 _)).mono ?_; rintro e w2 ⟨rfl, ht2⟩; have HT2 := hid (Td.trans HT1.out (Td.pre (Fr.alloc (Fr.refl (fun _ => False) _) _) ht2)); clear ht2)
    | (go_at_call 15; refine (load_any HT2.out.1).mono ?_; unfold Lr; rw [C.load5]; rintro e w4 ⟨w3, a3, c3, rfl, ht3, ho3, hf3⟩; have HO3 := hid ho3; have cv := krun_str w4 a3 1 c3 [120] ho3.sl; rw [show kstr [120] = ⟨#[120]⟩ from rfl] at cv; have F3 := hid ((Td.trans HT2.out ht3).2.trans hf3 (fun _ _ h => h)); clear ht3 ho3 hf3))
  go_ret
  exact ⟨rfl, F3.out⟩

end Go.Proofs.YtogdjhhabcejgaaGreat

namespace Go.Proofs.YtogdjhhabcejgaaGreat
open Go.RowKit Go.Maps Go.Shelf
set_option linter.unusedVariables false
attribute [local go_sem] Oper.semAt_some

set_option maxRecDepth 100000 in
set_option maxHeartbeats 2000000 in
theorem names1g_in {α : Type} (nm : α → K.Nm) (F : Fence) (n : Nat) (hF : F.fn 30) (hro : F.round = none) (hn : 1 ≤ n) (l B cap : Nat) (a : Option Addr) (zs : List α) (hss : zs.length ≤ 1024) (J Jx : List α → World → Prop)
    (hY : ∀ pre x W, J pre W → pre.length < zs.length → YieldAt F (n - 1) Tryz.prog l #[encStr (nm x)] W fun e W' =>
      (e = .returned (.bool true) ∧ J (pre ++ [x]) W' ∧ Kq (Nk B a (zs.map nm)) W W') ∨ (e = .returned (.bool false) ∧ Jx (pre ++ [x]) W'))
    (W : World) (hB : W.cell? ⟨B, 0, none⟩ = some (.slice a zs.length cap)) (hN : Ns W a (zs.map nm)) (h0 : J [] W) :
    CallsIn F n Tryz.prog 30 #[.func (.yield l) #[] #[], .pointer (some ⟨B, 0, none⟩)] W fun e W' => (∃ v, e = .returned v) ∧
      ((∃ ys, ys = zs ∧ J ys W') ∨ (∃ pre, pre <+: zs ∧ Jx pre W')) := by
  obtain ⟨len, hlen⟩ : ∃ len, zs.length = len := ⟨_, rfl⟩
  have HL := hid hlen
  have HY := hid hY
  have HN := hid hN
  rw [hlen] at hB hss
  clear hlen hY hN
  refine callsIn_of_wp Tryz.func30 rfl hF ?_ hro
  simp only [Tryz.ntmps30, List.size_toArray, List.length_cons, List.length_nil, Nat.reduceAdd, Nat.reduceSub, Array.replicate_succ, Array.replicate_zero, List.push_toArray, List.append_toArray, List.nil_append, List.cons_append]
  gi_wp2
  gi_loopw [7] (fun i wr => ∃ k : Nat, k ≤ len ∧ i = .int .i64 k ∧ J (zs.take k) wr ∧ Kq (Nk B a (zs.map nm)) W wr)
    (fun i _ => len - (intOf i).toNat)
  case atStart => exact ⟨0, Nat.zero_le _, rfl, h0, Kq.refl _ _⟩
  case round =>
    obtain ⟨k, hk, rfl, hJs, hnx⟩ := hrel
    have HX := hid hnx
    clear hnx
    by_cases hlt : k < len
    · obtain ⟨x, hx⟩ : ∃ x, zs[k]? = some x := ⟨_, List.getElem?_eq_getElem (by rw [HL.out]; exact hlt)⟩
      have hx2 : (zs.map nm)[k]? = some (nm x) := by rw [List.getElem?_map, hx]; rfl
      have hne : zs.map nm ≠ [] := fun e => by rw [e] at hx2; simp at hx2
      obtain ⟨b, rfl, hcs⟩ := HN.out.resolve_left hne
      have hcx : wr.cell? ⟨b, k, none⟩ = some (encStr (nm x)) := by
        rw [World.cell?_of_block (w := W) (w' := wr) (HX.out b (.inr ⟨hne, rfl⟩))]
        exact hcs k _ hx2
      obtain ⟨fn, tmps, assign, body, hy, hR⟩ := HY.out _ x wr hJs (by rw [List.length_take, HL.out]; omega)
      have ht : zs.take k ++ [x] = zs.take (k + 1) := by rw [List.take_add_one, hx]; rfl
      have HT := hid ht
      clear hx hx2 hne hcs ht
      gi_wp2
      refine hR.mono ?_
      rintro e W3 (⟨rfl, hJ3, hk3⟩ | ⟨rfl, hJx3⟩)
      · gi_wp2
        go_roundw
        case rel => exact ⟨k + 1, by omega, by simp, by rw [← HT.out]; exact hJ3, HX.out.trans hk3⟩
        case measure => simp [intOf]; omega
      · gi_wp2
        refine bodyPost_ret (results_none rfl _ _ _) rfl ?_
        exact ⟨⟨_, rfl⟩, .inr ⟨_, by rw [HT.out]; exact List.take_prefix _ _, hJx3⟩⟩
    · obtain rfl : k = len := by omega
      gi_wp2
      go_end0
      exact ⟨⟨_, rfl⟩, .inl ⟨_, List.take_of_length_le (by rw [HL.out]; exact Nat.le_refl _), hJs⟩⟩

theorem names1g_stops {α : Type} (nm : α → K.Nm) (F : Fence) (n : Nat) (hF : F.fn 30) (hro : F.round = none) (hn : 1 ≤ n) (B cap : Nat) (a : Option Addr) (zs : List α) (hss : zs.length ≤ 1024) (w : World)
    (hB : w.cell? ⟨B, 0, none⟩ = some (.slice a zs.length cap)) (hN : Ns w a (zs.map nm)) :
    SeqStopsK F n Tryz.prog 30 #[.pointer (some ⟨B, 0, none⟩)] (fun x : α => #[encStr (nm x)]) (Kq (Nk B a (zs.map nm))) (fun ys => ys = zs) (fun pre => pre <+: zs) zs.length w := fun l J Jx W hW _ _ hY h0 => by
  have hbl := World.block_lt_of_cell? w _ hB
  have hB' : W.cell? ⟨B, 0, none⟩ = some (.slice a zs.length cap) := by
    rw [World.cell?_of_block (w := w) (w' := W) (hW.block B hbl)]; exact hB
  have hN' : Ns W a (zs.map nm) := by
    rcases hN with h | ⟨b, rfl, hc⟩
    · exact .inl h
    · refine .inr ⟨b, rfl, fun j x hx => ?_⟩
      have h1 := hc j x hx
      rw [World.cell?_of_block (w := w) (w' := W) (hW.block b (World.block_lt_of_cell? w _ h1))]; exact h1
  exact names1g_in nm F n hF hro hn l B cap a zs hss J Jx hY W hB' hN' h0

end Go.Proofs.YtogdjhhabcejgaaGreat
