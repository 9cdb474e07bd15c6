/-
  The contracts of the document's Int and Bytes.
-/
import Derived.Test.YtfkddpcadgidgaaDoorInts
namespace Go.Proofs.YtfkddpcadgidgaaDoor
open Go.RowKit
set_option linter.unusedVariables false

set_option maxRecDepth 20000 in
set_option maxHeartbeats 400000 in
theorem refInt_any (n : Int) (w : World) (h1 : -9223372036854775808 ≤ n) (h2 : n ≤ 9223372036854775807) :
    Calls Tryd.prog 71 #[.int .i64 n] w fun e w' => ∃ a' c', e = .returned (.slice a' (M.enc (M.fd n)).length c') ∧ Ow w.heap.size w' a' c' (M.enc (M.fd n)) ∧ Fr (fun _ => False) w w' := by
  have hu := M.fd_lt n h1 h2
  have ht := M.enc_ten _ hu
  obtain ⟨u0, hu0⟩ : ∃ u, u = M.fd n := ⟨_, rfl⟩
  have hpos : ¬ n < 0 → n * 2 = (u0 : Int) := fun h => by rw [hu0]; exact M.fd_pos n h
  have hneg : n < 0 → -(n + 1) * 2 + 1 = (u0 : Int) := fun h => by rw [hu0]; unfold M.fd; rw [if_pos h]; omega
  rw [← hu0] at hu ht ⊢
  clear hu0
  by_cases hn : n < 0
  · have e0 := hneg hn
    clear hpos hneg
    go_enter Tryd.func71, Tryd.ntmps71
    go_wp2
    clear e0
    go_loopw [3, 4] (fun v t wr => ∃ (a1 : Option Addr) (c1 : Nat) (bs1 : List UInt8) (u : Nat), t = .slice a1 bs1.length c1 ∧ v = .int .u64 (u : Nat) ∧ u < 18446744073709551616 ∧ M.enc u0 = bs1 ++ M.enc u ∧ Grew w.heap.size w none wr a1 c1 bs1)
      (fun v _ _ => (intOf v).toNat)
    case atStart => exact ⟨none, 0, [], u0, rfl, rfl, hu, rfl, Grew.start (Ow.nil _ _)⟩
    case round =>
      obtain ⟨a1, c1, bs1, u, rfl, rfl, hu1, he, hg⟩ := hrel
      have hlen : (M.enc u0).length = bs1.length + (M.enc u).length := by rw [he]; simp
      have hpos := M.enc_pos u
      have hsz := hg.size
      have HG := hid (fun o => hg.alloc o)
      obtain ⟨l1, hl1⟩ : ∃ l1, bs1.length = l1 := ⟨_, rfl⟩
      have HL := hid hl1
      have hl1' : l1 ≤ 10 := by omega
      rw [hl1]
      have HE := hid he
      clear hl1 hlen he hg
      by_cases hlt : 128 ≤ u
      · have e1 : (u : Int) % 128 + 128 = ((UInt8.ofNat (u % 128 + 128)).toNat : Int) := by rw [M.byte_of _ (by omega)]; omega
        obtain ⟨x, hx⟩ : ∃ x, x = UInt8.ofNat (u % 128 + 128) := ⟨_, rfl⟩
        rw [← hx] at e1
        have HX := hid hx
        have E1 := hid e1
        clear hx e1
        go_wp2_with (at_builtin; refine wpList_append_b _ rfl (.tmp 18) (.tmp 23) rfl w.heap.size a1 l1 c1 bs1 rfl HL.out (HG.out _).1 (some ⟨wr.heap.size, 0, none⟩) 1 1 [x] rfl (Sl.one wr _ x _ E1.out) (by omega) (by simp; omega) ?_; intro a2 c2 w2 how hgb hat)
        have HG2 := hid ((HG.out _).step how hgb hat)
        clear how hgb hat HG
        go_wp2
        go_roundw
        case rel => exact ⟨a2, c2, bs1 ++ [x], u / 128, by simp [HL.out], by go_num, by omega, by rw [HE.out, M.enc_big u (by omega), HX.out]; simp, HG2.out⟩
        case measure => simp [intOf]; omega
      · obtain ⟨x, hx⟩ : ∃ x, x = UInt8.ofNat u := ⟨_, rfl⟩
        have e1 : (u : Int) = (x.toNat : Int) := by rw [hx, M.byte_of u (by omega)]
        have HX := hid hx
        have E1 := hid e1
        clear hx e1
        go_wp2_with (at_builtin; refine wpList_append_b _ rfl (.tmp 27) (.tmp 30) rfl w.heap.size a1 l1 c1 bs1 rfl HL.out (HG.out _).1 (some ⟨wr.heap.size, 0, none⟩) 1 1 [x] rfl (Sl.one wr _ x _ E1.out) (by omega) (by simp; omega) ?_; intro a2 c2 w2 how hgb hat)
        have HG2 := hid ((HG.out _).step how hgb hat)
        clear how hgb hat HG
        go_wp2
        go_ret
        have e : M.enc u0 = bs1 ++ [x] := by rw [HE.out, M.enc_small u (by omega), HX.out]
        refine ⟨a2, c2, ?_, ?_, HG2.out.2.1.mono (fun i _ h => by simp [blk] at h)⟩
        · rw [e, List.length_append, HL.out]; rfl
        · rw [e]; exact HG2.out.1
  · have e0 := hpos hn
    clear hpos hneg
    go_enter Tryd.func71, Tryd.ntmps71
    go_wp2
    clear e0
    go_loopw [3, 4] (fun v t wr => ∃ (a1 : Option Addr) (c1 : Nat) (bs1 : List UInt8) (u : Nat), t = .slice a1 bs1.length c1 ∧ v = .int .u64 (u : Nat) ∧ u < 18446744073709551616 ∧ M.enc u0 = bs1 ++ M.enc u ∧ Grew w.heap.size w none wr a1 c1 bs1)
      (fun v _ _ => (intOf v).toNat)
    case atStart => exact ⟨none, 0, [], u0, rfl, rfl, hu, rfl, Grew.start (Ow.nil _ _)⟩
    case round =>
      obtain ⟨a1, c1, bs1, u, rfl, rfl, hu1, he, hg⟩ := hrel
      have hlen : (M.enc u0).length = bs1.length + (M.enc u).length := by rw [he]; simp
      have hpos := M.enc_pos u
      have hsz := hg.size
      have HG := hid (fun o => hg.alloc o)
      obtain ⟨l1, hl1⟩ : ∃ l1, bs1.length = l1 := ⟨_, rfl⟩
      have HL := hid hl1
      have hl1' : l1 ≤ 10 := by omega
      rw [hl1]
      have HE := hid he
      clear hl1 hlen he hg
      by_cases hlt : 128 ≤ u
      · have e1 : (u : Int) % 128 + 128 = ((UInt8.ofNat (u % 128 + 128)).toNat : Int) := by rw [M.byte_of _ (by omega)]; omega
        obtain ⟨x, hx⟩ : ∃ x, x = UInt8.ofNat (u % 128 + 128) := ⟨_, rfl⟩
        rw [← hx] at e1
        have HX := hid hx
        have E1 := hid e1
        clear hx e1
        go_wp2_with (at_builtin; refine wpList_append_b _ rfl (.tmp 18) (.tmp 23) rfl w.heap.size a1 l1 c1 bs1 rfl HL.out (HG.out _).1 (some ⟨wr.heap.size, 0, none⟩) 1 1 [x] rfl (Sl.one wr _ x _ E1.out) (by omega) (by simp; omega) ?_; intro a2 c2 w2 how hgb hat)
        have HG2 := hid ((HG.out _).step how hgb hat)
        clear how hgb hat HG
        go_wp2
        go_roundw
        case rel => exact ⟨a2, c2, bs1 ++ [x], u / 128, by simp [HL.out], by go_num, by omega, by rw [HE.out, M.enc_big u (by omega), HX.out]; simp, HG2.out⟩
        case measure => simp [intOf]; omega
      · obtain ⟨x, hx⟩ : ∃ x, x = UInt8.ofNat u := ⟨_, rfl⟩
        have e1 : (u : Int) = (x.toNat : Int) := by rw [hx, M.byte_of u (by omega)]
        have HX := hid hx
        have E1 := hid e1
        clear hx e1
        go_wp2_with (at_builtin; refine wpList_append_b _ rfl (.tmp 27) (.tmp 30) rfl w.heap.size a1 l1 c1 bs1 rfl HL.out (HG.out _).1 (some ⟨wr.heap.size, 0, none⟩) 1 1 [x] rfl (Sl.one wr _ x _ E1.out) (by omega) (by simp; omega) ?_; intro a2 c2 w2 how hgb hat)
        have HG2 := hid ((HG.out _).step how hgb hat)
        clear how hgb hat HG
        go_wp2
        go_ret
        have e : M.enc u0 = bs1 ++ [x] := by rw [HE.out, M.enc_small u (by omega), HX.out]
        refine ⟨a2, c2, ?_, ?_, HG2.out.2.1.mono (fun i _ h => by simp [blk] at h)⟩
        · rw [e, List.length_append, HL.out]; rfl
        · rw [e]; exact HG2.out.1

theorem refBytes_any (a : Option Addr) (len c : Nat) (bs : List UInt8) (w : World) (h : Sl w a len bs) (hb : len ≤ 150000000000000) :
    Calls Tryd.prog 72 #[.slice a len c] w fun e w' => ∃ a' c', e = .returned (.slice a' ((M.enc (M.fd len)).length + len) c') ∧ Ow w.heap.size w' a' c' (M.enc (M.fd len) ++ bs) ∧ Fr (fun _ => False) w w' := by
  have K := hid (refInt_any len w (by omega) (by omega))
  have ht := M.enc_ten _ (M.fd_lt len (by omega) (by omega))
  obtain ⟨en, hen⟩ : ∃ en, en = M.enc (M.fd len) := ⟨_, rfl⟩
  rw [← hen] at K ht ⊢
  obtain ⟨el, hel⟩ : ∃ el, en.length = el := ⟨_, rfl⟩
  rw [hel] at K ht ⊢
  have HEL := hid hel
  clear hen hel
  go_enter Tryd.func72, Tryd.ntmps72
  go_wp2_with (first
    | (go_at_call 71; refine K.out.mono ?_; rintro e w1 ⟨a1, c1, rfl, ho, hf⟩; have HO := hid ho; have HF := hid hf; have hs := h.kept hf (fun _ _ _ h => h); have hsz := hf.size; clear ho hf)
    | (at_builtin; refine wpList_append_b _ rfl (.tmp 5) (.tmp 6) rfl w.heap.size a1 el c1 en rfl HEL.out HO.out a len c bs rfl hs (by omega) hsz ?_; intro a2 c2 w2 how hgb hat; have HOW := hid how; have HF2 := hid (HF.out.trans (Fr.of_grown hgb) (fun i hi e => by have := (HO.out.lt i e).1; omega)); clear how hgb hat))
  go_ret
  exact ⟨a2, c2, rfl, HOW.out, HF2.out⟩
end Go.Proofs.YtfkddpcadgidgaaDoor
