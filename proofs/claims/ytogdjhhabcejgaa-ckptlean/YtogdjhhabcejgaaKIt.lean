/-
  The contract of Names' iterator, over whatever the names are of.
-/
import Derived.Test.YtogdjhhabcejgaaKNames
namespace Go.Proofs.Ytogdjhhabcejgaa
open Go.RowKit Go.Maps Go.Shelf
set_option linter.unusedVariables false
attribute [local go_sem] Oper.semAt_some

set_option maxRecDepth 100000 in
set_option maxHeartbeats 2000000 in
theorem names1g_in {α : Type} (nm : α → K.Nm) (F : Fence) (n : Nat) (hF : F.fn 46) (hro : F.round = none) (hn : 1 ≤ n) (l B cap : Nat) (a : Option Addr) (zs : List α) (hss : zs.length ≤ 1024) (J Jx : List α → World → Prop)
    (hY : ∀ pre x W, J pre W → pre.length < zs.length → YieldAt F (n - 1) Try.prog l #[encStr (nm x)] W fun e W' =>
      (e = .returned (.bool true) ∧ J (pre ++ [x]) W' ∧ Kq (Nk B a (zs.map nm)) W W') ∨ (e = .returned (.bool false) ∧ Jx (pre ++ [x]) W'))
    (W : World) (hB : W.cell? ⟨B, 0, none⟩ = some (.slice a zs.length cap)) (hN : Ns W a (zs.map nm)) (h0 : J [] W) :
    CallsIn F n Try.prog 46 #[.func (.yield l) #[] #[], .pointer (some ⟨B, 0, none⟩)] W fun e W' => (∃ v, e = .returned v) ∧
      ((∃ ys, ys = zs ∧ J ys W') ∨ (∃ pre, pre <+: zs ∧ Jx pre W')) := by
  obtain ⟨len, hlen⟩ : ∃ len, zs.length = len := ⟨_, rfl⟩
  have HL := hid hlen
  have HY := hid hY
  have HN := hid hN
  rw [hlen] at hB hss
  clear hlen hY hN
  refine callsIn_of_wp Try.func46 rfl hF ?_ hro
  simp only [Try.ntmps46, List.size_toArray, List.length_cons, List.length_nil, Nat.reduceAdd, Nat.reduceSub, Array.replicate_succ, Array.replicate_zero, List.push_toArray, List.append_toArray, List.nil_append, List.cons_append]
  gi_wp2
  gi_loopw [7] (fun i wr => ∃ k : Nat, k ≤ len ∧ i = .int .i64 k ∧ J (zs.take k) wr ∧ Kq (Nk B a (zs.map nm)) W wr)
    (fun i _ => len - (intOf i).toNat)
  case atStart => exact ⟨0, Nat.zero_le _, rfl, h0, Kq.refl _ _⟩
  case round =>
    obtain ⟨k, hk, rfl, hJs, hnx⟩ := hrel
    have HX := hid hnx
    clear hnx
    by_cases hlt : k < len
    · obtain ⟨x, hx⟩ : ∃ x, zs[k]? = some x := ⟨_, List.getElem?_eq_getElem (by rw [HL.out]; exact hlt)⟩
      have hx2 : (zs.map nm)[k]? = some (nm x) := by rw [List.getElem?_map, hx]; rfl
      have hne : zs.map nm ≠ [] := fun e => by rw [e] at hx2; simp at hx2
      obtain ⟨b, rfl, hcs⟩ := HN.out.resolve_left hne
      have hcx : wr.cell? ⟨b, k, none⟩ = some (encStr (nm x)) := by
        rw [World.cell?_of_block (w := W) (w' := wr) (HX.out b (.inr ⟨hne, rfl⟩))]
        exact hcs k _ hx2
      obtain ⟨fn, tmps, assign, body, hy, hR⟩ := HY.out _ x wr hJs (by rw [List.length_take, HL.out]; omega)
      have ht : zs.take k ++ [x] = zs.take (k + 1) := by rw [List.take_add_one, hx]; rfl
      have HT := hid ht
      clear hx hx2 hne hcs ht
      gi_wp2
      refine hR.mono ?_
      rintro e W3 (⟨rfl, hJ3, hk3⟩ | ⟨rfl, hJx3⟩)
      · gi_wp2
        go_roundw
        case rel => exact ⟨k + 1, by omega, by simp, by rw [← HT.out]; exact hJ3, HX.out.trans hk3⟩
        case measure => simp [intOf]; omega
      · gi_wp2
        refine bodyPost_ret (results_none rfl _ _ _) rfl ?_
        exact ⟨⟨_, rfl⟩, .inr ⟨_, by rw [HT.out]; exact List.take_prefix _ _, hJx3⟩⟩
    · obtain rfl : k = len := by omega
      gi_wp2
      go_end0
      exact ⟨⟨_, rfl⟩, .inl ⟨_, List.take_of_length_le (by rw [HL.out]; exact Nat.le_refl _), hJs⟩⟩

theorem names1g_stops {α : Type} (nm : α → K.Nm) (F : Fence) (n : Nat) (hF : F.fn 46) (hro : F.round = none) (hn : 1 ≤ n) (B cap : Nat) (a : Option Addr) (zs : List α) (hss : zs.length ≤ 1024) (w : World)
    (hB : w.cell? ⟨B, 0, none⟩ = some (.slice a zs.length cap)) (hN : Ns w a (zs.map nm)) :
    SeqStopsK F n Try.prog 46 #[.pointer (some ⟨B, 0, none⟩)] (fun x : α => #[encStr (nm x)]) (Kq (Nk B a (zs.map nm))) (fun ys => ys = zs) (fun pre => pre <+: zs) zs.length w := fun l J Jx W hW _ _ hY h0 => by
  have hbl := World.block_lt_of_cell? w _ hB
  have hB' : W.cell? ⟨B, 0, none⟩ = some (.slice a zs.length cap) := by
    rw [World.cell?_of_block (w := w) (w' := W) (hW.block B hbl)]; exact hB
  have hN' : Ns W a (zs.map nm) := by
    rcases hN with h | ⟨b, rfl, hc⟩
    · exact .inl h
    · refine .inr ⟨b, rfl, fun j x hx => ?_⟩
      have h1 := hc j x hx
      rw [World.cell?_of_block (w := w) (w' := W) (hW.block b (World.block_lt_of_cell? w _ h1))]; exact h1
  exact names1g_in nm F n hF hro hn l B cap a zs hss J Jx hY W hB' hN' h0

end Go.Proofs.Ytogdjhhabcejgaa
