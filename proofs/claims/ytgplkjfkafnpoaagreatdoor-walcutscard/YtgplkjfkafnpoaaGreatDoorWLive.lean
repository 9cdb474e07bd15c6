/-
  The law's 'live'.
-/
import Derived.Test.YtgplkjfkafnpoaaGreatDoorWOpen
import Derived.Test.YtgplkjfkafnpoaaGreatDoorWInv
namespace Go.Proofs.YtgplkjfkafnpoaaGreatDoor
open Go.RowKit
set_option linter.unusedVariables false
namespace K
theorem burn_h {d : DK} (hl : d.left = 0) : burn d = (0, d) := by unfold burn; rw [if_pos hl]
theorem app_h {d : DK} {n : Nm} {b : List UInt8} (hd : d.down = false) (hl : d.left = 0) (h1 : 0 < n.length) (h2 : n.length ≤ 64) (h3 : d.fs.length < 1024) (h4 : (d.used : Int) + b.length ≤ d.room) : app d n b = (0, { d with fs := put n (add (get n d.fs) b) d.fs }) := by
  rw [app_ok (rdy_of hd h1 h2) (fun h => by omega) (by omega)]
  exact burn_h hl
theorem fnd_h {d : DK} {n : Nm} {f : F} (hd : d.down = false) (h1 : 0 < n.length) (h2 : n.length ≤ 64) (hg : get n d.fs = some f) : fnd d n = 0 := by
  unfold fnd
  rw [if_neg (by rw [rdy_of hd h1 h2]; simp), if_neg (by rw [hg]; simp)]
theorem syn_h {d : DK} {n : Nm} {f : F} (hd : d.down = false) (hl : d.left = 0) (h1 : 0 < n.length) (h2 : n.length ≤ 64) (hg : get n d.fs = some f) : syn d n = (0, { d with fs := put n ⟨f.all, []⟩ d.fs }) := by
  unfold syn
  rw [if_neg (by rw [fnd_h hd h1 h2 hg]; simp), burn_h hl]
  simp [hg]
end K
namespace W
def log : List UInt8 := [108, 111, 103]
theorem log_nm : isNm log = true := by decide
theorem seg_log (f : Int) (h0 : 0 ≤ f) (h1 : f ≤ 999999999999) : (seg log f).length = 16 := by
  unfold seg
  rw [if_pos ⟨log_nm, h0, h1⟩, List.length_append, List.length_cons, dig_len h0 h1]
  rfl
theorem seg_12 : seg log 12 = [108, 111, 103, 46, 48, 48, 48, 48, 48, 48, 48, 48, 48, 48, 49, 50] := by
  have h : Lib.itoa 12 = [49, 50] := by
    unfold Lib.itoa
    rw [if_neg (by omega), Lib.decDigits_two (by decide) (by decide)]
    decide
  unfold seg
  rw [if_pos ⟨log_nm, by omega, by omega⟩]
  unfold dig
  rw [h]
  rfl
theorem live_app : ∃ d2 L2, app (K.mk 1000) (empty log) [[97], [98]] = (0, d2, L2) ∧ L2.next = 2 ∧ L2.synced = 0 ∧ ∃ d3 L3, sync d2 L2 = (0, d3, L3) ∧ L3.synced = 2 := by
  obtain ⟨n0, hn0⟩ : ∃ n0, seg log 0 = n0 := ⟨_, rfl⟩
  have hl : n0.length = 16 := by rw [← hn0]; exact seg_log 0 (by omega) (by omega)
  obtain ⟨f1, hf1⟩ : ∃ f1, M.frame [97] = f1 := ⟨_, rfl⟩
  obtain ⟨f2, hf2⟩ : ∃ f2, M.frame [98] = f2 := ⟨_, rfl⟩
  have l1 : f1.length ≤ 15 := by rw [← hf1]; exact M.frame_len_le [97] (by decide)
  have l2 : f2.length ≤ 15 := by rw [← hf2]; exact M.frame_len_le [98] (by decide)
  have p1 : put (K.mk 1000) (empty log) [97] = (0, { K.mk 1000 with fs := [(n0, ⟨[], f1⟩)] }, ⟨log, [⟨0, [[97]]⟩], 1, 0, true, false⟩) := by
    have e1 : place (K.mk 1000) (empty log) = (0, true, K.mk 1000, empty log) := rfl
    unfold put
    rw [e1]
    simp only [ne_eq, not_true_eq_false, if_false]
    have e2 : (empty log).file ((empty log).at_ true) = n0 := hn0
    rw [e2, hf1, K.app_h (d := K.mk 1000) rfl rfl (by omega) (by omega) (by decide) (by have : (K.mk 1000).used = 0 := rfl; have : (K.mk 1000).room = 1000 := rfl; omega)]
    rfl
  have p2 : put { K.mk 1000 with fs := [(n0, ⟨[], f1⟩)] } ⟨log, [⟨0, [[97]]⟩], 1, 0, true, false⟩ [98] = (0, { K.mk 1000 with fs := [(n0, ⟨[], f1 ++ f2⟩)] }, ⟨log, [⟨0, [[97], [98]]⟩], 2, 0, true, false⟩) := by
    have hg : K.get n0 [(n0, (⟨[], f1⟩ : K.F))] = some ⟨[], f1⟩ := by simp [K.get]
    have e0 : (⟨log, [⟨0, [[97]]⟩], 1, 0, true, false⟩ : LG).file 0 = n0 := hn0
    have e1 : place { K.mk 1000 with fs := [(n0, ⟨[], f1⟩)] } ⟨log, [⟨0, [[97]]⟩], 1, 0, true, false⟩ = (0, false, { K.mk 1000 with fs := [(n0, ⟨[], f1⟩)] }, ⟨log, [⟨0, [[97]]⟩], 1, 0, true, false⟩) := by
      unfold place
      simp only [List.getLast?_singleton]
      rw [e0, hg]
      simp only
      rw [if_neg (by rw [K.fnd_h (d := { K.mk 1000 with fs := [(n0, ⟨[], f1⟩)] }) rfl (by omega) (by omega) hg]; simp), if_pos (by simp [K.F.len]; omega)]
    unfold put
    rw [e1]
    simp only [ne_eq, not_true_eq_false, if_false]
    have e2 : (⟨log, [⟨0, [[97]]⟩], 1, 0, true, false⟩ : LG).at_ false = 0 := rfl
    rw [e2, e0, hf2, K.app_h (d := { K.mk 1000 with fs := [(n0, ⟨[], f1⟩)] }) rfl rfl (by omega) (by omega) (by simp) (by simp [K.DK.used, K.tot, K.F.len, K.mk]; omega)]
    simp only [hg, K.add]
    have hp : K.put n0 (⟨[], f1 ++ f2⟩ : K.F) [(n0, ⟨[], f1⟩)] = [(n0, ⟨[], f1 ++ f2⟩)] := by
      simp [K.put, K.del, K.ins]
    rw [hp]
    rfl
  refine ⟨{ K.mk 1000 with fs := [(n0, ⟨[], f1 ++ f2⟩)] }, ⟨log, [⟨0, [[97], [98]]⟩], 2, 0, true, false⟩, ?_, rfl, rfl, { K.mk 1000 with fs := K.put n0 ⟨f1 ++ f2, []⟩ [(n0, ⟨[], f1 ++ f2⟩)] }, ⟨log, [⟨0, [[97], [98]]⟩], 2, 2, false, false⟩, ?_, rfl⟩
  · have e1 : app (K.mk 1000) (empty log) [[97], [98]] = puts (K.mk 1000) (empty log) [[97], [98]] := by
      unfold app
      rw [if_neg (by decide), if_neg (by decide), if_neg (by simp [empty]; rw [IntKind.wrap_i64, IntKind.wrap_i64]; omega)]
    rw [e1]
    unfold puts
    rw [p1]
    simp only [ne_eq, not_true_eq_false, if_false]
    unfold puts
    rw [p2]
    simp only [ne_eq, not_true_eq_false, if_false]
    rfl
  · have hg : K.get n0 [(n0, (⟨[], f1 ++ f2⟩ : K.F))] = some ⟨[], f1 ++ f2⟩ := by simp [K.get]
    have e0 : (⟨log, [⟨0, [[97], [98]]⟩], 2, 0, true, false⟩ : LG).file 0 = n0 := hn0
    have e1 : clean { K.mk 1000 with fs := [(n0, ⟨[], f1 ++ f2⟩)] } ⟨log, [⟨0, [[97], [98]]⟩], 2, 0, true, false⟩ = (0, { K.mk 1000 with fs := K.put n0 ⟨f1 ++ f2, []⟩ [(n0, ⟨[], f1 ++ f2⟩)] }, ⟨log, [⟨0, [[97], [98]]⟩], 2, 0, false, false⟩) := by
      unfold clean
      simp only [List.getLast?_singleton, if_true]
      rw [e0, K.syn_h (d := { K.mk 1000 with fs := [(n0, ⟨[], f1 ++ f2⟩)] }) rfl rfl (by omega) (by omega) hg]
      simp [K.F.all]
    unfold sync
    rw [e1]
    simp
end W

/-- two records that the law hands in -/
theorem rq_two (w : World) (t1 t2 t3 : TypeId) (m1 m2 : Nat × Nat) (x y : UInt8) : Rq (fun k => w.heap.size ≤ k ∧ k < w.heap.size + 3) (((w.alloc (.cells #[.int .u8 (x.toNat : Int)] t1 m1)).alloc (.cells #[.int .u8 (y.toNat : Int)] t2 m2)).alloc (.cells #[.slice (some ⟨w.heap.size, 0, none⟩) 1 1, .slice (some ⟨w.heap.size + 1, 0, none⟩) 1 1] t3)) (some ⟨w.heap.size + 1 + 1, 0, none⟩) 2 [[x], [y]] := by
  have h0 : (((w.alloc (.cells #[.int .u8 (x.toNat : Int)] t1 m1)).alloc (.cells #[.int .u8 (y.toNat : Int)] t2 m2)).alloc (.cells #[.slice (some ⟨w.heap.size, 0, none⟩) 1 1, .slice (some ⟨w.heap.size + 1, 0, none⟩) 1 1] t3)).heap[w.heap.size]? = some (.cells #[.int .u8 (x.toNat : Int)] t1 m1) := by
    rw [Below.heap_alloc _ _ _ (by simp; omega), Below.heap_alloc _ _ _ (by simp)]
    exact Go.heap_alloc_new w _
  have h1 : (((w.alloc (.cells #[.int .u8 (x.toNat : Int)] t1 m1)).alloc (.cells #[.int .u8 (y.toNat : Int)] t2 m2)).alloc (.cells #[.slice (some ⟨w.heap.size, 0, none⟩) 1 1, .slice (some ⟨w.heap.size + 1, 0, none⟩) 1 1] t3)).heap[w.heap.size + 1]? = some (.cells #[.int .u8 (y.toNat : Int)] t2 m2) := by
    rw [Below.heap_alloc _ _ _ (by simp)]
    have := Go.heap_alloc_new (w.alloc (.cells #[.int .u8 (x.toNat : Int)] t1 m1)) (.cells #[.int .u8 (y.toNat : Int)] t2 m2)
    rw [World.size_alloc] at this
    exact this
  have h2 : (((w.alloc (.cells #[.int .u8 (x.toNat : Int)] t1 m1)).alloc (.cells #[.int .u8 (y.toNat : Int)] t2 m2)).alloc (.cells #[.slice (some ⟨w.heap.size, 0, none⟩) 1 1, .slice (some ⟨w.heap.size + 1, 0, none⟩) 1 1] t3)).heap[w.heap.size + 1 + 1]? = some (.cells #[.slice (some ⟨w.heap.size, 0, none⟩) 1 1, .slice (some ⟨w.heap.size + 1, 0, none⟩) 1 1] t3 (0, 0)) := by
    have := Go.heap_alloc_new ((w.alloc (.cells #[.int .u8 (x.toNat : Int)] t1 m1)).alloc (.cells #[.int .u8 (y.toNat : Int)] t2 m2)) (.cells #[.slice (some ⟨w.heap.size, 0, none⟩) 1 1, .slice (some ⟨w.heap.size + 1, 0, none⟩) 1 1] t3)
    rw [World.size_alloc, World.size_alloc] at this
    exact this
  generalize (((w.alloc (.cells #[.int .u8 (x.toNat : Int)] t1 m1)).alloc (.cells #[.int .u8 (y.toNat : Int)] t2 m2)).alloc (.cells #[.slice (some ⟨w.heap.size, 0, none⟩) 1 1, .slice (some ⟨w.heap.size + 1, 0, none⟩) 1 1] t3)) = W at h0 h1 h2 ⊢
  refine ⟨rfl, .inr ⟨_, _, rfl, ⟨by omega, by omega⟩, fun k bs hk => ?_⟩⟩
  have one : ∀ (b : Nat) (z : UInt8) (t : TypeId) (m : Nat × Nat), W.heap[b]? = some (.cells #[.int .u8 (z.toNat : Int)] t m) → Sl W (some ⟨b, 0, none⟩) 1 [z] := fun b z t m hb => ⟨rfl, .inr ⟨_, _, rfl, fun j v hj => by
    match j, hj with
    | 0, hj => simp at hj; subst hj; exact cell_of hb rfl⟩⟩
  match k, hk with
  | 0, hk => simp at hk; subst hk; exact ⟨_, _, cell_of h2 rfl, one _ _ _ _ h0, by simp, fun _ j hj => by simp [blk] at hj; omega⟩
  | 1, hk => simp at hk; subst hk; exact ⟨_, _, cell_of h2 rfl, one _ _ _ _ h1, by simp, fun _ j hj => by simp [blk] at hj; omega⟩

theorem convert_const2 (w : World) (D : Obj) (C : Array Value) (n c : Nat) :
    (convert 50 50 (.slice (some ⟨w.heap.size + 1, 0, none⟩) n c)).run Tryz.prog ((w.alloc D).alloc (.cells C 5)) = .ok (.slice (some ⟨w.heap.size + 1, 0, none⟩) n c) ((w.alloc D).alloc (.cells C 5 (C.size, C.size + 1))) := by
  have h := Lib.run_convert_bytes_const (P := Tryz.prog) (w.alloc D) 50 5 C n c Tryz.underlying50 Tryz.underlying5
  have e : (w.alloc D).heap.size = w.heap.size + 1 := by simp
  rw [e] at h
  exact h

set_option maxHeartbeats 1600000 in
set_option maxRecDepth 20000 in
theorem live_any (w : World) (T : Tv w) : Calls Tryz.prog 9 #[] w fun e w' => e = .returned (.bool true) ∧ Fr (fun _ => False) w w' := by
  obtain ⟨d2, L2, ha, h2, h3, d3, L3, hs, h4⟩ := W.live_app
  have hlg : (⟨#[108, 111, 103]⟩ : ByteArray).data.toList = W.log := rfl
  have KN := hid (new_any 1000 (by omega) (by omega) w)
  have KO := hid (fun (S : Nat → Prop) (wo : World) p (h : Dk S wo p (K.mk 1000)) => open_empty h rfl rfl ⟨#[108, 111, 103]⟩ (by unfold maxLen; decide) W.log_nm)
  rw [hlg] at KO
  have HT := hid T
  have HA := hid (And.intro ha (And.intro h2 (And.intro h3 (And.intro hs h4))))
  clear ha h2 h3 hs h4 hlg T
  have kd := fun (w : World) (D : Obj) (C : Array Value) (n c : Nat) => convert_const2 w D C n c
  have kc := fun (w : World) (C : Array Value) (n c : Nat) => Lib.run_convert_bytes_const (P := Tryz.prog) w 50 5 C n c Tryz.underlying50 Tryz.underlying5
  go_enter Tryz.func9, Tryz.ntmps9
  go_wp2_with (first
    | (go_at_call 14; refine KN.out.mono ?_; rintro e w1 ⟨rfl, ht1⟩; have HT1 := hid ht1; clear ht1)
    | (go_at_call 16; refine (KO.out _ _ _ HT1.out.1).mono ?_; rintro e w2 ⟨q, hq, rfl, hld, hf2⟩; have HLD := hid hld; have F2 := hid (HT1.out.2.trans hf2 (fun _ _ h => h)); clear hld hf2 hq))
  obtain ⟨w3, hw3⟩ : ∃ w3, w3 = (((w2.alloc (.cells #[.int .u8 97] 5 (1, 2))).alloc (.cells #[.int .u8 98] 5 (1, 2))).alloc (.cells #[.slice (some ⟨w2.heap.size, 0, none⟩) 1 1, .slice (some ⟨w2.heap.size + 1, 0, none⟩) 1 1] 50)) := ⟨_, rfl⟩
  rw [← hw3]
  have hrq : Rq (fun k => w2.heap.size ≤ k ∧ k < w2.heap.size + 3) w3 (some ⟨w2.heap.size + 1 + 1, 0, none⟩) 2 [[97], [98]] := by rw [hw3]; exact rq_two w2 _ _ _ (1, 2) (1, 2) 97 98
  have f23 : Fr (fun _ => False) w2 w3 := by rw [hw3]; exact Fr.alloc (Fr.alloc (Fr.alloc (Fr.refl _ _) _) _) _
  have hsz3 : w3.heap.size = w2.heap.size + 3 := by rw [hw3]; simp
  have hs12 := HT1.out.2.size
  have hld3 : LD (fun k => w.heap.size ≤ k ∧ k < w2.heap.size) w3 (w.heap.size + 1) q (K.mk 1000) (W.empty W.log) := (HLD.out.kept f23 (fun _ _ h => h)).mono (fun k hk => ⟨by
    rcases hk.1 with h | h
    · exact h.1.resolve_left (fun h => h)
    · omega, hk.2⟩) (fun k hk => by omega)
  have hf3 : Fr (fun _ => False) w w3 := F2.out.trans f23 (fun _ _ h => h)
  have hT3 := HT.out.kept hf3 (fun h => h)
  have hG : ¬ (w.heap.size ≤ 0 ∧ 0 < w2.heap.size) := fun h => by have := HT.out.lt; omega
  have KA := hid (wappend_any (⟨hld3, hT3, hG, by decide, hrq, fun k hk => ⟨fun h => by omega, by omega⟩, by omega, W.inv_empty (by omega) (by omega) W.log_nm _ rfl rfl rfl, fun _ _ _ hI h0 h1 _ => hI.put h0 h1, fun _ _ hI => hI.few, fun _ _ hI => .inr hI.low⟩ : AppPre W.Inv _ _ w3 _ q _ _ _ 2 [[97], [98]]) 2)
  rw [HA.out.1] at KA
  have F3 := hid hf3
  have HT3 := hid hT3
  have HG := hid hG
  clear hw3 hrq f23 hsz3 hs12 hld3 hf3 hT3 hG
  refine KA.out.mono ?_
  rintro e w4 ⟨rfl, ht4⟩
  have hT4 := HT3.out.kept ht4.2 HG.out
  have hG4 : ¬ Nx (fun k => w.heap.size ≤ k ∧ k < w2.heap.size) w3 w4 0 := fun e => by
    rcases e.1 with e | e
    · exact HG.out e
    · have := HT3.out.lt; omega
  have F4 := hid (F3.out.trans ht4.2 (fun i hi e => by omega))
  have KX := hid (lnext_any ht4.1)
  have KY := hid (lsynced_any ht4.1)
  have KS := hid (wsync_any ht4.1 hT4 hG4)
  rw [HA.out.2.1] at KX
  rw [HA.out.2.2.1] at KY
  rw [HA.out.2.2.2.1] at KS
  have HT4 := hid hT4
  have HG4 := hid hG4
  have F3s := hid F3.out.size
  clear ht4 hT4 hG4
  go_wp2_with (first
    | (go_at_call 26; refine KX.out.mono ?_; rintro e w' ⟨rfl, rfl⟩)
    | (go_at_call 27; refine KZ.out.mono ?_; rintro e w' ⟨rfl, rfl⟩)
    | (go_at_call 27; refine KY.out.mono ?_; rintro e w' ⟨rfl, rfl⟩)
    | (go_at_call 23; refine KS.out.mono ?_; rintro e w5 ⟨rfl, ht5⟩; have KZ := hid (lsynced_any ht5.1); rw [HA.out.2.2.2.2] at KZ; have F5 := hid (show Fr (fun _ => False) w w5 from F4.out.trans ht5.2 (fun i hi e => by have h1 := F3s.out; rcases e.1 with e | e <;> omega)); have KG := hid (segment_any ⟨#[108, 111, 103]⟩ (by unfold maxLen; decide) 12 (by omega) (by omega) w5 (HT4.out.kept ht5.2 HG4.out)); rw [show (⟨#[108, 111, 103]⟩ : ByteArray).data.toList = W.log from rfl, W.seg_12] at KG; clear ht5)
    | (go_at_call 18; refine KG.out.mono ?_; rintro e w6 ⟨rfl, hf6⟩; have F6 := hid (F5.out.trans hf6 (fun _ _ h => h)); clear hf6))
  go_ret
  exact ⟨rfl, F6.out⟩

end Go.Proofs.YtgplkjfkafnpoaaGreatDoor
