/-
  The contract of a log: put.
-/
import Derived.Test.YtgplkjfkafnpoaaGreatDoorWApp
namespace Go.Proofs.YtgplkjfkafnpoaaGreatDoor
open Go.RowKit
set_option linter.unusedVariables false
namespace K
theorem syn_room (d : DK) (n : Nm) : (syn d n).2.room = d.room := by
  unfold syn
  split
  · rfl
  · split
    · exact burn_room d
    · exact burn_room d
theorem app_room (d : DK) (n : Nm) (b : List UInt8) : (app d n b).2.room = d.room := by
  unfold app
  split
  · rfl
  · split
    · rfl
    · split
      · rfl
      · exact burn_room _
end K
namespace W
theorem clean_room (d : K.DK) (L : LG) : (clean d L).2.1.room = d.room := by
  unfold clean
  split
  · split
    · split <;> exact K.syn_room _ _
    · rfl
  · rfl
theorem place_facts (d : K.DK) (L : LG) : (place d L).2.2.2.segs = L.segs ∧ (place d L).2.2.2.nm = L.nm ∧ (place d L).2.2.2.next = L.next ∧ (place d L).2.2.2.synced = L.synced ∧ (place d L).2.2.2.spoilt = L.spoilt ∧ (place d L).2.2.1.room = d.room ∧ ((place d L).1 = 0 → (place d L).2.1 = false → ∃ s, L.segs.getLast? = some s) := by
  have hc := clean_segs d L
  have hr := clean_room d L
  unfold place
  split
  · exact ⟨rfl, rfl, rfl, rfl, rfl, rfl, fun _ h => by simp at h⟩
  · rename_i s hs
    split
    · split
      · exact ⟨rfl, rfl, rfl, rfl, rfl, rfl, fun _ _ => ⟨s, hs⟩⟩
      · split
        · exact ⟨rfl, rfl, rfl, rfl, rfl, rfl, fun _ _ => ⟨s, hs⟩⟩
        · exact ⟨hc.1, hc.2.1, hc.2.2.1, hc.2.2.2.1, hc.2.2.2.2, hr, fun _ _ => ⟨s, hs⟩⟩
    · exact ⟨rfl, rfl, rfl, rfl, rfl, rfl, fun _ _ => ⟨s, hs⟩⟩
theorem more_length (l : List SG) (b : List UInt8) : (more l b).length = l.length := by
  induction l with
  | nil => rfl
  | cons x r ih =>
    cases r with
    | nil => rfl
    | cons y t => show (x :: more (y :: t) b).length = _; rw [List.length_cons, ih]; rfl
theorem more_firsts (l : List SG) (b : List UInt8) : (more l b).map (·.first) = l.map (·.first) := by
  induction l with
  | nil => rfl
  | cons x r ih =>
    cases r with
    | nil => rfl
    | cons y t => show (x :: more (y :: t) b).map (·.first) = _; rw [List.map_cons, ih]; rfl
theorem ok_add {L : LG} (h : Ok L) (new : Bool) (b : List UInt8) (hn : L.next ≤ 999999999999) (hs : new = false → L.segs ≠ []) : Ok (L.add new b) := by
  refine ⟨h.nm, by have := h.n0; show 0 ≤ L.next + 1; omega, by show L.next + 1 ≤ 1000000000000; omega, fun s hm => ?_, fun _ => ?_⟩
  · cases new with
    | true =>
      rcases List.mem_append.1 hm with hm | hm
      · exact h.fs s hm
      · simp at hm; subst hm; exact ⟨h.n0, hn⟩
    | false =>
      have : s.first ∈ (more L.segs b).map (·.first) := List.mem_map.2 ⟨s, hm, rfl⟩
      rw [more_firsts] at this
      obtain ⟨t, ht, e⟩ := List.mem_map.1 this
      rw [← e]
      exact h.fs t ht
  · cases new with
    | true => simp [LG.add]
    | false =>
      intro e
      have h1 : more L.segs b = [] := e
      have := more_length L.segs b
      rw [h1] at this
      exact hs rfl (List.eq_nil_of_length_eq_zero this.symm)
end W
theorem M.frame_len_le (bs : List UInt8) (h : bs.length ≤ 1048576) : (M.frame bs).length ≤ bs.length + 14 := by
  have := M.enc_ten (M.fd bs.length) (M.fd_lt _ (by omega) (by omega))
  unfold M.frame
  rw [List.length_append, List.length_append, M.le4_length]
  omega
/-- what put is told -/
structure PutPre (S : Nat → Prop) (w : World) (p q : Nat) (d : K.DK) (L : W.LG) (a : Option Addr) (len : Nat) (bs : List UInt8) : Prop where
  ld : LD S w p q d L
  tv : Tv w
  hG : ¬ S 0
  room : d.room ≤ K.cap
  sl : Sl w a len bs
  ap : 0 < len → ∀ k, blk a = some k → ¬ S k
  len : len ≤ 65536
  next : L.next ≤ 999999999999
  few : ∀ s ∈ L.segs, s.recs.length ≤ 100000000
  segs : L.segs.length ≤ 100000000

set_option maxHeartbeats 1600000 in
set_option maxRecDepth 20000 in
theorem put_err {S : Nat → Prop} {w : World} {p q : Nat} {d : K.DK} {L : W.LG} {a : Option Addr} {len : Nat} {bs : List UInt8} (h : PutPre S w p q d L a len bs) (c : Nat) (he : (W.place d L).1 ≠ 0) :
    Calls Tryz.prog 63 #[.pointer (some ⟨q, 0, none⟩), .slice a len c] w fun e w' => e = .returned (.int .i64 (W.put d L bs).1) ∧ LT S w p q (W.put d L bs).2.1 (W.put d L bs).2.2 w' := by
  have HF := hid (frame_ok a len c bs w h.sl (by have := h.len; omega))
  have KP := hid (fun W (hW : Fr (fun _ => False) w W) => place_any (h.ld.kept hW (fun _ _ h => h)) (h.tv.kept hW (fun h => h)) h.hG)
  have E := hid (show W.put d L bs = ((W.place d L).1, (W.place d L).2.2.1, (W.place d L).2.2.2) from by unfold W.put; rw [if_pos he])
  obtain ⟨R, hR⟩ : ∃ R, W.place d L = R := ⟨_, rfl⟩
  rw [hR] at KP E he
  have hb : (R.1 == 0) = false := by simpa using he
  obtain ⟨fl, hfl⟩ : ∃ fl, (M.frame bs).length = fl := ⟨_, rfl⟩
  rw [hfl] at HF
  clear h hR he hfl
  go_enter Tryz.func63, Tryz.ntmps63
  go_wp2_with (first
    | (go_at_call 107; refine HF.out.mono ?_; rintro e w1 ⟨fa, fc, rfl, how, hf1⟩; have F1 := hid hf1; clear how hf1)
    | (go_at_call 108; refine (KP.out _ F1.out).mono ?_; rintro e w2 ⟨⟨v, rfl, hv⟩, ht2⟩; have HT2 := hid (ht2.pre F1.out); clear ht2 hv))
  go_ret
  rw [E.out]
  exact ⟨rfl, HT2.out⟩

end Go.Proofs.YtgplkjfkafnpoaaGreatDoor
