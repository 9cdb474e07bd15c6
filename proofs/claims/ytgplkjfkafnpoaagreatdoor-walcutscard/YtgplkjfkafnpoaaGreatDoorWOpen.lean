/-
  The contract of Open, on a disk without files.
-/
import Derived.Test.YtgplkjfkafnpoaaGreatDoorWAsk
import Derived.Test.YtgplkjfkafnpoaaGreatDoorKSorted
import Derived.Test.YtgplkjfkafnpoaaGreatDoorKIt
import Derived.RangeFuncWrites
namespace Go.Proofs.YtgplkjfkafnpoaaGreatDoor
open Go.RowKit
set_option linter.unusedVariables false

set_option maxHeartbeats 1600000 in
theorem lfind_none {S : Nat → Prop} {w : World} {p q : Nat} {d : K.DK} (h : Dk S w p d) (hfs : d.fs = []) (c0 : w.cell? ⟨q, 0, none⟩ = some (.pointer (some ⟨p, 0, none⟩))) :
    Calls Tryz.prog 48 #[.pointer (some ⟨q, 0, none⟩)] w fun e w' => (∃ v, e = .returned v) ∧ Fr (fun _ => False) w w' := by
  have HNm := hid (fun W (hW : Fr (fun _ => False) w W) => names_any (h.kept hW (fun _ _ h => h)))
  have hnm : K.names d = [] := by unfold K.names; rw [hfs]; rfl
  have HNL := hid hnm
  have hql := World.block_lt_of_cell? w _ c0
  simp only at hql
  clear h hfs hnm
  refine (callsIn_wide (n := 8)).1 ?_
  refine callsIn_of_wp_marks Tryz.func48 rfl trivial ?_ rfl
  simp only [Tryz.ntmps48, List.size_toArray, List.length_cons, List.length_nil, Nat.reduceAdd, Nat.reduceSub, Array.replicate_succ, Array.replicate_zero, List.push_toArray, List.append_toArray, List.nil_append, List.cons_append]
  refine wpIn_wide.2 ?_
  go_wp2_with fail
  refine (HNm.out _ (Fr.alloc (Fr.refl _ _) _)).mono ?_
  rintro e wn ⟨B, a, cap, rfl, hB, hNs, hNk, hfn⟩
  rw [HNL.out] at hB hNs hNk
  have fn : Fr (fun _ => False) w wn := (Fr.alloc (Fr.refl _ _) _).trans hfn (fun _ _ h => h)
  have FN := hid fn
  clear hfn hNk fn
  go_wp2_with fail
  refine (wpIn_wide (n := 8)).1 ?_
  refine wpIn_rangeFunc_ownH (w := wn) rfl (by omega) (gf := 78) (lb := #[.pointer (some ⟨B, 0, none⟩)]) rfl trivial (enters_of Tryz.func78 (by kernel_rfl) rfl)
    (names1g_stops (fun x : Empty => x.elim) Fence.wide _ trivial rfl (by omega) B cap a [] (by simp) wn hB hNs) (fun h k => h.trans k)
    (fun W l o o' hl hW _ _ k hk => World.putObj_heap_other (fun e => by
      rcases hk with rfl | ⟨h, _⟩
      · have := World.block_lt_of_cell? _ _ hB; simp only at this; omega
      · exact h rfl))
    (Below.refl _ _) (fun _ => rfl) (fun _ W => Fr (fun _ => False) wn W) (fun _ _ _ => False) (fun _ A B row hs hg hr => hs.trans (Fr.of_grown hg) (fun i hi e => by have := (hr i e).1; omega)) (fun _ _ _ _ _ hs _ _ => hs) (Fr.refl _ _) (fun _ _ _ => True) (fun _ _ _ _ _ _ _ _ _ => trivial) ?_ ?_ ?_ ?_
  · intro l pre x
    exact x.elim
  · intro l pre x a' W _ _ _ _ hlt
    exact absurd hlt (by simp)
  rotate_left
  · intro D c pre W _ _ h _
    exact h.elim
  intro D1 ys W1 hD1 _ hf hK1
  have HD := hid hD1
  have HF := hid hf
  have HK := hid hK1
  clear hf hB hNs hD1 hK1
  refine ⟨by simp, .inl ⟨_, _, rfl, run_takeDeferred HK.out, ?_⟩⟩
  have f2 : Fr (fun k => k = D1) W1 (W1.putObj D1 (.deferred none)) := (Fr.of_grown (grownBy_putObj' _ D1 _)).mono (fun i _ e => by simp at e; exact e.symm)
  have hsz := FN.out.size
  have f3 : Fr (fun _ => False) w (W1.putObj D1 (.deferred none)) := (FN.out.trans HF.out (fun _ _ h => h)).trans f2 (fun i hi e => by have := HD.out; omega)
  refine ⟨.tuple #[], ?_, ⟨_, rfl⟩, f3⟩
  simp [results, Tryz.f48, go_sem]

theorem lload_none (w : World) (q : Nat) (sa : Option Addr) (sc : Nat) (c2 : w.cell? ⟨q, 2, none⟩ = some (.slice sa 0 sc)) :
    Calls Tryz.prog 49 #[.pointer (some ⟨q, 0, none⟩)] w fun e w' => e = .returned (.int .i64 0) ∧ w = w' := by
  go_enter Tryz.func49, Tryz.ntmps49
  go_wp2
  go_loopw [14] (fun i wr => i = .int .i64 0 ∧ w = wr) (fun _ _ => 0)
  case atStart => exact ⟨rfl, rfl⟩
  case round =>
    obtain ⟨rfl, rfl⟩ := hrel
    go_wp2
    go_ret
    exact ⟨rfl, rfl⟩
theorem lsettle_none (w : World) (q : Nat) (sa : Option Addr) (sc : Nat) (c2 : w.cell? ⟨q, 2, none⟩ = some (.slice sa 0 sc)) :
    Calls Tryz.prog 50 #[.pointer (some ⟨q, 0, none⟩)] w fun e w' => e = .returned (.int .i64 0) ∧ w = w' := by
  go_enter Tryz.func50, Tryz.ntmps50
  go_wp2
  go_loopw [14] (fun i wr => i = .int .i64 0 ∧ w = wr) (fun _ _ => 0)
  case atStart => exact ⟨rfl, rfl⟩
  case round =>
    obtain ⟨rfl, rfl⟩ := hrel
    go_wp2
    go_ret
    exact ⟨rfl, rfl⟩
/-- a log that holds nothing -/
def W.empty (nm : List UInt8) : W.LG := ⟨nm, [], 0, 0, false, false⟩

set_option maxHeartbeats 1600000 in
/-- Open of a disk without files that is up: an empty log -/
theorem open_empty {S : Nat → Prop} {w : World} {p : Nat} {d : K.DK} (h : Dk S w p d) (hfs : d.fs = []) (hd : d.down = false) (s : ByteArray) (hz : s.size ≤ maxLen) (hn : W.isNm s.data.toList = true) :
    Calls Tryz.prog 16 #[.pointer (some ⟨p, 0, none⟩), .string s] w fun e w' => ∃ q, w.heap.size ≤ q ∧ e = .returned (.tuple #[.pointer (some ⟨q, 0, none⟩), .int .i64 0]) ∧ LD (Nx S w w') w' p q d (W.empty s.data.toList) ∧ Fr (fun _ => False) w w' := by
  have H := hid h
  have HI := hid (isName_any s hz w)
  rw [hn] at HI
  have hfd : K.fnd d s.data.toList = 4 := by
    have := W.isNm_iff.1 hn
    unfold K.fnd
    rw [if_neg (by rw [K.rdy_of hd (by omega) (by omega)]; simp), if_pos (by rw [hfs]; rfl)]
  have KS0 : Calls Tryz.prog 47 #[.pointer (some ⟨p, 0, none⟩), .string s] w fun e w' => e = .returned (.tuple #[.int .i64 0, .int .i64 0, .int .i64 4]) ∧ Fr (fun _ => False) w w' :=
    (size_any h s hz).mono (fun e w' ⟨hsz, hf⟩ => ⟨(by
      rcases hsz with ⟨_, he⟩ | ⟨he, _⟩
      · rw [hfd] at he; exact he
      · rw [hfd] at he; exact absurd he (by decide)), hf⟩)
  have KS := hid KS0
  have HN := hid hn
  have HFS := hid hfs
  clear KS0 h hfs hd hfd hn
  go_enter Tryz.func16, Tryz.ntmps16
  go_wp2_with (first
    | (go_at_call 46; refine HI.out.mono ?_; rintro e w' ⟨rfl, rfl⟩)
    | (go_at_call 47; refine KS.out.mono ?_; rintro e w1 ⟨rfl, hf1⟩; have F1 := hid hf1; clear hf1))
  obtain ⟨q, hq⟩ : ∃ q, q = w1.heap.size := ⟨_, rfl⟩
  obtain ⟨w2, hw2⟩ : ∃ w2, w2 = w1.alloc (.cells #[.pointer (some ⟨p, 0, none⟩), .string s, .slice none 0 0, .int .i64 0, .int .i64 0, .bool false, .bool false] 61) := ⟨_, rfl⟩
  rw [← hw2, ← hq]
  have b2 : w2.heap[q]? = some (.cells #[.pointer (some ⟨p, 0, none⟩), .string s, .slice none 0 0, .int .i64 0, .int .i64 0, .bool false, .bool false] 61 (0, 0)) := by rw [hw2, hq]; exact Go.heap_alloc_new w1 _
  have f2 : Fr (fun _ => False) w w2 := by rw [hw2]; exact Fr.alloc F1.out _
  have F2 := hid f2
  have HQ := hid (show w.heap.size ≤ q from by rw [hq]; exact F1.out.size)
  have B2 := hid b2
  have KF := hid (lfind_none (q := q) (H.out.kept f2 (fun _ _ h => h)) HFS.out (cell_of (j := 0) b2 rfl))
  clear hw2 hq f2 b2
  refine KF.out.mono ?_
  rintro e w3 ⟨⟨v, rfl⟩, hf3⟩
  have b3 := hf3.cells B2.out (fun h => h)
  have c2 := cell_of (j := 2) b3 rfl
  have c3 := cell_of (j := 3) b3 rfl
  have c4 := cell_of (j := 4) b3 rfl
  have z4 := frozen_of_row (j := 4) b3
  have F3 := hid (F2.out.trans hf3 (fun _ _ h => h))
  have B3 := hid b3
  clear hf3 b3
  go_wp2_with (first
    | (go_at_call 49; refine (lload_none _ q none 0 c2).mono ?_; rintro e w' ⟨rfl, rfl⟩)
    | (go_at_call 50; refine (lsettle_none _ q none 0 c2).mono ?_; rintro e w' ⟨rfl, rfl⟩))
  go_ret2
  have hql : q < w3.heap.size := lt_of_row B3.out
  have fq : Fr (fun k => k = q) w3 (w3.setCell ⟨q, 4, none⟩ (.int .i64 0)) := Fr.setCell (p := ⟨q, 4, none⟩) (S := fun k => k = q) (Fr.refl _ _) (fun _ => rfl) _
  have ff : Fr (fun _ => False) w (w3.setCell ⟨q, 4, none⟩ (.int .i64 0)) := F3.out.trans fq (fun i hi e => by have := HQ.out; omega)
  have hnm := W.isNm_iff.1 HN.out
  refine ⟨q, HQ.out, rfl, ⟨Nx.lt, S, fun k => k = q, fun k hk => Nx.of H.out.1 ff.size k hk, fun k hk => ?_, fun k hk e => ?_, (H.out.kept F3.out (fun _ _ h => h)).kept fq (fun k hk e => ?_), ⟨fun k hk => ?_, ⟨HN.out, Int.le_refl _, (by decide : (0 : Int) ≤ 1000000000000), by simp [W.empty], by simp [W.empty]⟩, fun k => if k = q then some .log else none, none, 0, [], fun k hk => ?_, ?_⟩⟩, ff⟩
  · subst hk; exact ⟨.inr HQ.out, by rw [setCell_size]; exact hql⟩
  · have := H.out.1 k hk; have := HQ.out; omega
  · have := H.out.1 k hk; have := HQ.out; omega
  · subst hk; rw [setCell_size]; exact hql
  · simp only at hk
    split at hk
    · assumption
    · exact absurd rfl hk
  · refine ⟨?_, Ro.nil _ _ _, if_pos rfl, by simp [blk], by simp, rfl, fun k hk => ?_⟩
    · rw [setCell_row B3.out]
      have he : encStr s.data.toList = .string s := by unfold encStr; simp
      simp only [W.empty]
      rw [he]
      rfl
    · split at hk
      · subst k; rw [setCell_size]; exact hql
      · exact absurd rfl hk

end Go.Proofs.YtgplkjfkafnpoaaGreatDoor
