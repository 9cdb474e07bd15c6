/-
  The contracts of a log: Sync, Next, Synced, Segments, First.
-/
import Derived.Test.YtgplkjfkafnpoaaGreatDoorWAppend
namespace Go.Proofs.YtgplkjfkafnpoaaGreatDoor
open Go.RowKit
set_option linter.unusedVariables false

theorem lnext_any {S : Nat → Prop} {w : World} {p q : Nat} {d : K.DK} {L : W.LG} (h : LD S w p q d L) :
    Calls Tryz.prog 26 #[.pointer (some ⟨q, 0, none⟩)] w fun e w' => e = .returned (.int .i64 L.next) ∧ w = w' := by
  obtain ⟨ok, c1, c3, c4, c6, hSq⟩ := h.cells
  have HM := hid (lmade_any w q L.nm ok.ne c1)
  clear h ok c1
  go_enter Tryz.func26, Tryz.ntmps26
  go_wp2_with (first | (go_at_call 67; refine HM.out.mono ?_; rintro e w' ⟨rfl, rfl⟩))
  go_ret
  exact ⟨rfl, rfl⟩
theorem lsynced_any {S : Nat → Prop} {w : World} {p q : Nat} {d : K.DK} {L : W.LG} (h : LD S w p q d L) :
    Calls Tryz.prog 27 #[.pointer (some ⟨q, 0, none⟩)] w fun e w' => e = .returned (.int .i64 L.synced) ∧ w = w' := by
  obtain ⟨ok, c1, c3, c4, c6, hSq⟩ := h.cells
  have HM := hid (lmade_any w q L.nm ok.ne c1)
  clear h ok c1
  go_enter Tryz.func27, Tryz.ntmps27
  go_wp2_with (first | (go_at_call 67; refine HM.out.mono ?_; rintro e w' ⟨rfl, rfl⟩))
  go_ret
  exact ⟨rfl, rfl⟩
theorem LD.segs {S : Nat → Prop} {w : World} {p q : Nat} {d : K.DK} {L : W.LG} (h : LD S w p q d L) : ∃ sa sc, w.cell? ⟨q, 2, none⟩ = some (.slice sa L.segs.length sc) ∧ ∀ s t, L.segs = s :: t → ∃ g fo, sa = some ⟨g, fo, none⟩ ∧ w.cell? ⟨g, fo, none⟩ = some (.int .i64 s.first) := by
  obtain ⟨h1, Sd, Sl, h2, h3, h4, h5, g1, ok, c, sa, sc, sl, hcs, hm⟩ := h
  have hl : L.segs.length = sl.length := by rw [← hm.eq, List.length_map]
  refine ⟨sa, sc, by rw [hl]; exact hm.k.2.2.1, fun s t e => ?_⟩
  have he := hm.eq
  rw [e] at he
  cases sl with
  | nil => simp at he
  | cons m r =>
    simp only [List.map_cons, List.cons.injEq] at he
    obtain ⟨g, fo, rfl⟩ := hm.row.some_of (by simp)
    refine ⟨g, fo, rfl, ?_⟩
    rw [← he.1]
    exact hm.row.cell (j := 0) (scs_at (l := m :: r) (i := 0) (m := m) rfl).1
theorem lsegs_any {S : Nat → Prop} {w : World} {p q : Nat} {d : K.DK} {L : W.LG} (h : LD S w p q d L) :
    Calls Tryz.prog 28 #[.pointer (some ⟨q, 0, none⟩)] w fun e w' => e = .returned (.int .i64 (L.segs.length : Nat)) ∧ w = w' := by
  obtain ⟨ok, c1, c3, c4, c6, hSq⟩ := h.cells
  obtain ⟨sa, sc, c2, _⟩ := h.segs
  have HM := hid (lmade_any w q L.nm ok.ne c1)
  generalize L.segs.length = n at c2 ⊢
  clear h ok c1
  go_enter Tryz.func28, Tryz.ntmps28
  go_wp2_with (first | (go_at_call 67; refine HM.out.mono ?_; rintro e w' ⟨rfl, rfl⟩))
  go_ret
  exact ⟨rfl, rfl⟩
def W.LG.first (L : W.LG) : Int := match L.segs with | [] => L.next | s :: _ => s.first
theorem lfirst_any {S : Nat → Prop} {w : World} {p q : Nat} {d : K.DK} {L : W.LG} (h : LD S w p q d L) :
    Calls Tryz.prog 25 #[.pointer (some ⟨q, 0, none⟩)] w fun e w' => e = .returned (.int .i64 L.first) ∧ w = w' := by
  have HS := hid (lsegs_any h)
  have HN := hid (lnext_any h)
  obtain ⟨sa, sc, c2, hf⟩ := h.segs
  cases hs : L.segs with
  | nil =>
    have E := hid (show L.first = L.next from by unfold W.LG.first; rw [hs])
    rw [hs] at HS
    clear h c2 hf hs
    go_enter Tryz.func25, Tryz.ntmps25
    go_wp2_with (first
      | (go_at_call 28; refine HS.out.mono ?_; rintro e w' ⟨rfl, rfl⟩)
      | (go_at_call 26; refine HN.out.mono ?_; rintro e w' ⟨rfl, rfl⟩))
    go_ret
    exact ⟨by rw [E.out]; rfl, rfl⟩
  | cons s t =>
    have E := hid (show L.first = s.first from by unfold W.LG.first; rw [hs])
    obtain ⟨g, fo, rfl, c0⟩ := hf s t hs
    obtain ⟨n, hn⟩ : ∃ n, L.segs.length = n := ⟨_, rfl⟩
    have hn0 : 0 < n := by rw [← hn, hs]; simp
    rw [hn] at HS c2
    have hne : ((n : Int) == 0) = false := by simp; omega
    have i1 : (0 : Int) < (n : Int) := by omega
    clear h hf hs hn
    go_enter Tryz.func25, Tryz.ntmps25
    go_wp2_with (first
      | (go_at_call 28; refine HS.out.mono ?_; rintro e w' ⟨rfl, rfl⟩))
    go_ret
    exact ⟨by rw [E.out]; rfl, rfl⟩

set_option maxHeartbeats 800000 in
theorem wsync_any {S : Nat → Prop} {w : World} {p q : Nat} {d : K.DK} {L : W.LG} (h : LD S w p q d L) (T : Tv w) (hG : ¬ S 0) :
    Calls Tryz.prog 23 #[.pointer (some ⟨q, 0, none⟩)] w fun e w' => e = .returned (.int .i64 (W.sync d L).1) ∧ LT S w p q (W.sync d L).2.1 (W.sync d L).2.2 w' := by
  have H := hid h
  obtain ⟨ok, c1, c3, c4, c6, hSq⟩ := h.cells
  have HR := hid (lready_any w q L.nm ok.ne L.spoilt c1 c6)
  have KC := hid (clean_any h T hG)
  by_cases hsp : L.spoilt = true
  · rw [if_pos hsp] at HR
    have E := hid (show W.sync d L = (51, d, L) from by unfold W.sync; rw [if_pos hsp])
    clear h hsp c1 c3 c4 c6 ok KC
    go_enter Tryz.func23, Tryz.ntmps23
    go_wp2_with (first | (go_at_call 62; refine HR.out.mono ?_; rintro e w' ⟨rfl, rfl⟩))
    go_ret
    rw [E.out]
    exact ⟨rfl, LT.refl H.out (Fr.refl _ _)⟩
  · rw [if_neg hsp] at HR
    obtain ⟨R, hR⟩ : ∃ R, W.clean d L = R := ⟨_, rfl⟩
    rw [hR] at KC
    by_cases hz : R.1 = 0
    · have E := hid (show W.sync d L = (0, R.2.1, { R.2.2 with synced := R.2.2.next }) from by unfold W.sync; rw [if_neg hsp, hR, if_neg (by simp [hz])])
      rw [hz] at KC
      clear h hsp c1 c3 c4 c6 ok hR hz
      go_enter Tryz.func23, Tryz.ntmps23
      go_wp2_with (first
        | (go_at_call 62; refine HR.out.mono ?_; rintro e w' ⟨rfl, rfl⟩)
        | (go_at_call 71; refine KC.out.mono ?_; rintro e w2 ⟨rfl, ht2⟩; obtain ⟨ok2, d1, d3, d4, d6, hS2⟩ := ht2.1.cells; obtain ⟨z4, lt4⟩ := ht2.1.resync; have HT := hid (ht2.trans lt4); clear ht2 lt4 ok2 d1 d6))
      go_ret
      rw [E.out]
      exact ⟨rfl, HT.out⟩
    · have E := hid (show W.sync d L = (R.1, R.2.1, { R.2.2 with spoilt := true }) from by unfold W.sync; rw [if_neg hsp, hR, if_pos hz])
      have hbz : (R.1 == 0) = false := by simpa using hz
      clear h hsp c1 c3 c4 c6 ok hR hz
      go_enter Tryz.func23, Tryz.ntmps23
      go_wp2_with (first
        | (go_at_call 62; refine HR.out.mono ?_; rintro e w' ⟨rfl, rfl⟩)
        | (go_at_call 71; refine KC.out.mono ?_; rintro e w2 ⟨rfl, ht2⟩; obtain ⟨⟨sp, p6⟩, f6, lt6⟩ := ht2.1.spoil; have HT := hid (ht2.trans lt6); clear ht2 lt6)
        | (go_at_call 64; refine (lspoil_any _ q sp p6 f6 _).mono ?_; rintro e w4 ⟨rfl, rfl⟩))
      go_ret
      rw [E.out]
      exact ⟨rfl, HT.out⟩

end Go.Proofs.YtgplkjfkafnpoaaGreatDoor
