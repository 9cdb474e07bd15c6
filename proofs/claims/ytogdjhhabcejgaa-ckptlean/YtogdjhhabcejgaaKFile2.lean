/-
  The contracts of a file: sync, tear.
-/
import Derived.Test.YtogdjhhabcejgaaKFile
namespace Go.Proofs.Ytogdjhhabcejgaa
open Go.RowKit Go.Maps
set_option linter.unusedVariables false

theorem FS.pre {c c' : Cl} {w W w' : World} {m m' : FM} (hf : Fr (fun _ => False) w W) (h : FS c c' W w' m m') : FS c c' w w' m m' where
  fl := h.fl
  g := h.g
  fr := (hf.mono (fun _ _ h => h.elim)).trans h.fr (fun _ _ h => h)
  le := h.le
  lt := h.lt
  nw := fun k hk => (h.nw k hk).imp id (Nat.le_trans hf.size)
  own := fun k hk => (h.own k hk).imp id (Nat.le_trans hf.size)
theorem lt_of_fr {c : Cl} {w W : World} (hf : Fr (fun _ => False) w W) (h : ∀ k, c k ≠ none → k < w.heap.size) : ∀ k, c k ≠ none → k < W.heap.size := fun k hk => Nat.lt_of_lt_of_le (h k hk) hf.size

set_option maxHeartbeats 800000 in
theorem fsync_any (c : Cl) (w : World) (m : FM) (h : Fl c w m) (hlt : ∀ k, c k ≠ none → k < w.heap.size) (hbd : m.sf.length + m.tl.length ≤ K.cap) :
    Calls Try.prog 68 #[.pointer (some ⟨m.g, 0, none⟩)] w fun e w' => (∃ v, e = .returned v) ∧ ∃ c' m', FS c c' w w' m m' ∧ m'.f = ⟨m.sf ++ m.tl, []⟩ := by
  have c1 := h.c1
  have HK := hid (fun (W : World) (hf : Fr (fun _ => False) w W) => fsave_any c W m (h.kept hf (fun _ _ h => h)) (lt_of_fr hf hlt) m.ta m.tl.length m.tc m.tl ((h.to_.sl).kept hf (fun _ _ _ h => h)) hbd)
  have HF := hid h
  clear h hbd hlt
  obtain ⟨tl, htl⟩ : ∃ tl, m.tl.length = tl := ⟨_, rfl⟩
  have HT := hid htl
  rw [htl] at c1 HK
  clear htl
  go_enter Try.func68, Try.ntmps68
  go_wp2
  go_region_held3 (fun w' => w'.cell? ⟨m.g, 1, none⟩ = some (.slice m.ta tl m.tc)) (first | go_keep | exact s1)
    (first
      | (go_at_call 82; refine (HK.out _ (by first | exact Fr.refl _ _ | exact Fr.drew (Fr.refl _ _) | exact Fr.drewN _ _)).mono ?_; rintro e w1 ⟨⟨v, rfl⟩, c', sa, sc, hfs⟩; have s1 : w1.cell? ⟨m.g, 1, none⟩ = some (.slice m.ta tl m.tc) := (by have := hfs.fl.c1; simp only [HT.out] at this; exact this); have s2 : w1.frozen? ⟨m.g, 1, none⟩ = false := hfs.fl.fz 1; have HS := hid hfs; clear hfs))
  go_wp2
  go_end0
  refine ⟨⟨_, rfl⟩, c', _, (FS.pre ?_ HS.out).trans (HS.out.fl.set_tail HS.out.lt (Ow.nil 0 _) (by simp [blk])), rfl⟩
  first | exact Fr.refl _ _ | exact Fr.drew (Fr.refl _ _) | exact Fr.drewN _ _

set_option maxHeartbeats 1600000 in
theorem ftear_any (c : Cl) (w : World) (m : FM) (h : Fl c w m) (hlt : ∀ k, c k ≠ none → k < w.heap.size) (hbd : m.sf.length + m.tl.length ≤ K.cap) (keep : Int) (hk0 : 0 ≤ keep) (hk1 : keep ≤ 9223372036854775807) :
    Calls Try.prog 88 #[.pointer (some ⟨m.g, 0, none⟩), .int .i64 keep] w fun e w' => (∃ v, e = .returned v) ∧ ∃ c' m', FS c c' w w' m m' ∧ m'.f = K.tear keep m.f := by
  have c1 := h.c1
  have f1 := h.fz 1
  have hlen := h.to_.len
  obtain ⟨t, ht⟩ : ∃ t, m.tl.take keep.toNat = t := ⟨_, rfl⟩
  have htl : t.length = min keep.toNat m.tl.length := by rw [← ht, List.length_take]
  have hst := h.set_tail hlt (h.to_.take keep.toNat) (fun _ h => h)
  rw [ht] at hst
  have HS := hid hst
  have hbd' : m.sf.length + t.length ≤ K.cap := by omega
  have HK := hid (fun (W : World) (hf : Fr (fun _ => False) (w.setCell ⟨m.g, 1, none⟩ (.slice m.ta t.length m.tc)) W) => fsync_any c W { m with tl := t } (hst.fl.kept hf (fun _ _ h => h)) (lt_of_fr hf hst.lt) hbd')
  have hmin : (if (m.tl.length : Int) < keep then (m.tl.length : Int) else keep) = (t.length : Int) := by rw [htl]; split <;> omega
  have htc : t.length ≤ m.tc := by omega
  have hcut := fun W => run_cut_hi' W m.ta m.tl.length m.tc t.length htc _ rfl
  have HT := hid ht
  obtain ⟨tl, htl'⟩ : ∃ tl, m.tl.length = tl := ⟨_, rfl⟩
  obtain ⟨n, hn⟩ : ∃ n, t.length = n := ⟨_, rfl⟩
  rw [htl'] at c1 hcut hmin
  rw [hn] at hcut hmin HK HS
  clear h hst hlt hbd hbd' ht htl hlen htc hn htl'
  go_enter Try.func88, Try.ntmps88
  go_wp2
  go_region
  all_goals go_wp2_with (first | (go_at_call 68; refine (HK.out _ (by first | exact Fr.refl _ _ | exact Fr.drew (Fr.refl _ _) | exact Fr.drewN _ _)).mono ?_; rintro e w1 ⟨⟨v, rfl⟩, c', m', hfs, hm⟩; have HS2 := hid hfs; have HM := hid hm; clear hfs hm))
  all_goals go_end0
  all_goals refine ⟨⟨_, rfl⟩, c', m', HS.out.trans (FS.pre ?_ HS2.out), HM.out.trans (by simp [K.tear, FM.f, HT.out])⟩
  all_goals first | exact Fr.refl _ _ | exact Fr.drew (Fr.refl _ _) | exact Fr.drewN _ _

end Go.Proofs.Ytogdjhhabcejgaa
