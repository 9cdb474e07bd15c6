/-
  The document's disk in memory: a row of files, each a name, its bytes, how many are synced. It reads as the same plain disk.
-/
import Derived.Test.YtogdjhhabcejgaaGreatMg33
import Derived.Test.YtogdjhhabcejgaaGreatKMore2Q
import Derived.Test.YtogdjhhabcejgaaGreatMg18
import Derived.Test.YtogdjhhabcejgaaGreatKApp2Q
import Derived.Test.YtogdjhhabcejgaaGreatKSortedQ
namespace Go.Proofs.YtogdjhhabcejgaaGreat
open Go.RowKit Go.Maps
set_option linter.unusedVariables false

/-- a file of it -/
structure RM where
  nm : K.Nm
  a : Option Addr
  c : Nat
  b : List UInt8
  sy : Nat
def RM.f (m : RM) : K.F := ⟨m.b.take m.sy, m.b.drop m.sy⟩
def RM.cs (m : RM) : List Value := [encStr m.nm, .slice m.a m.b.length m.c, .int .i64 (m.sy : Nat)]
def RM.kf (m : RM) : K.Nm × K.F := (m.nm, m.f)
theorem RM.len (m : RM) : m.f.len = m.b.length := by simp [RM.f, K.F.len]; omega
theorem RM.all (m : RM) : m.f.all = m.b := by simp [RM.f, K.F.all]
theorem RM.sf (m : RM) (h : m.sy ≤ m.b.length) : m.f.sf.length = m.sy := by simp [RM.f]; omega
/-- its cells, one behind the other -/
def rcs (l : List RM) : List Value := l.flatMap RM.cs
theorem rcs_length (l : List RM) : (rcs l).length = l.length * 3 := by
  induction l with
  | nil => rfl
  | cons m r ih => simp only [rcs, List.flatMap_cons, List.length_append, List.length_cons] at ih ⊢; rw [ih]; simp [RM.cs]; omega
theorem rcs_append (l l' : List RM) : rcs (l ++ l') = rcs l ++ rcs l' := by simp [rcs]
theorem rcs_at {l : List RM} {i : Nat} {m : RM} (h : l[i]? = some m) : (rcs l)[i * 3]? = some (encStr m.nm) ∧ (rcs l)[i * 3 + 1]? = some (.slice m.a m.b.length m.c) ∧ (rcs l)[i * 3 + 2]? = some (.int .i64 (m.sy : Nat)) := by
  induction l generalizing i with
  | nil => simp at h
  | cons x r ih =>
    cases i with
    | zero =>
      simp at h
      subst h
      simp [rcs, RM.cs]
    | succ i =>
      simp at h
      have := ih h
      have e : ∀ j, (rcs (x :: r))[(i + 1) * 3 + j]? = (rcs r)[i * 3 + j]? := fun j => by
        simp only [rcs, List.flatMap_cons]
        rw [List.getElem?_append_right (by simp [RM.cs]; omega)]
        congr 1
        simp [RM.cs]
        omega
      exact ⟨by rw [show (i + 1) * 3 = (i + 1) * 3 + 0 from rfl, e]; exact this.1, by rw [e]; exact this.2.1, by rw [e]; exact this.2.2⟩
theorem one_rcs (l : List RM) : ∀ u ∈ rcs l, u.oneCell' = true := by
  intro u hu
  simp only [rcs, List.mem_flatMap] at hu
  obtain ⟨m, _, hu⟩ := hu
  simp [RM.cs] at hu
  rcases hu with rfl | rfl | rfl <;> rfl
/-- a row of files that is owned -/
abbrev Rw (w : World) (fa : Option Addr) (fc : Nat) (l : List RM) : Prop := w.ownsRow 0 61 3 (.slice fa l.length fc) l.length (rcs l)
theorem Rw.some_of {w : World} {fa : Option Addr} {fc : Nat} {l : List RM} (h : Rw w fa fc l) (hl : 0 < l.length) : ∃ g cur, fa = some ⟨g, 0, none⟩ ∧ w.heap[g]? = some (.cells cur 61 (0, 0)) ∧ l.length ≤ fc ∧ fc ≤ maxLen ∧ cur.size = fc * 3 ∧ cur.toList.take (l.length * 3) = rcs l := by
  rcases h.2 with ⟨_, h0⟩ | ⟨g, cap, cur, hv, _, hg, h1, h2, h3, h4⟩
  · omega
  · simp only [Value.slice.injEq] at hv
    obtain ⟨rfl, _, rfl⟩ := hv
    exact ⟨g, cur, rfl, hg, h1, h2, h3, h4⟩
theorem Rw.at {w : World} {fa : Option Addr} {fc : Nat} {l : List RM} (h : Rw w fa fc l) {i : Nat} {m : RM} (hi : l[i]? = some m) :
    ∃ g, fa = some ⟨g, 0, none⟩ ∧ w.cell? ⟨g, i * 3, none⟩ = some (encStr m.nm) ∧ w.cell? ⟨g, i * 3 + 1, none⟩ = some (.slice m.a m.b.length m.c) ∧ w.cell? ⟨g, i * 3 + 2, none⟩ = some (.int .i64 (m.sy : Nat)) := by
  have hil := (List.getElem?_eq_some_iff.1 hi).1
  obtain ⟨g, cur, rfl, hg, h1, h2, h3, h4⟩ := h.some_of (by omega)
  have key : ∀ j v, (rcs l)[j]? = some v → w.cell? ⟨g, j, none⟩ = some v := fun j v hj => by
    rw [← h4, List.getElem?_take] at hj
    split at hj
    · exact cell_of hg (by simpa using hj)
    · cases hj
  have := rcs_at hi
  exact ⟨g, rfl, key _ _ this.1, key _ _ this.2.1, key _ _ this.2.2⟩
theorem Rw.kept {S : Nat → Prop} {w w' : World} {fa : Option Addr} {fc : Nat} {l : List RM} (h : Rw w fa fc l) (hf : Fr S w w') (hS : ∀ k, blk fa = some k → ¬ S k) : Rw w' fa fc l := by
  refine ⟨h.1, ?_⟩
  rcases h.2 with h0 | ⟨g, cap, cur, hv, hb, hg, r⟩
  · exact .inl h0
  · refine .inr ⟨g, cap, cur, hv, hb, hf.cells hg (fun hs => hS g ?_ hs), r⟩
    simp only [Value.slice.injEq] at hv
    rw [hv.1]
    rfl
/-- THE DOCUMENT's DISK, in memory -/
structure Rm (w : World) (p : Nat) (fa : Option Addr) (fc : Nat) (l : List RM) (kp : Int) (d : K.DK) : Prop where
  at_ : w.heap[p]? = some (.cells #[.int .i64 d.room, .slice fa l.length fc, .int .i64 d.left, .int .i64 kp, .bool d.down] 49 (0, 0))
  kp0 : 0 ≤ kp
  kp1 : kp ≤ 9223372036854775807
  kpe : d.left ≠ 0 → kp = d.keep
  row : Rw w fa fc l
  rp : blk fa ≠ some p
  by_ : ∀ m ∈ l, Sl w m.a m.b.length m.b ∧ m.sy ≤ m.b.length ∧ m.b.length ≤ m.c
  bx : ∀ m ∈ l, 0 < m.b.length → ∀ k, blk m.a = some k → k ≠ p ∧ blk fa ≠ some k
  fs : l.map RM.kf = d.fs
/-- .. within S -/
def Rk (S : Nat → Prop) (w : World) (p : Nat) (d : K.DK) : Prop :=
  (∀ k, S k → k < w.heap.size) ∧ K.Ok d ∧ ∃ fa fc l kp, Rm w p fa fc l kp d ∧ S p ∧ (∀ k, blk fa = some k → S k) ∧ (∀ m ∈ l, 0 < m.b.length → ∀ k, blk m.a = some k → S k)
/-- it has turned -/
def Rt (S : Nat → Prop) (w : World) (p : Nat) (d' : K.DK) (w' : World) : Prop := Rk (Nx S w w') w' p d' ∧ Fr S w w'
theorem Rm.lt {w : World} {p : Nat} {fa : Option Addr} {fc : Nat} {l : List RM} {kp : Int} {d : K.DK} (h : Rm w p fa fc l kp d) : p < w.heap.size := lt_of_row h.at_
theorem Rm.c {w : World} {p : Nat} {fa : Option Addr} {fc : Nat} {l : List RM} {kp : Int} {d : K.DK} (h : Rm w p fa fc l kp d) : w.cell? ⟨p, 0, none⟩ = some (.int .i64 d.room) ∧ w.cell? ⟨p, 1, none⟩ = some (.slice fa l.length fc) ∧ w.cell? ⟨p, 2, none⟩ = some (.int .i64 d.left) ∧ w.cell? ⟨p, 3, none⟩ = some (.int .i64 kp) ∧ w.cell? ⟨p, 4, none⟩ = some (.bool d.down) :=
  ⟨cell_of h.at_ rfl, cell_of h.at_ rfl, cell_of h.at_ rfl, cell_of h.at_ rfl, cell_of h.at_ rfl⟩
theorem Rm.kept {S : Nat → Prop} {w w' : World} {p : Nat} {fa : Option Addr} {fc : Nat} {l : List RM} {kp : Int} {d : K.DK} (h : Rm w p fa fc l kp d) (hf : Fr S w w') (hp : ¬ S p) (hr : ∀ k, blk fa = some k → ¬ S k) (hb : ∀ m ∈ l, 0 < m.b.length → ∀ k, blk m.a = some k → ¬ S k) : Rm w' p fa fc l kp d :=
  ⟨hf.cells h.at_ hp, h.kp0, h.kp1, h.kpe, h.row.kept hf hr, h.rp, fun m hm => ⟨(h.by_ m hm).1.kept hf (fun hz k hk => hb m hm hz k hk), (h.by_ m hm).2⟩, h.bx, h.fs⟩
/-- the disk's own cells alone have turned -/
theorem Rm.own {w w' : World} {p : Nat} {fa : Option Addr} {fc : Nat} {l : List RM} {kp kp' : Int} {d d' : K.DK} (h : Rm w p fa fc l kp d) (hf : Fr (fun k => k = p) w w') (hat : w'.heap[p]? = some (.cells #[.int .i64 d'.room, .slice fa l.length fc, .int .i64 d'.left, .int .i64 kp', .bool d'.down] 49 (0, 0))) (h0 : 0 ≤ kp') (h1 : kp' ≤ 9223372036854775807) (he : d'.left ≠ 0 → kp' = d'.keep) (hfs : d'.fs = d.fs) : Rm w' p fa fc l kp' d' :=
  ⟨hat, h0, h1, he, h.row.kept hf (fun k hk e => h.rp (e ▸ hk)), h.rp, fun m hm => ⟨(h.by_ m hm).1.kept hf (fun hz k hk e => (h.bx m hm hz k hk).1 e), (h.by_ m hm).2⟩, h.bx, by rw [hfs]; exact h.fs⟩
theorem Rk.kept {S T : Nat → Prop} {w w' : World} {p : Nat} {d : K.DK} (h : Rk S w p d) (hf : Fr T w w') (hS : ∀ k, S k → ¬ T k) : Rk S w' p d := by
  obtain ⟨h1, h2, fa, fc, l, kp, h3, h4, h5, h6⟩ := h
  exact ⟨fun k hk => Nat.lt_of_lt_of_le (h1 k hk) hf.size, h2, fa, fc, l, kp, h3.kept hf (hS p h4) (fun k hk => hS k (h5 k hk)) (fun m hm hz k hk => hS k (h6 m hm hz k hk)), h4, h5, h6⟩
theorem Rk.mono {S T : Nat → Prop} {w : World} {p : Nat} {d : K.DK} (h : Rk S w p d) (hT : ∀ k, S k → T k) (hlt : ∀ k, T k → k < w.heap.size) : Rk T w p d := by
  obtain ⟨h1, h2, fa, fc, l, kp, h3, h4, h5, h6⟩ := h
  exact ⟨hlt, h2, fa, fc, l, kp, h3, hT p h4, fun k hk => hT k (h5 k hk), fun m hm hz k hk => hT k (h6 m hm hz k hk)⟩
theorem Rt.refl {S : Nat → Prop} {w w' : World} {p : Nat} {d : K.DK} (h : Rk S w p d) (hf : Fr (fun _ => False) w w') : Rt S w p d w' :=
  ⟨(h.kept hf (fun _ _ h => h)).mono (Nx.of h.1 hf.size) Nx.lt, hf.mono (fun _ _ h => h.elim)⟩
/-- the same disk in the same blocks, its own cells turned -/
theorem Rk.own {S : Nat → Prop} {w w' : World} {p : Nat} {fa : Option Addr} {fc : Nat} {l : List RM} {kp' : Int} {d d' : K.DK} (h1 : ∀ k, S k → k < w.heap.size) (hm : Rm w' p fa fc l kp' d') (h4 : S p) (h5 : ∀ k, blk fa = some k → S k) (h6 : ∀ m ∈ l, 0 < m.b.length → ∀ k, blk m.a = some k → S k) (hf : Fr (fun k => k = p) w w') (ho : K.Ok d') : Rt S w p d' w' :=
  ⟨Rk.mono (S := S) ⟨fun k hk => Nat.lt_of_lt_of_le (h1 k hk) hf.size, ho, fa, fc, l, kp', hm, h4, h5, h6⟩ (Nx.of h1 hf.size) Nx.lt, hf.mono (fun i _ e => e ▸ h4)⟩
theorem Rt.pre {S : Nat → Prop} {w w1 w' : World} {p : Nat} {d : K.DK} (hf : Fr (fun _ => False) w w1) (h : Rt S w1 p d w') : Rt S w p d w' :=
  ⟨h.1.mono (fun k hk => ⟨hk.1.imp id (Nat.le_trans hf.size), hk.2⟩) Nx.lt, (hf.mono (T := S) (fun _ _ h => h.elim)).trans h.2 (fun _ _ h => h)⟩
theorem Rt.trans {S : Nat → Prop} {w w1 w2 : World} {p : Nat} {d1 d2 : K.DK} (h : Rt S w p d1 w1) (k : Rt (Nx S w w1) w1 p d2 w2) : Rt S w p d2 w2 :=
  ⟨k.1.mono (fun j hj => ⟨by rcases hj.1 with hj1 | hj1; exact hj1.1; exact .inr (Nat.le_trans h.2.size hj1), hj.2⟩) Nx.lt, h.2.trans k.2 (fun i hi e => e.1.resolve_right (by omega))⟩

set_option maxHeartbeats 800000 in
theorem rnew_any (room : Int) (h0 : 0 ≤ room) (h1 : room ≤ 9223372036854775807) (w : World) :
    Calls Tryz.prog 5 #[.int .i64 room] w fun e w' => e = .returned (.tuple #[.pointer (some ⟨w.heap.size, 0, none⟩), .int .i64 0]) ∧ Rt (fun _ => False) w w.heap.size (K.mk room) w' := by
  go_enter Tryz.func5, Tryz.ntmps5
  go_wp2
  go_ret2
  refine ⟨rfl, ⟨Nx.lt, K.ok_mk h0 h1, none, 0, [], 0, ⟨Go.heap_alloc_new w _, Int.le_refl _, (by decide : (0 : Int) ≤ 9223372036854775807), fun h => absurd rfl h, ⟨rfl, .inl ⟨rfl, rfl⟩⟩, by simp [blk], by simp, by simp, rfl⟩, ⟨.inr (Nat.le_refl _), by simp⟩, by simp [blk], by simp⟩, Fr.alloc (Fr.refl _ _) _⟩
theorem rnew_neg (room : Int) (h0 : room < 0) (h1 : -9223372036854775808 ≤ room) (w : World) :
    Calls Tryz.prog 5 #[.int .i64 room] w fun e w' => e = .returned (.tuple #[.pointer none, .int .i64 1]) ∧ w = w' := by
  go_enter Tryz.func5, Tryz.ntmps5
  go_wp2
  go_ret2
  exact ⟨rfl, rfl⟩
theorem rdown_any {S : Nat → Prop} {w : World} {p : Nat} {d : K.DK} (h : Rk S w p d) :
    Calls Tryz.prog 11 #[.pointer (some ⟨p, 0, none⟩)] w fun e w' => e = .returned (.bool d.down) ∧ w = w' := by
  obtain ⟨_, _, fa, fc, l, kp, hm, _⟩ := h
  have c0 := hm.c.2.2.2.2
  clear hm
  go_enter Tryz.func11, Tryz.ntmps11
  go_wp2
  go_ret
  exact ⟨rfl, rfl⟩
set_option maxHeartbeats 1600000 in
theorem rrestart_any {S : Nat → Prop} {w : World} {p : Nat} {d : K.DK} (h : Rk S w p d) :
    Calls Tryz.prog 24 #[.pointer (some ⟨p, 0, none⟩)] w fun e w' => e = .returned (.int .i64 (K.restart d).1) ∧ Rt S w p (K.restart d).2 w' := by
  have HK := hid h
  obtain ⟨h1, ho, fa, fc, l, kp, hm, h4, h5, h6⟩ := h
  have HOK := hid (K.ok_restart ho)
  obtain ⟨_, _, _, _, c4⟩ := hm.c
  have z4 := frozen_of_row (j := 4) hm.at_
  by_cases e3 : d.down = true
  · have e : K.restart d = (0, { d with down := false }) := by unfold K.restart; rw [if_pos e3]
    rw [e] at HOK ⊢
    rw [e3] at c4
    have hf : Fr (fun k => k = p) w (w.setCell ⟨p, 4, none⟩ (.bool false)) := Fr.setCell (p := ⟨p, 4, none⟩) (S := fun k => k = p) (Fr.refl _ _) (fun _ => rfl) _
    have HT := hid (Rk.own (d := d) h1 (hm.own (d' := { d with down := false }) hf (by rw [setCell_row hm.at_]; rfl) hm.kp0 hm.kp1 hm.kpe rfl) h4 h5 h6 hf HOK.out)
    clear h1 ho hm h4 h5 h6 e hf
    go_enter Tryz.func24, Tryz.ntmps24
    go_wp2
    go_ret
    exact ⟨rfl, HT.out⟩
  · have e3 : d.down = false := by simpa using e3
    have e : K.restart d = (1, d) := by unfold K.restart; rw [if_neg (by simp [e3])]
    rw [e]
    rw [e3] at c4
    clear h1 ho hm h4 h5 h6 e HOK
    go_enter Tryz.func24, Tryz.ntmps24
    go_wp2
    go_ret
    exact ⟨rfl, Rt.refl HK.out (Fr.refl _ _)⟩
set_option maxHeartbeats 1600000 in
theorem rfuse_any {S : Nat → Prop} {w : World} {p : Nat} {d : K.DK} (h : Rk S w p d) (k keep : Int) (hk : k ≤ 9223372036854775807) (hp : keep ≤ 9223372036854775807) :
    Calls Tryz.prog 20 #[.pointer (some ⟨p, 0, none⟩), .int .i64 k, .int .i64 keep] w fun e w' => e = .returned (.int .i64 (K.fuse d k keep).1) ∧ Rt S w p (K.fuse d k keep).2 w' := by
  have HK := hid h
  obtain ⟨h1, ho, fa, fc, l, kp, hm, h4, h5, h6⟩ := h
  have HOK := hid (K.ok_fuse ho k keep hk hp)
  obtain ⟨_, _, c2, c3, c4⟩ := hm.c
  have z2 := frozen_of_row (j := 2) hm.at_
  have z3 := frozen_of_row (j := 3) hm.at_
  by_cases e1 : k < 0
  · have e : K.fuse d k keep = (1, d) := by unfold K.fuse; rw [if_pos (.inl e1)]
    rw [e]
    clear h1 ho hm h4 h5 h6 e HOK
    go_enter Tryz.func20, Tryz.ntmps20
    go_wp2
    go_ret
    exact ⟨rfl, Rt.refl HK.out (Fr.refl _ _)⟩
  · by_cases e2 : keep < 0
    · have e : K.fuse d k keep = (1, d) := by unfold K.fuse; rw [if_pos (.inr e2)]
      rw [e]
      clear h1 ho hm h4 h5 h6 e HOK
      go_enter Tryz.func20, Tryz.ntmps20
      go_wp2
      go_ret
      exact ⟨rfl, Rt.refl HK.out (Fr.refl _ _)⟩
    · by_cases e3 : d.down = true
      · have e : K.fuse d k keep = (7, d) := by unfold K.fuse; rw [if_neg (by omega), if_pos e3]
        rw [e]
        rw [e3] at c4
        clear h1 ho hm h4 h5 h6 e HOK
        go_enter Tryz.func20, Tryz.ntmps20
        go_wp2
        go_ret
        exact ⟨rfl, Rt.refl HK.out (Fr.refl _ _)⟩
      · have e3' : d.down = false := by simpa using e3
        have e : K.fuse d k keep = (0, { d with left := k, keep := keep }) := by unfold K.fuse; rw [if_neg (by omega), if_neg (by simp [e3'])]
        rw [e] at HOK ⊢
        rw [e3'] at c4
        have hf : Fr (fun k => k = p) w ((w.setCell ⟨p, 2, none⟩ (.int .i64 k)).setCell ⟨p, 3, none⟩ (.int .i64 keep)) := Fr.setCell (p := ⟨p, 3, none⟩) (S := fun k => k = p) (Fr.setCell (p := ⟨p, 2, none⟩) (S := fun k => k = p) (Fr.refl _ _) (fun _ => rfl) _) (fun _ => rfl) _
        have HT := hid (Rk.own (d := d) h1 (hm.own (kp' := keep) (d' := { d with left := k, keep := keep }) hf (by rw [setCell_row (setCell_row hm.at_ _) _]; rfl) (by omega) hp (fun _ => rfl) rfl) h4 h5 h6 hf HOK.out)
        clear h1 ho hm h4 h5 h6 e hf e3 e3'
        go_enter Tryz.func20, Tryz.ntmps20
        go_wp2
        go_ret
        exact ⟨rfl, HT.out⟩

end Go.Proofs.YtogdjhhabcejgaaGreat
