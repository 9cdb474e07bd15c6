/-
  The contracts of a file: size, put, save, sync, tear, clone.
-/
import Derived.Test.YtogdjhhabcejgaaGreatKMem
namespace Go.Proofs.YtogdjhhabcejgaaGreat
open Go.RowKit Go.Maps
set_option linter.unusedVariables false

/-- a file has turned, and it alone -/
structure FS (c c' : Cl) (w w' : World) (m m' : FM) : Prop where
  fl : Fl c' w' m'
  g : m'.g = m.g
  fr : Fr m.own w w'
  le : Cl.Le c c'
  lt : ∀ k, c' k ≠ none → k < w'.heap.size
  nw : ∀ k, c' k ≠ none → c k ≠ none ∨ w.heap.size ≤ k
  own : ∀ k, m'.own k → m.own k ∨ w.heap.size ≤ k
theorem FS.trans {c c1 c2 : Cl} {w w1 w2 : World} {m m1 m2 : FM} (h : FS c c1 w w1 m m1) (k : FS c1 c2 w1 w2 m1 m2) : FS c c2 w w2 m m2 where
  fl := k.fl
  g := k.g.trans h.g
  fr := h.fr.trans k.fr (fun i hi ho => (h.own i ho).resolve_right (by omega))
  le := h.le.trans k.le
  lt := k.lt
  nw := fun i hi => by
    rcases k.nw i hi with h1 | h1
    · exact h.nw i h1
    · exact .inr (Nat.le_trans h.fr.size h1)
  own := fun i hi => by
    rcases k.own i hi with h1 | h1
    · exact h.own i h1
    · exact .inr (Nat.le_trans h.fr.size h1)
theorem FS.col {c c' : Cl} {w w' : World} {m m' : FM} (h : FS c c' w w' m m') (r : Nat) (hr : c r = none) (hlt : r < w.heap.size) : c' r = none := by
  cases e : c' r with
  | none => rfl
  | some t =>
    rcases h.nw r (by rw [e]; simp) with h1 | h1
    · exact absurd hr h1
    · omega

theorem on_le {c : Cl} {w : World} (hlt : ∀ k, c k ≠ none → k < w.heap.size) {a a3 : Option Addr} {t : Col} (ha : ∀ k, blk a = some k → c k = some t) (hat : a3 = a ∨ a3 = some ⟨w.heap.size, 0, none⟩) : Cl.Le c (c.on a3 t) := by
  intro k hk
  by_cases e : blk a3 = some k
  · rw [Cl.on_same c e]
    rcases hat with rfl | rfl
    · exact (ha k e).symm
    · simp [blk] at e
      subst e
      exact absurd (hlt _ hk) (Nat.lt_irrefl _)
  · exact Cl.on_other c e t

/-- a row has grown: it is stored into the file's tail -/
theorem Fl.put_tail {c : Cl} {w : World} {m : FM} (h : Fl c w m) (hlt : ∀ k, c k ≠ none → k < w.heap.size) {w3 : World} {a3 : Option Addr} {c3 n n3 : Nat} {bs3 : List UInt8} (how : Ow 0 w3 a3 c3 bs3) (hg : w.grownBy w3 (blk m.ta))
    (hat : (a3 = m.ta ∧ c3 = m.tc ∧ n ≤ m.tc) ∨ (a3 = some ⟨w.heap.size, 0, none⟩ ∧ m.tc < n ∧ w.grownBy w3 none)) (hl : bs3.length = n3) :
    w3.cell? ⟨m.g, 1, none⟩ = some (.slice m.ta m.tl.length m.tc) ∧ w3.frozen? ⟨m.g, 1, none⟩ = false ∧ FS c (c.on a3 (.tail m.g)) w (w3.setCell ⟨m.g, 1, none⟩ (.slice a3 n3 c3)) m { m with ta := a3, tc := c3, tl := bs3 } := by
  have hat' : a3 = m.ta ∨ a3 = some ⟨w.heap.size, 0, none⟩ := by
    rcases hat with ⟨e, _⟩ | ⟨e, _⟩
    · exact .inl e
    · exact .inr e
  have hgt : blk m.ta ≠ some m.g := fun e => by have := h.ct _ e; rw [h.cg] at this; simp at this
  have hgs : ∀ k, blk m.sa = some k → blk m.ta ≠ some k := fun k hk e => by have := h.ct _ e; rw [h.cs _ hk] at this; simp at this
  have hg3 : blk a3 ≠ some m.g := by
    rcases hat' with rfl | rfl
    · exact hgt
    · have := h.lt; simp [blk]; omega
  have hrow := (Fr.of_grown hg).cells h.at_ hgt
  have hle := on_le (t := .tail m.g) hlt h.ct hat'
  have hfr : Fr m.own w (w3.setCell ⟨m.g, 1, none⟩ (.slice a3 n3 c3)) := Fr.setCell ((Fr.of_grown hg).mono (fun i _ e => .inr (.inr e))) (fun _ => .inl rfl) _
  have hs1 : Fr (fun k => k = m.g) w3 (w3.setCell ⟨m.g, 1, none⟩ (.slice a3 n3 c3)) := Fr.setCell (S := fun k => k = m.g) (Fr.refl _ _) (fun _ => rfl) _
  refine ⟨cell_of hrow rfl, frozen_of_row hrow, ⟨⟨?_, ?_, ?_, hle.some h.cg, fun k hk => hle.some (h.cs k hk), fun k hk => Cl.on_same c hk _⟩, rfl, hfr, hle, ?_, ?_, ?_⟩⟩
  · rw [setCell_row hrow, hl]; rfl
  · exact (h.so.kept (Fr.of_grown hg) (fun k hk => hgs k hk)).kept hs1 (fun k hk e => by subst e; have := h.cs _ hk; rw [h.cg] at this; simp at this)
  · exact how.kept hs1 (fun k hk e => hg3 (e ▸ hk))
  · intro k hk
    by_cases e : blk a3 = some k
    · rw [setCell_size]; exact (how.lt k e).2
    · rw [Cl.on_other c e] at hk
      exact Nat.lt_of_lt_of_le (hlt k hk) hfr.size
  · intro k hk
    by_cases e : blk a3 = some k
    · rcases hat' with rfl | rfl
      · left; rw [h.ct k e]; simp
      · right; simp [blk] at e; omega
    · rw [Cl.on_other c e] at hk
      exact .inl hk
  · rintro k (hk | hk | hk)
    · exact .inl (.inl hk)
    · exact .inl (.inr (.inl hk))
    · rcases hat' with rfl | rfl
      · exact .inl (.inr (.inr hk))
      · right; simp [blk] at hk; omega
theorem Fl.put_safe {c : Cl} {w : World} {m : FM} (h : Fl c w m) (hlt : ∀ k, c k ≠ none → k < w.heap.size) {w3 : World} {a3 : Option Addr} {c3 n n3 : Nat} {bs3 : List UInt8} (how : Ow 0 w3 a3 c3 bs3) (hg : w.grownBy w3 (blk m.sa))
    (hat : (a3 = m.sa ∧ c3 = m.sc ∧ n ≤ m.sc) ∨ (a3 = some ⟨w.heap.size, 0, none⟩ ∧ m.sc < n ∧ w.grownBy w3 none)) (hl : bs3.length = n3) :
    w3.cell? ⟨m.g, 0, none⟩ = some (.slice m.sa m.sf.length m.sc) ∧ w3.frozen? ⟨m.g, 0, none⟩ = false ∧ FS c (c.on a3 (.safe m.g)) w (w3.setCell ⟨m.g, 0, none⟩ (.slice a3 n3 c3)) m { m with sa := a3, sc := c3, sf := bs3 } := by
  have hat' : a3 = m.sa ∨ a3 = some ⟨w.heap.size, 0, none⟩ := by
    rcases hat with ⟨e, _⟩ | ⟨e, _⟩
    · exact .inl e
    · exact .inr e
  have hgt : blk m.sa ≠ some m.g := fun e => by have := h.cs _ e; rw [h.cg] at this; simp at this
  have hgs : ∀ k, blk m.ta = some k → blk m.sa ≠ some k := fun k hk e => by have := h.cs _ e; rw [h.ct _ hk] at this; simp at this
  have hg3 : blk a3 ≠ some m.g := by
    rcases hat' with rfl | rfl
    · exact hgt
    · have := h.lt; simp [blk]; omega
  have hrow := (Fr.of_grown hg).cells h.at_ hgt
  have hle := on_le (t := .safe m.g) hlt h.cs hat'
  have hfr : Fr m.own w (w3.setCell ⟨m.g, 0, none⟩ (.slice a3 n3 c3)) := Fr.setCell ((Fr.of_grown hg).mono (fun i _ e => .inr (.inl e))) (fun _ => .inl rfl) _
  have hs1 : Fr (fun k => k = m.g) w3 (w3.setCell ⟨m.g, 0, none⟩ (.slice a3 n3 c3)) := Fr.setCell (S := fun k => k = m.g) (Fr.refl _ _) (fun _ => rfl) _
  refine ⟨cell_of hrow rfl, frozen_of_row hrow, ⟨⟨?_, ?_, ?_, hle.some h.cg, fun k hk => Cl.on_same c hk _, fun k hk => hle.some (h.ct k hk)⟩, rfl, hfr, hle, ?_, ?_, ?_⟩⟩
  · rw [setCell_row hrow, hl]; rfl
  · exact how.kept hs1 (fun k hk e => hg3 (e ▸ hk))
  · exact (h.to_.kept (Fr.of_grown hg) (fun k hk => hgs k hk)).kept hs1 (fun k hk e => by subst e; have := h.ct _ hk; rw [h.cg] at this; simp at this)
  · intro k hk
    by_cases e : blk a3 = some k
    · rw [setCell_size]; exact (how.lt k e).2
    · rw [Cl.on_other c e] at hk
      exact Nat.lt_of_lt_of_le (hlt k hk) hfr.size
  · intro k hk
    by_cases e : blk a3 = some k
    · rcases hat' with rfl | rfl
      · left; rw [h.cs k e]; simp
      · right; simp [blk] at e; omega
    · rw [Cl.on_other c e] at hk
      exact .inl hk
  · rintro k (hk | hk | hk)
    · exact .inl (.inl hk)
    · rcases hat' with rfl | rfl
      · exact .inl (.inr (.inl hk))
      · right; simp [blk] at hk; omega
    · exact .inl (.inr (.inr hk))
/-- the tail is cut, or gone -/
theorem Fl.set_tail {c : Cl} {w : World} {m : FM} (h : Fl c w m) (hlt : ∀ k, c k ≠ none → k < w.heap.size) {a3 : Option Addr} {c3 : Nat} {bs3 : List UInt8} (how : Ow 0 w a3 c3 bs3) (hat : ∀ k, blk a3 = some k → blk m.ta = some k) :
    FS c c w (w.setCell ⟨m.g, 1, none⟩ (.slice a3 bs3.length c3)) m { m with ta := a3, tc := c3, tl := bs3 } := by
  have hs1 : Fr (fun k => k = m.g) w (w.setCell ⟨m.g, 1, none⟩ (.slice a3 bs3.length c3)) := Fr.setCell (S := fun k => k = m.g) (Fr.refl _ _) (fun _ => rfl) _
  have hgt : blk m.ta ≠ some m.g := fun e => by have := h.ct _ e; rw [h.cg] at this; simp at this
  refine ⟨⟨?_, ?_, ?_, h.cg, h.cs, fun k hk => h.ct k (hat k hk)⟩, rfl, hs1.mono (fun i _ e => .inl e), Cl.Le.refl c, fun k hk => by rw [setCell_size]; exact hlt k hk, fun k hk => .inl hk, ?_⟩
  · rw [setCell_row h.at_]; rfl
  · exact h.so.kept hs1 (fun k hk e => by subst e; have := h.cs _ hk; rw [h.cg] at this; simp at this)
  · exact how.kept hs1 (fun k hk e => hgt (e ▸ hat k hk))
  · rintro k (hk | hk | hk)
    · exact .inl (.inl hk)
    · exact .inl (.inr (.inl hk))
    · exact .inl (.inr (.inr (hat k hk)))
theorem Ow.take {base : Nat} {w : World} {a : Option Addr} {c : Nat} {bs : List UInt8} (h : Ow base w a c bs) (k : Nat) : Ow base w a c (bs.take k) := by
  rcases h with ⟨rfl, rfl, rfl⟩ | ⟨g, cur, ty, rfl, hb, hg, hl, hc, hm, ht⟩
  · exact .inl ⟨rfl, rfl, by simp⟩
  · refine .inr ⟨g, cur, ty, rfl, hb, hg, by rw [List.length_take]; omega, hc, hm, ?_⟩
    rw [List.map_take, ← ht, List.take_take, List.length_take]

set_option maxHeartbeats 800000 in
theorem fsize_any (c : Cl) (w : World) (m : FM) (h : Fl c w m) (hb : m.sf.length + m.tl.length ≤ K.cap) :
    Calls Tryz.prog 80 #[.pointer (some ⟨m.g, 0, none⟩)] w fun e w' => e = .returned (.int .i64 ((m.f.len : Nat) : Int)) ∧ ∃ n, w' = w.drewN n := by
  have c0 := h.c0
  have c1 := h.c1
  obtain ⟨sl, hsl⟩ : ∃ sl, sl = m.sf.length := ⟨_, rfl⟩
  obtain ⟨tl, htl⟩ : ∃ tl, tl = m.tl.length := ⟨_, rfl⟩
  have e : m.f.len = sl + tl := by rw [hsl, htl]; rfl
  rw [e]
  rw [← hsl] at c0 hb
  rw [← htl] at c1 hb
  unfold K.cap at hb
  clear e hsl htl h
  generalize m.g = g at c0 c1 ⊢
  generalize m.sa = sa at c0
  generalize m.sc = sc at c0
  generalize m.ta = ta at c1
  generalize m.tc = tc at c1
  go_enter Tryz.func80, Tryz.ntmps80
  go_wp2
  go_quiet (fail)
  go_wp2
  go_ret
  exact ⟨ret_int (by go_num), _, rfl⟩

set_option maxHeartbeats 800000 in
theorem fput_any (c : Cl) (w : World) (m : FM) (h : Fl c w m) (hlt : ∀ k, c k ≠ none → k < w.heap.size) (ba : Option Addr) (bm bc : Nat) (bs : List UInt8) (hb : Sl w ba bm bs) (hbd : m.tl.length + bm ≤ K.cap) :
    Calls Tryz.prog 45 #[.pointer (some ⟨m.g, 0, none⟩), .slice ba bm bc] w fun e w' => (∃ v, e = .returned v) ∧ ∃ c' ta tc, FS c c' w w' m { m with ta := ta, tc := tc, tl := m.tl ++ bs } := by
  have c1 := h.c1
  have f1 := h.fz 1
  obtain ⟨tl, htl⟩ : ∃ tl, m.tl.length = tl := ⟨_, rfl⟩
  rw [htl] at c1 hbd
  have HT := hid htl
  have HF := hid h
  unfold K.cap at hbd
  clear htl h
  go_enter Tryz.func45, Tryz.ntmps45
  go_wp2_with (first | (at_builtin; refine wpList_append_b _ rfl _ _ rfl 0 m.ta tl m.tc m.tl rfl HT.out HF.out.to_ ba bm bc bs rfl hb (by omega) (Nat.zero_le _) ?_; intro a3 c3 w3 how3 hg3 hat3; obtain ⟨k1, k2, k3⟩ := HF.out.put_tail (n3 := tl + bm) hlt how3 hg3 hat3 (by rw [List.length_append, HT.out, hb.1]); have HK := hid k3; clear k3 how3 hg3 hat3))
  go_end0
  exact ⟨⟨_, rfl⟩, _, _, _, HK.out⟩
set_option maxHeartbeats 800000 in
theorem fsave_any (c : Cl) (w : World) (m : FM) (h : Fl c w m) (hlt : ∀ k, c k ≠ none → k < w.heap.size) (ba : Option Addr) (bm bc : Nat) (bs : List UInt8) (hb : Sl w ba bm bs) (hbd : m.sf.length + bm ≤ K.cap) :
    Calls Tryz.prog 90 #[.pointer (some ⟨m.g, 0, none⟩), .slice ba bm bc] w fun e w' => (∃ v, e = .returned v) ∧ ∃ c' sa sc, FS c c' w w' m { m with sa := sa, sc := sc, sf := m.sf ++ bs } := by
  have c1 := h.c0
  have f1 := h.fz 0
  obtain ⟨tl, htl⟩ : ∃ tl, m.sf.length = tl := ⟨_, rfl⟩
  rw [htl] at c1 hbd
  have HT := hid htl
  have HF := hid h
  unfold K.cap at hbd
  clear htl h
  go_enter Tryz.func90, Tryz.ntmps90
  go_wp2_with (first | (at_builtin; refine wpList_append_b _ rfl _ _ rfl 0 m.sa tl m.sc m.sf rfl HT.out HF.out.so ba bm bc bs rfl hb (by omega) (Nat.zero_le _) ?_; intro a3 c3 w3 how3 hg3 hat3; obtain ⟨k1, k2, k3⟩ := HF.out.put_safe (n3 := tl + bm) hlt how3 hg3 hat3 (by rw [List.length_append, HT.out, hb.1]); have HK := hid k3; clear k3 how3 hg3 hat3))
  go_end0
  exact ⟨⟨_, rfl⟩, _, _, _, HK.out⟩

end Go.Proofs.YtogdjhhabcejgaaGreat
