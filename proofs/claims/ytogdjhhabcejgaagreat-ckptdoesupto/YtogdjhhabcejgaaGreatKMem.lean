/-
  The disk in memory: a block of six cells, a map, a block a file, two rows of bytes a file; each block has one owner.
-/
import Derived.Test.YtogdjhhabcejgaaGreatMem
import Derived.Test.YtogdjhhabcejgaaGreatKDisk
import Derived.Maps.RangeWalk
import Derived.Maps.OwnSet
import Derived.Maps.OwnOps
import Derived.Deep.RegionHeld3
import Derived.Deep.QuietTactic
import Derived.BigQuiet
namespace Go.Proofs.YtogdjhhabcejgaaGreat
open Go.RowKit Go.Maps
set_option linter.unusedVariables false

theorem cell_of {w : World} {p j : Nat} {cs : Array Value} {t : TypeId} {m : Nat × Nat} (h : w.heap[p]? = some (.cells cs t m)) {v : Value} (hv : cs[j]? = some v) : w.cell? ⟨p, j, none⟩ = some v := by
  rw [cell_of_row w p j _ _ _ h]; exact hv

/-- who owns a block -/
inductive Col where
  | disk
  | map
  | file
  | safe (g : Nat)
  | tail (g : Nat)
abbrev Cl := Nat → Option Col
/-- .. and one more -/
def Cl.on (c : Cl) (a : Option Addr) (t : Col) : Cl := fun k => if blk a = some k then some t else c k
theorem Cl.on_same (c : Cl) {a : Option Addr} {k : Nat} (h : blk a = some k) (t : Col) : c.on a t k = some t := by simp [Cl.on, h]
theorem Cl.on_other (c : Cl) {a : Option Addr} {k : Nat} (h : blk a ≠ some k) (t : Col) : c.on a t k = c k := by simp [Cl.on, h]
/-- d has all that c has -/
def Cl.Le (c d : Cl) : Prop := ∀ k, c k ≠ none → d k = c k
theorem Cl.Le.refl (c : Cl) : Cl.Le c c := fun _ _ => rfl
theorem Cl.Le.trans {c d e : Cl} (h : Cl.Le c d) (k : Cl.Le d e) : Cl.Le c e := fun i hi => by
  have h1 := h i hi
  rw [k i (by rw [h1]; exact hi), h1]
theorem Cl.Le.some {c d : Cl} (h : Cl.Le c d) {k : Nat} {t : Col} (hk : c k = some t) : d k = some t := by rw [h k (by rw [hk]; simp), hk]

/-- a file in memory -/
structure FM where
  g : Nat
  sa : Option Addr
  sc : Nat
  sf : List UInt8
  ta : Option Addr
  tc : Nat
  tl : List UInt8
def FM.f (m : FM) : K.F := ⟨m.sf, m.tl⟩
/-- its blocks -/
def FM.own (m : FM) (k : Nat) : Prop := k = m.g ∨ blk m.sa = some k ∨ blk m.ta = some k
structure Fl (c : Cl) (w : World) (m : FM) : Prop where
  at_ : w.heap[m.g]? = some (.cells #[.slice m.sa m.sf.length m.sc, .slice m.ta m.tl.length m.tc] 80 (0, 0))
  so : Ow 0 w m.sa m.sc m.sf
  to_ : Ow 0 w m.ta m.tc m.tl
  cg : c m.g = some .file
  cs : ∀ k, blk m.sa = some k → c k = some (.safe m.g)
  ct : ∀ k, blk m.ta = some k → c k = some (.tail m.g)
theorem Fl.c0 {c : Cl} {w : World} {m : FM} (h : Fl c w m) : w.cell? ⟨m.g, 0, none⟩ = some (.slice m.sa m.sf.length m.sc) := cell_of h.at_ rfl
theorem Fl.c1 {c : Cl} {w : World} {m : FM} (h : Fl c w m) : w.cell? ⟨m.g, 1, none⟩ = some (.slice m.ta m.tl.length m.tc) := cell_of h.at_ rfl
theorem Fl.fz {c : Cl} {w : World} {m : FM} (h : Fl c w m) (j : Nat) : w.frozen? ⟨m.g, j, none⟩ = false := frozen_of_row h.at_
theorem Fl.lt {c : Cl} {w : World} {m : FM} (h : Fl c w m) : m.g < w.heap.size := lt_of_row h.at_
theorem Fl.kept {S : Nat → Prop} {c : Cl} {w w' : World} {m : FM} (h : Fl c w m) (hf : Fr S w w') (hS : ∀ k, m.own k → ¬ S k) : Fl c w' m :=
  ⟨hf.cells h.at_ (hS _ (.inl rfl)), h.so.kept hf (fun k hk => hS k (.inr (.inl hk))), h.to_.kept hf (fun k hk => hS k (.inr (.inr hk))), h.cg, h.cs, h.ct⟩
theorem Fl.le {c d : Cl} {w : World} {m : FM} (h : Fl c w m) (hl : Cl.Le c d) : Fl d w m :=
  ⟨h.at_, h.so, h.to_, hl.some h.cg, fun k hk => hl.some (h.cs k hk), fun k hk => hl.some (h.ct k hk)⟩
theorem Fl.own_col {c : Cl} {w : World} {m : FM} (h : Fl c w m) {k : Nat} (hk : m.own k) : c k ≠ none := by
  rcases hk with rfl | hk | hk
  · rw [h.cg]; simp
  · rw [h.cs k hk]; simp
  · rw [h.ct k hk]; simp
/-- two files have no block together -/
theorem Fl.apart {c : Cl} {w w' : World} {m n : FM} (h : Fl c w m) (h' : Fl c w' n) (hne : m.g ≠ n.g) {k : Nat} (hk : m.own k) : ¬ n.own k := by
  intro hn
  have a : c k = some .file ∧ k = m.g ∨ c k = some (.safe m.g) ∨ c k = some (.tail m.g) := by
    rcases hk with rfl | hk | hk
    · exact .inl ⟨h.cg, rfl⟩
    · exact .inr (.inl (h.cs k hk))
    · exact .inr (.inr (h.ct k hk))
  have b : c k = some .file ∧ k = n.g ∨ c k = some (.safe n.g) ∨ c k = some (.tail n.g) := by
    rcases hn with rfl | hn | hn
    · exact .inl ⟨h'.cg, rfl⟩
    · exact .inr (.inl (h'.cs k hn))
    · exact .inr (.inr (h'.ct k hn))
  rcases a with ⟨a, e⟩ | a | a <;> rcases b with ⟨b, e'⟩ | b | b <;> rw [a] at b <;> simp at b
  · exact hne (e.symm.trans e')
  · exact hne b
  · exact hne b

/-- how an element of the map reads: as its block's number -/
def fileElem : Value → Option (DataW Nat × List MemPlace)
  | .pointer (some ⟨g, 0, none⟩) => some (.held g, [])
  | .pointer none => some (.nil, [])
  | _ => none
theorem fileElem_inv {v : Value} {y : DataW Nat × List MemPlace} (h : fileElem v = some y) : (∃ g, v = .pointer (some ⟨g, 0, none⟩) ∧ y = (.held g, [])) ∨ (v = .pointer none ∧ y = (.nil, [])) := by
  unfold fileElem at h
  split at h
  · cases h; exact .inl ⟨_, rfl, rfl⟩
  · cases h; exact .inr ⟨rfl, rfl⟩
  · cases h
theorem keyed : Keyed Tryz.prog 9 := string_keyed Tryz.underlying9
theorem zeroFile (w : World) : (zeroValue 64).run Tryz.prog w = .ok (.pointer none) w := by kernel_rfl
abbrev OM (w : World) (mb : Nat) (l : List (K.Nm × Nat)) : Prop := w.ownsMap Tryz.prog 9 fileElem mb l.length (K.toD l)
theorem OM.tight {w : World} {mb n : Nat} {l : List (K.Nm × Nat)} (h : w.ownsMap Tryz.prog 9 fileElem mb n (K.toD l)) : OM w mb l := by
  obtain ⟨es, clock, hb, F, hs, hD⟩ := h
  refine ⟨es, clock, hb, F, ?_, hD⟩
  have := congrArg Maps.size hD
  rw [K.toD_size, Maps.size_eq, length_read] at this
  omega
theorem OM.kept {S : Nat → Prop} {w w' : World} {mb : Nat} {l : List (K.Nm × Nat)} (h : OM w mb l) (hf : Fr S w w') (hS : ¬ S mb) : OM w' mb l := by
  obtain ⟨es, clock, hb, r⟩ := h
  exact ⟨es, clock, hf.cells hb hS, r⟩
theorem ranges_kept {S : Nat → Prop} {w w' : World} {b r n cnt : Nat} {D : DataW Nat} {left : Lit → Bool} (h : w.ranges Tryz.prog 9 fileElem b r n D left cnt) (hf : Fr S w w') (hb : ¬ S b) (hr : ¬ S r) : w'.ranges Tryz.prog 9 fileElem b r n D left cnt := by
  obtain ⟨es, clock, since, seen, c0, h1, h2, h3, h4, h5, h6⟩ := h
  exact ⟨es, clock, since, seen, c0, hf.cells h1 hb, h2, h3, h4, hf.cells h5 hr, h6⟩

/-- 'm[k]' AT THE OPERATION: the file's block. -/
theorem wpList_lookup_file (w : World) {ops : Array Oper} {rest : List Oper} {o : Oper} {a : Act} {Q : Exit → Act → World → Prop} (hgd : o.guard = none) (m x : Operand)
    (hop : o.op = Op.lookup 42 m x false) (mb : Nat) (l : List (K.Nm × Nat)) (hm : a.eval m = .map (some mb)) (hown : OM w mb l) (s : ByteArray) (hx : a.eval x = .string s) (hs : s.size ≤ maxLen)
    (og : Option Nat) (hg : K.get s.data.toList l = og)
    (hK : wpList Tryz.prog ops Q rest (a.put o.dst (.pointer (og.map fun g => ⟨g, 0, none⟩))) w) : wpList Tryz.prog ops Q (o :: rest) a w := by
  refine wpList_plain hgd fun K' hK' => ?_
  obtain ⟨v, ps, hrun, hR⟩ := hown.lookup keyed Tryz.underlying42 (zeroFile w) (zd := .nil) (zp := []) rfl (WideMaps.keyOf_string_mk Tryz.underlying9 hs)
  rw [K.toD_at, hg] at hR
  have hv : v = .pointer (og.map fun g => ⟨g, 0, none⟩) := by
    rcases fileElem_inv hR with ⟨g, rfl, e⟩ | ⟨rfl, e⟩
    · cases og with
      | none => simp at e
      | some g' => simp at e; rw [e.1]; rfl
    · cases og with
      | none => rfl
      | some g' => simp at e
  subst hv
  unfold Oper.wp
  simp [execOp, hop, hm, hx, hrun, Result.andThen]
  exact hK' _ _ hK

/-- the colours that a set holds -/
structure Du (c : Cl) (w : World) (p mb : Nat) (l : List (K.Nm × FM)) (d : K.DK) (u : Int) : Prop where
  at_ : w.heap[p]? = some (.cells #[.int .i64 d.room, .int .i64 u, .map (some mb), .int .i64 d.left, .int .i64 d.keep, .bool d.down] 46 (0, 0))
  cp : c p = some .disk
  cm : c mb = some .map
  mp : OM w mb (K.mp FM.g l)
  fl : ∀ q ∈ l, Fl c w q.2
  inj : ∀ q ∈ l, ∀ r ∈ l, q.2.g = r.2.g → q = r
  fs : K.mp FM.f l = d.fs
  lt : ∀ k, c k ≠ none → k < w.heap.size
/-- .. where the bytes are counted as they are -/
abbrev Dm (c : Cl) (w : World) (p mb : Nat) (l : List (K.Nm × FM)) (d : K.DK) : Prop := Du c w p mb l d (d.used : Nat)
theorem Du.kept {S : Nat → Prop} {c : Cl} {w w' : World} {p mb : Nat} {l : List (K.Nm × FM)} {d : K.DK} {u : Int} (h : Du c w p mb l d u) (hf : Fr S w w') (hS : ∀ k, c k ≠ none → ¬ S k) : Du c w' p mb l d u :=
  ⟨hf.cells h.at_ (hS p (by rw [h.cp]; simp)), h.cp, h.cm, h.mp.kept hf (hS mb (by rw [h.cm]; simp)), fun q hq => (h.fl q hq).kept hf (fun k hk => hS k ((h.fl q hq).own_col hk)), h.inj, h.fs, fun k hk => Nat.lt_of_lt_of_le (h.lt k hk) hf.size⟩
theorem Du.ne {c : Cl} {w : World} {p mb : Nat} {l : List (K.Nm × FM)} {d : K.DK} {u : Int} (h : Du c w p mb l d u) {q : K.Nm × FM} (hq : q ∈ l) : ¬ q.2.own p ∧ ¬ q.2.own mb := by
  have hF := h.fl q hq
  have hp := h.cp
  have hm := h.cm
  constructor <;> intro e <;> rcases e with e | e | e
  · rw [e, hF.cg] at hp; simp at hp
  · rw [hF.cs _ e] at hp; simp at hp
  · rw [hF.ct _ e] at hp; simp at hp
  · rw [e, hF.cg] at hm; simp at hm
  · rw [hF.cs _ e] at hm; simp at hm
  · rw [hF.ct _ e] at hm; simp at hm
theorem Du.up {c : Cl} {w : World} {p mb : Nat} {l : List (K.Nm × FM)} {d : K.DK} {u : Int} (h : Du c w p mb l d u) (hu : K.Up d.fs) : K.Up l := by
  rw [← h.fs] at hu; exact hu.of_mp
/-- one file has turned -/
theorem Du.step {c c' : Cl} {w w' : World} {p mb : Nat} {l : List (K.Nm × FM)} {d : K.DK} {u : Int} (h : Du c w p mb l d u) (hu : K.Up l) {n : K.Nm} {m m' : FM} (hq : (n, m) ∈ l) (hg : m'.g = m.g) (hf : Fr m.own w w') (hl : Cl.Le c c') (h' : Fl c' w' m') (hlt : ∀ k, c' k ≠ none → k < w'.heap.size) :
    Du c' w' p mb (K.upd n m' l) { d with fs := K.upd n m'.f d.fs } u := by
  have hne := h.ne hq
  refine ⟨hf.cells h.at_ hne.1, hl.some h.cp, hl.some h.cm, ?_, ?_, ?_, ?_, hlt⟩
  · have e : K.mp FM.g (K.upd n m' l) = K.mp FM.g l := by
      rw [K.mp_upd, hg]
      exact K.upd_same (hu.mp _) (K.mem_mp.2 ⟨_, hq, rfl⟩)
    rw [e]
    exact h.mp.kept hf hne.2
  · intro q hq'
    rcases K.mem_upd.1 hq' with ⟨rfl, _⟩ | ⟨hq', hn⟩
    · exact h'
    · have hgn : q.2.g ≠ m.g := fun e => hn (by have := h.inj q hq' _ hq e; rw [this])
      exact ((h.fl q hq').kept hf (fun k hk => (h.fl q hq').apart (h.fl _ hq) hgn hk)).le hl
  · intro q hq' r hr' e
    rcases K.mem_upd.1 hq' with ⟨rfl, _⟩ | ⟨hq', hn⟩
    · rcases K.mem_upd.1 hr' with ⟨rfl, _⟩ | ⟨hr', hn'⟩
      · rfl
      · simp only [hg] at e
        exact absurd (by rw [← h.inj _ hq _ hr' e]) hn'
    · rcases K.mem_upd.1 hr' with ⟨rfl, _⟩ | ⟨hr', hn'⟩
      · simp only [hg] at e
        exact absurd (by rw [h.inj _ hq' _ hq e]) hn
      · exact h.inj _ hq' _ hr' e
  · rw [K.mp_upd, h.fs]

/-- THE DISK: it lies in S's blocks; it is d. -/
def Dk (S : Nat → Prop) (w : World) (p : Nat) (d : K.DK) : Prop := (∀ k, S k → k < w.heap.size) ∧ K.Ok d ∧ ∃ c mb l, (∀ k, c k ≠ none → S k) ∧ Dm c w p mb l d
/-- S, and what is new -/
def Nx (S : Nat → Prop) (w w' : World) : Nat → Prop := fun k => (S k ∨ w.heap.size ≤ k) ∧ k < w'.heap.size
theorem Dk.kept {S T : Nat → Prop} {w w' : World} {p : Nat} {d : K.DK} (h : Dk S w p d) (hf : Fr T w w') (hS : ∀ k, S k → ¬ T k) : Dk S w' p d := by
  obtain ⟨h1, h2, c, mb, l, h3, h4⟩ := h
  exact ⟨fun k hk => Nat.lt_of_lt_of_le (h1 k hk) hf.size, h2, c, mb, l, h3, h4.kept hf (fun k hk => hS k (h3 k hk))⟩
theorem Dk.mono {S T : Nat → Prop} {w : World} {p : Nat} {d : K.DK} (h : Dk S w p d) (hT : ∀ k, S k → T k) (hlt : ∀ k, T k → k < w.heap.size) : Dk T w p d := by
  obtain ⟨h1, h2, c, mb, l, h3, h4⟩ := h
  exact ⟨hlt, h2, c, mb, l, fun k hk => hT k (h3 k hk), h4⟩
theorem Nx.of {S : Nat → Prop} {w w' : World} (hS : ∀ k, S k → k < w.heap.size) (hle : w.heap.size ≤ w'.heap.size) : ∀ k, S k → Nx S w w' k := fun k hk => ⟨.inl hk, Nat.lt_of_lt_of_le (hS k hk) hle⟩
theorem Nx.lt {S : Nat → Prop} {w w' : World} : ∀ k, Nx S w w' k → k < w'.heap.size := fun _ h => h.2

theorem Nx.trans {S : Nat → Prop} {w w1 w2 : World} (hf : w.heap.size ≤ w1.heap.size) : ∀ k, Nx (Nx S w w1) w1 w2 k → Nx S w w2 k := fun k hk => by
  refine ⟨?_, hk.2⟩
  rcases hk.1 with h | h
  · exact h.1
  · exact .inr (Nat.le_trans hf h)

end Go.Proofs.YtogdjhhabcejgaaGreat
