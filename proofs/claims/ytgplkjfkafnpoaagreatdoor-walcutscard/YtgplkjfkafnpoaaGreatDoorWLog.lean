/-
  A log, plainly; and in memory.
-/
import Derived.Test.YtgplkjfkafnpoaaGreatDoorWRow
import Derived.Test.YtgplkjfkafnpoaaGreatDoorWSeg
import Derived.Test.YtgplkjfkafnpoaaGreatDoorWFrames
import Derived.Test.YtgplkjfkafnpoaaGreatDoorKMore2
namespace Go.Proofs.YtgplkjfkafnpoaaGreatDoor
open Go.RowKit
set_option linter.unusedVariables false
namespace W
structure SG where
  first : Int
  recs : List (List UInt8)
/-- a log -/
structure LG where
  nm : List UInt8
  segs : List SG
  next : Int
  synced : Int
  dirty : Bool
  spoilt : Bool
def LG.file (L : LG) (f : Int) : List UInt8 := seg L.nm f
def LG.cnt (L : LG) : Nat := L.segs.length + (L.segs.map (fun s => s.recs.length)).sum
/-- the last segment is synced, if something was appended to it -/
def clean (d : K.DK) (L : LG) : Int × K.DK × LG :=
  if L.dirty = true then
    match L.segs.getLast? with
    | some s => if (K.syn d (L.file s.first)).1 ≠ 0 then ((K.syn d (L.file s.first)).1, (K.syn d (L.file s.first)).2, L) else (0, (K.syn d (L.file s.first)).2, { L with dirty := false })
    | none => (0, d, L)
  else (0, d, L)
/-- where the next record goes: into a new segment? -/
def place (d : K.DK) (L : LG) : Int × Bool × K.DK × LG :=
  match L.segs.getLast? with
  | none => (0, true, d, L)
  | some s =>
    match K.get (L.file s.first) d.fs with
    | some f => if K.fnd d (L.file s.first) ≠ 0 then (K.fnd d (L.file s.first), false, d, L) else if f.len < 1024 then (0, false, d, L) else ((clean d L).1, true, (clean d L).2.1, (clean d L).2.2)
    | none => (K.fnd d (L.file s.first), false, d, L)
/-- a record more in the last segment -/
def more : List SG → List UInt8 → List SG
  | [], _ => []
  | [s], r => [⟨s.first, s.recs ++ [r]⟩]
  | s :: t, r => s :: more t r
/-- the number of the segment that the record goes into -/
def LG.at_ (L : LG) (new : Bool) : Int := if new then L.next else match L.segs.getLast? with | some s => s.first | none => L.next
def LG.add (L : LG) (new : Bool) (r : List UInt8) : LG := { L with segs := if new then L.segs ++ [⟨L.next, [r]⟩] else more L.segs r, next := L.next + 1, dirty := true }
def put (d : K.DK) (L : LG) (r : List UInt8) : Int × K.DK × LG :=
  let a := place d L
  if a.1 ≠ 0 then (a.1, a.2.2.1, a.2.2.2) else
  let b := K.app a.2.2.1 (a.2.2.2.file (a.2.2.2.at_ a.2.1)) (M.frame r)
  if b.1 ≠ 0 then (b.1, b.2, a.2.2.2) else (0, b.2, a.2.2.2.add a.2.1 r)
def puts : K.DK → LG → List (List UInt8) → Int × K.DK × LG
  | d, L, [] => (0, d, L)
  | d, L, r :: rs => if (put d L r).1 ≠ 0 then ((put d L r).1, (put d L r).2.1, { (put d L r).2.2 with spoilt := true }) else puts (put d L r).2.1 (put d L r).2.2 rs
def badRec (r : List UInt8) : Bool := decide (r.length = 0 ∨ 65536 < r.length)
def app (d : K.DK) (L : LG) (rs : List (List UInt8)) : Int × K.DK × LG :=
  if L.spoilt = true then (51, d, L) else if rs.any badRec = true then (50, d, L) else if rs ≠ [] ∧ 999999999999 < IntKind.i64.wrap (IntKind.i64.wrap (L.next + rs.length) - 1) then (3, d, L) else puts d L rs
def sync (d : K.DK) (L : LG) : Int × K.DK × LG :=
  if L.spoilt = true then (51, d, L) else if (clean d L).1 ≠ 0 then ((clean d L).1, (clean d L).2.1, { (clean d L).2.2 with spoilt := true }) else (0, (clean d L).2.1, { (clean d L).2.2 with synced := (clean d L).2.2.next })
/-- what is true of every log -/
structure Ok (L : LG) : Prop where
  nm : isNm L.nm = true
  n0 : 0 ≤ L.next
  n1 : L.next ≤ 1000000000000
  fs : ∀ s ∈ L.segs, 0 ≤ s.first ∧ s.first ≤ 999999999999
  di : L.dirty = true → L.segs ≠ []
end W

/-- who owns a block -/
inductive LC where
  | log
  | segs
  | recs (i : Nat)
  | byte
/-- a record in memory -/
structure RcM where
  a : Option Addr
  c : Nat
  b : List UInt8
def RcM.v (r : RcM) : Value := .slice r.a r.b.length r.c
/-- a segment in memory -/
structure SM where
  first : Int
  ra : Option Addr
  rc : Nat
  rl : List RcM
def SM.sg (s : SM) : W.SG := ⟨s.first, s.rl.map RcM.b⟩
def SM.cs (s : SM) : List Value := [.int .i64 s.first, .slice s.ra s.rl.length s.rc]
def scs (l : List SM) : List Value := l.flatMap SM.cs
theorem scs_length (l : List SM) : (scs l).length = l.length * 2 := by
  induction l with
  | nil => rfl
  | cons m r ih => simp only [scs, List.flatMap_cons, List.length_append, List.length_cons] at ih ⊢; rw [ih]; simp [SM.cs]; omega
theorem scs_append (l l' : List SM) : scs (l ++ l') = scs l ++ scs l' := by simp [scs]
theorem scs_at {l : List SM} {i : Nat} {m : SM} (h : l[i]? = some m) : (scs l)[i * 2]? = some (.int .i64 m.first) ∧ (scs l)[i * 2 + 1]? = some (.slice m.ra m.rl.length m.rc) := by
  induction l generalizing i with
  | nil => simp at h
  | cons x r ih =>
    cases i with
    | zero =>
      simp at h
      subst h
      simp [scs, SM.cs]
    | succ i =>
      simp at h
      have := ih h
      have e : ∀ j, (scs (x :: r))[(i + 1) * 2 + j]? = (scs r)[i * 2 + j]? := fun j => by
        simp only [scs, List.flatMap_cons]
        rw [List.getElem?_append_right (by simp [SM.cs]; omega)]
        congr 1
        simp [SM.cs]
        omega
      exact ⟨by rw [show (i + 1) * 2 = (i + 1) * 2 + 0 from rfl, e]; exact this.1, by rw [e]; exact this.2⟩
theorem one_scs (l : List SM) : ∀ u ∈ scs l, u.oneCell' = true := by
  intro u hu
  simp only [scs, List.mem_flatMap] at hu
  obtain ⟨m, _, hu⟩ := hu
  simp [SM.cs] at hu
  rcases hu with rfl | rfl <;> rfl
theorem one_rcv (l : List RcM) : ∀ u ∈ l.map RcM.v, u.oneCell' = true := by
  intro u hu
  obtain ⟨_, _, rfl⟩ := List.mem_map.1 hu
  rfl
theorem ownsRow_kept {S : Nat → Prop} {w w' : World} {e : TypeId} {k : Nat} {a : Option Addr} {n c : Nat} {xs : List Value} (h : w.ownsRow 0 e k (.slice a n c) n xs) (hf : Fr S w w') (hS : ∀ j, blk a = some j → ¬ S j) : w'.ownsRow 0 e k (.slice a n c) n xs := by
  refine ⟨h.1, ?_⟩
  rcases h.2 with h0 | ⟨g, cap, cur, hv, hb, hg, r⟩
  · exact .inl h0
  · refine .inr ⟨g, cap, cur, hv, hb, hf.cells hg (fun hs => hS g ?_ hs), r⟩
    simp only [Value.slice.injEq] at hv
    rw [hv.1]
    rfl
theorem ownsRow_cell {w : World} {e : TypeId} {k : Nat} {a : Option Addr} {n c : Nat} {xs : List Value} (h : w.ownsRow 0 e k (.slice a n c) n xs) {j : Nat} {u : Value} (hu : xs[j]? = some u) : ∃ g, a = some ⟨g, 0, none⟩ ∧ w.cell? ⟨g, j, none⟩ = some u := by
  rcases h.2 with ⟨hv, h0⟩ | ⟨g, cap, cur, hv, hb, hg, _, _, _, h4⟩
  · have : xs = [] := List.eq_nil_of_length_eq_zero (by rw [h.1, h0]; simp)
    subst this
    simp at hu
  · simp only [Value.slice.injEq] at hv
    refine ⟨g, hv.1, ?_⟩
    rw [← h4, List.getElem?_take] at hu
    split at hu
    · exact cell_of hg (by simpa using hu)
    · cases hu
/-- a segment in memory, the i-th -/
structure Sg (c : Nat → Option LC) (w : World) (i : Nat) (s : SM) : Prop where
  row : w.ownsRow 0 50 1 (.slice s.ra s.rl.length s.rc) s.rl.length (s.rl.map RcM.v)
  cr : ∀ k, blk s.ra = some k → c k = some (.recs i)
  by_ : ∀ r ∈ s.rl, Sl w r.a r.b.length r.b
  cb : ∀ r ∈ s.rl, 0 < r.b.length → ∀ k, blk r.a = some k → c k = some .byte
theorem Sg.kept {S : Nat → Prop} {c : Nat → Option LC} {w w' : World} {i : Nat} {s : SM} (h : Sg c w i s) (hf : Fr S w w') (hS : ∀ k, c k = some (.recs i) ∨ c k = some .byte → ¬ S k) : Sg c w' i s :=
  ⟨ownsRow_kept h.row hf (fun k hk => hS k (.inl (h.cr k hk))), h.cr, fun r hr => (h.by_ r hr).kept hf (fun hz k hk => hS k (.inr (h.cb r hr hz k hk))), h.cb⟩
theorem Sg.le {c c' : Nat → Option LC} {w : World} {i : Nat} {s : SM} (h : Sg c w i s) (hl : ∀ k, c k ≠ none → c' k = c k) : Sg c' w i s :=
  ⟨h.row, fun k hk => by have := h.cr k hk; rw [hl k (by rw [this]; simp)]; exact this, h.by_, fun r hr hz k hk => by have := h.cb r hr hz k hk; rw [hl k (by rw [this]; simp)]; exact this⟩
/-- the log in memory -/
structure Lm (c : Nat → Option LC) (w : World) (q p : Nat) (sa : Option Addr) (sc : Nat) (sl : List SM) (L : W.LG) : Prop where
  at_ : w.heap[q]? = some (.cells #[.pointer (some ⟨p, 0, none⟩), encStr L.nm, .slice sa sl.length sc, .int .i64 L.next, .int .i64 L.synced, .bool L.dirty, .bool L.spoilt] 61 (0, 0))
  row : Ro w 112 2 sa sl.length sc (scs sl)
  cq : c q = some .log
  cs : ∀ k, blk sa = some k → c k = some .segs
  sg : ∀ i s, sl[i]? = some s → Sg c w i s
  eq : sl.map SM.sg = L.segs
  lt : ∀ k, c k ≠ none → k < w.heap.size
theorem Lm.kept {S : Nat → Prop} {c : Nat → Option LC} {w w' : World} {q p : Nat} {sa : Option Addr} {sc : Nat} {sl : List SM} {L : W.LG} (h : Lm c w q p sa sc sl L) (hf : Fr S w w') (hS : ∀ k, c k ≠ none → ¬ S k) : Lm c w' q p sa sc sl L :=
  ⟨hf.cells h.at_ (hS q (by rw [h.cq]; simp)), h.row.kept hf (fun k hk => hS k (by rw [h.cs k hk]; simp)), h.cq, h.cs, fun i s hi => (h.sg i s hi).kept hf (fun k hk => hS k (by rcases hk with e | e <;> rw [e] <;> simp)), h.eq, fun k hk => Nat.lt_of_lt_of_le (h.lt k hk) hf.size⟩
theorem Lm.k {c : Nat → Option LC} {w : World} {q p : Nat} {sa : Option Addr} {sc : Nat} {sl : List SM} {L : W.LG} (h : Lm c w q p sa sc sl L) : w.cell? ⟨q, 0, none⟩ = some (.pointer (some ⟨p, 0, none⟩)) ∧ w.cell? ⟨q, 1, none⟩ = some (encStr L.nm) ∧ w.cell? ⟨q, 2, none⟩ = some (.slice sa sl.length sc) ∧ w.cell? ⟨q, 3, none⟩ = some (.int .i64 L.next) ∧ w.cell? ⟨q, 4, none⟩ = some (.int .i64 L.synced) ∧ w.cell? ⟨q, 5, none⟩ = some (.bool L.dirty) ∧ w.cell? ⟨q, 6, none⟩ = some (.bool L.spoilt) :=
  ⟨cell_of h.at_ rfl, cell_of h.at_ rfl, cell_of h.at_ rfl, cell_of h.at_ rfl, cell_of h.at_ rfl, cell_of h.at_ rfl, cell_of h.at_ rfl⟩
/-- the log's own cells are others -/
theorem Lm.own {c : Nat → Option LC} {w w' : World} {q p : Nat} {sa : Option Addr} {sc : Nat} {sl : List SM} {L L' : W.LG} (h : Lm c w q p sa sc sl L) (hf : Fr (fun k => k = q) w w') (hat : w'.heap[q]? = some (.cells #[.pointer (some ⟨p, 0, none⟩), encStr L'.nm, .slice sa sl.length sc, .int .i64 L'.next, .int .i64 L'.synced, .bool L'.dirty, .bool L'.spoilt] 61 (0, 0))) (he : L'.segs = L.segs) : Lm c w' q p sa sc sl L' :=
  ⟨hat, h.row.kept hf (fun k hk e => by have := h.cs k hk; rw [e, h.cq] at this; simp at this), h.cq, h.cs, fun i s hi => (h.sg i s hi).kept hf (fun k hk e => by rw [e, h.cq] at hk; simp at hk), h.eq.trans he.symm, fun k hk => Nat.lt_of_lt_of_le (h.lt k hk) hf.size⟩
/-- the last segment -/
theorem Lm.last {c : Nat → Option LC} {w : World} {q p : Nat} {sa : Option Addr} {sc : Nat} {sl : List SM} {L : W.LG} (h : Lm c w q p sa sc sl L) {s : W.SG} (hs : L.segs.getLast? = some s) : ∃ g fo m, sa = some ⟨g, fo, none⟩ ∧ sl[sl.length - 1]? = some m ∧ m.sg = s ∧ 0 < sl.length ∧ w.cell? ⟨g, fo + (sl.length - 1) * 2, none⟩ = some (.int .i64 s.first) ∧ w.cell? ⟨g, fo + (sl.length - 1) * 2 + 1, none⟩ = some (.slice m.ra m.rl.length m.rc) := by
  rw [← h.eq, List.getLast?_map, Option.map_eq_some_iff] at hs
  obtain ⟨m, hm, rfl⟩ := hs
  rw [List.getLast?_eq_getElem?] at hm
  have hl := (List.getElem?_eq_some_iff.1 hm).1
  have ha := scs_at hm
  obtain ⟨g, fo, rfl⟩ := h.row.some_of (by omega)
  exact ⟨g, fo, m, rfl, hm, rfl, by omega, h.row.cell ha.1, h.row.cell ha.2⟩
/-- THE LOG lies in S's blocks; it is L, on the disk p. -/
def Lk (S : Nat → Prop) (w : World) (q p : Nat) (L : W.LG) : Prop := (∀ k, S k → k < w.heap.size) ∧ W.Ok L ∧ ∃ c sa sc sl, (∀ k, c k ≠ none → S k) ∧ Lm c w q p sa sc sl L
theorem Lk.kept {S T : Nat → Prop} {w w' : World} {q p : Nat} {L : W.LG} (h : Lk S w q p L) (hf : Fr T w w') (hS : ∀ k, S k → ¬ T k) : Lk S w' q p L := by
  obtain ⟨h1, h2, c, sa, sc, sl, h3, h4⟩ := h
  exact ⟨fun k hk => Nat.lt_of_lt_of_le (h1 k hk) hf.size, h2, c, sa, sc, sl, h3, h4.kept hf (fun k hk => hS k (h3 k hk))⟩
theorem Lk.mono {S T : Nat → Prop} {w : World} {q p : Nat} {L : W.LG} (h : Lk S w q p L) (hT : ∀ k, S k → T k) (hlt : ∀ k, T k → k < w.heap.size) : Lk T w q p L := by
  obtain ⟨h1, h2, c, sa, sc, sl, h3, h4⟩ := h
  exact ⟨hlt, h2, c, sa, sc, sl, fun k hk => hT k (h3 k hk), h4⟩
/-- DISK AND LOG, apart, within S. -/
def LD (S : Nat → Prop) (w : World) (p q : Nat) (d : K.DK) (L : W.LG) : Prop :=
  (∀ k, S k → k < w.heap.size) ∧ ∃ Sd Sl : Nat → Prop, (∀ k, Sd k → S k) ∧ (∀ k, Sl k → S k) ∧ (∀ k, Sd k → ¬ Sl k) ∧ Dk Sd w p d ∧ Lk Sl w q p L
/-- both have turned, they alone -/
def LT (S : Nat → Prop) (w : World) (p q : Nat) (d' : K.DK) (L' : W.LG) (w' : World) : Prop := LD (Nx S w w') w' p q d' L' ∧ Fr S w w'
theorem LD.kept {S T : Nat → Prop} {w w' : World} {p q : Nat} {d : K.DK} {L : W.LG} (h : LD S w p q d L) (hf : Fr T w w') (hS : ∀ k, S k → ¬ T k) : LD S w' p q d L := by
  obtain ⟨h1, Sd, Sl, h2, h3, h4, h5, h6⟩ := h
  exact ⟨fun k hk => Nat.lt_of_lt_of_le (h1 k hk) hf.size, Sd, Sl, h2, h3, h4, h5.kept hf (fun k hk => hS k (h2 k hk)), h6.kept hf (fun k hk => hS k (h3 k hk))⟩
theorem LD.mono {S T : Nat → Prop} {w : World} {p q : Nat} {d : K.DK} {L : W.LG} (h : LD S w p q d L) (hT : ∀ k, S k → T k) (hlt : ∀ k, T k → k < w.heap.size) : LD T w p q d L := by
  obtain ⟨h1, Sd, Sl, h2, h3, r⟩ := h
  exact ⟨hlt, Sd, Sl, fun k hk => hT k (h2 k hk), fun k hk => hT k (h3 k hk), r⟩
theorem LT.refl {S : Nat → Prop} {w w' : World} {p q : Nat} {d : K.DK} {L : W.LG} (h : LD S w p q d L) (hf : Fr (fun _ => False) w w') : LT S w p q d L w' :=
  ⟨(h.kept hf (fun _ _ h => h)).mono (Nx.of h.1 hf.size) Nx.lt, hf.mono (fun _ _ h => h.elim)⟩
theorem Nx.trans {S : Nat → Prop} {w w1 w2 : World} (hf : w.heap.size ≤ w1.heap.size) : ∀ k, Nx (Nx S w w1) w1 w2 k → Nx S w w2 k := fun k hk => by
  refine ⟨?_, hk.2⟩
  rcases hk.1 with h | h
  · exact h.1
  · exact .inr (Nat.le_trans hf h)
theorem LT.trans {S : Nat → Prop} {w w1 w2 : World} {p q : Nat} {d1 d2 : K.DK} {L1 L2 : W.LG} (h : LT S w p q d1 L1 w1) (k : LT (Nx S w w1) w1 p q d2 L2 w2) : LT S w p q d2 L2 w2 :=
  ⟨k.1.mono (Nx.trans h.2.size) Nx.lt, h.2.trans k.2 (fun i hi e => e.1.resolve_right (by omega))⟩
/-- the disk alone has turned -/
theorem LD.disk {S Sd Sl : Nat → Prop} {w w' : World} {p q : Nat} {d' : K.DK} {L : W.LG} (h1 : ∀ k, S k → k < w.heap.size) (h2 : ∀ k, Sd k → S k) (h3 : ∀ k, Sl k → S k) (h4 : ∀ k, Sd k → ¬ Sl k) (h6 : Lk Sl w q p L) (ht : Td Sd w p d' w') : LT S w p q d' L w' := by
  refine ⟨⟨Nx.lt, Nx Sd w w', Sl, fun k hk => ⟨hk.1.imp (h2 k) id, hk.2⟩, fun k hk => Nx.of h1 ht.2.size k (h3 k hk), fun k hk hs => ?_, ht.1, h6.kept ht.2 (fun k hk e => h4 k e hk)⟩, ht.2.mono (fun i _ e => h2 i e)⟩
  rcases hk.1 with e | e
  · exact h4 k e hs
  · have := h6.1 k hs; omega
/-- the log alone has turned, in its blocks and new ones -/
theorem LD.log {S Sd Sl : Nat → Prop} {w w' : World} {p q : Nat} {d : K.DK} {L' : W.LG} (h1 : ∀ k, S k → k < w.heap.size) (h2 : ∀ k, Sd k → S k) (h3 : ∀ k, Sl k → S k) (h4 : ∀ k, Sd k → ¬ Sl k) (h5 : Dk Sd w p d) (hf : Fr Sl w w') (h6 : Lk (Nx Sl w w') w' q p L') : LT S w p q d L' w' := by
  refine ⟨⟨Nx.lt, Sd, Nx Sl w w', fun k hk => Nx.of h1 hf.size k (h2 k hk), fun k hk => ⟨hk.1.imp (h3 k) id, hk.2⟩, fun k hk hs => ?_, h5.kept hf (fun k hk e => h4 k hk e), h6⟩, hf.mono (fun i _ e => h3 i e)⟩
  rcases hs.1 with e | e
  · exact h4 k hk e
  · have := h5.1 k hk; omega

/-- first the disk, then the log -/
theorem LD.both {S Sd Sl : Nat → Prop} {w w3 w4 : World} {p q : Nat} {d' : K.DK} {L' : W.LG} (h1 : ∀ k, S k → k < w.heap.size) (h2 : ∀ k, Sd k → S k) (h3 : ∀ k, Sl k → S k) (h4 : ∀ k, Sd k → ¬ Sl k) (ht : Td Sd w p d' w3) (hf : Fr Sl w3 w4) (h6 : Lk (Nx Sl w3 w4) w4 q p L') : LT S w p q d' L' w4 := by
  have hle := ht.2.size
  have hdis : ∀ k, Nx Sd w w3 k → ¬ Sl k := fun k hk hs => by
    rcases hk.1 with e | e
    · exact h4 k e hs
    · have := h1 k (h3 k hs); omega
  refine ⟨⟨Nx.lt, Nx Sd w w3, Nx Sl w3 w4, fun k hk => ⟨hk.1.imp (h2 k) id, Nat.lt_of_lt_of_le hk.2 hf.size⟩, fun k hk => ⟨hk.1.imp (h3 k) (Nat.le_trans hle), hk.2⟩, fun k hk hs => ?_, ht.1.kept hf (fun k hk e => hdis k hk e), h6⟩, (ht.2.mono (fun i _ e => h2 i e)).trans hf (fun i _ e => h3 i e)⟩
  rcases hs.1 with e | e
  · exact hdis k hk e
  · have := hk.2; omega
theorem Td.pre' {S : Nat → Prop} {w w1 w' : World} {p : Nat} {d : K.DK} (hf : Fr (fun _ => False) w w1) (h : Td S w1 p d w') : Td S w p d w' :=
  ⟨h.1.mono (fun k hk => ⟨hk.1.imp id (Nat.le_trans hf.size), hk.2⟩) Nx.lt, (hf.mono (T := S) (fun _ _ h => h.elim)).trans h.2 (fun _ _ h => h)⟩
/-- the log's own cells alone, in the same blocks -/
theorem Lm.lk {S : Nat → Prop} {c : Nat → Option LC} {w w' : World} {q p : Nat} {sa : Option Addr} {sc : Nat} {sl : List SM} {L L' : W.LG} (hS : ∀ k, S k → k < w.heap.size) (hc : ∀ k, c k ≠ none → S k) (h : Lm c w q p sa sc sl L) (hf : Fr (fun k => k = q) w w') (hat : w'.heap[q]? = some (.cells #[.pointer (some ⟨p, 0, none⟩), encStr L'.nm, .slice sa sl.length sc, .int .i64 L'.next, .int .i64 L'.synced, .bool L'.dirty, .bool L'.spoilt] 61 (0, 0))) (he : L'.segs = L.segs) (ho : W.Ok L') : Lk (Nx S w w') w' q p L' ∧ Fr S w w' :=
  ⟨⟨Nx.lt, ho, c, sa, sc, sl, fun k hk => Nx.of hS hf.size k (hc k hk), h.own hf hat he⟩, hf.mono (fun i _ e => hc i (by rw [e, h.cq]; simp))⟩

end Go.Proofs.YtgplkjfkafnpoaaGreatDoor
