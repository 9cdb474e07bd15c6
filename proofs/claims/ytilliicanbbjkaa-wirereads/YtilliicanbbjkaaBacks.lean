/-
  Parts that were put, kept in a row, and what they are read as again.
-/
import Derived.Test.YtilliicanbbjkaaPuts
import Derived.Test.YtilliicanbbjkaaOpenParts
import Derived.Test.YtilliicanbbjkaaMaths2
import Derived.Maps.AppendAt
namespace Go.Proofs.Ytilliicanbbjkaa
open Go.RowKit
set_option linter.unusedVariables false

theorem size_al (w : World) (o : Obj) : (w.alloc o).heap.size = w.heap.size + 1 := by simp
/-- a part as it lies in memory -/
structure Rp where
  k : Int
  n : Int
  A : Option Addr
  L : Nat
  C : Nat
  bs : List UInt8
def Rp.cells (q : Rp) : List Value := [.int .i64 q.k, .int .i64 q.n, .slice q.A q.L q.C]
def Rp.enc (q : Rp) : List UInt8 := partEnc q.k q.n q.bs
def Rp.ok (w : World) (q : Rp) : Prop := Sl w q.A q.L q.bs ∧ q.L ≤ q.C ∧ q.L ≤ 140737488351232 ∧ -9223372036854775808 ≤ q.n ∧ q.n ≤ 9223372036854775807
def encs (qs : List Rp) : List UInt8 := (qs.map Rp.enc).flatten
def cellsR (qs : List Rp) : List Value := (qs.map Rp.cells).flatten
theorem encs_snoc (qs : List Rp) (q : Rp) : encs (qs ++ [q]) = encs qs ++ q.enc := by simp [encs]
theorem cellsR_snoc (qs : List Rp) (q : Rp) : cellsR (qs ++ [q]) = cellsR qs ++ q.cells := by simp [cellsR]
theorem cellsR_length (qs : List Rp) : (cellsR qs).length = qs.length * 3 := by
  induction qs with
  | nil => rfl
  | cons q qs ih =>
    have : cellsR (q :: qs) = q.cells ++ cellsR qs := rfl
    rw [this, List.length_append, ih, List.length_cons]
    simp [Rp.cells]; omega
theorem cellsR_at (qs : List Rp) (i : Nat) (q : Rp) (h : qs[i]? = some q) (j : Nat) (hj : j < 3) : (cellsR qs)[i * 3 + j]? = q.cells[j]? := by
  induction qs generalizing i with
  | nil => simp at h
  | cons q0 qs ih =>
    have e : cellsR (q0 :: qs) = q0.cells ++ cellsR qs := rfl
    have hl : q0.cells.length = 3 := rfl
    rw [e]
    match i, h with
    | 0, h =>
      simp at h; subst h
      rw [List.getElem?_append_left (by omega)]; simp
    | i + 1, h =>
      simp at h
      rw [List.getElem?_append_right (by omega), hl, show (i + 1) * 3 + j - 3 = i * 3 + j by omega]
      exact ih i h
theorem encs_len (w : World) (qs : List Rp) (h : ∀ q ∈ qs, q.ok w) : qs.length ≤ (encs qs).length := by
  induction qs with
  | nil => simp
  | cons q qs ih =>
    have e : encs (q :: qs) = q.enc ++ encs qs := rfl
    have h1 := ih (fun x hx => h x (by simp [hx]))
    obtain ⟨ho, _, hl, n1, n2⟩ := h q (by simp)
    have h2 := (partEnc_len q.k q.n q.bs n1 n2 (by have := ho.1; omega)).1
    rw [e, List.length_append, List.length_cons]
    unfold Rp.enc
    omega
/-- PARTS THAT WERE PUT: the writer has their bytes; they lie in a row. -/
structure TH (w : World) (p : Nat) (wr : World) (a : Option Addr) (c : Nat) (v : Value) (qs : List Rp) : Prop where
  wr_ : Wr p wr p a c (encs qs)
  row : wr.ownsRow p 28 3 v qs.length (cellsR qs)
  ne : ∀ k, v.ownBlock = some k → blk a ≠ some k ∧ k ≠ p
  fr : Fr (fun _ => False) w wr
  len : (encs qs).length ≤ 1048576
  ok : ∀ q ∈ qs, q.ok w

theorem infoP : (Try.prog.info? 28).map (fun i => (i.zero, i.size, i.bytes)) = some (some (.agg #[.int .i64 0, .int .i64 0, .slice none 0 0]), 3, 40) := by kernel_rfl

/-- the writer goes on, the row stays -/
theorem TH.row_kept {w : World} {p : Nat} {wr : World} {a : Option Addr} {c : Nat} {v : Value} {qs : List Rp} (h : TH w p wr a c v qs) {S : Nat → Prop} {w' : World} (hf : Fr S wr w') (hS : ∀ k, v.ownBlock = some k → ¬ S k) : w'.ownsRow p 28 3 v qs.length (cellsR qs) := by
  obtain ⟨h1, h2⟩ := h.row
  refine ⟨h1, ?_⟩
  rcases h2 with h2 | ⟨g, cap, cur, rfl, hg, hh, r⟩
  · exact .inl h2
  · refine .inr ⟨g, cap, cur, rfl, hg, ?_, r⟩
    rw [hf.block g (Array.getElem?_eq_some_iff.1 hh).1 (hS g rfl)]
    exact hh
theorem ownsRow_alloc' {w : World} {base : Nat} {e : TypeId} {size : Nat} {v : Value} {n : Nat} {xs : List Value} (h : w.ownsRow base e size v n xs) (o : Obj) : (w.alloc o).ownsRow base e size v n xs := h.alloc o
/-- what a put leaves of the row, and of the rest -/
theorem TH.put {w : World} {p : Nat} {wr : World} {a : Option Addr} {c : Nat} {v : Value} {qs : List Rp} (h : TH w p wr a c v qs) (hp : w.heap.size ≤ p) (o : Obj) {w3 : World} {a' : Option Addr}
    (hf : Fr (fun k => k = p ∨ blk a = some k) (wr.alloc o) w3) (hb : blk a' = blk a ∨ ∀ k, blk a' = some k → (wr.alloc o).heap.size ≤ k) :
    w3.ownsRow p 28 3 v qs.length (cellsR qs) ∧ Fr (fun _ => False) w w3 ∧ (∀ k, v.ownBlock = some k → blk a' ≠ some k ∧ k ≠ p) ∧ w3.heap[wr.heap.size]? = some o := by
  have hf0 : Fr (fun k => k = p ∨ blk a = some k) wr w3 := (Fr.alloc (Fr.refl _ wr) o).trans hf (fun _ _ h => h)
  have hvl : ∀ k, v.ownBlock = some k → k < wr.heap.size := fun k hk => (h.row.lt k hk).2
  refine ⟨h.row_kept hf0 (fun k hk e => ?_), h.fr.trans hf0 (fun i hi e => ?_), fun k hk => ⟨fun e => ?_, (h.ne k hk).2⟩, ?_⟩
  · rcases e with e | e
    · exact (h.ne k hk).2 e
    · exact (h.ne k hk).1 e
  · rcases e with rfl | e
    · omega
    · have := (h.wr_.row.lt i e).1; omega
  · rcases hb with hb | hb
    · exact (h.ne k hk).1 (hb ▸ e)
    · have h1 := hb k e
      have h2 := hvl k hk
      have h3 : (wr.alloc o).heap.size = wr.heap.size + 1 := by simp
      omega
  · refine hf.cells (Go.heap_alloc_new wr o) (fun e => ?_)
    rcases e with e | e
    · have := lt_of_row h.wr_.at_; omega
    · have := (h.wr_.row.lt _ e).2; omega
theorem TH.long {w : World} {p : Nat} {wr : World} {a : Option Addr} {c : Nat} {v : Value} {qs : List Rp} (h : TH w p wr a c v qs) {w' : World} (hf : Fr (fun _ => False) wr w') (hw : Wr p w' p a c (encs qs)) : TH w p w' a c v qs :=
  ⟨hw, h.row_kept hf (fun _ _ h => h), h.ne, h.fr.trans hf (fun _ _ h => h), h.len, h.ok⟩
/-- behind the append of a part -/
theorem TH.next {w : World} {p : Nat} {wr : World} {a : Option Addr} {c : Nat} {v : Value} {qs : List Rp} (h : TH w p wr a c v qs) (hp : w.heap.size ≤ p) {w3 : World} {a' : Option Addr} {c' : Nat} {q : Rp} (hq : q.ok w) (hw : Wr p w3 p a' c' (encs qs ++ q.enc))
    (hfr : Fr (fun _ => False) w w3) (hne : ∀ k, v.ownBlock = some k → blk a' ≠ some k ∧ k ≠ p) (hl : (encs qs ++ q.enc).length ≤ 1048576) {o : Obj} {w4 : World} {v' : Value} (hown : w4.ownsRow p 28 3 v' (qs.length + 1) (cellsR qs ++ q.cells))
    (hg : (w3.alloc o).grownBy w4 v.ownBlock) (hat : v'.ownBlock = v.ownBlock ∨ v'.ownBlock = some (w3.alloc o).heap.size) (hvl : ∀ k, v.ownBlock = some k → p ≤ k) : TH w p w4 a' c' v' (qs ++ [q]) := by
  have f4 : Fr (fun k => v.ownBlock = some k) w3 w4 := (Fr.alloc (Fr.refl _ w3) o).trans (Fr.of_grown hg) (fun _ _ h => h)
  have hpl := lt_of_row hw.at_
  refine ⟨?_, ?_, ?_, hfr.trans f4 (fun i hi e => by have := hvl i e; omega), by rw [encs_snoc]; exact hl, ?_⟩
  · rw [encs_snoc]
    exact hw.kept f4 (fun e => (hne p e).2 rfl) (fun k hk e => (hne k e).1 hk)
  · rw [cellsR_snoc, List.length_append]; exact hown
  · intro k hk
    rcases hat with e | e
    · rw [e] at hk; exact hne k hk
    · rw [e] at hk
      simp at hk
      exact ⟨fun e' => by have := (hw.row.lt k e').2; omega, by omega⟩
  · intro x hx
    rcases List.mem_append.1 hx with hx | hx
    · exact h.ok x hx
    · simp at hx; subst hx; exact hq
/-- the j-th of them, in memory -/
theorem TH.at {w : World} {p : Nat} {wr : World} {v : Value} {qs : List Rp} (hrow : wr.ownsRow p 28 3 v qs.length (cellsR qs)) {i : Nat} (hi : i < qs.length) :
    ∃ g cap q, v = .slice (some ⟨g, 0, none⟩) qs.length cap ∧ qs[i]? = some q ∧ wr.cell? ⟨g, i * 3, none⟩ = some (.int .i64 (q : Rp).k) ∧ wr.cell? ⟨g, i * 3 + 1, none⟩ = some (.int .i64 q.n) ∧ wr.cell? ⟨g, i * 3 + 2, none⟩ = some (.slice q.A q.L q.C) := by
  have hcell := fun g hg => hrow.cells (g := g) hg
  rcases hrow.2 with ⟨_, h0⟩ | ⟨g, cap, cur, rfl, _⟩
  · omega
  · have hx : qs[i]? = some qs[i] := by simp [hi]
    have c := hcell g rfl
    refine ⟨g, cap, qs[i], rfl, hx, ?_, ?_, ?_⟩
    · have := c (i * 3 + 0) _ (by rw [cellsR_at qs i _ hx 0 (by omega)]; rfl)
      rw [Addr.add_lit] at this; simpa using this
    · have := c (i * 3 + 1) _ (by rw [cellsR_at qs i _ hx 1 (by omega)]; rfl)
      rw [Addr.add_lit] at this; simpa using this
    · have := c (i * 3 + 2) _ (by rw [cellsR_at qs i _ hx 2 (by omega)]; rfl)
      rw [Addr.add_lit] at this; simpa using this
theorem owns_shape {w : World} {base : Nat} {e : TypeId} {size : Nat} {v : Value} {n : Nat} {xs : List Value} (h : w.ownsRow base e size v n xs) : ∃ a c, v = .slice a n c := by
  rcases h.2 with ⟨rfl, rfl⟩ | ⟨g, cap, cur, rfl, _⟩
  · exact ⟨_, _, rfl⟩
  · exact ⟨_, _, rfl⟩

/-- a part of the argument, read in a later world -/
theorem Ps.part {w w' : World} {a : Option Addr} {len : Nat} {ps : List Pt} (h : Ps w a len ps) (hf : Fr (fun _ => False) w w') {i : Nat} (hi : i < len) :
    ∃ b off, ∃ q : Rp, a = some ⟨b, off, none⟩ ∧ w'.cell? ⟨b, off + i * 3, none⟩ = some (.int .i64 q.k) ∧ w'.cell? ⟨b, off + i * 3 + 1, none⟩ = some (.int .i64 q.n) ∧
    w'.cell? ⟨b, off + i * 3 + 2, none⟩ = some (.slice q.A q.L q.C) ∧ q.ok w := by
  obtain ⟨b, off, k, n, bs, A, L, C, ha, hx, h1, h2, h3, h4, h5, h6, h7, h8⟩ := h.at hi
  exact ⟨b, off, ⟨k, n, A, L, C, bs⟩, ha, cell_kept hf h1 (fun h => h), cell_kept hf h2 (fun h => h), cell_kept hf h3 (fun h => h), h4, h5, h6, h7, h8⟩
/-- put, of a part -/
theorem put_part {w : World} {p : Nat} {wr : World} {a : Option Addr} {c : Nat} {v : Value} {qs : List Rp} (h : TH w p wr a c v qs) (hp : w.heap.size ≤ p) (q : Rp) (hq : q.ok w) (o : Obj) :
    Calls Try.prog 11 #[.pointer (some ⟨p, 0, none⟩), .agg #[.int .i64 q.k, .int .i64 q.n, .slice q.A q.L q.C]] (wr.alloc o) fun e w' => ∃ ra rl rc er, e = .returned (.tuple #[.slice ra rl rc, .int .i64 er]) ∧
      ((er = 3 ∧ TH w p w' a c v qs ∧ w'.heap[wr.heap.size]? = some o) ∨ (er = 0 ∧ ∃ a' c', Wr p w' p a' c' (encs qs ++ q.enc) ∧ (encs qs ++ q.enc).length ≤ 1048576 ∧ w'.ownsRow p 28 3 v qs.length (cellsR qs) ∧ Fr (fun _ => False) w w' ∧ (∀ k, v.ownBlock = some k → blk a' ≠ some k ∧ k ≠ p) ∧ w'.heap[wr.heap.size]? = some o)) := by
  obtain ⟨s, hlc, hl, n1, n2⟩ := hq
  have fr0 : Fr (fun _ => False) w (wr.alloc o) := Fr.alloc h.fr o
  have hpl := lt_of_row h.wr_.at_
  refine (put_any' p (wr.alloc o) p a c (encs qs) (h.wr_.kept (Fr.alloc (Fr.refl (fun _ => False) wr) o) (fun h => h) (fun _ _ h => h)) q.k q.n n1 n2 q.A q.L q.C q.bs (s.kept fr0 (fun _ _ _ h => h))
    (fun hz i hi e => by have h1 := s.lt hz i hi; have h2 := (h.wr_.row.lt i e).1; omega) hl (by simp; omega) h.len).mono ?_
  rintro e w' ⟨ra, rc, er, rfl, hro, hwp⟩
  refine ⟨ra, _, rc, er, rfl, ?_⟩
  rcases hwp with ⟨hlong, her, hf3, hw3⟩ | ⟨hok, her, a', c', hw3, hf3, hb3⟩
  · simp only [Ending.returned.injEq, Value.int.injEq, true_and] at her
    exact .inl ⟨her, h.long ((Fr.alloc (Fr.refl _ wr) o).trans hf3 (fun _ _ h => h)) hw3, hf3.cells (Go.heap_alloc_new wr o) (fun h => h)⟩
  · simp only [Ending.returned.injEq, Value.int.injEq, true_and] at her
    obtain ⟨r1, r2, r3, r4⟩ := h.put hp o hf3 hb3
    exact .inr ⟨her, a', c', hw3, by rw [List.length_append]; exact hok, r1, r2, r3, r4⟩

/-! ### what is read again -/
theorem takeB_enc (bs r : List UInt8) (h : bs.length ≤ 9223372036854775807) : M.takeB (encB bs ++ r) = (bs, (encB bs).length, 0) := by
  unfold M.takeB encB
  rw [List.append_assoc, M.takeL_enc bs.length _ h]
  simp only [Int.toNat_natCast]
  rw [if_neg (by simp), if_neg (by simp; omega), List.drop_left, List.take_left, List.length_append]
theorem takeF_enc (n : Int) (r : List UInt8) : M.takeF (M.enc (M.fd (if 0 < n then 1 else 0)) ++ r) = (decide (0 < n), (M.enc (M.fd (if 0 < n then 1 else 0))).length, 0) := by
  unfold M.takeF
  by_cases h : 0 < n
  · simp only [h, if_true]
    rw [M.takeI_enc 1 r (by omega) (by omega)]
    simp
  · simp only [h, if_false]
    rw [M.takeI_enc 0 r (by omega) (by omega)]
    simp
theorem takeB_head (bs : List UInt8) (m : Nat) (h : bs.length ≤ 9223372036854775807) (hm : m < (encB bs).length) : M.takeB ((encB bs).take m) = ([], 0, 10) := by
  unfold encB at hm ⊢
  rw [List.length_append] at hm
  by_cases hs : m < (M.enc (M.fd bs.length)).length
  · rw [List.take_append_of_le_length (by omega)]
    have ht := M.takeI_head bs.length m (by omega) (by omega) hs
    unfold M.takeB M.takeL
    rw [ht]
    simp
  · have e : (M.enc (M.fd bs.length) ++ bs).take m = M.enc (M.fd bs.length) ++ bs.take (m - (M.enc (M.fd bs.length)).length) := by
      rw [List.take_append, List.take_of_length_le (by omega)]
    rw [e]
    unfold M.takeB
    rw [M.takeL_enc bs.length _ h]
    simp only
    rw [if_neg (by simp), if_pos (by simp [List.length_take]; omega)]
theorem takeF_head (n : Int) (m : Nat) (hm : m < (M.enc (M.fd (if 0 < n then 1 else 0))).length) : M.takeF ((M.enc (M.fd (if 0 < n then 1 else 0))).take m) = (false, 0, 10) := by
  have ht := M.takeI_head (if 0 < n then 1 else 0) m (by split <;> omega) (by split <;> omega) hm
  unfold M.takeF
  rw [ht]
  simp
theorem encs_drop (qs : List Rp) (j : Nat) (q : Rp) (h : qs[j]? = some q) : encs (qs.drop j) = q.enc ++ encs (qs.drop (j + 1)) := by
  have hj := (List.getElem?_eq_some_iff.1 h).1
  have hx := (List.getElem?_eq_some_iff.1 h).2
  rw [List.drop_eq_getElem_cons hj, hx]; rfl
/-- A READER OF PARTS THAT LIE IN A ROW: it has the bytes of those from the j-th on. -/
structure BK (w : World) (p : Nat) (wr : World) (r : Nat) (qa : Option Addr) (qc : Nat) (v : Value) (qs : List Rp) (rest : List UInt8) : Prop where
  rd : Rd wr r qa qc rest
  row : wr.ownsRow p 28 3 v qs.length (cellsR qs)
  fr : Fr (fun _ => False) w wr
  rl : w.heap.size ≤ r
  ne : ∀ k, v.ownBlock = some k → k ≠ r
theorem BK.alloc {w : World} {p : Nat} {wr : World} {r : Nat} {qa : Option Addr} {qc : Nat} {v : Value} {qs : List Rp} {rest : List UInt8} (h : BK w p wr r qa qc v qs rest) (o : Obj) : BK w p (wr.alloc o) r qa qc v qs rest :=
  ⟨h.rd.kept (Fr.alloc (Fr.refl (fun _ => False) _) _) (fun h => h) (fun _ _ h => h), h.row.alloc o, Fr.alloc h.fr o, h.rl, h.ne⟩
theorem BK.step {w : World} {p : Nat} {wr : World} {r : Nat} {qa : Option Addr} {qc : Nat} {v : Value} {qs : List Rp} {rest : List UInt8} (h : BK w p wr r qa qc v qs rest) {n : Nat} {w1 : World} (hr : RP wr r qa rest n w1) :
    (∃ qa' qc', BK w p w1 r qa' qc' v qs (rest.drop n)) ∧ Fr (fun k => k = r) wr w1 := by
  obtain ⟨a', c', h1, h2, h3⟩ := hr
  refine ⟨⟨a', c', h1, ?_, h.fr.trans h2 (fun i hi e => by have := h.rl; omega), h.rl, h.ne⟩, h2⟩
  obtain ⟨o1, o2⟩ := h.row
  refine ⟨o1, ?_⟩
  rcases o2 with o2 | ⟨g, cap, cur, e, hg, hh, rr⟩
  · exact .inl o2
  · refine .inr ⟨g, cap, cur, e, hg, h2.cells hh (fun e' => ?_), rr⟩
    rw [e] at h
    exact h.ne g rfl e'
theorem BK.box {w : World} {p : Nat} {wr : World} {r : Nat} {qa : Option Addr} {qc : Nat} {v : Value} {qs : List Rp} {rest : List UInt8} (h : BK w p wr r qa qc v qs rest) (o : Obj) {w1 : World} (hf : Fr (fun k => k = r) (wr.alloc o) w1) : w1.heap[wr.heap.size]? = some o :=
  hf.cells (Go.heap_alloc_new wr o) (fun e => by have := lt_of_row h.rd.at_; omega)

end Go.Proofs.Ytilliicanbbjkaa
