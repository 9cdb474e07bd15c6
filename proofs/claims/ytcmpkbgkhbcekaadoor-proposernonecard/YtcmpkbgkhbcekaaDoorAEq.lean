/-
  Which entries are the same: the document's sameOps, SamePart, SameEntry.
-/
import Derived.Test.YtcmpkbgkhbcekaaDoorAEnt
import Derived.Lib.ConvBytes
import Derived.LoopN
import Derived.ChangeKeysEq
import Derived.Deep.QuietTactic
import Derived.BigQuiet
namespace Go.Proofs.YtcmpkbgkhbcekaaDoor
open Go.RowKit
set_option linter.unusedVariables false
set_option linter.unusedSimpArgs false

/-- an operation's cells: five numbers, three texts -/
structure A.Op8 where
  a : Int
  b : Int
  c : Int
  d : Int
  e : Int
  s : ByteArray
  t : ByteArray
  u : ByteArray
def A.Op8.cs (o : A.Op8) : List Value := [.int .i64 o.a, .int .i64 o.b, .int .i64 o.c, .int .i64 o.d, .int .i64 o.e, .string o.s, .string o.t, .string o.u]
theorem A.str_inj {s t : ByteArray} (h : s.toList = t.toList) : s = t := by
  have e : ∀ u : ByteArray, u.toList = u.data.toList := fun u => ByteArray.toList_eq u
  rw [e, e] at h
  cases s; cases t
  simp at h
  rw [h]
theorem A.op_of {o : List Value} (hl : o.length = 8) (h : ∀ (j : Nat) v, o[j]? = some v → A.vOk (if 5 ≤ j then 1 else 0) v) : ∃ p : A.Op8, o = p.cs := by
  match o, hl with
  | [x0, x1, x2, x3, x4, x5, x6, x7], _ =>
    obtain ⟨a, rfl⟩ := h 0 x0 rfl
    obtain ⟨b, rfl⟩ := h 1 x1 rfl
    obtain ⟨c, rfl⟩ := h 2 x2 rfl
    obtain ⟨d, rfl⟩ := h 3 x3 rfl
    obtain ⟨e, rfl⟩ := h 4 x4 rfl
    obtain ⟨s, rfl⟩ := h 5 x5 rfl
    obtain ⟨t, rfl⟩ := h 6 x6 rfl
    obtain ⟨u, rfl⟩ := h 7 x7 rfl
    exact ⟨⟨a, b, c, d, e, s, t, u⟩, rfl⟩
set_option maxHeartbeats 2000000 in
set_option maxRecDepth 20000 in
theorem eqv_Op (o p : A.Op8) (W : World) : ∃ r : Bool, (Op.equalIn 10000 26 (.agg o.cs.toArray) (.agg p.cs.toArray)).run Tryd.prog W = .ok r W ∧ (r = true ↔ o.cs = p.cs) := by
  obtain ⟨a, b, c, d, e, s, t, u⟩ := o
  obtain ⟨a', b', c', d', e', s', t', u'⟩ := p
  simp only [A.Op8.cs]
  by_cases h : a = a' ∧ b = b' ∧ c = c' ∧ d = d' ∧ e = e' ∧ s = s' ∧ t = t' ∧ u = u'
  · obtain ⟨rfl, rfl, rfl, rfl, rfl, rfl, rfl, rfl⟩ := h
    refine ⟨true, ?_, by simp⟩
    go_simp
  · refine ⟨false, ?_, by simp; exact fun h1 h2 h3 h4 h5 h6 h7 h8 => h ⟨h1, h2, h3, h4, h5, h6, h7, h8⟩⟩
    go_simp
    exact fun h1 h2 h3 h4 h5 h6 h7 h8 => h ⟨h1, h2, h3, h4, h5, A.str_inj h6, A.str_inj h7, A.str_inj h8⟩
/-- many numbers -/
def A.ints (n : Nat) (f : Nat → Int) : List Value := (List.range n).map (fun j => .int .i64 (f j))
theorem A.ints_iff {n : Nat} {f g : Nat → Int} : A.ints n f = A.ints n g ↔ ∀ j, j < n → f j = g j := by
  unfold A.ints
  rw [List.map_inj_left]
  simp
theorem eqItems_ints (d : Nat) (e : TypeId) (he : Tryd.prog.plainKey e = true) (hu : Tryd.prog.underlying e = some (.int .i64)) (xs ys : Array Value) (f g : Nat → Int) (W : World) : ∀ is : List Nat, (∀ i ∈ is, xs[i * 1]? = some (.int .i64 (f i)) ∧ ys[i * 1]? = some (.int .i64 (g i))) →
    (Op.eqItems (d + 1) e 1 xs ys is).run Tryd.prog W = .ok (is.all (fun i => f i == g i)) W
  | [], _ => by simp [Op.eqItems]
  | i :: is, h => by
    obtain ⟨h1, h2⟩ := h i (by simp)
    have p1 := run_part_plain (P := Tryd.prog) (w := W) he h1
    have p2 := run_part_plain (P := Tryd.prog) (w := W) he h2
    have p3 : (Op.equalIn (d + 1) e (.int .i64 (f i)) (.int .i64 (g i))).run Tryd.prog W = .ok (f i == g i) W := by
      simp [Op.equalIn, run_underlying hu, Sem.run_bind]
    simp only [Op.eqItems, Sem.run_bind, p1, p2, p3, Result.andThen_ok]
    by_cases hfg : f i = g i
    · simp [hfg, eqItems_ints d e he hu xs ys f g W is (fun j hj => h j (by simp [hj]))]
    · simp [hfg]

theorem A.ints_get {n : Nat} {f : Nat → Int} {i : Nat} (h : i < n) : (A.ints n f).toArray[i * 1]? = some (.int .i64 (f i)) := by
  simp [A.ints, h]
theorem eqv_arr (d n : Nat) (t e : TypeId) (i : TypeInfo) (hi : Tryd.prog.info? e = some i) (hc : Tryd.prog.cellsOf e = 1) (ht : Tryd.prog.underlying t = some (.array n e)) (he : Tryd.prog.plainKey e = true) (hu : Tryd.prog.underlying e = some (.int .i64)) (f g : Nat → Int) (W : World) :
    (Op.equalIn (d + 2) t (.agg (A.ints n f).toArray) (.agg (A.ints n g).toArray)).run Tryd.prog W = .ok ((List.range n).all (fun i => f i == g i)) W := by
  rw [run_equalIn_array (P := Tryd.prog) W (d + 1) _ _ ht hi, hc]
  exact eqItems_ints d e he hu _ _ f g W _ (fun j hj => ⟨A.ints_get (by simpa using hj), A.ints_get (by simpa using hj)⟩)
theorem eqv_Ve (f g : Nat → Int) (W : World) : ∃ r : Bool, (Op.equalIn 10000 30 (.agg (A.ints 8 f).toArray) (.agg (A.ints 8 g).toArray)).run Tryd.prog W = .ok r W ∧ (r = true ↔ A.ints 8 f = A.ints 8 g) := by
  obtain ⟨i, hi⟩ : ∃ i, Tryd.prog.info? 2 = some i := Option.isSome_iff_exists.1 (by kernel_rfl)
  · refine ⟨_, eqv_arr 9998 8 30 2 i hi (by kernel_rfl) Tryd.underlying30 (by kernel_rfl) Tryd.underlying2 f g W, ?_⟩
    rw [A.ints_iff]
    simp

theorem all8 (a0 a1 a2 a3 a4 a5 a6 a7 b0 b1 b2 b3 b4 b5 b6 b7 : Int) : (List.range 8).all (fun i => (fun j => if j = 0 then a0 else if j = 1 then a1 else if j = 2 then a2 else if j = 3 then a3 else if j = 4 then a4 else if j = 5 then a5 else if j = 6 then a6 else a7) i == (fun j => if j = 0 then b0 else if j = 1 then b1 else if j = 2 then b2 else if j = 3 then b3 else if j = 4 then b4 else if j = 5 then b5 else if j = 6 then b6 else b7) i) = ((a0 == b0) && (a1 == b1) && (a2 == b2) && (a3 == b3) && (a4 == b4) && (a5 == b5) && (a6 == b6) && (a7 == b7)) := by
  simp [List.range, List.range.loop, Bool.and_assoc]
set_option maxRecDepth 20000 in
theorem arr8 (d : Nat) (t e : TypeId) (i : TypeInfo) (hi : Tryd.prog.info? e = some i) (hc : Tryd.prog.cellsOf e = 1) (ht : Tryd.prog.underlying t = some (.array 8 e)) (he : Tryd.prog.plainKey e = true) (hu : Tryd.prog.underlying e = some (.int .i64)) (a0 a1 a2 a3 a4 a5 a6 a7 b0 b1 b2 b3 b4 b5 b6 b7 : Int) (W : World) :
    (Op.equalIn (d + 2) t (.agg #[.int .i64 a0, .int .i64 a1, .int .i64 a2, .int .i64 a3, .int .i64 a4, .int .i64 a5, .int .i64 a6, .int .i64 a7]) (.agg #[.int .i64 b0, .int .i64 b1, .int .i64 b2, .int .i64 b3, .int .i64 b4, .int .i64 b5, .int .i64 b6, .int .i64 b7])).run Tryd.prog W = .ok ((a0 == b0) && (a1 == b1) && (a2 == b2) && (a3 == b3) && (a4 == b4) && (a5 == b5) && (a6 == b6) && (a7 == b7)) W := by
  have h := eqv_arr d 8 t e i hi hc ht he hu (fun j => if j = 0 then a0 else if j = 1 then a1 else if j = 2 then a2 else if j = 3 then a3 else if j = 4 then a4 else if j = 5 then a5 else if j = 6 then a6 else a7) (fun j => if j = 0 then b0 else if j = 1 then b1 else if j = 2 then b2 else if j = 3 then b3 else if j = 4 then b4 else if j = 5 then b5 else if j = 6 then b6 else b7) W
  rw [all8] at h
  exact h
set_option maxHeartbeats 2000000 in
set_option maxRecDepth 20000 in
theorem eqv_Ep (f g : Nat → Int) (W : World) : ∃ r : Bool, (Op.equalIn 10000 32 (.agg (A.ints 25 f).toArray) (.agg (A.ints 25 g).toArray)).run Tryd.prog W = .ok r W ∧ (r = true ↔ A.ints 25 f = A.ints 25 g) := by
  obtain ⟨i, hi⟩ : ∃ i, Tryd.prog.info? 2 = some i := Option.isSome_iff_exists.1 (by kernel_rfl)
  obtain ⟨i', hi'⟩ : ∃ i, Tryd.prog.info? 3 = some i := Option.isSome_iff_exists.1 (by kernel_rfl)
  have h1 := fun a0 a1 a2 a3 a4 a5 a6 a7 b0 b1 b2 b3 b4 b5 b6 b7 W => arr8 9997 30 2 i hi (by kernel_rfl) Tryd.underlying30 (by kernel_rfl) Tryd.underlying2 a0 a1 a2 a3 a4 a5 a6 a7 b0 b1 b2 b3 b4 b5 b6 b7 W
  have h2 := fun a0 a1 a2 a3 a4 a5 a6 a7 b0 b1 b2 b3 b4 b5 b6 b7 W => arr8 9997 28 3 i' hi' (by kernel_rfl) Tryd.underlying28 (by kernel_rfl) Tryd.underlying3 a0 a1 a2 a3 a4 a5 a6 a7 b0 b1 b2 b3 b4 b5 b6 b7 W
  rw [A.ints_iff, show A.ints 25 f = [.int .i64 (f 0), .int .i64 (f 1), .int .i64 (f 2), .int .i64 (f 3), .int .i64 (f 4), .int .i64 (f 5), .int .i64 (f 6), .int .i64 (f 7), .int .i64 (f 8), .int .i64 (f 9), .int .i64 (f 10), .int .i64 (f 11), .int .i64 (f 12), .int .i64 (f 13), .int .i64 (f 14), .int .i64 (f 15), .int .i64 (f 16), .int .i64 (f 17), .int .i64 (f 18), .int .i64 (f 19), .int .i64 (f 20), .int .i64 (f 21), .int .i64 (f 22), .int .i64 (f 23), .int .i64 (f 24)] from rfl, show A.ints 25 g = [.int .i64 (g 0), .int .i64 (g 1), .int .i64 (g 2), .int .i64 (g 3), .int .i64 (g 4), .int .i64 (g 5), .int .i64 (g 6), .int .i64 (g 7), .int .i64 (g 8), .int .i64 (g 9), .int .i64 (g 10), .int .i64 (g 11), .int .i64 (g 12), .int .i64 (g 13), .int .i64 (g 14), .int .i64 (g 15), .int .i64 (g 16), .int .i64 (g 17), .int .i64 (g 18), .int .i64 (g 19), .int .i64 (g 20), .int .i64 (g 21), .int .i64 (g 22), .int .i64 (g 23), .int .i64 (g 24)] from rfl]
  clear hi hi'
  refine ⟨(List.range 25).all (fun j => f j == g j), ?_, by simp⟩
  simp only [show (List.range 25) = [0, 1, 2, 3, 4, 5, 6, 7, 8, 9, 10, 11, 12, 13, 14, 15, 16, 17, 18, 19, 20, 21, 22, 23, 24] from rfl, List.all_cons, List.all_nil, Bool.and_true]
  go_simp
  have hR : ∀ x : Bool, x = ((f 0 == g 0) && (((((((((f 1 == g 1) && (f 2 == g 2)) && (f 3 == g 3)) && (f 4 == g 4)) && (f 5 == g 5)) && (f 6 == g 6)) && (f 7 == g 7)) && (f 8 == g 8)) && (((((((((f 9 == g 9) && (f 10 == g 10)) && (f 11 == g 11)) && (f 12 == g 12)) && (f 13 == g 13)) && (f 14 == g 14)) && (f 15 == g 15)) && (f 16 == g 16)) && ((((((((f 17 == g 17) && (f 18 == g 18)) && (f 19 == g 19)) && (f 20 == g 20)) && (f 21 == g 21)) && (f 22 == g 22)) && (f 23 == g 23)) && (f 24 == g 24))))) → (if f 0 = g 0 then if ((((((((f 1 == g 1) && (f 2 == g 2)) && (f 3 == g 3)) && (f 4 == g 4)) && (f 5 == g 5)) && (f 6 == g 6)) && (f 7 == g 7)) && (f 8 == g 8)) = false then Result.ok false W else if ((((((((f 9 == g 9) && (f 10 == g 10)) && (f 11 == g 11)) && (f 12 == g 12)) && (f 13 == g 13)) && (f 14 == g 14)) && (f 15 == g 15)) && (f 16 == g 16)) = false then Result.ok false W else if ((((((((f 17 == g 17) && (f 18 == g 18)) && (f 19 == g 19)) && (f 20 == g 20)) && (f 21 == g 21)) && (f 22 == g 22)) && (f 23 == g 23)) && (f 24 == g 24)) = false then Result.ok false W else Result.ok true W else Result.ok false W) = Result.ok x W := by
    intro x hx
    subst hx
    generalize ((((((((f 1 == g 1) && (f 2 == g 2)) && (f 3 == g 3)) && (f 4 == g 4)) && (f 5 == g 5)) && (f 6 == g 6)) && (f 7 == g 7)) && (f 8 == g 8)) = A
    generalize ((((((((f 9 == g 9) && (f 10 == g 10)) && (f 11 == g 11)) && (f 12 == g 12)) && (f 13 == g 13)) && (f 14 == g 14)) && (f 15 == g 15)) && (f 16 == g 16)) = B
    generalize ((((((((f 17 == g 17) && (f 18 == g 18)) && (f 19 == g 19)) && (f 20 == g 20)) && (f 21 == g 21)) && (f 22 == g 22)) && (f 23 == g 23)) && (f 24 == g 24)) = C
    by_cases h0 : f 0 = g 0 <;> cases A <;> cases B <;> cases C <;> simp [h0]
  exact hR _ (by simp only [Bool.and_assoc])

/-! ### aggregates in a region that only reads -/
theorem wpQuiet_load_v {ops : Array Oper} {C : World → Prop} {Q : Act → Prop} {a : Act} {o : Oper} {rest : List Oper} {ty : TypeId} {u v : Value} (hl : ∀ W, C W → (Instr.loadAt ty u).run Tryd.prog W = .ok v W) (h0 : ∃ x, o.op = .load ty x ∧ a.eval x = u) (hw : Region.wanted o (yielded ops a.tmps) = true)
    (h : wpQuiet Tryd.prog ops C Q rest (a.put o.dst v)) : wpQuiet Tryd.prog ops C Q (o :: rest) a := by
  obtain ⟨x, ho, hx⟩ := h0
  refine wpQuiet_step (fun K hK => ?_)
  rw [if_pos hw]
  refine ⟨v, fun W hW => ?_, hK _ h⟩
  unfold Oper.quietAt execOp
  simp only [ho, hx, hl W hW, Sem.run_bind, Result.andThen_ok]
  exact ⟨rfl, rfl⟩
theorem wpQuiet_neq_v {ops : Array Oper} {C : World → Prop} {Q : Act → Prop} {a : Act} {o : Oper} {rest : List Oper} {t : TypeId} {u v r : Value} (hr : ∀ W, C W → (binOp .neq t u v).run Tryd.prog W = .ok r W) (h0 : ∃ x y ty, o.op = .binOp .neq t x y ty ∧ a.eval x = u ∧ a.eval y = v ∧ ∀ W, (eqGuard .neq t x y u v).run Tryd.prog W = .ok () W) (hw : Region.wanted o (yielded ops a.tmps) = true)
    (h : wpQuiet Tryd.prog ops C Q rest (a.put o.dst r)) : wpQuiet Tryd.prog ops C Q (o :: rest) a := by
  obtain ⟨x, y, ty, ho, hx, hy, hg⟩ := h0
  refine wpQuiet_step (fun K hK => ?_)
  rw [if_pos hw]
  refine ⟨r, fun W hW => ?_, hK _ h⟩
  unfold Oper.quietAt execOp
  simp only [ho, hx, hy, hg W, hr W hW, Sem.run_bind, Result.andThen_ok]
  exact ⟨rfl, rfl⟩
theorem guard_ne {t : TypeId} (h : Tryd.prog.eqGuardType Tryd.prog.depth t = false) (x y : Operand) (cs ds : Array Value) (W : World) : (eqGuard .neq t x y (.agg cs) (.agg ds)).run Tryd.prog W = .ok () W := by
  have e : ∀ W : World, (Sem.run Tryd.prog (Sem.program Sem.pure) W : Result Program) = .ok Tryd.prog W := fun _ => rfl
  unfold eqGuard
  simp [program, e, h]
/-! ### lists of operations -/
theorem flat_at {k : Nat} : ∀ {l : List (List Value)} {i : Nat} {o : List Value}, (∀ o ∈ l, o.length = k) → l[i]? = some o → (l.flatten.drop (i * k)).take k = o
  | [], i, o, _, h => by simp at h
  | p :: r, 0, o, hl, h => by
    simp at h
    subst h
    have := hl p (by simp)
    rw [List.flatten_cons, Nat.zero_mul, List.drop_zero, ← this]
    exact List.take_left
  | p :: r, i + 1, o, hl, h => by
    have hp := hl p (by simp)
    rw [List.flatten_cons, Nat.add_mul, Nat.one_mul, Nat.add_comm, ← List.drop_drop, ← hp, List.drop_left]
    rw [hp]
    exact flat_at (fun o ho => hl o (by simp [ho])) (by simpa using h)
/-- an operation of a row, read where it lies -/
theorem Rw.op {I : Nat → Prop} {w : World} {g o : Nat} {l : List (List Value)} (h : Rw I w 8 (some ⟨g, o, none⟩) l.length l.flatten) (hl : ∀ o ∈ l, o.length = 8) {i : Nat} {x : List Value} (hx : l[i]? = some x) :
    (Instr.loadAt 26 (.pointer (some ⟨g, o + i * 8, none⟩))).run Tryd.prog w = .ok (.agg x.toArray) w := by
  have hx8 : x.length = 8 := hl x (List.mem_of_getElem? hx)
  have hi : i < l.length := (List.getElem?_eq_some_iff.1 hx).1
  refine run_loadAt_mid w g (o + i * 8) _ x _ (fun j v hv => ?_) Tryd.underlying26 rfl (by rw [hx8]; kernel_rfl)
  rcases h.2 with h0 | ⟨g', o', e, _, hc⟩
  · omega
  · cases e
    rw [Nat.add_assoc]
    refine hc (i * 8 + j) v ?_
    have hf := flat_at hl hx
    rw [← hf, List.getElem?_take] at hv
    split at hv
    · rw [List.getElem?_drop] at hv; exact hv
    · cases hv
set_option maxHeartbeats 3200000 in
set_option maxRecDepth 20000 in
theorem sameOps_any {I J : Nat → Prop} {w : World} {a b : Option Addr} {ca cb : Nat} {l m : List (List Value)} (ha : Rw I w 8 a l.length l.flatten) (hb : Rw J w 8 b m.length m.flatten)
    (hl : ∀ o ∈ l, ∃ p : A.Op8, o = p.cs) (hm : ∀ o ∈ m, ∃ p : A.Op8, o = p.cs) (hlb : l.length ≤ 1599289640401) :
    Calls Tryd.prog 32 #[.slice a l.length ca, .slice b m.length cb] w fun e w' => ∃ r : Bool, e = .returned (.bool r) ∧ (r = true ↔ l = m) ∧ ∃ q, w' = w.drewN q := by
  obtain ⟨n, hn⟩ : ∃ n, l.length = n := ⟨_, rfl⟩
  obtain ⟨n', hn'⟩ : ∃ n, m.length = n := ⟨_, rfl⟩
  by_cases hne : n = n'
  · subst hne
    have HA := hid ha
    have HB := hid hb
    have HL := hid hl
    have HM := hid hm
    have HN := hid hn
    have HN' := hid hn'
    rw [hn, hn']
    rw [hn] at hlb
    clear ha hb hl hm hn hn'
    go_enter Tryd.func32, Tryd.ntmps32
    go_wp2
    go_loopw [5] (fun i wr => ∃ (k : Nat) (q : Nat), k ≤ n ∧ i = .int .i64 k ∧ Hid (l.take k = m.take k) ∧ wr = w.drewN q) (fun i _ => n - (intOf i).toNat)
    case atStart => exact ⟨0, 0, Nat.zero_le _, rfl, hid rfl, rfl⟩
    case round =>
      obtain ⟨k, q, hk, rfl, htk, rfl⟩ := hrel
      by_cases hlt : k < n
      · obtain ⟨x, hx⟩ : ∃ x, l[k]? = some x := ⟨_, List.getElem?_eq_getElem (by rw [HN.out]; exact hlt)⟩
        obtain ⟨y, hy⟩ : ∃ y, m[k]? = some y := ⟨_, List.getElem?_eq_getElem (by rw [HN'.out]; exact hlt)⟩
        obtain ⟨ga, oa, rfl⟩ : ∃ g o, a = some ⟨g, o, none⟩ := by
          rcases HA.out.2 with h | ⟨g, o, h, _⟩
          · rw [HN.out] at h; omega
          · exact ⟨g, o, h⟩
        obtain ⟨gb, ob, rfl⟩ : ∃ g o, b = some ⟨g, o, none⟩ := by
          rcases HB.out.2 with h | ⟨g, o, h, _⟩
          · rw [HN'.out] at h; omega
          · exact ⟨g, o, h⟩
        have fq : ∀ r t, Fr (fun _ => False) w ((w.drewN r).drewN t) := fun r t => (Fr.drewN w r).trans (Fr.drewN (S := fun _ => False) _ t) (fun _ _ h => h)
        have l8 : ∀ o ∈ l, o.length = 8 := fun o ho => by obtain ⟨p, rfl⟩ := HL.out o ho; rfl
        have m8 : ∀ o ∈ m, o.length = 8 := fun o ho => by obtain ⟨p, rfl⟩ := HM.out o ho; rfl
        have LA := fun r t => (HA.out.kept (fq r t) (fun _ _ h => h)).op l8 hx
        have LB := fun r t => (HB.out.kept (fq r t) (fun _ _ h => h)).op m8 hy
        obtain ⟨px, rfl⟩ := HL.out x (List.mem_of_getElem? hx)
        obtain ⟨py, rfl⟩ := HM.out y (List.mem_of_getElem? hy)
        obtain ⟨r, hr⟩ : ∃ r : Bool, (∀ W, (Op.equalIn 10000 26 (.agg px.cs.toArray) (.agg py.cs.toArray)).run Tryd.prog W = .ok r W) ∧ (r = true ↔ px.cs = py.cs) := by
          obtain ⟨r, h1, h2⟩ := eqv_Op px py w
          refine ⟨r, fun W => ?_, h2⟩
          obtain ⟨r', h1', h2'⟩ := eqv_Op px py W
          rw [h1']
          congr 1
          rw [Bool.eq_iff_iff, h2, h2']
        have NE : ∀ W, (binOp .neq 26 (.agg px.cs.toArray) (.agg py.cs.toArray)).run Tryd.prog W = .ok (.bool (!r)) W := fun W => by
          rw [run_neq_struct, hr.1 W]; rfl
        have i0 : (0 : Int) ≤ (k : Int) := by omega
        have i1 : (k : Int) < (n : Int) := by omega
        have HRI := hid hr.2
        have HX := hid hx
        have HY := hid hy
        have GN := fun x y W => guard_ne (t := 26) (by kernel_rfl) x y px.cs.toArray py.cs.toArray W
        generalize Value.agg px.cs.toArray = va at LA NE GN
        generalize Value.agg py.cs.toArray = vb at LB NE GN
        clear hr hx hy l8 m8 fq
        go_wp2
        refine wp_region_quiet_lit (by kernel_rfl) (by kernel_rfl) ?_
        repeat (first
          | (refine wpQuiet_load_v (u := .pointer (some ⟨ga, oa + k * 8, none⟩)) (fun W ⟨t, ht⟩ => by rw [ht]; exact LA q t) (by exact ⟨_, rfl, rfl⟩) (by kernel_rfl) ?_)
          | (refine wpQuiet_load_v (u := .pointer (some ⟨gb, ob + k * 8, none⟩)) (fun W ⟨t, ht⟩ => by rw [ht]; exact LB q t) (by exact ⟨_, rfl, rfl⟩) (by kernel_rfl) ?_)
          | (refine wpQuiet_neq_v (fun W _ => NE W) (by exact ⟨_, _, _, rfl, rfl, rfl, fun W => GN _ _ W⟩) (by kernel_rfl) ?_)
          | quiet_step (fail))
        refine wpQuiet_nil ?_
        intro _ hw'
        obtain ⟨nq, rfl⟩ := hw'
        cases r with
        | true =>
          have hxy : px.cs = py.cs := HRI.out.1 rfl
          have htk' : l.take (k + 1) = m.take (k + 1) := by rw [List.take_add_one, List.take_add_one, htk.out, HX.out, HY.out, hxy]
          have HTK := hid htk'
          clear htk' hxy
          go_wp2
          go_roundw
          case rel => exact ⟨k + 1, q + nq, by omega, by first | go_num | trivial, HTK, rfl⟩
          case measure => simp [intOf]; omega
        | false =>
          have hne : l ≠ m := fun e => by
            subst e
            have h1 := HX.out
            rw [HY.out] at h1
            have h2 := HRI.out.2 (Option.some.inj h1).symm
            cases h2
          have HNE := hid hne
          clear hne
          go_wp2
          go_ret
          exact ⟨false, rfl, by simp [HNE.out], _, rfl⟩
      · obtain rfl : k = n := by omega
        go_wp2
        go_ret
        refine ⟨true, rfl, ?_, _, rfl⟩
        have h1 := htk.out
        rw [List.take_of_length_le (by rw [HN.out]; exact Nat.le_refl _), List.take_of_length_le (by rw [HN'.out]; exact Nat.le_refl _)] at h1
        simp [h1]
  · rw [hn, hn']
    have hlm : l ≠ m := fun e => hne (by rw [← hn, ← hn', e])
    have HLM := hid hlm
    have hnn : (n : Int) ≠ (n' : Int) := by omega
    clear ha hb hl hm hn hn' hlm
    go_enter Tryd.func32, Tryd.ntmps32
    go_wp2
    go_ret
    exact ⟨false, rfl, by simp [HLM.out], 0, rfl⟩

/-! ### parts -/
theorem Rw.sl {I : Nat → Prop} {w : World} {a : Option Addr} {n : Nat} {bs : List UInt8} (h : Rw I w 1 a n (bs.map B)) : Sl w a n bs := by
  have hl : bs.length = n := by have := h.1; simpa using this
  refine ⟨hl, ?_⟩
  rcases h.2 with h0 | ⟨g, o, rfl, _, hc⟩
  · exact .inl h0
  · exact .inr ⟨g, o, rfl, fun k x hx => hc k (B x) (by rw [List.getElem?_map, hx]; rfl)⟩
def A.str (bs : List UInt8) : ByteArray := ⟨bs.toArray⟩
theorem A.nums_str (bs : List UInt8) : (⟨((bs.map fun x => (x.toNat : Int)).map fun n => UInt8.ofNat n.toNat).toArray⟩ : ByteArray) = A.str bs := by
  unfold A.str
  congr 2
  rw [List.map_map]
  conv => rhs; rw [← List.map_id bs]
  apply List.map_congr_left
  intro x _
  simp
theorem arun_str (w : World) (a : Option Addr) (len c : Nat) (bs : List UInt8) (h : Sl w a len bs) :
    (convert 33 9 (.slice a len c)).run Tryd.prog w = .ok (.string (A.str bs)) w := by
  have hl := h.1
  cases a with
  | none =>
    have h0 : len = 0 := by
      rcases h.2 with h0 | ⟨_, _, e, _⟩
      · exact h0
      · cases e
    subst h0
    have := List.eq_nil_of_length_eq_zero hl
    subst this
    exact run_convert_bytes_nil w _ _ Tryd.underlying33 Tryd.underlying5 0 c _ Tryd.underlying9
  | some a =>
    have hc := h.cells
    have hload : (loadCells a len).run Tryd.prog w = .ok ((bs.map fun x => (x.toNat : Int)).map (Value.int .u8)).toArray w := by
      have := run_loadCells_list (P := Tryd.prog) w a ((bs.map fun x => (x.toNat : Int)).map (Value.int .u8)) (fun j v hj => by
        apply hc j v
        simpa using hj)
      simpa [hl] using this
    rw [run_convert_bytes_string w _ _ _ _ len c Tryd.underlying33 Tryd.underlying5 Tryd.underlying9, run_bytesToString w a len c _ hload, foldl_push_bytes]
    have : (ByteArray.empty.data ++ ((bs.map fun x => (x.toNat : Int)).map fun n => UInt8.ofNat n.toNat).toArray) = ((bs.map fun x => (x.toNat : Int)).map fun n => UInt8.ofNat n.toNat).toArray := by
      simp [ByteArray.empty, ByteArray.emptyWithCapacity]
      rfl
    rw [this, A.nums_str]

set_option maxHeartbeats 3200000 in
set_option maxRecDepth 20000 in
theorem samePart_any {I J : Nat → Prop} {w : World} {a b : Option Addr} {ca cb : Nat} {x y : List UInt8} (ha : Rw I w 1 a x.length (x.map B)) (hb : Rw J w 1 b y.length (y.map B)) (p1 p2 p3 q1 q2 q3 : Int) :
    Calls Tryd.prog 33 #[.agg #[.int .i64 p1, .int .i64 p2, .int .i64 p3, .slice a x.length ca], .agg #[.int .i64 q1, .int .i64 q2, .int .i64 q3, .slice b y.length cb]] w fun e w' => ∃ r : Bool, e = .returned (.bool r) ∧ (r = true ↔ p1 = q1 ∧ p2 = q2 ∧ p3 = q3 ∧ x = y) ∧ Fr (fun _ => False) w w' := by
  have fW := Fr.alloc (Fr.alloc (Fr.refl (fun _ => False) w) (.cells #[.int .i64 p1, .int .i64 p2, .int .i64 p3, .slice a x.length ca] 35)) (.cells #[.int .i64 q1, .int .i64 q2, .int .i64 q3, .slice b y.length cb] 35)
  have cA := arun_str _ a x.length ca x (ha.kept fW (fun _ _ h => h)).sl
  have cB := arun_str _ b y.length cb y (hb.kept fW (fun _ _ h => h)).sl
  have e1 : ((A.str x).toList == (A.str y).toList) = decide (x = y) := by
    rw [ByteArray.toList_eq, ByteArray.toList_eq]
    simp [A.str]
    rw [Bool.eq_iff_iff]
    simp
  have FW := hid fW
  generalize x.length = nx at *
  generalize y.length = ny at *
  clear ha hb fW
  by_cases h1 : p1 = q1
  rotate_left
  · go_enter Tryd.func33, Tryd.ntmps33
    go_wp2
    go_ret
    exact ⟨false, rfl, by simp [h1], Fr.alloc (Fr.alloc (Fr.refl _ _) _) _⟩
  by_cases h2 : p2 = q2
  rotate_left
  · go_enter Tryd.func33, Tryd.ntmps33
    go_wp2
    go_ret
    exact ⟨false, rfl, by simp [h2], Fr.alloc (Fr.alloc (Fr.refl _ _) _) _⟩
  by_cases h3 : p3 = q3
  rotate_left
  · go_enter Tryd.func33, Tryd.ntmps33
    go_wp2
    go_ret
    exact ⟨false, rfl, by simp [h3], Fr.alloc (Fr.alloc (Fr.refl _ _) _) _⟩
  obtain ⟨r, hr⟩ : ∃ r, decide (x = y) = r := ⟨_, rfl⟩
  rw [hr] at e1
  have HR := hid hr
  have H123 := hid (And.intro h1 (And.intro h2 h3))
  subst h1 h2 h3
  clear hr
  generalize (A.str x) = sx at cA e1
  generalize (A.str y) = sy at cB e1
  go_enter Tryd.func33, Tryd.ntmps33
  go_wp2
  go_ret
  have hr := HR.out
  cases r with
  | false => exact .inl ⟨rfl, by simpa using hr, Fr.alloc (Fr.alloc (Fr.refl _ _) _) _⟩
  | true => exact .inr ⟨rfl, by simpa using hr, Fr.alloc (Fr.alloc (Fr.refl _ _) _) _⟩

/-! ### entries -/
/-- an entry's cells, by functions: numbers, texts -/
def A.cell (f : Nat → Int) (g : Nat → ByteArray) (j : Nat) : Value := if A.tyAt j = 0 then .int .i64 (f j) else if A.tyAt j = 1 then .string (g j) else .slice none 0 0
def A.cells (f : Nat → Int) (g : Nat → ByteArray) : List Value := (List.range 56).map (A.cell f g)
theorem A.En.Ok.cells {e : A.En} (h : e.Ok) : ∃ f g, e.fx = A.cells f g := by
  refine ⟨fun j => match e.fx[j]? with | some (.int _ x) => x | _ => 0, fun j => match e.fx[j]? with | some (.string s) => s | _ => ⟨#[]⟩, ?_⟩
  apply List.ext_getElem?
  intro j
  by_cases hj : j < 56
  · obtain ⟨v, hv⟩ : ∃ v, e.fx[j]? = some v := ⟨_, List.getElem?_eq_getElem (by rw [h.len]; exact hj)⟩
    have ht := h.ty j _ hv
    simp only [A.cells, List.getElem?_map, List.getElem?_range hj, Option.map_some, A.cell]
    have hty : A.tyAt j < 3 := by
      unfold A.tyAt
      split
      · omega
      · split <;> omega
    rcases (by omega : A.tyAt j = 0 ∨ A.tyAt j = 1 ∨ A.tyAt j = 2) with ht0 | ht0 | ht0 <;> rw [ht0] at ht
    · obtain ⟨x, hx⟩ := ht
      rw [hx] at hv
      simp [hv, ht0]
    · obtain ⟨x, hx⟩ := ht
      rw [hx] at hv
      simp [hv, ht0]
    · rw [show v = .slice none 0 0 from ht] at hv
      simp [hv, ht0]
  · rw [List.getElem?_eq_none (by rw [h.len]; omega), List.getElem?_eq_none (by simp [A.cells]; omega)]
theorem A.cells_eq {f f' : Nat → Int} {g g' : Nat → ByteArray} : A.cells f g = A.cells f' g' ↔ ∀ j, j < 56 → A.cell f g j = A.cell f' g' j := by
  unfold A.cells
  rw [List.map_inj_left]
  simp
/-- an entry where it lies: its cells, as they are loaded -/
structure Le (w : World) (b : Nat) (f : Nat → Int) (g : Nat → ByteArray) (a1 a2 : Option Addr) (n1 c1 n2 c2 : Nat) : Prop where
  i : ∀ j, j < 56 → A.tyAt j = 0 → w.cell? ⟨b, j, none⟩ = some (.int .i64 (f j))
  o : (Instr.loadAt 26 (.pointer (some ⟨b, 3, none⟩))).run Tryd.prog w = .ok (.agg (A.Op8.cs ⟨f 3, f 4, f 5, f 6, f 7, g 8, g 9, g 10⟩).toArray) w
  e : (Instr.loadAt 32 (.pointer (some ⟨b, 14, none⟩))).run Tryd.prog w = .ok (.agg (A.ints 25 (fun j => f (j + 14))).toArray) w
  v : (Instr.loadAt 30 (.pointer (some ⟨b, 40, none⟩))).run Tryd.prog w = .ok (.agg (A.ints 8 (fun j => f (j + 40))).toArray) w
  p : (Instr.loadAt 35 (.pointer (some ⟨b, 49, none⟩))).run Tryd.prog w = .ok (.agg #[.int .i64 (f 49), .int .i64 (f 50), .int .i64 (f 51), .slice a2 n2 c2]) w
  s : w.cell? ⟨b, 13, none⟩ = some (.slice a1 n1 c1)
set_option maxRecDepth 20000 in
theorem Le.of {w : World} {b : Nat} {f : Nat → Int} {g : Nat → ByteArray} {a1 a2 : Option Addr} {n1 c1 n2 c2 : Nat} {t : TypeId} {m : Nat × Nat} (h : w.heap[b]? = some (.cells (((A.cells f g).set 13 (.slice a1 n1 c1)).set 52 (.slice a2 n2 c2)).toArray t m)) : Le w b f g a1 a2 n1 c1 n2 c2 := by
  refine ⟨fun j hj ht => cellA h ?_, ?_, ?_, ?_, ?_, cellA h rfl⟩
  · have h1 : j ≠ 13 := fun e => by subst e; simp [A.tyAt] at ht
    have h2 : j ≠ 52 := fun e => by subst e; simp [A.tyAt] at ht
    simp only [List.getElem?_toArray]
    rw [List.getElem?_set_ne (fun e => h2 e.symm), List.getElem?_set_ne (fun e => h1 e.symm)]
    simp [A.cells, hj, A.cell, ht]
  · exact run_loadAt_mid w b 3 _ (A.Op8.cs ⟨f 3, f 4, f 5, f 6, f 7, g 8, g 9, g 10⟩) _ (rangeAt_of h 3 _ rfl) Tryd.underlying26 rfl (by kernel_rfl)
  · exact run_loadAt_mid w b 14 _ (A.ints 25 (fun j => f (j + 14))) _ (rangeAt_of h 14 _ rfl) Tryd.underlying32 rfl (by kernel_rfl)
  · exact run_loadAt_mid w b 40 _ (A.ints 8 (fun j => f (j + 40))) _ (rangeAt_of h 40 _ rfl) Tryd.underlying30 rfl (by kernel_rfl)
  · exact run_loadAt_mid w b 49 _ [.int .i64 (f 49), .int .i64 (f 50), .int .i64 (f 51), .slice a2 n2 c2] _ (rangeAt_of h 49 _ rfl) Tryd.underlying35 rfl (by kernel_rfl)
end Go.Proofs.YtcmpkbgkhbcekaaDoor
