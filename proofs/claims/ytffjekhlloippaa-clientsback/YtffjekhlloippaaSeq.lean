/-
  A range over an iterator whose elements point to memory: what is yielded is told together with the world in which it is yielded.
-/
import Derived.Test.YtffjekhlloippaaRow
import Derived.RangeFuncWrites
namespace Go.Proofs.Ytffjekhlloippaa
open Go.RowKit
set_option linter.unusedVariables false

variable {F : Fence} {n : Nat} {P : Program} {α : Type}

/-- AN ITERATOR, AND WHAT V SAYS OF AN ELEMENT: W0 is the world behind the round ahead, W1 the one in which it is yielded: between them there is nothing but new memory. -/
def SeqV (F : Fence) (n : Nat) (P : Program) (g : Nat) (lb : Array Value) (encs : α → Array Value) (V : List α → α → World → World → Prop) (Kp : World → World → Prop) (S Sp : List α → Prop) (w : World) : Prop :=
  ∀ (l : Nat) (J Jx : List α → World → Prop) (W : World), Below w.heap.size w W → AbidesFrom W.heap.size J → AbidesFrom W.heap.size Jx →
    (∀ pre x W0 W1, J pre W0 → Fr (fun _ => False) W0 W1 → V pre x W0 W1 → YieldAt F (n - 1) P l (encs x) W1 fun e W' =>
      (e = .returned (.bool true) ∧ J (pre ++ [x]) W' ∧ Kp W1 W') ∨ (e = .returned (.bool false) ∧ Jx (pre ++ [x]) W')) →
    J [] W →
    CallsIn F n P g (#[.func (.yield l) #[] #[]] ++ lb) W fun e W' => (∃ v, e = .returned v) ∧ ((∃ xs, S xs ∧ J xs W') ∨ (∃ pre, Sp pre ∧ Jx pre W'))

/-- the loop's record, in a state -/
private def lrec (fn : FuncId) (tmps : Array Value) (ps : Array Tmp) (assign body : Code) (D : Nat) (st : LoopState) (pe : Option Code) : Loop :=
  { state := st, pending := pe, fn := fn, tmps := tmps, params := ps, assign := assign, body := body, defers := D }

/-- what a round leaves of the law's own two blocks -/
private theorem round_end {fn : FuncId} {tmps : Array Value} {ps : Array Tmp} {assign body : Code} {D L : Nat} (hDL : D < L) {X W3 : World} (hX : X.heap[L]? = some (.loop (lrec fn tmps ps assign body D .busy none))) (hD : X.heap[D]? = some (.deferred (some []))) (hk : KeepsFrom D X W3) (jump : Option Code) :
    (Instr.endRound L jump).run P W3 = .ok (.bool jump.isNone) (W3.putObj L (.loop (lrec fn tmps ps assign body D (if jump.isNone then .ready else .done) jump))) ∧
    W3.heap[L]? = some (.loop (lrec fn tmps ps assign body D .busy none)) ∧
    (W3.putObj L (.loop (lrec fn tmps ps assign body D (if jump.isNone then .ready else .done) jump))).heap[L]? = some (.loop (lrec fn tmps ps assign body D (if jump.isNone then .ready else .done) jump)) ∧
    (W3.putObj L (.loop (lrec fn tmps ps assign body D (if jump.isNone then .ready else .done) jump))).heap[D]? = some (.deferred (some [])) := by
  have h3 := hk.same L _ (Nat.le_of_lt hDL) hX rfl
  exact ⟨run_endRound (P := P) jump h3, h3, World.putObj_heap_same (lt_of_row h3), (World.putObj_heap_other (by omega)).trans (hk.same D _ (Nat.le_refl _) hD rfl)⟩

theorem wpIn_rangeV {g : Operand} {ps : Array Tmp} {assign body : Code} {Q : Exit → Act → World → Prop} {a : Act} {w : World}
    (hro : F.round = none) (h1 : 1 ≤ n) {gf : Nat} {lb : Array Value} (hg : a.eval g = .func (.func gf) #[] lb) (hFg : F.fn gf) (eg : ∀ args w, (callFunc gf args).run P w = .ok (.enter gf args) w)
    {encs : α → Array Value} {V : List α → α → World → World → Prop} {Kp : World → World → Prop} {S Sp : List α → Prop} {w0 : World} (hseq : SeqV F (n - 1) P gf lb encs V Kp S Sp w0) (hb0 : Below w0.heap.size w0 w) (hps : ∀ x, (encs x).size = ps.size)
    (hKt : ∀ {A B C : World}, Kp A B → Kp B C → Kp A C)
    (hKb : ∀ (W : World) (l : Nat) (o o' : Obj), w.heap.size ≤ l → W.heap[l]? = some o → o.isCells = false → o.isWalk = false → Kp W (W.putObj l o'))
    (I : List α → World → Prop) (Ix : Code → List α → World → Prop) (I1 : List α → α → Act → World → Prop) (hI : OwnFrom w.heap.size I) (hIx : ∀ c, OwnFrom w.heap.size (Ix c)) (h0 : I [] w)
    (hIb : ∀ (pre : List α) (x : α) (a1 : Act) (W : World) (l : Nat) (o o' : Obj), w.heap.size ≤ l → W.heap[l]? = some o → o.isCells = false → o.isWalk = false → I1 pre x a1 W → I1 pre x a1 (W.putObj l o'))
    (hassign : ∀ (l : Nat) (pre : List α) (x : α) (W0 W : World) (K : Act → World → Prop), I pre W0 → Fr (fun _ => False) W0 W → V pre x W0 W → (∀ a1 W', KeepsFrom w.heap.size W W' → Kp W W' → I1 pre x a1 W' → K a1 W') →
      assign.wpIn (F.inRound l) (n - 1 - 1) P (Exit.then K (fun _ _ _ => False)) { tmps := (ps.zip (encs x)).foldl (fun t (p, v) => t.setIfInBounds p v) a.tmps, defers := [] } W)
    (hbody : ∀ (l : Nat) (pre : List α) (x : α) (a1 : Act) (W : World), I1 pre x a1 W → body.wpIn (F.inRound l) (n - 1 - 1) P (ownPostG w.heap.size Kp I Ix (pre ++ [x]) W) a1 W)
    (hdone : ∀ (D : Nat) (xs : List α) (W : World), w.heap.size ≤ D → S xs → I xs W → W.heap[D]? = some (.deferred (some [])) → Q .normal { a with defers := { target := .collected D, args := #[] } :: a.defers } W)
    (hstop : ∀ (D : Nat) (c : Code) (pre : List α) (W : World), w.heap.size ≤ D → Sp pre → Ix c pre W → W.heap[D]? = some (.deferred (some [])) → c.wpIn F n P Q { a with defers := { target := .collected D, args := #[] } :: a.defers } W) :
    (Code.rangeFunc g ps assign body).wpIn F n P Q a w := by
  refine wpIn_rangeFunc (fun fn hfn => ?_)
  rw [hro]
  -- the two blocks that the statement lays: the deferred calls, the loop
  obtain ⟨D, hD⟩ : ∃ D, w.heap.size = D := ⟨_, rfl⟩
  obtain ⟨rc, hrc⟩ : ∃ rc, rc = lrec fn a.tmps ps assign body D := ⟨_, rfl⟩
  obtain ⟨W1, hW1⟩ : ∃ W1, (w.alloc (.deferred (some []))).alloc (.loop (rc .ready none)) = W1 := ⟨_, rfl⟩
  have blk1 : W1.heap[D + 1]? = some (.loop (rc .ready none)) := by
    have h := World.alloc_heap_new (w.alloc (.deferred (some []))) (.loop (rc .ready none))
    rw [World.size_alloc, hD] at h
    rw [← hW1]; exact h
  have blk0 : W1.heap[D]? = some (.deferred (some [])) := by
    rw [← hW1, ← hD]; exact (Below.heap_alloc _ _ _ (by simp)).trans (World.alloc_heap_new w _)
  have hsz1 : W1.heap.size = D + 2 := by rw [← hW1]; simp [hD]
  have bel1 : Below w0.heap.size w0 W1 := by
    rw [← hW1]; exact hb0.trans ((((Below.refl _ w).alloc (Nat.le_refl _) _).alloc (by simp) _).mono hb0.size)
  have inv1 : I [] W1 := by rw [← hW1]; exact hI.alloc _ (hI.alloc _ h0)
  have ent : (Instr.enterLoop fn a.tmps ps assign body none).run P w = .ok (D + 1, [{ target := .collected D, args := #[] }]) W1 := by
    rw [← hW1, hrc, ← hD]; exact run_enterLoop_outer _ _ _ _ _
  refine ⟨D + 1, [{ target := .collected D, args := #[] }], W1, { target := .fn (.func gf) lb, args := #[.func (.yield (D + 1)) #[] #[]] }, W1, gf, #[.func (.yield (D + 1)) #[] #[]] ++ lb, W1, ent, ?_, ?_, ?_, fun _ => h1, ?_⟩
  · simp only [resolve, hg]
    simp [go_sem]
  · intro f' hf'; simp [Target.leads] at hf'; subst hf'; exact hFg
  · simp [invoke, go_sem, eg]
  -- what a step of the iterator's own leaves of the two blocks, and of an invariant
  have keep2 : ∀ {X Y : World} {row : Option Nat} {o : Obj} {k : Nat}, X.grownBy Y row → (∀ r, row = some r → W1.heap.size ≤ r ∧ ∃ o : Obj, X.heap[r]? = some o ∧ o.isWalk = true) → X.heap[k]? = some o → o.isWalk = false → Y.heap[k]? = some o :=
    fun hg' hr hk hw => (grownBy_keeps hg' (fun r e => (hr r e).2) hk hw).trans hk
  have own : ∀ {X : World} {row : Option Nat}, (∀ r, row = some r → W1.heap.size ≤ r ∧ ∃ o : Obj, X.heap[r]? = some o ∧ o.isWalk = true) → (∀ r, row = some r → w.heap.size ≤ r ∧ ∃ o : Obj, X.heap[r]? = some o ∧ o.isCells = false) := fun hr r e => by
    obtain ⟨hB, o, ho, hw⟩ := hr r e
    exact ⟨by omega, o, ho, Obj.not_cells_of_walk hw⟩
  refine (hseq (D + 1) (fun pre X => I pre X ∧ X.heap[D + 1]? = some (.loop (rc .ready none)) ∧ X.heap[D]? = some (.deferred (some [])))
    (fun pre X => ∃ c, Ix c pre X ∧ X.heap[D + 1]? = some (.loop (rc .done (some c))) ∧ X.heap[D]? = some (.deferred (some []))) W1 bel1
    (fun s X Y row hs hg' hr => ⟨hI s X Y row hs.1 hg' (own hr), keep2 hg' hr hs.2.1 rfl, keep2 hg' hr hs.2.2 rfl⟩)
    (fun s X Y row hs hg' hr => by
      obtain ⟨c, hc, hl, hk⟩ := hs
      exact ⟨c, hIx c s X Y row hc hg' (own hr), keep2 hg' hr hl rfl, keep2 hg' hr hk rfl⟩)
    ?_ ⟨inv1, blk1, blk0⟩).mono ?_
  · -- a round
    rintro pre x X0 X ⟨hi, hl0, hk0⟩ fX hv
    have hl := fX.cells hl0 (fun h => h)
    have hk := fX.cells hk0 (fun h => h)
    have hlt := lt_of_row hl
    have hy := run_yield (P := P) (args := encs x) hl (by rw [hrc]; exact hps x)
    rw [hrc] at hy
    refine ⟨fn, _, assign, body, hy, roundIn_of_wpIn hfn (hassign _ pre x X0 X _ hi fX hv (fun a1 X' kX KX i1 => ?_))⟩
    rw [hD] at kX
    have hl' := kX.same (D + 1) _ (by omega) hl rfl
    have hk' := kX.same D _ (Nat.le_refl _) hk rfl
    have hlt' := lt_of_row hl'
    obtain ⟨Y, hY⟩ : ∃ Y, X'.putObj (D + 1) (.loop (rc .busy none)) = Y := ⟨_, rfl⟩
    have hbeg := run_beginRound (P := P) hl' (by rw [hrc]; rfl)
    have yl : Y.heap[D + 1]? = some (.loop (rc .busy none)) := by rw [← hY]; exact World.putObj_heap_same hlt'
    have yk : Y.heap[D]? = some (.deferred (some [])) := by rw [← hY]; exact (World.putObj_heap_other (by omega)).trans hk'
    have yi : I1 pre x a1 Y := by rw [← hY]; exact hIb pre x a1 X' _ _ _ (by omega) hl' rfl rfl i1
    have yK : Kp X Y := by rw [← hY]; exact hKt KX (hKb _ _ _ _ (by omega) hl' rfl rfl)
    rw [hrc] at hbeg
    refine ⟨_, hbeg, ?_⟩
    rw [show ({ lrec fn a.tmps ps assign body D .ready none with state := .busy } : Loop) = lrec fn a.tmps ps assign body D .busy none from rfl, ← hrc, hY]
    refine wpIn_mono (hbody _ pre x a1 Y yi) ?_
    rw [hrc] at yl
    rintro e a3 Z hp
    cases e with
    | normal =>
      obtain ⟨hk3, hkp, hi3⟩ := hp
      rw [hD] at hk3
      obtain ⟨hr, hl3, hl4, hk4⟩ := round_end (P := P) (by omega) yl yk hk3 none
      rw [hrc]
      exact ⟨_, _, hr, .inl ⟨rfl, ⟨hI.putObj _ hi3 (by omega) hl3 rfl, hl4, hk4⟩, hKt (hKt yK hkp) (hKb _ _ _ _ (by omega) hl3 rfl rfl)⟩⟩
    | ret =>
      obtain ⟨hk3, hi3⟩ := hp
      rw [hD] at hk3
      obtain ⟨hr, hl3, hl4, hk4⟩ := round_end (P := P) (by omega) yl yk hk3 (some .ret)
      rw [hrc]
      exact ⟨_, _, hr, .inr ⟨rfl, .ret, (hIx _).putObj _ hi3 (by omega) hl3 rfl, hl4, hk4⟩⟩
    | exit id =>
      obtain ⟨hk3, hi3⟩ := hp
      rw [hD] at hk3
      obtain ⟨hr, hl3, hl4, hk4⟩ := round_end (P := P) (by omega) yl yk hk3 (some (.exit id))
      rw [hrc]
      exact ⟨_, _, hr, .inr ⟨rfl, .exit id, (hIx _).putObj _ hi3 (by omega) hl3 rfl, hl4, hk4⟩⟩
    | goto t =>
      obtain ⟨hk3, hi3⟩ := hp
      rw [hD] at hk3
      obtain ⟨hr, hl3, hl4, hk4⟩ := round_end (P := P) (by omega) yl yk hk3 (some (.goto t))
      rw [hrc]
      exact ⟨_, _, hr, .inr ⟨rfl, .goto t, (hIx _).putObj _ hi3 (by omega) hl3 rfl, hl4, hk4⟩⟩
    | panic ch => exact hp.elim
    | outgrown => exact hp.elim
  · -- behind the iterator
    rintro e X ⟨⟨v, rfl⟩, (⟨xs, hS, hi, hl, hk⟩ | ⟨pre, hSp, c, hi, hl, hk⟩)⟩
    · have he := run_endLoop (P := P) hl (by rw [hrc]; simp [lrec])
      rw [hrc] at he
      refine ⟨none, _, he, ?_⟩
      exact hdone _ xs _ (by omega) hS (hI.putObj _ hi (by omega) hl rfl) ((World.putObj_heap_other (by omega)).trans hk)
    · have he := run_endLoop (P := P) hl (by rw [hrc]; simp [lrec])
      rw [hrc] at he
      refine ⟨some c, _, he, ?_⟩
      exact hstop _ c pre _ (by omega) hSp ((hIx c).putObj _ hi (by omega) hl rfl) ((World.putObj_heap_other (by omega)).trans hk)
/-- WHAT A ROUND KEEPS: all cells but those of M. -/
def Kc (M : Nat → Prop) (W W' : World) : Prop := ∀ k cs t m, W.heap[k]? = some (.cells cs t m) → ¬ M k → W'.heap[k]? = W.heap[k]?
theorem Kc.refl (M : Nat → Prop) (W : World) : Kc M W W := fun _ _ _ _ _ _ => rfl
theorem Kc.trans {M : Nat → Prop} {A B C : World} (h : Kc M A B) (k : Kc M B C) : Kc M A C := fun i cs t m hi hM => by
  have h1 := h i cs t m hi hM
  rw [k i cs t m (h1.trans hi) hM, h1]
theorem Kc.of_fr {M : Nat → Prop} {W W' : World} (h : Fr (fun _ => False) W W') : Kc M W W' := fun k cs t m hk _ => h.block k (lt_of_row hk) (fun h => h)
theorem Kc.cell {M : Nat → Prop} {W W' : World} (h : Kc M W W') {b o : Nat} {u : Value} (hc : W.cell? ⟨b, o, none⟩ = some u) (hM : ¬ M b) : W'.cell? ⟨b, o, none⟩ = some u := by
  have hex : ∃ cs t m, W.heap[b]? = some (.cells cs t m) := by
    unfold World.cell? at hc
    simp only at hc
    split at hc
    · rename_i cs t m he
      exact ⟨cs, t, m, he⟩
    · cases hc
  obtain ⟨cs, t, m, he⟩ := hex
  rw [World.cell?_of_block (w := W) (w' := W') (h b cs t m he hM)]
  exact hc
theorem Kc.putObj {M : Nat → Prop} {W : World} {l : Nat} {o : Obj} (o' : Obj) (h : W.heap[l]? = some o) (hc : o.isCells = false) : Kc M W (W.putObj l o') := fun k cs t m hk _ => World.putObj_heap_other (fun e => by
  subst e
  rw [h] at hk
  cases hk
  cases hc)
/-- .. and the memory grows -/
def Kz (M : Nat → Prop) (W W' : World) : Prop := Kc M W W' ∧ W.heap.size ≤ W'.heap.size
theorem Kz.trans {M : Nat → Prop} {A B C : World} (h : Kz M A B) (k : Kz M B C) : Kz M A C := ⟨h.1.trans k.1, Nat.le_trans h.2 k.2⟩
theorem Kz.putObj {M : Nat → Prop} {W : World} {l : Nat} {o : Obj} (o' : Obj) (h : W.heap[l]? = some o) (hc : o.isCells = false) : Kz M W (W.putObj l o') := ⟨Kc.putObj o' h hc, by simp [World.putObj]⟩
theorem Ro.kc {M : Nat → Prop} {w w' : World} {e : TypeId} {k : Nat} {a : Option Addr} {n c : Nat} {xs : List Value} (h : Ro w e k a n c xs) (hk : Kc M w w') (hM : ∀ j, blk a = some j → ¬ M j) : Ro w' e k a n c xs := by
  refine ⟨h.1, ?_⟩
  rcases h.2 with h0 | ⟨g, o, cur, hv, hg, r⟩
  · exact .inl h0
  · exact .inr ⟨g, o, cur, hv, (hk g _ _ _ hg (hM g (by rw [hv]; rfl))).trans hg, r⟩
/-- a step that turns no cells keeps them -/
theorem Kz.grown {M : Nat → Prop} {W W' : World} {row : Option Nat} (hg : W.grownBy W' row) (hr : ∀ r, row = some r → ∃ o : Obj, W.heap[r]? = some o ∧ o.isCells = false) : Kz M W W' :=
  ⟨fun k cs t m hk _ => hg.block k (lt_of_row hk) (fun e => by
    obtain ⟨o, ho, hc⟩ := hr k e.symm
    rw [ho] at hk
    cases hk
    cases hc), hg.size⟩
theorem Kz.of_fr {M : Nat → Prop} {W W' : World} (h : Fr (fun _ => False) W W') : Kz M W W' := ⟨Kc.of_fr h, h.size⟩
theorem Kz.of_fr' {S : Nat → Prop} {W W' : World} (h : Fr S W W') : Kz S W W' := ⟨fun k cs t m hk hn => h.block k (lt_of_row hk) hn, h.size⟩
theorem Kz.mono {M N : Nat → Prop} {W W' : World} (h : Kz M W W') (hN : ∀ k, M k → N k) : Kz N W W' := ⟨fun k cs t m hk hn => h.1 k cs t m hk (fun e => hn (hN k e)), h.2⟩
theorem Fr.own {S : Nat → Prop} {w W W' : World} {row : Option Nat} (h : Fr S w W) (hg : W.grownBy W' row) (hr : ∀ r, row = some r → w.heap.size ≤ r) : Fr S w W' :=
  h.trans (Fr.of_grown hg) (fun i hi e => by have := hr i e; omega)
theorem wp_of_actC {F : Fence} {n : Nat} {P : Program} {c : Code} {Q : Exit → Act → World → Prop} {a : Act} {w : World} (h : ∀ a0, a0 = a → c.wpIn F n P Q a0 w) : c.wpIn F n P Q a w := h a rfl
end Go.Proofs.Ytffjekhlloippaa
