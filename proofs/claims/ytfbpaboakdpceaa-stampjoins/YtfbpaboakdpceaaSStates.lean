/-
  A region that draws its order and makes memory: by an invariant over what has come up.
-/
import Derived.Test.YtfbpaboakdpceaaSAbove
import Derived.Deep.RegionHeld
namespace Go.Proofs.Ytfbpaboakdpceaa
open Go.RowKit
set_option linter.unusedVariables false
set_option linter.unusedSimpArgs false

/-- each of the operations rs may come next -/
def AllS (P : Program) (ops : Array Oper) (Q : Exit → Act → World → Prop) (T : Nat → Act → World → Prop) (a : Act) (w : World) (rs : List Nat) : Prop := ∀ i ∈ rs, wpOp P ops Q i (T i) a w
theorem AllS.nil {P : Program} {ops : Array Oper} {Q : Exit → Act → World → Prop} {T : Nat → Act → World → Prop} {a : Act} {w : World} : AllS P ops Q T a w [] := fun _ h => by cases h
theorem AllS.cons {P : Program} {ops : Array Oper} {Q : Exit → Act → World → Prop} {T : Nat → Act → World → Prop} {a : Act} {w : World} {i : Nat} {o : Oper} {rs : List Nat} (ho : ops[i]? = some o)
    (h : ∀ K' : Act → World → Prop, Shut (∀ a w, T i a w → K' a w) → if Region.wanted o (yielded ops a.tmps) = true then Oper.wp P o a w K' Q else K' (a.put o.dst undef) w) (hs : AllS P ops Q T a w rs) : AllS P ops Q T a w (i :: rs) := fun j hj => by
  rcases List.mem_cons.1 hj with rfl | hj
  · exact wpOp_step ho (fun K' hK => h K' hK)
  · exact hs j hj
theorem wpAny_states {P : Program} {ops : Array Oper} {Q : Exit → Act → World → Prop} {S : World → Prop} (I : Nat → Array Bool → Act → World → Prop)
    (hs : ∀ n listed a w, I n listed a w → (Region.ready .any ops listed = [] ∧ Q .normal a w) ∨ ∃ m rs, n = m + 1 ∧ Region.ready .any ops listed = rs ∧ rs ≠ [] ∧ AllS P ops Q (fun i a' w' => S w' ∧ I m (listed.setIfInBounds i true) a' w') a w rs) :
    ∀ n listed a w, I n listed a w → wpAnyH P .any ops Q S n listed a w
  | 0, listed, a, w, h => by
    rcases hs 0 listed a w h with ⟨h1, h2⟩ | ⟨m, rs, e, _⟩
    · exact wpAnyH_done h1 h2 _
    · omega
  | n + 1, listed, a, w, h => by
    rcases hs (n + 1) listed a w h with ⟨h1, h2⟩ | ⟨m, rs, e, h1, h2, h3⟩
    · exact wpAnyH_done h1 h2 _
    · obtain rfl : n = m := by omega
      exact wpAnyH_all h1 h2 (fun i hi => wpOp_mono (fun a' w' h => ⟨h.1, wpAny_states I hs n _ a' w' h.2⟩) (h3 i hi))
theorem sstep_store {o : Oper} {a : Act} {w w' : World} {K : Act → World → Prop} {Q : Exit → Act → World → Prop} {ty : TypeId} {u v : Value} {c : Bool} {alt : Prop} (hc : c = true) (hl : (Instr.storeAt ty u v).run Try.prog w = .ok () w') (h0 : ∃ x y, o.op = .store ty x y ∧ a.eval x = u ∧ a.eval y = v)
    (h : K (a.put o.dst undef) w') : if c = true then Oper.wp Try.prog o a w K Q else alt := by
  obtain ⟨x, y, ho, hx, hy⟩ := h0
  rw [if_pos hc]
  unfold Oper.wp execOp
  simp only [ho, hx, hy, hl, Sem.run_bind, Result.andThen_ok]
  exact h
/-- two vectors have been laid down -/
def Bx (f g : Nat → Int) (b : Bool) (V : World) (x : Nat) : Prop := b = true → Ri V 8 (some ⟨x, 0, none⟩) 2 (S.pair f g)
/-- a box has been made -/
def Ax (W : World) (b : Bool) (V : World) (p : Nat) : Prop := b = true → Vb V p (fun _ => 0) ∧ W.heap.size ≤ p
def Px (a b : Bool) (p q : Nat) : Prop := a = true → b = true → p ≠ q
theorem Bx.fr {f g : Nat → Int} {b : Bool} {V V' : World} {x : Nat} (h : Bx f g b V x) (hf : Fr (fun _ => False) V V') : Bx f g b V' x := fun e => (h e).fr hf
theorem Ax.fr {W : World} {b : Bool} {V V' : World} {x : Nat} (h : Ax W b V x) (hf : Fr (fun _ => False) V V') : Ax W b V' x := fun e => ⟨(h e).1.fr hf, (h e).2⟩
theorem Px.new1 {W V : World} {b : Bool} {q : Nat} (h : Ax W b V q) : Px true b V.heap.size q := fun _ e e2 => by have := lt_of_row (h e).1; omega
theorem Px.new2 {W V : World} {b : Bool} {p : Nat} (h : Ax W b V p) : Px b true p V.heap.size := fun e _ e2 => by have := lt_of_row (h e).1; omega
theorem Fr.al (V : World) (o : Obj) : Fr (fun _ => False) V (V.alloc o) := Fr.alloc (Fr.refl _ _) _
/-- the region's list, named -/
theorem with_ops {P : Program} {ops : Array Oper} {Q : Exit → Act → World → Prop} {S : World → Prop} {n : Nat} {listed : Array Bool} {a : Act} {w : World} (H : ∀ (O : Array Oper) (QQ : Exit → Act → World → Prop), O = ops → QQ = Q → wpAnyH P .any O QQ S n listed a w) : wpAnyH P .any ops Q S n listed a w := H ops Q rfl rfl
theorem with_ops2 {P : Program} {ops : Array Oper} {Q : Exit → Act → World → Prop} {S : World → Prop} {n : Nat} {listed : Array Bool} {a : Act} {w : World} (N : Nat) (L : Array Bool) (hn : n = N) (hl : listed = L) (H : ∀ (O : Array Oper) (QQ : Exit → Act → World → Prop), O = ops → QQ = Q → wpAnyH P .any O QQ S N L a w) : wpAnyH P .any ops Q S n listed a w := by
  subst hn; subst hl; exact H ops Q rfl rfl
theorem get_op {O L : Array Oper} {i : Nat} {o : Oper} (h : O = L) (k : L[i]? = some o) : O[i]? = some o := h ▸ k
/-- three vectors -/
def S.trip (f g h : Nat → Int) : Nat → Nat → Int := fun i => if i = 0 then f else if i = 1 then g else h
theorem Ri.ofS2 {W V : World} {f g : Nat → Int} {t : TypeId} {m : Nat × Nat} (hS : Fr (fun _ => False) W (V.alloc (.cells #[.int .i64 (f 0), .int .i64 (f 1), .int .i64 (f 2), .int .i64 (f 3), .int .i64 (f 4), .int .i64 (f 5), .int .i64 (f 6), .int .i64 (f 7), .int .i64 (g 0), .int .i64 (g 1), .int .i64 (g 2), .int .i64 (g 3), .int .i64 (g 4), .int .i64 (g 5), .int .i64 (g 6), .int .i64 (g 7)] t m))) :
    Ri (V.alloc (.cells #[.int .i64 (f 0), .int .i64 (f 1), .int .i64 (f 2), .int .i64 (f 3), .int .i64 (f 4), .int .i64 (f 5), .int .i64 (f 6), .int .i64 (f 7), .int .i64 (g 0), .int .i64 (g 1), .int .i64 (g 2), .int .i64 (g 3), .int .i64 (g 4), .int .i64 (g 5), .int .i64 (g 6), .int .i64 (g 7)] t m)) 8 (some ⟨V.heap.size, 0, none⟩) 2 (S.pair f g) := Ri.two (Go.heap_alloc_new V _)
theorem Ri.ofS3 {W V : World} {f g h : Nat → Int} {t : TypeId} {m : Nat × Nat} (hS : Fr (fun _ => False) W (V.alloc (.cells #[.int .i64 (f 0), .int .i64 (f 1), .int .i64 (f 2), .int .i64 (f 3), .int .i64 (f 4), .int .i64 (f 5), .int .i64 (f 6), .int .i64 (f 7), .int .i64 (g 0), .int .i64 (g 1), .int .i64 (g 2), .int .i64 (g 3), .int .i64 (g 4), .int .i64 (g 5), .int .i64 (g 6), .int .i64 (g 7), .int .i64 (h 0), .int .i64 (h 1), .int .i64 (h 2), .int .i64 (h 3), .int .i64 (h 4), .int .i64 (h 5), .int .i64 (h 6), .int .i64 (h 7)] t m))) :
    Ri (V.alloc (.cells #[.int .i64 (f 0), .int .i64 (f 1), .int .i64 (f 2), .int .i64 (f 3), .int .i64 (f 4), .int .i64 (f 5), .int .i64 (f 6), .int .i64 (f 7), .int .i64 (g 0), .int .i64 (g 1), .int .i64 (g 2), .int .i64 (g 3), .int .i64 (g 4), .int .i64 (g 5), .int .i64 (g 6), .int .i64 (g 7), .int .i64 (h 0), .int .i64 (h 1), .int .i64 (h 2), .int .i64 (h 3), .int .i64 (h 4), .int .i64 (h 5), .int .i64 (h 6), .int .i64 (h 7)] t m)) 8 (some ⟨V.heap.size, 0, none⟩) 3 (S.trip f g h) := by
  refine .inr ⟨V.heap.size, 0, rfl, fun i j hi hj => ?_⟩
  have h := Go.heap_alloc_new V (.cells #[.int .i64 (f 0), .int .i64 (f 1), .int .i64 (f 2), .int .i64 (f 3), .int .i64 (f 4), .int .i64 (f 5), .int .i64 (f 6), .int .i64 (f 7), .int .i64 (g 0), .int .i64 (g 1), .int .i64 (g 2), .int .i64 (g 3), .int .i64 (g 4), .int .i64 (g 5), .int .i64 (g 6), .int .i64 (g 7), .int .i64 (h 0), .int .i64 (h 1), .int .i64 (h 2), .int .i64 (h 3), .int .i64 (h 4), .int .i64 (h 5), .int .i64 (h 6), .int .i64 (h 7)] t m)
  match i, hi, j, hj with
  | 0, _, 0, _ | 0, _, 1, _ | 0, _, 2, _ | 0, _, 3, _ | 0, _, 4, _ | 0, _, 5, _ | 0, _, 6, _ | 0, _, 7, _ => exact cellA h rfl
  | 1, _, 0, _ | 1, _, 1, _ | 1, _, 2, _ | 1, _, 3, _ | 1, _, 4, _ | 1, _, 5, _ | 1, _, 6, _ | 1, _, 7, _ => exact cellA h rfl
  | 2, _, 0, _ | 2, _, 1, _ | 2, _, 2, _ | 2, _, 3, _ | 2, _, 4, _ | 2, _, 5, _ | 2, _, 6, _ | 2, _, 7, _ => exact cellA h rfl
theorem build2 {W V : World} {f g : Nat → Int} {t : TypeId} {m : Nat × Nat} {K : Act → World → Prop} {A : Act} (hS : Fr (fun _ => False) W V) (H : ∀ U, Fr (fun _ => False) W U → Fr (fun _ => False) V U → Ri U 8 (some ⟨V.heap.size, 0, none⟩) 2 (S.pair f g) → K A U) : K A (V.alloc (.cells #[.int .i64 (f 0), .int .i64 (f 1), .int .i64 (f 2), .int .i64 (f 3), .int .i64 (f 4), .int .i64 (f 5), .int .i64 (f 6), .int .i64 (f 7), .int .i64 (g 0), .int .i64 (g 1), .int .i64 (g 2), .int .i64 (g 3), .int .i64 (g 4), .int .i64 (g 5), .int .i64 (g 6), .int .i64 (g 7)] t m)) := H _ (Fr.alloc hS _) (Fr.al _ _) (Ri.ofS2 (Fr.alloc hS _))
theorem build3 {W V : World} {f g h : Nat → Int} {t : TypeId} {m : Nat × Nat} {K : Act → World → Prop} {A : Act} (hS : Fr (fun _ => False) W V) (H : ∀ U, Fr (fun _ => False) W U → Fr (fun _ => False) V U → Ri U 8 (some ⟨V.heap.size, 0, none⟩) 3 (S.trip f g h) → K A U) : K A (V.alloc (.cells #[.int .i64 (f 0), .int .i64 (f 1), .int .i64 (f 2), .int .i64 (f 3), .int .i64 (f 4), .int .i64 (f 5), .int .i64 (f 6), .int .i64 (f 7), .int .i64 (g 0), .int .i64 (g 1), .int .i64 (g 2), .int .i64 (g 3), .int .i64 (g 4), .int .i64 (g 5), .int .i64 (g 6), .int .i64 (g 7), .int .i64 (h 0), .int .i64 (h 1), .int .i64 (h 2), .int .i64 (h 3), .int .i64 (h 4), .int .i64 (h 5), .int .i64 (h 6), .int .i64 (h 7)] t m)) := H _ (Fr.alloc hS _) (Fr.al _ _) (Ri.ofS3 (Fr.alloc hS _))
/-- Join of two, as a call lays them -/
theorem join2 {u v r : Nat → Int} (hr : ∀ j, j < 8 → max (u j) (v j) = r j) {V : World} {x : Nat} (h : Ri V 8 (some ⟨x, 0, none⟩) 2 (S.pair u v)) : Calls Try.prog 24 #[.slice (some ⟨x, 0, none⟩) 2 2] V fun e w' => e = .returned (.agg (V8 r)) ∧ Fr (fun _ => False) V w' := by
  rw [show V8 r = V8 (fun j => S.fold max (S.pair u v) j 2) from V8.of (fun k hk => (hr k hk).symm)]
  exact sjoin_any (c := 2) h (by omega) (by omega)
theorem meet2 {u v r : Nat → Int} (hr : ∀ j, j < 8 → min (u j) (v j) = r j) {V : World} {x : Nat} (h : Ri V 8 (some ⟨x, 0, none⟩) 2 (S.pair u v)) : Calls Try.prog 26 #[.slice (some ⟨x, 0, none⟩) 2 2] V fun e w' => e = .returned (.agg (V8 r)) ∧ Fr (fun _ => False) V w' := by
  rw [show V8 r = V8 (fun j => S.fold min (S.pair u v) j 2) from V8.of (fun k hk => (hr k hk).symm)]
  exact smeet_any (c := 2) h (by omega) (by omega)
theorem join3 {u v y r : Nat → Int} (hr : ∀ j, j < 8 → max (max (u j) (v j)) (y j) = r j) {V : World} {x : Nat} (h : Ri V 8 (some ⟨x, 0, none⟩) 3 (S.trip u v y)) : Calls Try.prog 24 #[.slice (some ⟨x, 0, none⟩) 3 3] V fun e w' => e = .returned (.agg (V8 r)) ∧ Fr (fun _ => False) V w' := by
  rw [show V8 r = V8 (fun j => S.fold max (S.trip u v y) j 3) from V8.of (fun k hk => (hr k hk).symm)]
  exact sjoin_any (c := 3) h (by omega) (by omega)
theorem eqlV_of {f g : Nat → Int} (h : ∀ j, j < 8 → f j = g j) (W : World) : (binOp .eql 42 (.agg (V8 f)) (.agg (V8 g))).run Try.prog W = .ok (.bool true) W := by
  rw [eqlV, S.eqv_iff.2 h]
end Go.Proofs.Ytfbpaboakdpceaa
