/-
  The document's table: set, Put.
-/
import Derived.Test.YtffjekhlloippaaYRAsk
namespace Go.Proofs.Ytffjekhlloippaa
open Go.RowKit Go.Maps
set_option linter.unusedVariables false
set_option linter.unusedSimpArgs false
set_option maxRecDepth 100000
/-- where a later part of rows begins -/
def cutY (a : Option Addr) (c l : Nat) : Option Addr := if c = l then a else a.map (·.add (l * 6))
theorem blk_cutY (a : Option Addr) (c l : Nat) : blk (cutY a c l) = blk a := by
  unfold cutY
  split
  · rfl
  · cases a with
    | none => rfl
    | some a => simp only [Option.map_some, blk, Addr.add]; split <;> rfl
theorem run_cutY_lo (w : World) (a : Option Addr) (n c l : Nat) (hl : l ≤ n) (x : Int) (hx : x = (l : Int)) :
    (Instr.slice 26 (.slice a n c) (some (.int .i64 x)) none none).run Try.prog w = .ok (.slice (cutY a c l) (n - l) (c - l)) w := by
  subst hx
  obtain ⟨i0, z, hi, hz0, hz1, hz2, hz3⟩ := Y.info_r
  have h1 : (Instr.sliceBound (.int .i64 (l : Int)) n .sliceB).run Try.prog w = .ok l w := by
    have : (0 : Int) ≤ (l : Int) ∧ (l : Int) ≤ (n : Int) := by omega
    simp [Instr.sliceBound, asIntOf, this]
  simp [Instr.slice, Instr.sliceBounds, h1, run_underlying Try.underlying26, sizeOf, typeInfo, hi, hz1, cutY]
theorem run_cutY_hi (w : World) (a : Option Addr) (n c h : Nat) (hh : h ≤ c) (x : Int) (hx : x = (h : Int)) :
    (Instr.slice 26 (.slice a n c) none (some (.int .i64 x)) none).run Try.prog w = .ok (.slice a h c) w := by
  subst hx
  obtain ⟨i0, z, hi, hz0, hz1, hz2, hz3⟩ := Y.info_r
  have h1 : (Instr.sliceBound (.int .i64 (h : Int)) c .sliceAcap).run Try.prog w = .ok h w := by
    have : (0 : Int) ≤ (h : Int) ∧ (h : Int) ≤ (c : Int) := by omega
    simp [Instr.sliceBound, asIntOf, this]
  simp [Instr.slice, Instr.sliceBounds, h1, run_underlying Try.underlying26, sizeOf, typeInfo, hi]
  cases a <;> simp [Addr.add]
theorem drop_rwY {I : Nat → Prop} {w : World} {a : Option Addr} {t : Y.Tb} (h : Rw I w 6 a t.length (Y.flat t)) {c : Nat} (hc : t.length ≤ c) (k : Nat) : Rw I w 6 (cutY a c k) (t.drop k).length (Y.flat (t.drop k)) := by
  refine ⟨Y.flat_len _, ?_⟩
  rcases Nat.lt_or_ge k t.length with h1 | h1
  · rcases h.2 with h0 | ⟨g, o, rfl, hI, hcl⟩
    · omega
    · refine .inr ⟨g, o + k * 6, ?_, hI, fun j u hu => ?_⟩
      · unfold cutY; rw [if_neg (by omega)]; simp [Addr.add_lit]
      · rw [Nat.add_assoc]
        refine hcl _ u ?_
        have e : Y.flat t = Y.flat (t.take k) ++ Y.flat (t.drop k) := by rw [← Y.flat_append, List.take_append_drop]
        rw [e, List.getElem?_append_right (by rw [Y.flat_len, List.length_take]; omega), Y.flat_len, List.length_take, show min k t.length = k by omega, Nat.add_sub_cancel_left]
        exact hu
  · exact .inl (by rw [List.length_drop]; omega)
theorem take_rwY {I : Nat → Prop} {w : World} {a : Option Addr} {t : Y.Tb} (h : Rw I w 6 a t.length (Y.flat t)) (k : Nat) : Rw I w 6 a (t.take k).length (Y.flat (t.take k)) := by
  refine ⟨Y.flat_len _, ?_⟩
  rcases h.2 with h0 | ⟨g, o, ha, hI, hcl⟩
  · exact .inl (by rw [List.length_take]; omega)
  · refine .inr ⟨g, o, ha, hI, fun j u hu => hcl j u ?_⟩
    have e : Y.flat t = Y.flat (t.take k) ++ Y.flat (t.drop k) := by rw [← Y.flat_append, List.take_append_drop]
    rw [e, List.getElem?_append_left (List.getElem?_eq_some_iff.1 hu).1]
    exact hu
/-- what set leaves -/
theorem Yd.set_done {w W3 W4 W5 : World} {r : Nat} {a a4 : Option Addr} {c c4 : Nat} {t : Y.Tb} (h : Yd w r a c t) {s : Int} {q : Y.Rq} (hok : Y.Ok (A.put s q t)) {lo j : Nat} (hlo : A.low s t = lo) (hj : j = lo + (if (A.get s t).isSome then 1 else 0))
    (hf : Fr (fun i => w.heap.size ≤ i) w W4) (hro : Ro W4 61 6 a4 (lo + 1 + (t.length - j)) c4 (Y.flat (t.take lo) ++ (Y.wcells s q).toList ++ Y.flat (t.drop j))) (hnew : ∀ k, blk a4 = some k → w.heap.size ≤ k)
    (hW : W5 = W4.setCell ⟨r, 0, none⟩ (.slice a4 (lo + 1 + (t.length - j)) c4)) (hcap : lo + 1 + (t.length - j) ≤ c4) : Yd W5 r a4 c4 (A.put s q t) ∧ (∀ i, blk a4 = some i → w.heap.size ≤ i) ∧ Fr (fun i => i = r) w W5 := by
  have hr := lt_of_row h.box
  have e1 : A.put s q t = t.take lo ++ (s, q) :: t.drop j := by
    rw [hj, ← hlo]; exact A.put_low h.ok.up
  have hlow := A.low_le s t
  have e2 : (A.put s q t).length = lo + 1 + (t.length - j) := by
    rw [e1]
    simp only [List.length_append, List.length_cons, List.length_take, List.length_drop]
    omega
  have fW : Fr (fun i => i = r) W4 W5 := by rw [hW]; exact Fr.setCell (p := ⟨r, 0, none⟩) (S := fun i => i = r) (Fr.refl _ _) (fun _ => rfl) _
  have hb4 : W4.heap[r]? = _ := hf.cells h.box (fun e => by omega)
  refine ⟨⟨?_, ?_, by rw [e2]; exact hcap, hok⟩, hnew, (hf.mono (T := fun i => i = r) (fun i hi e => by omega)).trans fW (fun _ _ h => h)⟩
  · rw [hW, setCell_row hb4, e2]; rfl
  · rw [e2, e1, Y.flat_append, show (s, q) :: t.drop j = [(s, q)] ++ t.drop j from rfl, Y.flat_append, Y.flat_one, ← List.append_assoc]
    refine Rw.of_ro (hro.kept fW (fun k hk e => ?_)) (fun g hg e => ?_)
    · have := hnew k hk; omega
    · have := hnew g hg; omega
set_option maxHeartbeats 4000000 in
theorem rsetY_any {w : World} {r : Nat} {a : Option Addr} {c : Nat} {t : Y.Tb} (h : Yd w r a c t) (s : Int) (q : Y.Rq) (hok : Y.Ok (A.put s q t)) :
    Calls Try.prog 28 #[ptrY r, Y.rowv s q] w fun e w' => e = .returned (.tuple #[]) ∧ ∃ a' c', Yd w' r a' c' (A.put s q t) ∧ (∀ i, blk a' = some i → w.heap.size ≤ i) ∧ Fr (fun i => i = r) w w' := by
  obtain ⟨n, x0, x1, x2, x3⟩ := q
  have KF := hid (fun (W : World) (hf : Fr (fun _ => False) w W) => rfindY_any (h.fr hf) s)
  obtain ⟨lo, hlo⟩ : ∃ lo, A.low s t = lo := ⟨_, rfl⟩
  obtain ⟨b, hb⟩ : ∃ b, (A.get s t).isSome = b := ⟨_, rfl⟩
  obtain ⟨len, hln⟩ : ∃ len, t.length = len := ⟨_, rfl⟩
  rw [hlo, hb] at KF
  have hl64 : len ≤ 64 := by rw [← hln]; exact h.ok.few
  have hll : lo ≤ len := by rw [← hln, ← hlo]; exact A.low_le s t
  have hlc : len ≤ c := by rw [← hln]; exact h.cap
  have hlb : b = true → lo < len := fun e => by
    rw [e] at hb
    obtain ⟨v, hv⟩ := Option.isSome_iff_exists.1 hb
    have := (List.getElem?_eq_some_iff.1 ((A.low_get h.ok.up).1 hv)).1
    rw [hlo, hln] at this
    exact this
  have f0 : Fr (fun _ => False) w (w.alloc (.cells (Y.wcells s (n, x0, x1, x2, x3)) 61)) := Fr.alloc (Fr.refl _ _) _
  have HB := hid (Go.heap_alloc_new w (.cells (Y.wcells s (n, x0, x1, x2, x3)) 61 (0, 0)))
  have F0 := hid f0
  have H := hid h
  have HOK := hid hok
  have HLO := hid hlo
  have HBB := hid hb
  have HX := hid (show w.heap[r]? = some (.cells #[.slice a len c] 28 (0, 0)) from by rw [← hln]; exact h.box)
  have hrr := lt_of_row h.box
  clear h f0 hok hlo hb
  cases b with
  | false =>
    go_enter Try.func28, Try.ntmps28
    go_wp2_with fail
    refine (KF.out _ F0.out).mono ?_
    rintro e w1 ⟨rfl, hf⟩
    have B1 := hid (hf.cells HB.out (fun h => h))
    have f1 := F0.out.trans hf (fun _ _ h => h)
    have rw1 := (H.out.fr f1).row
    obtain ⟨a2, c2, w2, hr2, ro2, fr2, nw2⟩ := Y.row_appends w1 none 0 0 [] (Ro.nil _ _ _) (sc := c) a (t.take lo) (take_rwY rw1 lo) (by rw [List.length_take]; omega)
    rw [List.length_take, hln, Nat.min_eq_left hll, Nat.zero_add] at hr2 ro2
    rw [List.nil_append] at ro2
    have fr2' : Fr (fun _ => False) w1 w2 := fr2.mono (fun i hi e => by simp [blk] at e)
    obtain ⟨a3, c3, w3, hr3, ro3, fr3, nw3⟩ := Y.row_append w2 a2 c2 lo _ ro2 (by omega) s (n, x0, x1, x2, x3)
    have nw2' : ∀ k, blk a2 = some k → w1.heap.size ≤ k := fun k hk => by
      rcases nw2 k hk with e | e
      · simp [blk] at e
      · exact e
    have s01 := f1.size
    have s12 := fr2'.size
    have fr3' : Fr (fun i => w.heap.size ≤ i) w w3 := ((f1.trans fr2' (fun _ _ h => h)).mono (fun _ _ h => h.elim)).trans fr3 (fun i hi e => by have := nw2' i e; omega)
    have nw3' : ∀ k, blk a3 = some k → w1.heap.size ≤ k := fun k hk => by
      rcases nw3 k hk with e | e
      · exact nw2' k e
      · omega
    have s23 := fr3.size
    have rw3 : Rw (fun i => i ≠ r) w3 6 a t.length (Y.flat t) := by
      refine ⟨H.out.row.1, ?_⟩
      rcases H.out.row.2 with h0 | ⟨g, o, hg, hI, hc⟩
      · exact .inl h0
      · refine .inr ⟨g, o, hg, hI, fun j u hu => cellFr fr3' (fun e => ?_) (hc j u hu)⟩
        have := World.block_lt_of_cell? _ _ (hc j u hu)
        simp only at this
        omega
    obtain ⟨a4, c4, w4, hr4, ro4, fr4, nw4⟩ := Y.row_appends w3 a3 c3 (lo + 1) _ ro3 (sc := c - lo) (cutY a c lo) (t.drop lo) (drop_rwY rw3 H.out.cap lo) (by rw [List.length_drop]; omega)
    rw [List.length_drop, hln] at hr4 ro4
    have nw4' : ∀ k, blk a4 = some k → w.heap.size ≤ k := fun k hk => by
      rcases nw4 k hk with e | e
      · have := nw3' k e; omega
      · omega
    have fr4' : Fr (fun i => w.heap.size ≤ i) w w4 := fr3'.trans fr4 (fun i hi e => by have := nw3' i e; omega)
    have FIN := hid (fun W5 (hW : W5 = w4.setCell ⟨r, 0, none⟩ (.slice a4 (lo + 1 + (t.length - lo)) c4)) => Yd.set_done (W3 := w3) H.out HOK.out (j := lo) HLO.out (by rw [HBB.out]; rfl) fr4' (by rw [hln]; exact ro4) nw4' hW (by rw [hln]; exact ro4.le.1))
    rw [hln] at FIN
    have c1 : w1.cell? ⟨r, 0, none⟩ = some (.slice a len c) := cellA (j := 0) (f1.cells HX.out (fun h => h)) rfl
    have B2 := fr2'.cells B1.out (fun h => h)
    have d0 : w2.cell? ⟨w.heap.size, 0, none⟩ = some (.int .i64 s) := cellA B2 rfl
    have d1 : w2.cell? ⟨w.heap.size, 1, none⟩ = some (.int .i64 n) := cellA B2 rfl
    have d2 : w2.cell? ⟨w.heap.size, 2, none⟩ = some (.int .i64 x0) := cellA B2 rfl
    have d3 : w2.cell? ⟨w.heap.size, 3, none⟩ = some (.int .i64 x1) := cellA B2 rfl
    have d4 : w2.cell? ⟨w.heap.size, 4, none⟩ = some (.int .i64 x2) := cellA B2 rfl
    have d5 : w2.cell? ⟨w.heap.size, 5, none⟩ = some (.int .i64 x3) := cellA B2 rfl
    have c3' : w3.cell? ⟨r, 0, none⟩ = some (.slice a len c) := cellA (j := 0) (fr3'.cells HX.out (fun e => by omega)) rfl
    have b4 := fr4'.cells HX.out (fun e => by omega)
    have c4' : w4.cell? ⟨r, 0, none⟩ = some (.slice a len c) := cellA (j := 0) b4 rfl
    have z4 := frozen_of_row (j := 0) b4
    have cu := fun V => run_cutY_hi V a len c lo (by omega) (lo : Int) rfl
    have cv := fun V => run_cutY_lo V a len c lo (by omega) (lo : Int) (by omega)
    have i0 : (0 : Int) ≤ (lo : Int) := by omega
    have R2 := hid hr2
    have R3 := hid hr3
    have R4 := hid hr4
    clear hf f1 rw1 hr2 ro2 fr2 nw2 fr2' hr3 ro3 fr3 nw3 nw2' fr3' nw3' rw3 hr4 ro4 fr4 nw4 nw4' fr4' B2 b4 s01 s12 s23
    go_wp2_with (first
      | (at_builtin; refine wpList_append_eq _ _ rfl (.tmp 14) (.tmp 20) _ rfl _ _ _ rfl rfl R2.out ?_)
      | (at_builtin; refine wpList_append_eq _ _ rfl (.tmp 22) (.tmp 24) _ rfl _ _ _ rfl rfl R3.out ?_)
      | (at_builtin; refine wpList_append_eq _ _ rfl (.tmp 30) (.tmp 36) _ rfl _ _ _ rfl rfl R4.out ?_))
    go_end0
    exact ⟨rfl, a4, c4, FIN.out _ rfl⟩
  | true =>
    have hlb' := hlb rfl
    go_enter Try.func28, Try.ntmps28
    go_wp2_with fail
    refine (KF.out _ F0.out).mono ?_
    rintro e w1 ⟨rfl, hf⟩
    have B1 := hid (hf.cells HB.out (fun h => h))
    have f1 := F0.out.trans hf (fun _ _ h => h)
    have rw1 := (H.out.fr f1).row
    obtain ⟨a2, c2, w2, hr2, ro2, fr2, nw2⟩ := Y.row_appends w1 none 0 0 [] (Ro.nil _ _ _) (sc := c) a (t.take lo) (take_rwY rw1 lo) (by rw [List.length_take]; omega)
    rw [List.length_take, hln, Nat.min_eq_left hll, Nat.zero_add] at hr2 ro2
    rw [List.nil_append] at ro2
    have fr2' : Fr (fun _ => False) w1 w2 := fr2.mono (fun i hi e => by simp [blk] at e)
    obtain ⟨a3, c3, w3, hr3, ro3, fr3, nw3⟩ := Y.row_append w2 a2 c2 lo _ ro2 (by omega) s (n, x0, x1, x2, x3)
    have nw2' : ∀ k, blk a2 = some k → w1.heap.size ≤ k := fun k hk => by
      rcases nw2 k hk with e | e
      · simp [blk] at e
      · exact e
    have s01 := f1.size
    have s12 := fr2'.size
    have fr3' : Fr (fun i => w.heap.size ≤ i) w w3 := ((f1.trans fr2' (fun _ _ h => h)).mono (fun _ _ h => h.elim)).trans fr3 (fun i hi e => by have := nw2' i e; omega)
    have nw3' : ∀ k, blk a3 = some k → w1.heap.size ≤ k := fun k hk => by
      rcases nw3 k hk with e | e
      · exact nw2' k e
      · omega
    have s23 := fr3.size
    have rw3 : Rw (fun i => i ≠ r) w3 6 a t.length (Y.flat t) := by
      refine ⟨H.out.row.1, ?_⟩
      rcases H.out.row.2 with h0 | ⟨g, o, hg, hI, hc⟩
      · exact .inl h0
      · refine .inr ⟨g, o, hg, hI, fun j u hu => cellFr fr3' (fun e => ?_) (hc j u hu)⟩
        have := World.block_lt_of_cell? _ _ (hc j u hu)
        simp only at this
        omega
    obtain ⟨a4, c4, w4, hr4, ro4, fr4, nw4⟩ := Y.row_appends w3 a3 c3 (lo + 1) _ ro3 (sc := c - (lo + 1)) (cutY a c (lo + 1)) (t.drop (lo + 1)) (drop_rwY rw3 H.out.cap (lo + 1)) (by rw [List.length_drop]; omega)
    rw [List.length_drop, hln] at hr4 ro4
    have nw4' : ∀ k, blk a4 = some k → w.heap.size ≤ k := fun k hk => by
      rcases nw4 k hk with e | e
      · have := nw3' k e; omega
      · omega
    have fr4' : Fr (fun i => w.heap.size ≤ i) w w4 := fr3'.trans fr4 (fun i hi e => by have := nw3' i e; omega)
    have FIN := hid (fun W5 (hW : W5 = w4.setCell ⟨r, 0, none⟩ (.slice a4 (lo + 1 + (t.length - (lo + 1))) c4)) => Yd.set_done (W3 := w3) H.out HOK.out (j := (lo + 1)) HLO.out (by rw [HBB.out]; rfl) fr4' (by rw [hln]; exact ro4) nw4' hW (by rw [hln]; exact ro4.le.1))
    rw [hln] at FIN
    have c1 : w1.cell? ⟨r, 0, none⟩ = some (.slice a len c) := cellA (j := 0) (f1.cells HX.out (fun h => h)) rfl
    have B2 := fr2'.cells B1.out (fun h => h)
    have d0 : w2.cell? ⟨w.heap.size, 0, none⟩ = some (.int .i64 s) := cellA B2 rfl
    have d1 : w2.cell? ⟨w.heap.size, 1, none⟩ = some (.int .i64 n) := cellA B2 rfl
    have d2 : w2.cell? ⟨w.heap.size, 2, none⟩ = some (.int .i64 x0) := cellA B2 rfl
    have d3 : w2.cell? ⟨w.heap.size, 3, none⟩ = some (.int .i64 x1) := cellA B2 rfl
    have d4 : w2.cell? ⟨w.heap.size, 4, none⟩ = some (.int .i64 x2) := cellA B2 rfl
    have d5 : w2.cell? ⟨w.heap.size, 5, none⟩ = some (.int .i64 x3) := cellA B2 rfl
    have c3' : w3.cell? ⟨r, 0, none⟩ = some (.slice a len c) := cellA (j := 0) (fr3'.cells HX.out (fun e => by omega)) rfl
    have b4 := fr4'.cells HX.out (fun e => by omega)
    have c4' : w4.cell? ⟨r, 0, none⟩ = some (.slice a len c) := cellA (j := 0) b4 rfl
    have z4 := frozen_of_row (j := 0) b4
    have cu := fun V => run_cutY_hi V a len c lo (by omega) (lo : Int) rfl
    have cv := fun V => run_cutY_lo V a len c (lo + 1) (by omega) ((lo : Int) + 1) (by omega)
    have i0 : (0 : Int) ≤ (lo : Int) := by omega
    have R2 := hid hr2
    have R3 := hid hr3
    have R4 := hid hr4
    clear hf f1 rw1 hr2 ro2 fr2 nw2 fr2' hr3 ro3 fr3 nw3 nw2' fr3' nw3' rw3 hr4 ro4 fr4 nw4 nw4' fr4' B2 b4 s01 s12 s23
    go_wp2_with (first
      | (at_builtin; refine wpList_append_eq _ _ rfl (.tmp 14) (.tmp 20) _ rfl _ _ _ rfl rfl R2.out ?_)
      | (at_builtin; refine wpList_append_eq _ _ rfl (.tmp 22) (.tmp 24) _ rfl _ _ _ rfl rfl R3.out ?_)
      | (at_builtin; refine wpList_append_eq _ _ rfl (.tmp 30) (.tmp 36) _ rfl _ _ _ rfl rfl R4.out ?_))
    go_end0
    exact ⟨rfl, a4, c4, FIN.out _ rfl⟩
set_option maxHeartbeats 4000000 in
theorem rputY_any {w : World} {r : Nat} {a : Option Addr} {c : Nat} {t : Y.Tb} (h : Yd w r a c t) (s q : Int) (rp : Y.Rp) :
    Calls Try.prog 15 #[ptrY r, .int .i64 s, .int .i64 q, Y.rpv rp] w fun e w' => e = .returned (.int .i64 (Y.perr (Y.judge t s q))) ∧ ∃ a' c', Yd w' r a' c' (Y.put t s q rp) ∧ (∀ i, blk a' = some i → blk a = some i ∨ w.heap.size ≤ i) ∧ Fr (fun i => i = r) w w' := by
  obtain ⟨r0, r1, r2, r3⟩ := rp
  have f0 : Fr (fun _ => False) w (w.alloc (.cells (Y.rcells (r0, r1, r2, r3)) 34)) := Fr.alloc (Fr.refl _ _) _
  have HB := hid (Go.heap_alloc_new w (.cells (Y.rcells (r0, r1, r2, r3)) 34 (0, 0)))
  have KA := hid (raskY_any (h.fr f0) s q)
  have F0 := hid f0
  have H := hid h
  obtain ⟨sd, hsd⟩ : ∃ sd, Y.said t s q = sd := ⟨_, rfl⟩
  rw [hsd] at KA
  obtain ⟨y0, y1, y2, y3⟩ := sd
  clear h f0 hsd
  by_cases hj : Y.judge t s q = 1
  · have hok := H.out.ok.put s q (r0, r1, r2, r3)
    unfold Y.put at hok ⊢
    rw [if_pos hj] at hok ⊢
    have KS := hid (fun (W : World) (hf : Fr (fun _ => False) w W) => rsetY_any (H.out.fr hf) s (q, r0, r1, r2, r3) hok)
    rw [hj] at KA ⊢
    clear hj hok
    go_enter Try.func15, Try.ntmps15
    go_wp2_with (first
      | (go_at_call 14; refine KA.out.mono ?_; rintro e w1 ⟨rfl, hf⟩; have B1 := (Fr.alloc (Fr.refl (fun _ => False) w1) (.cells #[.int .i64 y0, .int .i64 y1, .int .i64 y2, .int .i64 y3] 34)).cells (hf.cells HB.out (fun h => h)) (fun h => h); have d0 := cellA (j := 0) B1 rfl; have d1 := cellA (j := 1) B1 rfl; have d2 := cellA (j := 2) B1 rfl; have d3 := cellA (j := 3) B1 rfl; have F1 := hid (F0.out.trans hf (fun _ _ h => h)); clear B1 hf))
    refine (KS.out _ (Fr.alloc F1.out _)).mono ?_
    rintro e w2 ⟨rfl, a', c', hd, hnw, hf2⟩
    have HS := hid (show Yd w2 r a' c' (A.put s (q, r0, r1, r2, r3) t) ∧ (∀ i, blk a' = some i → blk a = some i ∨ w.heap.size ≤ i) ∧ Fr (fun i => i = r) w w2 from And.intro hd (And.intro (fun i hi => Or.inr (Nat.le_trans (Fr.alloc F1.out (.cells #[.int .i64 y0, .int .i64 y1, .int .i64 y2, .int .i64 y3] 34)).size (hnw i hi))) (((Fr.alloc F1.out (.cells #[.int .i64 y0, .int .i64 y1, .int .i64 y2, .int .i64 y3] 34)).mono (T := fun i => i = r) (fun _ _ h => h.elim)).trans hf2 (fun _ _ h => h))))
    clear hd hnw hf2
    dsimp only
    go_wp2
    go_ret
    exact ⟨rfl, a', c', HS.out⟩
  · unfold Y.put
    rw [if_neg hj]
    obtain ⟨j, hjj⟩ : ∃ j, Y.judge t s q = j := ⟨_, rfl⟩
    have hj6 := judge_not1 hj
    rw [hjj] at KA hj6 ⊢
    clear hjj hj
    have FIN := hid (fun (W : World) (hf : Fr (fun _ => False) w W) => show ∃ a' c', Yd W r a' c' t ∧ (∀ i, blk a' = some i → blk a = some i ∨ w.heap.size ≤ i) ∧ Fr (fun i => i = r) w W from ⟨a, c, H.out.fr hf, fun i hi => .inl hi, hf.mono (fun _ _ h => h.elim)⟩)
    rcases hj6 with rfl | rfl | rfl | rfl | rfl
    all_goals
      go_enter Try.func15, Try.ntmps15
      go_wp2_with (first
        | (go_at_call 14; refine KA.out.mono ?_; rintro e w1 ⟨rfl, hf⟩; have F1 := hid (F0.out.trans hf (fun _ _ h => h)); clear hf))
      go_ret
      exact ⟨rfl, FIN.out _ (Fr.alloc F1.out _)⟩
end Go.Proofs.Ytffjekhlloippaa
