/-
  The document's tree and the program's: the same operations, one by one.
  Node: a node as it stands.
  Rows that may be written, whatever stands in them.
  What operations make, one by one; the program's tree and the document's, whatever each is, apart.
  The document's tree: Plain.
  The document's tree: Nodes.
-/
import Derived.Test.YtilbdpnioajkoaaGreatUDoQ
import Derived.Test.YtilbdpnioajkoaaGreatMg33
import Derived.Test.YtilbdpnioajkoaaGreatMg21
import Derived.Test.YtilbdpnioajkoaaGreatMg6
import Derived.Test.YtilbdpnioajkoaaGreatTKidsQ
import Derived.Test.YtilbdpnioajkoaaGreatMg26
import Derived.Test.YtilbdpnioajkoaaGreatMg28
namespace Go.Proofs.YtilbdpnioajkoaaGreat
open Go.RowKit Go.Maps
set_option linter.unusedVariables false
set_option linter.unusedSimpArgs false
set_option maxRecDepth 100000
attribute [local go_sem] Oper.semAt_some
set_option maxHeartbeats 4000000 in
theorem udo_no {c : Nat → Option U.Col} {w : World} {r : Nat} {ra : Option Addr} {rc : Nat} {zs : List T.Tn} {ha : Option Addr} {hc : Nat} {hs : List U.Hs} (h : U.Dt c w r ra rc zs ha hc hs) (hw : T.Wf (U.pl zs)) (hl : zs.length ≤ 3700000000000) (o : S.Op) (hg : T.guard (U.pl zs) o = false) :
    Calls Tryz.prog 20 #[ptr r, .agg o.cs] w fun e w' => e = .returned (.bool false) ∧ Fr (fun _ => False) w w' := by
  obtain ⟨W, hW⟩ : ∃ W, w.alloc (.cells o.cs 35) = W := ⟨_, rfl⟩
  have fW : Fr (fun _ => False) w W := by rw [← hW]; exact Fr.alloc (Fr.refl _ _) _
  have hbx : W.heap[w.heap.size]? = some (.cells o.cs 35 (0, 0)) := by rw [← hW]; exact Go.heap_alloc_new w _
  have LO := hid (load_whole (cs := o.cs) hbx Tryz.underlying35 rfl (by kernel_rfl))
  have KM := hid (umay_any (h.kept fW (fun _ _ h => h)) hw (by omega) o)
  rw [hg] at KM
  have HW := hid hW
  have FW := hid fW
  clear h hw fW hbx hW hg
  go_enter Tryz.func20, Tryz.ntmps20
  go_upto_region 1 with fail
  rw [HW.out]
  go_wp2_with (first
    | (refine wpList_load_v LO.out (by exact ⟨_, rfl, rfl⟩) (by kernel_rfl) ?_))
  refine KM.out.mono ?_
  rintro e w2 ⟨rfl, hf2⟩
  have F2 := hid (FW.out.trans hf2 (fun _ _ h => h))
  clear hf2 KM LO
  dsimp only
  go_wp2_with fail
  go_ret
  exact ⟨rfl, F2.out⟩
/-- an operation, done or not -/
theorem udstep_any {c : Nat → Option U.Col} {w : World} {r : Nat} {ra : Option Addr} {rc : Nat} {zs : List T.Tn} {ha : Option Addr} {hc : Nat} {hs : List U.Hs} (h : U.Dt c w r ra rc zs ha hc hs) (hw : T.Wf (U.pl zs)) (hl : zs.length ≤ 3700000000000) (hats : ∀ z ∈ zs, z.1.2.ats.length ≤ 1900000000000) (hhl : hs.length ≤ 3700000000000) (o : S.Op) :
    Calls Tryz.prog 20 #[ptr r, .agg o.cs] w fun e w' => e = .returned (.bool (T.guard (U.pl zs) o)) ∧ ∃ c' ra' rc' zs' ha' hc' hs', U.Dt c' w' r ra' rc' zs' ha' hc' hs' ∧ U.pl zs' = T.step (U.pl zs) o ∧ hs'.length ≤ hs.length + 1 ∧ U.More c c' w.heap.size ∧ Fr (fun i => c i ≠ none) w w' := by
  cases hg : T.guard (U.pl zs) o with
  | false =>
    refine (udo_no h hw hl o hg).mono ?_
    rintro e w' ⟨rfl, hf⟩
    exact ⟨rfl, c, ra, rc, zs, ha, hc, hs, h.kept hf (fun _ _ h => h), by unfold T.step; rw [hg]; rfl, by omega, fun _ _ => rfl, hf.mono (fun _ _ h => h.elim)⟩
  | true =>
    refine (udo_any h hw hl hats hhl o hg).mono ?_
    rintro e w' ⟨rfl, c', ra', rc', zs', ha', hc', hs', h1, h2, h3, h4, h5⟩
    have h6 := congrArg List.length h3
    rw [List.length_map, List.length_append, List.length_map] at h6
    simp only [List.length_cons, List.length_nil] at h6
    exact ⟨rfl, c', ra', rc', zs', ha', hc', hs', h1, by rw [h2]; unfold T.step; rw [hg]; rfl, by omega, h4, h5.mono (fun i _ e => by rcases e with e | e | e <;> rw [e] <;> simp)⟩
namespace U
/-- the program's tree and the document's, the same ones, apart -/
structure Pair (w : World) (p r : Nat) (wr : World) (c : Nat → Option T.Col) (cu : Nat → Option Col) (bud : Nat) (dos last : Int) (t : T.Tr) (mb : Nat) (f : Int → Nat) (ra : Option Addr) (rc : Nat) (zs : List T.Tn) (ha : Option Addr) (hc : Nat) (hs : List Hs) : Prop where
  g : Gd c wr bud p dos last t mb f
  d : Dt cu wr r ra rc zs ha hc hs
  eq : pl zs = t
  ap : ∀ i, c i ≠ none → cu i = none
  n1 : ∀ i, c i ≠ none → w.heap.size ≤ i
  n2 : ∀ i, cu i ≠ none → w.heap.size ≤ i
  fr : Fr (fun _ => False) w wr
section
variable {w : World} {p r : Nat} {wr wz : World} {c cz : Nat → Option T.Col} {cu cy : Nat → Option Col} {bud bz : Nat} {dos last dz lz : Int} {t tz : T.Tr} {mb : Nat} {f fz : Int → Nat} {ra ra' : Option Addr} {rc rc' : Nat} {zs zs' : List T.Tn} {ha ha' : Option Addr} {hc hc' : Nat} {hs hs' : List Hs}
theorem Pair.idle (h : Pair w p r wr c cu bud dos last t mb f ra rc zs ha hc hs) (hf : Fr (fun _ => False) wr wz) : Pair w p r wz c cu bud dos last t mb f ra rc zs ha hc hs :=
  ⟨h.g.kept hf (fun _ _ h => h), h.d.kept hf (fun _ _ h => h), h.eq, h.ap, h.n1, h.n2, h.fr.trans hf (fun _ _ h => h.elim)⟩
/-- both have done the same -/
theorem Pair.step (h : Pair w p r wr c cu bud dos last t mb f ra rc zs ha hc hs) (hf : Fr (fun i => c i ≠ none) wr wz) (hM : Go.Proofs.YtilbdpnioajkoaaGreat.More c cz wr.heap.size) (hG : Gd cz wz bz p dz lz tz mb fz) {wa wb : World} (fa : Fr (fun _ => False) wz wa) (hf2 : Fr (fun i => cu i ≠ none) wa wb) (hM2 : More cu cy wa.heap.size) (hD : Dt cy wb r ra' rc' zs' ha' hc' hs') (he : pl zs' = tz) : Pair w p r wb cz cy bz dz lz tz mb fz ra' rc' zs' ha' hc' hs' := by
  have s1 := hf.size
  have s2 := fa.size
  have sw := h.fr.size
  have hcu : ∀ i, cu i ≠ none → i < wr.heap.size := h.d.lo
  have key : ∀ i, cz i ≠ none → cu i = none := fun i hi => by
    cases Nat.lt_or_ge i wr.heap.size with
    | inl hlt => exact h.ap i (by rw [← hM i hlt]; exact hi)
    | inr hge =>
      cases hq : cu i with
      | none => rfl
      | some col => have := hcu i (by rw [hq]; simp); omega
  refine ⟨(hG.kept fa (fun _ _ h => h)).kept hf2 (fun i hi e => e (key i hi)), hD, he, fun i hi => ?_, fun i hi => ?_, fun i hi => ?_, ((h.fr.trans hf (fun i hi e => by have := h.n1 i e; omega)).trans fa (fun _ _ h => h)).trans hf2 (fun i hi e => by have := h.n2 i e; omega)⟩
  · have := hG.lo i hi
    rw [hM2 i (by omega)]
    exact key i hi
  · cases Nat.lt_or_ge i wr.heap.size with
    | inl hlt => exact h.n1 i (by rw [← hM i hlt]; exact hi)
    | inr hge => omega
  · cases Nat.lt_or_ge i wa.heap.size with
    | inl hlt => exact h.n2 i (by rw [← hM2 i hlt]; exact hi)
    | inr hge => omega
end
end U
end Go.Proofs.YtilbdpnioajkoaaGreat

namespace Go.Proofs.YtilbdpnioajkoaaGreat
open Go.RowKit Go.Maps
set_option linter.unusedVariables false
set_option linter.unusedSimpArgs false
set_option maxRecDepth 100000
attribute [local go_sem] Oper.semAt_some
theorem nodew_any {c : Nat → Option T.Col} {w : World} {bud p : Nat} {dos last : Int} {t : T.Tr} {mb : Nat} {f : Int → Nat} (h : Tf c w bud p dos last t mb f) {n : Int} (hn : (Lit.int .i64 n).wf = true) {x : T.Nd} (hx : A.get n t = some x) (hA : T.Ak x.ats) (hb : x.ats.length ≤ 5000000000000) :
    Calls Tryz.prog 23 #[ptr p, .int .i64 n] w fun e w' => ∃ a cp, e = .returned (.tuple #[T.tn n x a cp, .bool true]) ∧ Rw (fun g => w.heap.size ≤ g ∧ g < w'.heap.size) w' 2 a x.ats.length (T.flatA x.ats) ∧ T.Wn w' a x.ats.length ∧ Fr (fun _ => False) w w' := by
  obtain ⟨W, hW⟩ : ∃ W, w.alloc (.cells #[.int .i64 0, .int .i64 0, .string ⟨#[]⟩, .slice none 0 0] 63) = W := ⟨_, rfl⟩
  have fW : Fr (fun _ => False) w W := by rw [← hW]; exact Fr.alloc (Fr.refl _ _) _
  have KA := hid (at_any (h.kept fW (fun _ _ h => h)) hn)
  rw [T.loc_some hx] at KA
  have KT := hid (tell_any (n := n) ((h.kept fW (fun _ _ h => h)).node n x hx) hA hb)
  have FW := hid fW
  have HBX := hid (show W.heap[w.heap.size]? = some (.cells #[.int .i64 0, .int .i64 0, .string ⟨#[]⟩, .slice none 0 0] 63 (0, 0)) by rw [← hW]; exact Go.heap_alloc_new w _)
  have HW := hid hW
  clear h hn hx hA hb fW hW
  go_enter Tryz.func23, Tryz.ntmps23
  go_wp2_with fail
  rw [HW.out]
  refine KA.out.mono ?_
  rintro e wx ⟨rfl, rfl⟩
  dsimp only
  go_wp2_with fail
  refine KT.out.mono ?_
  rintro e w1 ⟨a, cp, rfl, hr, hwn, hf⟩
  obtain ⟨w6, st, hb6, f6⟩ := box_whole (V := w1) (b := w.heap.size) (ty := 63) (c := #[.int .i64 n, .int .i64 x.par, .string x.nm, .slice a x.ats.length cp]) (hf.cells HBX.out (fun h => h)) rfl (by kernel_rfl) (by simp [Value.oneCell'])
  have LR := hid (loadVar_whole hb6 (ty := 63) Tryz.underlying63 rfl (by kernel_rfl))
  have HR := hid ((hr.kept f6 (fun i hi e => by have h1 := hi.1; have h2 := lt_of_row HBX.out; omega)).mono (J := fun g => w.heap.size ≤ g ∧ g < w6.heap.size) (fun i hi => ⟨Nat.le_trans FW.out.size hi.1, Nat.lt_of_lt_of_le hi.2 f6.size⟩))
  have WN := hid (hwn.kept f6 (fun hn g hg => by
    have hi := T.rw_at hr hn hg
    have h2 := lt_of_row HBX.out
    exact ⟨hi.2, by omega⟩))
  have HF := hid ((FW.out.trans hf (fun _ _ h => h)).trans f6 (fun i hi e => by omega))
  have ST := hid st
  clear hr hwn hf st hb6 f6
  dsimp only
  go_wp2_with (refine wpList_store_v ST.out (by exact ⟨_, _, rfl, rfl, rfl⟩) (by kernel_rfl) ?_)
  refine bodyPost_ret (v := .tuple #[T.tn n x a cp, .bool true]) (results_cell2 Tryz.results23 _ _ _ _ _ _ (by rfl) LR.out (by rfl)) rfl ⟨a, cp, rfl, HR.out, WN.out, HF.out⟩
theorem node_any {c : Nat → Option T.Col} {w : World} {bud p : Nat} {dos last : Int} {t : T.Tr} {mb : Nat} {f : Int → Nat} (h : Tf c w bud p dos last t mb f) {n : Int} (hn : (Lit.int .i64 n).wf = true) {x : T.Nd} (hx : A.get n t = some x) (hA : T.Ak x.ats) (hb : x.ats.length ≤ 5000000000000) :
    Calls Tryz.prog 23 #[ptr p, .int .i64 n] w fun e w' => ∃ a cp, e = .returned (.tuple #[T.tn n x a cp, .bool true]) ∧ Rw (fun g => w.heap.size ≤ g ∧ g < w'.heap.size) w' 2 a x.ats.length (T.flatA x.ats) ∧ Fr (fun _ => False) w w' :=
  (nodew_any h hn hx hA hb).mono (fun e w' ⟨a, cp, h1, h2, _, h3⟩ => ⟨a, cp, h1, h2, h3⟩)
theorem node_no {c : Nat → Option T.Col} {w : World} {bud p : Nat} {dos last : Int} {t : T.Tr} {mb : Nat} {f : Int → Nat} (h : Tf c w bud p dos last t mb f) {n : Int} (hn : (Lit.int .i64 n).wf = true) (hx : A.get n t = none) :
    Calls Tryz.prog 23 #[ptr p, .int .i64 n] w fun e w' => e = .returned (.tuple #[.agg #[.int .i64 0, .int .i64 0, .string ⟨#[]⟩, .slice none 0 0], .bool false]) ∧ Fr (fun _ => False) w w' := by
  obtain ⟨W, hW⟩ : ∃ W, w.alloc (.cells #[.int .i64 0, .int .i64 0, .string ⟨#[]⟩, .slice none 0 0] 63) = W := ⟨_, rfl⟩
  have fW : Fr (fun _ => False) w W := by rw [← hW]; exact Fr.alloc (Fr.refl _ _) _
  have KA := hid (at_any (h.kept fW (fun _ _ h => h)) hn)
  rw [T.loc_none hx] at KA
  have FW := hid fW
  obtain ⟨w6, st, hb6, f6⟩ := box_whole (V := W) (b := w.heap.size) (ty := 63) (c := #[.int .i64 0, .int .i64 0, .string ⟨#[]⟩, .slice none 0 0]) (show W.heap[w.heap.size]? = some (.cells #[.int .i64 0, .int .i64 0, .string ⟨#[]⟩, .slice none 0 0] 63 (0, 0)) by rw [← hW]; exact Go.heap_alloc_new w _) rfl (by kernel_rfl) (by simp [Value.oneCell'])
  have LR := hid (loadVar_whole hb6 (ty := 63) Tryz.underlying63 rfl (by kernel_rfl))
  have ST := hid st
  have F6 := hid (fW.trans f6 (fun i hi e => by omega))
  clear st hb6 f6
  have HW := hid hW
  clear h hn hx fW hW
  go_enter Tryz.func23, Tryz.ntmps23
  go_wp2_with fail
  rw [HW.out]
  refine KA.out.mono ?_
  rintro e wx ⟨rfl, rfl⟩
  dsimp only
  go_wp2_with (refine wpList_store_v ST.out (by exact ⟨_, _, rfl, rfl, rfl⟩) (by kernel_rfl) ?_)
  refine bodyPost_ret (v := .tuple #[.agg #[.int .i64 0, .int .i64 0, .string ⟨#[]⟩, .slice none 0 0], .bool false]) (results_cell2 Tryz.results23 _ _ _ _ _ _ (by rfl) LR.out (by rfl)) rfl ⟨rfl, F6.out⟩
end Go.Proofs.YtilbdpnioajkoaaGreat

namespace Go.Proofs.YtilbdpnioajkoaaGreat
open Go.RowKit Go.Maps
set_option linter.unusedVariables false
set_option linter.unusedSimpArgs false
set_option maxRecDepth 100000
attribute [local go_sem] Oper.semAt_some
/-- n elements of two cells each are there, and may be written -/
def T.Th (w : World) (a : Option Addr) (n : Nat) : Prop := ∀ g o, a = some ⟨g, o, none⟩ → ∀ j, j < n * 2 → (∃ u, w.cell? ⟨g, o + j, none⟩ = some u) ∧ w.frozen? ⟨g, o + j, none⟩ = false
theorem T.cell_lt {w : World} {g o : Nat} {u : Value} (h : w.cell? ⟨g, o, none⟩ = some u) : g < w.heap.size := by
  unfold World.cell? at h
  simp only at h
  cases hq : w.heap[g]? with
  | none => rw [hq] at h; cases h
  | some x => exact lt_of_row hq
theorem T.Th.kept {S : Nat → Prop} {w w' : World} {a : Option Addr} {n : Nat} (h : T.Th w a n) (hf : Fr S w w') (hS : 0 < n → ∀ g, blk a = some g → ¬ S g) : T.Th w' a n := fun g o e j hj => by
  obtain ⟨⟨u, h1⟩, h2⟩ := h g o e j hj
  have h3 := hS (by omega) g (by rw [e]; rfl)
  refine ⟨⟨u, cellFr hf h3 h1⟩, ?_⟩
  unfold World.frozen? at h2 ⊢
  simp only at h2 ⊢
  rw [hf.block g (T.cell_lt h1) h3]
  exact h2
/-- a cell is written, wherever -/
theorem T.Th.set {w : World} {a : Option Addr} {n : Nat} (h : T.Th w a n) (pb po : Nat) (v : Value) : T.Th (w.setCell ⟨pb, po, none⟩ v) a n := fun g o e j hj => by
  obtain ⟨⟨u, h1⟩, h2⟩ := h g o e j hj
  by_cases hp : pb = g
  · unfold World.cell? at h1
    unfold World.frozen? at h2
    simp only at h1 h2
    cases hq : w.heap[g]? with
    | none => rw [hq] at h1; cases h1
    | some x =>
      cases x with
      | cells c t m =>
        rw [hq] at h1 h2
        simp only at h1 h2
        have h1 : c[o + j]? = some u := by simpa using h1
        subst hp
        have h6 := setCell_row (j := po) hq v
        obtain ⟨c', hc'⟩ : ∃ c', c.setIfInBounds po v = c' := ⟨_, rfl⟩
        rw [hc'] at h6
        have h7 : c'.size = c.size := by rw [← hc']; simp
        have hlt : o + j < c'.size := by rw [h7]; exact (Array.getElem?_eq_some_iff.1 h1).1
        refine ⟨⟨c'[o + j], ?_⟩, ?_⟩
        · exact cellA (j := o + j) h6 (Array.getElem?_eq_getElem hlt)
        · unfold World.frozen?
          simp only
          rw [h6]
          exact h2
      | _ => rw [hq] at h1; cases h1
  · have hf : Fr (fun i => i = pb) w (w.setCell ⟨pb, po, none⟩ v) := Fr.setCell (p := ⟨pb, po, none⟩) (Fr.refl (fun i => i = pb) w) (fun _ => rfl) v
    have h3 : ¬ g = pb := fun e => hp e.symm
    refine ⟨⟨u, cellFr hf h3 h1⟩, ?_⟩
    unfold World.frozen? at h2 ⊢
    simp only at h2 ⊢
    rw [hf.block g (T.cell_lt h1) h3]
    exact h2
/-- of a row that is read and may be written -/
theorem T.Th.of_rw {I : Nat → Prop} {w : World} {a : Option Addr} {n : Nat} {xs : List Value} (h : Rw I w 2 a n xs) (hw : T.Wn w a n) : T.Th w a n := fun g o e j hj => by
  refine ⟨?_, hw g o e j hj⟩
  rcases h.2 with h0 | ⟨g', o', e', _, hc⟩
  · omega
  · rw [e] at e'
    cases e'
    have hlt : j < xs.length := by rw [h.1]; exact hj
    exact ⟨xs[j], hc j _ (List.getElem?_eq_getElem hlt)⟩
theorem T.Th.of_ro {w : World} {e : TypeId} {a : Option Addr} {n c : Nat} {xs : List Value} (h : Ro w e 2 a n c xs) : T.Th w a n := fun g o ea j hj => by
  subst ea
  have hlt : j < xs.length := by rw [h.1]; exact hj
  exact ⟨⟨xs[j], h.cell (List.getElem?_eq_getElem hlt)⟩, h.frozen _⟩
/-- under a node that is not there stands none -/
theorem children_no {c : Nat → Option T.Col} {w : World} {bud p : Nat} {dos last : Int} {t : T.Tr} {mb : Nat} {f : Int → Nat} (h : Tf c w bud p dos last t mb f) {n : Int} (hn : (Lit.int .i64 n).wf = true) (hx : A.get n t = none) :
    Calls Tryz.prog 22 #[ptr p, .int .i64 n] w fun e w' => e = .returned (.slice none 0 0) ∧ w = w' := by
  have KA := hid (at_any h hn)
  rw [T.loc_none hx] at KA
  clear h hn hx
  go_enter Tryz.func22, Tryz.ntmps22
  go_wp2_with (first
    | (go_at_call 58; refine KA.out.mono ?_; rintro e wx ⟨rfl, rfl⟩))
  go_ret
  exact ⟨rfl, rfl⟩
/-- Children, of any number: a row of one's own, which may be written -/
theorem childrenw_any {c : Nat → Option T.Col} {w : World} {bud p : Nat} {dos last : Int} {t : T.Tr} {mb : Nat} {f : Int → Nat} (h : Tf c w bud p dos last t mb f) (hu : A.Up t) (hb : bud ≤ 8000000000000) (hlen : t.length ≤ 5000000000000) (hnm : ∀ k y, A.get k t = some y → y.nm.size ≤ maxLen) {n : Int} (hn : (Lit.int .i64 n).wf = true) :
    Calls Tryz.prog 22 #[ptr p, .int .i64 n] w fun e w' => ∃ a m cp, e = .returned (.slice a m cp) ∧ m ≤ 5000000000000 ∧ T.Th w' a m ∧ (0 < m → ∃ g o, a = some ⟨g, o, none⟩) ∧ (∀ k, blk a = some k → w.heap.size ≤ k) ∧ Fr (fun _ => False) w w' := by
  cases hx : A.get n t with
  | none =>
    refine (children_no h hn hx).mono ?_
    rintro e w' ⟨rfl, rfl⟩
    exact ⟨none, 0, 0, rfl, by omega, (fun g o e => by cases e), (fun h => by omega), (fun k hk => by simp [blk] at hk), Fr.refl _ _⟩
  | some x =>
    refine (children_any h hu hb hlen hnm hn hx).mono ?_
    rintro e w' ⟨a, cp, rfl, h1, h2, h3⟩
    exact ⟨a, _, cp, rfl, Nat.le_trans (T.chs_len t n) hlen, T.Th.of_ro h1, h1.some_of, h2, h3⟩
end Go.Proofs.YtilbdpnioajkoaaGreat

namespace Go.Proofs.YtilbdpnioajkoaaGreat
open Go.RowKit Go.Maps
set_option linter.unusedVariables false
set_option linter.unusedSimpArgs false
set_option maxRecDepth 100000
theorem T.play_zero : T.play T.zero [] = T.zero := rfl
/-- of what operations make: a tree, with few nodes, each with few attributes -/
theorem T.played {os : List S.Op} (hi : ∀ o ∈ os, o.in64) : ∀ k, k ≤ os.length → T.Wf (T.play T.zero (os.take k)) ∧ (∀ n x, A.get n (T.play T.zero (os.take k)) = some x → x.ats.length ≤ k) ∧ (T.play T.zero (os.take k)).length ≤ k + 2
  | 0, _ => by
    rw [List.take_zero]
    refine ⟨T.Wf.zero, fun n x hx => ?_, Nat.le_refl _⟩
    have := A.get_mem hx
    simp only [T.play, List.foldl_nil, T.zero, List.mem_cons, Prod.mk.injEq, List.not_mem_nil, or_false] at this
    rcases this with ⟨_, rfl⟩ | ⟨_, rfl⟩ <;> simp [T.zn]
  | k + 1, hk => by
    obtain ⟨h1, h2, h3⟩ := T.played hi k (by omega)
    obtain ⟨o, ho⟩ : ∃ o, os[k]? = some o := ⟨_, List.getElem?_eq_getElem (by omega)⟩
    rw [T.play_take ho]
    unfold T.step
    cases hg : T.guard (T.play T.zero (os.take k)) o with
    | false =>
      rw [if_neg (by simp)]
      exact ⟨h1, fun n x hx => by have := h2 n x hx; omega, by omega⟩
    | true =>
      rw [if_pos rfl]
      exact ⟨h1.step (hi o (List.mem_of_getElem? ho)).1.2 hg, T.few_step h1 h2 o, by have := T.length_step h1.up o; omega⟩
namespace U
/-- the program's tree and the document's, apart -/
structure Two (w : World) (p r : Nat) (wr : World) (c : Nat → Option T.Col) (cu : Nat → Option Col) (bud : Nat) (dos last : Int) (t : T.Tr) (mb : Nat) (f : Int → Nat) (ra : Option Addr) (rc : Nat) (zs : List T.Tn) (ha : Option Addr) (hc : Nat) (hs : List Hs) : Prop where
  g : Gd c wr bud p dos last t mb f
  d : Dt cu wr r ra rc zs ha hc hs
  ap : ∀ i, c i ≠ none → cu i = none
  n1 : ∀ i, c i ≠ none → w.heap.size ≤ i
  n2 : ∀ i, cu i ≠ none → w.heap.size ≤ i
  fr : Fr (fun _ => False) w wr
section
variable {w : World} {p r : Nat} {wr wz : World} {c : Nat → Option T.Col} {cu cy : Nat → Option Col} {bud : Nat} {dos last : Int} {t : T.Tr} {mb : Nat} {f : Int → Nat} {ra ra' : Option Addr} {rc rc' : Nat} {zs zs' : List T.Tn} {ha ha' : Option Addr} {hc hc' : Nat} {hs hs' : List Hs}
theorem Two.idle (h : Two w p r wr c cu bud dos last t mb f ra rc zs ha hc hs) (hf : Fr (fun _ => False) wr wz) : Two w p r wz c cu bud dos last t mb f ra rc zs ha hc hs :=
  ⟨h.g.kept hf (fun _ _ h => h), h.d.kept hf (fun _ _ h => h), h.ap, h.n1, h.n2, h.fr.trans hf (fun _ _ h => h.elim)⟩
/-- what is nobody's of the two, and not older than they, is written -/
theorem Two.other (h : Two w p r wr c cu bud dos last t mb f ra rc zs ha hc hs) {S : Nat → Prop} (hf : Fr S wr wz) (hS : ∀ i, S i → i < wr.heap.size → c i = none ∧ cu i = none ∧ w.heap.size ≤ i) : Two w p r wz c cu bud dos last t mb f ra rc zs ha hc hs :=
  ⟨h.g.kept hf (fun i hi e => hi (hS i e (h.g.lo i hi)).1), h.d.kept hf (fun i hi e => hi (hS i e (h.d.lo i hi)).2.1), h.ap, h.n1, h.n2, h.fr.trans hf (fun i hi e => by have := (hS i e (Nat.lt_of_lt_of_le hi h.fr.size)).2.2; omega)⟩
/-- the document's tree has done something -/
theorem Two.second (h : Two w p r wr c cu bud dos last t mb f ra rc zs ha hc hs) (hf : Fr (fun i => cu i ≠ none) wr wz) (hM : More cu cy wr.heap.size) (hD : Dt cy wz r ra' rc' zs' ha' hc' hs') : Two w p r wz c cy bud dos last t mb f ra' rc' zs' ha' hc' hs' := by
  have sw := h.fr.size
  refine ⟨h.g.kept hf (fun i hi e => e (h.ap i hi)), hD, fun i hi => ?_, h.n1, fun i hi => ?_, h.fr.trans hf (fun i hi e => by have := h.n2 i e; omega)⟩
  · rw [hM i (h.g.lo i hi)]
    exact h.ap i hi
  · cases Nat.lt_or_ge i wr.heap.size with
    | inl hlt => exact h.n2 i (by rw [← hM i hlt]; exact hi)
    | inr hge => omega
/-- the blocks of the attributes that were told -/
def Sp (xs : List T.Tn) (i : Nat) : Prop := ∃ z ∈ xs, 0 < z.1.2.ats.length ∧ blk z.2.1 = some i
/-- while what was told is spoilt -/
structure Ow (w : World) (p r : Nat) (c : Nat → Option T.Col) (cu : Nat → Option Col) (bud : Nat) (dos last : Int) (t : T.Tr) (mb : Nat) (f : Int → Nat) (ra : Option Addr) (rc : Nat) (zs : List T.Tn) (ha : Option Addr) (hc : Nat) (hs : List Hs) (w5 : World) (xs : List T.Tn) (W : World) : Prop where
  two : Two w p r W c cu bud dos last t mb f ra rc zs ha hc hs
  fr : Fr (Sp xs) w5 W
  th : ∀ z ∈ xs, T.Th W z.2.1 z.1.2.ats.length
  sp : ∀ i, Sp xs i → c i = none ∧ cu i = none ∧ w.heap.size ≤ i
  cl : ∀ i, c i ≠ none → i < w5.heap.size
  cul : ∀ i, cu i ≠ none → i < w5.heap.size
variable {w5 : World} {xs : List T.Tn} {W W' : World}
theorem Ow.idle (h : Ow w p r c cu bud dos last t mb f ra rc zs ha hc hs w5 xs W) (hf : Fr (fun _ => False) W W') : Ow w p r c cu bud dos last t mb f ra rc zs ha hc hs w5 xs W' :=
  ⟨h.two.idle hf, h.fr.trans hf (fun _ _ h => h.elim), fun z hz => (h.th z hz).kept hf (fun _ _ _ h => h), h.sp, h.cl, h.cul⟩
/-- a cell of what was told, or of something newer, is written -/
theorem Ow.set (h : Ow w p r c cu bud dos last t mb f ra rc zs ha hc hs w5 xs W) {g : Nat} (hg : Sp xs g ∨ w5.heap.size ≤ g) (o : Nat) (v : Value) : Ow w p r c cu bud dos last t mb f ra rc zs ha hc hs w5 xs (W.setCell ⟨g, o, none⟩ v) := by
  have hf : Fr (fun i => i = g) W (W.setCell ⟨g, o, none⟩ v) := Fr.setCell (p := ⟨g, o, none⟩) (Fr.refl (fun i => i = g) W) (fun _ => rfl) v
  have hc : c g = none ∧ cu g = none ∧ (g < w5.heap.size → w.heap.size ≤ g) := by
    rcases hg with h1 | h1
    · have := h.sp g h1
      exact ⟨this.1, this.2.1, fun _ => this.2.2⟩
    · refine ⟨?_, ?_, fun h2 => by omega⟩
      · cases hq : c g with
        | none => rfl
        | some x => have := h.cl g (by rw [hq]; simp); omega
      · cases hq : cu g with
        | none => rfl
        | some x => have := h.cul g (by rw [hq]; simp); omega
  have hwg : w.heap.size ≤ g ∨ ¬ g < W.heap.size := by
    rcases hg with h1 | h1
    · exact .inl (h.sp g h1).2.2
    · by_cases h2 : w.heap.size ≤ g
      · exact .inl h2
      · right
        have h3 := h.two.fr.size
        intro h4
        -- a block that is newer than w5 is newer than w, or w5 holds nothing of w
        have h5 := h.cl p (by rw [h.two.g.tf.cp]; simp)
        have h6 := h.two.n1 p (by rw [h.two.g.tf.cp]; simp)
        omega
  refine ⟨⟨h.two.g.kept hf (fun i hi e => hi (by rw [e]; exact hc.1)), h.two.d.kept hf (fun i hi e => hi (by rw [e]; exact hc.2.1)), h.two.ap, h.two.n1, h.two.n2, h.two.fr.trans hf (fun i hi e => ?_)⟩, h.fr.trans hf (fun i hi e => ?_), fun z hz => (h.th z hz).set g o v, h.sp, h.cl, h.cul⟩
  · rcases hwg with h1 | h1
    · omega
    · have := h.two.fr.size; omega
  · rcases hg with h1 | h1
    · rw [e]; exact h1
    · omega
end
end U
end Go.Proofs.YtilbdpnioajkoaaGreat

namespace Go.Proofs.YtilbdpnioajkoaaGreat
open Go.RowKit Go.Maps
set_option linter.unusedVariables false
set_option linter.unusedSimpArgs false
set_option maxRecDepth 100000
attribute [local go_sem] Oper.semAt_some
def U.told (zs : List T.Tn) : List T.Tn := zs.filter (fun z => T.tells z.1)
theorem U.told_fst (zs : List T.Tn) : (U.told zs).map Prod.fst = T.told (zs.map Prod.fst) := by
  unfold U.told T.told
  rw [List.filter_map]
  rfl
set_option maxHeartbeats 4000000 in
theorem uplain_any {w : World} {I : Nat → Prop} {ra : Option Addr} {rc : Nat} {zs : List T.Tn} (hR : T.Nr I w ra zs) (hl : zs.length ≤ 3800000000000) (hats : ∀ z ∈ zs, z.1.2.ats.length ≤ 5000000000000) :
    Calls Tryz.prog 18 #[.slice ra zs.length rc] w fun e w' => ∃ a cp zs', e = .returned (.slice a (List.length zs') cp) ∧ List.map Prod.fst zs' = T.told (List.map Prod.fst zs) ∧ T.Lx w.heap.size w' a cp zs' ∧ Fr (fun _ => False) w w' := by
  obtain ⟨n, hn⟩ : ∃ n, zs.length = n := ⟨_, rfl⟩
  have HN := hid hn
  have HR := hid hR
  have HA := hid hats
  rw [hn] at hl ⊢
  clear hn hR hats
  go_enter Tryz.func18, Tryz.ntmps18
  go_wp2_with fail
  go_loopw [3, 4] (fun o i wr => ∃ (k : Nat) (oa : Option Addr) (m oc : Nat), i = .int .i64 k ∧ o = .slice oa m oc ∧ Hid (k ≤ n ∧ m = (U.told (zs.take k)).length ∧ Ro wr 63 4 oa m oc (T.flatN (U.told (zs.take k))) ∧ (∀ j, blk oa = some j → w.heap.size ≤ j) ∧ Fr (fun _ => False) w wr))
    (fun _ i _ => (n - intOf i).toNat)
  case atStart => exact ⟨0, none, 0, 0, rfl, rfl, hid ⟨Nat.zero_le _, rfl, Ro.nil _ _ _, by simp [blk], Fr.refl _ _⟩⟩
  case round =>
    obtain ⟨k, oa, m, oc, rfl, rfl, hall⟩ := hrel
    obtain ⟨hk, hm, hro, hnw, hfr⟩ := hall.out
    by_cases hlt : k < n
    · obtain ⟨z, hz⟩ : ∃ z, zs[k]? = some z := ⟨_, List.getElem?_eq_getElem (by rw [HN.out]; exact hlt)⟩
      obtain ⟨g1, o1, rfl, _, a0, a1, a2, a3⟩ := T.flatN_cells (HR.out.1.kept hfr (fun _ _ h => h)) hz
      have i0 : (0 : Int) ≤ (k : Int) := by omega
      have i1 : (k : Int) < (n : Int) := by omega
      have hto : U.told (zs.take (k + 1)) = U.told (zs.take k) ++ (if T.tells z.1 then [z] else []) := by
        unfold U.told
        rw [List.take_add_one, hz, List.filter_append]
        cases hte : T.tells z.1 <;> simp [hte]
      have hml : m ≤ 3800000000000 := by
        have h2 : (U.told (zs.take k)).length ≤ (zs.take k).length := List.length_filter_le _ _
        rw [List.length_take] at h2
        omega
      cases hte : T.tells z.1 with
      | true =>
        rw [hte] at hto
        obtain ⟨a', cp', V4, hr4, hro4, hf4, hn4⟩ := T.node_append wr oa oc m (T.flatN (U.told (zs.take k))) hro (by omega) z
        have HREL := hid (show k + 1 ≤ n ∧ m + 1 = (U.told (zs.take (k + 1))).length ∧ Ro V4 63 4 a' (m + 1) cp' (T.flatN (U.told (zs.take (k + 1)))) ∧ (∀ j, blk a' = some j → w.heap.size ≤ j) ∧ Fr (fun _ => False) w V4 from
          ⟨hlt, by rw [hto, List.length_append, ← hm]; rfl, by rw [hto, if_pos rfl, T.flatN_append, show T.flatN [z] = T.cellsN z by simp [T.flatN]]; exact hro4, fun j hj => by
            rcases hn4 j hj with h | h
            · exact hnw j h
            · exact Nat.le_trans hfr.size h, hfr.trans hf4 (fun i hi e => by have := hnw i e; omega)⟩)
        have R4 := hid hr4
        clear hall hk hm hro hnw hfr hlt hz hto hr4 hro4 hf4 hn4
        by_cases h2 : 2 < z.1.1
        · clear hte
          go_wp2_with (first | (at_builtin; refine wpList_append_eq _ _ rfl (.tmp 26) (.tmp 31) _ rfl _ _ _ rfl rfl R4.out ?_))
          go_roundw
          case rel => exact ⟨k + 1, a', m + 1, cp', by first | go_num | rfl | trivial, by first | go_num | rfl | trivial, HREL⟩
          case measure => simp [intOf]; omega
        · have hpos : (0 : Int) < (z.1.2.ats.length : Int) := by
            unfold T.tells at hte
            rw [decide_eq_false h2, Bool.false_or] at hte
            cases hx : z.1.2.ats with
            | nil => rw [hx] at hte; cases hte
            | cons a b => rw [List.length_cons]; omega
          clear hte
          go_wp2_with (first | (at_builtin; refine wpList_append_eq _ _ rfl (.tmp 26) (.tmp 31) _ rfl _ _ _ rfl rfl R4.out ?_))
          go_roundw
          case rel => exact ⟨k + 1, a', m + 1, cp', by first | go_num | rfl | trivial, by first | go_num | rfl | trivial, HREL⟩
          case measure => simp [intOf]; omega
      | false =>
        rw [hte] at hto
        unfold T.tells at hte
        rw [Bool.or_eq_false_iff] at hte
        have h2 : ¬ 2 < z.1.1 := of_decide_eq_false hte.1
        have hz0 : z.1.2.ats.length = 0 := by
          have := hte.2
          cases hx : z.1.2.ats with
          | nil => rfl
          | cons a b => rw [hx] at this; cases this
        rw [hz0] at a3
        have HREL := hid (show k + 1 ≤ n ∧ m = (U.told (zs.take (k + 1))).length ∧ Ro wr 63 4 oa m oc (T.flatN (U.told (zs.take (k + 1)))) ∧ (∀ j, blk oa = some j → w.heap.size ≤ j) ∧ Fr (fun _ => False) w wr from
          ⟨hlt, by rw [hto, List.length_append, ← hm]; rfl, by rw [hto, if_neg (by simp), List.append_nil]; exact hro, hnw, hfr⟩)
        clear hall hk hm hro hnw hfr hlt hz hto hte hz0
        go_wp2_with fail
        go_roundw
        case rel => exact ⟨k + 1, oa, m, oc, by first | go_num | rfl | trivial, by first | go_num | rfl | trivial, HREL⟩
        case measure => simp [intOf]; omega
    · have hkn : k = n := by omega
      subst hkn
      have hjn : ¬ ((k : Int) < (k : Int)) := by omega
      rw [List.take_of_length_le (by rw [HN.out]; exact Nat.le_refl _)] at hm hro
      have hnr : T.Nr (fun i => I i ∨ w.heap.size ≤ i) wr oa (U.told zs) := ⟨by rw [← hm]; exact Rw.of_ro hro (fun g hg => .inr (hnw g hg)), fun z hz => ((HR.out.2 z (List.mem_filter.1 hz).1).kept hfr (fun _ _ h => h)).mono (fun _ h => .inl h)⟩
      have hul : (U.told zs).length ≤ zs.length := List.length_filter_le _ _
      have KC := hid (uclone_any (rc := oc) hnr (by have := HN.out; omega) (fun z hz => HA.out z (List.mem_filter.1 hz).1))
      rw [← hm] at KC
      have HF := hid hfr
      have HM := hid hm
      clear hall hk hm hro hnw hfr hlt hnr hul
      go_wp2_with fail
      refine KC.out.mono ?_
      rintro e w3 ⟨a3, c3, z3, rfl, h31, h32, h33⟩
      have H3 := hid (And.intro h31 (And.intro h32 h33))
      clear h31 h32 h33
      dsimp only
      go_wp2_with fail
      go_ret
      refine ⟨a3, c3, z3, ?_, ?_, ?_, ?_⟩
      · have := congrArg List.length H3.out.1
        rw [List.length_map, List.length_map, ← HM.out] at this
        rw [this]
        rfl
      · rw [H3.out.1, U.told_fst]
      · have h := H3.out.2.1
        have hs := HF.out.size
        exact ⟨h.row, fun k hk => Nat.le_trans hs (h.new k hk), fun z hz => (h.el z hz).mono (fun i hi => ⟨Nat.le_trans hs hi.1, hi.2⟩), h.wr⟩
      · exact HF.out.trans H3.out.2.2 (fun _ _ h => h)
end Go.Proofs.YtilbdpnioajkoaaGreat

namespace Go.Proofs.YtilbdpnioajkoaaGreat
open Go.RowKit Go.Maps
set_option linter.unusedVariables false
set_option linter.unusedSimpArgs false
set_option maxRecDepth 100000
attribute [local go_sem] Oper.semAt_some
set_option maxHeartbeats 1600000 in
theorem unodes_any {c : Nat → Option U.Col} {w : World} {r : Nat} {ra : Option Addr} {rc : Nat} {zs : List T.Tn} {ha : Option Addr} {hc : Nat} {hs : List U.Hs} (h : U.Dt c w r ra rc zs ha hc hs) (hl : zs.length ≤ 3800000000000) (hats : ∀ z ∈ zs, z.1.2.ats.length ≤ 5000000000000) :
    Calls Tryz.prog 14 #[ptr r] w fun e w' => ∃ a cp zs', e = .returned (.slice a (List.length zs') cp) ∧ List.map Prod.fst zs' = T.told (U.pl zs) ∧ T.Lx w.heap.size w' a cp zs' ∧ Fr (fun _ => False) w w' := by
  have KP := hid (uplain_any (rc := rc) h.now.nr hl hats)
  have d0 : w.cell? ⟨r, 0, none⟩ = some (.slice ra zs.length rc) := cellA (j := 0) h.box rfl
  obtain ⟨len, hlen⟩ : ∃ n, zs.length = n := ⟨_, rfl⟩
  rw [hlen] at KP d0
  clear h hl hats hlen
  go_enter Tryz.func14, Tryz.ntmps14
  go_wp2_with fail
  refine KP.out.mono ?_
  rintro e w2 ⟨a, cp, zs', rfl, h1, h2, h3⟩
  have H := hid (And.intro h1 (And.intro h2 h3))
  obtain ⟨n2, hn2⟩ : ∃ n, List.length zs' = n := ⟨_, rfl⟩
  rw [hn2]
  have HN := hid hn2
  clear h1 h2 h3 hn2
  dsimp only
  go_wp2_with fail
  go_ret
  exact ⟨a, cp, zs', by rw [HN.out]; rfl, H.out.1, H.out.2.1, H.out.2.2⟩
end Go.Proofs.YtilbdpnioajkoaaGreat
