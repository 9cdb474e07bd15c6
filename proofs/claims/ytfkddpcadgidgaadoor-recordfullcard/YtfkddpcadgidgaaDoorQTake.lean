/-
  The simplest entry is read.
-/
import Derived.Test.YtfkddpcadgidgaaDoorQFr2
import Derived.Deep.RegionHeld3
namespace Go.Proofs.YtfkddpcadgidgaaDoor
open Go.RowKit
set_option linter.unusedVariables false

/-- a reader, its blocks in S -/
def Rq (S : Nat → Prop) (w : World) (p : Nat) (bs : List UInt8) : Prop := ∃ a c, Rd w p a c bs ∧ (∀ k, blk a = some k → S k) ∧ S p
theorem Rq.kept {S R : Nat → Prop} {w w' : World} {p : Nat} {bs : List UInt8} (h : Rq S w p bs) (hf : Fr R w w') (hR : ∀ k, S k → ¬ R k) : Rq S w' p bs := by
  obtain ⟨a, c, h1, h2, h3⟩ := h
  exact ⟨a, c, h1.kept hf (hR p h3) (fun k hk => hR k (h2 k hk)), h2, h3⟩
theorem Rq.int {S : Nat → Prop} {w : World} {p : Nat} {bs : List UInt8} (h : Rq S w p bs) (v er : Int) (k : Nat) (ht : M.takeI bs = (v, k, er)) :
    Calls Tryd.prog 107 #[.pointer (some ⟨p, 0, none⟩)] w fun e w' => e = .returned (.tuple #[.int .i64 v, .int .i64 er]) ∧ Fr (fun k => k = p) w w' ∧ Rq S w' p (bs.drop k) := by
  obtain ⟨a, c, h1, h2, h3⟩ := h
  have := rInt_any w p a c bs h1
  rw [ht] at this
  refine this.mono ?_
  rintro e w' ⟨rfl, a', c', h4, h5, h6⟩
  exact ⟨rfl, h5, a', c', h4, fun k hk => h2 k (by rw [← h6]; exact hk), h3⟩
theorem M.take14 : M.takeI [14, 6] = (7, 1, 0) := by rfl
theorem M.take6 : M.takeI [6] = (3, 1, 0) := by rfl
set_option maxRecDepth 20000 in
set_option maxHeartbeats 1600000 in
theorem frRefuse {w : World} {g : Nat} (d1 : w.cell? ⟨g, 1, none⟩ = some (.int .i64 0)) :
    Calls Tryd.prog 78 #[.pointer (some ⟨g, 0, none⟩), .bool false] w fun e w' => (∃ v, e = .returned v) ∧ w = w' := by
  go_enter Tryd.func78, Tryd.ntmps78
  go_wp2
  go_end0
  exact ⟨⟨_, rfl⟩, rfl⟩
set_option maxRecDepth 20000 in
set_option maxHeartbeats 3200000 in
theorem erFields {S : Nat → Prop} {w : World} {g : Nat} {T : TypeId} {p : Nat} (hg : w.heap[g]? = some (.cells #[.pointer (some ⟨p, 0, none⟩), .int .i64 0] T (0, 0))) (hr : Rq S w p [6]) (eb : Nat) {cs : Array Value} {t : TypeId} (he : w.heap[eb]? = some (.cells cs t (0, 0))) (hc : cs[53]? = some (.int .i64 0)) (hge : eb ≠ g) (hS : ∀ k, S k → k ≠ g ∧ k ≠ eb ∧ k < w.heap.size) (lb lc : Nat) (hl : Is w (some ⟨lb, 0, none⟩) 4 [16, 0, 0, 0]) (hlb : ¬ S lb ∧ lb ≠ g ∧ lb ≠ eb) :
    Calls Tryd.prog 79 #[.pointer (some ⟨g, 0, none⟩), .pointer (some ⟨eb, 0, none⟩), .slice (some ⟨lb, 0, none⟩) 4 lc] w fun e w' => (∃ v, e = .returned v) ∧ Fk (fun k => k = p) (fun W => Rq S W p []) w g T (.pointer (some ⟨p, 0, none⟩)) eb 53 cs t 3 0 w' := by
  obtain ⟨b0, o0, y0, e0, hy0, l0⟩ := hl.at (k := 0) (by omega)
  obtain ⟨b1, o1, y1, e1, hy1, l1⟩ := hl.at (k := 1) (by omega)
  obtain ⟨b2, o2, y2, e2, hy2, l2⟩ := hl.at (k := 2) (by omega)
  obtain ⟨b3, o3, y3, e3, hy3, l3⟩ := hl.at (k := 3) (by omega)
  simp only [Option.some.injEq, Addr.mk.injEq, and_true] at e0 e1 e2 e3
  obtain ⟨rfl, rfl⟩ := e0
  obtain ⟨rfl, rfl⟩ := e1
  obtain ⟨rfl, rfl⟩ := e2
  obtain ⟨rfl, rfl⟩ := e3
  simp at hy0 hy1 hy2 hy3
  subst hy0 hy1 hy2 hy3
  simp only [Nat.zero_add] at l0 l1 l2 l3
  have hSp : S p := by obtain ⟨_, _, _, _, h⟩ := hr; exact h
  have KI : Hid (∀ V, Fr (fun _ => False) w V → ∀ n, V.heap.size = n → Calls Tryd.prog 77 #[.pointer (some ⟨g, 0, none⟩), .slice (some ⟨n, 0, none⟩) 1 1] (V.alloc (.cells #[.pointer (some ⟨eb, 53, none⟩)] 142)) fun e w' => (∃ v, e = .returned v) ∧ Fk (fun k => k = p) (fun W => Rq S W p []) w g T (.pointer (some ⟨p, 0, none⟩)) eb 53 cs t 3 0 w') := hid (fun V hf n hn => by
    have fv := Fr.alloc hf (.cells #[.pointer (some ⟨eb, 53, none⟩)] 142)
    have hz := hf.size
    refine (frInts1 (R := fun k => k = p) (PP := fun W => Rq S W p []) (fv.cells hg (fun h => h)) n 1 eb 53 (by subst hn; exact cell_at (Go.heap_alloc_new V _) rfl) (fv.cells he (fun h => h)) hc hge (fun e => (hS p hSp).1 e.symm) (fun e => (hS p hSp).2.1 e.symm) (fun k e => by subst e; have := (hS k hSp).2.2; simp; omega) (v := 3) (er := 0) (by omega) (fun W hW => (((hr.kept fv (fun _ _ h => h)).kept hW (fun _ _ h => h)).int 3 0 1 M.take6).mono (fun e w' h => h)) (fun A B hA hAB => hA.kept hAB (fun k hk e => by have := hS k hk; simp at e; omega))).mono ?_
    rintro e w' ⟨h1, h2⟩
    exact ⟨h1, h2.g_, h2.q_, h2.pp, (fv.mono (T := fun k => k = p ∨ k = g ∨ k = eb) (fun _ _ h => h.elim)).trans h2.fr (fun _ _ h => h)⟩)
  have HLB : Hid (¬ (lb = p ∨ lb = g ∨ lb = eb)) := hid (fun e => by rcases e with e | e | e; exact hlb.1 (e ▸ hSp); exact hlb.2.1 e; exact hlb.2.2 e)
  clear hg hr he hc hS hl hlb hSp
  go_enter Tryd.func79, Tryd.ntmps79
  go_wp2
  refine wp_loop_rounds 5 ?_
  rw [rounds_succ]
  go_wp2_with fail
  go_region_held3 (fun w' => True) (first | exact trivial)
    (first
      | (go_at_call 77; refine (KI.out w (Fr.refl _ w) _ rfl).mono ?_; rintro e w2 ⟨⟨v, rfl⟩, hk⟩; have HK := hid hk; have s1 : True := trivial; have m1 := cellFr hk.fr HLB.out l1; have m2 := cellFr hk.fr HLB.out l2; have m3 := cellFr hk.fr HLB.out l3; clear hk)
      | (go_at_call 77; refine (KI.out w.drew (Fr.drew (Fr.refl _ w)) _ rfl).mono ?_; rintro e w2 ⟨⟨v, rfl⟩, hk⟩; have HK := hid hk; have s1 : True := trivial; have m1 := cellFr hk.fr HLB.out l1; have m2 := cellFr hk.fr HLB.out l2; have m3 := cellFr hk.fr HLB.out l3; clear hk))
  go_wp2
  rw [rounds_succ]
  go_wp2
  rw [rounds_succ]
  go_wp2
  rw [rounds_succ]
  go_wp2
  rw [rounds_succ]
  go_wp2
  go_end0
  exact ⟨⟨_, rfl⟩, HK.out⟩
set_option maxRecDepth 20000 in
set_option maxHeartbeats 3200000 in
theorem frEnd {S : Nat → Prop} {w : World} {g : Nat} {T : TypeId} {p : Nat} (hg : w.heap[g]? = some (.cells #[.pointer (some ⟨p, 0, none⟩), .int .i64 0] T (0, 0))) (hr : Rq S w p []) :
    Calls Tryd.prog 55 #[.pointer (some ⟨g, 0, none⟩)] w fun e w' => (∃ v, e = .returned v) ∧ w'.heap[g]? = some (.cells #[.pointer (some ⟨p, 0, none⟩), .int .i64 0] T (0, 0)) ∧ Fr (fun k => k = g) w w' := by
  obtain ⟨a, c, h1, _⟩ := hr
  have KE := hid (rEnd_any w p a c [] h1)
  have d0 := cell_at (j := 0) hg rfl
  have d1 := cell_at (j := 1) hg rfl
  have z1 := frozen_of_row (j := 1) hg
  have HG := hid hg
  clear h1 hg
  go_enter Tryd.func55, Tryd.ntmps55
  go_wp2_with (first | (go_at_call 80; refine KE.out.mono ?_; rintro e wx ⟨rfl, rfl⟩))
  go_end0
  refine ⟨⟨_, rfl⟩, ?_, Fr.setCell (p := ⟨g, 1, none⟩) (S := fun k => k = g) (Fr.refl _ _) (fun _ => rfl) _⟩
  rw [setCell_row HG.out]
  rfl

end Go.Proofs.YtfkddpcadgidgaaDoor
