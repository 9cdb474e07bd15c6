/-
  The simplest leader: its promise.
-/
import Derived.Test.YtcmpkbgkhbcekaaDoorJBegun
namespace Go.Proofs.YtcmpkbgkhbcekaaDoor
open Go.RowKit Go.Maps
set_option linter.unusedVariables false
set_option linter.unusedSimpArgs false

theorem owns_empty {H : Type} {w : World} {b : Nat} (h : w.heap[b]? = some (.map #[] 0)) (R : Value → Option (DataW H × List MemPlace)) : w.ownsMap Tryd.prog 2 R b 0 (.map []) :=
  ⟨#[], 0, h, ⟨by simp, MapKept.stamped_empty 0, by simp⟩, Nat.le_refl _, rfl⟩
theorem jkeyed : Keyed Tryd.prog 2 := int_keyed Tryd.underlying2
set_option maxHeartbeats 3200000 in
set_option maxRecDepth 20000 in
theorem jbegin {w : World} {p cm sm : Nat} (h : w.heap[p]? = some (.cells (jCells 1 (some cm) (some sm) 0) 49 (0, 0))) (hc : w.heap[cm]? = some (.map #[] 0)) :
    Calls Tryd.prog 21 #[.pointer (some ⟨p, 0, none⟩)] w fun e w' => e = .returned (.tuple #[]) ∧ w'.heap[p]? = some (.cells (jCells 1 none (some sm) 0) 49 (0, 0)) ∧ Fr (fun k => k = p) w w' := by
  have c5 : w.cell? ⟨p, 5, none⟩ = some (.map (some cm)) := cellA h rfl
  have HM := hid (owns_empty (H := Unit) hc (fun _ => none))
  have HP := hid h
  clear h hc
  go_enter Tryd.func21, Tryd.ntmps21
  go_wp2_with (first
    | (at_range; refine wpList_range_own _ rfl _ 46 rfl 2 55 jkeyed Tryd.underlying46 (fun _ => none) cm _ _ rfl HM.out ?_; intro w0 hrg0 hg0 hs0))
  go_frame
  have f0 : Fr (fun _ => False) w w0 := (Fr.of_grown hg0).mono (fun i _ e => by simp at e)
  have hp0 := f0.cells HP.out (fun h => h)
  have d2 : w0.cell? ⟨p, 2, none⟩ = some (.int .i64 0) := cellA hp0 rfl
  have d7 : w0.cell? ⟨p, 7, none⟩ = some (.int .i64 0) := cellA hp0 rfl
  have d5 : w0.cell? ⟨p, 5, none⟩ = some (.map (some cm)) := cellA hp0 rfl
  have z5 := frozen_of_row (j := 5) hp0
  have HR := hid hrg0
  have HP0 := hid hp0
  have F0 := hid f0
  clear hrg0 hg0 hs0 hp0 f0 c5
  refine wp_loop_rounds 1 ?_
  rw [rounds_succ]
  go_wp2_with (first
    | (at_next; refine wpList_next_ranges _ rfl _ rfl 2 jkeyed (fun _ => none) (Value.int .i64) (fun _ : Unit => undef) (fun key kl hkey => by obtain ⟨x, e, _⟩ := Maps.keyOf_int_inv Tryd.underlying2 hkey; exact ⟨x, e⟩) (fun v y hv => by cases hv) cm w.heap.size _ _ _ _ rfl HR.out ?_ (fun x c kl y w' cnt' _ _ hv => by cases hv)))
  intro _ _
  go_wp2_with fail
  refine wp_loop_rounds 1 ?_
  rw [rounds_succ]
  go_wp2_with fail
  go_end0
  exact ⟨rfl, setCell_row HP0.out _, (F0.out.mono (fun _ _ h => h.elim)).trans (Fr.setCell (p := ⟨p, 5, none⟩) (S := fun k => k = p) (Fr.refl _ _) (fun _ => rfl) _) (fun _ _ h => h)⟩
set_option maxHeartbeats 3200000 in
set_option maxRecDepth 20000 in
theorem jjudge {w : World} {p : Nat} {cm sm : Option Nat} (h : w.heap[p]? = some (.cells (jCells 0 cm sm 0) 49 (0, 0))) :
    Calls Tryd.prog 18 #[.pointer (some ⟨p, 0, none⟩), .int .i64 0, .slice none 0 0] w fun e w' => e = .returned (.int .i64 0) ∧ Fr (fun _ => False) w w' := by
  have K := hid (jmade_one (cellA (j := 3) h rfl))
  have K2 := hid (jreplica (cellA (j := 3) h rfl))
  have K3 := hid (jmay (.pointer (some ⟨p, 0, none⟩)) w)
  have K4 := hid (fun (f : Value) (V : World) => jcontains f V)
  have K5 := hid (fun (V : World) (hf : Fr (fun _ => False) w V) => jhas 0 (.inl rfl) (cellA (j := 4) (hf.cells h (fun h => h)) rfl))
  clear h
  go_enter Tryd.func18, Tryd.ntmps18
  go_wp2_with (first
    | (go_at_call 22; refine K.out.mono ?_; rintro e w1 ⟨rfl, rfl⟩)
    | (go_at_call 27; refine K2.out.mono ?_; rintro e w1 ⟨rfl, rfl⟩)
    | (go_at_call 36; refine K3.out.mono ?_; rintro e w2 ⟨rfl, f2⟩; have F2 := hid f2; clear f2)
    | (go_at_call 37; refine (K4.out _ _).mono ?_; rintro e w1 ⟨rfl, rfl⟩)
    | (go_at_call 28; refine (K5.out _ F2.out).mono ?_; rintro e w1 ⟨rfl, rfl⟩))
  go_ret
  exact ⟨rfl, F2.out⟩
set_option maxHeartbeats 3200000 in
set_option maxRecDepth 20000 in
theorem jpromise {w : World} {p cm sm : Nat} (h : w.heap[p]? = some (.cells (jCells 0 (some cm) (some sm) 0) 49 (0, 0))) (hc : w.heap[cm]? = some (.map #[] 0)) (hn : cm ≠ p) :
    Calls Tryd.prog 5 #[.pointer (some ⟨p, 0, none⟩), .int .i64 0, .slice none 0 0] w fun e w' => e = .returned (.tuple #[.bool true, .int .i64 0]) ∧ w'.heap[p]? = some (.cells (jCells 1 none (some sm) 0) 49 (0, 0)) ∧ Fr (fun k => k = p) w w' := by
  have K1 := hid (jjudge h)
  have K2 := hid (fun (V : World) (hV : V.heap[p]? = some (.cells (jCells 0 (some cm) (some sm) 0) 49 (0, 0))) => jready 0 (.inl rfl) hV)
  have K3 := hid (fun (V : World) (hV : V.heap[p]? = some (.cells (jCells 0 (some cm) (some sm) 0) 49 (0, 0))) => jadd (o := 4) hV rfl)
  have K4 := hid (fun (V : World) => jgather (.pointer (some ⟨p, 0, none⟩)) V)
  have K5 := hid (fun (V : World) (hV : V.heap[p]? = some (.cells (jCells 1 (some cm) (some sm) 0) 49 (0, 0))) => jready 1 (.inr rfl) hV)
  have K6 := hid (fun (V : World) hV hV' => jbegin (w := V) (p := p) (cm := cm) (sm := sm) hV hV')
  have HP := hid h
  have HC := hid hc
  have HN := hid hn
  clear h hc hn
  go_enter Tryd.func5, Tryd.ntmps5
  go_upto_region 5 with (first
    | (go_at_call 18; refine K1.out.mono ?_; rintro e w1 ⟨rfl, f1⟩; have F1 := hid f1; have P1 := hid (f1.cells HP.out (fun h => h)); clear f1)
    | (go_at_call 11; refine (K2.out _ P1.out).mono ?_; rintro e w2 ⟨rfl, f2⟩; have F2 := hid (F1.out.trans f2 (fun _ _ h => h)); have P2 := hid (f2.cells P1.out (fun h => h)); clear f2))
  clear K1 K2
  go_upto_region 9 with (first
    | (go_at_call 19; refine (K3.out _ P2.out).mono ?_; rintro e w3 ⟨rfl, h3, f3⟩; have P3 := hid h3; have F3 := hid ((F2.out.mono (T := fun k => k = p) (fun _ _ h => h.elim)).trans f3 (fun _ _ h => h)); clear h3 f3)
    | (go_at_call 20; refine (K4.out _).mono ?_; rintro e wx ⟨rfl, rfl⟩))
  clear K3 K4
  have p3 : w3.heap[p]? = some (.cells (jCells 1 (some cm) (some sm) 0) 49 (0, 0)) := P3.out
  have P3' := hid p3
  clear p3 P3
  go_wp2_with (first
    | (go_at_call 11; refine (K5.out _ P3'.out).mono ?_; rintro e w4 ⟨rfl, f4⟩; have P4 := hid (f4.cells P3'.out (fun h => h)); have F4 := hid (F3.out.trans f4 (fun _ _ h => h.elim)); clear f4)
    | (go_at_call 21; refine (K6.out _ P4.out (F4.out.cells HC.out HN.out)).mono ?_; rintro e w5 ⟨rfl, h5, f5⟩; have P5 := hid h5; have F5 := hid (F4.out.trans f5 (fun _ _ h => h)); clear h5 f5))
  go_ret2
  exact ⟨rfl, P5.out, F5.out⟩
end Go.Proofs.YtcmpkbgkhbcekaaDoor
