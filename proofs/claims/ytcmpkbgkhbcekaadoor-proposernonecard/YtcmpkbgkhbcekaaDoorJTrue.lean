/-
  The simplest leader comes to its entry.
-/
import Derived.Test.YtcmpkbgkhbcekaaDoorJAcc
namespace Go.Proofs.YtcmpkbgkhbcekaaDoor
open Go.RowKit Go.Maps
set_option linter.unusedVariables false
set_option linter.unusedSimpArgs false

set_option maxHeartbeats 6400000 in
set_option maxRecDepth 20000 in
theorem jbegun (w : World) (T : Tb w) : Calls Tryd.prog 4 #[] w fun e w' => e = .returned (.bool true) ∧ Fr (fun _ => False) w w' := by
  have K1 := hid (jnew w)
  have TB := hid T
  clear T
  go_enter Tryd.func4, Tryd.ntmps4
  go_upto_region 4 with (first
    | (go_at_call 17; refine K1.out.mono ?_; rintro e w1 ⟨p, cm, sm, rfl, l1, l2, l3, h1, hc1, hs1, f1⟩; have L := hid (And.intro l1 (And.intro l2 l3)); have H1 := hid h1; have C1 := hid hc1; have S1 := hid hs1; have F1 := hid f1; clear l1 l2 l3 h1 hc1 hs1 f1))
  have K2 := hid (jpromise H1.out C1.out (by have := L.out; omega))
  go_upto_region 5 with (first
    | (go_at_call 5; refine K2.out.mono ?_; rintro e w2 ⟨rfl, h2, f2⟩; have H2 := hid h2; have F2 := hid f2; clear h2 f2))
  clear K1 K2
  have hl := L.out
  have fz2 : Fr (fun _ => False) w w2 := F1.out.trans F2.out (fun i hi e => by omega)
  have K3 := hid (jput (TB.out.kept fz2 (fun h => h)) H2.out (F2.out.cells S1.out (by omega)) (by omega))
  have FZ2 := hid fz2
  have lp := lt_of_row H2.out
  have LP := hid lp
  clear hl fz2 lp
  obtain ⟨vs, hvs⟩ : ∃ vs, Value.agg jS = vs := ⟨_, rfl⟩
  have HVS := hid hvs
  rw [hvs] at K3
  clear hvs
  go_upto_region 6 with (first
    | (go_at_call 6; refine K3.out.mono ?_; rintro e w3 ⟨g, rfl, l3, h3, m3, g3, f3⟩; obtain ⟨V, st, bV, fV⟩ := box_whole (c := jS) (Go.heap_alloc_new w3 (.cells jS59 55)) rfl (by kernel_rfl) jS_one; rw [HVS.out] at st; unfold jS59 at st; have ST := hid st; have BV := hid bV; have FV := hid fV; have L3 := hid l3; have H3 := hid h3; have M3 := hid m3; have G3 := hid g3; have F3 := hid f3; clear st bV fV l3 h3 m3 g3 f3)
    | (refine wpList_store_v ST.out (by exact ⟨_, _, rfl, rfl, rfl⟩) (by kernel_rfl) ?_))
  clear K3 ST
  have hl := L.out
  have hp := LP.out
  have hl3 := L3.out
  have lg := lt_of_row G3.out
  have ls := World.ownsMap.lt M3.out
  have lp := lt_of_row H3.out
  have fa : Fr (fun _ => False) w3 (w3.alloc (.cells jS59 55)) := Fr.alloc (Fr.refl _ _) _
  have fv : Fr (fun _ => False) w3 V := fa.trans FV.out (fun i hi e => by omega)
  have K4 := hid (jaccepted (fv.cells H3.out (fun h => h)) (M3.out.kept fv (fun h => h)) (fv.cells G3.out (fun h => h)) (by omega))
  have fz : Fr (fun _ => False) w V := (FZ2.out.trans F3.out (fun i hi e => by omega)).trans fv (fun _ _ h => h)
  have FZ := hid fz
  have hle := FZ2.out.size
  have LG := hid (And.intro lg (And.intro hl3 hle))
  clear hl hp hl3 lg ls lp fa fv fz hle
  go_upto_region 7 with (first
    | (go_at_call 7; refine K4.out.mono ?_; rintro e w5 ⟨rfl, f5⟩; have F5 := hid f5; clear f5))
  have lg := LG.out
  have b5 := F5.out.cells BV.out (by omega)
  have c0 : w5.cell? ⟨w3.heap.size, 0, none⟩ = some (.int .i64 0) := cellA b5 rfl
  have c56 : w5.cell? ⟨w3.heap.size, 56, none⟩ = some (.int .i64 3) := cellA b5 rfl
  have fin : Fr (fun _ => False) w w5 := FZ.out.trans F5.out (fun i hi e => by omega)
  have FIN := hid fin
  clear fin b5 lg
  go_wp2_with fail
  go_ret
  exact ⟨rfl, FIN.out⟩
end Go.Proofs.YtcmpkbgkhbcekaaDoor
