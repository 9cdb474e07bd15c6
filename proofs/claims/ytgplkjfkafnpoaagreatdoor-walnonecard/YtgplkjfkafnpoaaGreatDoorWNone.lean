/-
  A log that no call made.
-/
import Derived.Test.YtgplkjfkafnpoaaGreatDoorWLive
namespace Go.Proofs.YtgplkjfkafnpoaaGreatDoor
open Go.RowKit Go.Shelf
set_option linter.unusedVariables false
attribute [local go_sem] Oper.semAt_some

def NoL (w : World) (v : Value) : Prop := v = .pointer none ∨ ∃ q, v = .pointer (some ⟨q, 0, none⟩) ∧ w.cell? ⟨q, 1, none⟩ = some (.string ⟨#[]⟩)
theorem NoL.kept {S : Nat → Prop} {w w' : World} {v : Value} (h : NoL w v) (hf : Fr S w w') (hS : ∀ q, ¬ S q) : NoL w' v := h.imp id (fun ⟨q, e, c⟩ => ⟨q, e, cell_fr hf (hS q) c⟩)
theorem noLmade (w : World) (v : Value) (h : NoL w v) : Calls Tryz.prog 67 #[v] w fun e w' => e = .returned (.bool false) ∧ w = w' := by
  rcases h with rfl | ⟨q, rfl, c1⟩
  · go_enter Tryz.func67, Tryz.ntmps67
    go_wp2
    go_ret
    exact ⟨rfl, rfl⟩
  · go_enter Tryz.func67, Tryz.ntmps67
    go_wp2
    go_ret
    exact ⟨rfl, rfl⟩
theorem noLready (w : World) (v : Value) (h : NoL w v) : Calls Tryz.prog 62 #[v] w fun e w' => e = .returned (.int .i64 2) ∧ w = w' := by
  have HM := hid (noLmade w v h)
  clear h
  go_enter Tryz.func62, Tryz.ntmps62
  go_wp2_with (first | (go_at_call 67; refine HM.out.mono ?_; rintro e w' ⟨rfl, rfl⟩))
  go_ret
  exact ⟨rfl, rfl⟩
theorem noLAppend (w : World) (v : Value) (h : NoL w v) (A : Option Addr) (m c : Nat) : Calls Tryz.prog 20 #[v, .slice A m c] w fun e w' => e = .returned (.int .i64 2) ∧ w = w' := by
  have HM := hid (noLready w v h)
  clear h
  go_enter Tryz.func20, Tryz.ntmps20
  go_wp2_with (first
    | (go_at_call 62; refine HM.out.mono ?_; rintro e w' ⟨rfl, rfl⟩))
  go_ret
  exact ⟨rfl, rfl⟩
theorem noLSync (w : World) (v : Value) (h : NoL w v)  : Calls Tryz.prog 23 #[v] w fun e w' => e = .returned (.int .i64 2) ∧ w = w' := by
  have HM := hid (noLready w v h)
  clear h
  go_enter Tryz.func23, Tryz.ntmps23
  go_wp2_with (first
    | (go_at_call 62; refine HM.out.mono ?_; rintro e w' ⟨rfl, rfl⟩))
  go_ret
  exact ⟨rfl, rfl⟩
theorem noLCut (w : World) (v : Value) (h : NoL w v) (n : Int) : Calls Tryz.prog 24 #[v, .int .i64 n] w fun e w' => e = .returned (.int .i64 2) ∧ w = w' := by
  have HM := hid (noLmade w v h)
  clear h
  go_enter Tryz.func24, Tryz.ntmps24
  go_wp2_with (first
    | (go_at_call 67; refine HM.out.mono ?_; rintro e w' ⟨rfl, rfl⟩))
  go_ret
  exact ⟨rfl, rfl⟩
theorem noLNext (w : World) (v : Value) (h : NoL w v)  : Calls Tryz.prog 26 #[v] w fun e w' => e = .returned (.int .i64 0) ∧ w = w' := by
  have HM := hid (noLmade w v h)
  clear h
  go_enter Tryz.func26, Tryz.ntmps26
  go_wp2_with (first
    | (go_at_call 67; refine HM.out.mono ?_; rintro e w' ⟨rfl, rfl⟩))
  go_ret
  exact ⟨rfl, rfl⟩
theorem noLSynced (w : World) (v : Value) (h : NoL w v)  : Calls Tryz.prog 27 #[v] w fun e w' => e = .returned (.int .i64 0) ∧ w = w' := by
  have HM := hid (noLmade w v h)
  clear h
  go_enter Tryz.func27, Tryz.ntmps27
  go_wp2_with (first
    | (go_at_call 67; refine HM.out.mono ?_; rintro e w' ⟨rfl, rfl⟩))
  go_ret
  exact ⟨rfl, rfl⟩
theorem noLSegments (w : World) (v : Value) (h : NoL w v)  : Calls Tryz.prog 28 #[v] w fun e w' => e = .returned (.int .i64 0) ∧ w = w' := by
  have HM := hid (noLmade w v h)
  clear h
  go_enter Tryz.func28, Tryz.ntmps28
  go_wp2_with (first
    | (go_at_call 67; refine HM.out.mono ?_; rintro e w' ⟨rfl, rfl⟩))
  go_ret
  exact ⟨rfl, rfl⟩
theorem noLFirst (w : World) (v : Value) (h : NoL w v)  : Calls Tryz.prog 25 #[v] w fun e w' => e = .returned (.int .i64 0) ∧ w = w' := by
  have HM := hid (noLSegments w v h)
  have HN := hid (noLNext w v h)
  clear h
  go_enter Tryz.func25, Tryz.ntmps25
  go_wp2_with (first
    | (go_at_call 28; refine HM.out.mono ?_; rintro e w' ⟨rfl, rfl⟩)
    | (go_at_call 26; refine HN.out.mono ?_; rintro e w' ⟨rfl, rfl⟩))
  go_ret
  exact ⟨rfl, rfl⟩
theorem noLRecords (w : World) (v : Value) (h : NoL w v) : Calls Tryz.prog 22 #[v] w fun e w' => ∃ B, e = .returned (.func (.func 69) #[] #[.pointer (some ⟨B, 0, none⟩)]) ∧ w'.cell? ⟨B, 0, none⟩ = some (.slice none 0 0) ∧ Fr (fun _ => False) w w' := by
  have HM := hid (noLmade (w.alloc (.cells #[.slice none 0 0] 59)) v (h.kept (Fr.alloc (Fr.refl (fun _ => False) _) _) (fun _ h => h)))
  clear h
  go_enter Tryz.func22, Tryz.ntmps22
  go_wp2_with (first | (go_at_call 67; refine HM.out.mono ?_; rintro e w' ⟨rfl, rfl⟩))
  go_ret
  exact ⟨w.heap.size, rfl, cell_of (Go.heap_alloc_new w _) rfl, Fr.alloc (Fr.refl _ _) _⟩

set_option maxHeartbeats 800000 in
theorem recs0_in (F : Fence) (n : Nat) (hF : F.fn 69) (hro : F.round = none) (hn : 1 ≤ n) (l B : Nat) (J Jx : List Empty → World → Prop)
    (W : World) (hB : W.cell? ⟨B, 0, none⟩ = some (.slice none 0 0)) (h0 : J [] W) :
    CallsIn F n Tryz.prog 69 #[.func (.yield l) #[] #[], .pointer (some ⟨B, 0, none⟩)] W fun e W' => (∃ v, e = .returned v) ∧
      ((∃ ys, ys = [] ∧ J ys W') ∨ (∃ pre, pre <+: [] ∧ Jx pre W')) := by
  refine callsIn_of_wp Tryz.func69 rfl hF ?_ hro
  simp only [Tryz.ntmps69, List.size_toArray, List.length_cons, List.length_nil, Nat.reduceAdd, Nat.reduceSub, Array.replicate_succ, Array.replicate_zero, List.push_toArray, List.append_toArray, List.nil_append, List.cons_append]
  gi_wp2
  gi_loopw [9] (fun i wr => i = .int .i64 0 ∧ W = wr) (fun _ _ => 0)
  case atStart => exact ⟨rfl, rfl⟩
  case round =>
    obtain ⟨rfl, rfl⟩ := hrel
    gi_wp2
    go_end0
    exact ⟨⟨_, rfl⟩, .inl ⟨[], rfl, h0⟩⟩
theorem recs0_stops (F : Fence) (n : Nat) (hF : F.fn 69) (hro : F.round = none) (hn : 1 ≤ n) (B : Nat) (w : World) (hB : w.cell? ⟨B, 0, none⟩ = some (.slice none 0 0)) :
    SeqStopsK F n Tryz.prog 69 #[.pointer (some ⟨B, 0, none⟩)] (fun x : Empty => #[x.elim, x.elim]) (Kq (fun k => k = B)) (fun ys => ys = []) (fun pre => pre <+: []) 0 w := fun l J Jx W hW _ _ hY h0 => by
  have hbl := World.block_lt_of_cell? w _ hB
  exact recs0_in F n hF hro hn l B J Jx W (by rw [World.cell?_of_block (w := w) (w' := W) (hW.block B hbl)]; exact hB) h0

end Go.Proofs.YtgplkjfkafnpoaaGreatDoor
