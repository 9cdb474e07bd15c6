/-
  The contracts of writers and readers that no call made.
-/
import Derived.Test.YtfkddpcadgidgaaDoorReader
namespace Go.Proofs.YtfkddpcadgidgaaDoor
open Go.RowKit
set_option linter.unusedVariables false

/-- nil, or a zero value -/
def No (w : World) (v : Value) : Prop := v = .pointer none ∨ ∃ p, v = .pointer (some ⟨p, 0, none⟩) ∧ w.cell? ⟨p, 0, none⟩ = some (.bool false)
theorem No.kept {w w' : World} {v : Value} (h : No w v) (hf : Fr (fun _ => False) w w') : No w' v := by
  rcases h with h | ⟨p, rfl, hc⟩
  · exact .inl h
  · refine .inr ⟨p, rfl, ?_⟩
    rw [World.cell?_of_block (w := w) (w' := w') (hf.block p (World.block_lt_of_cell? w _ hc) (fun h => h))]
    exact hc

theorem noPut (w : World) (v : Value) (h : No w v) (n : Int) (ba : Option Addr) (bm bc : Nat) :
    Calls Tryd.prog 33 #[v, .int .i64 n, .slice ba bm bc] w fun e w' => e = .returned (.int .i64 2) ∧ w = w' := by
  rcases h with rfl | ⟨p, rfl, hc⟩
  all_goals
    go_enter Tryd.func33, Tryd.ntmps33
    go_wp2
    go_ret
    exact ⟨rfl, rfl⟩
theorem noWInt (w : World) (v : Value) (h : No w v) (n : Int) :
    Calls Tryd.prog 82 #[v, .int .i64 n] w fun e w' => e = .returned (.int .i64 2) ∧ w = w' := by
  have K := hid (noPut w v h n none 0 0)
  clear h
  go_enter Tryd.func82, Tryd.ntmps82
  go_wp2_with fail
  refine K.out.mono ?_
  rintro e w' ⟨rfl, rfl⟩
  go_wp2
  go_ret
  exact ⟨rfl, rfl⟩
theorem noWBytes (w : World) (v : Value) (h : No w v) (ba : Option Addr) (bm bc : Nat) (hb : bm ≤ 9223372036854775807) :
    Calls Tryd.prog 14 #[v, .slice ba bm bc] w fun e w' => e = .returned (.int .i64 2) ∧ w = w' := by
  have K := hid (noPut w v h bm ba bm bc)
  clear h
  go_enter Tryd.func14, Tryd.ntmps14
  go_wp2_with fail
  refine K.out.mono ?_
  rintro e w' ⟨rfl, rfl⟩
  go_wp2
  go_ret
  exact ⟨rfl, rfl⟩
theorem noWText (w : World) (v : Value) (h : No w v) (s : ByteArray) (hs : s.size ≤ 9223372036854775807) :
    Calls Tryd.prog 83 #[v, .string s] w fun e w' => e = .returned (.int .i64 2) ∧ Fr (fun _ => False) w w' := by
  have kb := run_bytes w s
  have hf := bytesWorld_fr w s
  obtain ⟨g, hg⟩ : ∃ g, g = grownCap w s.size 0 5 := ⟨_, rfl⟩
  rw [← hg] at kb
  obtain ⟨w1, hw1⟩ : ∃ w1, w1 = Lib.bytesWorld w 5 s := ⟨_, rfl⟩
  rw [← hw1] at kb hf
  have K := hid (noWBytes w1 v (h.kept hf) (some ⟨w.heap.size, 0, none⟩) s.size g hs)
  have HF := hid hf
  clear hw1 hg h hf
  go_enter Tryd.func83, Tryd.ntmps83
  go_wp2_with fail
  refine K.out.mono ?_
  rintro e w' ⟨rfl, rfl⟩
  go_wp2
  go_ret
  exact ⟨rfl, HF.out⟩
theorem noWLen (w : World) (v : Value) (h : No w v) :
    Calls Tryd.prog 15 #[v] w fun e w' => e = .returned (.int .i64 0) ∧ w = w' := by
  rcases h with rfl | ⟨p, rfl, hc⟩
  all_goals
    go_enter Tryd.func15, Tryd.ntmps15
    go_wp2
    go_ret
    exact ⟨rfl, rfl⟩
theorem noWOut (w : World) (v : Value) (h : No w v) :
    Calls Tryd.prog 76 #[v] w fun e w' => e = .returned (.slice none 0 0) ∧ w = w' := by
  rcases h with rfl | ⟨p, rfl, hc⟩
  all_goals
    go_enter Tryd.func76, Tryd.ntmps76
    go_wp2
    go_ret
    exact ⟨rfl, rfl⟩
theorem noRInt (w : World) (v : Value) (h : No w v) :
    Calls Tryd.prog 107 #[v] w fun e w' => e = .returned (.tuple #[.int .i64 0, .int .i64 2]) ∧ w = w' := by
  rcases h with rfl | ⟨p, rfl, hc⟩
  all_goals
    go_enter Tryd.func107, Tryd.ntmps107
    go_wp2
    go_ret2
    exact ⟨rfl, rfl⟩
theorem noRPiece (w : World) (v : Value) (h : No w v) :
    Calls Tryd.prog 116 #[v] w fun e w' => e = .returned (.tuple #[.slice none 0 0, .int .i64 2]) ∧ w = w' := by
  rcases h with rfl | ⟨p, rfl, hc⟩
  all_goals
    go_enter Tryd.func116, Tryd.ntmps116
    go_wp2
    go_ret2
    exact ⟨rfl, rfl⟩
theorem noREnd (w : World) (v : Value) (h : No w v) :
    Calls Tryd.prog 80 #[v] w fun e w' => e = .returned (.int .i64 2) ∧ w = w' := by
  rcases h with rfl | ⟨p, rfl, hc⟩
  all_goals
    go_enter Tryd.func80, Tryd.ntmps80
    go_wp2
    go_ret
    exact ⟨rfl, rfl⟩
theorem noRBytes (w : World) (v : Value) (h : No w v) :
    Calls Tryd.prog 114 #[v] w fun e w' => ∃ a c, e = .returned (.tuple #[.slice a 0 c, .int .i64 2]) ∧ Fr (fun _ => False) w w' := by
  have K := hid (noRPiece w v h)
  clear h
  go_enter Tryd.func114, Tryd.ntmps114
  go_wp2_with (first
    | (go_at_call 116; refine K.out.mono ?_; rintro e w1 ⟨rfl, rfl⟩)
    | (go_at_call 31; refine (clone_any none 0 0 [] _ (Sl.nil _ _) (by omega)).mono ?_; rintro e w2 ⟨ya, yc, rfl, hy, hf⟩; have HF := hid hf; clear hy hf))
  go_ret2
  exact ⟨ya, yc, rfl, HF.out⟩
theorem noRText (w : World) (v : Value) (h : No w v) :
    Calls Tryd.prog 113 #[v] w fun e w' => e = .returned (.tuple #[.string (str []), .int .i64 2]) ∧ w = w' := by
  have K := hid (noRPiece w v h)
  have hs := run_str w none 0 0 [] (Sl.nil _ _)
  clear h
  go_enter Tryd.func113, Tryd.ntmps113
  go_wp2_with (first | (go_at_call 116; refine K.out.mono ?_; rintro e w1 ⟨rfl, rfl⟩))
  go_ret2
  exact ⟨rfl, rfl⟩
end Go.Proofs.YtfkddpcadgidgaaDoor
