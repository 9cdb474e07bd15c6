/-
  The document's CloneEntry: an entry in new memory.
-/
import Derived.Test.YtedhmhlhjonloaaAEnt
namespace Go.Proofs.Ytedhmhlhjonloaa
open Go.RowKit
set_option linter.unusedVariables false
set_option linter.unusedSimpArgs false

/-- append of a slice's elements onto nil -/
theorem nil_run (w : World) (t e : TypeId) (i0 : TypeInfo) (z : Value) (k by_ : Nat) (ht : Try.prog.underlying t = some (.slice e)) (hi : Try.prog.info? e = some i0) (hz0 : i0.zero = some z) (hz1 : i0.size = k) (hz2 : i0.bytes = by_) (hzs : z.cells.size = k) (hk : 0 < k)
    (I : Nat → Prop) (a : Option Addr) (n sc : Nat) (xs : List Value) (h : Rw I w k a n xs) (h1 : ∀ u ∈ xs, u.oneCell' = true) (hn : n ≤ 200000000000000) (hnb : (0 + n + (0 + n) / 4 + 192) * by_ ≤ 281474976710656) :
    ∃ a' c' w', (Builtin.append_ #[t, t] t #[.slice none 0 0, .slice a n sc]).run Try.prog w = .ok (.slice a' n c') w' ∧ Rw (fun g => w.heap.size ≤ g ∧ g < w'.heap.size) w' k a' n xs ∧ Fr (fun _ => False) w w' := by
  rcases Nat.eq_zero_or_pos n with h0 | h0
  · subst h0
    have hs : xs = [] := List.eq_nil_of_length_eq_zero (by rw [h.1]; simp)
    subst hs
    have hsrc : Src Try.prog k t (.slice a 0 sc) 0 [] w := by
      cases a with
      | none => exact Src.ofNil w ht sc
      | some ad => exact Src.ofSlice _ ht ad 0 sc [] (by simp) (by simp) (by simp)
    exact ⟨_, _, _, run_append_nothing w t t t e i0 ht hi none 0 0 (Nat.le_refl _) _ (by rw [hz1]; exact hsrc), Rw.nil _ _ _ _, Fr.refl _ _⟩
  · obtain ⟨g, o, rfl, hI, hc⟩ : ∃ g o, a = some ⟨g, o, none⟩ ∧ I g ∧ ∀ j u, xs[j]? = some u → w.cell? ⟨g, o + j, none⟩ = some u := by
      rcases h.2 with hv | hv
      · omega
      · exact hv
    obtain ⟨a', c', w', hr, h2, h3, h4⟩ := run_append_o (P := Try.prog) w t t e i0 z k by_ ht hi hz0 hz1 hz2 hzs hk none 0 0 [] (Ro.nil _ _ _) ⟨g, o, none⟩ n sc xs h.1 (fun j u hu => by rw [Addr.add_lit]; exact hc j u hu) h1 h0 (by omega) hnb
    rw [Nat.zero_add, List.nil_append] at h2
    rw [Nat.zero_add] at hr
    refine ⟨a', c', w', hr, Rw.of_ro h2 (fun g hg => ⟨?_, h2.lt g hg⟩), (Fr.of_grown h3).mono (fun i _ e => by simp [blk] at e)⟩
    rcases h4 with ⟨rfl, _⟩ | ⟨rfl, _⟩
    · simp [blk] at hg
    · simp [blk] at hg; omega
/-- with other rows of the same elements it is the same -/
theorem Re.other {I J : Nat → Prop} {w w' : World} {ec : List Value} {e : A.En} (h : Re I w ec e) {a1 a2 : Option Addr} {c1 c2 : Nat} (h1 : Rw J w' 8 a1 e.ops.length e.ops.flatten) (h2 : Rw J w' 1 a2 e.dt.length (e.dt.map B)) :
    ∃ ec', (ec.toArray.setIfInBounds 13 (.slice a1 e.ops.length c1)).setIfInBounds 52 (.slice a2 e.dt.length c2) = ec'.toArray ∧ Re J w' ec' e := by
  obtain ⟨h0, b1, d1, b2, d2, rfl, _, _⟩ := h
  refine ⟨(e.fx.set 13 (.slice a1 e.ops.length c1)).set 52 (.slice a2 e.dt.length c2), ?_, h0, a1, c1, a2, c2, rfl, h1, h2⟩
  simp only [List.setIfInBounds_toArray]
  congr 1
  apply List.ext_getElem?
  intro j
  simp only [List.getElem?_set, List.length_set, h0.len]
  by_cases e1 : 52 = j
  · subst e1; simp
  · by_cases e2 : 13 = j
    · subst e2; simp
    · simp [e1, e2]
/-- its parts -/
theorem Re.parts {I : Nat → Prop} {w : World} {ec : List Value} {e : A.En} (h : Re I w ec e) : e.Ok ∧ ec.toArray.size = 56 ∧ ec.toArray.all (·.oneCell') = true ∧ ∃ a1 c1 a2 c2, ec.toArray[13]? = some (.slice a1 e.ops.length c1) ∧ ec.toArray[52]? = some (.slice a2 e.dt.length c2) ∧ Rw I w 8 a1 e.ops.length e.ops.flatten ∧ Rw I w 1 a2 e.dt.length (e.dt.map B) := by
  have hl := h.len
  have ho := h.one
  obtain ⟨h0, a1, c1, a2, c2, rfl, h2, h3⟩ := h
  refine ⟨h0, by simpa using hl, ?_, a1, c1, a2, c2, ?_, ?_, h2, h3⟩
  · rw [Array.all_eq_true_iff_forall_mem]
    intro u hu
    exact ho u (by simpa using hu)
  · simp [h0.len]
  · simp [h0.len]
/-- the zero of an entry -/
def zE56 : Array Value := #[.int .i64 0, .int .i64 0, .int .i64 0, .int .i64 0, .int .i64 0, .int .i64 0, .int .i64 0, .int .i64 0, .string ⟨#[]⟩, .string ⟨#[]⟩, .string ⟨#[]⟩, .int .i64 0, .int .i64 0, .slice none 0 0, .int .i64 0, .int .i64 0, .int .i64 0, .int .i64 0, .int .i64 0, .int .i64 0, .int .i64 0, .int .i64 0, .int .i64 0, .int .i64 0, .int .i64 0, .int .i64 0, .int .i64 0, .int .i64 0, .int .i64 0, .int .i64 0, .int .i64 0, .int .i64 0, .int .i64 0, .int .i64 0, .int .i64 0, .int .i64 0, .int .i64 0, .int .i64 0, .int .i64 0, .int .i64 0, .int .i64 0, .int .i64 0, .int .i64 0, .int .i64 0, .int .i64 0, .int .i64 0, .int .i64 0, .int .i64 0, .int .i64 0, .int .i64 0, .int .i64 0, .int .i64 0, .slice none 0 0, .int .i64 0, .int .i64 0, .int .i64 0]
set_option maxHeartbeats 3200000 in
set_option maxRecDepth 20000 in
theorem rclone_any {I : Nat → Prop} {w : World} {ec : List Value} {en : A.En} (h : Re I w ec en) : Calls Try.prog 28 #[.agg ec.toArray] w fun r w' => ∃ ec', r = .returned (.agg (List.toArray ec')) ∧ Re (fun g => w.heap.size ≤ g ∧ g < w'.heap.size) w' ec' en ∧ Fr (fun _ => False) w w' := by
  obtain ⟨hok, hsz, hone, a1, c1, a2, c2, g13, g52, r1, r2⟩ := h.parts
  obtain ⟨i1, hi1, hz10, hz11, hz12⟩ := info_parts infoOp
  obtain ⟨i2, hi2, hz20, hz21, hz22⟩ := info_parts infoByte
  obtain ⟨gb, hgb⟩ : ∃ gb, w.heap.size = gb := ⟨_, rfl⟩
  have f0 : Fr (fun _ => False) w ((w.alloc (.cells ec.toArray 46)).alloc (.cells zE56 46)) := Fr.alloc (Fr.alloc (Fr.refl _ _) _) _
  have b0 : ((w.alloc (.cells ec.toArray 46)).alloc (.cells zE56 46)).heap[gb]? = some (.cells ec.toArray 46 (0, 0)) := by rw [← hgb]; exact (Below.heap_alloc _ _ _ (by simp)).trans (Go.heap_alloc_new w _)
  have b1 : ((w.alloc (.cells ec.toArray 46)).alloc (.cells zE56 46)).heap[gb + 1]? = some (.cells zE56 46 (0, 0)) := by
    have := Go.heap_alloc_new (w.alloc (.cells ec.toArray 46)) (.cells zE56 46)
    rwa [World.size_alloc, hgb] at this
  have hsz0 : ((w.alloc (.cells ec.toArray 46)).alloc (.cells zE56 46)).heap.size = gb + 2 := by simp [hgb]
  obtain ⟨x1, d1, w1, R1, k1, f1⟩ := nil_run _ 36 35 i1 _ 8 88 Try.underlying36 hi1 hz10 hz11 hz12 rfl (by omega) I a1 _ c1 _ (r1.kept f0 (fun _ _ h => h)) hok.oneOps (by have := hok.many; omega) (by have := hok.many; omega)
  rw [hsz0] at k1
  have hs1 := f1.size
  rw [hsz0] at hs1
  have b01 := f1.cells b0 (fun h => h)
  have b11 := f1.cells b1 (fun h => h)
  have c13 : w1.cell? ⟨gb, 13, none⟩ = some (.slice a1 en.ops.length c1) := cellA b01 g13
  have z1 := fun j => frozen_of_row (j := j) b01
  have b02 := setCell_row (j := 13) b01 (.slice x1 en.ops.length d1)
  have fs : Fr (fun k => k = gb) w1 (w1.setCell ⟨gb, 13, none⟩ (.slice x1 en.ops.length d1)) := Fr.setCell (p := ⟨gb, 13, none⟩) (S := fun k => k = gb) (Fr.refl _ _) (fun _ => rfl) _
  have b12 := fs.cells b11 (by omega)
  have f2 : Fr (fun _ => False) w (w1.setCell ⟨gb, 13, none⟩ (.slice x1 en.ops.length d1)) := (f0.trans f1 (fun _ _ h => h)).trans fs (fun i hi e => by omega)
  have k2 := k1.kept fs (fun i hi e => by omega)
  have hs2 : (w1.setCell ⟨gb, 13, none⟩ (.slice x1 en.ops.length d1)).heap.size = w1.heap.size := setCell_size _ _ _
  have c52 : (w1.setCell ⟨gb, 13, none⟩ (.slice x1 en.ops.length d1)).cell? ⟨gb, 52, none⟩ = some (.slice a2 en.dt.length c2) := cellA b02 (by rw [Array.getElem?_setIfInBounds_ne (by omega)]; exact g52)
  obtain ⟨x2, d2, w2, R2, k3, f3⟩ := nil_run _ 42 5 i2 _ 1 1 Try.underlying42 hi2 hz20 hz21 hz22 rfl (by omega) I a2 _ c2 _ (r2.kept f2 (fun _ _ h => h)) (one_B _) (by have := hok.long; omega) (by have := hok.long; omega)
  rw [hs2] at k3
  have hs3 := f3.size
  rw [hs2] at hs3
  have b03 := f3.cells b02 (fun h => h)
  have b13 := f3.cells b12 (fun h => h)
  have k4 := k2.kept f3 (fun _ _ h => h)
  have c52' : w2.cell? ⟨gb, 52, none⟩ = some (.slice a2 en.dt.length c2) := cellA b03 (by rw [Array.getElem?_setIfInBounds_ne (by omega)]; exact g52)
  have z2 := fun j => frozen_of_row (j := j) b03
  have b04 := setCell_row (j := 52) b03 (.slice x2 en.dt.length d2)
  have fs2 : Fr (fun k => k = gb) w2 (w2.setCell ⟨gb, 52, none⟩ (.slice x2 en.dt.length d2)) := Fr.setCell (p := ⟨gb, 52, none⟩) (S := fun k => k = gb) (Fr.refl _ _) (fun _ => rfl) _
  have b14 := fs2.cells b13 (by omega)
  obtain ⟨ec', hec, hre⟩ := Re.other (J := fun g => gb + 2 ≤ g ∧ g < w2.heap.size) (w' := w2.setCell ⟨gb, 52, none⟩ (.slice x2 en.dt.length d2)) (a1 := x1) (a2 := x2) (c1 := d1) (c2 := d2) h ((k4.kept fs2 (fun i hi e => by omega)).mono (fun i hi => by omega)) ((k3.kept fs2 (fun i hi e => by omega)).mono (fun i hi => by omega))
  rw [hec] at b04
  have f5 : Fr (fun _ => False) w (w2.setCell ⟨gb, 52, none⟩ (.slice x2 en.dt.length d2)) := (f2.trans f3 (fun _ _ h => h)).trans fs2 (fun i hi e => by omega)
  obtain ⟨hok', hsz', hone', hpp⟩ := hre.parts
  clear hok' hpp
  obtain ⟨W, hW⟩ : ∃ W, w2.setCell ⟨gb, 52, none⟩ (.slice x2 en.dt.length d2) = W := ⟨_, rfl⟩
  have hWs : W.heap.size = w2.heap.size := by rw [← hW]; exact setCell_size _ _ _
  rw [hW] at b04 b14 hre f5
  have ld := load_whole (ty := 46) b04 Try.underlying46 rfl (by rw [hsz']; kernel_rfl)
  obtain ⟨V, st, lr, fV⟩ := box_back (c := ec'.toArray) b14 (by rw [hsz']; exact Nat.le_refl _) (by rw [hsz']; kernel_rfl) hone' Try.underlying46 rfl
  have hfin : Re (fun g => w.heap.size ≤ g ∧ g < V.heap.size) V ec' en ∧ Fr (fun _ => False) w V := by
    have h3 := fV.size
    exact ⟨(hre.kept fV (fun i hi e => by omega)).mono (fun i hi => by omega), f5.trans fV (fun i hi e => by omega)⟩
  generalize ec.toArray = cs at *
  obtain ⟨cs', hcs'⟩ : ∃ x, ec'.toArray = x := ⟨_, rfl⟩
  rw [hcs'] at ld st lr hec
  have HCS := hid hcs'
  have e13 : cs[13] = .slice a1 en.ops.length c1 := by rw [Array.getElem?_eq_getElem (by omega)] at g13; simpa using g13
  have LD := hid ld
  have ST := hid st
  have LR := hid lr
  have HFIN := hid hfin
  have HW := hid hW
  have RR1 := hid R1
  have RR2 := hid R2
  generalize en.ops.length = n1 at *
  generalize en.dt.length = n2 at *
  have HEC := hid hec
  clear hcs' hok hone g13 g52 r1 r2 h hi1 hz10 hz11 hz12 hi2 hz20 hz21 hz22 f0 b0 b1 hsz0 R1 k1 f1 hs1 b01 b11 b02 fs b12 f2 k2 hs2 R2 k3 f3 hs3 b03 b13 k4 b04 fs2 b14 hec hre f5 hsz' hone' hW hWs ld st lr fV hfin
  subst hgb
  go_enter Try.func28, Try.ntmps28
  go_wp2_with (first
    | (at_builtin; refine wpList_append_eq _ _ rfl _ _ _ rfl _ _ _ rfl rfl RR1.out ?_)
    | (at_builtin; refine wpList_append_eq _ _ rfl _ _ _ rfl _ _ _ rfl rfl RR2.out ?_)
    | (refine wpList_load_v (by rw [HW.out]; exact LD.out) (by exact ⟨_, rfl, rfl⟩) (by kernel_rfl) ?_)
    | (refine wpList_store_v (by rw [HW.out]; exact ST.out) (by exact ⟨_, _, rfl, rfl, rfl⟩) (by kernel_rfl) ?_))
  exact bodyPost_ret (v := .agg cs') (results_cell1 Try.results28 _ _ _ _ _ (by rfl) LR.out) rfl ⟨ec', by rw [HCS.out], HFIN.out⟩
end Go.Proofs.Ytedhmhlhjonloaa
