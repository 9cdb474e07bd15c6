/-
  ckpt's calls on a disk that no call made.
-/
import Derived.Test.YtogdjhhabcejgaaCSave
import Derived.Test.YtogdjhhabcejgaaKNone
import Derived.Test.YtogdjhhabcejgaaKIt
namespace Go.Proofs.Ytogdjhhabcejgaa
open Go.RowKit Go.Maps Go.Shelf
set_option linter.unusedVariables false
attribute [local go_sem] Oper.semAt_some

set_option maxRecDepth 100000 in
set_option maxHeartbeats 4000000 in
theorem noHas (w : World) (v : Option Addr) (h : NoD w (.pointer v)) (s : K.Nm) :
    Calls Try.prog 62 #[.pointer v, encStr s] w fun e w' => e = .returned (.bool false) ∧ Fr (fun _ => False) w w' := by
  refine (callsIn_wide (n := 8)).1 ?_
  have hf0 : Fence.wide.fn 20 := trivial
  refine callsIn_of_wp_marks Try.func62 rfl trivial ?_ rfl
  simp only [Try.ntmps62, List.size_toArray, List.length_cons, List.length_nil, Nat.reduceAdd, Nat.reduceSub, Array.replicate_succ, Array.replicate_zero, List.push_toArray, List.append_toArray, List.nil_append, List.cons_append]
  have HK := hid h
  clear h
  gi_wp2_with fail
  obtain ⟨wz, hwz⟩ : ∃ wz, wz = (w.alloc (.cells #[encStr s] 9)).alloc (.cells #[.bool false] 4) := ⟨_, rfl⟩
  rw [← hwz]
  have fz : Fr (fun _ => False) w wz := by rw [hwz]; exact Fr.alloc (Fr.alloc (Fr.refl _ _) _) _
  have bz1 : wz.heap[w.heap.size + 1]? = some (.cells #[.bool false] 4 (0, 0)) := by
    have := Go.heap_alloc_new (w.alloc (.cells #[encStr s] 9)) (.cells #[.bool false] 4)
    rw [World.size_alloc] at this
    rw [hwz]; exact this
  clear hwz
  refine (callsIn_wide.2 (noNames wz _ (HK.out.kept fz))).mono ?_
  rintro e wn ⟨B, rfl, hB, hfn⟩
  have bn1 := hfn.cells bz1 (fun h => h)
  have fn : Fr (fun _ => False) w wn := fz.trans hfn (fun _ _ h => h)
  have HB1 := hid bn1
  have HFN := hid fn
  have hl1 : w.heap.size + 1 < wn.heap.size := lt_of_row bn1
  clear hfn fz bz1 bn1 fn
  gi_wp2_with fail
  refine wpIn_rangeFunc_ownG (w := wn) rfl (by omega) (gf := 46) (lb := #[.pointer (some ⟨B, 0, none⟩)]) rfl trivial (enters_of Try.func46 (by kernel_rfl) rfl)
    (names1g_stops (fun x : Empty => x.elim) Fence.wide _ trivial rfl (by omega) B 0 none [] (by simp) wn hB (.inl rfl)) (fun h k => h.trans k)
    (fun W l o o' hl hW _ _ k hk => World.putObj_heap_other (fun e => by
      rcases hk with rfl | ⟨h, _⟩
      · have := World.block_lt_of_cell? _ _ hB; simp only at this; omega
      · exact h rfl))
    (Below.refl _ _) (fun _ => rfl) (fun _ W => Fr (fun _ => False) wn W) (fun _ _ _ => False) (fun _ A B row hs hg hr => hs.trans (Fr.of_grown hg) (fun i hi e => by have := (hr i e).1; omega)) (fun _ _ _ _ _ hs _ _ => hs) (Fr.refl _ _) (fun x => x.elim) ?_ ?_ ?_ ?_
  · intro l x
    exact x.elim
  · intro l pre x
    exact x.elim
  rotate_left
  · intro D c pre W _ _ h _
    exact h.elim
  intro D0 xs W0 hD _ hfr hK0
  have b1 := hfr.cells HB1.out (fun h => h)
  have c1 := cell_of (j := 0) b1 rfl
  have z1 := frozen_of_row (j := 0) b1
  have HFR := hid hfr
  have HR1 := hid b1
  clear hfr b1 hB
  gi_wp2
  have hn : D0 ≠ w.heap.size + 1 := fun e => by rw [e, HR1.out] at hK0; simp at hK0
  have q0 : (W0.setCell ⟨w.heap.size + 1, 0, none⟩ (.bool false)).heap[D0]? = some (.deferred (some [])) := (Below.heap_setCell _ _ _ _ hn).trans hK0
  have qr : ((W0.setCell ⟨w.heap.size + 1, 0, none⟩ (.bool false)).putObj D0 (.deferred none)).heap[w.heap.size + 1]? = some (.cells #[.bool false] 4 (0, 0)) := by
    rw [World.putObj_heap_other hn.symm, setCell_row HR1.out]; rfl
  have qc := cell_of (j := 0) qr rfl
  have hs0 := HFN.out.size
  have hf2 := HFN.out.trans HFR.out (fun _ _ h => h)
  refine ⟨by simp, .inl ⟨_, _, rfl, run_takeDeferred q0, ?_⟩⟩
  refine ⟨.bool false, ?_, rfl, ?_⟩
  · simp [results, Try.f62, go_sem, qc]
  · have f1 : Fr (fun _ => False) w (W0.setCell ⟨w.heap.size + 1, 0, none⟩ (.bool false)) := Fr.setCell (p := ⟨w.heap.size + 1, 0, none⟩) hf2 (fun h => by simp only at h; omega) _
    exact f1.trans (Fr.of_grown (grownBy_putObj' _ D0 _)) (fun i hi e => by simp at e; omega)

theorem noTidy (w : World) (v : Option Addr) (h : NoD w (.pointer v)) :
    Calls Try.prog 37 #[.pointer v] w fun e w' => e = .returned (.int .i64 0) ∧ Fr (fun _ => False) w w' := by
  have KH := hid (noHas w v h C.nw)
  clear h
  go_enter Try.func37, Try.ntmps37
  go_wp2_with (first
    | (go_at_call 62; refine KH.out.mono ?_; rintro e w1 ⟨rfl, hf1⟩; have F1 := hid hf1; clear hf1))
  go_ret
  exact ⟨rfl, F1.out⟩

/-- what Save and Load tell there -/
def C.noSave (s : Int) (n : Nat) : Int := if C.chk s n ≠ 0 then C.chk s n else 2
theorem noSave (w : World) (v : Option Addr) (h : NoD w (.pointer v)) (s : Int) (h1 : -9223372036854775808 ≤ s) (h2 : s ≤ 9223372036854775807) (a : Option Addr) (len c : Nat) (bs : List UInt8) (hb : Sl w a len bs) :
    Calls Try.prog 15 #[.pointer v, .int .i64 s, .slice a len c] w fun e w' => e = .returned (.int .i64 (C.noSave s len)) ∧ Fr (fun _ => False) w w' := by
  have KE := hid (encode_any s h1 h2 a len c bs w hb)
  have hl := hb.1
  rw [C.enc_snd, hl] at KE
  generalize (C.enc s bs).1 = x at KE
  have H := hid h
  unfold C.noSave
  clear h hb hl
  by_cases hk : C.chk s len = 0
  · rw [hk] at KE ⊢
    rw [if_neg (by simp)]
    clear hk
    go_enter Try.func15, Try.ntmps15
    go_wp2_with (first
      | (go_at_call 8; refine KE.out.mono ?_; rintro e w1 ⟨xa, xc, rfl, ho1, hf1⟩; have F1 := hid hf1; clear ho1 hf1)
      | (go_at_call 37; refine (noTidy w1 v (H.out.kept F1.out)).mono ?_; rintro e w2 ⟨rfl, hf2⟩; have F2 := hid (F1.out.trans hf2 (fun _ _ h => h)); clear hf2)
      | (go_at_call 38; refine (noAppend w2 _ (H.out.kept F2.out) _ _ _ _).mono ?_; rintro e w3 ⟨rfl, hf3⟩; have F3 := hid (F2.out.trans hf3 (fun _ _ h => h)); clear hf3))
    go_ret
    exact ⟨rfl, F3.out⟩
  · rw [if_pos hk]
    generalize C.chk s len = er at KE hk ⊢
    go_enter Try.func15, Try.ntmps15
    go_wp2_with (first
      | (go_at_call 8; refine KE.out.mono ?_; rintro e w1 ⟨xa, xc, rfl, ho1, hf1⟩; have F1 := hid hf1; clear ho1 hf1))
    go_ret
    exact ⟨rfl, F1.out⟩
theorem noLoad (w : World) (v : Option Addr) (h : NoD w (.pointer v)) :
    Calls Try.prog 21 #[.pointer v] w fun e w' => e = .returned (.tuple #[.int .i64 0, .slice none 0 0, .int .i64 2]) ∧ Fr (fun _ => False) w w' := by
  have H := hid h
  clear h
  go_enter Try.func21, Try.ntmps21
  go_wp2_with (first
    | (go_at_call 37; refine (noTidy w v H.out).mono ?_; rintro e w1 ⟨rfl, hf1⟩; have F1 := hid hf1; clear hf1)
    | (go_at_call 47; refine (noRead w1 _ (H.out.kept F1.out) _).mono ?_; rintro e w2 ⟨rfl, hf2⟩; have F2 := hid (F1.out.trans hf2 (fun _ _ h => h)); clear hf2))
  go_ret3
  exact ⟨rfl, F2.out⟩

end Go.Proofs.Ytogdjhhabcejgaa
