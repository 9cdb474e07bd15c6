/-
  ProposerNone's law.
-/
import Derived.Test.YtcmpkbgkhbcekaaDoorJSame
namespace Go.Proofs.YtcmpkbgkhbcekaaDoor
open Go.RowKit Go.Maps
set_option linter.unusedVariables false
set_option linter.unusedSimpArgs false

theorem jZ_one : jS59.all (·.oneCell') = true := by simp [jS59, Value.oneCell']
theorem jW_one : zE56.all (·.oneCell') = true := by simp [zE56, Value.oneCell']
set_option maxHeartbeats 25600000 in
set_option maxRecDepth 20000 in
theorem jlaw (oa : Array Value) (hsz : oa.size = 60) (r s : Int) (a : Option Addr) (n c : Nat) (h1 : oa[1]? = some (.int .i64 r)) (h2 : oa[2]? = some (.int .i64 s)) (h3 : oa[3]? = some (.slice a n c)) (w : World) (T : Tb w) :
    Calls Tryd.prog 3 #[.agg oa] w fun e w' => e = .returned (.bool true) ∧ Fr (fun _ => False) w w' := by
  obtain ⟨W, hW⟩ : ∃ W, w.alloc (.cells oa 39) = W := ⟨_, rfl⟩
  have f0 : Fr (fun _ => False) w W := by rw [← hW]; exact Fr.alloc (Fr.refl _ _) _
  have ba : W.heap[w.heap.size]? = some (.cells oa 39 (0, 0)) := by rw [← hW]; exact Go.heap_alloc_new w _
  have KB := hid (jbegun W (T.kept f0 (fun h => h)))
  have HW := hid hW
  have F0 := hid f0
  have BA := hid ba
  have H1 := hid h1
  have H2 := hid h2
  have H3 := hid h3
  have HSZ := hid hsz
  obtain ⟨vo, hvo⟩ : ∃ vo, Value.agg oa = vo := ⟨_, rfl⟩
  have HVO := hid hvo
  clear hW f0 T ba h1 h2 h3 hsz hvo
  go_enter Tryd.func3, Tryd.ntmps3
  go_upto_region 1 with fail
  rw [HW.out, HVO.out]
  go_upto_region 4 with (first
    | (go_at_call 4; refine KB.out.mono ?_; rintro e w1 ⟨rfl, f1⟩; have F1 := hid f1; clear f1))
  clear KB
  obtain ⟨W0, hW0⟩ : ∃ W0, (w1.alloc (.cells #[.int .i64 0, .int .i64 0, .int .i64 0, .int .i64 0, .int .u8 0, .map none, .map none, .int .i64 0] 49)).alloc (.cells #[.pointer none, .pointer (some ⟨w1.heap.size, 0, none⟩)] 41) = W0 := ⟨_, rfl⟩
  rw [hW0]
  have fw : Fr (fun _ => False) w1 W0 := by rw [← hW0]; exact Fr.alloc (Fr.alloc (Fr.refl _ _) _) _
  have bp : W0.heap[w1.heap.size]? = some (.cells #[.int .i64 0, .int .i64 0, .int .i64 0, .int .i64 0, .int .u8 0, .map none, .map none, .int .i64 0] 49 (0, 0)) := by rw [← hW0]; exact (Below.heap_alloc _ _ _ (by simp)).trans (Go.heap_alloc_new w1 _)
  have bs : W0.heap[w1.heap.size + 1]? = some (.cells #[.pointer none, .pointer (some ⟨w1.heap.size, 0, none⟩)] 41 (0, 0)) := by
    have h1 := Go.heap_alloc_new (w1.alloc (.cells #[.int .i64 0, .int .i64 0, .int .i64 0, .int .i64 0, .int .u8 0, .map none, .map none, .int .i64 0] 49)) (.cells #[.pointer none, .pointer (some ⟨w1.heap.size, 0, none⟩)] 41)
    rw [World.size_alloc] at h1
    rw [← hW0]; exact h1
  have ba := (F1.out.trans fw (fun _ _ h => h)).cells BA.out (fun h => h)
  have FW := hid ((F0.out.trans F1.out (fun _ _ h => h)).trans fw (fun _ _ h => h))
  clear hW0 fw
  obtain ⟨ea, hea⟩ : ∃ ea, ((oa.toList.drop 4).take 56).toArray = ea := ⟨_, rfl⟩
  have hel : ((oa.toList.drop 4).take 56).length = 56 := by rw [List.length_take, List.length_drop, Array.length_toList, HSZ.out]; rfl
  obtain ⟨ve, hve⟩ : ∃ ve, Value.agg ea = ve := ⟨_, rfl⟩
  have LE := hid (fun (V : World) (hf : Fr (fun _ => False) W0 V) => show (Instr.loadAt 37 (.pointer (some ⟨w.heap.size, 4, none⟩))).run Tryd.prog V = .ok ve V by
    have := run_loadAt_mid (P := Tryd.prog) V w.heap.size 4 37 ((oa.toList.drop 4).take 56) _ (rangeAt_of (hf.cells ba (fun h => h)) 4 _ (by rw [hel])) Tryd.underlying37 rfl (by rw [hel]; kernel_rfl)
    rw [this, hea, hve])
  have C1 := hid (fun (V : World) (hf : Fr (fun _ => False) W0 V) => show V.cell? ⟨w.heap.size, 1, none⟩ = some (.int .i64 r) from cellA (hf.cells ba (fun h => h)) H1.out)
  have C2 := hid (fun (V : World) (hf : Fr (fun _ => False) W0 V) => show V.cell? ⟨w.heap.size, 2, none⟩ = some (.int .i64 s) from cellA (hf.cells ba (fun h => h)) H2.out)
  have C3 := hid (fun (V : World) (hf : Fr (fun _ => False) W0 V) => show V.cell? ⟨w.heap.size, 3, none⟩ = some (.slice a n c) from cellA (hf.cells ba (fun h => h)) H3.out)
  have CS0 := hid (fun (V : World) (hf : Fr (fun _ => False) W0 V) => show V.cell? ⟨w1.heap.size + 1, 0, none⟩ = some (.pointer none) from cellA (hf.cells bs (fun h => h)) rfl)
  have CS1 := hid (fun (V : World) (hf : Fr (fun _ => False) W0 V) => show V.cell? ⟨w1.heap.size + 1, 1, none⟩ = some (.pointer (some ⟨w1.heap.size, 0, none⟩)) from cellA (hf.cells bs (fun h => h)) rfl)
  have NP0 := hid (fun (V : World) (hf : Fr (fun _ => False) W0 V) => show NoP V (.pointer none) from .inl rfl)
  have NP1 := hid (fun (V : World) (hf : Fr (fun _ => False) W0 V) => show NoP V (.pointer (some ⟨w1.heap.size, 0, none⟩)) from .inr ⟨_, rfl, cellA (hf.cells bp (fun h => h)) rfl⟩)
  have KP0 := hid (fun (V : World) (hf : Fr (fun _ => False) W0 V) => nput (NP0.out V hf) ea)
  have KP1 := hid (fun (V : World) (hf : Fr (fun _ => False) W0 V) => nput (NP1.out V hf) ea)
  have KC0 := hid (fun (V : World) (hf : Fr (fun _ => False) W0 V) => nchosen (NP0.out V hf) s)
  have KC1 := hid (fun (V : World) (hf : Fr (fun _ => False) W0 V) => nchosen (NP1.out V hf) s)
  have KS := hid sameSl
  have KE := hid sameZ
  obtain ⟨vs, hvs⟩ : ∃ vs, Value.agg jS59 = vs := ⟨_, rfl⟩
  obtain ⟨vz, hvz⟩ : ∃ vz, Value.agg zE56 = vz := ⟨_, rfl⟩
  rw [hve] at KP0 KP1
  rw [hvs] at KP0 KP1
  rw [hvz] at KC0 KC1
  have HVS := hid hvs
  have HVE := hid hvz
  have KS' := hid (fun V => by have := KS.out V; rw [hvs] at this; exact this)
  have KE' := hid (fun V => by have := KE.out V; rw [hvz] at this; exact this)
  have FZ : Hid (Fr (fun _ => False) W0 W0) := hid (Fr.refl _ _)
  have Z59 := hid (show Value.agg #[.int .i64 0, .int .i64 0, .int .i64 0, .int .i64 0, .int .i64 0, .int .i64 0, .int .i64 0, .int .i64 0, .int .i64 0, .int .i64 0, .int .i64 0, .string ⟨#[]⟩, .string ⟨#[]⟩, .string ⟨#[]⟩, .int .i64 0, .int .i64 0, .slice none 0 0, .int .i64 0, .int .i64 0, .int .i64 0, .int .i64 0, .int .i64 0, .int .i64 0, .int .i64 0, .int .i64 0, .int .i64 0, .int .i64 0, .int .i64 0, .int .i64 0, .int .i64 0, .int .i64 0, .int .i64 0, .int .i64 0, .int .i64 0, .int .i64 0, .int .i64 0, .int .i64 0, .int .i64 0, .int .i64 0, .int .i64 0, .int .i64 0, .int .i64 0, .int .i64 0, .int .i64 0, .int .i64 0, .int .i64 0, .int .i64 0, .int .i64 0, .int .i64 0, .int .i64 0, .int .i64 0, .int .i64 0, .int .i64 0, .int .i64 0, .int .i64 0, .slice none 0 0, .int .i64 0, .int .i64 0, .int .i64 0] = vs from hvs)
  clear bp bs ba hea hel hve hvs hvz
  refine wp_loop_rounds 3 ?_
  rw [rounds_succ]
  have c1 := C1.out _ FZ.out
  have c2 := C2.out _ FZ.out
  have c3 := C3.out _ FZ.out
  have cs := CS0.out _ FZ.out
  go_wp2_with (first
    | (go_at_call 5; refine (npromise (NP0.out _ FZ.out) r _).mono ?_; rintro e wx ⟨rfl, rfl⟩)
    | (refine wpList_load_v (LE.out _ FZ.out) (by exact ⟨_, rfl, rfl⟩) (by kernel_rfl) ?_)
    | (go_at_call 6; refine (KP0.out _ FZ.out).mono ?_; rintro e w2 ⟨rfl, f2⟩; obtain ⟨V3, st3, b3, f3⟩ := box_whole (c := jS59) (Go.heap_alloc_new w2 (.cells jS59 55)) rfl (by kernel_rfl) jZ_one; have F3 := hid ((FZ.out.trans f2 (fun _ _ h => h)).trans ((Fr.alloc (Fr.refl (fun _ => False) w2) (.cells jS59 55)).trans f3 (fun i hi e => by omega)) (fun _ _ h => h)); rw [HVS.out] at st3; unfold jS59 at st3; have ST3 := hid st3; have B3 := hid b3; have c1 := C1.out _ F3.out; have c2 := C2.out _ F3.out; clear f2 st3 b3 f3)
    | (refine wpList_store_v ST3.out (by exact ⟨_, _, rfl, rfl, rfl⟩) (by kernel_rfl) ?_))
  refine (naccepted (NP0.out _ F3.out) r s).mono ?_
  rintro e wx ⟨rfl, rfl⟩
  go_wp2_with (first
    | (go_at_call 8; refine (KC0.out _ F3.out).mono ?_; rintro e w4 ⟨rfl, f4⟩; obtain ⟨V5, st5, b5, f5⟩ := box_whole (c := zE56) (Go.heap_alloc_new w4 (.cells zE56 37)) rfl (by kernel_rfl) jW_one; have f45 := (Fr.alloc (Fr.refl (fun _ => False) w4) (.cells zE56 37)).trans f5 (fun i hi e => by omega); have F5 := hid ((F3.out.trans f4 (fun _ _ h => h)).trans f45 (fun _ _ h => h)); have LS := hid (fun (V : World) (hf : Fr (fun _ => False) V5 V) => load_whole (ty := 55) (hf.cells (f45.cells (f4.cells B3.out (fun h => h)) (fun h => h)) (fun h => h)) Tryd.underlying55 rfl (by kernel_rfl)); have LZ := hid (fun (V : World) (hf : Fr (fun _ => False) V5 V) => load_whole (ty := 37) (hf.cells b5 (fun h => h)) Tryd.underlying37 rfl (by kernel_rfl)); rw [HVE.out] at st5; unfold zE56 at st5; have ST5 := hid st5; clear f4 st5 b5 f5 f45)
    | (refine wpList_store_v ST5.out (by exact ⟨_, _, rfl, rfl, rfl⟩) (by kernel_rfl) ?_)
    | (refine wpList_load_v (LS.out _ (Fr.refl _ _)) (by exact ⟨_, rfl, rfl⟩) (by kernel_rfl) ?_))
  refine (KS.out V5).mono ?_
  rintro e w6 ⟨rfl, f6⟩
  have F6 := hid f6
  have G6 := hid (F5.out.trans f6 (fun _ _ h => h))
  clear f6
  go_wp2_with (first
    | (refine wpList_load_v (LZ.out _ F6.out) (by exact ⟨_, rfl, rfl⟩) (by kernel_rfl) ?_)
    | (go_at_call 10; refine (KE.out w6).mono ?_; rintro e w7 ⟨rfl, f7⟩; have F7 := hid (G6.out.trans f7 (fun _ _ h => h)); clear f7))
  refine (nready (NP0.out _ F7.out)).mono ?_
  rintro e w8 ⟨rfl, f8⟩
  have F8 := hid (F7.out.trans f8 (fun _ _ h => h))
  have c2 := C2.out _ F8.out
  clear f8
  go_wp2_with (first
    | (go_at_call 12; refine (nwaiting (NP0.out _ F8.out)).mono ?_; rintro e wx ⟨rfl, rfl⟩)
    | (go_at_call 13; refine (nmissing (NP0.out _ F8.out) s).mono ?_; rintro e wx ⟨rfl, rfl⟩)
    | (go_at_call 14; refine (nnext (NP0.out _ F8.out)).mono ?_; rintro e wx ⟨rfl, rfl⟩))
  refine (nballot (NP0.out _ F8.out)).mono ?_
  rintro e w9 ⟨rfl, f9⟩
  have F9 := hid (F8.out.trans f9 (fun _ _ h => h))
  have c2 := C2.out _ F9.out
  clear f9
  go_wp2_with (first
    | (go_at_call 16; refine (nforget (NP0.out _ F9.out) s).mono ?_; rintro e wx ⟨rfl, rfl⟩))
  have F0z := hid F9.out
  clear F3 F5 F6 F7 F8 F9 G6 LS LZ ST3 ST5 B3
  rw [rounds_succ]
  have c1 := C1.out _ F0z.out
  have c2 := C2.out _ F0z.out
  have c3 := C3.out _ F0z.out
  have cs := CS1.out _ F0z.out
  go_wp2_with (first
    | (go_at_call 5; refine (npromise (NP1.out _ F0z.out) r _).mono ?_; rintro e wx ⟨rfl, rfl⟩)
    | (refine wpList_load_v (LE.out _ F0z.out) (by exact ⟨_, rfl, rfl⟩) (by kernel_rfl) ?_)
    | (go_at_call 6; refine (KP1.out _ F0z.out).mono ?_; rintro e w2 ⟨rfl, f2⟩; obtain ⟨V3, st3, b3, f3⟩ := box_whole (c := jS59) (Go.heap_alloc_new w2 (.cells jS59 55)) rfl (by kernel_rfl) jZ_one; have F3 := hid ((F0z.out.trans f2 (fun _ _ h => h)).trans ((Fr.alloc (Fr.refl (fun _ => False) w2) (.cells jS59 55)).trans f3 (fun i hi e => by omega)) (fun _ _ h => h)); rw [HVS.out] at st3; unfold jS59 at st3; have ST3 := hid st3; have B3 := hid b3; have c1 := C1.out _ F3.out; have c2 := C2.out _ F3.out; clear f2 st3 b3 f3)
    | (refine wpList_store_v ST3.out (by exact ⟨_, _, rfl, rfl, rfl⟩) (by kernel_rfl) ?_))
  refine (naccepted (NP1.out _ F3.out) r s).mono ?_
  rintro e wx ⟨rfl, rfl⟩
  go_wp2_with (first
    | (go_at_call 8; refine (KC1.out _ F3.out).mono ?_; rintro e w4 ⟨rfl, f4⟩; obtain ⟨V5, st5, b5, f5⟩ := box_whole (c := zE56) (Go.heap_alloc_new w4 (.cells zE56 37)) rfl (by kernel_rfl) jW_one; have f45 := (Fr.alloc (Fr.refl (fun _ => False) w4) (.cells zE56 37)).trans f5 (fun i hi e => by omega); have F5 := hid ((F3.out.trans f4 (fun _ _ h => h)).trans f45 (fun _ _ h => h)); have LS := hid (fun (V : World) (hf : Fr (fun _ => False) V5 V) => load_whole (ty := 55) (hf.cells (f45.cells (f4.cells B3.out (fun h => h)) (fun h => h)) (fun h => h)) Tryd.underlying55 rfl (by kernel_rfl)); have LZ := hid (fun (V : World) (hf : Fr (fun _ => False) V5 V) => load_whole (ty := 37) (hf.cells b5 (fun h => h)) Tryd.underlying37 rfl (by kernel_rfl)); rw [HVE.out] at st5; unfold zE56 at st5; have ST5 := hid st5; clear f4 st5 b5 f5 f45)
    | (refine wpList_store_v ST5.out (by exact ⟨_, _, rfl, rfl, rfl⟩) (by kernel_rfl) ?_)
    | (refine wpList_load_v (LS.out _ (Fr.refl _ _)) (by exact ⟨_, rfl, rfl⟩) (by kernel_rfl) ?_))
  refine (KS.out V5).mono ?_
  rintro e w6 ⟨rfl, f6⟩
  have F6 := hid f6
  have G6 := hid (F5.out.trans f6 (fun _ _ h => h))
  clear f6
  go_wp2_with (first
    | (refine wpList_load_v (LZ.out _ F6.out) (by exact ⟨_, rfl, rfl⟩) (by kernel_rfl) ?_)
    | (go_at_call 10; refine (KE.out w6).mono ?_; rintro e w7 ⟨rfl, f7⟩; have F7 := hid (G6.out.trans f7 (fun _ _ h => h)); clear f7))
  refine (nready (NP1.out _ F7.out)).mono ?_
  rintro e w8 ⟨rfl, f8⟩
  have F8 := hid (F7.out.trans f8 (fun _ _ h => h))
  have c2 := C2.out _ F8.out
  clear f8
  go_wp2_with (first
    | (go_at_call 12; refine (nwaiting (NP1.out _ F8.out)).mono ?_; rintro e wx ⟨rfl, rfl⟩)
    | (go_at_call 13; refine (nmissing (NP1.out _ F8.out) s).mono ?_; rintro e wx ⟨rfl, rfl⟩)
    | (go_at_call 14; refine (nnext (NP1.out _ F8.out)).mono ?_; rintro e wx ⟨rfl, rfl⟩))
  refine (nballot (NP1.out _ F8.out)).mono ?_
  rintro e w9 ⟨rfl, f9⟩
  have F9 := hid (F8.out.trans f9 (fun _ _ h => h))
  have c2 := C2.out _ F9.out
  clear f9
  go_wp2_with (first
    | (go_at_call 16; refine (nforget (NP1.out _ F9.out) s).mono ?_; rintro e wx ⟨rfl, rfl⟩))
  have F1z := hid F9.out
  clear F3 F5 F6 F7 F8 F9 G6 LS LZ ST3 ST5 B3
  rw [rounds_succ]
  go_wp2_with fail
  go_ret
  exact ⟨rfl, FW.out.trans F1z.out (fun _ _ h => h)⟩
end Go.Proofs.YtcmpkbgkhbcekaaDoor
