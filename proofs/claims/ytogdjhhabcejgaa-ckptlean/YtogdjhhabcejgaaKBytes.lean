/-
  The contracts of slices.Grow, slices.Concat, and of a file: bytes, clone.
-/
import Derived.Test.YtogdjhhabcejgaaKFile2
import Derived.Lib.AppendZeros
namespace Go.Proofs.Ytogdjhhabcejgaa
open Go.RowKit Go.Maps
set_option linter.unusedVariables false

theorem cell_fr {S : Nat → Prop} {w w' : World} (hf : Fr S w w') {b j : Nat} (hS : ¬ S b) {v : Value} (hc : w.cell? ⟨b, j, none⟩ = some v) : w'.cell? ⟨b, j, none⟩ = some v := by
  rw [World.cell?_of_block (w := w) (w' := w') (hf.block b (World.block_lt_of_cell? w _ hc) hS)]; exact hc

set_option maxHeartbeats 800000 in
set_option maxRecDepth 20000 in
theorem grow_any (n : Nat) (hn : n ≤ K.cap) (w : World) :
    Calls Try.prog 76 #[.slice none 0 0, .int .i64 n] w fun e w' => ∃ a c, e = .returned (.slice a 0 c) ∧ Ow w.heap.size w' a c [] ∧ Fr (fun _ => False) w w' := by
  unfold K.cap at hn
  by_cases h0 : n = 0
  · subst h0
    go_enter Try.func76, Try.ntmps76
    go_wp2
    go_ret
    exact ⟨_, _, rfl, Ow.nil _ _, Fr.refl _ _⟩
  · obtain ⟨i0, hi, hz0, hz1, hz2⟩ := info_parts info5
    have h63 : (n : Int) ≤ 9223372036854775807 := by omega
    have hr := fun ty => Lib.run_append_nil_zeros (P := Try.prog) w 22 3 ty 5 i0 (.int .u8 0) .i64 .i64 Try.underlying22 Try.underlying3 hi hz0 n (by omega) (by rw [hz1]; exact Nat.one_pos) h63 (by rw [hz2]; omega)
    have hgc : grownCap w n 0 5 ≤ maxLen := grownCap_le_maxLen w n 0 5 (by unfold maxLen; omega)
    obtain ⟨gc, hgc'⟩ : ∃ gc, grownCap w n 0 5 = gc := ⟨_, rfl⟩
    rw [hgc'] at hgc
    rw [hgc'] at hr
    have hpos : 0 < (n : Int) := by omega
    have HR := hid hr
    have hcut1 := run_cut_hi' w none 0 0 0 (Nat.le_refl _) 0 rfl
    clear hr hgc' hi hz0 hz1 hz2
    have hcut2 := fun W => run_cut_hi' W (some ⟨w.heap.size, 0, none⟩) n gc 0 (Nat.zero_le _) 0 rfl
    go_enter Try.func76, Try.ntmps76
    go_wp2_with (first | (at_builtin; refine Lib.wpList_append_run _ rfl _ _ _ _ rfl _ _ rfl rfl _ _ (HR.out _) ?_))
    go_ret
    refine ⟨_, _, rfl, .inr ⟨w.heap.size, _, _, rfl, Nat.le_refl _, Go.heap_alloc_new w.drew _, Nat.zero_le _, ?_, hgc, by simp⟩, Fr.alloc (Fr.drew (Fr.refl _ _)) _⟩
    simp only [Array.size_append, size_zeroCells]
    simp only [List.size_toArray, List.length_cons, List.length_nil]
    omega

/-- what the first k of two slices have -/
def two (x y : List UInt8) : Nat → List UInt8
  | 0 => []
  | 1 => x
  | _ => x ++ y

set_option maxHeartbeats 1600000 in
theorem concat_any (w : World) (b bc : Nat) (xa ya : Option Addr) (xn xc yn yc : Nat) (x y : List UInt8) (hx : Sl w xa xn x) (hy : Sl w ya yn y) (c0 : w.cell? ⟨b, 0, none⟩ = some (.slice xa xn xc)) (c1 : w.cell? ⟨b, 1, none⟩ = some (.slice ya yn yc)) (hbd : xn + yn ≤ K.cap) :
    Calls Try.prog 49 #[.slice (some ⟨b, 0, none⟩) 2 bc] w fun e w' => ∃ a c, e = .returned (.slice a (xn + yn) c) ∧ Ow w.heap.size w' a c (x ++ y) ∧ Fr (fun _ => False) w w' := by
  have hxl := hx.1
  have hyl := hy.1
  have HX := hid hx
  have HY := hid hy
  have HXL := hid hxl
  have HYL := hid hyl
  unfold K.cap at hbd
  have hb := World.block_lt_of_cell? w _ c0
  have hG := hid (fun W => grow_any (xn + yn) hbd W)
  clear hx hy hxl hyl
  go_enter Try.func49, Try.ntmps49
  go_wp2
  go_loop [3, 11] (fun t i => ∃ k : Nat, k ≤ 2 ∧ i = .int .i64 k ∧ t = .int .i64 ((two x y k).length : Nat)) (fun _ i => 2 - (intOf i).toNat)
  case atStart => exact ⟨0, by omega, rfl, rfl⟩
  case round =>
    obtain ⟨k, hk, rfl, rfl⟩ := hrel
    have h2 : k = 0 ∨ k = 1 ∨ k = 2 := by omega
    rcases h2 with rfl | rfl | rfl
    · have e0 : (two x y 0).length = 0 := rfl
      simp only [e0]
      go_wp2
      go_round
      case rel => exact ⟨1, by omega, by go_num, by simp [two, HXL.out]⟩
      case measure => simp [intOf]
    · have e0 : (two x y 1).length = xn := HXL.out
      simp only [e0]
      go_wp2
      go_round
      case rel => exact ⟨2, by omega, by go_num, by simp [two, HXL.out, HYL.out]⟩
      case measure => simp [intOf]
    · have e0 : (two x y 2).length = xn + yn := by simp [two, HXL.out, HYL.out]
      simp only [e0]
      go_wp2_with (first | (go_at_call 76; refine (hG.out _).mono ?_; rintro e w1 ⟨a1, c1', rfl, ho1, hf1⟩; have HO := hid ho1; have HF := hid hf1; clear ho1 hf1))
      go_loopw [6, 27] (fun v i wr => ∃ (k : Nat) (a : Option Addr) (c : Nat), k ≤ 2 ∧ i = .int .i64 k ∧ v = .slice a (two x y k).length c ∧ Ow w.heap.size wr a c (two x y k) ∧ Fr (fun _ => False) w wr) (fun _ i _ => 2 - (intOf i).toNat)
      case atStart => exact ⟨0, a1, c1', by omega, rfl, rfl, HO.out, HF.out⟩
      case round =>
        obtain ⟨k, a2, c2, hk, rfl, rfl, ho2, hf2⟩ := hrel
        have d0 : wr.cell? ⟨b, 0, none⟩ = some (.slice xa xn xc) := by rw [World.cell?_of_block (w := w) (w' := wr) (hf2.block b hb (fun h => h))]; exact c0
        have d1 : wr.cell? ⟨b, 1, none⟩ = some (.slice ya yn yc) := by rw [World.cell?_of_block (w := w) (w' := wr) (hf2.block b hb (fun h => h))]; exact c1
        have HX2 := hid (HX.out.kept hf2 (fun _ _ _ h => h))
        have HY2 := hid (HY.out.kept hf2 (fun _ _ _ h => h))
        have hsz := hf2.size
        have HO2 := hid ho2
        have HF2 := hid hf2
        clear ho2 hf2
        have h2 : k = 0 ∨ k = 1 ∨ k = 2 := by omega
        rcases h2 with rfl | rfl | rfl
        · have e0 : (two x y 0).length = 0 := rfl
          simp only [e0]
          go_wp2_with (first | (at_builtin; refine wpList_append_b _ rfl _ _ rfl w.heap.size a2 0 c2 [] rfl rfl HO2.out xa xn xc x rfl HX2.out (by omega) hsz ?_; intro a3 c3 w3 how3 hg3 hat3; have HO3 := hid how3; have HG3 := hid hg3; clear how3 hg3 hat3))
          go_round
          case rel => exact ⟨1, a3, c3, by omega, by go_num, by simp [two, HXL.out], HO3.out, HF2.out.trans (Fr.of_grown HG3.out) (fun i hi e => by have := (HO2.out.lt i e).1; omega)⟩
          case measure => simp [intOf]
        · have e0 : (two x y 1).length = xn := HXL.out
          simp only [e0]
          go_wp2_with (first | (at_builtin; refine wpList_append_b _ rfl _ _ rfl w.heap.size a2 xn c2 x rfl HXL.out HO2.out ya yn yc y rfl HY2.out (by omega) hsz ?_; intro a3 c3 w3 how3 hg3 hat3; have HO3 := hid how3; have HG3 := hid hg3; clear how3 hg3 hat3))
          go_round
          case rel => exact ⟨2, a3, c3, by omega, by go_num, by simp [two, HXL.out, HYL.out], HO3.out, HF2.out.trans (Fr.of_grown HG3.out) (fun i hi e => by have := (HO2.out.lt i e).1; omega)⟩
          case measure => simp [intOf]
        · have e0 : (two x y 2).length = xn + yn := by simp [two, HXL.out, HYL.out]
          simp only [e0]
          go_wp2
          go_ret
          exact ⟨a2, c2, rfl, HO2.out, HF2.out⟩

set_option maxHeartbeats 1600000 in
theorem fbytes_any (c : Cl) (w : World) (m : FM) (h : Fl c w m) (hbd : m.sf.length + m.tl.length ≤ K.cap) :
    Calls Try.prog 74 #[.pointer (some ⟨m.g, 0, none⟩)] w fun e w' => ∃ a c', e = .returned (.slice a m.f.all.length c') ∧ Ow w.heap.size w' a c' m.f.all ∧ Fr (fun _ => False) w w' := by
  have c0 := h.c0
  have c1 := h.c1
  have hlen : m.f.all.length = m.sf.length + m.tl.length := by simp [K.F.all, FM.f]
  rw [hlen]
  have HC := hid (fun (W : World) (b bc : Nat) (hf : Fr (fun _ => False) w W) k0 k1 => concat_any W b bc m.sa m.ta m.sf.length m.sc m.tl.length m.tc m.sf m.tl (h.so.sl.kept hf (fun _ _ _ h => h)) (h.to_.sl.kept hf (fun _ _ _ h => h)) k0 k1 hbd)
  obtain ⟨sl, hsl⟩ : ∃ sl, m.sf.length = sl := ⟨_, rfl⟩
  obtain ⟨tl, htl⟩ : ∃ tl, m.tl.length = tl := ⟨_, rfl⟩
  rw [hsl] at c0
  rw [htl] at c1
  rw [hsl, htl] at HC
  rw [hsl, htl]
  clear h hbd hlen hsl htl
  go_enter Try.func74, Try.ntmps74
  go_wp2
  go_region_held3 (fun w' => w'.cell? ⟨m.g, 0, none⟩ = some (.slice m.sa sl m.sc) ∧ w'.cell? ⟨m.g, 1, none⟩ = some (.slice m.ta tl m.tc)) (first | go_keep | exact s1)
    (first
      | (go_at_call 49; refine (HC.out _ _ _ (by first | exact Fr.alloc (Fr.refl _ _) _ | exact Fr.alloc (Fr.drew (Fr.refl _ _)) _ | exact Fr.alloc (Fr.drewN _ _) _) (by simp) (by simp)).mono ?_; rintro e w1 ⟨a1, c1', rfl, ho1, hf1⟩; have f1 : Fr (fun _ => False) w w1 := Fr.trans (by first | exact Fr.alloc (Fr.refl _ _) _ | exact Fr.alloc (Fr.drew (Fr.refl _ _)) _ | exact Fr.alloc (Fr.drewN _ _) _) hf1 (fun _ _ h => h); have s1 : w1.cell? ⟨m.g, 0, none⟩ = some (.slice m.sa sl m.sc) ∧ w1.cell? ⟨m.g, 1, none⟩ = some (.slice m.ta tl m.tc) := ⟨cell_fr f1 (fun h => h) c0, cell_fr f1 (fun h => h) c1⟩; have HO := hid ho1; have HF := hid f1; clear ho1 hf1 f1))
  all_goals go_wp2
  all_goals go_ret
  all_goals exact ⟨a1, c1', rfl, HO.out.base (fun k hk => by have := (HO.out.lt k hk).1; simp at this; omega), HF.out⟩

/-- what a clone's file is: new, and alone -/
structure Cn (c c' : Cl) (w w' : World) (m' : FM) (f : K.F) : Prop where
  fl : Fl c' w' m'
  f : m'.f = f
  fr : Fr (fun _ => False) w w'
  le : Cl.Le c c'
  lt : ∀ k, c' k ≠ none → k < w'.heap.size
  nw : ∀ k, c' k ≠ none → c k ≠ none ∨ w.heap.size ≤ k
  g : m'.g = w.heap.size

set_option maxHeartbeats 1600000 in
theorem fclone_any (c : Cl) (w : World) (m : FM) (h : Fl c w m) (hbd : m.sf.length + m.tl.length ≤ K.cap) (c2 : Cl) (hlt : ∀ k, c2 k ≠ none → k < w.heap.size) :
    Calls Try.prog 70 #[.pointer (some ⟨m.g, 0, none⟩)] w fun e w' => ∃ c' m', e = .returned (.pointer (some ⟨w.heap.size, 0, none⟩)) ∧ Cn c2 c' w w' m' m.f := by
  have c0 := h.c0
  have c1 := h.c1
  have hg := h.lt
  obtain ⟨w1, hw1⟩ : ∃ w1, w1 = w.alloc (.cells #[.slice none 0 0, .slice none 0 0] 99) := ⟨_, rfl⟩
  have f1 : Fr (fun _ => False) w w1 := by rw [hw1]; exact Fr.alloc (Fr.refl _ _) _
  have hs1 : w1.heap.size = w.heap.size + 1 := by rw [hw1]; simp
  have hle : Cl.Le c2 (c2.on (some ⟨w.heap.size, 0, none⟩) .file) := fun k hk => Cl.on_other _ (by have := hlt k hk; simp [blk]; omega) _
  have F0 : Fl (c2.on (some ⟨w.heap.size, 0, none⟩) .file) w1 ⟨w.heap.size, none, 0, [], none, 0, []⟩ := ⟨by rw [hw1]; exact Go.heap_alloc_new w _, Ow.nil _ _, Ow.nil _ _, Cl.on_same _ rfl _, by simp [blk], by simp [blk]⟩
  have hlt1 : ∀ k, (c2.on (some ⟨w.heap.size, 0, none⟩) .file) k ≠ none → k < w1.heap.size := by
    intro k hk
    rw [hs1]
    by_cases e : blk (some ⟨w.heap.size, 0, none⟩) = some k
    · simp [blk] at e; omega
    · rw [Cl.on_other _ e] at hk
      have := hlt k hk
      omega
  have hS := hid (fun (W : World) (hf : Fr (fun _ => False) w1 W) => fsave_any (c2.on (some ⟨w.heap.size, 0, none⟩) .file) W _ (F0.kept hf (fun _ _ h => h)) (lt_of_fr hf hlt1) m.sa m.sf.length m.sc m.sf ((h.so.sl.kept f1 (fun _ _ _ h => h)).kept hf (fun _ _ _ h => h)) (by show 0 + m.sf.length ≤ K.cap; omega))
  have HF := hid h
  have HB := hid hbd
  have HLE := hid hle
  have HLT := hid hlt
  have F1 := hid f1
  obtain ⟨sl, hsl⟩ : ∃ sl, m.sf.length = sl := ⟨_, rfl⟩
  obtain ⟨tl, htl⟩ : ∃ tl, m.tl.length = tl := ⟨_, rfl⟩
  rw [hsl] at c0 hS
  rw [htl] at c1
  have d0 : w1.cell? ⟨m.g, 0, none⟩ = some (.slice m.sa sl m.sc) := by rw [World.cell?_of_block (w := w) (w' := w1) (f1.block _ hg (fun h => h))]; exact c0
  have HTL := hid htl
  have HHS := hid hs1
  clear h hbd F0 hlt1 hle hlt hsl htl f1 hs1
  go_enter Try.func70, Try.ntmps70
  go_wp2
  rw [← hw1]
  clear hw1
  go_region_held3 (fun w' => w'.cell? ⟨m.g, 0, none⟩ = some (.slice m.sa sl m.sc)) (first | go_keep | exact s1)
    (first
      | (go_at_call 82; refine (hS.out _ (by first | exact Fr.refl _ _ | exact Fr.drew (Fr.refl _ _) | exact Fr.drewN _ _)).mono ?_; rintro e w2 ⟨⟨v, rfl⟩, c3, sa3, sc3, hfs⟩; have HFS := hid (FS.pre (w := w1) (by first | exact Fr.refl _ _ | exact Fr.drew (Fr.refl _ _) | exact Fr.drewN _ _) hfs); clear hfs; have fw := hid (F1.out.trans HFS.out.fr (fun i hi e => by rcases e with e | e | e <;> first | (simp at e; omega) | (simp [blk] at e))); have s1 : w2.cell? ⟨m.g, 0, none⟩ = some (.slice m.sa sl m.sc) := (by rw [World.cell?_of_block (w := w) (w' := w2) (fw.out.block _ hg (fun h => h))]; exact c0)))
  have s2 : w2.cell? ⟨m.g, 1, none⟩ = some (.slice m.ta tl m.tc) := by rw [World.cell?_of_block (w := w) (w' := w2) (fw.out.block _ hg (fun h => h))]; exact c1
  have hP := hid (fput_any c3 w2 _ HFS.out.fl HFS.out.lt m.ta m.tl.length m.tc m.tl (HF.out.to_.sl.kept fw.out (fun _ _ _ h => h)) (by show 0 + m.tl.length ≤ K.cap; have := HB.out; omega))
  rw [HTL.out] at hP
  go_wp2_with (first | (go_at_call 65; refine hP.out.mono ?_; rintro e w4 ⟨⟨v4, rfl⟩, c4, ta4, tc4, hfs4⟩; have HFS4 := hid (HFS.out.trans hfs4); clear hfs4))
  go_ret
  have hlt2 : ∀ k, (c2.on (some ⟨w.heap.size, 0, none⟩) Col.file) k ≠ none → c2 k ≠ none ∨ w.heap.size ≤ k := by
    intro k hk
    by_cases e : blk (some ⟨w.heap.size, 0, none⟩) = some k
    · right; simp [blk] at e; omega
    · rw [Cl.on_other _ e] at hk
      exact .inl hk
  refine ⟨c4, _, rfl, HFS4.out.fl, by simp [FM.f], F1.out.trans HFS4.out.fr (fun i hi e => by rcases e with e | e | e <;> first | (simp at e; omega) | (simp [blk] at e)), HLE.out.trans HFS4.out.le, HFS4.out.lt, fun k hk => ?_, rfl⟩
  rcases HFS4.out.nw k hk with h1 | h1
  · exact hlt2 k h1
  · right
    rw [HHS.out] at h1
    omega

end Go.Proofs.Ytogdjhhabcejgaa
