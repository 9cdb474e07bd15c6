/-
  The contracts of a file: sync, tear.
  The contracts of slices.Grow, slices.Concat, and of a file: bytes, clone.
-/
import Derived.Test.YtogdjhhabcejgaaGreatKFile
import Derived.Lib.AppendZeros
namespace Go.Proofs.YtogdjhhabcejgaaGreat
open Go.RowKit Go.Maps
set_option linter.unusedVariables false

theorem FS.pre {c c' : Cl} {w W w' : World} {m m' : FM} (hf : Fr (fun _ => False) w W) (h : FS c c' W w' m m') : FS c c' w w' m m' where
  fl := h.fl
  g := h.g
  fr := (hf.mono (fun _ _ h => h.elim)).trans h.fr (fun _ _ h => h)
  le := h.le
  lt := h.lt
  nw := fun k hk => (h.nw k hk).imp id (Nat.le_trans hf.size)
  own := fun k hk => (h.own k hk).imp id (Nat.le_trans hf.size)
theorem lt_of_fr {c : Cl} {w W : World} (hf : Fr (fun _ => False) w W) (h : ∀ k, c k ≠ none → k < w.heap.size) : ∀ k, c k ≠ none → k < W.heap.size := fun k hk => Nat.lt_of_lt_of_le (h k hk) hf.size

set_option maxHeartbeats 800000 in
theorem fsync_any (c : Cl) (w : World) (m : FM) (h : Fl c w m) (hlt : ∀ k, c k ≠ none → k < w.heap.size) (hbd : m.sf.length + m.tl.length ≤ K.cap) :
    Calls Tryz.prog 61 #[.pointer (some ⟨m.g, 0, none⟩)] w fun e w' => (∃ v, e = .returned v) ∧ ∃ c' m', FS c c' w w' m m' ∧ m'.f = ⟨m.sf ++ m.tl, []⟩ := by
  have c1 := h.c1
  have HK := hid (fun (W : World) (hf : Fr (fun _ => False) w W) => fsave_any c W m (h.kept hf (fun _ _ h => h)) (lt_of_fr hf hlt) m.ta m.tl.length m.tc m.tl ((h.to_.sl).kept hf (fun _ _ _ h => h)) hbd)
  have HF := hid h
  clear h hbd hlt
  obtain ⟨tl, htl⟩ : ∃ tl, m.tl.length = tl := ⟨_, rfl⟩
  have HT := hid htl
  rw [htl] at c1 HK
  clear htl
  go_enter Tryz.func61, Tryz.ntmps61
  go_wp2
  go_region_held3 (fun w' => w'.cell? ⟨m.g, 1, none⟩ = some (.slice m.ta tl m.tc)) (first | go_keep | exact s1)
    (first
      | (go_at_call 90; refine (HK.out _ (by first | exact Fr.refl _ _ | exact Fr.drew (Fr.refl _ _) | exact Fr.drewN _ _)).mono ?_; rintro e w1 ⟨⟨v, rfl⟩, c', sa, sc, hfs⟩; have s1 : w1.cell? ⟨m.g, 1, none⟩ = some (.slice m.ta tl m.tc) := (by have := hfs.fl.c1; simp only [HT.out] at this; exact this); have s2 : w1.frozen? ⟨m.g, 1, none⟩ = false := hfs.fl.fz 1; have HS := hid hfs; clear hfs))
  go_wp2
  go_end0
  refine ⟨⟨_, rfl⟩, c', _, (FS.pre ?_ HS.out).trans (HS.out.fl.set_tail HS.out.lt (Ow.nil 0 _) (by simp [blk])), rfl⟩
  first | exact Fr.refl _ _ | exact Fr.drew (Fr.refl _ _) | exact Fr.drewN _ _

set_option maxHeartbeats 1600000 in
theorem ftear_any (c : Cl) (w : World) (m : FM) (h : Fl c w m) (hlt : ∀ k, c k ≠ none → k < w.heap.size) (hbd : m.sf.length + m.tl.length ≤ K.cap) (keep : Int) (hk0 : 0 ≤ keep) (hk1 : keep ≤ 9223372036854775807) :
    Calls Tryz.prog 79 #[.pointer (some ⟨m.g, 0, none⟩), .int .i64 keep] w fun e w' => (∃ v, e = .returned v) ∧ ∃ c' m', FS c c' w w' m m' ∧ m'.f = K.tear keep m.f := by
  have c1 := h.c1
  have f1 := h.fz 1
  have hlen := h.to_.len
  obtain ⟨t, ht⟩ : ∃ t, m.tl.take keep.toNat = t := ⟨_, rfl⟩
  have htl : t.length = min keep.toNat m.tl.length := by rw [← ht, List.length_take]
  have hst := h.set_tail hlt (h.to_.take keep.toNat) (fun _ h => h)
  rw [ht] at hst
  have HS := hid hst
  have hbd' : m.sf.length + t.length ≤ K.cap := by omega
  have HK := hid (fun (W : World) (hf : Fr (fun _ => False) (w.setCell ⟨m.g, 1, none⟩ (.slice m.ta t.length m.tc)) W) => fsync_any c W { m with tl := t } (hst.fl.kept hf (fun _ _ h => h)) (lt_of_fr hf hst.lt) hbd')
  have hmin : (if (m.tl.length : Int) < keep then (m.tl.length : Int) else keep) = (t.length : Int) := by rw [htl]; split <;> omega
  have htc : t.length ≤ m.tc := by omega
  have hcut := fun W => run_cut_hi' W m.ta m.tl.length m.tc t.length htc _ rfl
  have HT := hid ht
  obtain ⟨tl, htl'⟩ : ∃ tl, m.tl.length = tl := ⟨_, rfl⟩
  obtain ⟨n, hn⟩ : ∃ n, t.length = n := ⟨_, rfl⟩
  rw [htl'] at c1 hcut hmin
  rw [hn] at hcut hmin HK HS
  clear h hst hlt hbd hbd' ht htl hlen htc hn htl'
  go_enter Tryz.func79, Tryz.ntmps79
  go_wp2
  go_region
  all_goals go_wp2_with (first | (go_at_call 61; refine (HK.out _ (by first | exact Fr.refl _ _ | exact Fr.drew (Fr.refl _ _) | exact Fr.drewN _ _)).mono ?_; rintro e w1 ⟨⟨v, rfl⟩, c', m', hfs, hm⟩; have HS2 := hid hfs; have HM := hid hm; clear hfs hm))
  all_goals go_end0
  all_goals refine ⟨⟨_, rfl⟩, c', m', HS.out.trans (FS.pre ?_ HS2.out), HM.out.trans (by simp [K.tear, FM.f, HT.out])⟩
  all_goals first | exact Fr.refl _ _ | exact Fr.drew (Fr.refl _ _) | exact Fr.drewN _ _

end Go.Proofs.YtogdjhhabcejgaaGreat

namespace Go.Proofs.YtogdjhhabcejgaaGreat
open Go.RowKit Go.Maps
set_option linter.unusedVariables false

theorem cell_fr {S : Nat → Prop} {w w' : World} (hf : Fr S w w') {b j : Nat} (hS : ¬ S b) {v : Value} (hc : w.cell? ⟨b, j, none⟩ = some v) : w'.cell? ⟨b, j, none⟩ = some v := by
  rw [World.cell?_of_block (w := w) (w' := w') (hf.block b (World.block_lt_of_cell? w _ hc) hS)]; exact hc

set_option maxHeartbeats 800000 in
set_option maxRecDepth 20000 in
theorem grow_any (n : Nat) (hn : n ≤ K.cap) (w : World) :
    Calls Tryz.prog 111 #[.slice none 0 0, .int .i64 n] w fun e w' => ∃ a c, e = .returned (.slice a 0 c) ∧ Ow w.heap.size w' a c [] ∧ Fr (fun _ => False) w w' := by
  unfold K.cap at hn
  by_cases h0 : n = 0
  · subst h0
    go_enter Tryz.func111, Tryz.ntmps111
    go_wp2
    go_ret
    exact ⟨_, _, rfl, Ow.nil _ _, Fr.refl _ _⟩
  · obtain ⟨i0, hi, hz0, hz1, hz2⟩ := info_parts info5
    have h63 : (n : Int) ≤ 9223372036854775807 := by omega
    have hr := fun ty => Lib.run_append_nil_zeros (P := Tryz.prog) w 31 3 ty 5 i0 (.int .u8 0) .i64 .i64 Tryz.underlying31 Tryz.underlying3 hi hz0 n (by omega) (by rw [hz1]; exact Nat.one_pos) h63 (by rw [hz2]; omega)
    have hgc : grownCap w n 0 5 ≤ maxLen := grownCap_le_maxLen w n 0 5 (by unfold maxLen; omega)
    obtain ⟨gc, hgc'⟩ : ∃ gc, grownCap w n 0 5 = gc := ⟨_, rfl⟩
    rw [hgc'] at hgc
    rw [hgc'] at hr
    have hpos : 0 < (n : Int) := by omega
    have HR := hid hr
    have hcut1 := run_cut_hi' w none 0 0 0 (Nat.le_refl _) 0 rfl
    clear hr hgc' hi hz0 hz1 hz2
    have hcut2 := fun W => run_cut_hi' W (some ⟨w.heap.size, 0, none⟩) n gc 0 (Nat.zero_le _) 0 rfl
    go_enter Tryz.func111, Tryz.ntmps111
    go_wp2_with (first | (at_builtin; refine Lib.wpList_append_run _ rfl _ _ _ _ rfl _ _ rfl rfl _ _ (HR.out _) ?_))
    go_ret
    refine ⟨_, _, rfl, .inr ⟨w.heap.size, _, _, rfl, Nat.le_refl _, Go.heap_alloc_new w.drew _, Nat.zero_le _, ?_, hgc, by simp⟩, Fr.alloc (Fr.drew (Fr.refl _ _)) _⟩
    simp only [Array.size_append, size_zeroCells]
    simp only [List.size_toArray, List.length_cons, List.length_nil]
    omega

/-- what the first k of two slices have -/
def two (x y : List UInt8) : Nat → List UInt8
  | 0 => []
  | 1 => x
  | _ => x ++ y

set_option maxHeartbeats 1600000 in
theorem concat_any (w : World) (b bc : Nat) (xa ya : Option Addr) (xn xc yn yc : Nat) (x y : List UInt8) (hx : Sl w xa xn x) (hy : Sl w ya yn y) (c0 : w.cell? ⟨b, 0, none⟩ = some (.slice xa xn xc)) (c1 : w.cell? ⟨b, 1, none⟩ = some (.slice ya yn yc)) (hbd : xn + yn ≤ K.cap) :
    Calls Tryz.prog 85 #[.slice (some ⟨b, 0, none⟩) 2 bc] w fun e w' => ∃ a c, e = .returned (.slice a (xn + yn) c) ∧ Ow w.heap.size w' a c (x ++ y) ∧ Fr (fun _ => False) w w' := by
  have hxl := hx.1
  have hyl := hy.1
  have HX := hid hx
  have HY := hid hy
  have HXL := hid hxl
  have HYL := hid hyl
  unfold K.cap at hbd
  have hb := World.block_lt_of_cell? w _ c0
  have hG := hid (fun W => grow_any (xn + yn) hbd W)
  clear hx hy hxl hyl
  go_enter Tryz.func85, Tryz.ntmps85
  go_wp2
  go_loop [3, 11] (fun t i => ∃ k : Nat, k ≤ 2 ∧ i = .int .i64 k ∧ t = .int .i64 ((two x y k).length : Nat)) (fun _ i => 2 - (intOf i).toNat)
  case atStart => exact ⟨0, by omega, rfl, rfl⟩
  case round =>
    obtain ⟨k, hk, rfl, rfl⟩ := hrel
    have h2 : k = 0 ∨ k = 1 ∨ k = 2 := by omega
    rcases h2 with rfl | rfl | rfl
    · have e0 : (two x y 0).length = 0 := rfl
      simp only [e0]
      go_wp2
      go_round
      case rel => exact ⟨1, by omega, by go_num, by simp [two, HXL.out]⟩
      case measure => simp [intOf]
    · have e0 : (two x y 1).length = xn := HXL.out
      simp only [e0]
      go_wp2
      go_round
      case rel => exact ⟨2, by omega, by go_num, by simp [two, HXL.out, HYL.out]⟩
      case measure => simp [intOf]
    · have e0 : (two x y 2).length = xn + yn := by simp [two, HXL.out, HYL.out]
      simp only [e0]
      go_wp2_with (first | (go_at_call 111; refine (hG.out _).mono ?_; rintro e w1 ⟨a1, c1', rfl, ho1, hf1⟩; have HO := hid ho1; have HF := hid hf1; clear ho1 hf1))
      go_loopw [6, 27] (fun v i wr => ∃ (k : Nat) (a : Option Addr) (c : Nat), k ≤ 2 ∧ i = .int .i64 k ∧ v = .slice a (two x y k).length c ∧ Ow w.heap.size wr a c (two x y k) ∧ Fr (fun _ => False) w wr) (fun _ i _ => 2 - (intOf i).toNat)
      case atStart => exact ⟨0, a1, c1', by omega, rfl, rfl, HO.out, HF.out⟩
      case round =>
        obtain ⟨k, a2, c2, hk, rfl, rfl, ho2, hf2⟩ := hrel
        have d0 : wr.cell? ⟨b, 0, none⟩ = some (.slice xa xn xc) := by rw [World.cell?_of_block (w := w) (w' := wr) (hf2.block b hb (fun h => h))]; exact c0
        have d1 : wr.cell? ⟨b, 1, none⟩ = some (.slice ya yn yc) := by rw [World.cell?_of_block (w := w) (w' := wr) (hf2.block b hb (fun h => h))]; exact c1
        have HX2 := hid (HX.out.kept hf2 (fun _ _ _ h => h))
        have HY2 := hid (HY.out.kept hf2 (fun _ _ _ h => h))
        have hsz := hf2.size
        have HO2 := hid ho2
        have HF2 := hid hf2
        clear ho2 hf2
        have h2 : k = 0 ∨ k = 1 ∨ k = 2 := by omega
        rcases h2 with rfl | rfl | rfl
        · have e0 : (two x y 0).length = 0 := rfl
          simp only [e0]
          go_wp2_with (first | (at_builtin; refine wpList_append_b _ rfl _ _ rfl w.heap.size a2 0 c2 [] rfl rfl HO2.out xa xn xc x rfl HX2.out (by omega) hsz ?_; intro a3 c3 w3 how3 hg3 hat3; have HO3 := hid how3; have HG3 := hid hg3; clear how3 hg3 hat3))
          go_round
          case rel => exact ⟨1, a3, c3, by omega, by go_num, by simp [two, HXL.out], HO3.out, HF2.out.trans (Fr.of_grown HG3.out) (fun i hi e => by have := (HO2.out.lt i e).1; omega)⟩
          case measure => simp [intOf]
        · have e0 : (two x y 1).length = xn := HXL.out
          simp only [e0]
          go_wp2_with (first | (at_builtin; refine wpList_append_b _ rfl _ _ rfl w.heap.size a2 xn c2 x rfl HXL.out HO2.out ya yn yc y rfl HY2.out (by omega) hsz ?_; intro a3 c3 w3 how3 hg3 hat3; have HO3 := hid how3; have HG3 := hid hg3; clear how3 hg3 hat3))
          go_round
          case rel => exact ⟨2, a3, c3, by omega, by go_num, by simp [two, HXL.out, HYL.out], HO3.out, HF2.out.trans (Fr.of_grown HG3.out) (fun i hi e => by have := (HO2.out.lt i e).1; omega)⟩
          case measure => simp [intOf]
        · have e0 : (two x y 2).length = xn + yn := by simp [two, HXL.out, HYL.out]
          simp only [e0]
          go_wp2
          go_ret
          exact ⟨a2, c2, rfl, HO2.out, HF2.out⟩

set_option maxHeartbeats 1600000 in
theorem fbytes_any (c : Cl) (w : World) (m : FM) (h : Fl c w m) (hbd : m.sf.length + m.tl.length ≤ K.cap) :
    Calls Tryz.prog 63 #[.pointer (some ⟨m.g, 0, none⟩)] w fun e w' => ∃ a c', e = .returned (.slice a m.f.all.length c') ∧ Ow w.heap.size w' a c' m.f.all ∧ Fr (fun _ => False) w w' := by
  have c0 := h.c0
  have c1 := h.c1
  have hlen : m.f.all.length = m.sf.length + m.tl.length := by simp [K.F.all, FM.f]
  rw [hlen]
  have HC := hid (fun (W : World) (b bc : Nat) (hf : Fr (fun _ => False) w W) k0 k1 => concat_any W b bc m.sa m.ta m.sf.length m.sc m.tl.length m.tc m.sf m.tl (h.so.sl.kept hf (fun _ _ _ h => h)) (h.to_.sl.kept hf (fun _ _ _ h => h)) k0 k1 hbd)
  obtain ⟨sl, hsl⟩ : ∃ sl, m.sf.length = sl := ⟨_, rfl⟩
  obtain ⟨tl, htl⟩ : ∃ tl, m.tl.length = tl := ⟨_, rfl⟩
  rw [hsl] at c0
  rw [htl] at c1
  rw [hsl, htl] at HC
  rw [hsl, htl]
  clear h hbd hlen hsl htl
  go_enter Tryz.func63, Tryz.ntmps63
  go_wp2
  go_region_held3 (fun w' => w'.cell? ⟨m.g, 0, none⟩ = some (.slice m.sa sl m.sc) ∧ w'.cell? ⟨m.g, 1, none⟩ = some (.slice m.ta tl m.tc)) (first | go_keep | exact s1)
    (first
      | (go_at_call 85; refine (HC.out _ _ _ (by first | exact Fr.alloc (Fr.refl _ _) _ | exact Fr.alloc (Fr.drew (Fr.refl _ _)) _ | exact Fr.alloc (Fr.drewN _ _) _) (by simp) (by simp)).mono ?_; rintro e w1 ⟨a1, c1', rfl, ho1, hf1⟩; have f1 : Fr (fun _ => False) w w1 := Fr.trans (by first | exact Fr.alloc (Fr.refl _ _) _ | exact Fr.alloc (Fr.drew (Fr.refl _ _)) _ | exact Fr.alloc (Fr.drewN _ _) _) hf1 (fun _ _ h => h); have s1 : w1.cell? ⟨m.g, 0, none⟩ = some (.slice m.sa sl m.sc) ∧ w1.cell? ⟨m.g, 1, none⟩ = some (.slice m.ta tl m.tc) := ⟨cell_fr f1 (fun h => h) c0, cell_fr f1 (fun h => h) c1⟩; have HO := hid ho1; have HF := hid f1; clear ho1 hf1 f1))
  all_goals go_wp2
  all_goals go_ret
  all_goals exact ⟨a1, c1', rfl, HO.out.base (fun k hk => by have := (HO.out.lt k hk).1; simp at this; omega), HF.out⟩

/-- what a clone's file is: new, and alone -/
structure Cn (c c' : Cl) (w w' : World) (m' : FM) (f : K.F) : Prop where
  fl : Fl c' w' m'
  f : m'.f = f
  fr : Fr (fun _ => False) w w'
  le : Cl.Le c c'
  lt : ∀ k, c' k ≠ none → k < w'.heap.size
  nw : ∀ k, c' k ≠ none → c k ≠ none ∨ w.heap.size ≤ k
  g : m'.g = w.heap.size

end Go.Proofs.YtogdjhhabcejgaaGreat
