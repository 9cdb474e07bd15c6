/-
  The document's acceptor: put. (gen/gen_rput.py)
-/
import Derived.Test.YtedhmhlhjonloaaARef2
namespace Go.Proofs.Ytedhmhlhjonloaa
open Go.RowKit Go.Maps
set_option linter.unusedVariables false
set_option linter.unusedSimpArgs false

theorem A.up_drop {α : Type} {l : List (Int × α)} (h : A.Up l) {k : Nat} {p : Int × α} (hp : l[k]? = some p) : ∀ r ∈ l.drop (k + 1), p.1 < r.1 := fun r hr => by
  have h1 : A.Up (l.drop k) := List.Pairwise.sublist (List.drop_sublist _ _) h
  rw [List.drop_eq_getElem_cons (List.getElem?_eq_some_iff.1 hp).1, (List.getElem?_eq_some_iff.1 hp).2] at h1
  unfold A.Up at h1
  rw [List.pairwise_cons] at h1
  exact h1.1 r hr
/-- what put leaves -/
theorem Rf.put_done {I : Nat → Prop} {w V W4 : World} {q gx : Nat} {ra : Option Addr} {rc : Nat} {xs : List El} {a : A.Ac} (h : Rf I w q ra rc xs a) (hI : ∀ k, I k → k < w.heap.size) (hq : q < w.heap.size) (hgx : w.heap.size = gx) {cs' : Array Value} {s : A.Sd} {k j : Nat} {oa : Option Addr} {oc : Nat}
    (hk : k ≤ xs.length) (hjn : j ≤ xs.length) (hj : j = k ∨ (j = k + 1 ∧ ∃ x, xs[k]? = some x ∧ x.2.slot = s.slot)) (h1 : ∀ x ∈ xs.take k, x.2.slot < s.slot) (h2 : ∀ x ∈ xs.drop j, s.slot < x.2.slot)
    (hV : Fr (fun _ => False) w V) (hcl : Rs (fun g => gx + 1 ≤ g ∧ g < V.heap.size) V cs' s) (hf : Fr (fun k => k = q) V W4) (hro : Ro W4 79 59 oa (k + 1 + (xs.length - j)) oc (flatE (xs.take k) ++ cs'.toList ++ flatE (xs.drop j))) (hnew : ∀ k, blk oa = some k → V.heap.size ≤ k)
    (hat : W4.heap[q]? = some (.cells #[.int .i64 a.pr.1, .int .i64 a.pr.2, .int .i64 a.fs, .slice oa (k + 1 + (xs.length - j)) oc] 30 (0, 0))) :
    Rg (Nw I w W4) W4 q (A.keep a s) ∧ Fr (fun k => k = q) w W4 := by
  have f4 : Fr (fun k => k = q) w W4 := (hV.mono (fun _ _ h => h.elim)).trans hf (fun _ _ h => h)
  have s1 := hV.size
  have s2 := hf.size
  have hlen : (xs.take k ++ (cs', s) :: xs.drop j).length = k + 1 + (xs.length - j) := by
    simp only [List.length_append, List.length_cons, List.length_take, List.length_drop]
    omega
  refine ⟨⟨fun i hi => ?_, by omega, oa, oc, xs.take k ++ (cs', s) :: xs.drop j, ⟨?_, ⟨?_, fun x hx => ?_⟩, ?_, ?_, h.up.put _ _, ?_⟩⟩, f4⟩
  · rcases hi with hi | hi
    · have := hI i hi; omega
    · exact hi.2
  · rw [hlen]; exact hat
  · rw [hlen]
    refine Rw.of_ro ?_ (fun g hg => .inr ⟨by have := hnew g hg; omega, hro.lt g hg⟩) (e := 79) (c := oc)
    have e : flatE (xs.take k ++ (cs', s) :: xs.drop j) = flatE (xs.take k) ++ cs'.toList ++ flatE (xs.drop j) := by
      rw [flatE_append, show (cs', s) :: xs.drop j = [(cs', s)] ++ xs.drop j from rfl, flatE_append, flatE_one, List.append_assoc]
    rw [e]; exact hro
  · have old : ∀ y ∈ xs, Rs (Nw I w W4) W4 y.1 y.2 := fun y hy => ((h.ls.el y hy).kept f4 (fun i hi e => h.nq (e ▸ hi))).mono (fun i hi => .inl hi)
    rcases List.mem_append.1 hx with hx | hx
    · exact old x (List.mem_of_mem_take hx)
    · rcases List.mem_cons.1 hx with rfl | hx
      · exact (hcl.kept hf (fun i hi e => by omega)).mono (fun i hi => .inr ⟨by omega, by omega⟩)
      · exact old x (List.mem_of_mem_drop hx)
  · rw [hlen]; exact hro.le.1
  · show _ = A.put s.slot s a.l
    have hl := h.l
    rw [← A.put_split h.up (i := k) (j := j) (k := s.slot) (v := s) ?_ ?_ ?_]
    · rw [← hl, List.map_append, List.map_cons, List.map_take, List.map_drop]
    · intro p hp
      rw [← hl, ← List.map_take] at hp
      obtain ⟨x, hx, rfl⟩ := List.mem_map.1 hp
      exact h1 x hx
    · intro p hp
      rw [← hl, ← List.map_drop] at hp
      obtain ⟨x, hx, rfl⟩ := List.mem_map.1 hp
      exact h2 x hx
    · rcases hj with hj | ⟨hj, x, hx, hs⟩
      · exact .inl hj
      · exact .inr ⟨hj, (x.2.slot, x.2), by rw [← hl, List.getElem?_map, hx]; rfl, hs⟩
  · rintro (hi | hi)
    · exact h.nq hi
    · omega
set_option maxHeartbeats 6400000 in
set_option maxRecDepth 20000 in
theorem rput_any {I J : Nat → Prop} {w : World} {q : Nat} {ra : Option Addr} {rc : Nat} {xs : List El} {a : A.Ac} (h : Rf I w q ra rc xs a) (hI : ∀ k, I k → k < w.heap.size) (hq : q < w.heap.size) (hl : xs.length ≤ 300000000000) {cs : Array Value} {s : A.Sd} (hs : Rs J w cs s) :
    Calls Try.prog 49 #[ptrV q, .agg cs] w fun e w' => e = .returned (.tuple #[]) ∧ Rg (Nw I w w') w' q (A.keep a s) ∧ Fr (fun k => k = q) w w' := by
  have hz := hs.size
  obtain ⟨n, hn⟩ : ∃ n, xs.length = n := ⟨_, rfl⟩
  obtain ⟨gx, hgx⟩ : ∃ gx, w.heap.size = gx := ⟨_, rfl⟩
  have f0 : Fr (fun _ => False) w (w.alloc (.cells cs 79)) := Fr.alloc (Fr.refl _ _) _
  have b0 : (w.alloc (.cells cs 79)).heap[gx]? = some (.cells cs 79 (0, 0)) := by rw [← hgx]; exact Go.heap_alloc_new w _
  obtain ⟨ec, hcs, hre, hlx⟩ := Lx.of (w := w.alloc (.cells cs 79)) (g := gx) (o := 0) (hs.kept f0 (fun _ _ h => h)) (fun j u hu => by rw [Nat.zero_add]; exact cellA b0 hu)
  have ld : (Instr.loadAt 46 (.pointer (some ⟨gx, 3, none⟩))).run Try.prog (w.alloc (.cells cs 79)) = .ok (.agg ec.toArray) (w.alloc (.cells cs 79)) := by have := hlx.le; rwa [Nat.zero_add] at this
  have KC := hid (rclone_any hre)
  have LD := hid ld
  have HCS := hid hcs
  have F0 := hid f0
  have B0 := hid b0
  have HH := hid h
  have HN := hid hn
  have HI := hid hI
  have HQ := hid hq
  have HGX := hid hgx
  have HZ := hid hz
  rw [hn] at hl
  clear hcs hre hlx ld f0 b0 h hn hI hs hq
  subst hgx
  generalize ec.toArray = eca at KC LD
  go_enter Try.func49, Try.ntmps49
  go_wp2_with (first
    | (refine wpList_load_v LD.out (by exact ⟨_, rfl, rfl⟩) (by kernel_rfl) ?_))
  refine KC.out.mono ?_
  rintro e w1 ⟨ec', rfl, re', f1⟩
  have b1 := f1.cells B0.out (fun h => h)
  obtain ⟨hok', hsz', hone', hpp⟩ := re'.parts
  clear hok' hpp
  obtain ⟨V, st, hbV, fV⟩ := box_part (ty' := 46) (o := 3) (c := ec'.toArray) b1 (by rw [hsz', HZ.out]) (by rw [hsz']; kernel_rfl) hone'
  obtain ⟨cs', hcs'⟩ : ∃ x, (Value.int .i64 s.slot :: .int .i64 s.bl.1 :: .int .i64 s.bl.2 :: ec').toArray = x := ⟨_, rfl⟩
  have hb2 : V.heap[w.heap.size]? = some (.cells cs' 79 (0, 0)) := by
    rw [hbV, ← hcs', HCS.out]
    rfl
  have fA : Fr (fun _ => False) w V := (F0.out.trans f1 (fun _ _ h => h)).trans fV (fun i hi e => by omega)
  have hrs : Rs (fun g => w.heap.size + 1 ≤ g ∧ g < V.heap.size) V cs' s := by
    have h3 := fV.size
    refine ⟨ec', hcs'.symm, (re'.kept fV (fun i hi e => ?_)).mono (fun i hi => ?_)⟩
    · have := hi.1; rw [World.size_alloc] at this; omega
    · have := hi.1; rw [World.size_alloc] at this; omega
  have c0 : cs'[0]? = some (.int .i64 s.slot) := by rw [← hcs']; rfl
  have ST := hid st
  have HB2 := hid hb2
  have FA := hid fA
  have HRS := hid hrs
  have C0 := hid c0
  have hzs := hrs.size
  have HV := hid (HH.out.kept fA (fun h => h) (fun _ _ h => h))
  have HVQ := hid (show w.heap.size < V.heap.size from lt_of_row hb2)
  clear re' f1 b1 hsz' hone' st hbV fV hcs' hb2 fA hrs c0
  go_wp2_with (first
    | (refine wpList_store_v ST.out (by exact ⟨_, _, rfl, rfl, rfl⟩) (by kernel_rfl) ?_))
  go_loopw [4, 5] (fun o i wr => ∃ (k : Nat) (oa : Option Addr) (oc : Nat), k ≤ n ∧ i = .int .i64 k ∧ o = .slice oa k oc ∧ Hid ((∀ x ∈ xs.take k, x.2.slot < s.slot) ∧ Ro wr 79 59 oa k oc (flatE (xs.take k)) ∧ (∀ j, blk oa = some j → V.heap.size ≤ j) ∧ Fr (fun _ => False) V wr))
    (fun _ i _ => n - (intOf i).toNat)
  case atStart => exact ⟨0, none, 0, Nat.zero_le _, rfl, rfl, hid ⟨by simp, Ro.nil _ _ _, by simp [blk], Fr.refl _ _⟩⟩
  case round =>
    obtain ⟨k, oa, oc, hk, rfl, rfl, hall⟩ := hrel
    have frd : Fr (fun _ => False) V wr.drew := Fr.drew hall.out.2.2.2
    have hW := HV.out.kept hall.out.2.2.2 (fun h => h) (fun _ _ h => h)
    have hWd := HV.out.kept frd (fun h => h) (fun _ _ h => h)
    have c3 : wr.cell? ⟨q, 3, none⟩ = some (.slice ra n rc) := cellA hW.at_ (by rw [← HN.out]; rfl)
    have cx : wr.cell? ⟨w.heap.size, 0, none⟩ = some (.int .i64 s.slot) := cellA (hall.out.2.2.2.cells HB2.out (fun h => h)) C0.out
    have rod := hall.out.2.1.kept (Fr.drew (Fr.refl (fun _ => False) wr)) (fun _ _ h => h)
    have i0 : (0 : Int) ≤ (k : Int) := by omega
    have HWD := hid hWd
    have FRD := hid frd
    have ROD := hid rod
    by_cases hlt : k < n
    · obtain ⟨x, hx⟩ : ∃ x, xs[k]? = some x := ⟨_, List.getElem?_eq_getElem (by rw [HN.out]; exact hlt)⟩
      obtain ⟨g, o, rfl⟩ := hW.ls.some_of (by rw [HN.out]; omega)
      obtain ⟨hc0, _, _⟩ := hW.ls.whole hx
      obtain ⟨_, hld, hrx⟩ := hWd.ls.whole hx
      have i1 : (k : Int) < (n : Int) := by omega
      have htk : xs.take (k + 1) = xs.take k ++ [x] := by rw [List.take_add_one, hx]; rfl
      have HX := hid hx
      clear hW hWd frd rod
      by_cases hcmp : x.2.slot < s.slot
      · obtain ⟨ycs, ysd⟩ := x
        simp only at hc0 hld hrx hcmp htk
        obtain ⟨a', c', W2, hr, hro, hf2, hn2⟩ := sd_append wr.drew oa oc k _ ROD.out (by omega) ycs hrx.size hrx.ones
        have hfo : Array.foldl (fun (cs : Array Value) x => cs.setIfInBounds x.2 x.1) zS59 ycs.zipIdx 0 59 = ycs := fold_set0 59 ycs zS59 hrx.size rfl
        have hr2 := hr
        rw [← hfo] at hr2
        have R2 := hid hr2
        have hz2 := hrx.size
        have LD2 := hid hld
        have fin : (∀ x ∈ xs.take (k + 1), x.2.slot < s.slot) ∧ Ro W2 79 59 a' (k + 1) c' (flatE (xs.take (k + 1))) ∧ (∀ j, blk a' = some j → V.heap.size ≤ j) ∧ Fr (fun _ => False) V W2 := by
          have hnew := hall.out.2.2.1
          have hs := FRD.out.size
          rw [htk]
          refine ⟨fun y hy => ?_, ?_, fun j hj => ?_, FRD.out.trans hf2 (fun i hi e => by have := hnew i e; omega)⟩
          · rcases List.mem_append.1 hy with hy | hy
            · exact hall.out.1 y hy
            · simp at hy; rw [hy]; exact hcmp
          · rw [flatE_append, flatE_one]; exact hro
          · rcases hn2 j hj with h1 | h1
            · exact hnew j h1
            · omega
        have FIN := hid fin
        have S1 := hid (show wr.drew.cell? ⟨q, 3, none⟩ = some (.slice (some ⟨g, o, none⟩) n rc) ∧ wr.drew.cell? ⟨g, o + k * 59, none⟩ = some (.int .i64 ysd.slot) ∧ wr.drew.cell? ⟨w.heap.size, 0, none⟩ = some (.int .i64 s.slot) from ⟨c3, hc0, cx⟩)
        clear hld hrx hr hro hf2 hn2 hfo hr2 fin htk HWD HX
        go_wp2
        go_region_held3 (fun W => W.cell? ⟨q, 3, none⟩ = some (.slice (some ⟨g, o, none⟩) n rc) ∧ W.cell? ⟨g, o + k * 59, none⟩ = some (.int .i64 ysd.slot) ∧ W.cell? ⟨w.heap.size, 0, none⟩ = some (.int .i64 s.slot)) (exact S1.out) (fail)
        go_wp2_with (first
          | (refine wpList_load_v LD2.out (by exact ⟨_, rfl, rfl⟩) (by kernel_rfl) ?_)
          | (at_builtin; refine wpList_append_eq _ _ rfl _ _ _ rfl _ _ _ rfl rfl (by exact R2.out) ?_))
        go_roundw
        case rel => exact ⟨k + 1, a', c', by omega, by first | go_num | trivial, rfl, FIN⟩
        case measure => simp [intOf]; omega
      · by_cases heq : x.2.slot = s.slot
        · have h2 : ∀ y ∈ xs.drop (k + 1), s.slot < y.2.slot := fun y hy => by
            have hup := A.up_drop HH.out.up (k := k) (p := (x.2.slot, x.2)) (by rw [← HH.out.l, List.getElem?_map, HX.out]; rfl)
            have := hup (y.2.slot, y.2) (by rw [← HH.out.l, ← List.map_drop]; exact List.mem_map.2 ⟨y, hy, rfl⟩)
            simp only at this
            omega
          have hjn : k + 1 ≤ xs.length := by rw [HN.out]; omega
          have hj : k + 1 = k ∨ (k + 1 = k + 1 ∧ ∃ y, xs[k]? = some y ∧ y.2.slot = s.slot) := .inr ⟨rfl, x, HX.out, heq⟩
          obtain ⟨a', c', W2, hr, hro, hf2, hn2⟩ := sd_append wr.drew oa oc k _ ROD.out (by omega) cs' hzs HRS.out.ones
          have hfo : Array.foldl (fun (cs : Array Value) x => cs.setIfInBounds x.2 x.1) zS59 cs'.zipIdx 0 59 = cs' := fold_set0 59 cs' zS59 hzs rfl
          have hr2 := hr
          rw [← hfo] at hr2
          have ldx := load_whole (ty := 79) (FRD.out.cells HB2.out (fun h => h)) Try.underlying79 rfl (by rw [hzs]; kernel_rfl)
          have hnew := hall.out.2.2.1
          have hszd := FRD.out.size
          have f2 : Fr (fun _ => False) V W2 := FRD.out.trans hf2 (fun i hi e => by have := hnew i e; omega)
          have hn3 : ∀ j, blk a' = some j → V.heap.size ≤ j := fun j hj => by
            rcases hn2 j hj with h1 | h1
            · exact hnew j h1
            · omega
          have f2d : Fr (fun _ => False) V W2.drew := Fr.drew f2
          have hW2 := HV.out.kept f2 (fun h => h) (fun _ _ h => h)
          have hW2d := HV.out.kept f2d (fun h => h) (fun _ _ h => h)
          have d3 : W2.cell? ⟨q, 3, none⟩ = some (.slice (some ⟨g, o, none⟩) n rc) := cellA hW2.at_ (by rw [← HN.out]; rfl)
          have dx : W2.cell? ⟨w.heap.size, 0, none⟩ = some (.int .i64 s.slot) := cellA (f2.cells HB2.out (fun h => h)) C0.out
          have dc := (hW2.ls.whole HX.out).1
          have rod2 := hro.kept (Fr.drew (Fr.refl (fun _ => False) W2)) (fun _ _ h => h)
          obtain ⟨a3, c3', W3, hr3, hro3, hf3, hn33⟩ := sd_appends W2.drew a' c' (k + 1) _ rod2 (cutS (some ⟨g, o, none⟩) rc (k + 1)) (rc - (k + 1)) (xs.drop (k + 1)) (hW2d.ls.drop hW2d.cap (k + 1) hjn) (by rw [List.length_drop, HN.out]; omega)
          have hdl : (xs.drop (k + 1)).length = n - (k + 1) := by rw [List.length_drop, HN.out]
          rw [hdl] at hr3 hro3
          have hf33 : Fr (fun _ => False) V W3 := f2d.trans hf3 (fun i hi e => by have := hn3 i e; omega)
          have hW3 := HV.out.kept hf33 (fun h => h) (fun _ _ h => h)
          have e3 : W3.cell? ⟨q, 3, none⟩ = some (.slice (some ⟨g, o, none⟩) n rc) := cellA hW3.at_ (by rw [← HN.out]; rfl)
          have z3 := frozen_of_row (j := 3) hW3.at_
          have b3 := setCell_row (j := 3) hW3.at_ (.slice a3 (k + 1 + (n - (k + 1))) c3')
          have fs : Fr (fun k => k = q) W3 (W3.setCell ⟨q, 3, none⟩ (.slice a3 (k + 1 + (n - (k + 1))) c3')) := Fr.setCell (p := ⟨q, 3, none⟩) (S := fun k => k = q) (Fr.refl _ _) (fun _ => rfl) _
          have hsz2 := f2d.size
          have hn4 : ∀ j, blk a3 = some j → V.heap.size ≤ j := fun j hj => by
            rcases hn33 j hj with h1 | h1
            · exact hn3 j h1
            · exact Nat.le_trans hsz2 h1
          have hqV : q < V.heap.size := by have := HQ.out; have := HVQ.out; omega
          have FIN := hid (Rf.put_done HH.out HI.out HQ.out rfl (k := k) (j := k + 1) (oa := a3) (oc := c3') (by rw [HN.out]; exact hk) hjn hj hall.out.1 h2 FA.out HRS.out ((hf33.mono (fun _ _ h => h.elim)).trans fs (fun _ _ h => h)) (by rw [HN.out]; exact hro3.kept fs (fun j hj e => by have := hn4 j hj; omega)) hn4 (by rw [HN.out]; exact b3))
          have R2 := hid hr2
          have R3 := hid hr3
          have LDX := hid ldx
          have cu := fun W => run_cutS_lo W (some ⟨g, o, none⟩) n rc (k + 1) (by omega) ((k : Int) + 1) (by omega)
          have S1 := hid (show wr.drew.cell? ⟨q, 3, none⟩ = some (.slice (some ⟨g, o, none⟩) n rc) ∧ wr.drew.cell? ⟨g, o + k * 59, none⟩ = some (.int .i64 x.2.slot) ∧ wr.drew.cell? ⟨w.heap.size, 0, none⟩ = some (.int .i64 s.slot) from ⟨c3, hc0, cx⟩)
          have S2 := hid (show W2.drew.cell? ⟨q, 3, none⟩ = some (.slice (some ⟨g, o, none⟩) n rc) ∧ W2.drew.cell? ⟨g, o + k * 59, none⟩ = some (.int .i64 x.2.slot) ∧ W2.drew.cell? ⟨w.heap.size, 0, none⟩ = some (.int .i64 s.slot) from ⟨d3, dc, dx⟩)
          clear h2 hjn hj hr hro hf2 hn2 hfo hr2 ldx hnew hszd f2 hn3 f2d hW2 hW2d rod2 hr3 hro3 hf3 hn33 hdl hf33 hW3 b3 fs hsz2 hn4 hld hrx htk HWD HX
          generalize x.2.slot = xsl at *
          subst heq
          go_wp2
          go_region_held3 (fun W => W.cell? ⟨q, 3, none⟩ = some (.slice (some ⟨g, o, none⟩) n rc) ∧ W.cell? ⟨g, o + k * 59, none⟩ = some (.int .i64 s.slot) ∧ W.cell? ⟨w.heap.size, 0, none⟩ = some (.int .i64 s.slot)) (exact S1.out) (fail)
          go_wp2_with (first
            | (refine wpList_load_v LDX.out (by exact ⟨_, rfl, rfl⟩) (by kernel_rfl) ?_)
            | (at_builtin; refine wpList_append_eq _ _ rfl _ _ _ rfl _ _ _ rfl rfl (by exact R2.out) ?_))
          go_region_held3 (fun W => W.cell? ⟨q, 3, none⟩ = some (.slice (some ⟨g, o, none⟩) n rc) ∧ W.cell? ⟨g, o + k * 59, none⟩ = some (.int .i64 s.slot) ∧ W.cell? ⟨w.heap.size, 0, none⟩ = some (.int .i64 s.slot)) (exact S2.out) (fail)
          go_wp2_with (first
            | (at_builtin; refine wpList_append_eq _ _ rfl _ _ _ rfl _ _ _ rfl rfl (by exact R3.out) ?_))
          go_end0
          exact ⟨rfl, FIN.out⟩
        · have h2 : ∀ y ∈ xs.drop (k), s.slot < y.2.slot := fun y hy => by
            have hup := A.up_drop HH.out.up (k := k) (p := (x.2.slot, x.2)) (by rw [← HH.out.l, List.getElem?_map, HX.out]; rfl)
            rw [List.drop_eq_getElem_cons (List.getElem?_eq_some_iff.1 HX.out).1, (List.getElem?_eq_some_iff.1 HX.out).2] at hy
            rcases List.mem_cons.1 hy with rfl | hy
            · omega
            · have := hup (y.2.slot, y.2) (by rw [← HH.out.l, ← List.map_drop]; exact List.mem_map.2 ⟨y, hy, rfl⟩)
              simp only at this
              omega
          have hjn : k ≤ xs.length := by rw [HN.out]; omega
          have hj : k = k ∨ (k = k + 1 ∧ ∃ y, xs[k]? = some y ∧ y.2.slot = s.slot) := .inl rfl
          obtain ⟨a', c', W2, hr, hro, hf2, hn2⟩ := sd_append wr.drew oa oc k _ ROD.out (by omega) cs' hzs HRS.out.ones
          have hfo : Array.foldl (fun (cs : Array Value) x => cs.setIfInBounds x.2 x.1) zS59 cs'.zipIdx 0 59 = cs' := fold_set0 59 cs' zS59 hzs rfl
          have hr2 := hr
          rw [← hfo] at hr2
          have ldx := load_whole (ty := 79) (FRD.out.cells HB2.out (fun h => h)) Try.underlying79 rfl (by rw [hzs]; kernel_rfl)
          have hnew := hall.out.2.2.1
          have hszd := FRD.out.size
          have f2 : Fr (fun _ => False) V W2 := FRD.out.trans hf2 (fun i hi e => by have := hnew i e; omega)
          have hn3 : ∀ j, blk a' = some j → V.heap.size ≤ j := fun j hj => by
            rcases hn2 j hj with h1 | h1
            · exact hnew j h1
            · omega
          have f2d : Fr (fun _ => False) V W2.drew := Fr.drew f2
          have hW2 := HV.out.kept f2 (fun h => h) (fun _ _ h => h)
          have hW2d := HV.out.kept f2d (fun h => h) (fun _ _ h => h)
          have d3 : W2.cell? ⟨q, 3, none⟩ = some (.slice (some ⟨g, o, none⟩) n rc) := cellA hW2.at_ (by rw [← HN.out]; rfl)
          have dx : W2.cell? ⟨w.heap.size, 0, none⟩ = some (.int .i64 s.slot) := cellA (f2.cells HB2.out (fun h => h)) C0.out
          have dc := (hW2.ls.whole HX.out).1
          have rod2 := hro.kept (Fr.drew (Fr.refl (fun _ => False) W2)) (fun _ _ h => h)
          obtain ⟨a3, c3', W3, hr3, hro3, hf3, hn33⟩ := sd_appends W2.drew a' c' (k + 1) _ rod2 (cutS (some ⟨g, o, none⟩) rc (k)) (rc - (k)) (xs.drop (k)) (hW2d.ls.drop hW2d.cap (k) hjn) (by rw [List.length_drop, HN.out]; omega)
          have hdl : (xs.drop (k)).length = n - (k) := by rw [List.length_drop, HN.out]
          rw [hdl] at hr3 hro3
          have hf33 : Fr (fun _ => False) V W3 := f2d.trans hf3 (fun i hi e => by have := hn3 i e; omega)
          have hW3 := HV.out.kept hf33 (fun h => h) (fun _ _ h => h)
          have e3 : W3.cell? ⟨q, 3, none⟩ = some (.slice (some ⟨g, o, none⟩) n rc) := cellA hW3.at_ (by rw [← HN.out]; rfl)
          have z3 := frozen_of_row (j := 3) hW3.at_
          have b3 := setCell_row (j := 3) hW3.at_ (.slice a3 (k + 1 + (n - (k))) c3')
          have fs : Fr (fun k => k = q) W3 (W3.setCell ⟨q, 3, none⟩ (.slice a3 (k + 1 + (n - (k))) c3')) := Fr.setCell (p := ⟨q, 3, none⟩) (S := fun k => k = q) (Fr.refl _ _) (fun _ => rfl) _
          have hsz2 := f2d.size
          have hn4 : ∀ j, blk a3 = some j → V.heap.size ≤ j := fun j hj => by
            rcases hn33 j hj with h1 | h1
            · exact hn3 j h1
            · exact Nat.le_trans hsz2 h1
          have hqV : q < V.heap.size := by have := HQ.out; have := HVQ.out; omega
          have FIN := hid (Rf.put_done HH.out HI.out HQ.out rfl (k := k) (j := k) (oa := a3) (oc := c3') (by rw [HN.out]; exact hk) hjn hj hall.out.1 h2 FA.out HRS.out ((hf33.mono (fun _ _ h => h.elim)).trans fs (fun _ _ h => h)) (by rw [HN.out]; exact hro3.kept fs (fun j hj e => by have := hn4 j hj; omega)) hn4 (by rw [HN.out]; exact b3))
          have R2 := hid hr2
          have R3 := hid hr3
          have LDX := hid ldx
          have cu := fun W => run_cutS_lo W (some ⟨g, o, none⟩) n rc (k) (by omega) ((k : Int)) (by omega)
          have S1 := hid (show wr.drew.cell? ⟨q, 3, none⟩ = some (.slice (some ⟨g, o, none⟩) n rc) ∧ wr.drew.cell? ⟨g, o + k * 59, none⟩ = some (.int .i64 x.2.slot) ∧ wr.drew.cell? ⟨w.heap.size, 0, none⟩ = some (.int .i64 s.slot) from ⟨c3, hc0, cx⟩)
          have S2 := hid (show W2.drew.cell? ⟨q, 3, none⟩ = some (.slice (some ⟨g, o, none⟩) n rc) ∧ W2.drew.cell? ⟨g, o + k * 59, none⟩ = some (.int .i64 x.2.slot) ∧ W2.drew.cell? ⟨w.heap.size, 0, none⟩ = some (.int .i64 s.slot) from ⟨d3, dc, dx⟩)
          clear h2 hjn hj hr hro hf2 hn2 hfo hr2 ldx hnew hszd f2 hn3 f2d hW2 hW2d rod2 hr3 hro3 hf3 hn33 hdl hf33 hW3 b3 fs hsz2 hn4 hld hrx htk HWD HX
          generalize x.2.slot = xsl at *
          go_wp2
          go_region_held3 (fun W => W.cell? ⟨q, 3, none⟩ = some (.slice (some ⟨g, o, none⟩) n rc) ∧ W.cell? ⟨g, o + k * 59, none⟩ = some (.int .i64 xsl) ∧ W.cell? ⟨w.heap.size, 0, none⟩ = some (.int .i64 s.slot)) (exact S1.out) (fail)
          go_wp2_with (first
            | (refine wpList_load_v LDX.out (by exact ⟨_, rfl, rfl⟩) (by kernel_rfl) ?_)
            | (at_builtin; refine wpList_append_eq _ _ rfl _ _ _ rfl _ _ _ rfl rfl (by exact R2.out) ?_))
          go_region_held3 (fun W => W.cell? ⟨q, 3, none⟩ = some (.slice (some ⟨g, o, none⟩) n rc) ∧ W.cell? ⟨g, o + k * 59, none⟩ = some (.int .i64 xsl) ∧ W.cell? ⟨w.heap.size, 0, none⟩ = some (.int .i64 s.slot)) (exact S2.out) (fail)
          go_wp2_with (first
            | (at_builtin; refine wpList_append_eq _ _ rfl _ _ _ rfl _ _ _ rfl rfl (by exact R3.out) ?_))
          go_end0
          exact ⟨rfl, FIN.out⟩
    · obtain rfl : k = n := by omega
      have h2 : ∀ y ∈ xs.drop k, s.slot < y.2.slot := fun y hy => by
        rw [List.drop_eq_nil_of_le (by rw [HN.out]; exact Nat.le_refl _)] at hy
        cases hy
      have hjn : k ≤ xs.length := by rw [HN.out]; omega
      have hj : k = k ∨ (k = k + 1 ∧ ∃ y, xs[k]? = some y ∧ y.2.slot = s.slot) := .inl rfl
      obtain ⟨a', c', W2, hr, hro, hf2, hn2⟩ := sd_append wr.drew oa oc k _ ROD.out (by omega) cs' hzs HRS.out.ones
      have hfo : Array.foldl (fun (cs : Array Value) x => cs.setIfInBounds x.2 x.1) zS59 cs'.zipIdx 0 59 = cs' := fold_set0 59 cs' zS59 hzs rfl
      have hr2 := hr
      rw [← hfo] at hr2
      have ldx := load_whole (ty := 79) (FRD.out.cells HB2.out (fun h => h)) Try.underlying79 rfl (by rw [hzs]; kernel_rfl)
      have hnew := hall.out.2.2.1
      have hszd := FRD.out.size
      have f2 : Fr (fun _ => False) V W2 := FRD.out.trans hf2 (fun i hi e => by have := hnew i e; omega)
      have hn3 : ∀ j, blk a' = some j → V.heap.size ≤ j := fun j hj => by
        rcases hn2 j hj with h1 | h1
        · exact hnew j h1
        · omega
      have f2d : Fr (fun _ => False) V W2.drew := Fr.drew f2
      have hW2 := HV.out.kept f2 (fun h => h) (fun _ _ h => h)
      have hW2d := HV.out.kept f2d (fun h => h) (fun _ _ h => h)
      have d3 : W2.cell? ⟨q, 3, none⟩ = some (.slice ra k rc) := cellA hW2.at_ (by rw [← HN.out]; rfl)
      have dx : W2.cell? ⟨w.heap.size, 0, none⟩ = some (.int .i64 s.slot) := cellA (f2.cells HB2.out (fun h => h)) C0.out
      have rod2 := hro.kept (Fr.drew (Fr.refl (fun _ => False) W2)) (fun _ _ h => h)
      obtain ⟨a3, c3', W3, hr3, hro3, hf3, hn33⟩ := sd_appends W2.drew a' c' (k + 1) _ rod2 (cutS ra rc (k)) (rc - (k)) (xs.drop (k)) (hW2d.ls.drop hW2d.cap (k) hjn) (by rw [List.length_drop, HN.out]; omega)
      have hdl : (xs.drop k).length = 0 := by rw [List.length_drop, HN.out, Nat.sub_self]
      rw [hdl] at hr3 hro3
      simp only [Nat.add_zero] at hr3 hro3
      have hf33 : Fr (fun _ => False) V W3 := f2d.trans hf3 (fun i hi e => by have := hn3 i e; omega)
      have hW3 := HV.out.kept hf33 (fun h => h) (fun _ _ h => h)
      have e3 : W3.cell? ⟨q, 3, none⟩ = some (.slice ra k rc) := cellA hW3.at_ (by rw [← HN.out]; rfl)
      have z3 := frozen_of_row (j := 3) hW3.at_
      have b3 := setCell_row (j := 3) hW3.at_ (.slice a3 (k + 1) c3')
      have fs : Fr (fun k => k = q) W3 (W3.setCell ⟨q, 3, none⟩ (.slice a3 (k + 1) c3')) := Fr.setCell (p := ⟨q, 3, none⟩) (S := fun k => k = q) (Fr.refl _ _) (fun _ => rfl) _
      have hsz2 := f2d.size
      have hn4 : ∀ j, blk a3 = some j → V.heap.size ≤ j := fun j hj => by
        rcases hn33 j hj with h1 | h1
        · exact hn3 j h1
        · exact Nat.le_trans hsz2 h1
      have hqV : q < V.heap.size := by have := HQ.out; have := HVQ.out; omega
      have FIN := hid (Rf.put_done HH.out HI.out HQ.out rfl (k := k) (j := k) (oa := a3) (oc := c3') (by rw [HN.out]; exact hk) hjn hj hall.out.1 h2 FA.out HRS.out ((hf33.mono (fun _ _ h => h.elim)).trans fs (fun _ _ h => h)) (by rw [HN.out, Nat.sub_self]; exact hro3.kept fs (fun j hj e => by have := hn4 j hj; omega)) hn4 (by rw [HN.out, Nat.sub_self]; exact b3))
      have R2 := hid hr2
      have R3 := hid hr3
      have LDX := hid ldx
      have cu := fun W => run_cutS_lo W ra k rc (k) (by omega) ((k : Int)) (by omega)
      simp only [Nat.sub_self] at cu
      have S1 := hid (show wr.drew.cell? ⟨q, 3, none⟩ = some (.slice ra k rc) from c3)
      have S2 := hid (show W2.drew.cell? ⟨q, 3, none⟩ = some (.slice ra k rc) from d3)
      clear hW hWd frd rod h2 hjn hj hr hro hf2 hn2 hfo hr2 ldx hnew hszd f2 hn3 f2d hW2 hW2d rod2 hr3 hro3 hf3 hn33 hdl hf33 hW3 b3 fs hsz2 hn4 HWD
      go_wp2
      have hmx : Try.prog.follows .mixedOrders = true := by kernel_rfl
      refine wp_region_held (S := fun V => Fr (fun _ => False) wr V) hmx ?_
      have hS : Fr (fun _ => False) wr wr.drew := Fr.drew (Fr.refl _ _)
      simp only [List.size_toArray, List.length_cons, List.length_nil, Nat.reduceAdd, Array.replicate_succ, Array.replicate_zero, List.push_toArray, List.nil_append, List.cons_append]
      refine wpAnyH_take (i := 0) (v := ?_) rfl (by kernel_rfl) (by kernel_rfl) (by kernel_rfl) (fun _ _ _ h => h) (Or.inl ⟨by kernel_rfl, ?_⟩) hS ?_
      rotate_left 1
      · (intro w' hS'; clear hS'; go_simp; try with_reducible rfl)
      simp only [List.getElem_toArray, List.getElem_cons_zero, List.getElem_cons_succ, Act.put, List.setIfInBounds_toArray, List.set_cons_zero, List.set_cons_succ]
      refine wpAnyH_take (i := 1) (v := ?_) rfl (by kernel_rfl) (by kernel_rfl) (by kernel_rfl) (fun _ _ _ h => h) (Or.inl ⟨by kernel_rfl, ?_⟩) hS ?_
      rotate_left 1
      · (intro w' hS'; clear hS'; go_simp; try with_reducible rfl)
      simp only [List.getElem_toArray, List.getElem_cons_zero, List.getElem_cons_succ, Act.put, List.setIfInBounds_toArray, List.set_cons_zero, List.set_cons_succ]
      refine wpAnyH_take (i := 2) (v := ?_) rfl (by kernel_rfl) (by kernel_rfl) (by kernel_rfl) (fun _ _ _ h => h) (Or.inl ⟨by kernel_rfl, ?_⟩) hS ?_
      rotate_left 1
      · (intro w' hS'; clear hS'; go_simp; try with_reducible rfl)
      simp only [List.getElem_toArray, List.getElem_cons_zero, List.getElem_cons_succ, Act.put, List.setIfInBounds_toArray, List.set_cons_zero, List.set_cons_succ]
      refine wpAnyH_take (i := 3) (v := ?_) rfl (by kernel_rfl) (by kernel_rfl) (by kernel_rfl) (fun _ _ _ h => h) (Or.inl ⟨by kernel_rfl, ?_⟩) hS ?_
      rotate_left 1
      · (intro w' hS'; clear hS'; go_simp; try with_reducible rfl)
      simp only [List.getElem_toArray, List.getElem_cons_zero, List.getElem_cons_succ, Act.put, List.setIfInBounds_toArray, List.set_cons_zero, List.set_cons_succ]
      refine wpAnyH_take (i := 4) (v := ?_) rfl (by kernel_rfl) (by kernel_rfl) (by kernel_rfl) (fun _ _ _ h => h) (Or.inl ⟨by kernel_rfl, ?_⟩) hS ?_
      rotate_left 1
      · (intro w' hS'; have h1 := cellFr hS' (fun h => h) c3; clear hS'; go_simp; try with_reducible rfl)
      simp only [List.getElem_toArray, List.getElem_cons_zero, List.getElem_cons_succ, Act.put, List.setIfInBounds_toArray, List.set_cons_zero, List.set_cons_succ]
      refine wpAnyH_take (i := 5) (v := ?_) rfl (by kernel_rfl) (by kernel_rfl) (by kernel_rfl) (fun _ _ _ h => h) (Or.inl ⟨by kernel_rfl, ?_⟩) hS ?_
      rotate_left 1
      · (intro w' hS'; clear hS'; go_simp; try with_reducible rfl)
      simp only [List.getElem_toArray, List.getElem_cons_zero, List.getElem_cons_succ, Act.put, List.setIfInBounds_toArray, List.set_cons_zero, List.set_cons_succ]
      refine wpAnyH_take (i := 6) (v := ?_) rfl (by kernel_rfl) (by kernel_rfl) (by kernel_rfl) (fun _ _ _ h => h) (Or.inl ⟨by kernel_rfl, ?_⟩) hS ?_
      rotate_left 1
      · (intro w' hS'; clear hS'; go_simp; try with_reducible rfl)
      simp only [List.getElem_toArray, List.getElem_cons_zero, List.getElem_cons_succ, Act.put, List.setIfInBounds_toArray, List.set_cons_zero, List.set_cons_succ]
      refine wpAnyH_take (i := 7) (v := ?_) rfl (by kernel_rfl) (by kernel_rfl) (by kernel_rfl) (fun _ _ _ h => h) (Or.inl ⟨by kernel_rfl, ?_⟩) hS ?_
      rotate_left 1
      · (intro w' hS'; clear hS'; go_simp; try with_reducible rfl)
      simp only [List.getElem_toArray, List.getElem_cons_zero, List.getElem_cons_succ, Act.put, List.setIfInBounds_toArray, List.set_cons_zero, List.set_cons_succ]
      refine wpAnyH_take (i := 8) (v := undef) rfl (by kernel_rfl) (by kernel_rfl) (by kernel_rfl) (fun _ _ _ h => h) (Or.inr ⟨by kernel_rfl, rfl⟩) hS ?_
      simp only [List.getElem_toArray, List.getElem_cons_zero, List.getElem_cons_succ, Act.put, List.setIfInBounds_toArray, List.set_cons_zero, List.set_cons_succ]
      refine wpAnyH_take (i := 9) (v := undef) rfl (by kernel_rfl) (by kernel_rfl) (by kernel_rfl) (fun _ _ _ h => h) (Or.inr ⟨by kernel_rfl, rfl⟩) hS ?_
      simp only [List.getElem_toArray, List.getElem_cons_zero, List.getElem_cons_succ, Act.put, List.setIfInBounds_toArray, List.set_cons_zero, List.set_cons_succ]
      refine wpAnyH_take (i := 10) (v := undef) rfl (by kernel_rfl) (by kernel_rfl) (by kernel_rfl) (fun _ _ _ h => h) (Or.inr ⟨by kernel_rfl, rfl⟩) hS ?_
      simp only [List.getElem_toArray, List.getElem_cons_zero, List.getElem_cons_succ, Act.put, List.setIfInBounds_toArray, List.set_cons_zero, List.set_cons_succ]
      refine wpAnyH_take (i := 11) (v := undef) rfl (by kernel_rfl) (by kernel_rfl) (by kernel_rfl) (fun _ _ _ h => h) (Or.inr ⟨by kernel_rfl, rfl⟩) hS ?_
      simp only [List.getElem_toArray, List.getElem_cons_zero, List.getElem_cons_succ, Act.put, List.setIfInBounds_toArray, List.set_cons_zero, List.set_cons_succ]
      refine wpAnyH_take (i := 12) (v := undef) rfl (by kernel_rfl) (by kernel_rfl) (by kernel_rfl) (fun _ _ _ h => h) (Or.inr ⟨by kernel_rfl, rfl⟩) hS ?_
      simp only [List.getElem_toArray, List.getElem_cons_zero, List.getElem_cons_succ, Act.put, List.setIfInBounds_toArray, List.set_cons_zero, List.set_cons_succ]
      refine wpAnyH_take (i := 13) (v := undef) rfl (by kernel_rfl) (by kernel_rfl) (by kernel_rfl) (fun _ _ _ h => h) (Or.inr ⟨by kernel_rfl, rfl⟩) hS ?_
      simp only [List.getElem_toArray, List.getElem_cons_zero, List.getElem_cons_succ, Act.put, List.setIfInBounds_toArray, List.set_cons_zero, List.set_cons_succ]
      refine wpAnyH_take (i := 14) (v := undef) rfl (by kernel_rfl) (by kernel_rfl) (by kernel_rfl) (fun _ _ _ h => h) (Or.inr ⟨by kernel_rfl, rfl⟩) hS ?_
      simp only [List.getElem_toArray, List.getElem_cons_zero, List.getElem_cons_succ, Act.put, List.setIfInBounds_toArray, List.set_cons_zero, List.set_cons_succ]
      refine wpAnyH_take (i := 15) (v := undef) rfl (by kernel_rfl) (by kernel_rfl) (by kernel_rfl) (fun _ _ _ h => h) (Or.inr ⟨by kernel_rfl, rfl⟩) hS ?_
      simp only [List.getElem_toArray, List.getElem_cons_zero, List.getElem_cons_succ, Act.put, List.setIfInBounds_toArray, List.set_cons_zero, List.set_cons_succ]
      refine wpAnyH_take (i := 16) (v := undef) rfl (by kernel_rfl) (by kernel_rfl) (by kernel_rfl) (fun _ _ _ h => h) (Or.inr ⟨by kernel_rfl, rfl⟩) hS ?_
      simp only [List.getElem_toArray, List.getElem_cons_zero, List.getElem_cons_succ, Act.put, List.setIfInBounds_toArray, List.set_cons_zero, List.set_cons_succ]
      refine wpAnyH_take (i := 17) (v := undef) rfl (by kernel_rfl) (by kernel_rfl) (by kernel_rfl) (fun _ _ _ h => h) (Or.inr ⟨by kernel_rfl, rfl⟩) hS ?_
      simp only [List.getElem_toArray, List.getElem_cons_zero, List.getElem_cons_succ, Act.put, List.setIfInBounds_toArray, List.set_cons_zero, List.set_cons_succ]
      refine wpAnyH_take (i := 18) (v := undef) rfl (by kernel_rfl) (by kernel_rfl) (by kernel_rfl) (fun _ _ _ h => h) (Or.inr ⟨by kernel_rfl, rfl⟩) hS ?_
      simp only [List.getElem_toArray, List.getElem_cons_zero, List.getElem_cons_succ, Act.put, List.setIfInBounds_toArray, List.set_cons_zero, List.set_cons_succ]
      refine wpAnyH_take (i := 19) (v := ?_) rfl (by kernel_rfl) (by kernel_rfl) (by kernel_rfl) (fun _ _ _ h => h) (Or.inl ⟨by kernel_rfl, ?_⟩) hS ?_
      rotate_left 1
      · (intro w' hS'; clear hS'; go_simp; try with_reducible rfl)
      simp only [List.getElem_toArray, List.getElem_cons_zero, List.getElem_cons_succ, Act.put, List.setIfInBounds_toArray, List.set_cons_zero, List.set_cons_succ]
      refine wpAnyH_done (by kernel_rfl) ?_ _
      clear hS
      go_wp2_with (first
        | (refine wpList_load_v LDX.out (by exact ⟨_, rfl, rfl⟩) (by kernel_rfl) ?_)
        | (at_builtin; refine wpList_append_eq _ _ rfl _ _ _ rfl _ _ _ rfl rfl (by exact R2.out) ?_))
      refine wp_region_held (S := fun V => Fr (fun _ => False) W2 V) hmx ?_
      have hS : Fr (fun _ => False) W2 W2.drew := Fr.drew (Fr.refl _ _)
      simp only [List.size_toArray, List.length_cons, List.length_nil, Nat.reduceAdd, Array.replicate_succ, Array.replicate_zero, List.push_toArray, List.nil_append, List.cons_append]
      refine wpAnyH_take (i := 0) (v := ?_) rfl (by kernel_rfl) (by kernel_rfl) (by kernel_rfl) (fun _ _ _ h => h) (Or.inl ⟨by kernel_rfl, ?_⟩) hS ?_
      rotate_left 1
      · (intro w' hS'; clear hS'; go_simp; try with_reducible rfl)
      simp only [List.getElem_toArray, List.getElem_cons_zero, List.getElem_cons_succ, Act.put, List.setIfInBounds_toArray, List.set_cons_zero, List.set_cons_succ]
      refine wpAnyH_take (i := 1) (v := ?_) rfl (by kernel_rfl) (by kernel_rfl) (by kernel_rfl) (fun _ _ _ h => h) (Or.inl ⟨by kernel_rfl, ?_⟩) hS ?_
      rotate_left 1
      · (intro w' hS'; clear hS'; go_simp; try with_reducible rfl)
      simp only [List.getElem_toArray, List.getElem_cons_zero, List.getElem_cons_succ, Act.put, List.setIfInBounds_toArray, List.set_cons_zero, List.set_cons_succ]
      refine wpAnyH_take (i := 2) (v := ?_) rfl (by kernel_rfl) (by kernel_rfl) (by kernel_rfl) (fun _ _ _ h => h) (Or.inl ⟨by kernel_rfl, ?_⟩) hS ?_
      rotate_left 1
      · (intro w' hS'; clear hS'; go_simp; try with_reducible rfl)
      simp only [List.getElem_toArray, List.getElem_cons_zero, List.getElem_cons_succ, Act.put, List.setIfInBounds_toArray, List.set_cons_zero, List.set_cons_succ]
      refine wpAnyH_take (i := 3) (v := ?_) rfl (by kernel_rfl) (by kernel_rfl) (by kernel_rfl) (fun _ _ _ h => h) (Or.inl ⟨by kernel_rfl, ?_⟩) hS ?_
      rotate_left 1
      · (intro w' hS'; clear hS'; go_simp; try with_reducible rfl)
      simp only [List.getElem_toArray, List.getElem_cons_zero, List.getElem_cons_succ, Act.put, List.setIfInBounds_toArray, List.set_cons_zero, List.set_cons_succ]
      refine wpAnyH_take (i := 4) (v := ?_) rfl (by kernel_rfl) (by kernel_rfl) (by kernel_rfl) (fun _ _ _ h => h) (Or.inl ⟨by kernel_rfl, ?_⟩) hS ?_
      rotate_left 1
      · (intro w' hS'; have h1 := cellFr hS' (fun h => h) d3; clear hS'; go_simp; try with_reducible rfl)
      simp only [List.getElem_toArray, List.getElem_cons_zero, List.getElem_cons_succ, Act.put, List.setIfInBounds_toArray, List.set_cons_zero, List.set_cons_succ]
      refine wpAnyH_take (i := 5) (v := ?_) rfl (by kernel_rfl) (by kernel_rfl) (by kernel_rfl) (fun _ _ _ h => h) (Or.inl ⟨by kernel_rfl, ?_⟩) hS ?_
      rotate_left 1
      · (intro w' hS'; clear hS'; go_simp; try with_reducible rfl)
      simp only [List.getElem_toArray, List.getElem_cons_zero, List.getElem_cons_succ, Act.put, List.setIfInBounds_toArray, List.set_cons_zero, List.set_cons_succ]
      refine wpAnyH_take (i := 6) (v := ?_) rfl (by kernel_rfl) (by kernel_rfl) (by kernel_rfl) (fun _ _ _ h => h) (Or.inl ⟨by kernel_rfl, ?_⟩) hS ?_
      rotate_left 1
      · (intro w' hS'; clear hS'; go_simp; try with_reducible rfl)
      simp only [List.getElem_toArray, List.getElem_cons_zero, List.getElem_cons_succ, Act.put, List.setIfInBounds_toArray, List.set_cons_zero, List.set_cons_succ]
      refine wpAnyH_take (i := 7) (v := ?_) rfl (by kernel_rfl) (by kernel_rfl) (by kernel_rfl) (fun _ _ _ h => h) (Or.inl ⟨by kernel_rfl, ?_⟩) hS ?_
      rotate_left 1
      · (intro w' hS'; clear hS'; go_simp; try with_reducible rfl)
      simp only [List.getElem_toArray, List.getElem_cons_zero, List.getElem_cons_succ, Act.put, List.setIfInBounds_toArray, List.set_cons_zero, List.set_cons_succ]
      refine wpAnyH_take (i := 8) (v := undef) rfl (by kernel_rfl) (by kernel_rfl) (by kernel_rfl) (fun _ _ _ h => h) (Or.inr ⟨by kernel_rfl, rfl⟩) hS ?_
      simp only [List.getElem_toArray, List.getElem_cons_zero, List.getElem_cons_succ, Act.put, List.setIfInBounds_toArray, List.set_cons_zero, List.set_cons_succ]
      refine wpAnyH_take (i := 9) (v := undef) rfl (by kernel_rfl) (by kernel_rfl) (by kernel_rfl) (fun _ _ _ h => h) (Or.inr ⟨by kernel_rfl, rfl⟩) hS ?_
      simp only [List.getElem_toArray, List.getElem_cons_zero, List.getElem_cons_succ, Act.put, List.setIfInBounds_toArray, List.set_cons_zero, List.set_cons_succ]
      refine wpAnyH_take (i := 10) (v := undef) rfl (by kernel_rfl) (by kernel_rfl) (by kernel_rfl) (fun _ _ _ h => h) (Or.inr ⟨by kernel_rfl, rfl⟩) hS ?_
      simp only [List.getElem_toArray, List.getElem_cons_zero, List.getElem_cons_succ, Act.put, List.setIfInBounds_toArray, List.set_cons_zero, List.set_cons_succ]
      refine wpAnyH_take (i := 11) (v := undef) rfl (by kernel_rfl) (by kernel_rfl) (by kernel_rfl) (fun _ _ _ h => h) (Or.inr ⟨by kernel_rfl, rfl⟩) hS ?_
      simp only [List.getElem_toArray, List.getElem_cons_zero, List.getElem_cons_succ, Act.put, List.setIfInBounds_toArray, List.set_cons_zero, List.set_cons_succ]
      refine wpAnyH_take (i := 12) (v := undef) rfl (by kernel_rfl) (by kernel_rfl) (by kernel_rfl) (fun _ _ _ h => h) (Or.inr ⟨by kernel_rfl, rfl⟩) hS ?_
      simp only [List.getElem_toArray, List.getElem_cons_zero, List.getElem_cons_succ, Act.put, List.setIfInBounds_toArray, List.set_cons_zero, List.set_cons_succ]
      refine wpAnyH_take (i := 13) (v := undef) rfl (by kernel_rfl) (by kernel_rfl) (by kernel_rfl) (fun _ _ _ h => h) (Or.inr ⟨by kernel_rfl, rfl⟩) hS ?_
      simp only [List.getElem_toArray, List.getElem_cons_zero, List.getElem_cons_succ, Act.put, List.setIfInBounds_toArray, List.set_cons_zero, List.set_cons_succ]
      refine wpAnyH_take (i := 14) (v := undef) rfl (by kernel_rfl) (by kernel_rfl) (by kernel_rfl) (fun _ _ _ h => h) (Or.inr ⟨by kernel_rfl, rfl⟩) hS ?_
      simp only [List.getElem_toArray, List.getElem_cons_zero, List.getElem_cons_succ, Act.put, List.setIfInBounds_toArray, List.set_cons_zero, List.set_cons_succ]
      refine wpAnyH_take (i := 15) (v := undef) rfl (by kernel_rfl) (by kernel_rfl) (by kernel_rfl) (fun _ _ _ h => h) (Or.inr ⟨by kernel_rfl, rfl⟩) hS ?_
      simp only [List.getElem_toArray, List.getElem_cons_zero, List.getElem_cons_succ, Act.put, List.setIfInBounds_toArray, List.set_cons_zero, List.set_cons_succ]
      refine wpAnyH_take (i := 16) (v := undef) rfl (by kernel_rfl) (by kernel_rfl) (by kernel_rfl) (fun _ _ _ h => h) (Or.inr ⟨by kernel_rfl, rfl⟩) hS ?_
      simp only [List.getElem_toArray, List.getElem_cons_zero, List.getElem_cons_succ, Act.put, List.setIfInBounds_toArray, List.set_cons_zero, List.set_cons_succ]
      refine wpAnyH_take (i := 17) (v := undef) rfl (by kernel_rfl) (by kernel_rfl) (by kernel_rfl) (fun _ _ _ h => h) (Or.inr ⟨by kernel_rfl, rfl⟩) hS ?_
      simp only [List.getElem_toArray, List.getElem_cons_zero, List.getElem_cons_succ, Act.put, List.setIfInBounds_toArray, List.set_cons_zero, List.set_cons_succ]
      refine wpAnyH_take (i := 18) (v := undef) rfl (by kernel_rfl) (by kernel_rfl) (by kernel_rfl) (fun _ _ _ h => h) (Or.inr ⟨by kernel_rfl, rfl⟩) hS ?_
      simp only [List.getElem_toArray, List.getElem_cons_zero, List.getElem_cons_succ, Act.put, List.setIfInBounds_toArray, List.set_cons_zero, List.set_cons_succ]
      refine wpAnyH_take (i := 19) (v := ?_) rfl (by kernel_rfl) (by kernel_rfl) (by kernel_rfl) (fun _ _ _ h => h) (Or.inl ⟨by kernel_rfl, ?_⟩) hS ?_
      rotate_left 1
      · (intro w' hS'; clear hS'; go_simp; try with_reducible rfl)
      simp only [List.getElem_toArray, List.getElem_cons_zero, List.getElem_cons_succ, Act.put, List.setIfInBounds_toArray, List.set_cons_zero, List.set_cons_succ]
      refine wpAnyH_done (by kernel_rfl) ?_ _
      clear hS
      go_wp2_with (first
        | (at_builtin; refine wpList_append_eq _ _ rfl _ _ _ rfl _ _ _ rfl rfl (by exact R3.out) ?_))
      go_end0
      exact ⟨rfl, FIN.out⟩
end Go.Proofs.Ytedhmhlhjonloaa
