/-
  A table's rows: bySession, Rows.
-/
import Derived.Test.YtffjekhlloippaaYKeysI
import Derived.Test.YtffjekhlloippaaYPut
namespace Go.Proofs.Ytffjekhlloippaa
open Go.RowKit Go.Maps
set_option linter.unusedVariables false
set_option linter.unusedSimpArgs false
set_option maxRecDepth 100000
namespace Y
/-- rows as cells -/
def flat (t : Tb) : List Value := (t.map (fun x => (wcells x.1 x.2).toList)).flatten
theorem flat_len : ∀ (t : Tb), (flat t).length = t.length * 6
  | [] => rfl
  | x :: r => by
    have := flat_len r
    unfold flat at this ⊢
    simp only [List.map_cons, List.flatten_cons, List.length_append, List.length_cons, this]
    simp
    omega
theorem flat_append (x y : Tb) : flat (x ++ y) = flat x ++ flat y := by simp [flat]
theorem flat_one (x : Int × Rq) : flat [x] = (wcells x.1 x.2).toList := by simp [flat]
theorem flat_get {t : Tb} {k : Nat} {x : Int × Rq} (h : t[k]? = some x) {j : Nat} (hj : j < 6) : (flat t)[k * 6 + j]? = (wcells x.1 x.2)[j]? := by
  have e : t = t.take k ++ x :: t.drop (k + 1) := by
    rw [← (List.getElem?_eq_some_iff.1 h).2, ← List.drop_eq_getElem_cons (List.getElem?_eq_some_iff.1 h).1, List.take_append_drop]
  have hk := (List.getElem?_eq_some_iff.1 h).1
  rw [e, flat_append, List.getElem?_append_right (by rw [flat_len, List.length_take]; omega), flat_len, List.length_take, show min k t.length = k by omega, Nat.add_sub_cancel_left]
  rw [show x :: t.drop (k + 1) = [x] ++ t.drop (k + 1) from rfl, flat_append, flat_one, List.getElem?_append_left (by simpa using hj), Array.getElem?_toList]
theorem flat_ones (t : Tb) : ∀ u ∈ flat t, u.oneCell' = true := by
  intro u hu
  unfold flat at hu
  obtain ⟨l, hl, hu⟩ := List.mem_flatten.1 hu
  obtain ⟨x, hx, rfl⟩ := List.mem_map.1 hl
  simp at hu
  rcases hu with rfl | rfl | rfl | rfl | rfl | rfl <;> rfl
end Y
theorem Y.infoR1 : (Try.prog.info? 61).map (fun i => (i.size, i.bytes)) = some (6, 48) := by kernel_rfl
theorem Y.infoR2 : ((Try.prog.info? 61).bind (fun i => i.zero)).map (fun z => z.cells.size) = some 6 := by kernel_rfl
theorem Y.info_r : ∃ i z, Try.prog.info? 61 = some i ∧ i.zero = some z ∧ i.size = 6 ∧ i.bytes = 48 ∧ z.cells.size = 6 := by
  have h1 := Y.infoR1
  have h2 := Y.infoR2
  cases hi : Try.prog.info? 61 with
  | none => rw [hi] at h1; cases h1
  | some i =>
    rw [hi] at h1 h2
    simp only [Option.map_some, Option.some.injEq, Prod.mk.injEq, Option.bind_some] at h1 h2
    cases hz : i.zero with
    | none => rw [hz] at h2; cases h2
    | some z =>
      rw [hz] at h2
      simp only [Option.map_some, Option.some.injEq] at h2
      exact ⟨i, z, rfl, hz, h1.1, h1.2, h2⟩
/-- rows of a slice, appended to rows of one's own -/
theorem Y.row_appends (w : World) (ra : Option Addr) (rc n : Nat) (xs : List Value) (hrow : Ro w 61 6 ra n rc xs) {J : Nat → Prop} (sa : Option Addr) (sc : Nat) (ys : Y.Tb) (hy : Rw J w 6 sa ys.length (Y.flat ys)) (hb : n + ys.length ≤ 4000000000000) :
    ∃ ra' rc' w', (Builtin.append_ #[26, 26] 26 #[.slice ra n rc, .slice sa ys.length sc]).run Try.prog w = .ok (.slice ra' (n + ys.length) rc') w' ∧
      Ro w' 61 6 ra' (n + ys.length) rc' (xs ++ Y.flat ys) ∧ Fr (fun k => blk ra = some k) w w' ∧ (∀ k, blk ra' = some k → blk ra = some k ∨ w.heap.size ≤ k) := by
  obtain ⟨i0, z, hi, hz0, hz1, hz2, hz3⟩ := Y.info_r
  rcases Nat.eq_zero_or_pos ys.length with h0 | h0
  · have hnil : ys = [] := List.eq_nil_of_length_eq_zero h0
    subst hnil
    have hsrc : Src Try.prog 6 26 (.slice sa 0 sc) 0 [] w := by
      cases sa with
      | none => exact Src.ofNil w Try.underlying26 sc
      | some ad => exact Src.ofSlice _ Try.underlying26 ad 0 sc [] (by simp) (by simp) (by simp)
    refine ⟨ra, rc, w, run_append_nothing w _ _ _ _ i0 Try.underlying26 hi ra n rc hrow.le.1 _ (by rw [hz1]; exact hsrc), ?_, Fr.refl _ _, fun k hk => .inl hk⟩
    simp only [Y.flat, List.map_nil, List.flatten_nil, List.append_nil, List.length_nil, Nat.add_zero]
    exact hrow
  · rcases hy.2 with h5 | ⟨g, o, rfl, _, hc⟩
    · omega
    obtain ⟨a', c', w', hr, h2, h3, h4⟩ := run_append_o (P := Try.prog) w 26 26 61 i0 z 6 48 Try.underlying26 hi hz0 hz1 hz2 hz3 (by omega) ra n rc xs hrow ⟨g, o, none⟩ ys.length sc (Y.flat ys) hy.1 (fun j u hu => by
      rw [Addr.add_lit]
      exact hc j u hu) (Y.flat_ones ys) h0 (by omega) (by omega)
    refine ⟨a', c', w', hr, h2, Fr.of_grown h3, fun k hk => ?_⟩
    rcases h4 with ⟨rfl, _⟩ | ⟨rfl, _⟩
    · exact .inl hk
    · simp [blk] at hk; exact .inr (by omega)
/-- one more row, behind the others -/
theorem Y.row_append (w : World) (ra : Option Addr) (rc n : Nat) (xs : List Value) (hrow : Ro w 61 6 ra n rc xs) (hb : n ≤ 3900000000000) (s : Int) (q : Y.Rq) :
    ∃ ra' rc' w', (Builtin.append_ #[26, 26] 26 #[.slice ra n rc, .slice (some ⟨w.heap.size, 0, none⟩) 1 1]).run Try.prog (w.alloc (.cells (Y.wcells s q) 61)) = .ok (.slice ra' (n + 1) rc') w' ∧
      Ro w' 61 6 ra' (n + 1) rc' (xs ++ (Y.wcells s q).toList) ∧ Fr (fun k => blk ra = some k) w w' ∧ (∀ k, blk ra' = some k → blk ra = some k ∨ w.heap.size ≤ k) := by
  have f0 : Fr (fun _ => False) w (w.alloc (.cells (Y.wcells s q) 61)) := Fr.alloc (Fr.refl _ _) _
  have hn := Go.heap_alloc_new w (.cells (Y.wcells s q) 61 (0, 0))
  obtain ⟨a', c', w', hr, h2, h3, h4⟩ := Y.row_appends (w.alloc (.cells (Y.wcells s q) 61)) ra rc n xs (hrow.kept f0 (fun _ _ h => h)) (J := fun _ => True) (some ⟨w.heap.size, 0, none⟩) 1 [(s, q)] ⟨rfl, .inr ⟨_, 0, rfl, trivial, fun j u hu => by
    rw [Nat.zero_add]
    rw [Y.flat_one, Array.getElem?_toList] at hu
    exact cell_at hn hu⟩⟩ (by simp; omega)
  rw [Y.flat_one] at h2
  refine ⟨a', c', w', hr, h2, (f0.mono (fun _ _ h => h.elim)).trans h3 (fun i hi e => e), fun k hk => ?_⟩
  rcases h4 k hk with h5 | h5
  · exact .inl h5
  · rw [World.size_alloc] at h5; exact .inr (by omega)
set_option maxHeartbeats 1600000 in
theorem ysess_any {w : World} {p mb : Nat} {t : Y.Tb} (h : Ym w p mb t) :
    Calls Try.prog 30 #[ptrY p] w fun e w' => ∃ a cp, e = .returned (.slice a t.length cp) ∧ Ro w' 61 6 a t.length cp (Y.flat t) ∧ (∀ i, blk a = some i → w.heap.size ≤ i) ∧ Fr (fun _ => False) w w' := by
  have KK := hid (keysI_fn (some mb) w)
  have KS := hid (sortedI_fn h.map (by have := h.ok.few; omega) (l := t.map (·.1)) (by unfold Y.Rise; rw [List.pairwise_map]; exact h.ok.up) (fun x => by
    rw [Option.isSome_map, List.mem_map]
    constructor
    · rintro ⟨q, hq, rfl⟩
      rw [A.get_of_mem h.ok.up (show (q.1, q.2) ∈ t from hq)]; rfl
    · intro hx
      obtain ⟨y, hy⟩ := Option.isSome_iff_exists.1 hx
      exact ⟨(x, y), A.get_mem hy, rfl⟩))
  have c0 : w.cell? ⟨p, 0, none⟩ = some (.map (some mb)) := cellA (j := 0) h.box rfl
  have H := hid h
  obtain ⟨len, hln⟩ : ∃ len, t.length = len := ⟨_, rfl⟩
  rw [List.length_map] at KS
  rw [hln] at KS ⊢
  have HLN := hid hln
  have hl64 : len ≤ 64 := by rw [← hln]; exact h.ok.few
  clear h hln
  go_enter Try.func30, Try.ntmps30
  go_wp2_with (first
    | (go_at_call 37; refine KK.out.mono ?_; rintro e wx ⟨rfl, rfl⟩)
    | (go_at_call 36; refine KS.out.mono ?_; rintro e w1 ⟨a1, c1, rfl, hrw, hf⟩; have RW1 := hid hrw; have F1 := hid ((Fr.alloc (Fr.refl (fun _ => False) w) _).trans hf (fun _ _ h => h)); clear hrw hf))
  go_loopw [3, 5, 13] (fun l _ i wr => ∃ (k : Nat) (a : Option Addr) (cp : Nat), i = .int .i64 k ∧ l = .slice a k cp ∧ Hid (k ≤ len ∧ Ro wr 61 6 a k cp (Y.flat (t.take k)) ∧ Fr (fun _ => False) w wr ∧ Fr (fun _ => False) w1 wr ∧ ∀ i, blk a = some i → w1.heap.size ≤ i))
    (fun _ _ i _ => len - (intOf i).toNat)
  case atStart => exact ⟨0, none, 0, rfl, rfl, hid ⟨Nat.zero_le _, Ro.nil _ _ _, F1.out, Fr.refl _ _, by simp [blk]⟩⟩
  case round =>
    obtain ⟨k, a, cp, rfl, rfl, hall⟩ := hrel
    obtain ⟨hk, hro, hfw, hfw1, hnw⟩ := hall.out
    by_cases hlt : k < len
    · obtain ⟨x, hx⟩ : ∃ x, t[k]? = some x := ⟨_, List.getElem?_eq_getElem (by rw [HLN.out]; exact hlt)⟩
      obtain ⟨n, q⟩ := x
      have hmem : (n, q) ∈ t := List.mem_of_getElem? hx
      have hget := A.get_of_mem H.out.ok.up hmem
      have hN := H.out.kept hfw (fun h => h) (fun h => h)
      have hnr := Y.may_iff.1 (H.out.ok.rng n q hget).1
      have hwn := wfT (x := n) (by omega) (by omega)
      obtain ⟨g, o, rfl, e0⟩ : ∃ g o, a1 = some ⟨g, o, none⟩ ∧ wr.cell? ⟨g, o + k, none⟩ = some (.int .i64 n) := by
        rcases (RW1.out.kept hfw1 (fun _ _ h => h)).2 with h1 | ⟨g, o, h1, _, h2⟩
        · omega
        · exact ⟨g, o, h1, h2 k _ (by rw [List.getElem?_map, List.getElem?_map, hx]; rfl)⟩
      have LK := hid (hN.look hwn)
      rw [hget] at LK
      simp only [Option.map_some, Option.getD_some] at LK
      have c0 : wr.cell? ⟨p, 0, none⟩ = some (.map (some mb)) := cellA (j := 0) hN.box rfl
      have i0 : (0 : Int) ≤ (k : Int) := by omega
      have i1 : (k : Int) < (len : Int) := by omega
      obtain ⟨a', cp', w3, hr3, hro3, hf3, hn3⟩ := Y.row_append wr a cp k (Y.flat (t.take k)) hro (by omega) n q
      have htk : Y.flat (t.take (k + 1)) = Y.flat (t.take k) ++ (Y.wcells n q).toList := by rw [List.take_add_one, hx, Y.flat_append]; rw [show (some (n, q)).toList = [(n, q)] from rfl, Y.flat_one]
      rw [← htk] at hro3
      have FIN := hid (show k + 1 ≤ len ∧ Ro w3 61 6 a' (k + 1) cp' (Y.flat (t.take (k + 1))) ∧ Fr (fun _ => False) w w3 ∧ Fr (fun _ => False) w1 w3 ∧ ∀ i, blk a' = some i → w1.heap.size ≤ i from
        ⟨hlt, hro3, hfw.trans hf3 (fun i hi e => by have := hnw i e; have := F1.out.size; omega), hfw1.trans hf3 (fun i hi e => by have := hnw i e; omega), fun i hi => by
          rcases hn3 i hi with h1 | h1
          · exact hnw i h1
          · exact Nat.le_trans hfw1.size h1⟩)
      have R3 := hid hr3
      clear hk hro hfw hfw1 hnw hall hx hmem hget hN hnr hwn htk hr3 hro3 hf3 hn3
      go_wp2_with (first
        | (refine wpList_look_v LK.out (by exact ⟨_, _, rfl, rfl, rfl⟩) (by kernel_rfl) ?_)
        | (at_builtin; refine wpList_append_eq _ _ rfl (.tmp 17) (.tmp 24) _ rfl _ _ _ rfl rfl R3.out ?_))
      go_roundw
      case rel => exact ⟨k + 1, a', cp', by first | go_num | rfl | trivial, by first | go_num | rfl | trivial, FIN⟩
      case measure => simp [intOf]; omega
    · obtain rfl : k = len := by omega
      clear hall
      have HRO := hid hro
      have HFW := hid hfw
      have HNW := hid hnw
      clear hro hfw hfw1 hnw hk
      go_wp2
      go_ret
      refine ⟨a, cp, rfl, ?_, fun i hi => Nat.le_trans F1.out.size (HNW.out i hi), HFW.out⟩
      have := HRO.out
      rwa [List.take_of_length_le (by rw [HLN.out]; exact Nat.le_refl _)] at this
/-- WHAT IS GONE THROUGH: the variable's block, the rows. -/
structure Yt (w : World) (B : Nat) (ra : Option Addr) (rc : Nat) (t : Y.Tb) (lo : Nat) : Prop where
  bx : w.heap[B]? = some (.cells #[.slice ra t.length rc] 26 (0, 0))
  row : Ro w 61 6 ra t.length rc (Y.flat t)
  lb : lo ≤ B
  lr : ∀ i, blk ra = some i → lo ≤ i
theorem Yt.kept {S : Nat → Prop} {w w' : World} {B rc lo : Nat} {ra : Option Addr} {t : Y.Tb} (h : Yt w B ra rc t lo) (hf : Fr S w w') (hS : ∀ i, lo ≤ i → i < w.heap.size → ¬ S i) : Yt w' B ra rc t lo :=
  ⟨hf.cells h.bx (hS _ h.lb (lt_of_row h.bx)), h.row.kept hf (fun j hj => hS j (h.lr j hj) (h.row.lt j hj)), h.lb, h.lr⟩
set_option maxHeartbeats 1600000 in
theorem yrows_any {w : World} {p mb : Nat} {t : Y.Tb} (h : Ym w p mb t) :
    Calls Try.prog 22 #[ptrY p] w fun e w' => ∃ B ra rc, e = .returned (.func (.func 31) #[] #[ptrY B]) ∧ Yt w' B ra rc t w.heap.size ∧ Fr (fun _ => False) w w' := by
  have f0 : Fr (fun _ => False) w (w.alloc (.cells #[.slice none 0 0] 26)) := Fr.alloc (Fr.refl _ _) _
  have h1 := h.kept f0 (fun h => h) (fun h => h)
  have KM := hid (fun (W : World) (hf : Fr (fun _ => False) w W) => ymade_any (h.kept hf (fun h => h) (fun h => h)))
  have KS := hid (ysess_any h1)
  have hb0 : (w.alloc (.cells #[.slice none 0 0] 26)).heap[w.heap.size]? = some (.cells #[.slice none 0 0] 26 (0, 0)) := Go.heap_alloc_new w _
  have F0 := hid f0
  have HB0 := hid hb0
  clear h h1 f0 hb0
  obtain ⟨n, hn⟩ : ∃ n, t.length = n := ⟨_, rfl⟩
  have HNN := hid hn
  rw [hn] at KS
  clear hn
  go_enter Try.func22, Try.ntmps22
  go_wp2_with (first
    | (go_at_call 23; refine (KM.out _ F0.out).mono ?_; rintro e w1 ⟨rfl, rfl⟩)
    | (go_at_call 30; refine KS.out.mono ?_; rintro e w1 ⟨ra, rc, rfl, hro, hnw, hf1⟩; have b1 := hf1.cells HB0.out (fun h => h); have c0 : w1.cell? ⟨w.heap.size, 0, none⟩ = some (.slice none 0 0) := cellA b1 rfl; have z0 := frozen_of_row (j := 0) b1; have HB1 := hid b1; have RO1 := hid hro; have F1 := hid hf1; have NW := hid hnw; clear b1 hro hf1 hnw))
  go_ret
  have hb2 := setCell_row (j := 0) HB1.out (.slice ra n rc)
  have fs : Fr (fun k => k = w.heap.size) w1 (w1.setCell ⟨w.heap.size, 0, none⟩ (.slice ra n rc)) := Fr.setCell (p := ⟨w.heap.size, 0, none⟩) (S := fun k => k = w.heap.size) (Fr.refl _ _) (fun _ => rfl) _
  have f2 : Fr (fun _ => False) w (w1.setCell ⟨w.heap.size, 0, none⟩ (.slice ra n rc)) := (F0.out.trans F1.out (fun _ _ h => h)).trans fs (fun i hi e => by omega)
  refine ⟨w.heap.size, ra, rc, rfl, ⟨?_, ?_, Nat.le_refl _, fun i hi => ?_⟩, f2⟩
  · rw [HNN.out]; exact hb2
  · rw [HNN.out]
    exact RO1.out.kept fs (fun i hi e => by have := NW.out i hi; rw [World.size_alloc] at this; omega)
  · have := NW.out i hi; rw [World.size_alloc] at this; omega
end Go.Proofs.Ytffjekhlloippaa
