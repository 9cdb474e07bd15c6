/-
  An acceptor out of a state: From, the code's and the document's.
-/
import Derived.Test.YtedhmhlhjonloaaAFrom
namespace Go.Proofs.Ytedhmhlhjonloaa
open Go.RowKit Go.Maps
set_option linter.unusedVariables false
set_option linter.unusedSimpArgs false

/-- all of a state, one by one -/
def A.rst (a : A.Ac) (l : List A.Sd) : Int × A.Ac := l.foldl (fun x s => if x.1 = 0 then A.restore x.2 s else x) (0, a)
theorem A.rst_snoc (a : A.Ac) (l : List A.Sd) (s : A.Sd) : A.rst a (l ++ [s]) = if (A.rst a l).1 = 0 then A.restore (A.rst a l).2 s else A.rst a l := by
  unfold A.rst
  rw [List.foldl_append]
  rfl
theorem A.rst_stay : ∀ (l : List A.Sd) (x : Int × A.Ac), x.1 ≠ 0 → l.foldl (fun x s => if x.1 = 0 then A.restore x.2 s else x) x = x
  | [], x, _ => rfl
  | s :: r, x, h => by rw [List.foldl_cons, if_neg h]; exact A.rst_stay r x h
theorem A.rst_err {a : A.Ac} {l1 l2 : List A.Sd} (h : (A.rst a l1).1 ≠ 0) : A.rst a (l1 ++ l2) = A.rst a l1 := by
  unfold A.rst at h ⊢
  rw [List.foldl_append]
  exact A.rst_stay l2 _ h
def A.fromAll (b : A.Bl) (fs : Int) (l : List A.Sd) : Int × A.Ac := if ((b.1 = 0 ∧ b.2 = 0) ∨ A.okB b = true) ∧ A.okS fs = true then A.rst ⟨b, fs, []⟩ l else (1, A.new)
theorem A.rst_go : ∀ (l : List A.Sd) (x : Int × A.Ac), (l.foldl (fun x s => if x.1 = 0 then A.restore x.2 s else x) x).2.pr = x.2.pr ∧ (l.foldl (fun x s => if x.1 = 0 then A.restore x.2 s else x) x).2.fs = x.2.fs ∧ (l.foldl (fun x s => if x.1 = 0 then A.restore x.2 s else x) x).2.l.length ≤ x.2.l.length + l.length
  | [], x => ⟨rfl, rfl, by simp⟩
  | s :: r, x => by
    rw [List.foldl_cons]
    have ih := A.rst_go r (if x.1 = 0 then A.restore x.2 s else x)
    by_cases hx : x.1 = 0
    · rw [if_pos hx] at ih ⊢
      have h1 := A.restore_pr x.2 s
      exact ⟨ih.1.trans h1.1, ih.2.1.trans h1.2.1, by have := ih.2.2; have := h1.2.2; rw [List.length_cons]; omega⟩
    · rw [if_neg hx] at ih ⊢
      exact ⟨ih.1, ih.2.1, by have := ih.2.2; rw [List.length_cons]; omega⟩
theorem A.rst_pr (a : A.Ac) (l : List A.Sd) : (A.rst a l).2.pr = a.pr ∧ (A.rst a l).2.fs = a.fs ∧ (A.rst a l).2.l.length ≤ a.l.length + l.length := A.rst_go l (0, a)
theorem At_.turn {I : Nat → Prop} {w w' : World} {p mb : Nat} {a : A.Ac} (h : At_ I w p mb a) (b : A.Bl) (fs : Int) (hf : Fr (fun k => k = p) w w') (hat : w'.heap[p]? = some (.cells #[.int .i64 b.1, .int .i64 b.2, .int .i64 fs, .map (some mb)] 90 (0, 0))) : At_ I w' p mb ⟨b, fs, a.l⟩ := by
  obtain ⟨h1, h2, h3, l, h4⟩ := h
  refine ⟨fun k hk => Nat.lt_of_lt_of_le (h1 k hk) hf.size, Nat.lt_of_lt_of_le h2 hf.size, Nat.lt_of_lt_of_le h3 hf.size, l, ⟨hat, h4.mp.kept hf (fun e => h4.ne e.symm), h4.ne, h4.np, h4.nm, fun q hq => ?_, h4.up, h4.ls, h4.sm⟩⟩
  obtain ⟨e1, e2, cs, e3, e4⟩ := h4.sl q hq
  exact ⟨e1, e2, cs, hf.cells e3 (fun e => h4.np (e ▸ e2)), e4.kept hf (fun i hi e => h4.np (e ▸ hi))⟩
/-- what From answers -/
def Fo (w : World) (R : Int × A.Ac) (r : Ending) (w' : World) : Prop := ∃ v, r = .returned (.tuple #[v, .int .i64 R.1]) ∧ ((R.1 ≠ 0 ∧ v = .pointer none) ∨ (R.1 = 0 ∧ ∃ p mb I, v = ptrV p ∧ w.heap.size ≤ p ∧ w.heap.size ≤ mb ∧ At_ I w' p mb R.2)) ∧ Fr (fun _ => False) w w'
theorem take_snoc {xs : List El} {k : Nat} {x : El} (hx : xs[k]? = some x) : (xs.map Prod.snd).take (k + 1) = (xs.map Prod.snd).take k ++ [x.2] := by
  rw [List.take_add_one, List.getElem?_map, hx]
  rfl
set_option maxHeartbeats 6400000 in
set_option maxRecDepth 20000 in
theorem acFrom_any {E : Nat → Prop} {w : World} {wa : Option Addr} {xs : List El} (h : Ls E w wa xs) (hE : ∀ k, E k → k < w.heap.size) (hl : xs.length ≤ 270000000000) (hs : ∀ x ∈ xs, -9223372036854775808 ≤ x.2.slot ∧ x.2.slot ≤ 9223372036854775807) (b1 b2 fs : Int) (c : Nat) :
    Calls Try.prog 18 #[.agg #[.int .i64 b1, .int .i64 b2], .int .i64 fs, .slice wa xs.length c] w fun r w' => Fo w (A.fromAll (b1, b2) fs (xs.map Prod.snd)) r w' := by
  obtain ⟨W, hW⟩ : ∃ W, w.alloc (.cells #[.int .i64 b1, .int .i64 b2] 27) = W := ⟨_, rfl⟩
  have f0 : Fr (fun _ => False) w W := by rw [← hW]; exact Fr.alloc (Fr.refl _ _) _
  have bb : W.heap[w.heap.size]? = some (.cells #[.int .i64 b1, .int .i64 b2] 27 (0, 0)) := by rw [← hW]; exact Go.heap_alloc_new w _
  have c1 : W.cell? ⟨w.heap.size, 0, none⟩ = some (.int .i64 b1) := cellA bb rfl
  have c2 : W.cell? ⟨w.heap.size, 1, none⟩ = some (.int .i64 b2) := cellA bb rfl
  have KC := hid (fun (V : World) => check_any b1 b2 V)
  have KS := hid (fun (V : World) => isSlot_any fs V)
  obtain ⟨n, hn⟩ : ∃ n, xs.length = n := ⟨_, rfl⟩
  obtain ⟨R, hR⟩ : ∃ R, A.fromAll (b1, b2) fs (xs.map Prod.snd) = R := ⟨_, rfl⟩
  rw [hR, hn]
  rw [hn] at hl
  unfold A.fromAll at hR
  simp only at hR
  generalize A.okB (b1, b2) = x1 at KC hR
  generalize A.okS fs = x2 at KS hR
  have HH := hid h
  have HE := hid hE
  have HS := hid hs
  have F0 := hid f0
  have BB := hid bb
  have HN := hid hn
  have HW := hid hW
  have bad : R = (1, A.new) → ∀ W', Fr (fun _ => False) w W' → Fo w R (.returned (.tuple #[.pointer none, .int .i64 1])) W' := by
    rintro rfl W' fW
    exact ⟨_, rfl, .inl ⟨by simp, rfl⟩, fW⟩
  have BAD := hid bad
  clear h hE hs f0 bb hn hW bad
  by_cases hok : ((b1 = 0 ∧ b2 = 0) ∨ x1 = true) ∧ x2 = true
  · rw [if_pos hok] at hR
    have HR := hid hR
    obtain ⟨hok1, rfl⟩ := hok
    clear hR
    have hz0 : (b1 = 0 ∧ b2 = 0) ∨ (¬ (b1 = 0 ∧ b2 = 0) ∧ x1 = true) := by
      by_cases h : b1 = 0 ∧ b2 = 0
      · exact .inl h
      · exact .inr ⟨h, hok1.resolve_left h⟩
    have hsp : ∀ (V w1 : World) (p mb : Nat), At_ (fun _ => False) w1 p mb A.new → ∀ V2, V2 = ((w1.setCell ⟨p, 0, none⟩ (.int .i64 b1)).setCell ⟨p, 1, none⟩ (.int .i64 b2)).setCell ⟨p, 2, none⟩ (.int .i64 fs) → At_ (fun _ => False) V2 p mb ⟨(b1, b2), fs, []⟩ ∧ Fr (fun k => k = p) w1 V2 := by
      rintro V w1 p mb hat V2 rfl
      have hf : Fr (fun k => k = p) w1 (((w1.setCell ⟨p, 0, none⟩ (.int .i64 b1)).setCell ⟨p, 1, none⟩ (.int .i64 b2)).setCell ⟨p, 2, none⟩ (.int .i64 fs)) := Fr.setCell (p := ⟨p, 2, none⟩) (S := fun k => k = p) Fr.setCell2 (fun _ => rfl) _
      exact ⟨hat.turn (b1, b2) fs hf (setCell_row (j := 2) (setCell_row (j := 1) (setCell_row (j := 0) hat.k (.int .i64 b1)) (.int .i64 b2)) (.int .i64 fs)), hf⟩
    have HSP := hid hsp
    clear hsp hok1
    have hnb : ∃ z : Bool, (∀ V : World, (binOp .neq 27 (.agg #[.int .i64 b1, .int .i64 b2]) (.agg #[.int .i64 0, .int .i64 0])).run Try.prog V = .ok (.bool z) V) ∧ (z = false ∨ x1 = true) := by
      rcases hz0 with ⟨rfl, rfl⟩ | ⟨h1, h2⟩
      · refine ⟨false, fun V => ?_, .inl rfl⟩
        rw [run_neq_struct]
        go_simp
      · exact ⟨true, fun V => neqBl h1 V, .inr h2⟩
    obtain ⟨z, hne, hzx⟩ := hnb
    have NE := hid hne
    have LDB := hid (fun (V : World) (hf : Fr (fun _ => False) W V) => ball_ld (V := V) (g := w.heap.size) (o := 0) (cellFr hf (fun h => h) c1) (cellFr hf (fun h => h) c2))
    generalize hvb : (Value.agg #[.int .i64 b1, .int .i64 b2] : Value) = vb at NE LDB
    try rw [← hvb]
    have HVB := hid hvb
    clear hz0 hne c1 c2 hvb
    cases z
    case' true => obtain rfl : x1 = true := hzx.resolve_left (by simp)
    all_goals
      go_enter Try.func18, Try.ntmps18
      go_upto_region 1 with fail
      rw [HW.out]
      go_wp2_with (first
        | (refine wpList_load_v (LDB.out _ (Fr.refl _ _)) (by exact ⟨_, rfl, rfl⟩) (by rfl) ?_)
        | (refine wpList_neq_v (NE.out _) (by exact ⟨_, _, _, rfl, rfl, rfl, by rw [← HVB.out]; exact guard_ne (by kernel_rfl) _ _ _ _ _⟩) (by kernel_rfl) ?_)
        | (go_at_call 33; rw [← HVB.out]; refine (KC.out _).mono ?_; rintro e w2 ⟨rfl, f2⟩; have F2 := hid f2; clear f2)
        | (go_at_call 38; refine (KS.out _).mono ?_; rintro e w3 ⟨rfl, rfl⟩))
      refine (acNew_any _).mono ?_
      rintro e w1 ⟨p, mb, rfl, hp, hm, hat, f1⟩
      have fW1 : Fr (fun _ => False) W w1 := by first | exact f1 | exact F2.out.trans f1 (fun _ _ h => h)
      have bb1 := fW1.cells BB.out (fun h => h)
      have hsW := fW1.size
      have hs0 := F0.out.size
      have hpw : w.heap.size ≤ p ∧ w.heap.size ≤ mb := by
        first
        | omega
        | (have := F2.out.size; omega)
      have hpb : w.heap.size ≠ p := by
        have h2 := lt_of_row BB.out
        first
        | omega
        | (have := F2.out.size; omega)
      have p0 : w1.cell? ⟨p, 0, none⟩ = some (.int .i64 0) := cellA hat.k rfl
      have p1 : w1.cell? ⟨p, 1, none⟩ = some (.int .i64 0) := cellA hat.k rfl
      have p2 : w1.cell? ⟨p, 2, none⟩ = some (.int .i64 0) := cellA hat.k rfl
      have z0 := frozen_of_row (j := 0) hat.k
      have z1 := frozen_of_row (j := 1) hat.k
      have z2 := frozen_of_row (j := 2) hat.k
      have d0 := cellA (j := 0) bb1 rfl
      have d1 := cellA (j := 1) bb1 rfl
      obtain ⟨hat2, f2'⟩ := HSP.out W w1 p mb hat _ rfl
      have HAT2 := hid hat2
      have FV := hid (show Fr (fun _ => False) w _ from (F0.out.trans fW1 (fun _ _ h => h)).trans f2' (fun i hi e => by omega))
      have HPW := hid hpw
      clear hp hm hat f1 fW1 bb1 hsW hs0 hpw hat2 f2'
      go_wp2_with fail
      go_loopw [36] (fun i wr => ∃ (k : Nat), k ≤ n ∧ i = .int .i64 k ∧ Hid (∃ I, At_ I wr p mb (A.rst ⟨(b1, b2), fs, []⟩ ((xs.map Prod.snd).take k)).2 ∧ (A.rst ⟨(b1, b2), fs, []⟩ ((xs.map Prod.snd).take k)).1 = 0 ∧ Fr (fun _ => False) w wr)) (fun i _ => n - (intOf i).toNat)
      case atStart => exact ⟨0, Nat.zero_le _, rfl, hid ⟨_, HAT2.out, rfl, FV.out⟩⟩
      case round =>
        clear p0 p1 p2 z0 z1 z2 d0 d1 HAT2 FV
        obtain ⟨k, hk, rfl, hall⟩ := hrel
        obtain ⟨I, hatk, hok0, hfr⟩ := hall.out
        by_cases hlt : k < n
        · obtain ⟨x, hx⟩ : ∃ x, xs[k]? = some x := ⟨_, List.getElem?_eq_getElem (by rw [HN.out]; exact hlt)⟩
          have hls := HH.out.fr hfr
          obtain ⟨g, o, rfl⟩ := hls.some_of (by rw [HN.out]; omega)
          obtain ⟨_, hld, hrs⟩ := hls.whole hx
          have hbd := HS.out x (List.mem_of_getElem? hx)
          have hsn := take_snoc hx
          have hrl := A.rst_pr ⟨(b1, b2), fs, []⟩ ((xs.map Prod.snd).take k)
          obtain ⟨cs, sd⟩ := x
          simp only at hld hrs hbd hsn
          have hz1 := hrs.size
          obtain ⟨V, st, hbV, fV⟩ := box_whole (V := wr.alloc (.cells zS59 79)) (c := cs) (Go.heap_alloc_new wr _) (by rw [hz1]; rfl) (by rw [hz1]; kernel_rfl) hrs.one
          have fW : Fr (fun _ => False) wr V := (Fr.alloc (Fr.refl (fun _ => False) wr) _).trans fV (fun i hi e => by omega)
          have KR := hid (acRestore_any (hatk.fr fW) (hrs.kept fW (fun _ _ h => h)) (by have := hrl.2.2; rw [List.length_take] at this; simp only [List.length_nil] at this; omega) hbd.1 hbd.2)
          have hst2 : A.rst ⟨(b1, b2), fs, []⟩ ((xs.map Prod.snd).take (k + 1)) = A.restore (A.rst ⟨(b1, b2), fs, []⟩ ((xs.map Prod.snd).take k)).2 sd := by rw [hsn, A.rst_snoc, if_pos hok0]
          rw [← hst2] at KR
          have LDV := hid (load_whole (ty := 79) hbV Try.underlying79 rfl (by rw [hz1]; kernel_rfl))
          have LD := hid hld
          have ST := hid st
          have FW := hid (hfr.trans fW (fun _ _ h => h))
          have i0 : (0 : Int) ≤ (k : Int) := by omega
          have i1 : (k : Int) < (n : Int) := by omega
          have HALL := hid (show A.rst ⟨(b1, b2), fs, []⟩ (xs.map Prod.snd) = A.rst ⟨(b1, b2), fs, []⟩ ((xs.map Prod.snd).take (k + 1) ++ (xs.map Prod.snd).drop (k + 1)) by rw [List.take_append_drop])
          obtain ⟨ee, hee⟩ : ∃ e, (A.rst ⟨(b1, b2), fs, []⟩ ((xs.map Prod.snd).take (k + 1))).1 = e := ⟨_, rfl⟩
          rw [hee] at KR
          have HEE := hid hee
          clear hx hls hld hrs hbd hsn hrl st hbV fV fW hst2 hatk hok0 hfr hall hee
          by_cases hez : ee = 0
          · subst hez
            go_wp2_with (first
              | (refine wpList_load_v LD.out (by exact ⟨_, rfl, rfl⟩) (by kernel_rfl) ?_)
              | (refine wpList_store_v (by exact ST.out) (by exact ⟨_, _, rfl, rfl, rfl⟩) (by kernel_rfl) ?_)
              | (refine wpList_load_v LDV.out (by exact ⟨_, rfl, rfl⟩) (by kernel_rfl) ?_)
              | (go_at_call 48; refine KR.out.mono ?_; rintro e w4 ⟨rfl, hat4, f4⟩; have AT4 := hid hat4; have F4 := hid f4; clear hat4 f4))
            have hpw := HPW.out
            have FIN := hid (show ∃ I, At_ I w4 p mb (A.rst ⟨(b1, b2), fs, []⟩ ((xs.map Prod.snd).take (k + 1))).2 ∧ (A.rst ⟨(b1, b2), fs, []⟩ ((xs.map Prod.snd).take (k + 1))).1 = 0 ∧ Fr (fun _ => False) w w4 from ⟨_, AT4.out, HEE.out, FW.out.trans F4.out (fun i hi e => by omega)⟩)
            go_roundw
            case rel => exact ⟨k + 1, by omega, by first | go_num | trivial, FIN⟩
            case measure => simp [intOf]; omega
          · have hez2 : (ee == 0) = false := by simpa using hez
            go_wp2_with (first
              | (refine wpList_load_v LD.out (by exact ⟨_, rfl, rfl⟩) (by kernel_rfl) ?_)
              | (refine wpList_store_v (by exact ST.out) (by exact ⟨_, _, rfl, rfl, rfl⟩) (by kernel_rfl) ?_)
              | (refine wpList_load_v LDV.out (by exact ⟨_, rfl, rfl⟩) (by kernel_rfl) ?_)
              | (go_at_call 48; refine KR.out.mono ?_; rintro e w4 ⟨rfl, hat4, f4⟩; have F4 := hid f4; clear hat4 f4))
            go_ret2
            have hpw := HPW.out
            have hRR : R.1 = ee := by
              rw [← HR.out, HALL.out, A.rst_err (by rw [HEE.out]; exact hez), HEE.out]
            exact ⟨_, by rw [hRR]; rfl, .inl ⟨by rw [hRR]; exact hez, rfl⟩, FW.out.trans F4.out (fun i hi e => by omega)⟩
        · obtain rfl : k = n := by omega
          have HAT := hid hatk
          have HFR := hid hfr
          have HOK := hid hok0
          clear hatk hfr hok0 hall
          go_wp2
          go_ret2
          have htk : (xs.map Prod.snd).take k = xs.map Prod.snd := List.take_of_length_le (by rw [List.length_map, HN.out]; exact Nat.le_refl _)
          have h1 := HAT.out
          have h2 := HOK.out
          rw [htk, HR.out] at h1 h2
          exact ⟨_, by rw [h2]; rfl, .inr ⟨h2, p, mb, I, rfl, HPW.out.1, HPW.out.2, h1⟩, HFR.out⟩
  · rw [if_neg hok] at hR
    have HR := hid hR.symm
    clear hR
    have hnb : ∃ z : Bool, (∀ V : World, (binOp .neq 27 (.agg #[.int .i64 b1, .int .i64 b2]) (.agg #[.int .i64 0, .int .i64 0])).run Try.prog V = .ok (.bool z) V) ∧ (z = false ∧ x2 = false ∨ z = true ∧ x1 = false ∨ z = true ∧ x1 = true ∧ x2 = false) := by
      by_cases hz : b1 = 0 ∧ b2 = 0
      · obtain ⟨rfl, rfl⟩ := hz
        refine ⟨false, fun V => ?_, .inl ⟨rfl, ?_⟩⟩
        · rw [run_neq_struct]
          go_simp
        · cases x2
          · rfl
          · exact absurd ⟨.inl ⟨rfl, rfl⟩, rfl⟩ hok
      · refine ⟨true, fun V => neqBl hz V, .inr ?_⟩
        cases x1
        · exact .inl ⟨rfl, rfl⟩
        · cases x2
          · exact .inr ⟨rfl, rfl, rfl⟩
          · exact absurd ⟨.inr rfl, rfl⟩ hok
    obtain ⟨z, hne, hzx⟩ := hnb
    have NE := hid hne
    have LDB := hid (fun (V : World) (hf : Fr (fun _ => False) W V) => ball_ld (V := V) (g := w.heap.size) (o := 0) (cellFr hf (fun h => h) c1) (cellFr hf (fun h => h) c2))
    generalize hvb : (Value.agg #[.int .i64 b1, .int .i64 b2] : Value) = vb at NE LDB
    try rw [← hvb]
    have HVB := hid hvb
    clear hne c1 c2 hvb hok
    rcases hzx with ⟨rfl, rfl⟩ | ⟨rfl, rfl⟩ | ⟨rfl, rfl, rfl⟩
    all_goals
      go_enter Try.func18, Try.ntmps18
      go_upto_region 1 with fail
      rw [HW.out]
      go_wp2_with (first
        | (refine wpList_load_v (LDB.out _ (Fr.refl _ _)) (by exact ⟨_, rfl, rfl⟩) (by rfl) ?_)
        | (refine wpList_neq_v (NE.out _) (by exact ⟨_, _, _, rfl, rfl, rfl, by rw [← HVB.out]; exact guard_ne (by kernel_rfl) _ _ _ _ _⟩) (by kernel_rfl) ?_)
        | (go_at_call 33; rw [← HVB.out]; refine (KC.out _).mono ?_; rintro e w2 ⟨rfl, f2⟩; have F2 := hid f2; clear f2)
        | (go_at_call 38; refine (KS.out _).mono ?_; rintro e w3 ⟨rfl, rfl⟩))
      go_ret2
      first
      | exact BAD.out HR.out _ F0.out
      | exact BAD.out HR.out _ (F0.out.trans F2.out (fun _ _ h => h))
end Go.Proofs.Ytedhmhlhjonloaa
