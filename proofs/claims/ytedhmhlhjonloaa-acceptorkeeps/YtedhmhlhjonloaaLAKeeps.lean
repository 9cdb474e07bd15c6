/-
  AcceptorKeeps, over any script. (gen/gen_lakeeps.py)
-/
import Derived.Test.YtedhmhlhjonloaaAKeep0
import Derived.Test.YtedhmhlhjonloaaAKeep1
import Derived.Test.YtedhmhlhjonloaaAKeep2
import Derived.Test.YtedhmhlhjonloaaAKeep3
namespace Go.Proofs.Ytedhmhlhjonloaa
open Go.RowKit Go.Maps
set_option linter.unusedVariables false
set_option linter.unusedSimpArgs false

theorem A.cmp_self (b : A.Bl) : ¬ A.cmp b b < 0 := by
  rw [A.cmp_lt]
  unfold A.le
  simp
theorem A.cmp_le {a b : A.Bl} (h : A.le a b = true) : ¬ A.cmp b a < 0 := by
  rw [A.cmp_lt, h]
  simp
/-- what is promised never falls -/
theorem A.op_pr (a : A.Ac) (o : A.Lop) : ¬ A.cmp (A.op a o).pr a.pr < 0 := by
  unfold A.op
  split
  · unfold A.prepare
    split
    · exact A.cmp_self _
    · rename_i h
      exact A.cmp_le (A.judge_ok (a := a) (b := o.bl) (slot := o.slot) (Decidable.not_not.1 h)).2.2
  · split
    · unfold A.accept
      split
      · exact A.cmp_self _
      · rename_i h
        split
        · exact A.cmp_self _
        · exact A.cmp_le (A.judge_ok (a := a) (b := o.bl) (slot := o.slot) (Decidable.not_not.1 h)).2.2
    · split
      · unfold A.forget
        split
        · exact A.cmp_self _
        · exact A.cmp_self _
      · exact A.cmp_self _
theorem A.op_len (a : A.Ac) (o : A.Lop) : (A.op a o).l.length ≤ a.l.length + 1 := by
  unfold A.op
  split
  · rw [A.prepare_l]; omega
  · split
    · exact A.accept_l _ _ _ _
    · split
      · have := A.forget_l a o.slot; omega
      · omega
theorem A.judge_low {a : A.Ac} {b : A.Bl} {slot : Int} (hc : A.cmp b a.pr < 0) (h1 : A.okB b = true) (h2 : A.okS slot = true) : A.judge a b slot = 70 := by
  have := A.cmp_lt.1 hc
  unfold A.judge
  simp [h1, h2, this]
theorem A.prepare_low {a : A.Ac} {b : A.Bl} {slot : Int} (h : A.judge a b slot = 70) : (A.prepare a b slot).1 = 70 ∧ (A.prepare a b slot).2.2 = a := by
  unfold A.prepare
  simp [h]
theorem A.accept_low {a : A.Ac} {b : A.Bl} {slot : Int} (h : A.judge a b slot = 70) (e : A.En) : (A.accept a b slot e).1 = 70 := by
  unfold A.accept
  simp [h]
theorem re_zero (w : World) : Re (fun _ => False) w zE56.toList ⟨zE56.toList, [], []⟩ := by
  refine ⟨⟨rfl, fun j v hv => ?_, fun o ho => by simp at ho, by simp, by simp⟩, none, 0, none, 0, rfl, ⟨rfl, .inl rfl⟩, ⟨rfl, .inl rfl⟩⟩
  have hj : j < 56 := (List.getElem?_eq_some_iff.1 hv).1
  iterate 56
    rcases j with _ | j
    · first
      | (obtain rfl := Option.some.inj (show some (Value.int .i64 0) = some v from hv); exact (show A.vOk 0 _ from ⟨0, rfl⟩))
      | (obtain rfl := Option.some.inj (show some (Value.string ⟨#[]⟩) = some v from hv); exact (show A.vOk 1 _ from ⟨_, rfl⟩))
      | (obtain rfl := Option.some.inj (show some (Value.slice none 0 0) = some v from hv); exact (show A.vOk 2 _ from rfl))
  omega
theorem keep_all {I J E : Nat → Prop} {w : World} {p mb q : Nat} {a r : A.Ac} (h : Bk I J w p mb q a r) {cs : Array Value} {o : A.Lop} (hc : Rl E w cs o) (hE : ¬ E p ∧ ¬ E mb ∧ ¬ E q) (hl : a.l.length < 300000000000) (hr : r.l.length < 300000000000) :
    Calls Try.prog 14 #[ptrV p, ptrV q, .agg cs] w fun e w' => Dk I w p mb q (A.op a o) e w' := by
  unfold A.op
  by_cases h0 : o.kind = 0
  · rw [if_pos h0]; exact keep_0 h hc hE hl hr h0
  · rw [if_neg h0]
    by_cases h1 : o.kind = 1
    · rw [if_pos h1]; exact keep_1 h hc hE hl hr h1
    · rw [if_neg h1]
      by_cases h2 : o.kind = 2
      · rw [if_pos h2]; exact keep_2 h hc hE hl hr h2
      · rw [if_neg h2]
        by_cases h3 : o.kind = 3
        · exact keep_3 h hc hE hl hr h3
        · exact keep_other h hc hE hl hr ⟨h0, h1, h2, h3⟩
set_option maxHeartbeats 8000000 in
set_option maxRecDepth 20000 in
theorem acceptorKeeps_walk {w : World} (sa : Option Addr) (n c : Nat) (os : List Lo) (hz : Lz (fun g => g < w.heap.size) w sa os) (hn : os.length = n) (hb : n ≤ 270000000000) (b1 b2 slot : Int) :
    Calls Try.prog 5 #[.slice sa n c, .agg #[.int .i64 b1, .int .i64 b2], .int .i64 slot] w fun e w' => e = .returned (.bool true) ∧ Below w.heap.size w w' := by
  have hmx : Try.prog.follows .mixedOrders = true := by kernel_rfl
  have HZ := hid hz
  have HN := hid hn
  clear hz hn
  have F00 : Hid (Fr (fun _ => False) w (w.alloc (.cells #[.int .i64 b1, .int .i64 b2] 27))) := hid (Fr.alloc (Fr.refl _ _) _)
  have BB0 : Hid ((w.alloc (.cells #[.int .i64 b1, .int .i64 b2] 27)).heap[w.heap.size]? = some (.cells #[.int .i64 b1, .int .i64 b2] 27 (0, 0))) := hid (Go.heap_alloc_new w _)
  have HS0 : Hid ((w.alloc (.cells #[.int .i64 b1, .int .i64 b2] 27)).heap.size = w.heap.size + 1) := hid (by simp)
  go_enter Try.func5, Try.ntmps5
  go_wp2_with (first
    | (go_at_call 9; refine (acNew_any _).mono ?_; rintro e w1 ⟨p, mb, rfl, hp, hm, hat, f1⟩; have AT0 := hid hat; have F1 := hid f1; have HPM := hid (And.intro hp hm); clear hat f1 hp hm)
    | (go_at_call 10; refine (live_any _).mono ?_; rintro e w2 ⟨rfl, f2⟩; have F2 := hid f2; clear f2))
  have FWA : Hid (Fr (fun _ => False) w w2) := hid ((F00.out.trans F1.out (fun _ _ h => h)).trans F2.out (fun _ _ h => h))
  have BB1 : Hid (w2.heap[w.heap.size]? = some (.cells #[.int .i64 b1, .int .i64 b2] 27 (0, 0))) := hid (F2.out.cells (F1.out.cells BB0.out (fun h => h)) (fun h => h))
  have HPQ : Hid (w.heap.size < p ∧ w.heap.size < mb) := hid (by have := HPM.out; have := HS0.out; omega)
  have AT1 := hid (AT0.out.fr F2.out)
  clear HPM AT0 F1 F2 F00 BB0 HS0
  go_loopw [24] (fun i wr => ∃ (k : Nat), k ≤ n ∧ i = .int .i64 k ∧ Hid (∃ I a, At_ I wr p mb a ∧ a.l.length ≤ k ∧ Fr (fun _ => False) w wr ∧ wr.heap[w.heap.size]? = some (.cells #[.int .i64 b1, .int .i64 b2] 27 (0, 0)))) (fun i _ => n - (intOf i).toNat)
  case atStart => exact ⟨0, Nat.zero_le _, rfl, hid ⟨_, _, AT1.out, by simp [A.new], FWA.out, BB1.out⟩⟩
  case round =>
    clear AT1 FWA BB1
    obtain ⟨k, hk, rfl, hall⟩ := hrel
    by_cases hlt : k < n
    · obtain ⟨I, a, hat, hal, hfr, hbb⟩ := hall.out
      obtain ⟨x, hx⟩ : ∃ x, os[k]? = some x := ⟨_, List.getElem?_eq_getElem (by rw [HN.out]; exact hlt)⟩
      have hzr := HZ.out.fr hfr
      obtain ⟨g, o, rfl, hld⟩ := hzr.at hx
      have hrl := hzr.el x (List.mem_of_getElem? hx)
      obtain ⟨cs, op⟩ := x
      simp only at hld hrl
      have hsz := hrl.size
      obtain ⟨V, st, hbV, fV⟩ := box_whole (V := wr.alloc (.cells zL61 48)) (c := cs) (Go.heap_alloc_new wr _) (by rw [hsz]; rfl) (by rw [hsz]; kernel_rfl) hrl.one
      have fW : Fr (fun _ => False) wr V := (Fr.alloc (Fr.refl (fun _ => False) wr) _).trans fV (fun i hi e => by omega)
      have i0 : (0 : Int) ≤ (k : Int) := by omega
      have i1 : (k : Int) < (n : Int) := by omega
      have LD := hid hld
      have ST := hid st
      have LDV := hid (fun (V' : World) (hV : V'.heap[wr.heap.size]? = some (.cells cs 48 (0, 0))) => load_whole (ty := 48) hV Try.underlying48 rfl (by rw [hsz]; kernel_rfl))
      have HBV := hid hbV
      have FW := hid (hfr.trans fW (fun _ _ h => h))
      have HBB := hid (fW.cells hbb (fun h => h))
      have HRL := hid (hrl.kept fW (fun _ _ h => h))
      have HAT := hid (hat.fr fW)
      have HAL := hid hal
      have HSZ := hid (show p < wr.heap.size ∧ mb < wr.heap.size ∧ w.heap.size ≤ wr.heap.size from ⟨hat.2.1, hat.2.2.1, hfr.size⟩)
      clear hx hzr hld hrl st hbV fV fW hat hal hfr hall hbb
      go_wp2_with (first
        | (refine wpList_load_v LD.out (by exact ⟨_, rfl, rfl⟩) (by kernel_rfl) ?_)
        | (refine wpList_store_v (by exact ST.out) (by exact ⟨_, _, rfl, rfl, rfl⟩) (by kernel_rfl) ?_))
      refine (acPromised_any HAT.out).mono ?_
      rintro e w3 ⟨rfl, f3⟩
      obtain ⟨V4, st4, hb4, f4⟩ := box_whole (V := w3.alloc (.cells #[.int .i64 0, .int .i64 0] 27)) (c := #[.int .i64 a.pr.1, .int .i64 a.pr.2]) (Go.heap_alloc_new w3 _) rfl (by kernel_rfl) (by simp [Value.oneCell'])
      have f34 : Fr (fun _ => False) w3 V4 := (Fr.alloc (Fr.refl (fun _ => False) w3) _).trans f4 (fun i hi e => by omega)
      have fV4 := f3.trans f34 (fun _ _ h => h)
      have f45 : Fr (fun _ => False) V4 (V4.alloc (.cells #[.int .i64 0, .int .i64 0, .int .i64 0, .slice none 0 0] 30)) := Fr.alloc (Fr.refl _ _) _
      have s34 := f34.size
      have sV := f3.size
      have sW := FW.out.size
      have hV4 : w3.heap.size < V4.heap.size := (List.getElem?_eq_some_iff.1 (by simpa using hb4)).1
      have bk : Bk I (fun _ => False) (V4.alloc (.cells #[.int .i64 0, .int .i64 0, .int .i64 0, .slice none 0 0] 30)) p mb V4.heap.size a A.new :=
        ⟨(HAT.out.fr fV4).fr f45, rg_new V4, fun h => h, fun h => h, fun h => by have := HAT.out.1 _ h; omega, by have := HAT.out.2.1; omega, by have := HAT.out.2.2.1; omega⟩
      have KD := hid (keep_all bk ((HRL.out.kept fV4 (fun _ _ h => h)).kept f45 (fun _ _ h => h)) (by have := HPQ.out; omega) (by have := HAL.out; omega) (by simp [A.new]))
      have LD5 := hid (LDV.out _ (f45.cells (fV4.cells HBV.out (fun h => h)) (fun h => h)))
      have ST4 := hid st4
      have F05 := hid ((FW.out.trans fV4 (fun _ _ h => h)).trans f45 (fun _ _ h => h))
      have HBB5 := hid (f45.cells (fV4.cells HBB.out (fun h => h)) (fun h => h))
      have HB5 := hid (f45.cells hb4 (fun h => h))
      have HQ := hid (show p < w3.heap.size ∧ mb < w3.heap.size ∧ w3.heap.size < V4.heap.size ∧ w.heap.size ≤ w3.heap.size by have := HAT.out.2.1; have := HAT.out.2.2.1; omega)
      obtain ⟨a', ha'⟩ : ∃ a', A.op a op = a' := ⟨_, rfl⟩
      have hc0 : ¬ A.cmp (a'.pr.1, a'.pr.2) (a.pr.1, a.pr.2) < 0 := by rw [← ha']; exact A.op_pr a op
      have hal' : a'.l.length ≤ k + 1 := by rw [← ha']; have := A.op_len a op; have := HAL.out; omega
      have HAL' := hid hal'
      rw [ha'] at KD
      have KC := hid (fun W => rcompare_any a'.pr.1 a'.pr.2 a.pr.1 a.pr.2 W)
      generalize A.cmp (a'.pr.1, a'.pr.2) (a.pr.1, a.pr.2) = c0 at KC hc0
      obtain ⟨r1, hr1⟩ : ∃ r1, a.pr.1 = r1 := ⟨_, rfl⟩
      obtain ⟨r2, hr2⟩ : ∃ r2, a.pr.2 = r2 := ⟨_, rfl⟩
      rw [hr1, hr2] at ST4 HB5 KC
      unfold A.bv
      rw [hr1, hr2]
      unfold ptrV at KD
      obtain ⟨g4, hg4⟩ : ∃ g4, w3.heap.size = g4 := ⟨_, rfl⟩
      rw [hg4] at ST4 HB5 HQ
      have HG4 := hid hg4
      clear f3 st4 hb4 f4 f34 fV4 f45 s34 sV sW hV4 bk ha' hal' hg4
      go_wp2_with (first
        | (rw [HG4.out]; refine wpList_store_v (by exact ST4.out) (by exact ⟨_, _, rfl, rfl, rfl⟩) (by kernel_rfl) ?_)
        | (refine wpList_load_v LD5.out (by exact ⟨_, rfl, rfl⟩) (by kernel_rfl) ?_))
      refine KD.out.mono ?_
      rintro e w6 ⟨⟨z, rfl⟩, hat6, f6⟩
      have hbx6 := f6.cells HB5.out (fun e => by have := HQ.out; rcases e with e | e | e <;> omega)
      have KP := hid (fun (V' : World) (hf : Fr (fun _ => False) w6 V') => acPromised_any (hat6.fr hf))
      have HB := hid (fun (V' : World) (hf : Fr (fun _ => False) w6 V') => And.intro (cellA (j := 0) (hf.cells hbx6 (fun h => h)) rfl) (cellA (j := 1) (hf.cells hbx6 (fun h => h)) rfl))
      have FIN : Hid (∀ V', Fr (fun _ => False) w6 V' → ∃ I a, At_ I V' p mb a ∧ a.l.length ≤ k + 1 ∧ Fr (fun _ => False) w V' ∧ V'.heap[w.heap.size]? = some (.cells #[.int .i64 b1, .int .i64 b2] 27 (0, 0))) := hid (fun V' hf => ⟨_, a', hat6.fr hf, HAL'.out, (F05.out.trans f6 (fun i hi e => by have := HQ.out; have := HPQ.out; rcases e with e | e | e <;> omega)).trans hf (fun _ _ h => h), hf.cells (f6.cells HBB5.out (fun e => by have := HQ.out; have := HPQ.out; rcases e with e | e | e <;> omega)) (fun h => h)⟩)
      clear hat6 f6 hbx6
      clear KD LD5 LD ST ST4 LDV HBV FW HBB HRL HAT HAL HSZ F05 HBB5 HB5
      go_wp2_with fail
      refine wp_region_held (S := fun V => Fr (fun _ => False) w6 V) hmx ?_
      have hS : Fr (fun _ => False) w6 w6.drew := Fr.drew (Fr.refl _ _)
      simp only [List.size_toArray, List.length_cons, List.length_nil, Nat.reduceAdd, Array.replicate_succ, Array.replicate_zero, List.push_toArray, List.nil_append, List.cons_append]
      refine wpAnyH_take (i := 0) (v := ?_) rfl (by kernel_rfl) (by kernel_rfl) (by kernel_rfl) (fun _ _ _ h => h) (Or.inl ⟨by kernel_rfl, ?_⟩) hS ?_
      rotate_left 1
      · (intro w' hS'; clear hS'; go_simp; try with_reducible rfl)
      simp only [List.getElem_toArray, List.getElem_cons_zero, List.getElem_cons_succ, Act.put, List.setIfInBounds_toArray, List.set_cons_zero, List.set_cons_succ]
      refine wpAnyH_take (i := 2) (v := ?_) rfl (by kernel_rfl) (by kernel_rfl) (by kernel_rfl) (fun _ _ _ h => h) (Or.inl ⟨by kernel_rfl, ?_⟩) hS ?_
      rotate_left 1
      · (intro w' hS'; have h1 := (HB.out w' hS').1; have h2 := (HB.out w' hS').2; clear hS'; go_simp; try with_reducible rfl)
      simp only [List.getElem_toArray, List.getElem_cons_zero, List.getElem_cons_succ, Act.put, List.setIfInBounds_toArray, List.set_cons_zero, List.set_cons_succ]
      refine wpAnyH_ready (rs := [1]) (by kernel_rfl) (by simp) ?_
      refine AllReadyH.cons rfl (fun K1 hK1 => ?_) AllReadyH.nil
      go_simp
      refine (KP.out _ hS).mono ?_
      rintro e w91 ⟨rfl, f91⟩
      refine hK1.out _ _ (hS.trans f91 (fun _ _ h => h)) (fun hS => ?_)
      clear f91
      clear hK1 K1
      simp only [List.getElem_toArray, List.getElem_cons_zero, List.getElem_cons_succ, Act.put, List.setIfInBounds_toArray, List.set_cons_zero, List.set_cons_succ]
      refine wpAnyH_ready (rs := [3]) (by kernel_rfl) (by simp) ?_
      refine AllReadyH.cons rfl (fun K1 hK1 => ?_) AllReadyH.nil
      go_simp
      refine (KC.out _).mono ?_
      rintro e w92 ⟨rfl, f92⟩
      refine hK1.out _ _ (hS.trans f92 (fun _ _ h => h)) (fun hS => ?_)
      clear f92
      clear hK1 K1
      simp only [List.getElem_toArray, List.getElem_cons_zero, List.getElem_cons_succ, Act.put, List.setIfInBounds_toArray, List.set_cons_zero, List.set_cons_succ]
      refine wpAnyH_take (i := 4) (v := .bool false) rfl (by kernel_rfl) (by kernel_rfl) (by kernel_rfl) (fun _ _ _ h => h) (Or.inl ⟨by kernel_rfl, fun w' hS' => by clear hS'; go_simp⟩) hS ?_
      simp only [List.getElem_toArray, List.getElem_cons_zero, List.getElem_cons_succ, Act.put, List.setIfInBounds_toArray, List.set_cons_zero, List.set_cons_succ]
      refine wpAnyH_done (by kernel_rfl) ?_ _
      have FS := hid hS
      clear hS
      go_wp2
      go_roundw
      case rel => exact ⟨k + 1, by omega, by first | go_num | trivial, hid (FIN.out _ FS.out)⟩
      case measure => simp [intOf]; omega
    · obtain rfl : k = n := by omega
      obtain ⟨I, a, hat, hal, hfr, hbb⟩ := hall.out
      obtain ⟨W, hW⟩ : ∃ W, wr = W := ⟨_, rfl⟩
      subst hW
      have AT := hid hat
      have HAL := hid (show a.l.length ≤ 270000000000 by omega)
      have F0 := hid hfr
      have HNE := hid (show w.heap.size ≠ p ∧ w.heap.size < p ∧ w.heap.size < mb by have := HPQ.out; omega)
      have HBB := hid (fun (V' : World) (hf : Fr (fun _ => False) wr V') => hf.cells hbb (fun h => h))
      have HB := hid (fun (V' : World) (hf : Fr (fun _ => False) wr V') => And.intro (cellA (j := 0) (hf.cells hbb (fun h => h)) rfl) (cellA (j := 1) (hf.cells hbb (fun h => h)) rfl))
      have KP := hid (fun (V' : World) (hf : Fr (fun _ => False) wr V') => acPromised_any (hat.fr hf))
      have KC := hid (fun W => rcompare_any b1 b2 a.pr.1 a.pr.2 W)
      have KK := hid (fun W => rcheck_any b1 b2 W)
      have KS := hid (fun W => rslot_any slot W)
      have HJ0 := hid (fun h1 h2 h3 => A.judge_low (a := a) (b := (b1, b2)) (slot := slot) h1 h2 h3)
      change Hid (A.cmp (b1, b2) (a.pr.1, a.pr.2) < 0 → _) at HJ0
      generalize A.cmp (b1, b2) (a.pr.1, a.pr.2) = c0 at KC HJ0
      generalize A.okB (b1, b2) = y1 at KK HJ0
      generalize A.okS slot = y2 at KS HJ0
      clear hat hal hfr hall hbb
      generalize wr = W at *
      go_wp2_with fail
      by_cases hc : c0 < 0
      · cases y1 with
        | false =>
          refine wp_region_held (S := fun V => Fr (fun _ => False) W V) hmx ?_
          have hS : Fr (fun _ => False) W W.drew := Fr.drew (Fr.refl _ _)
          simp only [List.size_toArray, List.length_cons, List.length_nil, Nat.reduceAdd, Array.replicate_succ, Array.replicate_zero, List.push_toArray, List.nil_append, List.cons_append]
          refine wpAnyH_take (i := 0) (v := ?_) rfl (by kernel_rfl) (by kernel_rfl) (by kernel_rfl) (fun _ _ _ h => h) (Or.inl ⟨by kernel_rfl, ?_⟩) hS ?_
          rotate_left 1
          · (intro w' hS'; have h1 := (HB.out w' hS').1; have h2 := (HB.out w' hS').2; clear hS'; go_simp; try with_reducible rfl)
          simp only [List.getElem_toArray, List.getElem_cons_zero, List.getElem_cons_succ, Act.put, List.setIfInBounds_toArray, List.set_cons_zero, List.set_cons_succ]
          refine wpAnyH_take (i := 1) (v := ?_) rfl (by kernel_rfl) (by kernel_rfl) (by kernel_rfl) (fun _ _ _ h => h) (Or.inl ⟨by kernel_rfl, ?_⟩) hS ?_
          rotate_left 1
          · (intro w' hS'; clear hS'; go_simp; try with_reducible rfl)
          simp only [List.getElem_toArray, List.getElem_cons_zero, List.getElem_cons_succ, Act.put, List.setIfInBounds_toArray, List.set_cons_zero, List.set_cons_succ]
          refine wpAnyH_ready (rs := [2]) (by kernel_rfl) (by simp) ?_
          refine AllReadyH.cons rfl (fun K1 hK1 => ?_) AllReadyH.nil
          go_simp
          refine (KP.out _ hS).mono ?_
          rintro e w91 ⟨rfl, f91⟩
          refine hK1.out _ _ (hS.trans f91 (fun _ _ h => h)) (fun hS => ?_)
          clear f91
          clear hK1 K1
          simp only [List.getElem_toArray, List.getElem_cons_zero, List.getElem_cons_succ, Act.put, List.setIfInBounds_toArray, List.set_cons_zero, List.set_cons_succ]
          refine wpAnyH_ready (rs := [3]) (by kernel_rfl) (by simp) ?_
          refine AllReadyH.cons rfl (fun K1 hK1 => ?_) AllReadyH.nil
          go_simp
          refine (KC.out _).mono ?_
          rintro e w92 ⟨rfl, f92⟩
          refine hK1.out _ _ (hS.trans f92 (fun _ _ h => h)) (fun hS => ?_)
          clear f92
          clear hK1 K1
          simp only [List.getElem_toArray, List.getElem_cons_zero, List.getElem_cons_succ, Act.put, List.setIfInBounds_toArray, List.set_cons_zero, List.set_cons_succ]
          refine wpAnyH_take (i := 4) (v := .bool true) rfl (by kernel_rfl) (by kernel_rfl) (by kernel_rfl) (fun _ _ _ h => h) (Or.inl ⟨by kernel_rfl, fun w' hS' => by clear hS'; go_simp⟩) hS ?_
          simp only [List.getElem_toArray, List.getElem_cons_zero, List.getElem_cons_succ, Act.put, List.setIfInBounds_toArray, List.set_cons_zero, List.set_cons_succ]
          refine wpAnyH_take (i := 5) (v := ?_) rfl (by kernel_rfl) (by kernel_rfl) (by kernel_rfl) (fun _ _ _ h => h) (Or.inl ⟨by kernel_rfl, ?_⟩) hS ?_
          rotate_left 1
          · (intro w' hS'; clear hS'; go_simp; try with_reducible rfl)
          simp only [List.getElem_toArray, List.getElem_cons_zero, List.getElem_cons_succ, Act.put, List.setIfInBounds_toArray, List.set_cons_zero, List.set_cons_succ]
          refine wpAnyH_take (i := 6) (v := ?_) rfl (by kernel_rfl) (by kernel_rfl) (by kernel_rfl) (fun _ _ _ h => h) (Or.inl ⟨by kernel_rfl, ?_⟩) hS ?_
          rotate_left 1
          · (intro w' hS'; have h1 := (HB.out w' hS').1; have h2 := (HB.out w' hS').2; clear hS'; go_simp; try with_reducible rfl)
          simp only [List.getElem_toArray, List.getElem_cons_zero, List.getElem_cons_succ, Act.put, List.setIfInBounds_toArray, List.set_cons_zero, List.set_cons_succ]
          refine wpAnyH_ready (rs := [7]) (by kernel_rfl) (by simp) ?_
          refine AllReadyH.cons rfl (fun K1 hK1 => ?_) AllReadyH.nil
          go_simp
          refine (KK.out _).mono ?_
          rintro e w93 ⟨rfl, f93⟩
          refine hK1.out _ _ (hS.trans f93 (fun _ _ h => h)) (fun hS => ?_)
          clear f93
          clear hK1 K1
          simp only [List.getElem_toArray, List.getElem_cons_zero, List.getElem_cons_succ, Act.put, List.setIfInBounds_toArray, List.set_cons_zero, List.set_cons_succ]
          refine wpAnyH_take (i := 8) (v := .bool false) rfl (by kernel_rfl) (by kernel_rfl) (by kernel_rfl) (fun _ _ _ h => h) (Or.inl ⟨by kernel_rfl, fun w' hS' => by clear hS'; go_simp⟩) hS ?_
          simp only [List.getElem_toArray, List.getElem_cons_zero, List.getElem_cons_succ, Act.put, List.setIfInBounds_toArray, List.set_cons_zero, List.set_cons_succ]
          refine wpAnyH_take (i := 9) (v := ?_) rfl (by kernel_rfl) (by kernel_rfl) (by kernel_rfl) (fun _ _ _ h => h) (Or.inl ⟨by kernel_rfl, ?_⟩) hS ?_
          rotate_left 1
          · (intro w' hS'; clear hS'; go_simp; try with_reducible rfl)
          simp only [List.getElem_toArray, List.getElem_cons_zero, List.getElem_cons_succ, Act.put, List.setIfInBounds_toArray, List.set_cons_zero, List.set_cons_succ]
          refine wpAnyH_take (i := 10) (v := undef) rfl (by kernel_rfl) (by kernel_rfl) (by kernel_rfl) (fun _ _ _ h => h) (Or.inr ⟨by kernel_rfl, rfl⟩) hS ?_
          simp only [List.getElem_toArray, List.getElem_cons_zero, List.getElem_cons_succ, Act.put, List.setIfInBounds_toArray, List.set_cons_zero, List.set_cons_succ]
          refine wpAnyH_take (i := 11) (v := undef) rfl (by kernel_rfl) (by kernel_rfl) (by kernel_rfl) (fun _ _ _ h => h) (Or.inr ⟨by kernel_rfl, rfl⟩) hS ?_
          simp only [List.getElem_toArray, List.getElem_cons_zero, List.getElem_cons_succ, Act.put, List.setIfInBounds_toArray, List.set_cons_zero, List.set_cons_succ]
          refine wpAnyH_take (i := 12) (v := .bool false) rfl (by kernel_rfl) (by kernel_rfl) (by kernel_rfl) (fun _ _ _ h => h) (Or.inl ⟨by kernel_rfl, fun w' hS' => by clear hS'; go_simp⟩) hS ?_
          simp only [List.getElem_toArray, List.getElem_cons_zero, List.getElem_cons_succ, Act.put, List.setIfInBounds_toArray, List.set_cons_zero, List.set_cons_succ]
          refine wpAnyH_take (i := 13) (v := ?_) rfl (by kernel_rfl) (by kernel_rfl) (by kernel_rfl) (fun _ _ _ h => h) (Or.inl ⟨by kernel_rfl, ?_⟩) hS ?_
          rotate_left 1
          · (intro w' hS'; clear hS'; go_simp; try with_reducible rfl)
          simp only [List.getElem_toArray, List.getElem_cons_zero, List.getElem_cons_succ, Act.put, List.setIfInBounds_toArray, List.set_cons_zero, List.set_cons_succ]
          refine wpAnyH_done (by kernel_rfl) ?_ _
          have ATT := hid (AT.out.fr hS)
          have FS := hid hS
          obtain ⟨h1, h2⟩ := HB.out _ hS
          clear hS
          go_wp2_with fail
          refine (acPrepare_any ATT.out b1 b2 slot (by have := HAL.out; omega)).mono ?_
          rintro e w3 ⟨ra, rc, xs, rfl, _, _, hat3, f3⟩
          have hb3 := HBB.out _ FS.out
          have hb4 := f3.cells hb3 (fun e => HNE.out.1 e)
          have h3 := cellA (j := 0) hb4 rfl
          have h4 := cellA (j := 1) hb4 rfl
          have AT3 := hid hat3
          have F3 := hid f3
          generalize hpe : (A.prepare a (b1, b2) slot) = pe at AT3 ⊢
          have HPE := hid hpe
          clear hat3 f3 hb3 hb4 hpe h1 h2
          go_wp2_with (first
            | (go_at_call 12; refine (acAccept_any (J := fun _ => False) (e := ⟨zE56.toList, [], []⟩) AT3.out b1 b2 slot (ec := zE56.toList) (re_zero _) (by have := HAL.out; rw [← HPE.out, A.prepare_l]; omega) (fun h => h)).mono ?_; rintro e w4 ⟨rfl, hat4, f4⟩; have F4 := hid f4; clear hat4 f4; generalize (A.accept pe.2.2 (b1, b2) slot ⟨zE56.toList, [], []⟩).1 = fe))
          go_ret
          have f9 : Fr (fun _ => False) w w4 := ((F0.out.trans FS.out (fun _ _ h => h)).trans F3.out (fun i hi e => by have := HNE.out; have := F0.out.size; omega)).trans F4.out (fun i hi e => by have := HNE.out; rcases e with e | e <;> omega)
          exact ⟨rfl, f9.below (Nat.le_refl _) (fun _ _ h => h)⟩
        | true =>
          cases y2 with
          | false =>
            refine wp_region_held (S := fun V => Fr (fun _ => False) W V) hmx ?_
            have hS : Fr (fun _ => False) W W.drew := Fr.drew (Fr.refl _ _)
            simp only [List.size_toArray, List.length_cons, List.length_nil, Nat.reduceAdd, Array.replicate_succ, Array.replicate_zero, List.push_toArray, List.nil_append, List.cons_append]
            refine wpAnyH_take (i := 0) (v := ?_) rfl (by kernel_rfl) (by kernel_rfl) (by kernel_rfl) (fun _ _ _ h => h) (Or.inl ⟨by kernel_rfl, ?_⟩) hS ?_
            rotate_left 1
            · (intro w' hS'; have h1 := (HB.out w' hS').1; have h2 := (HB.out w' hS').2; clear hS'; go_simp; try with_reducible rfl)
            simp only [List.getElem_toArray, List.getElem_cons_zero, List.getElem_cons_succ, Act.put, List.setIfInBounds_toArray, List.set_cons_zero, List.set_cons_succ]
            refine wpAnyH_take (i := 1) (v := ?_) rfl (by kernel_rfl) (by kernel_rfl) (by kernel_rfl) (fun _ _ _ h => h) (Or.inl ⟨by kernel_rfl, ?_⟩) hS ?_
            rotate_left 1
            · (intro w' hS'; clear hS'; go_simp; try with_reducible rfl)
            simp only [List.getElem_toArray, List.getElem_cons_zero, List.getElem_cons_succ, Act.put, List.setIfInBounds_toArray, List.set_cons_zero, List.set_cons_succ]
            refine wpAnyH_ready (rs := [2]) (by kernel_rfl) (by simp) ?_
            refine AllReadyH.cons rfl (fun K1 hK1 => ?_) AllReadyH.nil
            go_simp
            refine (KP.out _ hS).mono ?_
            rintro e w91 ⟨rfl, f91⟩
            refine hK1.out _ _ (hS.trans f91 (fun _ _ h => h)) (fun hS => ?_)
            clear f91
            clear hK1 K1
            simp only [List.getElem_toArray, List.getElem_cons_zero, List.getElem_cons_succ, Act.put, List.setIfInBounds_toArray, List.set_cons_zero, List.set_cons_succ]
            refine wpAnyH_ready (rs := [3]) (by kernel_rfl) (by simp) ?_
            refine AllReadyH.cons rfl (fun K1 hK1 => ?_) AllReadyH.nil
            go_simp
            refine (KC.out _).mono ?_
            rintro e w92 ⟨rfl, f92⟩
            refine hK1.out _ _ (hS.trans f92 (fun _ _ h => h)) (fun hS => ?_)
            clear f92
            clear hK1 K1
            simp only [List.getElem_toArray, List.getElem_cons_zero, List.getElem_cons_succ, Act.put, List.setIfInBounds_toArray, List.set_cons_zero, List.set_cons_succ]
            refine wpAnyH_take (i := 4) (v := .bool true) rfl (by kernel_rfl) (by kernel_rfl) (by kernel_rfl) (fun _ _ _ h => h) (Or.inl ⟨by kernel_rfl, fun w' hS' => by clear hS'; go_simp⟩) hS ?_
            simp only [List.getElem_toArray, List.getElem_cons_zero, List.getElem_cons_succ, Act.put, List.setIfInBounds_toArray, List.set_cons_zero, List.set_cons_succ]
            refine wpAnyH_take (i := 5) (v := ?_) rfl (by kernel_rfl) (by kernel_rfl) (by kernel_rfl) (fun _ _ _ h => h) (Or.inl ⟨by kernel_rfl, ?_⟩) hS ?_
            rotate_left 1
            · (intro w' hS'; clear hS'; go_simp; try with_reducible rfl)
            simp only [List.getElem_toArray, List.getElem_cons_zero, List.getElem_cons_succ, Act.put, List.setIfInBounds_toArray, List.set_cons_zero, List.set_cons_succ]
            refine wpAnyH_take (i := 6) (v := ?_) rfl (by kernel_rfl) (by kernel_rfl) (by kernel_rfl) (fun _ _ _ h => h) (Or.inl ⟨by kernel_rfl, ?_⟩) hS ?_
            rotate_left 1
            · (intro w' hS'; have h1 := (HB.out w' hS').1; have h2 := (HB.out w' hS').2; clear hS'; go_simp; try with_reducible rfl)
            simp only [List.getElem_toArray, List.getElem_cons_zero, List.getElem_cons_succ, Act.put, List.setIfInBounds_toArray, List.set_cons_zero, List.set_cons_succ]
            refine wpAnyH_ready (rs := [7]) (by kernel_rfl) (by simp) ?_
            refine AllReadyH.cons rfl (fun K1 hK1 => ?_) AllReadyH.nil
            go_simp
            refine (KK.out _).mono ?_
            rintro e w93 ⟨rfl, f93⟩
            refine hK1.out _ _ (hS.trans f93 (fun _ _ h => h)) (fun hS => ?_)
            clear f93
            clear hK1 K1
            simp only [List.getElem_toArray, List.getElem_cons_zero, List.getElem_cons_succ, Act.put, List.setIfInBounds_toArray, List.set_cons_zero, List.set_cons_succ]
            refine wpAnyH_take (i := 8) (v := .bool true) rfl (by kernel_rfl) (by kernel_rfl) (by kernel_rfl) (fun _ _ _ h => h) (Or.inl ⟨by kernel_rfl, fun w' hS' => by clear hS'; go_simp⟩) hS ?_
            simp only [List.getElem_toArray, List.getElem_cons_zero, List.getElem_cons_succ, Act.put, List.setIfInBounds_toArray, List.set_cons_zero, List.set_cons_succ]
            refine wpAnyH_take (i := 9) (v := ?_) rfl (by kernel_rfl) (by kernel_rfl) (by kernel_rfl) (fun _ _ _ h => h) (Or.inl ⟨by kernel_rfl, ?_⟩) hS ?_
            rotate_left 1
            · (intro w' hS'; clear hS'; go_simp; try with_reducible rfl)
            simp only [List.getElem_toArray, List.getElem_cons_zero, List.getElem_cons_succ, Act.put, List.setIfInBounds_toArray, List.set_cons_zero, List.set_cons_succ]
            refine wpAnyH_take (i := 10) (v := ?_) rfl (by kernel_rfl) (by kernel_rfl) (by kernel_rfl) (fun _ _ _ h => h) (Or.inl ⟨by kernel_rfl, ?_⟩) hS ?_
            rotate_left 1
            · (intro w' hS'; clear hS'; go_simp; try with_reducible rfl)
            simp only [List.getElem_toArray, List.getElem_cons_zero, List.getElem_cons_succ, Act.put, List.setIfInBounds_toArray, List.set_cons_zero, List.set_cons_succ]
            refine wpAnyH_ready (rs := [11]) (by kernel_rfl) (by simp) ?_
            refine AllReadyH.cons rfl (fun K1 hK1 => ?_) AllReadyH.nil
            go_simp
            refine (KS.out _).mono ?_
            rintro e w94 ⟨rfl, rfl⟩
            refine hK1.out _ _ hS (fun hS => ?_)
            clear hK1 K1
            simp only [List.getElem_toArray, List.getElem_cons_zero, List.getElem_cons_succ, Act.put, List.setIfInBounds_toArray, List.set_cons_zero, List.set_cons_succ]
            refine wpAnyH_take (i := 12) (v := .bool false) rfl (by kernel_rfl) (by kernel_rfl) (by kernel_rfl) (fun _ _ _ h => h) (Or.inl ⟨by kernel_rfl, fun w' hS' => by clear hS'; go_simp⟩) hS ?_
            simp only [List.getElem_toArray, List.getElem_cons_zero, List.getElem_cons_succ, Act.put, List.setIfInBounds_toArray, List.set_cons_zero, List.set_cons_succ]
            refine wpAnyH_take (i := 13) (v := ?_) rfl (by kernel_rfl) (by kernel_rfl) (by kernel_rfl) (fun _ _ _ h => h) (Or.inl ⟨by kernel_rfl, ?_⟩) hS ?_
            rotate_left 1
            · (intro w' hS'; clear hS'; go_simp; try with_reducible rfl)
            simp only [List.getElem_toArray, List.getElem_cons_zero, List.getElem_cons_succ, Act.put, List.setIfInBounds_toArray, List.set_cons_zero, List.set_cons_succ]
            refine wpAnyH_done (by kernel_rfl) ?_ _
            have ATT := hid (AT.out.fr hS)
            have FS := hid hS
            obtain ⟨h1, h2⟩ := HB.out _ hS
            clear hS
            go_wp2_with fail
            refine (acPrepare_any ATT.out b1 b2 slot (by have := HAL.out; omega)).mono ?_
            rintro e w3 ⟨ra, rc, xs, rfl, _, _, hat3, f3⟩
            have hb3 := HBB.out _ FS.out
            have hb4 := f3.cells hb3 (fun e => HNE.out.1 e)
            have h3 := cellA (j := 0) hb4 rfl
            have h4 := cellA (j := 1) hb4 rfl
            have AT3 := hid hat3
            have F3 := hid f3
            generalize hpe : (A.prepare a (b1, b2) slot) = pe at AT3 ⊢
            have HPE := hid hpe
            clear hat3 f3 hb3 hb4 hpe h1 h2
            go_wp2_with (first
              | (go_at_call 12; refine (acAccept_any (J := fun _ => False) (e := ⟨zE56.toList, [], []⟩) AT3.out b1 b2 slot (ec := zE56.toList) (re_zero _) (by have := HAL.out; rw [← HPE.out, A.prepare_l]; omega) (fun h => h)).mono ?_; rintro e w4 ⟨rfl, hat4, f4⟩; have F4 := hid f4; clear hat4 f4; generalize (A.accept pe.2.2 (b1, b2) slot ⟨zE56.toList, [], []⟩).1 = fe))
            go_ret
            have f9 : Fr (fun _ => False) w w4 := ((F0.out.trans FS.out (fun _ _ h => h)).trans F3.out (fun i hi e => by have := HNE.out; have := F0.out.size; omega)).trans F4.out (fun i hi e => by have := HNE.out; rcases e with e | e <;> omega)
            exact ⟨rfl, f9.below (Nat.le_refl _) (fun _ _ h => h)⟩
          | true =>
            have HJ := hid (HJ0.out hc rfl rfl)
            refine wp_region_held (S := fun V => Fr (fun _ => False) W V) hmx ?_
            have hS : Fr (fun _ => False) W W.drew := Fr.drew (Fr.refl _ _)
            simp only [List.size_toArray, List.length_cons, List.length_nil, Nat.reduceAdd, Array.replicate_succ, Array.replicate_zero, List.push_toArray, List.nil_append, List.cons_append]
            refine wpAnyH_take (i := 0) (v := ?_) rfl (by kernel_rfl) (by kernel_rfl) (by kernel_rfl) (fun _ _ _ h => h) (Or.inl ⟨by kernel_rfl, ?_⟩) hS ?_
            rotate_left 1
            · (intro w' hS'; have h1 := (HB.out w' hS').1; have h2 := (HB.out w' hS').2; clear hS'; go_simp; try with_reducible rfl)
            simp only [List.getElem_toArray, List.getElem_cons_zero, List.getElem_cons_succ, Act.put, List.setIfInBounds_toArray, List.set_cons_zero, List.set_cons_succ]
            refine wpAnyH_take (i := 1) (v := ?_) rfl (by kernel_rfl) (by kernel_rfl) (by kernel_rfl) (fun _ _ _ h => h) (Or.inl ⟨by kernel_rfl, ?_⟩) hS ?_
            rotate_left 1
            · (intro w' hS'; clear hS'; go_simp; try with_reducible rfl)
            simp only [List.getElem_toArray, List.getElem_cons_zero, List.getElem_cons_succ, Act.put, List.setIfInBounds_toArray, List.set_cons_zero, List.set_cons_succ]
            refine wpAnyH_ready (rs := [2]) (by kernel_rfl) (by simp) ?_
            refine AllReadyH.cons rfl (fun K1 hK1 => ?_) AllReadyH.nil
            go_simp
            refine (KP.out _ hS).mono ?_
            rintro e w91 ⟨rfl, f91⟩
            refine hK1.out _ _ (hS.trans f91 (fun _ _ h => h)) (fun hS => ?_)
            clear f91
            clear hK1 K1
            simp only [List.getElem_toArray, List.getElem_cons_zero, List.getElem_cons_succ, Act.put, List.setIfInBounds_toArray, List.set_cons_zero, List.set_cons_succ]
            refine wpAnyH_ready (rs := [3]) (by kernel_rfl) (by simp) ?_
            refine AllReadyH.cons rfl (fun K1 hK1 => ?_) AllReadyH.nil
            go_simp
            refine (KC.out _).mono ?_
            rintro e w92 ⟨rfl, f92⟩
            refine hK1.out _ _ (hS.trans f92 (fun _ _ h => h)) (fun hS => ?_)
            clear f92
            clear hK1 K1
            simp only [List.getElem_toArray, List.getElem_cons_zero, List.getElem_cons_succ, Act.put, List.setIfInBounds_toArray, List.set_cons_zero, List.set_cons_succ]
            refine wpAnyH_take (i := 4) (v := .bool true) rfl (by kernel_rfl) (by kernel_rfl) (by kernel_rfl) (fun _ _ _ h => h) (Or.inl ⟨by kernel_rfl, fun w' hS' => by clear hS'; go_simp⟩) hS ?_
            simp only [List.getElem_toArray, List.getElem_cons_zero, List.getElem_cons_succ, Act.put, List.setIfInBounds_toArray, List.set_cons_zero, List.set_cons_succ]
            refine wpAnyH_take (i := 5) (v := ?_) rfl (by kernel_rfl) (by kernel_rfl) (by kernel_rfl) (fun _ _ _ h => h) (Or.inl ⟨by kernel_rfl, ?_⟩) hS ?_
            rotate_left 1
            · (intro w' hS'; clear hS'; go_simp; try with_reducible rfl)
            simp only [List.getElem_toArray, List.getElem_cons_zero, List.getElem_cons_succ, Act.put, List.setIfInBounds_toArray, List.set_cons_zero, List.set_cons_succ]
            refine wpAnyH_take (i := 6) (v := ?_) rfl (by kernel_rfl) (by kernel_rfl) (by kernel_rfl) (fun _ _ _ h => h) (Or.inl ⟨by kernel_rfl, ?_⟩) hS ?_
            rotate_left 1
            · (intro w' hS'; have h1 := (HB.out w' hS').1; have h2 := (HB.out w' hS').2; clear hS'; go_simp; try with_reducible rfl)
            simp only [List.getElem_toArray, List.getElem_cons_zero, List.getElem_cons_succ, Act.put, List.setIfInBounds_toArray, List.set_cons_zero, List.set_cons_succ]
            refine wpAnyH_ready (rs := [7]) (by kernel_rfl) (by simp) ?_
            refine AllReadyH.cons rfl (fun K1 hK1 => ?_) AllReadyH.nil
            go_simp
            refine (KK.out _).mono ?_
            rintro e w93 ⟨rfl, f93⟩
            refine hK1.out _ _ (hS.trans f93 (fun _ _ h => h)) (fun hS => ?_)
            clear f93
            clear hK1 K1
            simp only [List.getElem_toArray, List.getElem_cons_zero, List.getElem_cons_succ, Act.put, List.setIfInBounds_toArray, List.set_cons_zero, List.set_cons_succ]
            refine wpAnyH_take (i := 8) (v := .bool true) rfl (by kernel_rfl) (by kernel_rfl) (by kernel_rfl) (fun _ _ _ h => h) (Or.inl ⟨by kernel_rfl, fun w' hS' => by clear hS'; go_simp⟩) hS ?_
            simp only [List.getElem_toArray, List.getElem_cons_zero, List.getElem_cons_succ, Act.put, List.setIfInBounds_toArray, List.set_cons_zero, List.set_cons_succ]
            refine wpAnyH_take (i := 9) (v := ?_) rfl (by kernel_rfl) (by kernel_rfl) (by kernel_rfl) (fun _ _ _ h => h) (Or.inl ⟨by kernel_rfl, ?_⟩) hS ?_
            rotate_left 1
            · (intro w' hS'; clear hS'; go_simp; try with_reducible rfl)
            simp only [List.getElem_toArray, List.getElem_cons_zero, List.getElem_cons_succ, Act.put, List.setIfInBounds_toArray, List.set_cons_zero, List.set_cons_succ]
            refine wpAnyH_take (i := 10) (v := ?_) rfl (by kernel_rfl) (by kernel_rfl) (by kernel_rfl) (fun _ _ _ h => h) (Or.inl ⟨by kernel_rfl, ?_⟩) hS ?_
            rotate_left 1
            · (intro w' hS'; clear hS'; go_simp; try with_reducible rfl)
            simp only [List.getElem_toArray, List.getElem_cons_zero, List.getElem_cons_succ, Act.put, List.setIfInBounds_toArray, List.set_cons_zero, List.set_cons_succ]
            refine wpAnyH_ready (rs := [11]) (by kernel_rfl) (by simp) ?_
            refine AllReadyH.cons rfl (fun K1 hK1 => ?_) AllReadyH.nil
            go_simp
            refine (KS.out _).mono ?_
            rintro e w94 ⟨rfl, rfl⟩
            refine hK1.out _ _ hS (fun hS => ?_)
            clear hK1 K1
            simp only [List.getElem_toArray, List.getElem_cons_zero, List.getElem_cons_succ, Act.put, List.setIfInBounds_toArray, List.set_cons_zero, List.set_cons_succ]
            refine wpAnyH_take (i := 12) (v := .bool true) rfl (by kernel_rfl) (by kernel_rfl) (by kernel_rfl) (fun _ _ _ h => h) (Or.inl ⟨by kernel_rfl, fun w' hS' => by clear hS'; go_simp⟩) hS ?_
            simp only [List.getElem_toArray, List.getElem_cons_zero, List.getElem_cons_succ, Act.put, List.setIfInBounds_toArray, List.set_cons_zero, List.set_cons_succ]
            refine wpAnyH_take (i := 13) (v := ?_) rfl (by kernel_rfl) (by kernel_rfl) (by kernel_rfl) (fun _ _ _ h => h) (Or.inl ⟨by kernel_rfl, ?_⟩) hS ?_
            rotate_left 1
            · (intro w' hS'; clear hS'; go_simp; try with_reducible rfl)
            simp only [List.getElem_toArray, List.getElem_cons_zero, List.getElem_cons_succ, Act.put, List.setIfInBounds_toArray, List.set_cons_zero, List.set_cons_succ]
            refine wpAnyH_done (by kernel_rfl) ?_ _
            have ATT := hid (AT.out.fr hS)
            have FS := hid hS
            obtain ⟨h1, h2⟩ := HB.out _ hS
            clear hS
            go_wp2_with fail
            refine (acPrepare_any ATT.out b1 b2 slot (by have := HAL.out; omega)).mono ?_
            rintro e w3 ⟨ra, rc, xs, rfl, _, _, hat3, f3⟩
            have hb3 := HBB.out _ FS.out
            have hb4 := f3.cells hb3 (fun e => HNE.out.1 e)
            have h3 := cellA (j := 0) hb4 rfl
            have h4 := cellA (j := 1) hb4 rfl
            have AT3 := hid hat3
            have F3 := hid f3
            generalize hpe : (A.prepare a (b1, b2) slot) = pe at AT3 ⊢
            have HPE := hid hpe
            have he : pe.1 = 70 := by rw [← hpe]; exact (A.prepare_low HJ.out).1
            rw [he]
            clear hat3 f3 hb3 hb4 hpe h1 h2
            go_wp2_with (first
              | (go_at_call 12; refine (acAccept_any (J := fun _ => False) (e := ⟨zE56.toList, [], []⟩) AT3.out b1 b2 slot (ec := zE56.toList) (re_zero _) (by have := HAL.out; rw [← HPE.out, A.prepare_l]; omega) (fun h => h)).mono ?_; rintro e w4 ⟨rfl, hat4, f4⟩; have F4 := hid f4; clear hat4 f4; have hf : (A.accept pe.2.2 (b1, b2) slot ⟨zE56.toList, [], []⟩).1 = 70 := (by rw [← HPE.out, (A.prepare_low HJ.out).2]; exact A.accept_low HJ.out _); rw [hf]))
            go_ret
            have f9 : Fr (fun _ => False) w w4 := ((F0.out.trans FS.out (fun _ _ h => h)).trans F3.out (fun i hi e => by have := HNE.out; have := F0.out.size; omega)).trans F4.out (fun i hi e => by have := HNE.out; rcases e with e | e <;> omega)
            exact ⟨rfl, f9.below (Nat.le_refl _) (fun _ _ h => h)⟩
      · refine wp_region_held (S := fun V => Fr (fun _ => False) W V) hmx ?_
        have hS : Fr (fun _ => False) W W.drew := Fr.drew (Fr.refl _ _)
        simp only [List.size_toArray, List.length_cons, List.length_nil, Nat.reduceAdd, Array.replicate_succ, Array.replicate_zero, List.push_toArray, List.nil_append, List.cons_append]
        refine wpAnyH_take (i := 0) (v := ?_) rfl (by kernel_rfl) (by kernel_rfl) (by kernel_rfl) (fun _ _ _ h => h) (Or.inl ⟨by kernel_rfl, ?_⟩) hS ?_
        rotate_left 1
        · (intro w' hS'; have h1 := (HB.out w' hS').1; have h2 := (HB.out w' hS').2; clear hS'; go_simp; try with_reducible rfl)
        simp only [List.getElem_toArray, List.getElem_cons_zero, List.getElem_cons_succ, Act.put, List.setIfInBounds_toArray, List.set_cons_zero, List.set_cons_succ]
        refine wpAnyH_take (i := 1) (v := ?_) rfl (by kernel_rfl) (by kernel_rfl) (by kernel_rfl) (fun _ _ _ h => h) (Or.inl ⟨by kernel_rfl, ?_⟩) hS ?_
        rotate_left 1
        · (intro w' hS'; clear hS'; go_simp; try with_reducible rfl)
        simp only [List.getElem_toArray, List.getElem_cons_zero, List.getElem_cons_succ, Act.put, List.setIfInBounds_toArray, List.set_cons_zero, List.set_cons_succ]
        refine wpAnyH_ready (rs := [2]) (by kernel_rfl) (by simp) ?_
        refine AllReadyH.cons rfl (fun K1 hK1 => ?_) AllReadyH.nil
        go_simp
        refine (KP.out _ hS).mono ?_
        rintro e w91 ⟨rfl, f91⟩
        refine hK1.out _ _ (hS.trans f91 (fun _ _ h => h)) (fun hS => ?_)
        clear f91
        clear hK1 K1
        simp only [List.getElem_toArray, List.getElem_cons_zero, List.getElem_cons_succ, Act.put, List.setIfInBounds_toArray, List.set_cons_zero, List.set_cons_succ]
        refine wpAnyH_ready (rs := [3]) (by kernel_rfl) (by simp) ?_
        refine AllReadyH.cons rfl (fun K1 hK1 => ?_) AllReadyH.nil
        go_simp
        refine (KC.out _).mono ?_
        rintro e w92 ⟨rfl, f92⟩
        refine hK1.out _ _ (hS.trans f92 (fun _ _ h => h)) (fun hS => ?_)
        clear f92
        clear hK1 K1
        simp only [List.getElem_toArray, List.getElem_cons_zero, List.getElem_cons_succ, Act.put, List.setIfInBounds_toArray, List.set_cons_zero, List.set_cons_succ]
        refine wpAnyH_take (i := 4) (v := .bool false) rfl (by kernel_rfl) (by kernel_rfl) (by kernel_rfl) (fun _ _ _ h => h) (Or.inl ⟨by kernel_rfl, fun w' hS' => by clear hS'; go_simp⟩) hS ?_
        simp only [List.getElem_toArray, List.getElem_cons_zero, List.getElem_cons_succ, Act.put, List.setIfInBounds_toArray, List.set_cons_zero, List.set_cons_succ]
        refine wpAnyH_take (i := 5) (v := ?_) rfl (by kernel_rfl) (by kernel_rfl) (by kernel_rfl) (fun _ _ _ h => h) (Or.inl ⟨by kernel_rfl, ?_⟩) hS ?_
        rotate_left 1
        · (intro w' hS'; clear hS'; go_simp; try with_reducible rfl)
        simp only [List.getElem_toArray, List.getElem_cons_zero, List.getElem_cons_succ, Act.put, List.setIfInBounds_toArray, List.set_cons_zero, List.set_cons_succ]
        refine wpAnyH_take (i := 6) (v := undef) rfl (by kernel_rfl) (by kernel_rfl) (by kernel_rfl) (fun _ _ _ h => h) (Or.inr ⟨by kernel_rfl, rfl⟩) hS ?_
        simp only [List.getElem_toArray, List.getElem_cons_zero, List.getElem_cons_succ, Act.put, List.setIfInBounds_toArray, List.set_cons_zero, List.set_cons_succ]
        refine wpAnyH_take (i := 7) (v := undef) rfl (by kernel_rfl) (by kernel_rfl) (by kernel_rfl) (fun _ _ _ h => h) (Or.inr ⟨by kernel_rfl, rfl⟩) hS ?_
        simp only [List.getElem_toArray, List.getElem_cons_zero, List.getElem_cons_succ, Act.put, List.setIfInBounds_toArray, List.set_cons_zero, List.set_cons_succ]
        refine wpAnyH_take (i := 8) (v := .bool false) rfl (by kernel_rfl) (by kernel_rfl) (by kernel_rfl) (fun _ _ _ h => h) (Or.inl ⟨by kernel_rfl, fun w' hS' => by clear hS'; go_simp⟩) hS ?_
        simp only [List.getElem_toArray, List.getElem_cons_zero, List.getElem_cons_succ, Act.put, List.setIfInBounds_toArray, List.set_cons_zero, List.set_cons_succ]
        refine wpAnyH_take (i := 9) (v := ?_) rfl (by kernel_rfl) (by kernel_rfl) (by kernel_rfl) (fun _ _ _ h => h) (Or.inl ⟨by kernel_rfl, ?_⟩) hS ?_
        rotate_left 1
        · (intro w' hS'; clear hS'; go_simp; try with_reducible rfl)
        simp only [List.getElem_toArray, List.getElem_cons_zero, List.getElem_cons_succ, Act.put, List.setIfInBounds_toArray, List.set_cons_zero, List.set_cons_succ]
        refine wpAnyH_take (i := 10) (v := undef) rfl (by kernel_rfl) (by kernel_rfl) (by kernel_rfl) (fun _ _ _ h => h) (Or.inr ⟨by kernel_rfl, rfl⟩) hS ?_
        simp only [List.getElem_toArray, List.getElem_cons_zero, List.getElem_cons_succ, Act.put, List.setIfInBounds_toArray, List.set_cons_zero, List.set_cons_succ]
        refine wpAnyH_take (i := 11) (v := undef) rfl (by kernel_rfl) (by kernel_rfl) (by kernel_rfl) (fun _ _ _ h => h) (Or.inr ⟨by kernel_rfl, rfl⟩) hS ?_
        simp only [List.getElem_toArray, List.getElem_cons_zero, List.getElem_cons_succ, Act.put, List.setIfInBounds_toArray, List.set_cons_zero, List.set_cons_succ]
        refine wpAnyH_take (i := 12) (v := .bool false) rfl (by kernel_rfl) (by kernel_rfl) (by kernel_rfl) (fun _ _ _ h => h) (Or.inl ⟨by kernel_rfl, fun w' hS' => by clear hS'; go_simp⟩) hS ?_
        simp only [List.getElem_toArray, List.getElem_cons_zero, List.getElem_cons_succ, Act.put, List.setIfInBounds_toArray, List.set_cons_zero, List.set_cons_succ]
        refine wpAnyH_take (i := 13) (v := ?_) rfl (by kernel_rfl) (by kernel_rfl) (by kernel_rfl) (fun _ _ _ h => h) (Or.inl ⟨by kernel_rfl, ?_⟩) hS ?_
        rotate_left 1
        · (intro w' hS'; clear hS'; go_simp; try with_reducible rfl)
        simp only [List.getElem_toArray, List.getElem_cons_zero, List.getElem_cons_succ, Act.put, List.setIfInBounds_toArray, List.set_cons_zero, List.set_cons_succ]
        refine wpAnyH_done (by kernel_rfl) ?_ _
        have ATT := hid (AT.out.fr hS)
        have FS := hid hS
        obtain ⟨h1, h2⟩ := HB.out _ hS
        clear hS
        go_wp2_with fail
        refine (acPrepare_any ATT.out b1 b2 slot (by have := HAL.out; omega)).mono ?_
        rintro e w3 ⟨ra, rc, xs, rfl, _, _, hat3, f3⟩
        have hb3 := HBB.out _ FS.out
        have hb4 := f3.cells hb3 (fun e => HNE.out.1 e)
        have h3 := cellA (j := 0) hb4 rfl
        have h4 := cellA (j := 1) hb4 rfl
        have AT3 := hid hat3
        have F3 := hid f3
        generalize hpe : (A.prepare a (b1, b2) slot) = pe at AT3 ⊢
        have HPE := hid hpe
        clear hat3 f3 hb3 hb4 hpe h1 h2
        go_wp2_with (first
          | (go_at_call 12; refine (acAccept_any (J := fun _ => False) (e := ⟨zE56.toList, [], []⟩) AT3.out b1 b2 slot (ec := zE56.toList) (re_zero _) (by have := HAL.out; rw [← HPE.out, A.prepare_l]; omega) (fun h => h)).mono ?_; rintro e w4 ⟨rfl, hat4, f4⟩; have F4 := hid f4; clear hat4 f4; generalize (A.accept pe.2.2 (b1, b2) slot ⟨zE56.toList, [], []⟩).1 = fe))
        go_ret
        have f9 : Fr (fun _ => False) w w4 := ((F0.out.trans FS.out (fun _ _ h => h)).trans F3.out (fun i hi e => by have := HNE.out; have := F0.out.size; omega)).trans F4.out (fun i hi e => by have := HNE.out; rcases e with e | e <;> omega)
        exact ⟨rfl, f9.below (Nat.le_refl _) (fun _ _ h => h)⟩
end Go.Proofs.Ytedhmhlhjonloaa
