/-
  DiskTorn, the walk: behind a crash each file is a beginning of what it was.
-/
import Derived.Test.YtnfpceeacfdldaaLDStays
namespace Go.Proofs.Ytnfpceeacfdldaa
open Go.RowKit Go.Maps Go.Shelf
set_option linter.unusedVariables false
attribute [local go_sem] Oper.semAt_some

/-- what the walk carries: keep's box, the result's cell, the disk's variable -/
structure TS (w W : World) (db p : Nat) (keep : Int) : Prop where
  fr : Fr (fun _ => False) w W
  kb : W.heap[w.heap.size]? = some (.cells #[.int .i64 keep] 3 (0, 0))
  rb : W.heap[w.heap.size + 1]? = some (.cells #[.bool false] 4 (0, 0))
  db : W.heap[db]? = some (.cells #[.pointer (some ⟨p, 0, none⟩)] 23 (0, 0))
theorem TS.kept {w W W' : World} {db p : Nat} {keep : Int} (h : TS w W db p keep) {T : Nat → Prop} (hf : Fr T W W') (hT : ∀ k, k < w.heap.size + 2 ∨ k = db → ¬ T k) : TS w W' db p keep :=
  ⟨h.fr.trans hf (fun i hi e => hT i (.inl (by omega)) e), hf.cells h.kb (hT _ (.inl (by omega))), hf.cells h.rb (hT _ (.inl (by omega))), hf.cells h.db (hT _ (.inr rfl))⟩
/-- what the script's loop keeps -/
def TI (w : World) (db p : Nat) (keep : Int) (ops : List K.Op) (k : Nat) (W : World) : Prop := TS w W db p keep ∧ ∃ Sd d, Dk Sd W p d ∧ (∀ j, Sd j → w.heap.size + 2 ≤ j ∧ j ≠ db) ∧ d.used ≤ bulk ops k

theorem TI.step {w W W' : World} {db p : Nat} {keep : Int} {ops : List K.Op} {k k' : Nat} {Sd : Nat → Prop} {d d' : K.DK} (h : TS w W db p keep) (hd : Dk Sd W p d) (hS : ∀ j, Sd j → w.heap.size + 2 ≤ j ∧ j ≠ db) (ht : Td Sd W p d' W') (hu : d'.used ≤ bulk ops k') : TI w db p keep ops k' W' := by
  have hlt := lt_of_row h.db
  have hlt1 := lt_of_row h.rb
  refine ⟨h.kept ht.2 (fun j hj hs => ?_), Nx Sd W W', d', ht.1, fun j hj => ?_, hu⟩
  · have := hS j hs
    omega
  · rcases hj.1 with hs | hs
    · exact hS j hs
    · omega
/-- how many bytes are left of the files so far -/
def tsum {l : List (K.Nm × K.F)} (keep : Int) (pre : List { x // x ∈ l }) : Nat := (pre.map fun x => (K.tear keep x.1.2).all.length).sum
theorem tsum_snoc {l : List (K.Nm × K.F)} (keep : Int) (pre : List { x // x ∈ l }) (x : { x // x ∈ l }) : tsum keep (pre ++ [x]) = tsum keep pre + (K.tear keep x.1.2).all.length := by simp [tsum]
theorem tsum_le {l : List (K.Nm × K.F)} (keep : Int) (m : Nat) (h : ∀ x ∈ l, (K.tear keep x.2).all.length ≤ m) (pre : List { x // x ∈ l }) : tsum keep pre ≤ pre.length * m := by
  unfold tsum
  induction pre with
  | nil => simp
  | cons x r ih =>
    have := h x.1 x.2
    simp only [List.map_cons, List.sum_cons, List.length_cons, Nat.succ_mul]
    omega
theorem tsum_all (keep : Int) (d : K.DK) : tsum keep d.fs.attach = (K.fall keep d).used := by
  have e : d.fs.attach.map (fun x => (K.tear keep x.1.2).all.length) = (d.fs.attach.map Subtype.val).map (fun x => (K.tear keep x.2).all.length) := by rw [List.map_map]; rfl
  unfold tsum K.DK.used K.fall
  rw [e, List.attach_map_subtype_val]
  simp only
  rw [K.tot_mp]
  unfold K.tot
  congr 1
  apply List.map_congr_left
  intro x _
  simp [K.F.all, K.F.len]
/-- what the loop over the names keeps -/
def TB {l : List (K.Nm × K.F)} (wn : World) (nb : Nat) (keep : Int) (pre : List { x // x ∈ l }) (W : World) : Prop :=
  Fr (fun k => k = nb) wn W ∧ W.heap[nb]? = some (.cells #[.int .i64 (tsum keep pre : Nat)] 3 (0, 0))
theorem TB.own {l : List (K.Nm × K.F)} (wn : World) (nb : Nat) (keep : Int) (hn : nb < wn.heap.size) : OwnFrom wn.heap.size (TB (l := l) wn nb keep) := by
  rintro pre A B row ⟨h1, h2⟩ hg hr
  exact ⟨h1.trans (Fr.of_grown hg) (fun i hi e => by have := (hr i e).1; omega), (Fr.of_grown hg).cells h2 (fun e => by have := (hr _ e).1; omega)⟩
theorem wp_of_act {F : Fence} {n : Nat} {P : Program} {c : Code} {Q : Exit → Act → World → Prop} {a : Act} {w : World} (h : ∀ a0, a0 = a → c.wpIn F n P Q a0 w) : c.wpIn F n P Q a w := h a rfl
theorem K.tear_pre (keep : Int) (f : K.F) : (K.tear keep f).all <+: f.all := by
  refine ⟨f.tl.drop keep.toNat, ?_⟩
  simp [K.tear, K.F.all]
theorem K.tear_take (keep : Int) (f : K.F) : f.all.take (K.tear keep f).all.length = (K.tear keep f).all := by
  obtain ⟨t, ht⟩ := K.tear_pre keep f
  rw [← ht, List.take_left]
theorem ret_cell {W : World} {r : Nat} {v : Value} (h : W.heap[r]? = some (.cells #[v] 4 (0, 0))) : W.cell? ⟨r, 0, none⟩ = some v := cell_of h rfl
set_option maxRecDepth 100000 in
set_option maxHeartbeats 3200000 in
theorem torn_neg (room : Int) (h0 : room < 0) (h1 : -9223372036854775808 ≤ room) (sa : Option Addr) (sn sc : Nat) (keep : Int) (w : World) :
    Calls Try.prog 5 #[.int .i64 room, .slice sa sn sc, .int .i64 keep] w fun e w' => e = .returned (.bool true) ∧ Below w.heap.size w w' := by
  go_enter Try.func5, Try.ntmps5
  go_wp2_with fail
  refine (new_neg room h0 h1 _).mono ?_
  rintro e w1 ⟨rfl, rfl⟩
  go_wp2_with fail
  have h3 := at3 w (.cells #[.int .i64 keep] 3) (.cells #[.bool false] 4) (.cells #[.pointer none] 23)
  refine (begun_any _).mono ?_
  rintro e w2 ⟨rfl, hf2⟩
  have b1 := hf2.cells h3.2.1 (fun h => h)
  have b2 := hf2.cells h3.2.2 (fun h => h)
  have c1 := cell_of (j := 0) b1 rfl
  have c2 := cell_of (j := 0) b2 rfl
  have f1 := frozen_of_row (j := 0) b1
  have HB := hid b1
  have F2 : Hid (Fr (fun _ => False) w w2) := hid ((Fr.alloc (Fr.alloc (Fr.alloc (Fr.refl _ _) _) _) _).trans hf2 (fun _ _ h => h))
  clear h3 hf2 b1 b2
  go_wp2
  have q1 := cell_of (j := 0) (setCell_row (j := 0) HB.out (.bool true)) rfl
  refine bodyPost_ret (v := .bool true) (by simp [results, Try.results5, go_sem, q1]) rfl ⟨rfl, ?_⟩
  exact (Fr.setCell (p := ⟨w.heap.size + 1, 0, none⟩) F2.out (fun h => by simp only at h; omega) _).below (Nat.le_refl _) (fun _ _ h => h)

set_option maxRecDepth 100000 in
set_option maxHeartbeats 3200000 in
theorem keep_neg (room : Int) (h0 : 0 ≤ room) (h1 : room ≤ 9223372036854775807) (sa : Option Addr) (sn sc : Nat) (keep : Int) (k0 : keep < 0) (w : World) :
    Calls Try.prog 5 #[.int .i64 room, .slice sa sn sc, .int .i64 keep] w fun e w' => e = .returned (.bool true) ∧ Below w.heap.size w w' := by
  go_enter Try.func5, Try.ntmps5
  go_wp2_with fail
  obtain ⟨wz, hwz⟩ : ∃ wz, wz = (w.alloc (.cells #[.int .i64 keep] 3)).alloc (.cells #[.bool false] 4) := ⟨_, rfl⟩
  rw [← hwz]
  have hzz : wz.heap.size = w.heap.size + 2 := by rw [hwz]; simp
  have fz : Fr (fun _ => False) w wz := by rw [hwz]; exact Fr.alloc (Fr.alloc (Fr.refl _ _) _) _
  have bz0 : wz.heap[w.heap.size]? = some (.cells #[.int .i64 keep] 3 (0, 0)) := by rw [hwz]; exact (Below.heap_alloc _ _ _ (by simp)).trans (Go.heap_alloc_new w _)
  have bz1 : wz.heap[w.heap.size + 1]? = some (.cells #[.bool false] 4 (0, 0)) := by
    have := Go.heap_alloc_new (w.alloc (.cells #[.int .i64 keep] 3)) (.cells #[.bool false] 4)
    rw [World.size_alloc] at this
    rw [hwz]; exact this
  clear hwz
  refine (new_any room h0 h1 wz).mono ?_
  rintro e w1 ⟨rfl, ht1⟩
  obtain ⟨S1, hd1, hS1, hf1, _⟩ := ht1.ge (b := wz.heap.size) (fun _ h => h.elim) (Nat.le_refl _)
  obtain ⟨p, hp⟩ : ∃ p, p = wz.heap.size + 1 := ⟨_, rfl⟩
  rw [← hp] at hd1 ⊢
  have HZZ := hid hzz
  clear hp hzz
  go_wp2_with fail
  have hzz := HZZ.out
  obtain ⟨db, hdb⟩ : ∃ db, db = w1.heap.size := ⟨_, rfl⟩
  rw [← hdb]
  obtain ⟨w2, hw2⟩ : ∃ w2, w2 = w1.alloc (.cells #[.pointer (some ⟨p, 0, none⟩)] 23) := ⟨_, rfl⟩
  rw [← hw2]
  have f12 : Fr (fun _ => False) w1 w2 := by rw [hw2]; exact Fr.alloc (Fr.refl _ _) _
  have b12 : w2.heap[db]? = some (.cells #[.pointer (some ⟨p, 0, none⟩)] 23 (0, 0)) := by rw [hw2, hdb]; exact Go.heap_alloc_new w1 _
  have hS1' : ∀ j, S1 j → w.heap.size + 2 ≤ j ∧ j ≠ db := fun j hj => ⟨by have := hS1 j hj; omega, by have := hd1.1 j hj; omega⟩
  have hz1 := hf1.size
  have HTI : Hid (TI w db p keep [] 0 w2) := hid ⟨⟨(fz.trans hf1 (fun _ _ h => h)).trans f12 (fun _ _ h => h), f12.cells (hf1.cells bz0 (fun h => h)) (fun h => h), f12.cells (hf1.cells bz1 (fun h => h)) (fun h => h), b12⟩, S1, K.mk room, hd1.kept f12 (fun _ _ h => h), hS1', Nat.zero_le _⟩
  have HDB : Hid (w.heap.size + 2 ≤ db) := hid (by omega)
  clear hw2 hdb f12 b12 hS1' hz1 ht1 hd1 hS1 hf1 hzz HZZ fz bz0 bz1
  refine (begun_any _).mono ?_
  rintro e w3 ⟨rfl, hf3⟩
  have hti : TI w db p keep [] 0 w3 := by
    obtain ⟨h1, Sd, d, h2, h3, h4⟩ := HTI.out
    exact ⟨h1.kept hf3 (fun _ _ h => h), Sd, d, h2.kept hf3 (fun _ _ h => h), h3, h4⟩
  have c0 : w3.cell? ⟨w.heap.size, 0, none⟩ = some (.int .i64 keep) := cell_of (j := 0) hti.1.kb rfl
  have c2 : w3.cell? ⟨db, 0, none⟩ = some (.pointer (some ⟨p, 0, none⟩)) := cell_of (j := 0) hti.1.db rfl
  have c1 : w3.cell? ⟨w.heap.size + 1, 0, none⟩ = some (.bool false) := cell_of (j := 0) hti.1.rb rfl
  have z1 := frozen_of_row (j := 0) hti.1.rb
  have H0 := hid hti.1
  clear hf3 HTI hti
  go_wp2
  have q1 := cell_of (j := 0) (setCell_row (j := 0) H0.out.rb (.bool true)) rfl
  refine bodyPost_ret (v := .bool true) (by simp [results, Try.results5, go_sem, q1]) rfl ⟨rfl, ?_⟩
  exact (Fr.setCell (p := ⟨w.heap.size + 1, 0, none⟩) H0.out.fr (fun h => by simp only at h; omega) _).below (Nat.le_refl _) (fun _ _ h => h)

set_option maxRecDepth 100000 in
set_option maxHeartbeats 8000000 in
theorem torn_pos (room : Int) (h0 : 0 ≤ room) (h1 : room ≤ 9223372036854775807) (sa : Option Addr) (sn sc : Nat) (ops : List K.Op) (keep : Int) (k0 : 0 ≤ keep) (k1 : keep ≤ 9223372036854775807) (w : World) (hs : Sc w sa sn ops) (hsl : sn ≤ 9223372036854775807) (hbk : (ops.map (fun o => o.b.length + 1)).sum ≤ 1048576) :
    Calls Try.prog 5 #[.int .i64 room, .slice sa sn sc, .int .i64 keep] w fun e w' => e = .returned (.bool true) ∧ Below w.heap.size w w' := by
  have d1 : decide (keep < 0) = false := by simp; omega
  refine (callsIn_wide (n := 8)).1 ?_
  refine callsIn_of_wp_marks Try.func5 rfl trivial ?_ rfl
  simp only [Try.ntmps5, List.size_toArray, List.length_cons, List.length_nil, Nat.reduceAdd, Nat.reduceSub, Array.replicate_succ, Array.replicate_zero, List.push_toArray, List.append_toArray, List.nil_append, List.cons_append]
  refine wpIn_wide.2 ?_
  go_wp2_with fail
  obtain ⟨wz, hwz⟩ : ∃ wz, wz = (w.alloc (.cells #[.int .i64 keep] 3)).alloc (.cells #[.bool false] 4) := ⟨_, rfl⟩
  rw [← hwz]
  have hzz : wz.heap.size = w.heap.size + 2 := by rw [hwz]; simp
  have fz : Fr (fun _ => False) w wz := by rw [hwz]; exact Fr.alloc (Fr.alloc (Fr.refl _ _) _) _
  have bz0 : wz.heap[w.heap.size]? = some (.cells #[.int .i64 keep] 3 (0, 0)) := by rw [hwz]; exact (Below.heap_alloc _ _ _ (by simp)).trans (Go.heap_alloc_new w _)
  have bz1 : wz.heap[w.heap.size + 1]? = some (.cells #[.bool false] 4 (0, 0)) := by
    have := Go.heap_alloc_new (w.alloc (.cells #[.int .i64 keep] 3)) (.cells #[.bool false] 4)
    rw [World.size_alloc] at this
    rw [hwz]; exact this
  clear hwz
  refine (new_any room h0 h1 wz).mono ?_
  rintro e w1 ⟨rfl, ht1⟩
  obtain ⟨S1, hd1, hS1, hf1, _⟩ := ht1.ge (b := wz.heap.size) (fun _ h => h.elim) (Nat.le_refl _)
  obtain ⟨p, hp⟩ : ∃ p, p = wz.heap.size + 1 := ⟨_, rfl⟩
  rw [← hp] at hd1 ⊢
  have HZZ := hid hzz
  clear hp hzz
  go_wp2_with fail
  have hzz := HZZ.out
  obtain ⟨db, hdb⟩ : ∃ db, db = w1.heap.size := ⟨_, rfl⟩
  rw [← hdb]
  obtain ⟨w2, hw2⟩ : ∃ w2, w2 = w1.alloc (.cells #[.pointer (some ⟨p, 0, none⟩)] 23) := ⟨_, rfl⟩
  rw [← hw2]
  have f12 : Fr (fun _ => False) w1 w2 := by rw [hw2]; exact Fr.alloc (Fr.refl _ _) _
  have b12 : w2.heap[db]? = some (.cells #[.pointer (some ⟨p, 0, none⟩)] 23 (0, 0)) := by rw [hw2, hdb]; exact Go.heap_alloc_new w1 _
  have hS1' : ∀ j, S1 j → w.heap.size + 2 ≤ j ∧ j ≠ db := fun j hj => ⟨by have := hS1 j hj; omega, by have := hd1.1 j hj; omega⟩
  have hz1 := hf1.size
  have HTI : Hid (TI w db p keep ops 0 w2) := hid ⟨⟨(fz.trans hf1 (fun _ _ h => h)).trans f12 (fun _ _ h => h), f12.cells (hf1.cells bz0 (fun h => h)) (fun h => h), f12.cells (hf1.cells bz1 (fun h => h)) (fun h => h), b12⟩, S1, K.mk room, hd1.kept f12 (fun _ _ h => h), hS1', Nat.zero_le _⟩
  have HDB : Hid (w.heap.size + 2 ≤ db) := hid (by omega)
  clear hw2 hdb f12 b12 hS1' hz1 ht1 hd1 hS1 hf1 hzz HZZ fz bz0 bz1
  refine (begun_any _).mono ?_
  rintro e w3 ⟨rfl, hf3⟩
  have hti : TI w db p keep ops 0 w3 := by
    obtain ⟨h1, Sd, d, h2, h3, h4⟩ := HTI.out
    exact ⟨h1.kept hf3 (fun _ _ h => h), Sd, d, h2.kept hf3 (fun _ _ h => h), h3, h4⟩
  have c0 : w3.cell? ⟨w.heap.size, 0, none⟩ = some (.int .i64 keep) := cell_of (j := 0) hti.1.kb rfl
  have c2 : w3.cell? ⟨db, 0, none⟩ = some (.pointer (some ⟨p, 0, none⟩)) := cell_of (j := 0) hti.1.db rfl
  have H0 := hid hti
  clear hf3 HTI hti
  go_wp2_with fail
  clear c0 c2
  go_loopw [44] (fun i wr => ∃ k : Nat, k ≤ sn ∧ i = .int .i64 k ∧ TI w db p keep ops k wr) (fun i _ => sn - (intOf i).toNat)
  case atStart => exact ⟨0, by omega, rfl, H0.out⟩
  case round =>
    obtain ⟨k, hk, rfl, hts, Sd, d, hdk, hge, hus⟩ := hrel
    by_cases hlt : k < sn
    · obtain ⟨b, off, o, rfl, hok, s, t, A, L, C, c0, c1, c2, c3, c4, c5, h6⟩ := hs.at hts.fr hlt
      have hbn := bulk_next hok
      have hbl := bulk_le ops (k + 1)
      have fa : Fr (fun _ => False) wr (wr.alloc (.cells #[.int .i64 o.do_, .string s, .string t, .slice A L C, .int .i64 o.k, .int .i64 o.keep] 33)) := Fr.alloc (Fr.refl _ _) _
      have KR := hid (run_any (hdk.kept fa (fun _ _ h => h)) o s t A L C (h6.kept fa) (fun _ => by have h3 := h6.b_.1; show _ ≤ 200000000000000; omega))
      have hku := K.run_used d hdk.2.1.up o
      have HS := hid (fun (w' : World) (ht : Td Sd (wr.alloc (.cells #[.int .i64 o.do_, .string s, .string t, .slice A L C, .int .i64 o.k, .int .i64 o.keep] 33)) p (K.run d o).2 w') => TI.step (ops := ops) (k := k) (k' := k + 1) (hts.kept fa (fun _ _ h => h)) (hdk.kept fa (fun _ _ h => h)) hge ht (by omega))
      have g7 : (wr.alloc (.cells #[.int .i64 o.do_, .string s, .string t, .slice A L C, .int .i64 o.k, .int .i64 o.keep] 33)).cell? ⟨db, 0, none⟩ = some (.pointer (some ⟨p, 0, none⟩)) := cell_of (j := 0) (hts.kept fa (fun _ _ h => h)).db rfl
      clear hts hdk hge hus h6 fa hbn hok hku
      generalize K.run d o = R at KR HS
      generalize o.do_ = od at *
      generalize o.k = okk at *
      generalize o.keep = okp at *
      go_wp2_with (first | (go_at_call 18; refine KR.out.mono ?_; rintro e w9 ⟨rfl, ht⟩; have HT := hid (HS.out w9 ht); clear ht))
      go_roundw
      case rel => exact ⟨k + 1, by omega, by go_num, HT.out⟩
      case measure => simp [intOf]; omega
    · have KD := hid (down_any hdk)
      have c0 : wr.cell? ⟨w.heap.size, 0, none⟩ = some (.int .i64 keep) := cell_of (j := 0) hts.kb rfl
      have c1 : wr.cell? ⟨w.heap.size + 1, 0, none⟩ = some (.bool false) := cell_of (j := 0) hts.rb rfl
      have c2 : wr.cell? ⟨db, 0, none⟩ = some (.pointer (some ⟨p, 0, none⟩)) := cell_of (j := 0) hts.db rfl
      have HTS := hid hts
      have HDK := hid hdk
      have HGE := hid hge
      have HUS := hid (Nat.le_trans hus (Nat.le_trans (bulk_le ops k) hbk))
      cases hdn : d.down with
      | true =>
        rw [hdn] at KD
        have KC := crash_any hdk keep k1
        have eC : K.crash d keep = (7, d) := by unfold K.crash; rw [if_neg (by omega), if_pos hdn]
        rw [eC] at KC
        have HKC := hid KC
        clear hts hdk hge hus KC eC hdn H0
        go_wp2_with (first | (go_at_call 12; refine KD.out.mono ?_; rintro e w4 ⟨rfl, rfl⟩) | (go_at_call 20; refine HKC.out.mono ?_; rintro e w5 ⟨rfl, ht⟩; have HT5 := hid (TI.step (ops := ops) (k := k) (k' := k) (d' := d) HTS.out HDK.out HGE.out ht); have r5 := (HTS.out.kept ht.2 (fun j hj hs => by have := HGE.out j hs; omega)); have R5 := hid r5; have c5 : w5.cell? ⟨w.heap.size + 1, 0, none⟩ = some (.bool false) := cell_of (j := 0) r5.rb rfl; have z5 := frozen_of_row (j := 0) r5.rb; clear ht r5))
        have q5 := cell_of (j := 0) (setCell_row (j := 0) R5.out.rb (.bool true)) rfl
        refine ⟨.bool true, by simp [results, Try.f5, go_sem, q5], rfl, ?_⟩
        exact (Fr.setCell (p := ⟨w.heap.size + 1, 0, none⟩) R5.out.fr (fun h => by simp only at h; omega) _).below (Nat.le_refl _) (fun _ _ h => h)
      | false =>
        rw [hdn] at KD
        have KC := hid (clone_any hdk)
        have eC : K.crash d keep = (0, K.fall keep d) := by unfold K.crash; rw [if_neg (by omega), if_neg (by simp [hdn])]
        have eR : K.restart (K.fall keep d) = (0, { K.fall keep d with down := false }) := rfl
        have HDN := hid hdn
        clear hts hdk hge hus hdn H0
        go_wp2_with (first | (go_at_call 12; refine KD.out.mono ?_; rintro e w4 ⟨rfl, rfl⟩))
        refine KC.out.mono ?_
        rintro e w4 ⟨q, rfl, ht4⟩
        obtain ⟨S4, hd4, hS4, hf4, _⟩ := ht4.ge (b := wr.heap.size) (fun _ h => h.elim) (Nat.le_refl _)
        obtain ⟨cb, hcb⟩ : ∃ cb, cb = w4.heap.size := ⟨_, rfl⟩
        obtain ⟨w5, hw5⟩ : ∃ w5, w5 = w4.alloc (.cells #[.pointer (some ⟨q, 0, none⟩)] 23) := ⟨_, rfl⟩
        have f45 : Fr (fun _ => False) w4 w5 := by rw [hw5]; exact Fr.alloc (Fr.refl _ _) _
        have b45 : w5.heap[cb]? = some (.cells #[.pointer (some ⟨q, 0, none⟩)] 23 (0, 0)) := by rw [hw5, hcb]; exact Go.heap_alloc_new w4 _
        have hlc4 : ∀ j, S4 j → wr.heap.size ≤ j ∧ j ≠ cb := fun j hj => ⟨hS4 j hj, by have := hd4.1 j hj; omega⟩
        have HW5 := hid hw5
        have HCB := hid hcb
        have hcbz : wr.heap.size ≤ cb := by have := hf4.size; omega
        have fr5 := hf4.trans f45 (fun _ _ h => h)
        have HT5 := hid (HTS.out.kept fr5 (fun _ _ h => h))
        have HD5 := hid (HDK.out.kept fr5 (fun _ _ h => h))
        have HC5 := hid (hd4.kept f45 (fun _ _ h => h))
        have HB5 := hid b45
        have HS4 := hid hlc4
        have FR5 := hid fr5
        have hz5 := fr5.size
        have KX := crash_any HC5.out keep k1
        rw [eC] at KX
        have HKX := hid KX
        have c0' : (w4.alloc (.cells #[.pointer (some ⟨q, 0, none⟩)] 23)).cell? ⟨w.heap.size, 0, none⟩ = some (.int .i64 keep) := by rw [← hw5]; exact cell_of (j := 0) HT5.out.kb rfl
        clear ht4 hd4 hS4 hf4 f45 b45 hlc4 fr5 KX KC KD hcb hw5 c0 c1 c2
        go_wp2_with fail
        clear c0'
        rw [← HW5.out, ← HCB.out]
        clear HW5
        have c0 : w5.cell? ⟨w.heap.size, 0, none⟩ = some (.int .i64 keep) := cell_of (j := 0) HT5.out.kb rfl
        have c5 : w5.cell? ⟨cb, 0, none⟩ = some (.pointer (some ⟨q, 0, none⟩)) := cell_of (j := 0) HB5.out rfl
        refine HKX.out.mono ?_
        rintro e w6 ⟨rfl, ht6⟩
        obtain ⟨S6, hd6, hS6, hf6, hn6⟩ := ht6.ge (b := wr.heap.size) (fun j hj => (HS4.out j hj).1) hz5
        have hcl := lt_of_row HB5.out
        have hS6' : ∀ j, S6 j → wr.heap.size ≤ j ∧ j ≠ cb := fun j hj => ⟨hS6 j hj, by rcases hn6 j hj with h | h; exact (HS4.out j h).2; omega⟩
        have hw2 := lt_of_row HTS.out.rb
        have hdl := lt_of_row HTS.out.db
        have HT6 := hid (HT5.out.kept hf6 (fun j hj h4 => by have := (HS4.out j h4).1; omega))
        have HD6 := hid (HD5.out.kept hf6 (fun j hj h4 => by have := (HS4.out j h4).1; have := HDK.out.1 j hj; omega))
        have HB6 := hid (hf6.cells HB5.out (fun h4 => (HS4.out cb h4).2 rfl))
        have HC6 := hid hd6
        have HS6 := hid hS6'
        have c6 : w6.cell? ⟨cb, 0, none⟩ = some (.pointer (some ⟨q, 0, none⟩)) := cell_of (j := 0) HB6.out rfl
        have KD6 := hid (down_any hd6)
        rw [show (K.fall keep d).down = true from rfl] at KD6
        have KR6 := restart_any hd6
        rw [eR] at KR6
        have HKR6 := hid KR6
        have hz6 := hf6.size
        clear c0 c5 ht6 hd6 hS6 hf6 hn6 hS6' KR6 HKX eC eR hcl hw2 hdl
        go_wp2_with (first | (go_at_call 12; refine KD6.out.mono ?_; rintro e w6' ⟨rfl, rfl⟩))
        refine HKR6.out.mono ?_
        rintro e w7 ⟨rfl, ht7⟩
        obtain ⟨S7, hd7, hS7, hf7, hn7⟩ := ht7.ge (b := wr.heap.size) (fun j hj => (HS6.out j hj).1) (by omega)
        have hcl := lt_of_row HB6.out
        have hS7' : ∀ j, S7 j → wr.heap.size ≤ j ∧ j ≠ cb := fun j hj => ⟨hS7 j hj, by rcases hn7 j hj with h | h; exact (HS6.out j h).2; omega⟩
        have hw2 := lt_of_row HTS.out.rb
        have hdl := lt_of_row HTS.out.db
        have ht7' := HT6.out.kept hf7 (fun j hj h4 => by have := (HS6.out j h4).1; omega)
        have hd7' := HD6.out.kept hf7 (fun j hj h4 => by have := (HS6.out j h4).1; have := HDK.out.1 j hj; omega)
        have hb7 := hf7.cells HB6.out (fun h4 => (HS6.out cb h4).2 rfl)
        obtain ⟨nb, hnb⟩ : ∃ nb, nb = w7.heap.size := ⟨_, rfl⟩
        obtain ⟨w8, hw8⟩ : ∃ w8, w8 = w7.alloc (.cells #[.int .i64 0] 3) := ⟨_, rfl⟩
        have f78 : Fr (fun _ => False) w7 w8 := by rw [hw8]; exact Fr.alloc (Fr.refl _ _) _
        have b78 : w8.heap[nb]? = some (.cells #[.int .i64 0] 3 (0, 0)) := by rw [hw8, hnb]; exact Go.heap_alloc_new w7 _
        have HT8 := hid (ht7'.kept f78 (fun _ _ h => h))
        have HD8 := hid (hd7'.kept f78 (fun _ _ h => h))
        have HC8 := hid (hd7.kept f78 (fun _ _ h => h))
        have HB8 := hid (f78.cells hb7 (fun h => h))
        have HN8 := hid b78
        have HS7 := hid hS7'
        have HNB := hid hnb
        have HNX : Hid (nb ≠ cb ∧ nb ≠ db ∧ (∀ j, Sd j → j ≠ nb) ∧ (∀ j, S7 j → j ≠ nb) ∧ w.heap.size + 2 ≤ nb) := hid ⟨by have := lt_of_row hb7; omega, by have := lt_of_row ht7'.db; omega, fun j hj => by have := hd7'.1 j hj; omega, fun j hj => by have := hd7.1 j hj; omega, by have := lt_of_row ht7'.rb; omega⟩
        have HW8 := hid hw8
        have c7 : (w7.alloc (.cells #[.int .i64 0] 3)).cell? ⟨db, 0, none⟩ = some (.pointer (some ⟨p, 0, none⟩)) := by rw [← hw8]; exact cell_of (j := 0) HT8.out.db rfl
        have KN := hid (names_any HD8.out)
        clear c6 ht7 hd7 hS7 hf7 hn7 hcl hS7' hw2 hdl ht7' hd7' hb7 hnb hw8 f78 b78 HKR6 KD6 HT6 HD6 HB6 HC6 HT5 HD5 HC5 HB5 FR5 HS4 HS6
        go_wp2_with fail
        clear c7
        rw [← HW8.out, ← HNB.out]
        clear HW8
        refine KN.out.mono ?_
        rintro e wn ⟨B, a, cap, rfl, hB, hNs, hNk, hfn⟩
        have eN : K.names d = d.fs.attach.map (fun x => x.1.1) := by
          have e1 : d.fs.attach.map (fun x => x.1.1) = (d.fs.attach.map Subtype.val).map (·.1) := by rw [List.map_map]; rfl
          rw [e1, List.attach_map_subtype_val]
          rfl
        have hlen : d.fs.attach.length ≤ 1024 := by rw [List.length_attach]; exact HDK.out.2.1.files
        have eL : (K.names d).length = d.fs.attach.length := by rw [eN, List.length_map]
        rw [eN] at hNs hNk
        rw [eL] at hB
        have hnl : nb < w8.heap.size := lt_of_row HN8.out
        have hKm : ∀ k, Nk B a (d.fs.attach.map (fun x => x.1.1)) k → k ≠ nb ∧ k < wn.heap.size := fun k hk => by have h2 := hNk k hk; exact ⟨by omega, h2.2⟩
        have HKm := hid hKm
        have h0 : TB (l := d.fs) wn nb keep [] wn := ⟨Fr.refl _ _, hfn.cells HN8.out (fun h => h)⟩
        have H0 := hid h0
        have HNL := hid (Nat.lt_of_lt_of_le hnl hfn.size)
        have HFN := hid hfn
        have HNS := hid hNs
        have HL := hid hlen
        have HB := hid hB
        clear hNs hNk hfn hB eN hlen eL hnl hKm h0 KN
        go_wp2_with fail
        refine (wpIn_wide (n := 8)).1 ?_
        refine wp_of_act (fun a0 ha0 => ?_)
        refine wpIn_rangeFunc_ownG (w := wn) rfl (by omega) (gf := 49) (lb := #[.pointer (some ⟨B, 0, none⟩)]) (by rw [ha0]; rfl) trivial (enters_of Try.func49 (by kernel_rfl) rfl)
          (names1g_stops (fun x : { x // x ∈ d.fs } => x.1.1) Fence.wide _ trivial rfl (by omega) B cap a d.fs.attach HL.out wn HB.out HNS.out) (fun h k => h.trans k)
          (fun W l o o' hl hW _ _ k hk => World.putObj_heap_other (fun e => by have := (HKm.out k hk).2; omega))
          (Below.refl _ _) (fun _ => rfl) (TB (l := d.fs) wn nb keep) (fun _ _ _ => False) (TB.own wn nb keep HNL.out) (fun _ _ _ _ _ hs _ _ => hs) H0.out
          (fun x => { tmps := (a0.tmps.setIfInBounds 80 (encStr x.1.1)).setIfInBounds 13 (encStr x.1.1), defers := [] }) ?assign ?body ?done ?stop
        case assign =>
          subst ha0
          intro l x W K hK
          gi_wp2
          exact hK
        case stop =>
          rintro D c pre W _ _ h _
          exact h.elim
        case done =>
          subst ha0
          rintro D xs W hD rfl ⟨hfr, hnb⟩ hK
          have dq : Dk S7 W q { K.fall keep d with down := false } := (HC8.out.kept HFN.out (fun _ _ h => h)).kept hfr (fun j hj e => HNX.out.2.2.2.1 j hj e)
          have hts : TS w W db p keep := (HT8.out.kept HFN.out (fun _ _ h => h)).kept hfr (fun j hj e => by have h1 := HNX.out.2.1; have h2 := HNX.out.2.2.2.2; omega)
          have hcb : W.heap[cb]? = some (.cells #[.pointer (some ⟨q, 0, none⟩)] 23 (0, 0)) := hfr.cells (HFN.out.cells HB8.out (fun h => h)) (fun e => HNX.out.1 e.symm)
          have KU := used_dk (dq.kept (Fr.drew (Fr.refl (fun _ => False) W)) (fun _ _ h => h))
          have eu : ({ K.fall keep d with down := false } : K.DK).used = tsum keep d.fs.attach := (tsum_all keep d).symm
          rw [eu] at KU
          obtain ⟨u, hu⟩ : ∃ u, tsum keep d.fs.attach = u := ⟨_, rfl⟩
          rw [hu] at KU hnb
          have HKU := hid KU
          have HTS9 := hid hts
          have HD' := hid hD
          have HK' := hid hK
          have e1 : W.cell? ⟨cb, 0, none⟩ = some (.pointer (some ⟨q, 0, none⟩)) := cell_of (j := 0) hcb rfl
          have e2 : W.cell? ⟨nb, 0, none⟩ = some (.int .i64 (u : Int)) := cell_of (j := 0) hnb rfl
          have n1 : cb ≠ w.heap.size + 1 := by have h1 := lt_of_row HTS.out.rb; have h2 := hcbz; omega
          have n2 : nb ≠ w.heap.size + 1 := by have h2 := HNX.out.2.2.2.2; omega
          have HNN := hid (And.intro n1 n2)
          have r0 : ∀ w', Fr (fun _ => False) W w' → w'.cell? ⟨w.heap.size + 1, 0, none⟩ = some (.bool false) ∧ w'.frozen? ⟨w.heap.size + 1, 0, none⟩ = false := fun w' hf' => ⟨cell_of (j := 0) (hf'.cells hts.rb (fun h => h)) rfl, frozen_of_row (hf'.cells hts.rb (fun h => h))⟩
          have HR0 := hid r0
          clear dq hts hcb KU eu hu hnb hfr hD hK n1 n2 r0
          go_wp2_with fail
          go_region_held3 (fun w' => w'.cell? ⟨cb, 0, none⟩ = some (.pointer (some ⟨q, 0, none⟩)) ∧ w'.cell? ⟨nb, 0, none⟩ = some (.int .i64 (u : Int))) (first | exact ⟨e1, e2⟩ | exact s1 | exact s2) (first | (go_at_call 14; refine HKU.out.mono ?_; rintro e w1 ⟨rfl, hf0⟩; have hf1 : Fr (fun _ => False) W w1 := (Fr.drew (Fr.refl _ _)).trans hf0 (fun _ _ h => h); have s1 : w1.cell? ⟨cb, 0, none⟩ = some (.pointer (some ⟨q, 0, none⟩)) ∧ w1.cell? ⟨nb, 0, none⟩ = some (.int .i64 (u : Int)) := ⟨cell_fr hf1 (fun h => h) e1, cell_fr hf1 (fun h => h) e2⟩; obtain ⟨g1, g2⟩ := HR0.out w1 hf1; have HF1 := hid hf1; have s2 : (w1.setCell ⟨w.heap.size + 1, 0, none⟩ (.bool true)).cell? ⟨cb, 0, none⟩ = some (.pointer (some ⟨q, 0, none⟩)) ∧ (w1.setCell ⟨w.heap.size + 1, 0, none⟩ (.bool true)).cell? ⟨nb, 0, none⟩ = some (.int .i64 (u : Int)) := ⟨cell_fr (Fr.setCell (p := ⟨w.heap.size + 1, 0, none⟩) (S := fun k => k = w.heap.size + 1) (Fr.refl _ w1) (fun _ => rfl) _) HNN.out.1 s1.1, cell_fr (Fr.setCell (p := ⟨w.heap.size + 1, 0, none⟩) (S := fun k => k = w.heap.size + 1) (Fr.refl _ w1) (fun _ => rfl) _) HNN.out.2 s1.2⟩; clear hf1 hf0))
          go_wp2
          have n3 : D ≠ w.heap.size + 1 := fun e => by have h1 := HTS9.out.rb; have h2 := HK'.out; rw [e, h1] at h2; simp at h2
          have f1 : Fr (fun _ => False) w w1 := HTS9.out.fr.trans HF1.out (fun _ _ h => h)
          have rb1 := HF1.out.cells HTS9.out.rb (fun h => h)
          have k1' : (w1.setCell ⟨w.heap.size + 1, 0, none⟩ (.bool true)).heap[D]? = some (.deferred (some [])) := (Below.heap_setCell _ _ _ _ n3).trans (HF1.out.cells HK'.out (fun h => h))
          have qr : ((w1.setCell ⟨w.heap.size + 1, 0, none⟩ (.bool true)).putObj D (.deferred none)).heap[w.heap.size + 1]? = some (.cells #[.bool true] 4 (0, 0)) := by
            rw [World.putObj_heap_other n3.symm, setCell_row rb1]; rfl
          have qc := cell_of (j := 0) qr rfl
          have hD2 := HD'.out
          have hwn : w.heap.size ≤ wn.heap.size := (HT8.out.kept HFN.out (fun _ _ h => h)).fr.size
          refine ⟨by simp, .inl ⟨_, _, rfl, run_takeDeferred k1', ?_⟩⟩
          refine ⟨.bool true, ?_, rfl, ?_⟩
          · simp [results, Try.f5, go_sem, qc]
          · have f2 : Fr (fun _ => False) w (w1.setCell ⟨w.heap.size + 1, 0, none⟩ (.bool true)) := Fr.setCell (p := ⟨w.heap.size + 1, 0, none⟩) f1 (fun h => by simp only at h; omega) _
            exact (f2.trans (Fr.of_grown (grownBy_putObj' _ D _)) (fun i hi e => by simp at e; omega)).below (Nat.le_refl _) (fun _ _ h => h)
        case body =>
          subst ha0
          rintro l' pre x W ⟨hfr, hnb⟩ hlt'
          have hg : K.get x.1.1 d.fs = some x.1.2 := K.get_of_mem HDK.out.2.1.up x.2
          have hnm := HDK.out.2.1.names _ x.2
          have hfd : K.fnd d x.1.1 = 0 := by
            have h0 := K.rdy_of (d := d) HDN.out hnm.1 hnm.2
            unfold K.fnd
            rw [if_neg (by rw [h0]; simp), if_neg (by rw [hg]; simp)]
          have hg2 : K.get x.1.1 (K.fall keep d).fs = some (K.tear keep x.1.2) := by
            show K.get x.1.1 (K.mp (K.tear keep) d.fs) = _
            rw [K.get_mp, hg]
            rfl
          have hfd2 : K.fnd { K.fall keep d with down := false } x.1.1 = 0 := by
            have h0 := K.rdy_of (d := { K.fall keep d with down := false }) rfl hnm.1 hnm.2
            unfold K.fnd
            rw [if_neg (by rw [h0]; simp), if_neg (by rw [show K.get x.1.1 ({ K.fall keep d with down := false } : K.DK).fs = _ from hg2]; simp)]
          have hz : (⟨x.1.1.toArray⟩ : ByteArray).size ≤ maxLen := by
            have := hnm.2
            simp [ByteArray.size]; unfold maxLen; omega
          have dp : Dk Sd W p d := (HD8.out.kept HFN.out (fun _ _ h => h)).kept hfr (fun j hj e => HNX.out.2.2.1 j hj e)
          have dq : Dk S7 W q { K.fall keep d with down := false } := (HC8.out.kept HFN.out (fun _ _ h => h)).kept hfr (fun j hj e => HNX.out.2.2.2.1 j hj e)
          have hts : TS w W db p keep := (HT8.out.kept HFN.out (fun _ _ h => h)).kept hfr (fun j hj e => by have h1 := HNX.out.2.1; have h2 := HNX.out.2.2.2.2; omega)
          have hcb : W.heap[cb]? = some (.cells #[.pointer (some ⟨q, 0, none⟩)] 23 (0, 0)) := hfr.cells (HFN.out.cells HB8.out (fun h => h)) (fun e => HNX.out.1 e.symm)
          have hul := Ok_len HDK.out.2.1 x.2
          obtain ⟨f, hf⟩ : ∃ f, x.1.2 = f := ⟨_, rfl⟩
          rw [hf] at hg hg2 hul
          obtain ⟨ln, hln⟩ : ∃ ln, f.len = ln := ⟨_, rfl⟩
          obtain ⟨sl, hsl⟩ : ∃ sl, f.sf.length = sl := ⟨_, rfl⟩
          obtain ⟨xl, hxl⟩ : ∃ xl, (K.tear keep f).all.length = xl := ⟨_, rfl⟩
          have eall : f.all.length = ln := by rw [← hln]; simp [K.F.all, K.F.len]
          have ex : xl = sl + min keep.toNat (ln - sl) := by
            rw [← hxl, ← hln, ← hsl]
            simp [K.tear, K.F.all, K.F.len]
          have hsln : sl ≤ ln := by rw [← hsl, ← hln]; exact Nat.le_add_right _ _
          have R1 : Calls Try.prog 24 #[.pointer (some ⟨p, 0, none⟩), encStr x.1.1] W fun e w' => ∃ a c, e = .returned (.tuple #[.slice a ln c, .int .i64 0]) ∧ Ow W.heap.size w' a c f.all ∧ Fr (fun _ => False) W w' := by
            refine (read_any dp ⟨x.1.1.toArray⟩ hz).mono ?_
            simp only
            rintro e w' ⟨⟨hne, _⟩ | ⟨_, f', a, c, hg', rfl, ho⟩, hf'⟩
            · exact absurd hfd hne
            · rw [hg] at hg'
              cases hg'
              exact ⟨a, c, by rw [eall], ho, hf'⟩
          have R2 : ∀ W1, Fr (fun _ => False) W W1 → Calls Try.prog 25 #[.pointer (some ⟨p, 0, none⟩), encStr x.1.1] W1 fun e w' => e = .returned (.tuple #[.int .i64 (ln : Int), .int .i64 (sl : Int), .int .i64 0]) ∧ Fr (fun _ => False) W1 w' := by
            intro W1 hf1
            refine (size_any (dp.kept hf1 (fun _ _ h => h)) ⟨x.1.1.toArray⟩ hz).mono ?_
            simp only
            rintro e w' ⟨⟨hne, _⟩ | ⟨_, f', hg', rfl⟩, hf'⟩
            · exact absurd hfd hne
            · rw [hg] at hg'
              cases hg'
              exact ⟨by rw [hln, hsl], hf'⟩
          have R3 : ∀ W1, Fr (fun _ => False) W W1 → Calls Try.prog 24 #[.pointer (some ⟨q, 0, none⟩), encStr x.1.1] W1 fun e w' => ∃ a c, e = .returned (.tuple #[.slice a xl c, .int .i64 0]) ∧ Ow W1.heap.size w' a c (K.tear keep f).all ∧ Fr (fun _ => False) W1 w' := by
            intro W1 hf1
            refine (read_any (dq.kept hf1 (fun _ _ h => h)) ⟨x.1.1.toArray⟩ hz).mono ?_
            simp only
            rintro e w' ⟨⟨hne, _⟩ | ⟨_, f', a, c, hg', rfl, ho⟩, hf'⟩
            · exact absurd hfd2 hne
            · rw [show K.get x.1.1 ({ K.fall keep d with down := false } : K.DK).fs = _ from hg2] at hg'
              cases hg'
              exact ⟨a, c, by rw [hxl], ho, hf'⟩
          have HR1 := hid R1
          have HR2 := hid R2
          have HR3 := hid R3
          have hwant : (sl : Int) + min keep ((ln : Int) - (sl : Int)) = (xl : Int) := by omega
          have hxln : xl ≤ ln := by omega
          have hlnc : ln ≤ 200000000000000 := by rw [← hln]; exact hul
          have HWT := hid hwant
          clear hwant
          have HTS9 := hid hts
          have HCB9 := hid hcb
          have HNB9 := hid hnb
          have HFR9 := hid hfr
          have HEX := hid (And.intro hxl (And.intro hf eall))
          have htl := tsum_le keep 200000000000000 (l := d.fs) (fun y hy => by have h1 := Ok_len HDK.out.2.1 hy; have h2 := (K.tear_pre keep y.2).length_le; simp only [K.F.all, List.length_append] at h2 ⊢; unfold K.cap at h1; omega) pre
          have hts2 : tsum keep pre ≤ 204800000000000000 := by have := HL.out; have h3 : pre.length * 200000000000000 ≤ 1024 * 200000000000000 := Nat.mul_le_mul_right _ (by omega); omega
          have HTN := hid (tsum_snoc keep pre x)
          obtain ⟨ts, hts'⟩ : ∃ ts, tsum keep pre = ts := ⟨_, rfl⟩
          rw [hts'] at hts2
          have HTQ := hid hts'
          generalize encStr x.1.1 = xs at HR1 HR2 HR3 ⊢
          clear hg hnm hfd hg2 hfd2 hz dp dq hts hcb hnb hfr hul hf hln hsl hxl eall ex R1 R2 R3 htl hts'
          have e7 : W.cell? ⟨db, 0, none⟩ = some (.pointer (some ⟨p, 0, none⟩)) := cell_of (j := 0) HTS9.out.db rfl
          simp only [List.setIfInBounds_toArray, List.set_cons_zero, List.set_cons_succ]
          gi_wp2_with fail
          refine ⟨trivial, (CallsIn.inRound l' (callsIn_wide.2 HR1.out)).mono ?_⟩
          rintro e W1 ⟨ba, bc, rfl, ho1, hf1⟩
          have HO1 := hid ho1
          have HF1 := hid hf1
          have e71 := cell_fr hf1 (fun h => h) e7
          clear ho1 hf1 e7 HR1
          gi_wp2_with fail
          refine ⟨trivial, (CallsIn.inRound l' (callsIn_wide.2 (HR2.out _ HF1.out))).mono ?_⟩
          rintro e W2 ⟨rfl, hf2⟩
          have HO2 := hid (HO1.out.kept hf2 (fun _ _ h => h))
          have HF2 := hid (HF1.out.trans hf2 (fun _ _ h => h))
          have e11 : W2.cell? ⟨cb, 0, none⟩ = some (.pointer (some ⟨q, 0, none⟩)) := cell_of (j := 0) (HF2.out.cells HCB9.out (fun h => h)) rfl
          clear hf2 e71 HR2 HO1
          gi_wp2_with fail
          refine ⟨trivial, (CallsIn.inRound l' (callsIn_wide.2 (HR3.out _ HF2.out))).mono ?_⟩
          rintro e W3 ⟨xa, xc, rfl, ho3, hf3⟩
          have HO3 := hid (HO2.out.kept hf3 (fun _ _ h => h))
          have HX3 := hid ho3
          have HF3 := hid (HF2.out.trans hf3 (fun _ _ h => h))
          have e5 : W3.cell? ⟨w.heap.size, 0, none⟩ = some (.int .i64 keep) := cell_of (j := 0) (HF3.out.cells HTS9.out.kb (fun h => h)) rfl
          clear ho3 hf3 e11 HR3 HO2
          gi_wp2_with fail
          rw [HWT.out]
          have hmx : Try.prog.follows .mixedOrders = true := by kernel_rfl
          have q1 : decide ((ln : Int) < (xl : Int)) = false := by simp; omega
          have q1n : decide (ln < xl) = false := by simp; omega
          have hbc : xl ≤ bc := by have := HO3.out.len; rw [HEX.out.2.2] at this; omega
          have cu1 := fun W => run_cut_hi' W ba ln bc xl hbc _ rfl
          obtain ⟨T, hT⟩ : ∃ T, str (K.tear keep f).all = T := ⟨_, rfl⟩
          have cv1 : ∀ w', Fr (fun _ => False) W3 w' → (convert 31 9 (.slice ba xl bc)).run Try.prog w' = .ok (.string T) w' := fun w' hf' => by
            have h2 := (HO3.out.kept hf' (fun _ _ h => h)).sl.take xl (by rw [HEX.out.2.2]; exact hxln)
            rw [← HEX.out.1, K.tear_take, HEX.out.1] at h2
            rw [← hT]
            exact run_str _ ba xl bc _ h2
          have cv2 : ∀ w', Fr (fun _ => False) W3 w' → (convert 31 9 (.slice xa xl xc)).run Try.prog w' = .ok (.string T) w' := fun w' hf' => by
            have h2 := (HX3.out.kept hf' (fun _ _ h => h)).sl
            rw [HEX.out.1] at h2
            rw [← hT]
            exact run_str _ xa xl xc _ h2
          clear hT e5 hbc
          refine region_round (fun w' => Fr (fun _ => False) W3 w') l' _ hmx (noDefer_of (by kernel_rfl)) (fun ⟨_, _, h⟩ => h) ?_
          have hS : Fr (fun _ => False) W3 { W3 with drawn := W3.drawn + 1 } := Fr.drew (Fr.refl _ _)
          simp only [List.size_toArray, List.length_cons, List.length_nil, Nat.reduceAdd, Array.replicate_succ, Array.replicate_zero, List.push_toArray, List.nil_append, List.cons_append]
          refine wpAnyH_take (i := 0) (v := .int .i64 0) rfl (by kernel_rfl) (by kernel_rfl) (by kernel_rfl) (fun _ _ _ h => h) (Or.inl ⟨by kernel_rfl, fun w' hS' => by clear hS'; go_simp⟩) hS ?_
          simp only [List.getElem_toArray, List.getElem_cons_zero, Act.put, List.setIfInBounds_toArray, List.set_cons_zero, List.set_cons_succ]
          refine wpAnyH_take (i := 1) (v := .bool false) rfl (by kernel_rfl) (by kernel_rfl) (by kernel_rfl) (fun _ _ _ h => h) (Or.inl ⟨by kernel_rfl, fun w' hS' => by clear hS'; go_simp⟩) hS ?_
          simp only [List.getElem_toArray, List.getElem_cons_zero, List.getElem_cons_succ, Act.put, List.setIfInBounds_toArray, List.set_cons_zero, List.set_cons_succ]
          refine wpAnyH_take (i := 2) (v := .bool false) rfl (by kernel_rfl) (by kernel_rfl) (by kernel_rfl) (fun _ _ _ h => h) (Or.inl ⟨by kernel_rfl, fun w' hS' => by clear hS'; go_simp⟩) hS ?_
          simp only [List.getElem_toArray, List.getElem_cons_zero, List.getElem_cons_succ, Act.put, List.setIfInBounds_toArray, List.set_cons_zero, List.set_cons_succ]
          refine wpAnyH_take (i := 3) (v := .int .i64 0) rfl (by kernel_rfl) (by kernel_rfl) (by kernel_rfl) (fun _ _ _ h => h) (Or.inl ⟨by kernel_rfl, fun w' hS' => by clear hS'; go_simp⟩) hS ?_
          simp only [List.getElem_toArray, List.getElem_cons_zero, List.getElem_cons_succ, Act.put, List.setIfInBounds_toArray, List.set_cons_zero, List.set_cons_succ]
          refine wpAnyH_take (i := 4) (v := .bool false) rfl (by kernel_rfl) (by kernel_rfl) (by kernel_rfl) (fun _ _ _ h => h) (Or.inl ⟨by kernel_rfl, fun w' hS' => by clear hS'; go_simp⟩) hS ?_
          simp only [List.getElem_toArray, List.getElem_cons_zero, List.getElem_cons_succ, Act.put, List.setIfInBounds_toArray, List.set_cons_zero, List.set_cons_succ]
          refine wpAnyH_take (i := 5) (v := .bool false) rfl (by kernel_rfl) (by kernel_rfl) (by kernel_rfl) (fun _ _ _ h => h) (Or.inl ⟨by kernel_rfl, fun w' hS' => by clear hS'; go_simp⟩) hS ?_
          simp only [List.getElem_toArray, List.getElem_cons_zero, List.getElem_cons_succ, Act.put, List.setIfInBounds_toArray, List.set_cons_zero, List.set_cons_succ]
          refine wpAnyH_take (i := 6) (v := .bool false) rfl (by kernel_rfl) (by kernel_rfl) (by kernel_rfl) (fun _ _ _ h => h) (Or.inl ⟨by kernel_rfl, fun w' hS' => by clear hS'; go_simp⟩) hS ?_
          simp only [List.getElem_toArray, List.getElem_cons_zero, List.getElem_cons_succ, Act.put, List.setIfInBounds_toArray, List.set_cons_zero, List.set_cons_succ]
          refine wpAnyH_take (i := 7) (v := .int .i64 (ln : Int)) rfl (by kernel_rfl) (by kernel_rfl) (by kernel_rfl) (fun _ _ _ h => h) (Or.inl ⟨by kernel_rfl, fun w' hS' => by clear hS'; go_simp⟩) hS ?_
          simp only [List.getElem_toArray, List.getElem_cons_zero, List.getElem_cons_succ, Act.put, List.setIfInBounds_toArray, List.set_cons_zero, List.set_cons_succ]
          refine wpAnyH_take (i := 8) (v := .slice ba ln bc) rfl (by kernel_rfl) (by kernel_rfl) (by kernel_rfl) (fun _ _ _ h => h) (Or.inl ⟨by kernel_rfl, fun w' hS' => by clear hS'; go_simp⟩) hS ?_
          simp only [List.getElem_toArray, List.getElem_cons_zero, List.getElem_cons_succ, Act.put, List.setIfInBounds_toArray, List.set_cons_zero, List.set_cons_succ]
          refine wpAnyH_take (i := 9) (v := .int .i64 (ln : Int)) rfl (by kernel_rfl) (by kernel_rfl) (by kernel_rfl) (fun _ _ _ h => h) (Or.inl ⟨by kernel_rfl, fun w' hS' => by clear hS'; go_simp⟩) hS ?_
          simp only [List.getElem_toArray, List.getElem_cons_zero, List.getElem_cons_succ, Act.put, List.setIfInBounds_toArray, List.set_cons_zero, List.set_cons_succ]
          refine wpAnyH_take (i := 10) (v := .bool false) rfl (by kernel_rfl) (by kernel_rfl) (by kernel_rfl) (fun _ _ _ h => h) (Or.inl ⟨by kernel_rfl, fun w' hS' => by clear hS'; go_simp⟩) hS ?_
          simp only [List.getElem_toArray, List.getElem_cons_zero, List.getElem_cons_succ, Act.put, List.setIfInBounds_toArray, List.set_cons_zero, List.set_cons_succ]
          refine wpAnyH_take (i := 11) (v := .bool false) rfl (by kernel_rfl) (by kernel_rfl) (by kernel_rfl) (fun _ _ _ h => h) (Or.inl ⟨by kernel_rfl, fun w' hS' => by clear hS'; go_simp⟩) hS ?_
          simp only [List.getElem_toArray, List.getElem_cons_zero, List.getElem_cons_succ, Act.put, List.setIfInBounds_toArray, List.set_cons_zero, List.set_cons_succ]
          refine wpAnyH_take (i := 12) (v := .bool false) rfl (by kernel_rfl) (by kernel_rfl) (by kernel_rfl) (fun _ _ _ h => h) (Or.inl ⟨by kernel_rfl, fun w' hS' => by clear hS'; go_simp⟩) hS ?_
          simp only [List.getElem_toArray, List.getElem_cons_zero, List.getElem_cons_succ, Act.put, List.setIfInBounds_toArray, List.set_cons_zero, List.set_cons_succ]
          refine wpAnyH_take (i := 13) (v := .slice xa xl xc) rfl (by kernel_rfl) (by kernel_rfl) (by kernel_rfl) (fun _ _ _ h => h) (Or.inl ⟨by kernel_rfl, fun w' hS' => by clear hS'; go_simp⟩) hS ?_
          simp only [List.getElem_toArray, List.getElem_cons_zero, List.getElem_cons_succ, Act.put, List.setIfInBounds_toArray, List.set_cons_zero, List.set_cons_succ]
          refine wpAnyH_take (i := 14) (v := .int .i64 (xl : Int)) rfl (by kernel_rfl) (by kernel_rfl) (by kernel_rfl) (fun _ _ _ h => h) (Or.inl ⟨by kernel_rfl, fun w' hS' => by clear hS'; go_simp⟩) hS ?_
          simp only [List.getElem_toArray, List.getElem_cons_zero, List.getElem_cons_succ, Act.put, List.setIfInBounds_toArray, List.set_cons_zero, List.set_cons_succ]
          refine wpAnyH_take (i := 15) (v := .int .i64 (xl : Int)) rfl (by kernel_rfl) (by kernel_rfl) (by kernel_rfl) (fun _ _ _ h => h) (Or.inl ⟨by kernel_rfl, fun w' hS' => by clear hS'; go_simp⟩) hS ?_
          simp only [List.getElem_toArray, List.getElem_cons_zero, List.getElem_cons_succ, Act.put, List.setIfInBounds_toArray, List.set_cons_zero, List.set_cons_succ]
          refine wpAnyH_take (i := 16) (v := .bool false) rfl (by kernel_rfl) (by kernel_rfl) (by kernel_rfl) (fun _ _ _ h => h) (Or.inl ⟨by kernel_rfl, fun w' hS' => by clear hS'; go_simp⟩) hS ?_
          simp only [List.getElem_toArray, List.getElem_cons_zero, List.getElem_cons_succ, Act.put, List.setIfInBounds_toArray, List.set_cons_zero, List.set_cons_succ]
          refine wpAnyH_take (i := 17) (v := .bool false) rfl (by kernel_rfl) (by kernel_rfl) (by kernel_rfl) (fun _ _ _ h => h) (Or.inl ⟨by kernel_rfl, fun w' hS' => by clear hS'; go_simp⟩) hS ?_
          simp only [List.getElem_toArray, List.getElem_cons_zero, List.getElem_cons_succ, Act.put, List.setIfInBounds_toArray, List.set_cons_zero, List.set_cons_succ]
          refine wpAnyH_take (i := 18) (v := .bool false) rfl (by kernel_rfl) (by kernel_rfl) (by kernel_rfl) (fun _ _ _ h => h) (Or.inl ⟨by kernel_rfl, fun w' hS' => by clear hS'; go_simp⟩) hS ?_
          simp only [List.getElem_toArray, List.getElem_cons_zero, List.getElem_cons_succ, Act.put, List.setIfInBounds_toArray, List.set_cons_zero, List.set_cons_succ]
          refine wpAnyH_take (i := 19) (v := .slice xa xl xc) rfl (by kernel_rfl) (by kernel_rfl) (by kernel_rfl) (fun _ _ _ h => h) (Or.inl ⟨by kernel_rfl, fun w' hS' => by clear hS'; go_simp⟩) hS ?_
          simp only [List.getElem_toArray, List.getElem_cons_zero, List.getElem_cons_succ, Act.put, List.setIfInBounds_toArray, List.set_cons_zero, List.set_cons_succ]
          refine wpAnyH_take (i := 20) (v := .int .i64 (xl : Int)) rfl (by kernel_rfl) (by kernel_rfl) (by kernel_rfl) (fun _ _ _ h => h) (Or.inl ⟨by kernel_rfl, fun w' hS' => by clear hS'; go_simp⟩) hS ?_
          simp only [List.getElem_toArray, List.getElem_cons_zero, List.getElem_cons_succ, Act.put, List.setIfInBounds_toArray, List.set_cons_zero, List.set_cons_succ]
          refine wpAnyH_take (i := 21) (v := .slice ba ln bc) rfl (by kernel_rfl) (by kernel_rfl) (by kernel_rfl) (fun _ _ _ h => h) (Or.inl ⟨by kernel_rfl, fun w' hS' => by clear hS'; go_simp⟩) hS ?_
          simp only [List.getElem_toArray, List.getElem_cons_zero, List.getElem_cons_succ, Act.put, List.setIfInBounds_toArray, List.set_cons_zero, List.set_cons_succ]
          refine wpAnyH_take (i := 22) (v := .int .i64 (ln : Int)) rfl (by kernel_rfl) (by kernel_rfl) (by kernel_rfl) (fun _ _ _ h => h) (Or.inl ⟨by kernel_rfl, fun w' hS' => by clear hS'; go_simp⟩) hS ?_
          simp only [List.getElem_toArray, List.getElem_cons_zero, List.getElem_cons_succ, Act.put, List.setIfInBounds_toArray, List.set_cons_zero, List.set_cons_succ]
          refine wpAnyH_take (i := 23) (v := .bool false) rfl (by kernel_rfl) (by kernel_rfl) (by kernel_rfl) (fun _ _ _ h => h) (Or.inl ⟨by kernel_rfl, fun w' hS' => by clear hS'; go_simp⟩) hS ?_
          simp only [List.getElem_toArray, List.getElem_cons_zero, List.getElem_cons_succ, Act.put, List.setIfInBounds_toArray, List.set_cons_zero, List.set_cons_succ]
          refine wpAnyH_take (i := 24) (v := .bool false) rfl (by kernel_rfl) (by kernel_rfl) (by kernel_rfl) (fun _ _ _ h => h) (Or.inl ⟨by kernel_rfl, fun w' hS' => by clear hS'; go_simp⟩) hS ?_
          simp only [List.getElem_toArray, List.getElem_cons_zero, List.getElem_cons_succ, Act.put, List.setIfInBounds_toArray, List.set_cons_zero, List.set_cons_succ]
          refine wpAnyH_take (i := 25) (v := .bool false) rfl (by kernel_rfl) (by kernel_rfl) (by kernel_rfl) (fun _ _ _ h => h) (Or.inl ⟨by kernel_rfl, fun w' hS' => by clear hS'; go_simp⟩) hS ?_
          simp only [List.getElem_toArray, List.getElem_cons_zero, List.getElem_cons_succ, Act.put, List.setIfInBounds_toArray, List.set_cons_zero, List.set_cons_succ]
          refine wpAnyH_take (i := 26) (v := .slice ba ln bc) rfl (by kernel_rfl) (by kernel_rfl) (by kernel_rfl) (fun _ _ _ h => h) (Or.inl ⟨by kernel_rfl, fun w' hS' => by clear hS'; go_simp⟩) hS ?_
          simp only [List.getElem_toArray, List.getElem_cons_zero, List.getElem_cons_succ, Act.put, List.setIfInBounds_toArray, List.set_cons_zero, List.set_cons_succ]
          refine wpAnyH_take (i := 27) (v := .slice xa xl xc) rfl (by kernel_rfl) (by kernel_rfl) (by kernel_rfl) (fun _ _ _ h => h) (Or.inl ⟨by kernel_rfl, fun w' hS' => by clear hS'; go_simp⟩) hS ?_
          simp only [List.getElem_toArray, List.getElem_cons_zero, List.getElem_cons_succ, Act.put, List.setIfInBounds_toArray, List.set_cons_zero, List.set_cons_succ]
          refine wpAnyH_take (i := 28) (v := .int .i64 (xl : Int)) rfl (by kernel_rfl) (by kernel_rfl) (by kernel_rfl) (fun _ _ _ h => h) (Or.inl ⟨by kernel_rfl, fun w' hS' => by clear hS'; go_simp⟩) hS ?_
          simp only [List.getElem_toArray, List.getElem_cons_zero, List.getElem_cons_succ, Act.put, List.setIfInBounds_toArray, List.set_cons_zero, List.set_cons_succ]
          refine wpAnyH_take (i := 29) (v := .slice ba xl bc) rfl (by kernel_rfl) (by kernel_rfl) (by kernel_rfl) (fun _ _ _ h => h) (Or.inl ⟨by kernel_rfl, fun w' hS' => by clear hS'; go_simp⟩) hS ?_
          simp only [List.getElem_toArray, List.getElem_cons_zero, List.getElem_cons_succ, Act.put, List.setIfInBounds_toArray, List.set_cons_zero, List.set_cons_succ]
          refine wpAnyH_take (i := 30) (v := .string T) rfl (by kernel_rfl) (by kernel_rfl) (by kernel_rfl) (fun _ _ _ h => h) (Or.inl ⟨by kernel_rfl, fun w' hS' => by have h1 := cv1 w' hS'; clear hS'; go_simp⟩) hS ?_
          simp only [List.getElem_toArray, List.getElem_cons_zero, List.getElem_cons_succ, Act.put, List.setIfInBounds_toArray, List.set_cons_zero, List.set_cons_succ]
          refine wpAnyH_take (i := 31) (v := .slice xa xl xc) rfl (by kernel_rfl) (by kernel_rfl) (by kernel_rfl) (fun _ _ _ h => h) (Or.inl ⟨by kernel_rfl, fun w' hS' => by clear hS'; go_simp⟩) hS ?_
          simp only [List.getElem_toArray, List.getElem_cons_zero, List.getElem_cons_succ, Act.put, List.setIfInBounds_toArray, List.set_cons_zero, List.set_cons_succ]
          refine wpAnyH_take (i := 32) (v := .string T) rfl (by kernel_rfl) (by kernel_rfl) (by kernel_rfl) (fun _ _ _ h => h) (Or.inl ⟨by kernel_rfl, fun w' hS' => by have h1 := cv2 w' hS'; clear hS'; go_simp⟩) hS ?_
          simp only [List.getElem_toArray, List.getElem_cons_zero, List.getElem_cons_succ, Act.put, List.setIfInBounds_toArray, List.set_cons_zero, List.set_cons_succ]
          refine wpAnyH_take (i := 33) (v := .bool false) rfl (by kernel_rfl) (by kernel_rfl) (by kernel_rfl) (fun _ _ _ h => h) (Or.inl ⟨by kernel_rfl, fun w' hS' => by clear hS'; go_simp⟩) hS ?_
          simp only [List.getElem_toArray, List.getElem_cons_zero, List.getElem_cons_succ, Act.put, List.setIfInBounds_toArray, List.set_cons_zero, List.set_cons_succ]
          refine wpAnyH_take (i := 34) (v := .bool false) rfl (by kernel_rfl) (by kernel_rfl) (by kernel_rfl) (fun _ _ _ h => h) (Or.inl ⟨by kernel_rfl, fun w' hS' => by clear hS'; go_simp⟩) hS ?_
          simp only [List.getElem_toArray, List.getElem_cons_zero, List.getElem_cons_succ, Act.put, List.setIfInBounds_toArray, List.set_cons_zero, List.set_cons_succ]
          refine wpAnyH_done (by kernel_rfl) ?_ _
          have HS3 := hid hS
          have HFW := hid (HF3.out.trans hS (fun _ _ h => h))
          have e12 : ({ W3 with drawn := W3.drawn + 1 } : World).cell? ⟨nb, 0, none⟩ = some (.int .i64 (ts : Int)) := by
            have := cell_of (j := 0) (HFW.out.cells HNB9.out (fun h => h)) rfl
            rw [HTQ.out] at this
            exact this
          have z12 : ({ W3 with drawn := W3.drawn + 1 } : World).frozen? ⟨nb, 0, none⟩ = false := frozen_of_row (HFW.out.cells HNB9.out (fun h => h))
          have hsz9 := HFW.out.size
          obtain ⟨W4, hW4⟩ : ∃ W4, W4 = ({ W3 with drawn := W3.drawn + 1 } : World) := ⟨_, rfl⟩
          rw [← hW4] at e12 z12 HS3 HFW hsz9 ⊢
          clear hS cv1 cv2 hW4 q1 q1n cu1
          gi_wp2
          have f9 : Fr (fun k => k = nb) W (W4.setCell ⟨nb, 0, none⟩ (.int .i64 ((ts : Int) + (xl : Int)))) := Fr.setCell (p := ⟨nb, 0, none⟩) (S := fun k => k = nb) (HFW.out.mono (fun _ _ h => h.elim)) (fun _ => rfl) _
          have hle := HFR9.out.size
          refine ⟨⟨f9.size, fun k o hk h0 _ => f9.cells h0 (fun e => by have := HNL.out; omega)⟩, fun k hk => f9.block k (by have := (HKm.out k hk).2; omega) (HKm.out k hk).1, HFR9.out.trans f9 (fun _ _ h => h), ?_⟩
          rw [setCell_row (HFW.out.cells HNB9.out (fun h => h)), HTN.out, HTQ.out, HEX.out.2.1, HEX.out.1]
          simp

theorem diskTorn_walk (room : Int) (h0 : -9223372036854775808 ≤ room) (h1 : room ≤ 9223372036854775807) (sa : Option Addr) (sn sc : Nat) (ops : List K.Op) (keep : Int) (k1 : keep ≤ 9223372036854775807) (w : World) (hs : Sc w sa sn ops) (hsl : sn ≤ 9223372036854775807) (hbk : (ops.map (fun o => o.b.length + 1)).sum ≤ 1048576) :
    Calls Try.prog 5 #[.int .i64 room, .slice sa sn sc, .int .i64 keep] w fun e w' => e = .returned (.bool true) ∧ Below w.heap.size w w' := by
  by_cases h : room < 0
  · exact torn_neg room h h0 sa sn sc keep w
  · by_cases k : keep < 0
    · exact keep_neg room (by omega) h1 sa sn sc keep k w
    · exact torn_pos room (by omega) h1 sa sn sc ops keep (by omega) k1 w hs hsl hbk

end Go.Proofs.Ytnfpceeacfdldaa
