/-
  An acceptor in memory; what it is told ahead of all else; Accept.
-/
import Derived.Test.YtedhmhlhjonloaaAMap
import Derived.WalkSpells
namespace Go.Proofs.Ytedhmhlhjonloaa
open Go.RowKit Go.Maps
set_option linter.unusedVariables false
set_option linter.unusedSimpArgs false

/-- AN ACCEPTOR: what it has promised, the first slot, what it has accepted, by slots. -/
structure A.Ac where
  pr : A.Bl
  fs : Int
  l : List (Int × A.Sd)
def A.new : A.Ac := ⟨(0, 0), 0, []⟩
/-- what is accepted, as it lies: a block, its cells -/
structure SM where
  g : Nat
  s : A.Sd
/-- IN MEMORY: four cells at p, the map mb, each slotted entry in a block of I, which is never written. -/
structure Am (I : Nat → Prop) (w : World) (p mb : Nat) (l : List (Int × SM)) (a : A.Ac) : Prop where
  at_ : w.heap[p]? = some (.cells #[.int .i64 a.pr.1, .int .i64 a.pr.2, .int .i64 a.fs, .map (some mb)] 90 (0, 0))
  mp : OMi w mb (A.mp SM.g l)
  ne : p ≠ mb
  np : ¬ I p
  nm : ¬ I mb
  sl : ∀ q ∈ l, q.2.s.slot = q.1 ∧ I q.2.g ∧ ∃ cs, w.heap[q.2.g]? = some (.cells cs 79 (0, 0)) ∧ Rs I w cs q.2.s
  up : A.Up l
  ls : A.mp SM.s l = a.l
  sm : ∀ q ∈ l, -9223372036854775808 ≤ q.1 ∧ q.1 ≤ 9223372036854775807
theorem Am.kept {I S : Nat → Prop} {w w' : World} {p mb : Nat} {l : List (Int × SM)} {a : A.Ac} (h : Am I w p mb l a) (hf : Fr S w w') (hp : ¬ S p) (hm : ¬ S mb) (hI : ∀ k, I k → ¬ S k) : Am I w' p mb l a :=
  ⟨hf.cells h.at_ hp, h.mp.kept hf hm, h.ne, h.np, h.nm, fun q hq => by
    obtain ⟨h1, h2, cs, h3, h4⟩ := h.sl q hq
    exact ⟨h1, h2, cs, hf.cells h3 (hI _ h2), h4.kept hf hI⟩, h.up, h.ls, h.sm⟩
/-- THE ACCEPTOR a AT p: its map, and the blocks of I. -/
def At_ (I : Nat → Prop) (w : World) (p mb : Nat) (a : A.Ac) : Prop := (∀ k, I k → k < w.heap.size) ∧ p < w.heap.size ∧ mb < w.heap.size ∧ ∃ l, Am I w p mb l a
theorem At_.kept {I S : Nat → Prop} {w w' : World} {p mb : Nat} {a : A.Ac} (h : At_ I w p mb a) (hf : Fr S w w') (hp : ¬ S p) (hm : ¬ S mb) (hI : ∀ k, I k → ¬ S k) : At_ I w' p mb a := by
  obtain ⟨h1, h2, h3, l, h4⟩ := h
  exact ⟨fun k hk => Nat.lt_of_lt_of_le (h1 k hk) hf.size, Nat.lt_of_lt_of_le h2 hf.size, Nat.lt_of_lt_of_le h3 hf.size, l, h4.kept hf hp hm hI⟩
theorem At_.fr {I : Nat → Prop} {w w' : World} {p mb : Nat} {a : A.Ac} (h : At_ I w p mb a) (hf : Fr (fun _ => False) w w') : At_ I w' p mb a := h.kept hf (fun h => h) (fun h => h) (fun _ _ h => h)
theorem At_.k {I : Nat → Prop} {w : World} {p mb : Nat} {a : A.Ac} (h : At_ I w p mb a) : w.heap[p]? = some (.cells #[.int .i64 a.pr.1, .int .i64 a.pr.2, .int .i64 a.fs, .map (some mb)] 90 (0, 0)) := by
  obtain ⟨_, _, _, l, h⟩ := h
  exact h.at_
theorem At_.len {I : Nat → Prop} {w : World} {p mb : Nat} {a : A.Ac} (h : At_ I w p mb a) : ∃ l, OMi w mb l ∧ l.length = a.l.length := by
  obtain ⟨_, _, _, l, h⟩ := h
  exact ⟨_, h.mp, by rw [← h.ls, A.length_mp, A.length_mp]⟩
set_option maxHeartbeats 800000 in
theorem acMade_any {w : World} {p mb : Nat} (c3 : w.cell? ⟨p, 3, none⟩ = some (.map (some mb))) : Calls Try.prog 34 #[.pointer (some ⟨p, 0, none⟩)] w fun e w' => e = .returned (.bool true) ∧ w = w' := by
  have q : (binOp .neq 88 (.map (some mb)) (.map none)).run Try.prog w = .ok (.bool true) w := run_neq_map_nil w _ _ _ (some mb) Try.underlying88
  go_enter Try.func34, Try.ntmps34
  go_wp2
  go_ret
  exact ⟨rfl, rfl⟩
set_option maxHeartbeats 800000 in
theorem acNew_any (w : World) : Calls Try.prog 9 #[] w fun e w' => ∃ p mb, e = .returned (.pointer (some ⟨p, 0, none⟩)) ∧ w.heap.size ≤ p ∧ w.heap.size ≤ mb ∧ At_ (fun _ => False) w' p mb A.new ∧ Fr (fun _ => False) w w' := by
  have hmm := @run_makeMap Try.prog
  go_enter Try.func9, Try.ntmps9
  go_wp2
  go_ret
  refine ⟨w.heap.size + 1, w.heap.size, rfl, by omega, Nat.le_refl _, ⟨fun k hk => hk.elim, by simp, by simp; omega, [], ?_, ?_, by omega, fun h => h, fun h => h, by simp, by simp [A.Up], rfl, by simp⟩, Fr.alloc (Fr.alloc (Fr.refl _ _) _) _⟩
  · have := Go.heap_alloc_new (w.alloc (.map #[] 0)) (.cells #[.int .i64 0, .int .i64 0, .int .i64 0, .map (some w.heap.size)] 90)
    rw [World.size_alloc] at this
    exact this
  · exact (World.ownsMap_made w Try.prog 2 slElem).alloc _
/-- what an asker is told ahead of all else -/
def A.judge (a : A.Ac) (b : A.Bl) (slot : Int) : Int := if A.okB b = true ∧ A.okS slot = true then (if A.le a.pr b = true then 0 else 70) else 1
set_option maxHeartbeats 3200000 in
theorem acJudge_any {I : Nat → Prop} {w : World} {p mb : Nat} {a : A.Ac} (h : At_ I w p mb a) (b1 b2 slot : Int) :
    Calls Try.prog 36 #[.pointer (some ⟨p, 0, none⟩), .agg #[.int .i64 b1, .int .i64 b2], .int .i64 slot] w fun e w' => e = .returned (.int .i64 (A.judge a (b1, b2) slot)) ∧ Fr (fun _ => False) w w' := by
  have hk := h.k
  obtain ⟨⟨r1, r2⟩, fs, l⟩ := a
  have hpl := h.2.1
  clear h
  have f0 : Fr (fun _ => False) w (w.alloc (.cells #[.int .i64 b1, .int .i64 b2] 27)) := Fr.alloc (Fr.refl _ _) _
  have bb : (w.alloc (.cells #[.int .i64 b1, .int .i64 b2] 27)).heap[w.heap.size]? = some (.cells #[.int .i64 b1, .int .i64 b2] 27 (0, 0)) := Go.heap_alloc_new w _
  have KM := hid (fun (W : World) (hf : Fr (fun _ => False) w W) => acMade_any (cellA (j := 3) (hf.cells hk (fun h => h)) rfl))
  have KC := hid (fun (W : World) => check_any b1 b2 W)
  have KS := hid (fun (W : World) => isSlot_any slot W)
  have KO := hid (fun (V : World) (g : Nat) (t : TypeId) (m : Nat × Nat) c (hg : V.heap[g]? = some (.cells #[.int .i64 r1, .int .i64 r2, .int .i64 b1, .int .i64 b2] t m)) => inOrder_any r1 r2 b1 b2 V g c t m hg)
  unfold A.judge
  simp only
  generalize A.okB (b1, b2) = x1 at KC ⊢
  generalize A.okS slot = x2 at KS ⊢
  generalize A.le (r1, r2) (b1, b2) = x3 at KO ⊢
  have F0 := hid f0
  have BB := hid bb
  have HK := hid hk
  clear f0 bb hk
  by_cases hx : x1 = true ∧ x2 = true
  · obtain ⟨rfl, rfl⟩ := hx
    cases x3 <;> simp only [if_true, if_false, Bool.false_eq_true, false_and, and_false, and_self, reduceCtorEq]
    all_goals
      go_enter Try.func36, Try.ntmps36
      go_wp2_with fail
      refine (KM.out _ F0.out).mono ?_
      rintro e w1 ⟨rfl, rfl⟩
      have c0 := cellA (j := 0) BB.out rfl
      have c1 := cellA (j := 1) BB.out rfl
      go_wp2_with fail
      refine (KC.out _).mono ?_
      rintro e w1 ⟨rfl, f1⟩
      have F1 := hid (F0.out.trans f1 (fun _ _ h => h))
      have BB1 := hid (f1.cells BB.out (fun h => h))
      have d0 : w1.cell? ⟨w.heap.size, 0, none⟩ = some (.int .i64 b1) := cellA BB1.out rfl
      have d1 : w1.cell? ⟨w.heap.size, 1, none⟩ = some (.int .i64 b2) := cellA BB1.out rfl
      have p0 : w1.cell? ⟨p, 0, none⟩ = some (.int .i64 r1) := cellA (F1.out.cells HK.out (fun h => h)) rfl
      have p1 : w1.cell? ⟨p, 1, none⟩ = some (.int .i64 r2) := cellA (F1.out.cells HK.out (fun h => h)) rfl
      clear f1 c0 c1
      go_wp2_with (first
        | (go_at_call 38; refine (KS.out _).mono ?_; rintro e w2 ⟨rfl, rfl⟩))
      go_region_held3 (fun W => W.cell? ⟨p, 0, none⟩ = some (.int .i64 r1) ∧ W.cell? ⟨p, 1, none⟩ = some (.int .i64 r2) ∧ W.cell? ⟨w.heap.size, 0, none⟩ = some (.int .i64 b1) ∧ W.cell? ⟨w.heap.size, 1, none⟩ = some (.int .i64 b2)) (first | exact ⟨p0, p1, d0, d1⟩ | go_keep | exact s2)
            (first
              | (go_at_call 54; refine (KO.out _ w1.heap.size _ _ _ (by exact Go.heap_alloc_new w1 _)).mono ?_; rintro e w2 ⟨rfl, f2⟩; have F2 := hid ((Fr.drew (Fr.alloc F1.out _)).trans f2 (fun _ _ h => h)); have f3 := (Fr.drew (Fr.alloc (Fr.refl (fun _ => False) w1) _)).trans f2 (fun _ _ h => h); have s2 : (fun W : World => W.cell? ⟨p, 0, none⟩ = some (.int .i64 r1) ∧ W.cell? ⟨p, 1, none⟩ = some (.int .i64 r2) ∧ W.cell? ⟨w.heap.size, 0, none⟩ = some (.int .i64 b1) ∧ W.cell? ⟨w.heap.size, 1, none⟩ = some (.int .i64 b2)) w2 := ⟨cellFr f3 (fun h => h) p0, cellFr f3 (fun h => h) p1, cellFr f3 (fun h => h) d0, cellFr f3 (fun h => h) d1⟩; clear f2 f3))
      go_wp2
      go_ret
      exact ⟨rfl, F2.out⟩
  · rw [if_neg hx]
    cases x1 <;> cases x2
    case neg.true.true => exact absurd ⟨rfl, rfl⟩ hx
    all_goals
      clear hx
      go_enter Try.func36, Try.ntmps36
      go_wp2_with fail
      refine (KM.out _ F0.out).mono ?_
      rintro e w1 ⟨rfl, rfl⟩
      have c0 := cellA (j := 0) BB.out rfl
      have c1 := cellA (j := 1) BB.out rfl
      go_wp2_with fail
      refine (KC.out _).mono ?_
      rintro e w1 ⟨rfl, f1⟩
      have F1 := hid (F0.out.trans f1 (fun _ _ h => h))
      have BB1 := hid (f1.cells BB.out (fun h => h))
      have d0 : w1.cell? ⟨w.heap.size, 0, none⟩ = some (.int .i64 b1) := cellA BB1.out rfl
      have d1 : w1.cell? ⟨w.heap.size, 1, none⟩ = some (.int .i64 b2) := cellA BB1.out rfl
      have p0 : w1.cell? ⟨p, 0, none⟩ = some (.int .i64 r1) := cellA (F1.out.cells HK.out (fun h => h)) rfl
      have p1 : w1.cell? ⟨p, 1, none⟩ = some (.int .i64 r2) := cellA (F1.out.cells HK.out (fun h => h)) rfl
      clear f1 c0 c1
      go_wp2_with (first
        | (go_at_call 38; refine (KS.out _).mono ?_; rintro e w2 ⟨rfl, rfl⟩))
      go_ret
      exact ⟨rfl, F1.out⟩
set_option maxHeartbeats 800000 in
theorem acPromised_any {I : Nat → Prop} {w : World} {p mb : Nat} {a : A.Ac} (h : At_ I w p mb a) : Calls Try.prog 20 #[.pointer (some ⟨p, 0, none⟩)] w fun e w' => e = .returned (A.bv a.pr) ∧ Fr (fun _ => False) w w' := by
  have hk := h.k
  obtain ⟨⟨r1, r2⟩, fs, l⟩ := a
  have KM := hid (fun (W : World) (hf : Fr (fun _ => False) w W) => acMade_any (cellA (j := 3) (hf.cells hk (fun h => h)) rfl))
  have c0 := cellA (j := 0) hk rfl
  have c1 := cellA (j := 1) hk rfl
  have hl := h.2.1
  clear h hk
  go_enter Try.func20, Try.ntmps20
  go_wp2_with (first | (go_at_call 34; refine (KM.out _ (Fr.alloc (Fr.refl _ _) _)).mono ?_; rintro e w2 ⟨rfl, rfl⟩))
  have hn := Go.heap_alloc_new w (.cells #[.int .i64 r1, .int .i64 r2] 27)
  have lv := run_loadVar_mid (P := Try.prog) _ w.heap.size 0 27 [.int .i64 r1, .int .i64 r2] _ (rangeAt_of hn 0 _ rfl) Try.underlying27 rfl (by kernel_rfl)
  exact bodyPost_ret (v := A.bv (r1, r2)) (results_cell1 Try.results20 _ _ _ _ _ (by rfl) lv) rfl ⟨rfl, Fr.alloc (Fr.refl _ _) _⟩
set_option maxHeartbeats 800000 in
theorem acFirst_any {I : Nat → Prop} {w : World} {p mb : Nat} {a : A.Ac} (h : At_ I w p mb a) : Calls Try.prog 21 #[.pointer (some ⟨p, 0, none⟩)] w fun e w' => e = .returned (.int .i64 a.fs) ∧ w = w' := by
  have hk := h.k
  obtain ⟨⟨r1, r2⟩, fs, l⟩ := a
  have KM := hid (acMade_any (cellA (j := 3) hk rfl))
  have c0 := cellA (j := 2) hk rfl
  clear h hk
  go_enter Try.func21, Try.ntmps21
  go_wp2_with (first | (go_at_call 34; refine KM.out.mono ?_; rintro e w2 ⟨rfl, rfl⟩))
  go_ret
  exact ⟨rfl, rfl⟩
set_option maxHeartbeats 800000 in
theorem acLen_any {I : Nat → Prop} {w : World} {p mb : Nat} {a : A.Ac} (h : At_ I w p mb a) : Calls Try.prog 32 #[.pointer (some ⟨p, 0, none⟩)] w fun e w' => e = .returned (.int .i64 a.l.length) ∧ w = w' := by
  have hk := h.k
  obtain ⟨l', hm, hl⟩ := h.len
  have KM := hid (acMade_any (cellA (j := 3) hk rfl))
  have c0 := cellA (j := 3) hk rfl
  rw [← hl]
  have HM := hid hm
  clear h hk hl hm
  go_enter Try.func32, Try.ntmps32
  go_wp2_with (first | (go_at_call 34; refine KM.out.mono ?_; rintro e w2 ⟨rfl, rfl⟩) | (at_len; refine wpList_len_own _ rfl _ 88 rfl 2 93 Try.underlying88 slElem mb _ _ rfl HM.out ?_; rw [A.toD_size]))
  go_ret
  exact ⟨rfl, rfl⟩

/-- I, and what is new -/
def Nw (I : Nat → Prop) (w w' : World) : Nat → Prop := fun k => I k ∨ (w.heap.size ≤ k ∧ k < w'.heap.size)
theorem At_.more {I J : Nat → Prop} {w : World} {p mb : Nat} {a : A.Ac} (h : At_ I w p mb a) (hJ : ∀ k, I k → J k) (hl : ∀ k, J k → k < w.heap.size) (hp : ¬ J p) (hm : ¬ J mb) : At_ J w p mb a := by
  obtain ⟨h1, h2, h3, l, h4⟩ := h
  refine ⟨hl, h2, h3, l, ⟨h4.at_, h4.mp, h4.ne, hp, hm, fun q hq => ?_, h4.up, h4.ls, h4.sm⟩⟩
  obtain ⟨e1, e2, cs, e3, e4⟩ := h4.sl q hq
  exact ⟨e1, hJ _ e2, cs, e3, e4.mono hJ⟩
theorem At_.nw {I : Nat → Prop} {w w' : World} {p mb : Nat} {a : A.Ac} (h0 : At_ I w p mb a) (h : At_ I w' p mb a) (hs : w.heap.size ≤ w'.heap.size) : At_ (Nw I w w') w' p mb a :=
  h.more (fun k hk => .inl hk) (fun k hk => by rcases hk with hk | hk; exact h.1 k hk; exact hk.2) (fun hk => by
    have := h0.2.1
    obtain ⟨_, _, _, l, h4⟩ := h
    rcases hk with hk | hk
    · exact h4.np hk
    · omega) (fun hk => by
    have := h0.2.2.1
    obtain ⟨_, _, _, l, h4⟩ := h
    rcases hk with hk | hk
    · exact h4.nm hk
    · omega)
/-- what a slot is given -/
def A.keep (a : A.Ac) (s : A.Sd) : A.Ac := { a with l := A.put s.slot s a.l }
theorem infoSl : (Try.prog.info? 79).map (·.size) = some 59 := by kernel_rfl
set_option maxHeartbeats 3200000 in
set_option maxRecDepth 20000 in
/-- keep: a clone is kept for its slot -/
theorem acKeep_any {I J : Nat → Prop} {w : World} {p mb : Nat} {a : A.Ac} (h : At_ I w p mb a) {cs : Array Value} {s : A.Sd} (hs : Rs J w cs s) (hl : a.l.length < 310000000000) (h0 : -9223372036854775808 ≤ s.slot) (h1 : s.slot ≤ 9223372036854775807) :
    Calls Try.prog 37 #[.pointer (some ⟨p, 0, none⟩), .agg cs] w fun e w' => e = .returned (.tuple #[]) ∧ At_ (Nw I w w') w' p mb (A.keep a s) ∧ Fr (fun k => k = mb) w w' := by
  have HH := hid h
  have HS := hid hs
  have hcs := hs.size
  have f0 : Fr (fun _ => False) w (w.alloc (.cells cs 79)) := Fr.alloc (Fr.refl _ _) _
  have hb0 : (w.alloc (.cells cs 79)).heap[w.heap.size]? = some (.cells cs 79 (0, 0)) := Go.heap_alloc_new w _
  have ld : (Instr.loadAt 79 (.pointer (some ⟨w.heap.size, 0, none⟩))).run Try.prog (w.alloc (.cells cs 79)) = .ok (.agg cs) (w.alloc (.cells cs 79)) := by
    have := run_loadAt_mid (P := Try.prog) _ w.heap.size 0 79 cs.toList _ (rangeAt_of hb0 0 cs.toList (by rw [List.drop_zero]; exact List.take_length)) Try.underlying79 rfl (by rw [Array.length_toList, hcs]; kernel_rfl)
    simpa using this
  have KC := hid (cloned_any (hs.kept f0 (fun _ _ h => h)))
  have LD := hid ld
  have F0 := hid f0
  have HB0 := hid hb0
  clear ld h hs f0 hb0
  go_enter Try.func37, Try.ntmps37
  go_wp2_with (first
    | (refine wpList_load_v LD.out (by exact ⟨_, rfl, rfl⟩) (by kernel_rfl) ?_))
  refine KC.out.mono ?_
  rintro e w1 ⟨c1, rfl, r1, f1⟩
  have b1 := f1.cells HB0.out (fun h => h)
  obtain ⟨W, st, hbW, fW⟩ := box_whole (c := c1) b1 (by rw [r1.size, hcs]) (by rw [r1.size]; kernel_rfl) r1.one
  have hgl : w.heap.size < w1.heap.size := lt_of_row b1
  have hW1 : w1.heap.size ≤ W.heap.size := fW.size
  have bW := hbW
  have fA := (F0.out.trans f1 (fun _ _ h => h)).trans fW (fun i hi e => by omega)
  have atW := HH.out.fr fA
  have hpl := atW.2.1
  have hpk := atW.k
  have pc : W.cell? ⟨p, 3, none⟩ = some (.map (some mb)) := cellA hpk rfl
  have sc : W.cell? ⟨w.heap.size, 0, none⟩ = some (.int .i64 s.slot) := cellA bW r1.parts.2.choose_spec.choose_spec.choose_spec.choose_spec.2.2.1
  have ST := hid st
  have ATW := hid atW
  have BW := hid bW
  have R1 := hid r1
  have FA := hid fA
  have FW := hid fW
  have HL := hid (And.intro hgl hW1)
  clear st atW bW r1 fA fW hgl hW1 hpk b1 f1
  obtain ⟨hI, hp1, hm1, l, ham⟩ := ATW.out
  have hln : l.length = a.l.length := by rw [← ham.ls, A.length_mp]
  obtain ⟨w2, hrun, hown2, hg2⟩ := World.ownsMap.update (w := W.drew) (D := A.toD (A.mp SM.g l)) (ham.mp.kept (Fr.drew (Fr.refl (fun _ => False) W)) (fun h => h)) keyedI Try.underlying88 (by rw [A.length_mp, hln]; unfold maxLen; omega) (key := .int .i64 s.slot) (val := .pointer (some ⟨w.heap.size, 0, none⟩)) (Maps.keyOf_int_mk Try.underlying2 (wfI h0 h1)) (d := .held w.heap.size) (ps := []) rfl
  rw [A.toD_put] at hown2
  have HAM := hid ham
  have HO2 := hid hown2
  have HG2 := hid hg2
  have HI := hid (And.intro hI (And.intro hp1 hm1))
  clear ham hown2 hg2 hI hp1 hm1 hln
  go_wp2_with (first
    | (refine wpList_store_v ST.out (by exact ⟨_, _, rfl, rfl, rfl⟩) (by kernel_rfl) ?_))
  have fin : At_ (Nw I w w2) w2 p mb (A.keep a s) ∧ Fr (fun k => k = mb) w w2 := by
    have hg2 := Fr.of_grown HG2.out
    have ham := HAM.out
    have fD : Fr (fun k => k = mb) W w2 := ((Fr.drew (Fr.refl (fun k => k = mb) W)).trans hg2 (fun i _ e => by simp at e; exact e.symm))
    have hz := fD.size
    have hw := HL.out
    have hsw := FA.out.size
    obtain ⟨hI, hp1, hm1⟩ := HI.out
    have hwI : ∀ k, I k → k < w.heap.size := HH.out.1
    have hwp := HH.out.2.1
    have hwm := HH.out.2.2.1
    have r1 := R1.out
    rw [World.size_alloc] at r1
    have r2 := ((r1.kept FW.out (fun i hi e => by omega)).kept fD (fun i hi e => by omega))
    refine ⟨⟨fun k hk => ?_, by omega, by omega, A.put s.slot ⟨w.heap.size, s⟩ l, ⟨fD.cells ham.at_ ham.ne, ?_, ham.ne, ?_, ?_, ?_, ham.up.put _ _, ?_, ?_⟩⟩, FA.out.mono (fun _ _ h => h.elim) |>.trans fD (fun _ _ h => h)⟩
    · rcases hk with hk | hk
      · have := hwI k hk; omega
      · exact hk.2
    · rw [A.mp_put]
      exact OMi.tight HO2.out
    · rintro (h | h)
      · exact ham.np h
      · omega
    · rintro (h | h)
      · exact ham.nm h
      · omega
    · intro q hq
      rcases A.mem_put.1 hq with rfl | ⟨hq, hn⟩
      · exact ⟨rfl, .inr ⟨Nat.le_refl _, show w.heap.size < w2.heap.size by omega⟩, c1, fD.cells BW.out (fun e => by have e : w.heap.size = mb := e; omega), r2.mono (fun i hi => .inr (by have hi : w.heap.size + 1 ≤ i ∧ i < w1.heap.size := hi; omega))⟩
      · obtain ⟨e1, e2, c2, e3, e4⟩ := ham.sl q hq
        exact ⟨e1, .inl e2, c2, fD.cells e3 (fun e => ham.nm (e ▸ e2)), (e4.kept fD (fun i hi e => ham.nm (e ▸ hi))).mono (fun i hi => .inl hi)⟩
    · show A.mp SM.s (A.put s.slot ⟨w.heap.size, s⟩ l) = A.put s.slot s a.l
      rw [A.mp_put, ham.ls]
    · intro q hq
      rcases A.mem_put.1 hq with rfl | ⟨hq, hn⟩
      · exact ⟨h0, h1⟩
      · exact ham.sm q hq
  have FIN := hid fin
  clear fin
  go_region
  all_goals exact bodyPost_end (v := .tuple #[]) (by simp [results, Try.results37]) rfl ⟨rfl, FIN.out⟩
/-- Accept -/
def A.accept (a : A.Ac) (b : A.Bl) (slot : Int) (e : A.En) : Int × A.Ac :=
  if A.judge a b slot ≠ 0 then (A.judge a b slot, a) else if slot < a.fs then (71, a) else (0, A.keep { a with pr := b } ⟨slot, b, e⟩)
theorem A.judge_ok {a : A.Ac} {b : A.Bl} {slot : Int} (h : A.judge a b slot = 0) : A.okB b = true ∧ A.okS slot = true ∧ A.le a.pr b = true := by
  unfold A.judge at h
  split at h
  · rename_i h1
    split at h
    · rename_i h2; exact ⟨h1.1, h1.2, h2⟩
    · simp at h
  · simp at h
theorem A.okS_iff {s : Int} : A.okS s = true ↔ 0 ≤ s ∧ s ≤ 1099511627776 := by simp [A.okS]
/-- what has been promised is another ballot -/
theorem At_.promise {I : Nat → Prop} {w w' : World} {p mb : Nat} {a : A.Ac} (h : At_ I w p mb a) (b : A.Bl) (hf : Fr (fun k => k = p) w w') (hat : w'.heap[p]? = some (.cells #[.int .i64 b.1, .int .i64 b.2, .int .i64 a.fs, .map (some mb)] 90 (0, 0))) : At_ I w' p mb { a with pr := b } := by
  obtain ⟨h1, h2, h3, l, h4⟩ := h
  refine ⟨fun k hk => Nat.lt_of_lt_of_le (h1 k hk) hf.size, Nat.lt_of_lt_of_le h2 hf.size, Nat.lt_of_lt_of_le h3 hf.size, l, ⟨hat, h4.mp.kept hf (fun e => h4.ne e.symm), h4.ne, h4.np, h4.nm, fun q hq => ?_, h4.up, h4.ls, h4.sm⟩⟩
  obtain ⟨e1, e2, cs, e3, e4⟩ := h4.sl q hq
  exact ⟨e1, e2, cs, hf.cells e3 (fun e => h4.np (e ▸ e2)), e4.kept hf (fun i hi e => h4.np (e ▸ hi))⟩
theorem Fr.setCell2 {w : World} {p i j : Nat} {u v : Value} : Fr (fun k => k = p) w ((w.setCell ⟨p, i, none⟩ u).setCell ⟨p, j, none⟩ v) :=
  Fr.setCell (p := ⟨p, j, none⟩) (S := fun k => k = p) (Fr.setCell (p := ⟨p, i, none⟩) (S := fun k => k = p) (Fr.refl _ _) (fun _ => rfl) u) (fun _ => rfl) v
set_option maxHeartbeats 3200000 in
set_option maxRecDepth 20000 in
theorem acAccept_any {I J : Nat → Prop} {w : World} {p mb : Nat} {a : A.Ac} (h : At_ I w p mb a) (b1 b2 slot : Int) {ec : List Value} {e : A.En} (hs : Re J w ec e) (hl : a.l.length < 310000000000) (hJ : ¬ J p) :
    Calls Try.prog 12 #[.pointer (some ⟨p, 0, none⟩), .agg #[.int .i64 b1, .int .i64 b2], .int .i64 slot, .agg ec.toArray] w fun r w' => r = .returned (.int .i64 (A.accept a (b1, b2) slot e).1) ∧ At_ (Nw I w w') w' p mb (A.accept a (b1, b2) slot e).2 ∧ Fr (fun k => k = p ∨ k = mb) w w' := by
  have KJ := hid (fun (W : World) (hf : Fr (fun _ => False) w W) => acJudge_any (h.fr hf) b1 b2 slot)
  generalize hj : A.judge a (b1, b2) slot = j at KJ
  obtain ⟨R, hR⟩ : ∃ x, A.accept a (b1, b2) slot e = x := ⟨_, rfl⟩
  rw [hR]
  have HR := hid hR
  clear hR
  obtain ⟨eca, heca⟩ : ∃ x, ec.toArray = x := ⟨_, rfl⟩
  have hsz : eca.size = 56 := by rw [← heca]; simp [hs.len]
  rw [heca]
  obtain ⟨W, hW⟩ : ∃ W, (w.alloc (.cells #[.int .i64 b1, .int .i64 b2] 27)).alloc (.cells eca 46) = W := ⟨_, rfl⟩
  have f0 : Fr (fun _ => False) w W := by rw [← hW]; exact Fr.alloc (Fr.alloc (Fr.refl _ _) _) _
  have bb : W.heap[w.heap.size]? = some (.cells #[.int .i64 b1, .int .i64 b2] 27 (0, 0)) := by rw [← hW]; exact (Below.heap_alloc _ _ _ (by simp)).trans (Go.heap_alloc_new w _)
  have be : W.heap[w.heap.size + 1]? = some (.cells eca 46 (0, 0)) := by
    have h1 := Go.heap_alloc_new (w.alloc (.cells #[.int .i64 b1, .int .i64 b2] 27)) (.cells eca 46)
    rw [World.size_alloc] at h1
    rw [← hW]; exact h1
  have HH := hid h
  have HS := hid hs
  have HJ := hid hj
  have HW := hid hW
  have F0 := hid f0
  have BB := hid bb
  have BE := hid be
  have HEC := hid heca
  clear h hs hj hW f0 bb be heca
  go_enter Try.func12, Try.ntmps12
  go_wp2_with fail
  rw [HW.out]
  refine (KJ.out _ F0.out).mono ?_
  rintro r w1 ⟨rfl, f1⟩
  have F1 := hid (F0.out.trans f1 (fun _ _ h => h))
  have B1 := hid (f1.cells BB.out (fun h => h))
  have E1 := hid (f1.cells BE.out (fun h => h))
  have AT1 := hid (HH.out.fr F1.out)
  clear f1
  by_cases hj0 : j = 0
  · subst hj0
    have pk := AT1.out.k
    have pf : w1.cell? ⟨p, 2, none⟩ = some (.int .i64 a.fs) := cellA pk rfl
    have p0 : w1.cell? ⟨p, 0, none⟩ = some (.int .i64 a.pr.1) := cellA pk rfl
    have p1 : w1.cell? ⟨p, 1, none⟩ = some (.int .i64 a.pr.2) := cellA pk rfl
    have z0 := frozen_of_row (j := 0) pk
    have z1 := frozen_of_row (j := 1) pk
    have d0 : w1.cell? ⟨w.heap.size, 0, none⟩ = some (.int .i64 b1) := cellA B1.out rfl
    have d1 : w1.cell? ⟨w.heap.size, 1, none⟩ = some (.int .i64 b2) := cellA B1.out rfl
    clear pk
    by_cases hfs : slot < a.fs
    · have hacc : A.accept a (b1, b2) slot e = (71, a) := by unfold A.accept; rw [HJ.out, if_neg (fun h => h rfl), if_pos hfs]
      rw [HR.out] at hacc
      have HA := hid hacc
      clear hacc
      go_wp2
      go_ret
      rw [HA.out]
      exact ⟨rfl, At_.nw HH.out AT1.out F1.out.size, F1.out.mono (fun _ _ h => h.elim)⟩
    · have hacc : A.accept a (b1, b2) slot e = (0, A.keep { a with pr := (b1, b2) } ⟨slot, (b1, b2), e⟩) := by unfold A.accept; rw [HJ.out, if_neg (fun h => h rfl), if_neg hfs]
      rw [HR.out] at hacc
      have HA := hid hacc
      clear hacc
      have pr0 := setCell_row (j := 1) (setCell_row (j := 0) AT1.out.k (.int .i64 b1)) (.int .i64 b2)
      have at2 := At_.promise AT1.out (b1, b2) Fr.setCell2 (by exact pr0)
      have f2 : Fr (fun k => k = p) w ((w1.setCell ⟨p, 0, none⟩ (.int .i64 b1)).setCell ⟨p, 1, none⟩ (.int .i64 b2)) := (F1.out.mono (fun _ _ h => h.elim)).trans Fr.setCell2 (fun _ _ h => h)
      have hne : w.heap.size ≠ p := by have := HH.out.2.1; omega
      have hne1 : w.heap.size + 1 ≠ p := by have := HH.out.2.1; omega
      have e2 := (Fr.setCell2 (w := w1) (p := p) (i := 0) (j := 1) (u := .int .i64 b1) (v := .int .i64 b2)).cells E1.out hne1
      have ld : (Instr.loadAt 46 (.pointer (some ⟨w.heap.size + 1, 0, none⟩))).run Try.prog ((w1.setCell ⟨p, 0, none⟩ (.int .i64 b1)).setCell ⟨p, 1, none⟩ (.int .i64 b2)) = .ok (.agg eca) ((w1.setCell ⟨p, 0, none⟩ (.int .i64 b1)).setCell ⟨p, 1, none⟩ (.int .i64 b2)) := by
        have := run_loadAt_mid (P := Try.prog) _ (w.heap.size + 1) 0 46 eca.toList _ (rangeAt_of e2 0 eca.toList (by rw [List.drop_zero]; exact List.take_length)) Try.underlying46 rfl (by rw [Array.length_toList, hsz]; kernel_rfl)
        simpa using this
      have AT2 := hid at2
      have F2 := hid f2
      have LD := hid ld
      clear pr0 at2 f2 e2 ld
      generalize a.pr.1 = x1 at *
      generalize a.pr.2 = x2 at *
      go_wp2_with (first
        | (refine wpList_load_v LD.out (by exact ⟨_, rfl, rfl⟩) (by kernel_rfl) ?_))
      rw [fold_set 3 56 eca _ hsz (by rfl)]
      have hok := A.judge_ok HJ.out
      have hsl := A.okS_iff.1 hok.2.1
      have rs : Rs J ((w1.setCell ⟨p, 0, none⟩ (.int .i64 b1)).setCell ⟨p, 1, none⟩ (.int .i64 b2)) (.int .i64 slot :: .int .i64 b1 :: .int .i64 b2 :: ec).toArray ⟨slot, (b1, b2), e⟩ := ⟨ec, rfl, HS.out.kept F2.out (fun i hi e => hJ (e ▸ hi))⟩
      generalize hcs : (List.take 3 (Array.toList _) ++ eca.toList).toArray = cs
      have hcs' : cs = (.int .i64 slot :: .int .i64 b1 :: .int .i64 b2 :: ec).toArray := by rw [← hcs, ← HEC.out]; rfl
      clear hcs
      rw [← hcs'] at rs
      clear hcs'
      generalize (w1.setCell ⟨p, 0, none⟩ (.int .i64 b1)).setCell ⟨p, 1, none⟩ (.int .i64 b2) = w2 at *
      refine (acKeep_any AT2.out rs hl (by show _ ≤ slot; omega) (by show slot ≤ _; omega)).mono ?_
      rintro r w3 ⟨rfl, at3, f3⟩
      have f4 : Fr (fun k => k = p ∨ k = mb) w w3 := (F2.out.mono (fun _ _ h => .inl h)).trans f3 (fun _ _ h => .inr h)
      have hs2 := F2.out.size
      have at4 : At_ (Nw I w w3) w3 p mb (A.keep { a with pr := (b1, b2) } ⟨slot, (b1, b2), e⟩) := at3.more (fun k hk => hk.elim .inl (fun h => .inr ⟨by omega, h.2⟩)) (fun k hk => hk.elim (fun h => by have := HH.out.1 k h; have := f4.size; omega) (fun h => h.2)) (fun hk => hk.elim (fun h => HH.out.2.2.2.choose_spec.np h) (fun h => by have := HH.out.2.1; omega)) (fun hk => hk.elim (fun h => HH.out.2.2.2.choose_spec.nm h) (fun h => by have := HH.out.2.2.1; omega))
      have FIN := hid (And.intro at4 f4)
      clear at3 f3 f4 at4 hok hsl rs hs2
      go_wp2
      go_ret
      rw [HA.out]
      exact ⟨rfl, FIN.out⟩
  · have hacc : A.accept a (b1, b2) slot e = (j, a) := by unfold A.accept; rw [HJ.out, if_pos hj0]
    rw [HR.out] at hacc
    have HA := hid hacc
    clear hacc
    have hb : (j == 0) = false := by simpa using hj0
    go_wp2
    go_ret
    rw [HA.out]
    exact ⟨rfl, At_.nw HH.out AT1.out F1.out.size, F1.out.mono (fun _ _ h => h.elim)⟩
end Go.Proofs.Ytedhmhlhjonloaa
