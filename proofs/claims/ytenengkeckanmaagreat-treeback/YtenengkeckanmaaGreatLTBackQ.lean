/-
  TreeBack: what was done is taken back, the last first.
-/
import Derived.Test.YtenengkeckanmaaGreatLTMadeQ
namespace Go.Proofs.YtenengkeckanmaaGreat
open Go.RowKit Go.Maps
set_option linter.unusedVariables false
set_option linter.unusedSimpArgs false
set_option maxRecDepth 100000
namespace T
/-- what was done lies in memory; where a node's block is meant, it is the tree's -/
def HX (c : Nat → Option Col) (w : World) (p : Nat) (e : U) : Prop := Held c w p e ∧ ∀ b k bf, e.un = .attr b k bf → c b ≠ none
theorem HX.goes {c c' : Nat → Option Col} {w w' : World} {p : Nat} {e : U} (h : HX c w p e) (hl : Lo c w.heap.size) (hf : Fr (fun i => c i ≠ none) w w') (hM : More c c' w.heap.size) : HX c' w' p e :=
  ⟨h.1.goes hf hM, fun b k bf he => by rw [hM b (hl b (h.2 b k bf he))]; exact h.2 b k bf he⟩
theorem HX.idle {c : Nat → Option Col} {w w' : World} {p : Nat} {e : U} (h : HX c w p e) (hf : Fr (fun _ => False) w w') : HX c w' p e := ⟨h.1.kept hf (fun _ _ _ h => h), h.2⟩
/-- it stays where a row of Undos is written -/
theorem HX.past {c : Nat → Option Col} {w w' : World} {p : Nat} {e : U} (h : HX c w p e) (hp : c p ≠ none) {i0 d0 j0 : Nat} {cur : Array Value} {ty : TypeId} (hr : w.heap[i0]? = some (.cells cur ty (0, 0))) (h0 : cur[j0]? = some (ptr d0)) (hd : c d0 = none) (hf : Fr (fun i => i = i0) w w') : HX c w' p e := by
  have ne : ∀ {i : Nat} {cs : Array Value} {t : TypeId}, w.heap[i]? = some (.cells cs t (0, 0)) → (∀ v ∈ cs.toList, v ≠ ptr d0) → ¬ i = i0 := fun {i cs t} hi hn e => by
    subst e
    rw [hr] at hi
    cases hi
    rw [← Array.getElem?_toList] at h0
    exact hn _ (List.mem_of_getElem? h0) rfl
  have pne : ∀ {b : Nat}, c b ≠ none → ptr b ≠ ptr d0 := fun {b} hb e => by
    injection e with e
    injection e with e
    injection e with e
    rw [e] at hb
    exact hb hd
  have bx : ∀ {b : Nat} {v : Value}, Box c w b v → v ≠ ptr d0 → Box c w' b v := fun {b v} hb hn => by
    obtain ⟨⟨t, h1⟩, h2⟩ := hb
    exact ⟨⟨t, hf.cells h1 (ne h1 (fun u hu => by simp at hu; subst hu; exact hn))⟩, h2⟩
  obtain ⟨⟨h1, h2, h3⟩, h4⟩ := h
  obtain ⟨fn, fa, fb, hfn⟩ := h3.func
  refine ⟨⟨hf.cells h1 (ne h1 (fun u hu => ?_)), h2, ?_⟩, h4⟩
  · simp at hu
    rcases hu with rfl | rfl | rfl | rfl
    · exact pne hp
    · intro h; cases h
    · intro h; cases h
    · rw [hfn]; intro h; cases h
  cases hu : e.un with
  | put n =>
    rw [hu] at h3
    obtain ⟨bt, bn, e1, b1, b2⟩ := h3
    exact ⟨bt, bn, e1, bx b1 (pne hp), bx b2 (fun h => by cases h)⟩
  | move n par nm =>
    rw [hu] at h3
    obtain ⟨bt, bn, bf, e1, b1, b2, ⟨t, b3⟩, b4⟩ := h3
    exact ⟨bt, bn, bf, e1, bx b1 (pne hp), bx b2 (fun h => by cases h), ⟨t, hf.cells b3 (ne b3 (fun u hu => by simp at hu; rcases hu with rfl | rfl <;> (intro h; cases h)))⟩, b4⟩
  | attr b k bf =>
    rw [hu] at h3
    obtain ⟨b1, b2, b3, e1, k1, k2, k3⟩ := h3
    exact ⟨b1, b2, b3, e1, bx k1 (pne (h4 b k bf hu)), bx k2 (fun h => by cases h), bx k3 (fun h => by cases h)⟩
/-- the tree, what was done, the row of Undos, the nodes that were told: all apart -/
structure S1 (w : World) (K : Nat → Prop) (p mb : Nat) (t0 : Tr) (l0 : Int) (wa : Option Addr) (zs : List Tn) (wr : World) (c : Nat → Option Col) (bud : Nat) (dos last : Int) (f : Int → Nat) (t' : Tr) (es : List U) (la : Option Addr) (rn lc : Nat) (all : List U) : Prop where
  gd : Gd c wr bud p dos last t' mb f
  stk : Stk f t0 l0 t' es last
  held : ∀ e ∈ all, HX c wr p e
  row : Ro wr 53 1 la rn lc (all.map (fun e => ptr e.d))
  new : ∀ i, blk la = some i → w.heap.size ≤ i ∧ c i = none ∧ ¬ K i
  nil : all = [] → la = none
  was : Nr K wr wa zs
  apart : ∀ i, K i → i < wr.heap.size ∧ c i = none ∧ w.heap.size ≤ i
  fr : Fr (fun _ => False) w wr
  cw : ∀ i, c i ≠ none → w.heap.size ≤ i
section
variable {w : World} {K : Nat → Prop} {p mb : Nat} {t0 : Tr} {l0 : Int} {wa : Option Addr} {zs : List Tn} {wr w' : World} {c c' : Nat → Option Col} {bud bud' : Nat} {dos dos' last last' : Int} {f f' : Int → Nat} {t' t'' : Tr} {es es' : List U} {la : Option Addr} {rn lc : Nat} {all : List U}
theorem S1.idle (h : S1 w K p mb t0 l0 wa zs wr c bud dos last f t' es la rn lc all) (hf : Fr (fun _ => False) wr w') : S1 w K p mb t0 l0 wa zs w' c bud dos last f t' es la rn lc all :=
  ⟨h.gd.kept hf (fun _ _ h => h), h.stk, fun e he => (h.held e he).idle hf, h.row.kept hf (fun _ _ h => h), h.new, h.nil, h.was.kept hf (fun _ _ h => h), fun i hi => ⟨Nat.lt_of_lt_of_le (h.apart i hi).1 hf.size, (h.apart i hi).2⟩, h.fr.trans hf (fun _ _ h => h), h.cw⟩
/-- the tree has turned -/
theorem S1.turned (h : S1 w K p mb t0 l0 wa zs wr c bud dos last f t' es la rn lc all) (hf : Fr (fun i => c i ≠ none) wr w') (hM : More c c' wr.heap.size) (hG : Gd c' w' bud' p dos' last' t'' mb f') (hS : Stk f' t0 l0 t'' es' last') : S1 w K p mb t0 l0 wa zs w' c' bud' dos' last' f' t'' es' la rn lc all :=
  ⟨hG, hS, fun e he => (h.held e he).goes h.gd.lo hf hM, h.row.kept hf (fun j hj e => e (h.new j hj).2.1), fun i hi => ⟨(h.new i hi).1, by rw [hM i (h.row.lt i hi)]; exact (h.new i hi).2.1, (h.new i hi).2.2⟩, h.nil,
    h.was.kept hf (fun i hi e => e (h.apart i hi).2.1), fun i hi => ⟨Nat.lt_of_lt_of_le (h.apart i hi).1 hf.size, by rw [hM i (h.apart i hi).1]; exact (h.apart i hi).2.1, (h.apart i hi).2.2⟩, h.fr.trans hf (fun i hi e => by have := h.cw i e; omega),
    fun i hi => by
      by_cases hl : i < wr.heap.size
      · rw [hM i hl] at hi; exact h.cw i hi
      · have := h.fr.size; omega⟩
theorem HX.of {e : U} (hH : Held c wr p e) (hG : Gd c wr bud p dos last t'' mb f) (hw : Wf t') (hU : Undoes f e.un t'' t') : HX c wr p e := by
  refine ⟨hH, fun b k bf he => ?_⟩
  have hs := fun k hk => hU.some hw.up (k := k) hk
  rw [he] at hU
  obtain ⟨_, n, x, l, hx, rfl, _⟩ := hU
  obtain ⟨y, hy⟩ := Option.isSome_iff_exists.1 (hs n (by rw [hx]; rfl))
  obtain ⟨av, uv, g, m, hN⟩ := hG.tf.node n y hy
  rw [hN.cb]
  simp
/-- one more Undo in the row -/
theorem S1.more (h : S1 w K p mb t0 l0 wa zs wr c bud dos last f t' es la rn lc all) {e : U} (he : HX c wr p e) {la' : Option Addr} {lc' : Nat} (hf : Fr (fun k => blk la = some k) wr w') (hr : Ro w' 53 1 la' (rn + 1) lc' (all.map (fun e => ptr e.d) ++ [ptr e.d])) (hn : ∀ k, blk la' = some k → blk la = some k ∨ wr.heap.size ≤ k) : S1 w K p mb t0 l0 wa zs w' c bud dos last f t' es la' (rn + 1) lc' (all ++ [e]) := by
  have hS : ∀ i, c i ≠ none → ¬ blk la = some i := fun i hi e => hi (h.new i e).2.1
  have hx : ∀ e, HX c wr p e → HX c w' p e := fun e he => by
    rcases h.row.2 with ⟨h1, _⟩ | ⟨g, o, cur, hv, hg, h1, h2, h3, h4⟩
    · exact he.idle (hf.mono (fun i _ e => by rw [h1] at e; simp [blk] at e))
    · cases ha : all with
      | nil => rw [h.nil ha] at hv; cases hv
      | cons e0 r =>
        rw [ha] at h4
        have h5 : ((cur.toList.drop (o * 1)).take (rn * 1))[0]? = some (ptr e0.d) := by rw [h4]; rfl
        rw [List.getElem?_take] at h5
        split at h5
        · rw [List.getElem?_drop, Array.getElem?_toList] at h5
          exact he.past (by rw [h.gd.tf.cp]; simp) hg h5 (h.held e0 (by rw [ha]; exact List.mem_cons_self)).1.2.1 (hf.mono (fun i _ e => by rw [hv] at e; simp [blk] at e; exact e.symm))
        · cases h5
  refine ⟨h.gd.kept hf (fun i hi e => hS i hi e), h.stk, fun x hx1 => ?_, ?_, fun i hi => ?_, fun hz => by simp at hz, h.was.kept hf (fun i hi e => (h.new i e).2.2 hi), fun i hi => ⟨Nat.lt_of_lt_of_le (h.apart i hi).1 hf.size, (h.apart i hi).2⟩, h.fr.trans hf (fun i hi e => by have := (h.new i e).1; omega), h.cw⟩
  · rcases List.mem_append.1 hx1 with h1 | h1
    · exact hx x (h.held x h1)
    · simp at h1; subst h1; exact hx x he
  · rw [List.map_append]; exact hr
  · rcases hn i hi with h1 | h1
    · exact h.new i h1
    · refine ⟨by have := h.fr.size; omega, ?_, fun hk => by have := (h.apart i hk).1; omega⟩
      cases hc : c i with
      | none => rfl
      | some col => have := h.gd.lo i (by rw [hc]; simp); omega
end
end T
set_option maxHeartbeats 8000000 in
theorem treeBack_walk {I J : Nat → Prop} {w : World} {a b : Option Addr} {ca cb : Nat} {before ops : List S.Op} (h1 : T.Ops I w a before) (h2 : T.Ops J w b ops) (i1 : ∀ o ∈ before, o.in64) (i2 : ∀ o ∈ ops, o.in64) (l1 : before.length ≤ 1599289640401) (l2 : ops.length ≤ 1599289640401) (I1 : ∀ g, I g → g < w.heap.size) (I2 : ∀ g, J g → g < w.heap.size) :
    Calls Tryz.prog 6 #[.slice a before.length ca, .slice b ops.length cb] w fun e w' => e = .returned (.bool true) ∧ Fr (fun _ => False) w w' := by
  have KM := hid (made_any (cap := ca) h1 i1 l1 I1)
  have KB := hid tbegun_any
  have H2 := hid h2
  have HI2 := hid i2
  have HJ := hid I2
  obtain ⟨n1, hn1⟩ : ∃ n, before.length = n := ⟨_, rfl⟩
  obtain ⟨n2, hn2⟩ : ∃ n, ops.length = n := ⟨_, rfl⟩
  rw [hn1] at KM l1 ⊢
  rw [hn2] at l2 ⊢
  have HN2 := hid hn2
  have HL1 := hid l1
  have HL2 := hid l2
  obtain ⟨t0, ht0⟩ : ∃ t, T.play T.zero before = t := ⟨_, rfl⟩
  rw [ht0] at KM
  clear h1 h2 i1 i2 l1 I1 I2 hn1 hn2 ht0
  go_enter Tryz.func6, Tryz.ntmps6
  go_wp2_with fail
  refine KM.out.mono ?_
  rintro e w1 ⟨p, la, ln, lc, c, bud, dos, mb, f, rfl, hG, hdos, hbud, hfew, htl, hf1, hcw⟩
  have HG := hid hG
  have HDOS := hid hdos
  have HBUD := hid hbud
  have HFEW := hid hfew
  have HTL := hid htl
  have F1 := hid hf1
  have HCW := hid hcw
  clear hG hdos hbud hfew htl hf1 hcw
  dsimp only
  go_wp2_with fail
  refine (KB.out w1).mono ?_
  rintro e w2 ⟨rfl, hf2⟩
  have G2 := hid (HG.out.kept hf2 (fun _ _ h => h))
  have F2 := hid (F1.out.trans hf2 (fun _ _ h => h))
  clear hf2
  have KNN := hid (nodes_any G2.out (fun n x hx => by have := HFEW.out n x hx; have := HL1.out; omega) (by have := HTL.out; have := HL1.out; omega))
  dsimp only
  go_wp2_with (first
    | (go_at_call 16; refine KNN.out.mono ?_; rintro e w3 ⟨wa, wc, zs, rfl, hz, hlx, hf3⟩; have HZ := hid hz; have HLX := hid hlx; have F3 := hid (F2.out.trans hf3 (fun _ _ h => h)); have F23 := hid hf3; have G3 := hid (G2.out.kept hf3 (fun _ _ h => h)); have KLE := hid (tlen_any G3.out.tf); clear hz hlx hf3; obtain ⟨zn, hzn⟩ : ∃ n, List.length zs = n := ⟨_, rfl⟩; rw [hzn]; have HZN := hid hzn; clear hzn)
    | (go_at_call 13; refine KLE.out.mono ?_; rintro e wx ⟨rfl, rfl⟩))
  obtain ⟨tn, htn⟩ : ∃ tn, t0.length = tn := ⟨_, rfl⟩
  rw [htn]
  have HTN := hid htn
  clear htn
  have HLO2 := hid F2.out.size
  go_loopw [9, 11, 12, 13, 14, 33] (fun l _ _ _ _ i wr => ∃ (k m : Nat) (la : Option Addr) (lc : Nat), i = .int .i64 k ∧ l = .slice la m lc ∧ Hid (k ≤ n2 ∧ m ≤ k ∧ ∃ c bud dd last f t' all, T.S1 w (fun i => w2.heap.size ≤ i ∧ i < w3.heap.size) p mb t0 dos wa zs wr c bud dd last f t' all.reverse la m lc all ∧ all.length = m ∧ last ≤ dd ∧ dd ≤ (n1 : Int) + k ∧ bud + T.sps all.reverse ≤ 2 * n1 + 2 * k))
    (fun _ _ _ _ _ i _ => n2 - (intOf i).toNat)
  case atStart =>
    have hK : ∀ i, (w2.heap.size ≤ i ∧ i < w3.heap.size) → c i = none := fun i hi => by
      cases hc : c i with
      | none => rfl
      | some col => have := G2.out.lo i (by rw [hc]; simp); omega
    exact ⟨0, 0, none, 0, rfl, rfl, hid ⟨Nat.zero_le _, Nat.le_refl _, c, bud, dos, dos, f, t0, [], ⟨G3.out, .nil, fun e he => by (cases he), Ro.nil _ _ _, by simp [blk], fun _ => rfl, HLX.out.nr, fun i hi => ⟨hi.2, hK i hi, Nat.le_trans HLO2.out hi.1⟩, F3.out, HCW.out⟩, rfl, Int.le_refl _, by have := HDOS.out; omega, by have := HBUD.out; simp [T.sps]; omega⟩⟩
  case round =>
    obtain ⟨k, m, la, lc, rfl, rfl, hall⟩ := hrel
    by_cases hlt : k < n2
    · obtain ⟨o, ho⟩ : ∃ q, ops[k]? = some q := ⟨_, List.getElem?_eq_getElem (by rw [HN2.out]; exact hlt)⟩
      obtain ⟨hk, hmk, c, bud, dd, last, f, t', all, hS, ham, hld, hdd, hbb⟩ := hall.out
      have hoi := HI2.out o (List.mem_of_getElem? ho)
      obtain ⟨g, q, rfl, hIg, hcell⟩ := (H2.out.kept hS.fr (fun _ _ h => h)).cell ho
      have a0 : wr.cell? ⟨g, q + k * 8, none⟩ = some (.int .i64 o.t) := hcell 0 _ (by omega) rfl
      have a1 : wr.cell? ⟨g, q + k * 8 + 1, none⟩ = some (.int .i64 o.s) := hcell 1 _ (by omega) rfl
      have a2 : wr.cell? ⟨g, q + k * 8 + 2, none⟩ = some (.int .i64 o.k) := hcell 2 _ (by omega) rfl
      have a3 : wr.cell? ⟨g, q + k * 8 + 3, none⟩ = some (.int .i64 o.n) := hcell 3 _ (by omega) rfl
      have a4 : wr.cell? ⟨g, q + k * 8 + 4, none⟩ = some (.int .i64 o.p) := hcell 4 _ (by omega) rfl
      have a5 : wr.cell? ⟨g, q + k * 8 + 5, none⟩ = some (.string o.a) := hcell 5 _ (by omega) rfl
      have a6 : wr.cell? ⟨g, q + k * 8 + 6, none⟩ = some (.string o.b) := hcell 6 _ (by omega) rfl
      have a7 : wr.cell? ⟨g, q + k * 8 + 7, none⟩ = some (.string o.c) := hcell 7 _ (by omega) rfl
      have i0 : (0 : Int) ≤ (k : Int) := by omega
      have i1 : (k : Int) < (n2 : Int) := by omega
      obtain ⟨V1, hV1⟩ : ∃ V, wr.alloc (.cells o.cs 35) = V := ⟨_, rfl⟩
      have f1 : Fr (fun _ => False) wr V1 := by rw [← hV1]; exact Fr.alloc (Fr.refl _ _) _
      have k1 : V1.heap[wr.heap.size]? = some (.cells o.cs 35 (0, 0)) := by rw [← hV1]; exact Go.heap_alloc_new wr _
      have LP := hid (show ∀ V, Fr (fun _ => False) V1 V → _ from fun V hf => load_whole (hf.cells k1 (fun h => h)) (ty := 35) Tryz.underlying35 rfl (by kernel_rfl))
      have S1h := hid (hS.idle f1)
      have KMY := hid (tmay_any S1h.out.gd o hoi)
      have HV1 := hid hV1
      have HO := hid ho
      have HOI := hid hoi
      have HAM := hid ham
      have HDD := hid hdd
      have HLD := hid hld
      have HBB := hid hbb
      have HMK := hid hmk
      clear ho hk hmk hS ham hld hdd hbb hoi hIg hcell hV1 f1 k1 hall
      go_upto_region 10 with fail
      clear a0 a1 a2 a3 a4 a5 a6 a7
      rw [HV1.out]
      go_wp2_with (first
        | (refine wpList_load_v (LP.out V1 (Fr.refl _ _)) (by exact ⟨_, rfl, rfl⟩) (by kernel_rfl) ?_))
      refine KMY.out.mono ?_
      rintro e V2 ⟨rfl, hf12⟩
      have LP2 := hid (LP.out V2 hf12)
      have S2h := hid (S1h.out.idle hf12)
      have KD := hid (tstep_any S2h.out.gd (by have := HBB.out; have := HL1.out; have := HL2.out; omega) (by have := HDD.out; have := HL1.out; have := HL2.out; omega) o HOI.out)
      clear hf12
      dsimp only
      go_wp2_with (first
        | (refine wpList_load_v LP2.out (by exact ⟨_, rfl, rfl⟩) (by kernel_rfl) ?_))
      refine KD.out.mono ?_
      rintro e w4 ⟨hfr, (⟨hgd, rfl, hG2, hf2⟩ | ⟨hgd, d, v, un, c', f', bud', rfl, hM, hG2, hH, hU, hff, hbs⟩)⟩
      · have FIN := hid (show k + 1 ≤ n2 ∧ m ≤ k + 1 ∧ ∃ c bud dd last f t' all, T.S1 w (fun i => w2.heap.size ≤ i ∧ i < w3.heap.size) p mb t0 dos wa zs (w4.alloc (.cells #[.pointer none] 53)) c bud dd last f t' all.reverse la m lc all ∧ all.length = m ∧ last ≤ dd ∧ dd ≤ (n1 : Int) + ((k + 1 : Nat) : Int) ∧ bud + T.sps all.reverse ≤ 2 * n1 + 2 * (k + 1) from
          ⟨hlt, by have := HMK.out; omega, c, bud, dd, last, f, t', all, S2h.out.idle (hf2.trans (Fr.alloc (Fr.refl _ _) _) (fun _ _ h => h)), HAM.out, HLD.out, by have := HDD.out; omega, by have := HBB.out; omega⟩)
        rw [hgd]
        clear hgd hG2 hf2 hfr
        dsimp only
        go_wp2
        go_roundw
        case rel => exact ⟨k + 1, m, la, lc, by first | go_num | rfl | trivial, by first | rfl | trivial, FIN⟩
        case measure => simp [intOf]; omega
      · have hx := T.HX.of hH hG2 S2h.out.gd.wf hU
        have hst := T.Stk.cons (e := ⟨d, dd + 1, last, v, un⟩) S2h.out.gd.wf hU (S2h.out.stk.moves hff) rfl (show last < dd + 1 by have := HLD.out; omega)
        have S3 := S2h.out.turned hfr hM hG2 hst
        obtain ⟨V, hV⟩ : ∃ V, w4.alloc (.cells #[ptr d] 53) = V := ⟨_, rfl⟩
        have fA : Fr (fun _ => False) w4 V := by rw [← hV]; exact Fr.alloc (Fr.refl _ _) _
        have S4 := S3.idle fA
        obtain ⟨la', lc', w5, hr3, hro3, hf3, hn3⟩ := T.undo_append V la lc m _ S4.row (by have := HL2.out; have := HMK.out; omega) d
        have S5 := S4.more (hx.idle fA) hf3 hro3 hn3
        have FIN := hid (show k + 1 ≤ n2 ∧ m + 1 ≤ k + 1 ∧ ∃ c bud dd last f t' all, T.S1 w (fun i => w2.heap.size ≤ i ∧ i < w3.heap.size) p mb t0 dos wa zs w5 c bud dd last f t' all.reverse la' (m + 1) lc' all ∧ all.length = m + 1 ∧ last ≤ dd ∧ dd ≤ (n1 : Int) + ((k + 1 : Nat) : Int) ∧ bud + T.sps all.reverse ≤ 2 * n1 + 2 * (k + 1) from
          ⟨hlt, by have := HMK.out; omega, c', bud', dd + 1, dd + 1, f', _, all ++ [⟨d, dd + 1, last, v, un⟩], by rw [List.reverse_append]; exact S5, by rw [List.length_append, HAM.out]; rfl, Int.le_refl _, by have := HDD.out; omega, by
            rw [List.reverse_append]
            have h8 : T.sps ([(⟨d, dd + 1, last, v, un⟩ : T.U)].reverse ++ all.reverse) = T.U.sp ⟨d, dd + 1, last, v, un⟩ + T.sps all.reverse := rfl
            rw [h8]
            have h9 := HBB.out
            generalize T.U.sp ⟨d, dd + 1, last, v, un⟩ = sp1 at hbs ⊢
            omega⟩)
        rw [hgd]
        have R3 := hid hr3
        have HV := hid hV
        have B0 := hid (show V.heap[w4.heap.size]? = some (.cells #[ptr d] 53 (0, 0)) from by rw [← hV]; exact Go.heap_alloc_new w4 _)
        clear hgd hG2 hM hH hU hff hbs hfr hx hst S3 fA S4 hro3 hf3 hn3 S5 hr3 hV
        dsimp only
        go_upto_region 15 with fail
        rw [HV.out]
        have b0 : V.cell? ⟨w4.heap.size, 0, none⟩ = some (ptr d) := cellA (j := 0) B0.out rfl
        go_wp2_with (first | (at_builtin; refine wpList_append_eq _ _ rfl (.tmp 50) (.tmp 52) _ rfl _ _ _ rfl rfl R3.out ?_))
        go_roundw
        case rel => exact ⟨k + 1, m + 1, la', lc', by first | go_num | rfl | trivial, by first | go_num | rfl | trivial, FIN⟩
        case measure => simp [intOf]; omega
    · obtain rfl : k = n2 := by have := hall.out.1; omega
      obtain ⟨_, hmk, c, bud, dd, last, f, t', all, hS, ham, hld, hdd, hbb⟩ := hall.out
      have S0 := hid hS
      have HAM := hid ham
      have HBB := hid hbb
      have hmb : m ≤ 1599289640401 := by have := HL2.out; omega
      clear hmk hS ham hld hdd hbb hall
      go_wp2
      go_loopw [15] (fun i wr => ∃ (j : Nat), i = .int .i64 ((j : Int) - 1) ∧ Hid (j ≤ m ∧ ∃ c bud dd last f t', T.S1 w (fun i => w2.heap.size ≤ i ∧ i < w3.heap.size) p mb t0 dos wa zs wr c bud dd last f t' (all.take j).reverse la m lc all ∧ bud + T.sps (all.take j).reverse ≤ 2 * n1 + 2 * k))
        (fun i _ => (intOf i + 1).toNat)
      case atStart =>
        refine ⟨m, by first | rfl | go_num | trivial, hid ⟨Nat.le_refl _, c, bud, dd, last, f, t', ?_, ?_⟩⟩
        · rw [List.take_of_length_le (by rw [HAM.out]; exact Nat.le_refl _)]; exact S0.out
        · rw [List.take_of_length_le (by rw [HAM.out]; exact Nat.le_refl _)]; exact HBB.out
      case round =>
        obtain ⟨j, rfl, hall⟩ := hrel
        obtain ⟨hjm, c, bud, dd, last, f, t', hS, hbb⟩ := hall.out
        rcases Nat.eq_zero_or_pos j with hj0 | hjp
        · subst hj0
          have hst := hS.stk
          simp only [List.take_zero, List.reverse_nil] at hst
          have ht : t' = t0 := by cases hst; rfl
          subst ht
          have KN2 := hid (nodes_any hS.gd (fun n x hx => by have := HFEW.out n x hx; have := HL1.out; omega) (by have := HTL.out; have := HL1.out; omega))
          have HS := hid hS
          clear hst hS hbb hjm hall
          go_wp2_with fail
          refine KN2.out.mono ?_
          rintro e w5 ⟨wa2, wc2, zs2, rfl, hz2, hlx2, hf5⟩
          have S5 := hid (HS.out.idle hf5)
          have hsm : T.sames zs2 zs = true := T.sames_iff.2 (by rw [hz2, HZ.out])
          have KSM := hid (same_any (w := w5) (ca := wc2) (cb := wc) hlx2.nr S5.out.was (by
            have h1 := congrArg List.length hz2
            rw [List.length_map] at h1
            have h2 : (T.told t').length ≤ t'.length := List.length_filter_le _ _
            have := HTL.out; have := HL1.out; omega) (fun z hz => by
            have h1 : z.1 ∈ T.told t' := by rw [← hz2]; exact List.mem_map.2 ⟨z, hz, rfl⟩
            have h2 := HFEW.out z.1.1 z.1.2 (A.get_of_mem HS.out.gd.wf.up (List.mem_filter.1 h1).1)
            have := HL1.out; omega))
          rw [hsm, HZN.out] at KSM
          obtain ⟨zn2, hzn2⟩ : ∃ n, zs2.length = n := ⟨_, rfl⟩
          rw [hzn2] at KSM ⊢
          clear hz2 hlx2 hf5 hsm hzn2
          dsimp only
          go_wp2_with (first
            | (go_at_call 20; refine KSM.out.mono ?_; rintro e w6 ⟨rfl, hf6⟩; have S6 := hid (S5.out.idle hf6); have KL6 := hid (tlen_any S6.out.gd.tf); rw [HTN.out] at KL6; clear hf6)
            | (go_at_call 13; refine KL6.out.mono ?_; rintro e wx ⟨rfl, rfl⟩))
          go_ret
          exact ⟨by simp, S6.out.fr⟩
        · obtain ⟨q, rfl⟩ : ∃ q, j = q + 1 := ⟨j - 1, by omega⟩
          obtain ⟨e, he⟩ : ∃ e, all[q]? = some e := ⟨_, List.getElem?_eq_getElem (by rw [HAM.out]; omega)⟩
          have hrev : (all.take (q + 1)).reverse = e :: (all.take q).reverse := by rw [List.take_add_one, he]; simp
          have hst := hS.stk
          rw [hrev] at hst hbb
          have hmem := List.mem_of_getElem? he
          obtain ⟨t2, l2', rfl, hw2, hu2, hs2, hb2, hn2⟩ : ∃ t2 l2, last = e.num ∧ T.Wf t2 ∧ T.Undoes f e.un t' t2 ∧ T.Stk f t0 dos t2 (all.take q).reverse l2 ∧ e.bf = l2 ∧ l2 < e.num := by
            cases hst with
            | cons hw hu hs hb hn => exact ⟨_, _, rfl, hw, hu, hs, hb, hn⟩
          obtain ⟨g5, o5, rfl⟩ := hS.row.some_of (by omega)
          have cq : wr.cell? ⟨g5, o5 + q, none⟩ = some (ptr e.d) := hS.row.cell (by rw [List.getElem?_map, he]; rfl)
          have hbl : bud < 8000000000000 := by have := HL1.out; have := HL2.out; omega
          have KBK := hid (show ∀ V, Fr (fun _ => False) wr V → _ from fun V hf => tback_any (e := e) (hS.idle hf).gd hbl ((hS.idle hf).held e hmem).1 hw2 hu2)
          have NEXT := hid (show ∀ V w', Fr (fun _ => False) wr V → (Fr (fun i => c i ≠ none) V w' ∧ ∃ c', More c c' V.heap.size ∧ Gd c' w' (bud + e.sp) p dd e.bf t2 mb f) → q ≤ m ∧ ∃ c bud dd last f t', T.S1 w (fun i => w2.heap.size ≤ i ∧ i < w3.heap.size) p mb t0 dos wa zs w' c bud dd last f t' (all.take q).reverse (some ⟨g5, o5, none⟩) m lc all ∧ bud + T.sps (all.take q).reverse ≤ 2 * n1 + 2 * k from fun V w' hf ⟨k1, c', k2, k3⟩ => by
            subst hb2
            refine ⟨by omega, c', bud + e.sp, dd, e.bf, f, t2, (hS.idle hf).turned k1 k2 k3 hs2, ?_⟩
            have h8 : T.sps (e :: (all.take q).reverse) = e.sp + T.sps (all.take q).reverse := rfl
            rw [h8] at hbb
            omega)
          have i0 : (0 : Int) ≤ (q : Int) := by omega
          have i1 : (q : Int) < (m : Int) := by omega
          have e1 : ((q + 1 : Nat) : Int) - 1 = (q : Int) := by omega
          rw [e1]
          rcases Nat.eq_zero_or_pos q with hq0 | hqp
          · subst hq0
            have K0 := hid (KBK.out wr (Fr.refl _ _))
            have N0 := hid (fun w' => NEXT.out wr w' (Fr.refl _ _))
            have cq0 : wr.cell? ⟨g5, o5, none⟩ = some (ptr e.d) := cq
            clear hall hst hbb hmem hw2 hu2 hs2 hb2 hn2 hS he hrev e1 cq
            go_wp2_with (first
              | (go_at_call 30; refine K0.out.mono ?_; rintro r w5 ⟨rfl, hfin⟩; have FIN := hid (N0.out _ hfin); clear hfin))
            go_roundw
            case rel => exact ⟨0, by first | rfl | go_num | trivial, FIN⟩
            case measure => simp [intOf]
          · obtain ⟨q', rfl⟩ : ∃ q', q = q' + 1 := ⟨q - 1, by omega⟩
            obtain ⟨e', he'⟩ : ∃ e, all[q']? = some e := ⟨_, List.getElem?_eq_getElem (by rw [HAM.out]; omega)⟩
            have hmem' := List.mem_of_getElem? he'
            have cq' : wr.cell? ⟨g5, o5 + q', none⟩ = some (ptr e'.d) := hS.row.cell (by rw [List.getElem?_map, he']; rfl)
            have hne : e'.num ≠ e.num := by
              have h5 := hs2.nums.1 e' (by rw [List.take_add_one, he']; simp)
              omega
            have KNO := hid (back_not hS.gd.tf (hS.held e' hmem').1.1 hne)
            have e2 : ((q' + 1 : Nat) : Int) - 1 = (q' : Int) := by omega
            have hmq : q' + 1 < m := by omega
            have cqx : ∀ V, Fr (fun _ => False) wr V → V.cell? ⟨g5, o5 + (q' + 1), none⟩ = some (ptr e.d) := fun V hf => cellFr hf (fun h => h) cq
            have CQ := hid cqx
            have i2 : (0 : Int) ≤ (q' : Int) := by omega
            have i3 : (q' : Int) < (m : Int) := by omega
            have i4 : ((q' + 1 : Nat) : Int) > 0 := by omega
            clear hall hst hbb hmem hw2 hu2 hs2 hb2 hn2 hS he hrev e1 he' hmem' hne cqx
            go_wp2_with fail
            refine KNO.out.mono ?_
            rintro r w5 ⟨rfl, hf5⟩
            have cq5 := CQ.out w5 hf5
            have K1 := hid (KBK.out w5 hf5)
            have N1 := hid (fun w' => NEXT.out w5 w' hf5)
            clear hf5 cq cq'
            dsimp only
            go_wp2_with fail
            refine K1.out.mono ?_
            rintro r w6 ⟨rfl, hfin⟩
            have FIN := hid (N1.out _ hfin)
            clear hfin cq5
            dsimp only
            go_wp2_with fail
            refine ⟨⟨q' + 1, by first | rfl | go_num | trivial, FIN⟩, ?_⟩
            simp only [intOf]
            omega
end Go.Proofs.YtenengkeckanmaaGreat
