/-
  ClientsOnce' walk.
-/
import Derived.Test.YtffjekhlloippaaYSt
import Derived.Test.YtffjekhlloippaaYNext
import Derived.Maps.RangeWalk
namespace Go.Proofs.Ytffjekhlloippaa
open Go.RowKit Go.Maps
set_option linter.unusedVariables false
set_option linter.unusedSimpArgs false
set_option maxRecDepth 100000
namespace Y
/-- the table, and the law's two maps: each session's last request, each session's reply -/
structure So (w V : World) (p mb lb rb : Nat) (t : Tb) : Prop where
  fr : Fr (fun _ => False) w V
  y : Ym V p mb t
  l : Mp 2 litI V lb (fun s => (A.get s t).map (fun q => .int .i64 q.1)) t.length
  r : Mp 2 litI V rb (fun s => (A.get s t).map (fun q => rpv q.2)) t.length
  lm : w.heap.size ≤ mb
  ll : w.heap.size ≤ lb
  lr : w.heap.size ≤ rb
  n1 : lb ≠ mb
  n2 : rb ≠ mb
  n3 : lb ≠ rb
variable {w V V' : World} {p mb lb rb : Nat} {t : Tb}
theorem So.idle (h : So w V p mb lb rb t) (hf : Fr (fun _ => False) V V') : So w V' p mb lb rb t :=
  ⟨h.fr.trans hf (fun _ _ h => h), h.y.kept hf (fun h => h) (fun h => h), h.l.kept hf (fun h => h), h.r.kept hf (fun h => h), h.lm, h.ll, h.lr, h.n1, h.n2, h.n3⟩
theorem So.it (h : So w V p mb lb rb t) {i : Nat} (hf : Fr (fun j => j = i) V V') (hi : w.heap.size ≤ i) (h1 : p ≠ i) (h2 : mb ≠ i) (h3 : lb ≠ i) (h4 : rb ≠ i) : So w V' p mb lb rb t :=
  ⟨h.fr.trans hf (fun j hj e => by omega), h.y.kept hf h1 h2, h.l.kept hf h3, h.r.kept hf h4, h.lm, h.ll, h.lr, h.n1, h.n2, h.n3⟩
theorem So.bx (h : So w V p mb lb rb t) {b : Nat} (hb : b = mb ∨ b = lb ∨ b = rb) (hf : Fr (fun j => j = b) V V') {X : Nat} {cs : Array Value} {ty : TypeId} {m : Nat × Nat} (hx : V.heap[X]? = some (.cells cs ty m)) : V'.heap[X]? = some (.cells cs ty m) :=
  hf.cells hx (fun e => by
    subst e
    rcases hb with rfl | rfl | rfl
    · exact h.y.map.not_cells hx
    · exact h.l.not_cells hx
    · exact h.r.not_cells hx)
theorem last_eq {t : Tb} (s : Int) : ((A.get s t).map (fun q => Value.int .i64 q.1)).getD (.int .i64 0) = .int .i64 (last t s) := by
  unfold last
  cases A.get s t <;> rfl
theorem last_next {t : Tb} {s q : Int} (h : judge t s q = 1) : q = last t s + 1 := by
  have := (judge1 h).2.2
  unfold last
  cases hg : A.get s t with
  | none => rw [hg] at this; simp only at this ⊢; omega
  | some r => rw [hg] at this; simp only at this ⊢; exact this
/-- what is put is laid into the law's maps -/
theorem put_map {t : Tb} (hu : A.Up t) (s : Int) (q : Rq) (f : Rq → Value) : (fun x => (A.get x (A.put s q t)).map f) = at_ (fun x => (A.get x t).map f) s (some (f q)) := by
  funext x
  unfold at_
  by_cases e : x = s
  · subst e
    rw [if_pos rfl, A.get_put_same hu]
    rfl
  · rw [if_neg e, A.get_put_other hu e]
theorem put_len {t : Tb} (hu : A.Up t) (s : Int) (q : Rq) (f : Rq → Value) : (A.put s q t).length = if ((A.get s t).map f).isSome then t.length else t.length + 1 := by
  cases hg : A.get s t with
  | none => rw [A.length_put_new hg]; rfl
  | some v => rw [A.length_put_same hu hg]; rfl
theorem judge_same {t : Tb} (h : Ok t) {s : Int} {q : Rq} (hg : A.get s t = some q) : judge t s q.1 = 2 := by
  obtain ⟨h1, h2⟩ := h.rng s q hg
  unfold judge
  rw [h1, h2, hg]
  simp
theorem said_same {t : Tb} (h : Ok t) {s : Int} {q : Rq} (hg : A.get s t = some q) : said t s q.1 = q.2 := by
  unfold said
  rw [if_pos (judge_same h hg), hg]
theorem judge_old {t : Tb} (h : Ok t) {s : Int} {q : Rq} (hg : A.get s t = some q) (hq : 1 < q.1) : judge t s (q.1 - 1) = 3 := by
  obtain ⟨h1, h2⟩ := h.rng s q hg
  have h3 := may_iff.1 h2
  unfold judge
  have h4 : may (q.1 - 1) = true := may_iff.2 ⟨by omega, by omega⟩
  rw [h1, h4, hg]
  simp only [Bool.and_self, if_true]
  rw [if_neg (by omega), if_pos (by omega)]
end Y
theorem zeroI (w : World) : (zeroValue 2).run Try.prog w = .ok (.int .i64 0) w := by kernel_rfl
theorem zeroRp (w : World) : (zeroValue 34).run Try.prog w = .ok (.agg #[.int .i64 0, .int .i64 0, .int .i64 0, .int .i64 0]) w := by kernel_rfl
set_option maxHeartbeats 16000000 in
theorem clientsOnce_walk {w : World} {I : Nat → Prop} {a : Option Addr} {c : Nat} {xs : List Y.Sop} (hx : Rw I w 9 a xs.length (Y.flatS xs)) (hwf : ∀ x ∈ xs, (Lit.int .i64 x.s).wf = true) (hlen : xs.length ≤ 4000000000000) :
    Calls Try.prog 5 #[.slice a xs.length c] w fun e w' => e = .returned (.bool true) ∧ Fr (fun _ => False) w w' := by
  have KN := hid (fun (W : World) => ynew_any W)
  have KL := hid (fun (W : World) => ylive_any W)
  have hmm := @run_makeMap Try.prog
  obtain ⟨n, hn⟩ : ∃ n, xs.length = n := ⟨_, rfl⟩
  rw [hn] at hlen ⊢
  have HN := hid hn
  have HXS := hid hx
  have HWF := hid hwf
  clear hx hwf hn
  go_enter Try.func5, Try.ntmps5
  go_wp2_with fail
  refine (KN.out _).mono ?_
  rintro e w1 ⟨rfl, hm1, hf1⟩
  have hs1 := hf1.size
  have hp1 := lt_of_row hm1.box
  generalize hp : w.heap.size + 1 = p at hm1 hp1 ⊢
  generalize hmb : w.heap.size = mb at hm1
  have F1 := hid hf1
  have HM1 := hid hm1
  have HMB := hid hmb.symm
  have HP1 := hid (show mb < w1.heap.size from hm1.map.lt)
  clear hf1 hm1 hp hmb hp1
  dsimp only
  go_wp2_with fail
  refine (KL.out _).mono ?_
  rintro e w2 ⟨rfl, hf2⟩
  have hst : Y.So w ((w2.alloc (.map #[] 0)).alloc (.map #[] 0)) p mb w2.heap.size (w2.heap.size + 1) [] := by
    have fa : Fr (fun _ => False) w2 (w2.alloc (.map #[] 0)) := Fr.alloc (Fr.refl _ _) _
    have fb : Fr (fun _ => False) (w2.alloc (.map #[] 0)) ((w2.alloc (.map #[] 0)).alloc (.map #[] 0)) := Fr.alloc (Fr.refl _ _) _
    have m2 := (Mp.made 2 litI (w2.alloc (.map #[] 0)))
    rw [World.size_alloc] at m2
    have h1 := HP1.out
    have h2 := hf2.size
    have h3 := F1.out.size
    have h4 := HMB.out
    exact ⟨(F1.out.trans hf2 (fun _ _ h => h)).trans (fa.trans fb (fun _ _ h => h)) (fun _ _ h => h), ((HM1.out.kept hf2 (fun h => h) (fun h => h)).kept fa (fun h => h) (fun h => h)).kept fb (fun h => h) (fun h => h), (Mp.made 2 litI w2).kept fb (fun h => h), m2, by omega, by omega, by omega, by omega, by omega, by omega⟩
  have HST := hid hst
  clear hst hf2 hs1
  dsimp only
  go_wp2
  generalize (w2.alloc (.map #[] 0)).alloc (.map #[] 0) = w3 at HST ⊢
  obtain ⟨rb, hrb⟩ : ∃ rb, w2.heap.size + 1 = rb := ⟨_, rfl⟩
  rw [hrb] at HST ⊢
  obtain ⟨lb, hlb⟩ : ∃ lb, w2.heap.size = lb := ⟨_, rfl⟩
  rw [hlb] at HST ⊢
  clear hrb hlb
  go_loopw [25] (fun i wr => ∃ (k : Nat), i = .int .i64 k ∧ Hid (k ≤ n ∧ ∃ tb, Y.So w wr p mb lb rb tb))
    (fun i _ => n - (intOf i).toNat)
  case atStart => exact ⟨0, rfl, hid ⟨Nat.zero_le _, [], HST.out⟩⟩
  case round =>
    obtain ⟨k, rfl, hall⟩ := hrel
    obtain ⟨hk, tb, hst⟩ := hall.out
    by_cases hlt : k < n
    · obtain ⟨x, hx⟩ : ∃ x, xs[k]? = some x := ⟨_, List.getElem?_eq_getElem (by rw [HN.out]; exact hlt)⟩
      have hsw := HWF.out x (List.mem_of_getElem? hx)
      obtain ⟨g, o, rfl, hc⟩ := Y.sop_at HXS.out hx
      obtain ⟨s, qr, pu, cl, ⟨x0, x1, x2, x3⟩, st⟩ := x
      have cw : ∀ j u, (Y.Sop.cs ⟨s, qr, pu, cl, (x0, x1, x2, x3), st⟩)[j]? = some u → wr.cell? ⟨g, o + k * 9 + j, none⟩ = some u := fun j u hu => cellFr hst.fr (fun h => h) (hc j u hu)
      have e0 : wr.cell? ⟨g, o + k * 9, none⟩ = some (.int .i64 s) := cw 0 _ rfl
      have e1 : wr.cell? ⟨g, o + k * 9 + 1, none⟩ = some (.int .i64 qr) := cw 1 _ rfl
      have e2 : wr.cell? ⟨g, o + k * 9 + 2, none⟩ = some (.bool pu) := cw 2 _ rfl
      have e3 : wr.cell? ⟨g, o + k * 9 + 3, none⟩ = some (.bool cl) := cw 3 _ rfl
      have e4 : wr.cell? ⟨g, o + k * 9 + 4, none⟩ = some (.int .i64 x0) := cw 4 _ rfl
      have e5 : wr.cell? ⟨g, o + k * 9 + 5, none⟩ = some (.int .i64 x1) := cw 5 _ rfl
      have e6 : wr.cell? ⟨g, o + k * 9 + 6, none⟩ = some (.int .i64 x2) := cw 6 _ rfl
      have e7 : wr.cell? ⟨g, o + k * 9 + 7, none⟩ = some (.int .i64 x3) := cw 7 _ rfl
      have e8 : wr.cell? ⟨g, o + k * 9 + 8, none⟩ = some (.int .i64 st) := cw 8 _ rfl
      have i0 : (0 : Int) ≤ (k : Int) := by omega
      have i1 : (k : Int) < (n : Int) := by omega
      have HB0 := hid (Go.heap_alloc_new wr (.cells (Y.Sop.cs ⟨s, qr, pu, cl, (x0, x1, x2, x3), st⟩) 36 (0, 0)))
      have HS0 := hid (hst.idle (Fr.alloc (Fr.refl (fun _ => False) wr) (.cells (Y.Sop.cs ⟨s, qr, pu, cl, (x0, x1, x2, x3), st⟩) 36)))
      have HSW := hid hsw
      clear hst hall hx hc cw hsw
      have KP := hid (yput_any HS0.out.y (s := s) (q := qr) HSW.out (x0, x1, x2, x3))
      go_wp2_with fail
      refine KP.out.mono ?_
      rintro e w4 ⟨rfl, hy4, hf4⟩
      dsimp only
      have hb4 := HS0.out.bx (.inl rfl) hf4 HB0.out
      have f0 : w4.cell? ⟨wr.heap.size, 0, none⟩ = some (.int .i64 s) := cellA (j := 0) hb4 rfl
      have f1 : w4.cell? ⟨wr.heap.size, 1, none⟩ = some (.int .i64 qr) := cellA (j := 1) hb4 rfl
      have HB4 := hid hb4
      have HL4 := hid (HS0.out.l.kept hf4 HS0.out.n1)
      have HR4 := hid (HS0.out.r.kept hf4 HS0.out.n2)
      have HF4 := hid (HS0.out.fr.trans hf4 (fun i hi e => by have := HS0.out.lm; omega))
      clear hb4 hf4 KP
      by_cases hj : Y.judge tb s qr = 1
      · have hnx := Y.last_next hj
        have hqb := Y.may_iff.1 (Y.judge1 hj).2.1
        have LK := hid (HL4.out.look keyI Try.underlying48 (zeroI w4) (keyOfI HSW.out))
        rw [Y.last_eq] at LK
        obtain ⟨lv, hlv⟩ : ∃ lv, Y.last tb s = lv := ⟨_, rfl⟩
        rw [hlv] at LK hnx
        have hup := HS0.out.y.ok.up
        have hfew := HS0.out.y.ok.few
        obtain ⟨w5, r5, m5, f5⟩ := HL4.out.store litI_inj keyI Try.underlying48 (by unfold maxLen; omega) (keyOfI HSW.out) (.int .i64 qr)
        obtain ⟨w6, r6, m6, f6⟩ := (HR4.out.kept f5 HS0.out.n3.symm).store litI_inj keyI Try.underlying49 (by unfold maxLen; omega) (keyOfI HSW.out) (Y.rpv (x0, x1, x2, x3))
        have hy5 : Ym w4 p mb (A.put s (qr, (x0, x1, x2, x3)) tb) := by unfold Y.put at hy4; rw [if_pos hj] at hy4; exact hy4
        have e1l := Y.put_map hup s (qr, (x0, x1, x2, x3)) (fun q => .int .i64 q.1)
        have e2l := Y.put_len hup s (qr, (x0, x1, x2, x3)) (fun q => Value.int .i64 q.1)
        have e1r := Y.put_map hup s (qr, (x0, x1, x2, x3)) (fun q => Y.rpv q.2)
        have e2r := Y.put_len hup s (qr, (x0, x1, x2, x3)) (fun q => Y.rpv q.2)
        have HS := hid (show Y.So w w6 p mb lb rb (A.put s (qr, (x0, x1, x2, x3)) tb) from
          ⟨(HF4.out.trans f5 (fun i hi e => by have := HS0.out.ll; omega)).trans f6 (fun i hi e => by have := HS0.out.lr; omega), (hy5.kept f5 (fun e => by rw [e] at hy5; exact HL4.out.not_cells hy5.box) (fun e => HS0.out.n1 e.symm)).kept f6 (fun e => by rw [e] at hy5; exact HR4.out.not_cells hy5.box) (fun e => HS0.out.n2 e.symm), by rw [e1l, e2l]; exact m5.kept f6 HS0.out.n3, by rw [e1r, e2r]; exact m6, HS0.out.lm, HS0.out.ll, HS0.out.lr, HS0.out.n1, HS0.out.n2, HS0.out.n3⟩)
        have hb5 : w5.heap[wr.heap.size]? = some (.cells (Y.Sop.cs ⟨s, qr, pu, cl, (x0, x1, x2, x3), st⟩) 36 (0, 0)) := f5.cells HB4.out (fun e => by have := HB4.out; rw [e] at this; exact HL4.out.not_cells this)
        have g0 : w5.cell? ⟨wr.heap.size, 0, none⟩ = some (.int .i64 s) := cellA (j := 0) hb5 rfl
        have g4 : w5.cell? ⟨wr.heap.size, 4, none⟩ = some (.int .i64 x0) := cellA (j := 4) hb5 rfl
        have g5 : w5.cell? ⟨wr.heap.size, 5, none⟩ = some (.int .i64 x1) := cellA (j := 5) hb5 rfl
        have g6 : w5.cell? ⟨wr.heap.size, 6, none⟩ = some (.int .i64 x2) := cellA (j := 6) hb5 rfl
        have g7 : w5.cell? ⟨wr.heap.size, 7, none⟩ = some (.int .i64 x3) := cellA (j := 7) hb5 rfl
        generalize A.put s (qr, (x0, x1, x2, x3)) tb = t2 at HS
        have R5 := hid r5
        have R6 := hid r6
        rw [hj]
        clear hy4 hy5 hj hlv hup hfew r5 m5 f5 r6 m6 f6 e1l e2l e1r e2r hb5

        subst hnx
        obtain ⟨hq1, hq2⟩ := hqb
        have hl0 : 0 ≤ lv := by omega
        have hl1 : lv ≤ 1099511627775 := by omega
        obtain ⟨D, hown, hsz, hD⟩ := HS.out.l
        have HD := hid hD
        have HOW := hid hown
        clear hown hD
        go_wp2_with (first
          | (refine wpList_look_v LK.out (by exact ⟨_, _, rfl, rfl, rfl⟩) (by kernel_rfl) ?_)
          | (refine wpList_upd_v R5.out (by exact ⟨_, _, _, rfl, rfl, rfl, rfl⟩) (by kernel_rfl) ?_)
          | (refine wpList_upd_v R6.out (by exact ⟨_, _, _, rfl, rfl, rfl, rfl⟩) (by kernel_rfl) ?_)
          | (at_range; refine wpList_range_own _ rfl _ 48 rfl 2 2 keyI Try.underlying48 asIs lb _ _ rfl HOW.out ?_; intro wi hrg0 hg0 hs0))
        have fi : Fr (fun _ => False) w6 wi := ⟨hg0.os, hg0.tape, hg0.output, hg0.size, fun j hj _ => hg0.block j hj (by simp)⟩
        have HSI := hid (HS.out.idle fi)
        obtain ⟨it, hit⟩ : ∃ it, w6.heap.size = it := ⟨_, rfl⟩
        have HIT := hid (show w.heap.size ≤ it ∧ p ≠ it ∧ mb ≠ it ∧ lb ≠ it ∧ rb ≠ it from ⟨by rw [← hit]; exact HS.out.fr.size, by have := lt_of_row HS.out.y.box; omega, by have := HS.out.y.map.lt; omega, by have := HS.out.l.lt; omega, by have := HS.out.r.lt; omega⟩)
        rw [hit] at hrg0 ⊢
        have HRG := hid hrg0
        clear hrg0 hg0 hs0 fi hit
        go_loopw [8] (fun _ wq => Hid (∃ left cnt, wq.ranges Try.prog 2 asIs lb it t2.length D left cnt ∧ Y.So w wq p mb lb rb t2))
          (fun _ wq => wq.rangeLeft lb it)
        case atStart => exact hid ⟨_, _, HRG.out, HSI.out⟩
        case round =>
          obtain ⟨left, cnt, hrg, hsq⟩ := hrel.out
          have HR := hid hrg
          have HSQ := hid hsq
          clear hrg hsq hrel
          go_wp2_with (first
            | (at_next; refine wpList_next_y _ rfl _ rfl lb it _ D _ HD.out left cnt rfl HR.out ?_ ?_))
          · intro _ _
            go_wp2
            go_roundw
            case rel => exact ⟨k + 1, by first | go_num | rfl | trivial, hid ⟨hlt, _, HSQ.out⟩⟩
            case measure => simp [intOf]; omega
          · intro y v wa cnt1 hlx qn y0 y1 y2 y3 hq2 hv hrg1 hlt1 hg1 hs1 hen
            have f1 : Fr (fun j => j = it) _ wa := (Fr.of_grown hg1).mono (fun i _ e => by simp at e; exact e.symm)
            have hsa := HSQ.out.it f1 HIT.out.1 HIT.out.2.1 HIT.out.2.2.1 HIT.out.2.2.2.1 HIT.out.2.2.2.2
            subst hv
            have hok := hsa.y.ok
            have hrn := hok.rng y _ hq2
            have hyr := Y.may_iff.1 hrn.1
            have hqr := Y.may_iff.1 hrn.2
            dsimp only at hqr
            obtain ⟨hqr1, hqr2⟩ := hqr
            have hyw := wfT (x := y) (by omega) (by omega)
            have KA := hid (fun (W : World) (hW : Fr (fun _ => False) wa W) => yask_any (hsa.idle hW).y (s := y) (q := qn) hyw)
            have KB := hid (fun (W : World) (hW : Fr (fun _ => False) wa W) => yask_any (hsa.idle hW).y (s := y) (q := qn - 1) hyw)
            have ej := Y.judge_same hok hq2
            have es := Y.said_same hok hq2
            have eo := Y.judge_old hok hq2
            dsimp only at ej es eo
            rw [ej, es] at KA
            have hold : 1 < qn → Y.judge t2 y (qn - 1) = 3 := eo
            have LR := hid (fun (W : World) (hW : Fr (fun _ => False) wa W) => (hsa.idle hW).r.look keyI Try.underlying49 (zeroRp W) (keyOfI hyw))
            rw [hq2] at LR
            dsimp only [Option.map_some, Option.getD_some] at LR
            obtain ⟨sd, hsd⟩ : ∃ sd, Y.said t2 y (qn - 1) = sd := ⟨_, rfl⟩
            rw [hsd] at KB
            obtain ⟨jj, hjj⟩ : ∃ jj, Y.judge t2 y (qn - 1) = jj := ⟨_, rfl⟩
            rw [hjj] at KB hold
            obtain ⟨z0, z1, z2, z3⟩ := sd
            have HSA := hid hsa
            have HRG1 := hid hrg1
            have LE := hid hlt1
            clear hsd hjj hok hrn hsa hrg1 hlt1 hg1 f1 hlx hq2 hs1 ej es eo
            go_wp2_with fail
            refine (KA.out _ (Fr.refl _ _)).mono ?_
            rintro e wb ⟨rfl, hfb⟩
            have FB := hid (Fr.alloc hfb (.cells #[.int .i64 y0, .int .i64 y1, .int .i64 y2, .int .i64 y3] 34))
            have hbA := Go.heap_alloc_new wb (.cells #[.int .i64 y0, .int .i64 y1, .int .i64 y2, .int .i64 y3] 34 (0, 0))
            have HBA := hid hbA
            clear hfb KA hbA hen
            dsimp only
            go_wp2_with fail
            refine (KB.out _ FB.out).mono ?_
            rintro e wc ⟨rfl, hfc⟩
            have FC := hid ((FB.out.trans hfc (fun _ _ h => h)).trans (Fr.alloc (Fr.refl (fun _ => False) wc) (.cells #[.int .i64 z0, .int .i64 z1, .int .i64 z2, .int .i64 z3] 34)) (fun _ _ h => h))
            have hbC := (Fr.alloc (Fr.refl (fun _ => False) wc) (.cells #[.int .i64 z0, .int .i64 z1, .int .i64 z2, .int .i64 z3] 34)).cells (hfc.cells HBA.out (fun h => h)) (fun h => h)
            have d0 := cellA (j := 0) hbC rfl
            have d1 := cellA (j := 1) hbC rfl
            have d2 := cellA (j := 2) hbC rfl
            have d3 := cellA (j := 3) hbC rfl
            have LRC := hid (LR.out _ FC.out)
            have FIN := hid (show Hid (∃ left cnt, ((wc.alloc (.cells #[.int .i64 z0, .int .i64 z1, .int .i64 z2, .int .i64 z3] 34)).ranges Try.prog 2 asIs lb it t2.length D left cnt) ∧ Y.So w (wc.alloc (.cells #[.int .i64 z0, .int .i64 z1, .int .i64 z2, .int .i64 z3] 34)) p mb lb rb t2) from hid ⟨_, _, rangesY_kept HRG1.out FC.out (fun h => h) (fun h => h), HSA.out.idle FC.out⟩)
            have LE2 := hid (show (wc.alloc (.cells #[.int .i64 z0, .int .i64 z1, .int .i64 z2, .int .i64 z3] 34)).rangeLeft lb it < wr.rangeLeft lb it from by
              rw [(rangesY_kept HRG1.out FC.out (fun h => h) (fun h => h)).left_eq, HR.out.left_eq]
              exact LE.out)
            clear hfc hbC KB LR
            dsimp only
            by_cases hq1 : 1 < qn
            · rw [hold hq1]
              clear hold
              go_wp2_with (first
                | (refine wpList_look_v LRC.out (by exact ⟨_, _, rfl, rfl, rfl⟩) (by kernel_rfl) ?_))
              exact ⟨FIN.out, LE2.out⟩
            · clear hold
              go_wp2_with (first
                | (refine wpList_look_v LRC.out (by exact ⟨_, _, rfl, rfl, rfl⟩) (by kernel_rfl) ?_))
              exact ⟨FIN.out, LE2.out⟩
      · have hne := judge_not1 hj
        have hpe : (Y.perr (Y.judge tb s qr) == 0) = false := by
          rcases hne with e | e | e | e | e <;> rw [e] <;> rfl
        generalize Y.perr (Y.judge tb s qr) = pe at hpe ⊢
        have HS := hid (show Y.So w w4 p mb lb rb tb from
          ⟨HF4.out, by unfold Y.put at hy4; rw [if_neg hj] at hy4; exact hy4, HL4.out, HR4.out, HS0.out.lm, HS0.out.ll, HS0.out.lr, HS0.out.n1, HS0.out.n2, HS0.out.n3⟩)
        clear hy4 hj hne
        obtain ⟨D, hown, hsz, hD⟩ := HS.out.l
        have HD := hid hD
        have HOW := hid hown
        clear hown hD
        go_wp2_with (first
          | (at_range; refine wpList_range_own _ rfl _ 48 rfl 2 2 keyI Try.underlying48 asIs lb _ _ rfl HOW.out ?_; intro wi hrg0 hg0 hs0))
        have fi : Fr (fun _ => False) w4 wi := ⟨hg0.os, hg0.tape, hg0.output, hg0.size, fun j hj _ => hg0.block j hj (by simp)⟩
        have HSI := hid (HS.out.idle fi)
        obtain ⟨it, hit⟩ : ∃ it, w4.heap.size = it := ⟨_, rfl⟩
        have HIT := hid (show w.heap.size ≤ it ∧ p ≠ it ∧ mb ≠ it ∧ lb ≠ it ∧ rb ≠ it from ⟨by rw [← hit]; exact HS.out.fr.size, by have := lt_of_row HS.out.y.box; omega, by have := HS.out.y.map.lt; omega, by have := HS.out.l.lt; omega, by have := HS.out.r.lt; omega⟩)
        rw [hit] at hrg0 ⊢
        have HRG := hid hrg0
        clear hrg0 hg0 hs0 fi hit
        go_loopw [8] (fun _ wq => Hid (∃ left cnt, wq.ranges Try.prog 2 asIs lb it tb.length D left cnt ∧ Y.So w wq p mb lb rb tb))
          (fun _ wq => wq.rangeLeft lb it)
        case atStart => exact hid ⟨_, _, HRG.out, HSI.out⟩
        case round =>
          obtain ⟨left, cnt, hrg, hsq⟩ := hrel.out
          have HR := hid hrg
          have HSQ := hid hsq
          clear hrg hsq hrel
          go_wp2_with (first
            | (at_next; refine wpList_next_y _ rfl _ rfl lb it _ D _ HD.out left cnt rfl HR.out ?_ ?_))
          · intro _ _
            go_wp2
            go_roundw
            case rel => exact ⟨k + 1, by first | go_num | rfl | trivial, hid ⟨hlt, _, HSQ.out⟩⟩
            case measure => simp [intOf]; omega
          · intro y v wa cnt1 hlx qn y0 y1 y2 y3 hq2 hv hrg1 hlt1 hg1 hs1 hen
            have f1 : Fr (fun j => j = it) _ wa := (Fr.of_grown hg1).mono (fun i _ e => by simp at e; exact e.symm)
            have hsa := HSQ.out.it f1 HIT.out.1 HIT.out.2.1 HIT.out.2.2.1 HIT.out.2.2.2.1 HIT.out.2.2.2.2
            subst hv
            have hok := hsa.y.ok
            have hrn := hok.rng y _ hq2
            have hyr := Y.may_iff.1 hrn.1
            have hqr := Y.may_iff.1 hrn.2
            dsimp only at hqr
            obtain ⟨hqr1, hqr2⟩ := hqr
            have hyw := wfT (x := y) (by omega) (by omega)
            have KA := hid (fun (W : World) (hW : Fr (fun _ => False) wa W) => yask_any (hsa.idle hW).y (s := y) (q := qn) hyw)
            have KB := hid (fun (W : World) (hW : Fr (fun _ => False) wa W) => yask_any (hsa.idle hW).y (s := y) (q := qn - 1) hyw)
            have ej := Y.judge_same hok hq2
            have es := Y.said_same hok hq2
            have eo := Y.judge_old hok hq2
            dsimp only at ej es eo
            rw [ej, es] at KA
            have hold : 1 < qn → Y.judge tb y (qn - 1) = 3 := eo
            have LR := hid (fun (W : World) (hW : Fr (fun _ => False) wa W) => (hsa.idle hW).r.look keyI Try.underlying49 (zeroRp W) (keyOfI hyw))
            rw [hq2] at LR
            dsimp only [Option.map_some, Option.getD_some] at LR
            obtain ⟨sd, hsd⟩ : ∃ sd, Y.said tb y (qn - 1) = sd := ⟨_, rfl⟩
            rw [hsd] at KB
            obtain ⟨jj, hjj⟩ : ∃ jj, Y.judge tb y (qn - 1) = jj := ⟨_, rfl⟩
            rw [hjj] at KB hold
            obtain ⟨z0, z1, z2, z3⟩ := sd
            have HSA := hid hsa
            have HRG1 := hid hrg1
            have LE := hid hlt1
            clear hsd hjj hok hrn hsa hrg1 hlt1 hg1 f1 hlx hq2 hs1 ej es eo
            go_wp2_with fail
            refine (KA.out _ (Fr.refl _ _)).mono ?_
            rintro e wb ⟨rfl, hfb⟩
            have FB := hid (Fr.alloc hfb (.cells #[.int .i64 y0, .int .i64 y1, .int .i64 y2, .int .i64 y3] 34))
            have hbA := Go.heap_alloc_new wb (.cells #[.int .i64 y0, .int .i64 y1, .int .i64 y2, .int .i64 y3] 34 (0, 0))
            have HBA := hid hbA
            clear hfb KA hbA hen
            dsimp only
            go_wp2_with fail
            refine (KB.out _ FB.out).mono ?_
            rintro e wc ⟨rfl, hfc⟩
            have FC := hid ((FB.out.trans hfc (fun _ _ h => h)).trans (Fr.alloc (Fr.refl (fun _ => False) wc) (.cells #[.int .i64 z0, .int .i64 z1, .int .i64 z2, .int .i64 z3] 34)) (fun _ _ h => h))
            have hbC := (Fr.alloc (Fr.refl (fun _ => False) wc) (.cells #[.int .i64 z0, .int .i64 z1, .int .i64 z2, .int .i64 z3] 34)).cells (hfc.cells HBA.out (fun h => h)) (fun h => h)
            have d0 := cellA (j := 0) hbC rfl
            have d1 := cellA (j := 1) hbC rfl
            have d2 := cellA (j := 2) hbC rfl
            have d3 := cellA (j := 3) hbC rfl
            have LRC := hid (LR.out _ FC.out)
            have FIN := hid (show Hid (∃ left cnt, ((wc.alloc (.cells #[.int .i64 z0, .int .i64 z1, .int .i64 z2, .int .i64 z3] 34)).ranges Try.prog 2 asIs lb it tb.length D left cnt) ∧ Y.So w (wc.alloc (.cells #[.int .i64 z0, .int .i64 z1, .int .i64 z2, .int .i64 z3] 34)) p mb lb rb tb) from hid ⟨_, _, rangesY_kept HRG1.out FC.out (fun h => h) (fun h => h), HSA.out.idle FC.out⟩)
            have LE2 := hid (show (wc.alloc (.cells #[.int .i64 z0, .int .i64 z1, .int .i64 z2, .int .i64 z3] 34)).rangeLeft lb it < wr.rangeLeft lb it from by
              rw [(rangesY_kept HRG1.out FC.out (fun h => h) (fun h => h)).left_eq, HR.out.left_eq]
              exact LE.out)
            clear hfc hbC KB LR
            dsimp only
            by_cases hq1 : 1 < qn
            · rw [hold hq1]
              clear hold
              go_wp2_with (first
                | (refine wpList_look_v LRC.out (by exact ⟨_, _, rfl, rfl, rfl⟩) (by kernel_rfl) ?_))
              exact ⟨FIN.out, LE2.out⟩
            · clear hold
              go_wp2_with (first
                | (refine wpList_look_v LRC.out (by exact ⟨_, _, rfl, rfl, rfl⟩) (by kernel_rfl) ?_))
              exact ⟨FIN.out, LE2.out⟩
    · obtain rfl : k = n := by omega
      have HS1 := hid hst
      clear hst hall hk
      have KE := hid (ylen_any HS1.out.y)
      have HLL := hid (HS1.out.l.len Try.underlying48)
      have hfew := HS1.out.y.ok.few
      obtain ⟨m, hm⟩ : ∃ m, tb.length = m := ⟨_, rfl⟩
      rw [hm] at KE HLL hfew
      clear hm
      go_wp2_with fail
      refine KE.out.mono ?_
      rintro e we ⟨rfl, rfl⟩
      dsimp only
      go_wp2_with (first
        | (refine wpList_len_v (HLL.out _) (by exact ⟨_, rfl, rfl⟩) (by kernel_rfl) ?_))
      go_ret
      refine ⟨?_, HS1.out.fr⟩
      show Ending.returned (.bool _) = _
      congr 2
      simp
      omega
end Go.Proofs.Ytffjekhlloippaa
