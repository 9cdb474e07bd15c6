/-
  ClientsBack's walk.
-/
import Derived.Test.YtffjekhlloippaaYFrom2
import Derived.Test.YtffjekhlloippaaYSt
import Derived.Test.YtffjekhlloippaaYIter
namespace Go.Proofs.Ytffjekhlloippaa
open Go.RowKit Go.Maps
set_option linter.unusedVariables false
set_option linter.unusedSimpArgs false
set_option maxRecDepth 100000
attribute [local go_sem] Oper.semAt_some
theorem wpListIn_append_eqY {F : Fence} {nF : Nat} (w w' : World) {ops : Array Oper} {rest : List Oper} {o : Oper} {a : Act} {Q : Exit → Act → World → Prop} (hgd : o.guard = none) (s x : Operand) (ts : Array TypeId)
    (ho : o.op = .call { callee := .builtin .append, args := #[s, x], argTypes := ts }) (sv xv v : Value) (hs : a.eval s = sv) (hx : a.eval x = xv) (hr : (Builtin.append_ ts o.type #[sv, xv]).run Try.prog w = .ok v w')
    (h : wpListIn F nF Try.prog ops Q rest (a.put o.dst v) w') : wpListIn F nF Try.prog ops Q (o :: rest) a w := by
  refine wpListIn_plain hgd fun K hK => ?_
  unfold Oper.wpIn
  refine ⟨?_, ?_⟩
  · simp [Oper.about, ho, resolve, Target.leads, Sem.run_pure]
  · rw [Oper.semAt_plain F _ _ (by rw [ho]; intro c hc'; cases hc')]
    simp [execOp, ho, resolve, invoke, builtin, hs, hx, hr, Result.andThen]
    exact hK _ _ h
namespace Y
/-- a table's own rows make that table -/
theorem put_end {l : Tb} {s : Int} {q : Rq} (h : A.Up (l ++ [(s, q)])) : A.put s q l = l ++ [(s, q)] := by
  have hl : A.Up l := by
    unfold A.Up at h ⊢
    exact (List.pairwise_append.1 h).1
  have hlt : ∀ x ∈ l, x.1 < s := fun x hx => by
    unfold A.Up at h
    exact (List.pairwise_append.1 h).2.2 x hx (s, q) (by simp)
  refine A.up_ext (hl.put _ _) h (fun x => ?_)
  rw [A.mem_put, List.mem_append, List.mem_singleton]
  constructor
  · rintro (e | ⟨e, _⟩)
    · exact .inr e
    · exact .inl e
  · rintro (e | e)
    · exact .inr ⟨e, by have := hlt x e; omega⟩
    · exact .inl e
theorem Ok.take {t : Tb} (h : Ok t) (k : Nat) : A.Up (t.take k) := List.Pairwise.sublist (List.take_sublist _ _) h.up
theorem from_own {t : Tb} (h : Ok t) : ∀ k, k ≤ t.length → from_ [] (t.take k) = (t.take k, 0)
  | 0, _ => rfl
  | k + 1, hk => by
    have ih := from_own h k (by omega)
    obtain ⟨x, hx⟩ : ∃ x, t[k]? = some x := ⟨_, List.getElem?_eq_getElem (by omega)⟩
    obtain ⟨s, q⟩ := x
    have htk : t.take (k + 1) = t.take k ++ [(s, q)] := by rw [List.take_add_one, hx]; rfl
    have hup := h.take (k + 1)
    rw [htk] at hup ⊢
    rw [from_app _ _ _ (by rw [ih]), ih, from_one]
    have hr := h.rng s q (A.get_of_mem h.up (List.mem_of_getElem? hx))
    have hlt : ∀ x ∈ t.take k, x.1 < s := fun x hx => by
      unfold A.Up at hup
      exact (List.pairwise_append.1 hup).2.2 x hx (s, q) (by simp)
    have hn : A.get s (t.take k) = none := A.get_none.2 (fun x hx => by have := hlt x hx; omega)
    have he : rerr (t.take k) (s, q) = 0 := by
      unfold rerr
      simp only [hr.1, hr.2, hn, Bool.and_self, if_true, Option.isSome_none, Bool.false_eq_true, if_false]
      rw [if_neg (by rw [List.length_take]; have := h.few; omega)]
    dsimp only
    rw [if_pos he, put_end hup]
theorem from_self {t : Tb} (h : Ok t) : from_ [] t = (t, 0) := by
  have := from_own h t.length (Nat.le_refl _)
  rwa [List.take_length] at this
/-- the rows told so far, in the law's own slice -/
def Bg (u : World) (X : Nat) (pre : List El) (W : World) : Prop :=
  ∃ a c, W.heap[X]? = some (.cells #[.slice a pre.length c] 26 (0, 0)) ∧ Ro W 61 6 a pre.length c (flat pre) ∧ (∀ i, blk a = some i → u.heap.size ≤ i) ∧ Fr (fun i => i = X) u W ∧ X < u.heap.size
theorem Bg.kept {u W W' : World} {X : Nat} {pre : List El} (h : Bg u X pre W) (hf : Fr (fun _ => False) W W') : Bg u X pre W' := by
  obtain ⟨a, c, h1, h2, h3, h4, h5⟩ := h
  exact ⟨a, c, hf.cells h1 (fun h => h), h2.kept hf (fun _ _ h => h), h3, h4.trans hf (fun _ _ h => h.elim), h5⟩
theorem Bg.own {u : World} {X : Nat} : OwnFrom u.heap.size (Bg u X) := fun pre W W' row h hg hr => by
  obtain ⟨a, c, h1, h2, h3, h4, h5⟩ := h
  have hk : Kz (fun _ => False) W W' := Kz.grown hg (fun r e => (hr r e).2)
  exact ⟨a, c, (hk.1 _ _ _ _ h1 (fun h => h)).trans h1, h2.kc hk.1 (fun _ _ h => h), h3, h4.own hg (fun r e => (hr r e).1), h5⟩
/-- .. and one more is at hand, in the block v -/
def Bw (u : World) (X : Nat) (t : Tb) (tm : Array Value) (pre : List El) (x : El) (a1 : Act) (W : World) : Prop :=
  ∃ v, a1 = { tmps := (tm.setIfInBounds 42 (rowv x.1 x.2)).setIfInBounds 9 (ptrY v), defers := [] } ∧ W.heap[v]? = some (.cells (wcells x.1 x.2) 61 (0, 0)) ∧ pre ++ [x] <+: t ∧ Bg u X pre W
theorem Bw.put {u W : World} {X : Nat} {t : Tb} {tm : Array Value} {pre : List El} {x : El} {a1 : Act} (h : Bw u X t tm pre x a1 W) {l : Nat} {o : Obj} (o' : Obj) (hl : u.heap.size ≤ l) (ho : W.heap[l]? = some o) (hc : o.isCells = false) : Bw u X t tm pre x a1 (W.putObj l o') := by
  obtain ⟨v, h1, h2, h3, h4⟩ := h
  have hk : Kz (fun _ => False) W (W.putObj l o') := Kz.putObj o' ho hc
  refine ⟨v, h1, (hk.1 _ _ _ _ h2 (fun h => h)).trans h2, h3, Bg.own pre W _ (some l) h4 (grownBy_putObj' W l o') (fun r e => by cases e; exact ⟨hl, o, ho, hc⟩)⟩
/-- what the range leaves -/
def Bm (u : World) (X : Nat) (t : Tb) (a0 : Act) (e : Exit) (a' : Act) (W' : World) : Prop :=
  e = .normal ∧ ∃ D, a' = { a0 with defers := { target := .collected D, args := #[] } :: a0.defers } ∧ u.heap.size ≤ D ∧ Bg u X t W' ∧ W'.heap[D]? = some (.deferred (some []))
/-- BOTH TABLES, and the mark -/
structure Bs (w V : World) (p mb p2 mb2 D : Nat) (t : Tb) : Prop where
  fr : Fr (fun _ => False) w V
  y : Ym V p mb t
  z : Ym V p2 mb2 t
  lm : w.heap.size ≤ mb
  lz : w.heap.size ≤ mb2
  ne : mb ≠ mb2
  hd : V.heap[D]? = some (.deferred (some []))
variable {w V V' : World} {p mb p2 mb2 D : Nat} {t t' : Tb}
theorem Bs.idle (h : Bs w V p mb p2 mb2 D t) (hf : Fr (fun _ => False) V V') : Bs w V' p mb p2 mb2 D t :=
  ⟨h.fr.trans hf (fun _ _ h => h), h.y.kept hf (fun h => h) (fun h => h), h.z.kept hf (fun h => h) (fun h => h), h.lm, h.lz, h.ne, hf.cells h.hd (fun h => h)⟩
theorem Mp.not_obj {g : Int → Option Value} {m b : Nat} (h : Mp 2 litI V b g m) {l : Option (List Deferred)} : V.heap[b]? ≠ some (.deferred l) := fun e => by
  obtain ⟨D, ⟨es, clock, hb, _⟩, _⟩ := h
  rw [hb] at e
  cases e
theorem Bs.off (h : Bs w V p mb p2 mb2 D t) {X : Nat} {cs : Array Value} {ty : TypeId} {m : Nat × Nat} (hx : V.heap[X]? = some (.cells cs ty m)) : ¬ (X = mb ∨ X = mb2) := by
  rintro (rfl | rfl)
  · exact h.y.map.not_cells hx
  · exact h.z.map.not_cells hx
theorem Bs.put1 (h : Bs w V p mb p2 mb2 D t) (hy : Ym V' p mb t') (hf : Fr (fun i => i = mb) V V') : Ym V' p2 mb2 t ∧ V'.heap[D]? = some (.deferred (some [])) ∧ Fr (fun _ => False) w V' :=
  ⟨h.z.kept hf (fun e => by have := h.y.map; rw [← e] at this; exact this.not_cells h.z.box) (fun e => h.ne e.symm), hf.cells h.hd (fun e => by have := h.hd; rw [e] at this; exact Mp.not_obj h.y.map this), h.fr.trans hf (fun i hi e => by have := h.lm; omega)⟩
theorem Bs.put2 (lm : w.heap.size ≤ mb) (lz : w.heap.size ≤ mb2) (ne : mb ≠ mb2) (hy : Ym V p mb t') (h2 : Ym V p2 mb2 t) (hd : V.heap[D]? = some (.deferred (some []))) (hfr : Fr (fun _ => False) w V) (hz : Ym V' p2 mb2 t') (hf : Fr (fun i => i = mb2) V V') : Bs w V' p mb p2 mb2 D t' :=
  ⟨hfr.trans hf (fun i hi e => by omega), hy.kept hf (fun e => by have := h2.map; rw [← e] at this; exact this.not_cells hy.box) ne, hz, lm, lz, ne, hf.cells hd (fun e => by rw [e] at hd; exact Mp.not_obj h2.map hd)⟩
end Y
set_option maxHeartbeats 16000000 in
theorem clientsBack_walk {w : World} {a b : Option Addr} {c d : Nat} {xs ys : List Y.Sop} (hx : Rw (fun g => g < w.heap.size) w 9 a xs.length (Y.flatS xs)) (hwf : ∀ x ∈ xs, (Lit.int .i64 x.s).wf = true) (hlen : xs.length ≤ 4000000000000) (hy : Rw (fun g => g < w.heap.size) w 9 b ys.length (Y.flatS ys)) (hwy : ∀ x ∈ ys, (Lit.int .i64 x.s).wf = true) (hly : ys.length ≤ 4000000000000) :
    Calls Try.prog 8 #[.slice a xs.length c, .slice b ys.length d] w fun e w' => e = .returned (.bool true) ∧ Fr (fun _ => False) w w' := by
  have KN := hid (fun (W : World) => ynew_any W)
  have KL := hid (fun (W : World) => ylive_any W)
  obtain ⟨n, hn⟩ : ∃ n, xs.length = n := ⟨_, rfl⟩
  obtain ⟨m, hm⟩ : ∃ m, ys.length = m := ⟨_, rfl⟩
  rw [hn] at hlen ⊢
  rw [hm] at hly ⊢
  refine (callsIn_wide (n := 9)).1 ?_
  refine callsIn_of_wp_marks Try.func8 rfl trivial ?_ rfl
  simp only [Try.ntmps8, List.size_toArray, List.length_cons, List.length_nil, Nat.reduceAdd, Nat.reduceSub, Array.replicate_succ, Array.replicate_zero, List.push_toArray, List.append_toArray, List.nil_append, List.cons_append]
  refine wpIn_wide.2 ?_
  have HN := hid hn
  have HM := hid hm
  have HXS := hid hx
  have HWF := hid hwf
  have HYS := hid hy
  have HWY := hid hwy
  clear hx hwf hn hy hwy hm
  go_wp2_with fail
  refine (KN.out _).mono ?_
  rintro e w1 ⟨rfl, hm1, hf1⟩
  have hs1 := hf1.size
  generalize hp : w.heap.size + 1 = p at hm1 ⊢
  generalize hmb : w.heap.size = mb at hm1
  have F1 := hid hf1
  have HM1 := hid hm1
  have HMB := hid hmb.symm
  clear hf1 hm1 hp hmb
  dsimp only
  go_wp2_with fail
  refine (KL.out _).mono ?_
  rintro e w2 ⟨rfl, hf2⟩
  have HST := hid (show Fr (fun _ => False) w w2 ∧ Ym w2 p mb [] from ⟨F1.out.trans hf2 (fun _ _ h => h), HM1.out.kept hf2 (fun h => h) (fun h => h)⟩)
  clear hf2 hs1
  dsimp only
  go_wp2
  go_loopw [27] (fun i wr => ∃ (k : Nat), i = .int .i64 k ∧ Hid (k ≤ n ∧ Fr (fun _ => False) w wr ∧ ∃ t, Ym wr p mb t))
    (fun i _ => n - (intOf i).toNat)
  case atStart => exact ⟨0, rfl, hid ⟨Nat.zero_le _, HST.out.1, [], HST.out.2⟩⟩
  case round =>
    obtain ⟨k, rfl, hall⟩ := hrel
    obtain ⟨hk, hfr, t, hmt⟩ := hall.out
    by_cases hlt : k < n
    · obtain ⟨x, hx⟩ : ∃ x, xs[k]? = some x := ⟨_, List.getElem?_eq_getElem (by rw [HN.out]; exact hlt)⟩
      have hsw := HWF.out x (List.mem_of_getElem? hx)
      obtain ⟨g, o, rfl, hc⟩ := Y.sop_at HXS.out hx
      obtain ⟨s, qr, pu, cl, ⟨x0, x1, x2, x3⟩, st⟩ := x
      have cw : ∀ j u, (Y.Sop.cs ⟨s, qr, pu, cl, (x0, x1, x2, x3), st⟩)[j]? = some u → wr.cell? ⟨g, o + k * 9 + j, none⟩ = some u := fun j u hu => cellFr hfr (fun h => h) (hc j u hu)
      have e0 : wr.cell? ⟨g, o + k * 9, none⟩ = some (.int .i64 s) := cw 0 _ rfl
      have e1 : wr.cell? ⟨g, o + k * 9 + 1, none⟩ = some (.int .i64 qr) := cw 1 _ rfl
      have e2 : wr.cell? ⟨g, o + k * 9 + 2, none⟩ = some (.bool pu) := cw 2 _ rfl
      have e3 : wr.cell? ⟨g, o + k * 9 + 3, none⟩ = some (.bool cl) := cw 3 _ rfl
      have e4 : wr.cell? ⟨g, o + k * 9 + 4, none⟩ = some (.int .i64 x0) := cw 4 _ rfl
      have e5 : wr.cell? ⟨g, o + k * 9 + 5, none⟩ = some (.int .i64 x1) := cw 5 _ rfl
      have e6 : wr.cell? ⟨g, o + k * 9 + 6, none⟩ = some (.int .i64 x2) := cw 6 _ rfl
      have e7 : wr.cell? ⟨g, o + k * 9 + 7, none⟩ = some (.int .i64 x3) := cw 7 _ rfl
      have e8 : wr.cell? ⟨g, o + k * 9 + 8, none⟩ = some (.int .i64 st) := cw 8 _ rfl
      have i0 : (0 : Int) ≤ (k : Int) := by omega
      have i1 : (k : Int) < (n : Int) := by omega
      have fA : Fr (fun _ => False) wr (wr.alloc (.cells (Y.Sop.cs ⟨s, qr, pu, cl, (x0, x1, x2, x3), st⟩) 36)) := Fr.alloc (Fr.refl _ _) _
      have KP := hid (yput_any (hmt.kept fA (fun h => h) (fun h => h)) (s := s) (q := qr) hsw (x0, x1, x2, x3))
      have HF := hid (hfr.trans fA (fun _ _ h => h))
      clear hk hfr hmt hall hx hc cw hsw fA
      go_wp2_with fail
      refine KP.out.mono ?_
      rintro e w4 ⟨rfl, hy4, hf4⟩
      have REL := hid (show k + 1 ≤ n ∧ Fr (fun _ => False) w w4 ∧ ∃ t, Ym w4 p mb t from ⟨hlt, HF.out.trans hf4 (fun i hi e => by have := HMB.out; omega), _, hy4⟩)
      clear hy4 hf4 KP HF
      dsimp only
      go_wp2
      go_roundw
      case rel => exact ⟨k + 1, by first | go_num | rfl | trivial, REL⟩
      case measure => simp [intOf]; omega
    · obtain rfl : k = n := by omega
      have HFR := hid hfr
      have HMT := hid hmt
      clear hk hfr hmt hall
      go_wp2_with fail
      have fB : Fr (fun _ => False) wr (wr.alloc (.cells #[.slice none 0 0] 26)) := Fr.alloc (Fr.refl _ _) _
      have HBX := hid (Go.heap_alloc_new wr (.cells #[.slice none 0 0] 26 (0, 0)))
      refine (yrows_any (HMT.out.kept fB (fun h => h) (fun h => h))).mono ?_
      rintro e w5 ⟨B, ra, rc, rfl, hit, hf5⟩
      obtain ⟨X, hX⟩ : ∃ X, wr.heap.size = X := ⟨_, rfl⟩
      have hlo : (wr.alloc (.cells #[.slice none 0 0] 26)).heap.size = X + 1 := by rw [World.size_alloc, hX]
      rw [hX] at HBX
      rw [hlo] at hit
      have h5 := (HMT.out.kept fB (fun h => h) (fun h => h)).kept hf5 (fun h => h) (fun h => h)
      have hb5 := hf5.cells HBX.out (fun h => h)
      have HG0 := hid (show Y.Bg w5 X [] w5 from ⟨none, 0, hb5, Ro.nil _ _ _, by simp [blk], Fr.refl _ _, lt_of_row hb5⟩)
      have HM5 := hid h5
      have HF5 := hid ((HFR.out.trans fB (fun _ _ h => h)).trans hf5 (fun _ _ h => h))
      have HIT := hid hit
      have HXP := hid (show mb < X ∧ p < X ∧ w.heap.size ≤ X ∧ X < w5.heap.size from ⟨by rw [← hX]; exact HMT.out.map.lt, by rw [← hX]; exact lt_of_row HMT.out.box, by rw [← hX]; exact HFR.out.size, lt_of_row hb5⟩)
      dsimp only
      rw [hX]
      clear fB hf5 hit h5 hb5 hlo hX
      go_wp2_with fail
      refine (wpIn_wide (n := 9)).1 ?_
      refine wp_of_actC (fun a0 ha0 => ?_)
      refine wpIn_mono (Q := Y.Bm w5 X t a0) ?rng ?rest
      case rng =>
        refine wpIn_rangeV (w := w5) rfl (by omega) (gf := 31) (lb := #[ptrY B]) (by rw [ha0]; rfl) trivial (enters_of Try.func31 (by kernel_rfl) rfl)
          (yiter_seq 8 (by omega) B rc (X + 1) ra t (fun i => ¬ (i = B ∨ blk ra = some i)) w5 HIT.out (fun h => h (.inl rfl)) (fun i hi h => h (.inr hi)) (by have := HM5.out.ok.few; omega)) (Below.refl _ _) (fun _ => rfl) (fun h k => h.trans k) (fun W l o o' hl hW hc _ => Kz.putObj o' hW hc)
          (Y.Bg w5 X) (fun _ _ _ => False) (Y.Bw w5 X t a0.tmps) Y.Bg.own (fun _ _ _ _ _ h => h.elim) HG0.out
          (fun pre x a1 W l o o' hl hW hc _ h => h.put o' hl hW hc) ?assign ?body ?done ?stop
        case assign =>
          subst ha0
          rintro l pre x W0 W Kn hn hfW hv hK
          have fA : Fr (fun _ => False) W (W.alloc (.cells (Y.wcells x.1 x.2) 61)) := Fr.alloc (Fr.refl _ _) _
          have fin : KeepsFrom w5.heap.size W (W.alloc (.cells (Y.wcells x.1 x.2) 61)) ∧ Kz (fun i => ¬ (i = B ∨ blk ra = some i)) W (W.alloc (.cells (Y.wcells x.1 x.2) 61)) ∧ ∀ t', Y.Bw w5 X t t' pre x { tmps := (t'.setIfInBounds 42 (Y.rowv x.1 x.2)).setIfInBounds 9 (ptrY W.heap.size), defers := [] } (W.alloc (.cells (Y.wcells x.1 x.2) 61)) :=
            ⟨⟨fA.size, fun k o _ hk _ => fA.cells hk (fun h => h)⟩, Kz.of_fr fA, fun t' => ⟨W.heap.size, rfl, Go.heap_alloc_new W _, hv, hn.kept (hfW.trans fA (fun _ _ h => h))⟩⟩
          have FIN := hid fin
          have HK2 := hid hK
          clear hn hfW hv fA fin hK
          gi_wp2
          exact HK2.out _ _ FIN.out.1 FIN.out.2.1 (FIN.out.2.2 _)
        case body =>
          subst ha0
          rintro l pre x a1 W ⟨v, rfl, hv, hpf, a2, c2, hbx, hro, hnw, hfr2, hxl⟩
          obtain ⟨kk, hkk⟩ : ∃ kk, pre.length = kk := ⟨_, rfl⟩
          have hkl : kk < 64 := by
            have h1 := hpf.length_le
            have h2 := HM5.out.ok.few
            rw [List.length_append] at h1
            simp only [List.length_cons, List.length_nil] at h1
            omega
          obtain ⟨a', c', w', hr, hro', hf', hn'⟩ := Y.row_append W a2 c2 pre.length (Y.flat pre) hro (by omega) x.1 x.2
          have hxa : blk a2 ≠ some X := fun e => by have := hnw X e; omega
          have hbx' := hf'.cells hbx hxa
          have fin : KeepsFrom w5.heap.size W (w'.setCell ⟨X, 0, none⟩ (.slice a' (pre.length + 1) c')) ∧ Kz (fun i => ¬ (i = B ∨ blk ra = some i)) W (w'.setCell ⟨X, 0, none⟩ (.slice a' (pre.length + 1) c')) ∧ Y.Bg w5 X (pre ++ [x]) (w'.setCell ⟨X, 0, none⟩ (.slice a' (pre.length + 1) c')) := by
            have fs : Fr (fun i => i = X) w' (w'.setCell ⟨X, 0, none⟩ (.slice a' (pre.length + 1) c')) := Fr.setCell (p := ⟨X, 0, none⟩) (S := fun i => i = X) (Fr.refl _ _) (fun _ => rfl) _
            have ft : Fr (fun i => blk a2 = some i ∨ i = X) W (w'.setCell ⟨X, 0, none⟩ (.slice a' (pre.length + 1) c')) := (hf'.mono (fun _ _ h => .inl h)).trans fs (fun _ _ h => .inr h)
            refine ⟨⟨ft.size, fun i ob hi h1 hc => ft.cells h1 (fun e => ?_)⟩, (Kz.of_fr' ft).mono (fun i hi e => ?_), a', c', ?_, ?_, ?_, ?_, hxl⟩
            · rcases e with e | rfl
              · rcases hro.2 with ⟨h3, _⟩ | ⟨g, o', cur, h3, h4, _⟩
                · rw [h3] at e; simp [blk] at e
                · rw [h3] at e
                  simp [blk] at e
                  subst e
                  rw [h4] at h1
                  cases h1
                  cases hc
              · omega
            · have hB := lt_of_row HIT.out.bx
              have hBl := HIT.out.lb
              rcases hi with hi | rfl
              · have := hnw i hi
                rcases e with rfl | e
                · omega
                · have := HIT.out.row.lt i e; omega
              · rcases e with rfl | e
                · omega
                · have := HIT.out.lr _ e; omega
            · rw [setCell_row hbx', List.length_append]; rfl
            · rw [List.length_append, Y.flat_append, show pre.length + [x].length = pre.length + 1 from rfl, Y.flat_one]
              exact hro'.kept fs (fun j hj e => by
                subst e
                rcases hn' j hj with h | h
                · exact hxa h
                · have := hfr2.size; omega)
            · intro i hi
              rcases hn' i hi with h | h
              · exact hnw i h
              · exact Nat.le_trans hfr2.size h
            · exact (hfr2.trans hf' (fun i hi e => by have := hnw i e; omega)).trans fs (fun _ _ h => h)
          rw [hkk] at hr fin hbx hbx'
          have cb : W.cell? ⟨X, 0, none⟩ = some (.slice a2 kk c2) := cellA hbx rfl
          have d0 := cellA (j := 0) hv rfl
          have d1 := cellA (j := 1) hv rfl
          have d2 := cellA (j := 2) hv rfl
          have d3 := cellA (j := 3) hv rfl
          have d4 := cellA (j := 4) hv rfl
          have d5 := cellA (j := 5) hv rfl
          have c2' : w'.cell? ⟨X, 0, none⟩ = some (.slice a2 kk c2) := cellA hbx' rfl
          have z2 := frozen_of_row (j := 0) hbx'
          have R2 := hid hr
          have FIN := hid fin
          clear hv hpf hro hnw hfr2 hxl hkk hr hro' hf' hn' hxa hbx hbx' fin
          gi_wp2_with (first
            | (gi_at_builtin; refine wpListIn_append_eqY _ _ rfl _ _ _ rfl _ _ _ rfl rfl (by exact R2.out) ?_))
          exact FIN.out
        case done =>
          rintro D0 zs W0 hD hxs hga hK0
          subst hxs
          exact ⟨rfl, D0, rfl, hD, hga, hK0⟩
        case stop =>
          rintro D0 c' pre W0 hD hsp h hK0
          exact h.elim
      case rest =>
        subst ha0
        rintro e a1 W1 ⟨rfl, D, rfl, hD, ⟨ra', c', hbx, hro, hnw, hfr, hxl⟩, hK⟩
        have cX : W1.cell? ⟨X, 0, none⟩ = some (.slice ra' t.length c') := cellA hbx rfl
        have hpX : p ≠ X := by have := HXP.out.2.1; omega
        have hmX : mb ≠ X := by have := HXP.out.1; omega
        have HY1 := hid (HM5.out.kept hfr hpX hmX)
        have HF1 := hid (HF5.out.trans hfr (fun i hi e => by have := HXP.out.2.2.1; omega))
        have KF := hid (yfrom_any (c := c') (Rw.of_ro hro (I := fun _ => True) (fun _ _ => trivial)) (fun x hx => by
          obtain ⟨n, q⟩ := x
          have := Y.may_iff.1 (HM5.out.ok.rng n q (A.get_of_mem HM5.out.ok.up hx)).1
          exact wfT (x := n) (by omega) (by omega)) (by have := HM5.out.ok.few; omega))
        rw [Y.from_self HM5.out.ok] at KF
        dsimp only at KF
        have HK0 := hid hK
        have HD0 := hid hD
        clear hbx hro hnw hfr hxl hK hD
        have HMBX := hid (show mb < W1.heap.size from HY1.out.map.lt)
        gi_wp2_with fail
        go_wp2_with fail
        refine KF.out.mono ?_
        rintro e w6 ⟨hf6, hc6⟩
        rcases hc6 with ⟨_, p2, mb2, rfl, hz6, hlz⟩ | ⟨hne, _⟩
        rotate_left
        · exact absurd rfl hne
        have HBS := hid (show Y.Bs w w6 p mb p2 mb2 D t from ⟨HF1.out.trans hf6 (fun _ _ h => h), HY1.out.kept hf6 (fun h => h) (fun h => h), hz6, by rw [HMB.out]; exact Nat.le_refl _, by have := HF1.out.size; omega, by have := HMBX.out; omega, hf6.cells HK0.out (fun h => h)⟩)
        clear hf6 hz6 hlz
        dsimp only
        go_wp2
        go_loopw [60] (fun i wr => ∃ (k : Nat), i = .int .i64 k ∧ Hid (k ≤ m ∧ ∃ t, Y.Bs w wr p mb p2 mb2 D t))
          (fun i _ => m - (intOf i).toNat)
        case atStart => exact ⟨0, rfl, hid ⟨Nat.zero_le _, t, HBS.out⟩⟩
        case round =>
          obtain ⟨k, rfl, hall⟩ := hrel
          obtain ⟨hk, t', hbs⟩ := hall.out
          by_cases hlt : k < m
          · obtain ⟨x, hx⟩ : ∃ x, ys[k]? = some x := ⟨_, List.getElem?_eq_getElem (by rw [HM.out]; exact hlt)⟩
            have hsw := HWY.out x (List.mem_of_getElem? hx)
            obtain ⟨g, o, rfl, hc⟩ := Y.sop_at HYS.out hx
            obtain ⟨s, qr, pu, cl, ⟨x0, x1, x2, x3⟩, st⟩ := x
            have cw : ∀ j u, (Y.Sop.cs ⟨s, qr, pu, cl, (x0, x1, x2, x3), st⟩)[j]? = some u → wr.cell? ⟨g, o + k * 9 + j, none⟩ = some u := fun j u hu => cellFr hbs.fr (fun h => h) (hc j u hu)
            have e0 : wr.cell? ⟨g, o + k * 9, none⟩ = some (.int .i64 s) := cw 0 _ rfl
            have e1 : wr.cell? ⟨g, o + k * 9 + 1, none⟩ = some (.int .i64 qr) := cw 1 _ rfl
            have e2 : wr.cell? ⟨g, o + k * 9 + 2, none⟩ = some (.bool pu) := cw 2 _ rfl
            have e3 : wr.cell? ⟨g, o + k * 9 + 3, none⟩ = some (.bool cl) := cw 3 _ rfl
            have e4 : wr.cell? ⟨g, o + k * 9 + 4, none⟩ = some (.int .i64 x0) := cw 4 _ rfl
            have e5 : wr.cell? ⟨g, o + k * 9 + 5, none⟩ = some (.int .i64 x1) := cw 5 _ rfl
            have e6 : wr.cell? ⟨g, o + k * 9 + 6, none⟩ = some (.int .i64 x2) := cw 6 _ rfl
            have e7 : wr.cell? ⟨g, o + k * 9 + 7, none⟩ = some (.int .i64 x3) := cw 7 _ rfl
            have e8 : wr.cell? ⟨g, o + k * 9 + 8, none⟩ = some (.int .i64 st) := cw 8 _ rfl
            have i0 : (0 : Int) ≤ (k : Int) := by omega
            have i1 : (k : Int) < (m : Int) := by omega
            have HB0 := hid (Go.heap_alloc_new wr (.cells (Y.Sop.cs ⟨s, qr, pu, cl, (x0, x1, x2, x3), st⟩) 36 (0, 0)))
            have HS0 := hid (hbs.idle (Fr.alloc (Fr.refl (fun _ => False) wr) (.cells (Y.Sop.cs ⟨s, qr, pu, cl, (x0, x1, x2, x3), st⟩) 36)))
            have HSW := hid hsw
            clear hbs hall hx hc cw hsw
            have KA := hid (yask_any HS0.out.y (s := s) (q := qr) HSW.out)
            have KB := hid (fun (W : World) (hf : Fr (fun _ => False) (wr.alloc (.cells #[.int .i64 s, .int .i64 qr, .bool pu, .bool cl, .int .i64 x0, .int .i64 x1, .int .i64 x2, .int .i64 x3, .int .i64 st] 36)) W) => yask_any (HS0.out.z.kept hf (fun h => h) (fun h => h)) (s := s) (q := qr) HSW.out)
            obtain ⟨sd, hsd⟩ : ∃ sd, Y.said t' s qr = sd := ⟨_, rfl⟩
            rw [hsd] at KA KB
            obtain ⟨y0, y1, y2, y3⟩ := sd
            clear hsd
            go_wp2_with fail
            refine KA.out.mono ?_
            rintro e va ⟨rfl, hfa⟩
            have FA := hid (Fr.alloc hfa (.cells #[.int .i64 y0, .int .i64 y1, .int .i64 y2, .int .i64 y3] 34))
            have HB8 := FA.out.cells HB0.out (fun h => h)
            have fa_0 : (va.alloc (.cells #[.int .i64 y0, .int .i64 y1, .int .i64 y2, .int .i64 y3] 34)).cell? ⟨wr.heap.size, 0, none⟩ = some (.int .i64 s) := cellA (j := 0) HB8 rfl
            have fa_1 : (va.alloc (.cells #[.int .i64 y0, .int .i64 y1, .int .i64 y2, .int .i64 y3] 34)).cell? ⟨wr.heap.size, 1, none⟩ = some (.int .i64 qr) := cellA (j := 1) HB8 rfl
            have HBa := hid HB8
            clear hfa HB8 KA
            dsimp only
            go_wp2_with fail
            refine (KB.out _ FA.out).mono ?_
            rintro e vb ⟨rfl, hfb⟩
            have hbx8 := hfb.cells (Go.heap_alloc_new va (.cells #[.int .i64 y0, .int .i64 y1, .int .i64 y2, .int .i64 y3] 34 (0, 0))) (fun h => h)
            have hba := hfb.cells HBa.out (fun h => h)
            have fal := Fr.alloc (Fr.refl (fun _ => False) vb) (.cells #[.int .i64 y0, .int .i64 y1, .int .i64 y2, .int .i64 y3] 34)
            have HB1 := hid (fal.cells hbx8 (fun h => h))
            have HB10 := hid (fal.cells hba (fun h => h))
            have HB2 := hid (Go.heap_alloc_new vb (.cells #[.int .i64 y0, .int .i64 y1, .int .i64 y2, .int .i64 y3] 34 (0, 0)))
            have FB := hid ((FA.out.trans hfb (fun _ _ h => h)).trans fal (fun _ _ h => h))
            clear hfb hbx8 hba fal KB
            dsimp only
            obtain ⟨jj, hjj⟩ : ∃ jj, Y.judge t' s qr = jj := ⟨_, rfl⟩
            rw [hjj]
            go_wp2_with fail
            have HSv := hid (HS0.out.idle FB.out)
            have HSd := hid (HSv.out.idle (Fr.drew (Fr.refl (fun _ => False) (vb.alloc (.cells #[.int .i64 y0, .int .i64 y1, .int .i64 y2, .int .i64 y3] 34)))))
            have HC := hid (fun (V : World) (hV : Fr (fun i => i = mb ∨ i = mb2) (vb.alloc (.cells #[.int .i64 y0, .int .i64 y1, .int .i64 y2, .int .i64 y3] 34)) V) => show V.heap[wr.heap.size]? = some (.cells #[.int .i64 s, .int .i64 qr, .bool pu, .bool cl, .int .i64 x0, .int .i64 x1, .int .i64 x2, .int .i64 x3, .int .i64 st] 36 (0, 0)) ∧ V.heap[va.heap.size]? = some (.cells #[.int .i64 y0, .int .i64 y1, .int .i64 y2, .int .i64 y3] 34 (0, 0)) ∧ V.heap[vb.heap.size]? = some (.cells #[.int .i64 y0, .int .i64 y1, .int .i64 y2, .int .i64 y3] 34 (0, 0)) from
              ⟨hV.cells HB10.out (HSv.out.off HB10.out), hV.cells HB1.out (HSv.out.off HB1.out), hV.cells HB2.out (HSv.out.off HB2.out)⟩)
            clear HB2
            have hmx : Try.prog.follows .mixedOrders = true := by kernel_rfl
            refine wp_region_noPanic ?_
            refine wp_region_held (S := fun V => Fr (fun i => i = mb ∨ i = mb2) (vb.alloc (.cells #[.int .i64 y0, .int .i64 y1, .int .i64 y2, .int .i64 y3] 34)) V) hmx ?_
            have hS := (Fr.drew (Fr.refl (fun i => i = mb ∨ i = mb2) (vb.alloc (.cells #[.int .i64 y0, .int .i64 y1, .int .i64 y2, .int .i64 y3] 34))))
            simp only [List.size_toArray, List.length_cons, List.length_nil, Nat.reduceAdd, Array.replicate_succ, Array.replicate_zero, List.push_toArray, List.nil_append, List.cons_append]
            refine wpAnyH_take (i := 0) rfl (by kernel_rfl) (by kernel_rfl) (by kernel_rfl) (fun _ _ _ h => h) (tyload (by kernel_rfl) (by exact ⟨_, rfl, rfl⟩) (fun w' hS' => run_loadAt_mid (P := Try.prog) w' va.heap.size 0 34 [.int .i64 y0, .int .i64 y1, .int .i64 y2, .int .i64 y3] _ (rangeAt_of (HC.out w' hS').2.1 0 _ rfl) Try.underlying34 rfl (by kernel_rfl))) hS ?_
            simp only [List.getElem_toArray, List.getElem_cons_zero, List.getElem_cons_succ, Act.put, List.setIfInBounds_toArray, List.set_cons_zero, List.set_cons_succ]
            refine wpAnyH_take (i := 1) rfl (by kernel_rfl) (by kernel_rfl) (by kernel_rfl) (fun _ _ _ h => h) (tyload (by kernel_rfl) (by exact ⟨_, rfl, rfl⟩) (fun w' hS' => run_loadAt_mid (P := Try.prog) w' vb.heap.size 0 34 [.int .i64 y0, .int .i64 y1, .int .i64 y2, .int .i64 y3] _ (rangeAt_of (HC.out w' hS').2.2 0 _ rfl) Try.underlying34 rfl (by kernel_rfl))) hS ?_
            simp only [List.getElem_toArray, List.getElem_cons_zero, List.getElem_cons_succ, Act.put, List.setIfInBounds_toArray, List.set_cons_zero, List.set_cons_succ]
            refine wpAnyH_take (i := 2) (v := .bool false) rfl (by kernel_rfl) (by kernel_rfl) (by kernel_rfl) (fun _ _ _ h => h) (Or.inl ⟨by kernel_rfl, fun w' hS' => by clear hS'; go_simp⟩) hS ?_
            simp only [List.getElem_toArray, List.getElem_cons_zero, List.getElem_cons_succ, Act.put, List.setIfInBounds_toArray, List.set_cons_zero, List.set_cons_succ]
            refine wpAnyH_take (i := 3) (v := ?_) rfl (by kernel_rfl) (by kernel_rfl) (by kernel_rfl) (fun _ _ _ h => h) (Or.inl ⟨by kernel_rfl, ?_⟩) hS ?_
            rotate_left 1
            · (intro w' hS'; clear hS'; go_simp; try with_reducible rfl)
            simp only [List.getElem_toArray, List.getElem_cons_zero, List.getElem_cons_succ, Act.put, List.setIfInBounds_toArray, List.set_cons_zero, List.set_cons_succ]
            refine wpAnyH_take (i := 4) (v := ?_) rfl (by kernel_rfl) (by kernel_rfl) (by kernel_rfl) (fun _ _ _ h => h) (Or.inl ⟨by kernel_rfl, ?_⟩) hS ?_
            rotate_left 1
            · (intro w' hS'; clear hS'; go_simp; try with_reducible rfl)
            simp only [List.getElem_toArray, List.getElem_cons_zero, List.getElem_cons_succ, Act.put, List.setIfInBounds_toArray, List.set_cons_zero, List.set_cons_succ]
            refine wpAnyH_take (i := 5) (v := ?_) rfl (by kernel_rfl) (by kernel_rfl) (by kernel_rfl) (fun _ _ _ h => h) (Or.inl ⟨by kernel_rfl, ?_⟩) hS ?_
            rotate_left 1
            · (intro w' hS'; clear hS'; go_simp; try with_reducible rfl)
            simp only [List.getElem_toArray, List.getElem_cons_zero, List.getElem_cons_succ, Act.put, List.setIfInBounds_toArray, List.set_cons_zero, List.set_cons_succ]
            refine wpAnyH_take (i := 6) (v := .bool false) rfl (by kernel_rfl) (by kernel_rfl) (by kernel_rfl) (fun _ _ _ h => h) (Or.inl ⟨by kernel_rfl, fun w' hS' => by clear hS'; go_simp⟩) hS ?_
            simp only [List.getElem_toArray, List.getElem_cons_zero, List.getElem_cons_succ, Act.put, List.setIfInBounds_toArray, List.set_cons_zero, List.set_cons_succ]
            refine wpAnyH_take (i := 7) (v := ?_) rfl (by kernel_rfl) (by kernel_rfl) (by kernel_rfl) (fun _ _ _ h => h) (Or.inl ⟨by kernel_rfl, ?_⟩) hS ?_
            rotate_left 1
            · (intro w' hS'; clear hS'; go_simp; try with_reducible rfl)
            simp only [List.getElem_toArray, List.getElem_cons_zero, List.getElem_cons_succ, Act.put, List.setIfInBounds_toArray, List.set_cons_zero, List.set_cons_succ]
            refine wpAnyH_take (i := 8) (v := ?_) rfl (by kernel_rfl) (by kernel_rfl) (by kernel_rfl) (fun _ _ _ h => h) (Or.inl ⟨by kernel_rfl, ?_⟩) hS ?_
            rotate_left 1
            · (intro w' hS'; clear hS'; go_simp; try with_reducible rfl)
            simp only [List.getElem_toArray, List.getElem_cons_zero, List.getElem_cons_succ, Act.put, List.setIfInBounds_toArray, List.set_cons_zero, List.set_cons_succ]
            refine wpAnyH_take (i := 9) (v := ?_) rfl (by kernel_rfl) (by kernel_rfl) (by kernel_rfl) (fun _ _ _ h => h) (Or.inl ⟨by kernel_rfl, ?_⟩) hS ?_
            rotate_left 1
            · (intro w' hS'; clear hS'; go_simp; try with_reducible rfl)
            simp only [List.getElem_toArray, List.getElem_cons_zero, List.getElem_cons_succ, Act.put, List.setIfInBounds_toArray, List.set_cons_zero, List.set_cons_succ]
            refine wpAnyH_take (i := 10) (v := ?_) rfl (by kernel_rfl) (by kernel_rfl) (by kernel_rfl) (fun _ _ _ h => h) (Or.inl ⟨by kernel_rfl, ?_⟩) hS ?_
            rotate_left 1
            · (intro w' hS'; clear hS'; go_simp; try with_reducible rfl)
            simp only [List.getElem_toArray, List.getElem_cons_zero, List.getElem_cons_succ, Act.put, List.setIfInBounds_toArray, List.set_cons_zero, List.set_cons_succ]
            refine wpAnyH_take (i := 11) (v := ?_) rfl (by kernel_rfl) (by kernel_rfl) (by kernel_rfl) (fun _ _ _ h => h) (Or.inl ⟨by kernel_rfl, ?_⟩) hS ?_
            rotate_left 1
            · (intro w' hS'; have cq := cellA (j := 0) (HC.out w' hS').1 rfl; clear hS'; go_simp; try with_reducible rfl)
            simp only [List.getElem_toArray, List.getElem_cons_zero, List.getElem_cons_succ, Act.put, List.setIfInBounds_toArray, List.set_cons_zero, List.set_cons_succ]
            refine wpAnyH_take (i := 12) (v := ?_) rfl (by kernel_rfl) (by kernel_rfl) (by kernel_rfl) (fun _ _ _ h => h) (Or.inl ⟨by kernel_rfl, ?_⟩) hS ?_
            rotate_left 1
            · (intro w' hS'; clear hS'; go_simp; try with_reducible rfl)
            simp only [List.getElem_toArray, List.getElem_cons_zero, List.getElem_cons_succ, Act.put, List.setIfInBounds_toArray, List.set_cons_zero, List.set_cons_succ]
            refine wpAnyH_take (i := 13) (v := ?_) rfl (by kernel_rfl) (by kernel_rfl) (by kernel_rfl) (fun _ _ _ h => h) (Or.inl ⟨by kernel_rfl, ?_⟩) hS ?_
            rotate_left 1
            · (intro w' hS'; have cq := cellA (j := 1) (HC.out w' hS').1 rfl; clear hS'; go_simp; try with_reducible rfl)
            simp only [List.getElem_toArray, List.getElem_cons_zero, List.getElem_cons_succ, Act.put, List.setIfInBounds_toArray, List.set_cons_zero, List.set_cons_succ]
            refine wpAnyH_take (i := 14) (v := ?_) rfl (by kernel_rfl) (by kernel_rfl) (by kernel_rfl) (fun _ _ _ h => h) (Or.inl ⟨by kernel_rfl, ?_⟩) hS ?_
            rotate_left 1
            · (intro w' hS'; clear hS'; go_simp; try with_reducible rfl)
            simp only [List.getElem_toArray, List.getElem_cons_zero, List.getElem_cons_succ, Act.put, List.setIfInBounds_toArray, List.set_cons_zero, List.set_cons_succ]
            refine wpAnyH_take (i := 15) rfl (by kernel_rfl) (by kernel_rfl) (by kernel_rfl) (fun _ _ _ h => h) (tyload (by kernel_rfl) (by exact ⟨_, rfl, rfl⟩) (fun w' hS' => run_loadAt_mid (P := Try.prog) w' wr.heap.size 4 34 [.int .i64 x0, .int .i64 x1, .int .i64 x2, .int .i64 x3] _ (rangeAt_of (HC.out w' hS').1 4 _ rfl) Try.underlying34 rfl (by kernel_rfl))) hS ?_
            simp only [List.getElem_toArray, List.getElem_cons_zero, List.getElem_cons_succ, Act.put, List.setIfInBounds_toArray, List.set_cons_zero, List.set_cons_succ]
            refine wpAnyH_take (i := 17) (v := ?_) rfl (by kernel_rfl) (by kernel_rfl) (by kernel_rfl) (fun _ _ _ h => h) (Or.inl ⟨by kernel_rfl, ?_⟩) hS ?_
            rotate_left 1
            · (intro w' hS'; clear hS'; go_simp; try with_reducible rfl)
            simp only [List.getElem_toArray, List.getElem_cons_zero, List.getElem_cons_succ, Act.put, List.setIfInBounds_toArray, List.set_cons_zero, List.set_cons_succ]
            refine wpAnyH_take (i := 18) (v := ?_) rfl (by kernel_rfl) (by kernel_rfl) (by kernel_rfl) (fun _ _ _ h => h) (Or.inl ⟨by kernel_rfl, ?_⟩) hS ?_
            rotate_left 1
            · (intro w' hS'; clear hS'; go_simp; try with_reducible rfl)
            simp only [List.getElem_toArray, List.getElem_cons_zero, List.getElem_cons_succ, Act.put, List.setIfInBounds_toArray, List.set_cons_zero, List.set_cons_succ]
            refine wpAnyH_take (i := 19) (v := ?_) rfl (by kernel_rfl) (by kernel_rfl) (by kernel_rfl) (fun _ _ _ h => h) (Or.inl ⟨by kernel_rfl, ?_⟩) hS ?_
            rotate_left 1
            · (intro w' hS'; have cq := cellA (j := 0) (HC.out w' hS').1 rfl; clear hS'; go_simp; try with_reducible rfl)
            simp only [List.getElem_toArray, List.getElem_cons_zero, List.getElem_cons_succ, Act.put, List.setIfInBounds_toArray, List.set_cons_zero, List.set_cons_succ]
            refine wpAnyH_take (i := 20) (v := ?_) rfl (by kernel_rfl) (by kernel_rfl) (by kernel_rfl) (fun _ _ _ h => h) (Or.inl ⟨by kernel_rfl, ?_⟩) hS ?_
            rotate_left 1
            · (intro w' hS'; clear hS'; go_simp; try with_reducible rfl)
            simp only [List.getElem_toArray, List.getElem_cons_zero, List.getElem_cons_succ, Act.put, List.setIfInBounds_toArray, List.set_cons_zero, List.set_cons_succ]
            refine wpAnyH_take (i := 21) (v := ?_) rfl (by kernel_rfl) (by kernel_rfl) (by kernel_rfl) (fun _ _ _ h => h) (Or.inl ⟨by kernel_rfl, ?_⟩) hS ?_
            rotate_left 1
            · (intro w' hS'; have cq := cellA (j := 1) (HC.out w' hS').1 rfl; clear hS'; go_simp; try with_reducible rfl)
            simp only [List.getElem_toArray, List.getElem_cons_zero, List.getElem_cons_succ, Act.put, List.setIfInBounds_toArray, List.set_cons_zero, List.set_cons_succ]
            refine wpAnyH_take (i := 22) (v := ?_) rfl (by kernel_rfl) (by kernel_rfl) (by kernel_rfl) (fun _ _ _ h => h) (Or.inl ⟨by kernel_rfl, ?_⟩) hS ?_
            rotate_left 1
            · (intro w' hS'; clear hS'; go_simp; try with_reducible rfl)
            simp only [List.getElem_toArray, List.getElem_cons_zero, List.getElem_cons_succ, Act.put, List.setIfInBounds_toArray, List.set_cons_zero, List.set_cons_succ]
            refine wpAnyH_take (i := 23) rfl (by kernel_rfl) (by kernel_rfl) (by kernel_rfl) (fun _ _ _ h => h) (tyload (by kernel_rfl) (by exact ⟨_, rfl, rfl⟩) (fun w' hS' => run_loadAt_mid (P := Try.prog) w' wr.heap.size 4 34 [.int .i64 x0, .int .i64 x1, .int .i64 x2, .int .i64 x3] _ (rangeAt_of (HC.out w' hS').1 4 _ rfl) Try.underlying34 rfl (by kernel_rfl))) hS ?_
            simp only [List.getElem_toArray, List.getElem_cons_zero, List.getElem_cons_succ, Act.put, List.setIfInBounds_toArray, List.set_cons_zero, List.set_cons_succ]
            refine wpAnyH_ready (rs := [16]) (by kernel_rfl) (by simp) ?_
            refine AllReadyH.cons rfl (fun K1 hK1 => ?_) (AllReadyH.nil)
            go_simp
            refine (yput_any HSd.out.y HSW.out (x0, x1, x2, x3)).mono ?_
            rintro e w18 ⟨rfl, hy18, hf18⟩
            have HY18 := hid hy18
            have HP1 := hid (HSd.out.put1 hy18 hf18)
            refine hK1.out _ _ (hS.trans hf18 (fun _ _ h => .inl h)) (fun hS => ?_)
            clear hy18 hf18
            clear hK1 K1
            simp only [List.getElem_toArray, List.getElem_cons_zero, List.getElem_cons_succ, Act.put, List.setIfInBounds_toArray, List.set_cons_zero, List.set_cons_succ]
            refine wpAnyH_ready (rs := [24]) (by kernel_rfl) (by simp) ?_
            refine AllReadyH.cons rfl (fun K1 hK1 => ?_) (AllReadyH.nil)
            go_simp
            refine (yput_any HP1.out.1 HSW.out (x0, x1, x2, x3)).mono ?_
            rintro e w19 ⟨rfl, hz19, hf19⟩
            have HB2 := hid (Y.Bs.put2 HSd.out.lm HSd.out.lz HSd.out.ne HY18.out HP1.out.1 HP1.out.2.1 HP1.out.2.2 hz19 hf19)
            refine hK1.out _ _ (hS.trans hf19 (fun _ _ h => .inr h)) (fun hS => ?_)
            clear hz19 hf19
            clear hK1 K1
            simp only [List.getElem_toArray, List.getElem_cons_zero, List.getElem_cons_succ, Act.put, List.setIfInBounds_toArray, List.set_cons_zero, List.set_cons_succ]
            refine wpAnyH_take (i := 25) (v := .bool false) rfl (by kernel_rfl) (by kernel_rfl) (by kernel_rfl) (fun _ _ _ h => h) (Or.inl ⟨by kernel_rfl, fun w' hS' => by clear hS'; go_simp⟩) hS ?_
            simp only [List.getElem_toArray, List.getElem_cons_zero, List.getElem_cons_succ, Act.put, List.setIfInBounds_toArray, List.set_cons_zero, List.set_cons_succ]
            refine wpAnyH_take (i := 26) (v := ?_) rfl (by kernel_rfl) (by kernel_rfl) (by kernel_rfl) (fun _ _ _ h => h) (Or.inl ⟨by kernel_rfl, ?_⟩) hS ?_
            rotate_left 1
            · (intro w' hS'; clear hS'; go_simp; try with_reducible rfl)
            simp only [List.getElem_toArray, List.getElem_cons_zero, List.getElem_cons_succ, Act.put, List.setIfInBounds_toArray, List.set_cons_zero, List.set_cons_succ]
            refine wpAnyH_done (by kernel_rfl) ?_ _
            refine NoPanic.normal ?_
            have HSE := hid HB2.out
            clear hS
            go_wp2
            go_roundw
            case rel => exact ⟨k + 1, by first | go_num | rfl | trivial, hid ⟨hlt, _, HSE.out⟩⟩
            case measure => simp [intOf]; omega
          · obtain rfl : k = m := by omega
            have HE := hid hbs
            clear hk hbs hall
            have K1 := hid (ylen_any HE.out.y)
            have K2 := hid (ylen_any HE.out.z)
            go_wp2_with fail
            refine K1.out.mono ?_
            rintro e we ⟨rfl, rfl⟩
            dsimp only
            go_wp2_with fail
            refine K2.out.mono ?_
            rintro e we ⟨rfl, rfl⟩
            dsimp only
            go_wp2
            refine ⟨by simp, .inl ⟨_, _, rfl, run_takeDeferred HE.out.hd, ?_⟩⟩
            refine ⟨.bool true, ?_, rfl, ?_⟩
            · simp [results, Try.f8, go_sem]
            · have h1 := HD0.out
              have h2 := HF5.out.size
              exact HE.out.fr.trans (Fr.of_grown (grownBy_putObj' _ D _)) (fun i hi e => by simp at e; omega)
end Go.Proofs.Ytffjekhlloippaa
