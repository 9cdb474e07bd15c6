/-
  The document's disk: a new row of files is stored; drop, Remove.
-/
import Derived.Test.YtogdjhhabcejgaaGreatMg39
namespace Go.Proofs.YtogdjhhabcejgaaGreat
open Go.RowKit Go.Maps
set_option linter.unusedVariables false

theorem wpList_append_f (w : World) {ops : Array Oper} {rest : List Oper} {o : Oper} {a : Act} {Q : Exit → Act → World → Prop} (hgd : o.guard = none) (s x : Operand)
    (ho : o.op = .call { callee := .builtin .append, args := #[s, x], argTypes := #[47, 47] })
    (base : Nat) (ad : Option Addr) (n c : Nat) (l : List RM) (hs : a.eval s = .slice ad n c) (hn : l.length = n) (hown : Rb base w ad c l)
    (sa : Option Addr) (m sc : Nat) (news : List RM) (hx : a.eval x = .slice sa m sc) (hsrc : Fs w sa m news) (hbd : n + m ≤ 100000) (hbase : base ≤ w.heap.size)
    (h : ∀ a' c' w', Rb base w' a' c' (l ++ news) → w.grownBy w' (blk ad) → wpList Tryz.prog ops Q rest (a.put o.dst (.slice a' (n + m) c')) w') :
    wpList Tryz.prog ops Q (o :: rest) a w := by
  refine wpList_plain hgd fun K hK => ?_
  subst hn
  obtain ⟨a', c', w', hr, h2, h3⟩ := run_append_f w o.type base ad c l hown sa m sc news hsrc hbd hbase
  rw [List.length_append, hsrc.1] at hr
  unfold Oper.wp execOp
  simp only [ho, resolve, invoke, builtin, Sem.run_bind, Sem.run_pure, Result.andThen_ok, List.map_toArray, List.map_cons, List.map_nil, hs, hx, hr]
  exact hK _ _ (h a' c' w' h2 h3)
theorem Rb.kept {base : Nat} {S : Nat → Prop} {w w' : World} {fa : Option Addr} {fc : Nat} {l : List RM} (h : Rb base w fa fc l) (hf : Fr S w w') (hS : ∀ k, blk fa = some k → ¬ S k) : Rb base w' fa fc l := by
  refine ⟨h.1, ?_⟩
  rcases h.2 with h0 | ⟨g, cap, cur, hv, hb, hg, r⟩
  · exact .inl h0
  · refine .inr ⟨g, cap, cur, hv, hb, hf.cells hg (fun hs => hS g ?_ hs), r⟩
    simp only [Value.slice.injEq] at hv
    rw [hv.1]
    rfl
theorem Fs.kept {w w' : World} {a : Option Addr} {n : Nat} {l : List RM} (h : Fs w a n l) (hf : Fr (fun _ => False) w w') : Fs w' a n l := by
  refine ⟨h.1, ?_⟩
  rcases h.2 with h0 | ⟨ad, rfl, hc⟩
  · exact .inl h0
  · refine .inr ⟨ad, rfl, fun j u hu => ?_⟩
    have h1 := hc j u hu
    have hb := World.block_lt_of_cell? w _ h1
    rw [World.cell?_of_block (w := w) (w' := w') (hf.block _ hb (fun h => h))]
    exact h1
/-- a new row is stored into the disk -/
theorem Rx.newRow {S : Nat → Prop} {w w1 : World} {p : Nat} {fa : Option Addr} {fc : Nat} {l : List RM} {kp : Int} {d : K.DK} (h : Rx S w p fa fc l kp d) (hf : Fr (fun _ => False) w w1) {base : Nat} {a' : Option Addr} {c' : Nat} {l' : List RM} (hr : Rb base w1 a' c' l') (hb : w.heap.size ≤ base)
    (hm : ∀ m ∈ l', (m.b = [] ∧ m.sy = 0) ∨ ∃ m0 ∈ l, m.a = m0.a ∧ m.b = m0.b ∧ m.c = m0.c ∧ m.sy = m0.sy) (ho : K.Ok { d with fs := l'.map RM.kf }) :
    Rx (Nx S w (w1.setCell ⟨p, 1, none⟩ (.slice a' l'.length c'))) (w1.setCell ⟨p, 1, none⟩ (.slice a' l'.length c')) p a' c' l' kp { d with fs := l'.map RM.kf } ∧ Fr S w (w1.setCell ⟨p, 1, none⟩ (.slice a' l'.length c')) := by
  have hpl := h.rm.lt
  have hf2 : Fr (fun k => k = p) w1 (w1.setCell ⟨p, 1, none⟩ (.slice a' l'.length c')) := Fr.setCell (p := ⟨p, 1, none⟩) (S := fun k => k = p) (Fr.refl _ _) (fun _ => rfl) _
  have hbk := hr.bk
  have hrp : blk a' ≠ some p := fun e => by have := (hbk p e).1; omega
  have hsz := hf.size
  have hin : ∀ m ∈ l', 0 < m.b.length → ∀ k, blk m.a = some k → k < w.heap.size ∧ S k ∧ k ≠ p := by
    intro m hm' hz k hk
    rcases hm m hm' with ⟨e, _⟩ | ⟨m0, h0, ea, eb, ec, es⟩
    · rw [e] at hz; simp at hz
    · rw [ea] at hk
      rw [eb] at hz
      have hS := h.sb m0 h0 hz k hk
      exact ⟨h.lt k hS, hS, (h.rm.bx m0 h0 hz k hk).1⟩
  refine ⟨⟨Nx.lt, ho, ⟨?_, h.rm.kp0, h.rm.kp1, h.rm.kpe, hr.rw.kept hf2 (fun k hk e => hrp (e ▸ hk)), hrp, ?_, ?_, rfl⟩, ⟨.inl h.sp, by rw [setCell_size]; omega⟩, fun k hk => ⟨.inr (by have := (hbk k hk).1; omega), by rw [setCell_size]; exact (hbk k hk).2⟩, fun m hm' hz k hk => ⟨.inl (hin m hm' hz k hk).2.1, by rw [setCell_size]; have := (hin m hm' hz k hk).1; omega⟩⟩, (hf.mono (T := S) (fun _ _ h => h.elim)).trans hf2 (fun i _ e => e ▸ h.sp)⟩
  · rw [setCell_row (hf.cells h.rm.at_ (fun h => h))]; rfl
  · intro m hm'
    rcases hm m hm' with ⟨e, es⟩ | ⟨m0, h0, ea, eb, ec, es⟩
    · rw [e, es]
      exact ⟨Sl.nil _ _, Nat.le_refl _, Nat.zero_le _⟩
    · have := h.rm.by_ m0 h0
      rw [ea, eb, ec, es]
      exact ⟨(this.1.kept hf (fun _ _ _ h => h)).kept hf2 (fun hz k hk e => (h.rm.bx m0 h0 hz k hk).1 e), this.2⟩
  · intro m hm' hz k hk
    have := hin m hm' hz k hk
    exact ⟨this.2.2, fun e => by have := (hbk k e).1; omega⟩
namespace K
theorem ok_del {d : DK} (h : Ok d) (n : Nm) : Ok { d with fs := del n d.fs } := by
  have ht := tot_del_le F.len h.up n
  have := h.ur
  have := h.uc
  unfold DK.used at *
  exact ok_fs h (h.up.del n) (Nat.le_trans (length_del_le _ _) h.files) (fun p hp => h.names p (mem_del.1 hp).1) (by omega) (by omega)
end K
theorem map_kf_drop {l : List RM} {fs : List (K.Nm × K.F)} (h : l.map RM.kf = fs) (i : Nat) : (l.take i ++ l.drop (i + 1)).map RM.kf = fs.take i ++ fs.drop (i + 1) := by
  rw [← h, List.map_append, List.map_take, List.map_drop]
set_option maxHeartbeats 1600000 in
theorem rdrop_any {S : Nat → Prop} {w : World} {p : Nat} {d : K.DK} (h : Rk S w p d) (s : ByteArray) :
    Calls Tryz.prog 75 #[.pointer (some ⟨p, 0, none⟩), .string s] w fun e w' => (∃ v, e = .returned v) ∧ Rt S w p { d with fs := K.del s.data.toList d.fs } w' ∧ Fr (fun k => k = p) w w' := by
  have HK := hid h
  have KF := hid (rfind_any h s)
  have HOK := hid (K.ok_del h.2.1 s.data.toList)
  obtain ⟨fa, fc, l, kp, hx⟩ := h.rx
  clear h
  unfold rfnd at KF
  generalize s.data.toList = n at KF HOK ⊢
  cases hg : K.get n d.fs with
  | none =>
    rw [hg] at KF
    simp only [Option.isSome_none] at KF
    rw [K.del_none hg]
    generalize K.pos d.fs n = ps at KF
    clear hx hg HOK
    go_enter Tryz.func75, Tryz.ntmps75
    go_wp2_with (first | (go_at_call 48; refine KF.out.mono ?_; rintro e w1 ⟨rfl, n1, rfl⟩))
    go_end0
    exact ⟨⟨_, rfl⟩, Rt.refl HK.out (Fr.drewN _ _), Fr.drewN _ _⟩
  | some f =>
    rw [hg] at KF
    simp only [Option.isSome_some] at KF
    have efs : (l.take (K.pos d.fs n) ++ l.drop (K.pos d.fs n + 1)).map RM.kf = K.del n d.fs := by rw [map_kf_drop hx.rm.fs, K.del_at hx.ok.up hg]
    have hlt := (hx.rm.file hx.ok.up hg).1
    have hfiles := hx.ok.files
    rw [← hx.rm.len] at hfiles
    obtain ⟨ps, hps⟩ : ∃ ps, K.pos d.fs n = ps := ⟨_, rfl⟩
    rw [hps] at KF efs hlt
    have HE := hid efs
    have c1 := hx.rm.c.2.1
    have z1 := frozen_of_row (j := 1) hx.rm.at_
    obtain ⟨ln, hln⟩ : ∃ ln, l.length = ln := ⟨_, rfl⟩
    have HLN := hid hln
    have hrb : Rb 0 w fa fc l := hx.rm.row
    have hfc := hrb.le
    rw [hln] at c1 hlt hfiles hfc
    have HX := hid hx
    have cu1 := fun W => run_cutF_hi W fa ln fc ps (by omega)
    have cu2 := fun W => run_cutF_lo W fa ln fc (ps + 1) (by omega) ((ps : Int) + 1) (by omega)
    have HS1 := hid (fun (W : World) (hf : Fr (fun _ => False) w W) => ((Rw.fs hx.rm.row).take ps (by rw [hln]; omega)).kept hf)
    have HS2 := hid (fun (W : World) (hf : Fr (fun _ => False) w W) => ((Rw.fs hx.rm.row).drop hrb.le (ps + 1) (by rw [hln]; omega) hrb.spot).kept hf)
    rw [hln] at HS2
    clear hx hg efs hps hln hrb
    go_enter Tryz.func75, Tryz.ntmps75
    go_wp2_with (first
      | (go_at_call 48; refine KF.out.mono ?_; rintro e w1 ⟨rfl, n1, hw1⟩; have f1 : Fr (fun _ => False) w w1 := hw1 ▸ Fr.drewN _ _; have F1 := hid f1; replace c1 := cell_fr f1 (fun h => h) c1; have hz1 := f1.size; clear hw1 f1)
      | (at_builtin; refine wpList_append_f _ rfl (.const (.slice none 0 0)) (.tmp 19) rfl w.heap.size none 0 0 [] rfl rfl (Rb.nil _ _) fa ps fc (l.take ps) rfl (HS1.out _ F1.out) (by omega) hz1 ?_; intro oa oc w2 hr2 hg2; have f2 : Fr (fun _ => False) w1 w2 := (Fr.of_grown hg2).mono (fun i _ e => by simp [blk] at e); have F2 := hid (F1.out.trans f2 (fun _ _ h => h)); have HR2 : Hid (Rb w.heap.size w2 oa oc (l.take ps)) := hid (by simpa using hr2); replace c1 := cell_fr f2 (fun h => h) c1; have hz2 : w.heap.size ≤ w2.heap.size := F2.out.size; clear hr2 hg2 f2)
      | (at_builtin; refine wpList_append_f _ rfl (.tmp 22) (.tmp 29) rfl w.heap.size oa ps oc (l.take ps) rfl (by rw [List.length_take, HLN.out]; omega) HR2.out (cutF fa fc (ps + 1)) (ln - (ps + 1)) (fc - (ps + 1)) (l.drop (ps + 1)) rfl (HS2.out _ F2.out) (by omega) hz2 ?_; intro ra rc w3 hr3 hg3; have f3 : Fr (fun _ => False) w w3 := F2.out.trans (Fr.of_grown hg3) (fun i hi e => by have := (HR2.out.bk i e).1; omega); have F3 := hid f3; have HR3 := hid hr3; have c3 : w3.cell? ⟨p, 1, none⟩ = some (.slice fa ln fc) := cell_of (f3.cells HX.out.rm.at_ (fun h => h)) (by simp [HLN.out]); have z3 := frozen_of_row (j := 1) (f3.cells HX.out.rm.at_ (fun h => h)); clear hr3 hg3 f3))
    go_end0
    have hlen : (l.take ps ++ l.drop (ps + 1)).length = ps + (ln - (ps + 1)) := by rw [List.length_append, List.length_take, List.length_drop, HLN.out]; omega
    have hok := HOK.out
    rw [← HE.out] at hok ⊢
    have hnr := HX.out.newRow F3.out HR3.out (Nat.le_refl _) (fun m hm => .inr ⟨m, by rcases List.mem_append.1 hm with h | h; exact List.mem_of_mem_take h; exact List.mem_of_mem_drop h, rfl, rfl, rfl, rfl⟩) hok
    rw [hlen] at hnr
    exact ⟨⟨_, rfl⟩, ⟨hnr.1.rk, hnr.2⟩, (F3.out.mono (T := fun k => k = p) (fun _ _ h => h.elim)).trans (Fr.setCell (p := ⟨p, 1, none⟩) (S := fun k => k = p) (Fr.refl _ _) (fun _ => rfl) _) (fun _ _ h => h)⟩

end Go.Proofs.YtogdjhhabcejgaaGreat
