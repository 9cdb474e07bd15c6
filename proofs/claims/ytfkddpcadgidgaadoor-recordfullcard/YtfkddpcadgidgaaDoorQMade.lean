/-
  PutOp at a writer that a call made: all of the operation, or nothing and an error.
-/
import Derived.Test.YtfkddpcadgidgaaDoorQOld
import Derived.Test.YtfkddpcadgidgaaDoorQFw4
namespace Go.Proofs.YtfkddpcadgidgaaDoor
open Go.RowKit
set_option linter.unusedVariables false

/-- the header of a writer -/
def Hd (w : World) (p n : Nat) : Prop := ∃ a c, w.heap[p]? = some (.cells #[.bool true, .slice a n c] 76 (0, 0))
theorem Hd.kept {S : Nat → Prop} {w w' : World} {p n : Nat} (h : Hd w p n) (hf : Fr S w w') (hp : ¬ S p) : Hd w' p n := by
  obtain ⟨a, c, h⟩ := h
  exact ⟨a, c, hf.cells h hp⟩
theorem Wr.hd {base : Nat} {w : World} {p : Nat} {a : Option Addr} {c : Nat} {bs : List UInt8} (h : Wr base w p a c bs) : Hd w p bs.length := ⟨a, c, h.at_⟩
theorem hdLen (w : World) (p n : Nat) (h : Hd w p n) :
    Calls Tryd.prog 15 #[.pointer (some ⟨p, 0, none⟩)] w fun e w' => e = .returned (.int .i64 (n : Nat)) ∧ w = w' := by
  obtain ⟨a, c, h⟩ := h
  have c0 := cell_at (j := 0) h rfl
  have c1 := cell_at (j := 1) h rfl
  go_enter Tryd.func15, Tryd.ntmps15
  go_wp2_with (first | (go_at_call 34; refine (wIsMade_any p _ c0).mono ?_; rintro e w' ⟨rfl, rfl⟩))
  go_ret
  exact ⟨rfl, rfl⟩
/-- what a whole put does to a made writer -/
def Pw (w : World) (p : Nat) (a : Option Addr) (bs add : List UInt8) (e : Ending) (w' : World) : Prop :=
  Fr (fun k => k = p ∨ blk a = some k) w w' ∧
  ((bs.length + add.length ≤ 1048576 ∧ e = .returned (.int .i64 0) ∧ ∃ a' c', Wr 0 w' p a' c' (bs ++ add) ∧ ∀ k, blk a' = some k → blk a = some k ∨ w.heap.size ≤ k) ∨
   (1048576 < bs.length + add.length ∧ e = .returned (.int .i64 3) ∧ Hd w' p bs.length))

set_option maxRecDepth 20000 in
set_option maxHeartbeats 3200000 in
theorem putOp1 {S : Nat → Prop} {w : World} {g : Nat} {T : TypeId} {p : Nat} {st : Int × List UInt8} (h : Fq S w g T p st) (o : M.Op) (hi : ∀ x ∈ [o.t, o.s, o.k, o.n, o.p], -9223372036854775808 ≤ x ∧ x ≤ 9223372036854775807) (hs : ∀ x ∈ [o.a, o.b, o.c], x.size ≤ 200000000000000)
    (ob : Nat) (hob : w.heap[ob]? = some (.cells o.cs 25 (0, 0))) :
    Calls Tryd.prog 37 #[.pointer (some ⟨g, 0, none⟩), .pointer (some ⟨ob, 0, none⟩)] w fun e w' => (∃ v, e = .returned v) ∧ Ft S w g T p (M.pop st o) w' := by
  have ld : (Instr.loadAt 25 (.pointer (some ⟨ob, 0, none⟩))).run Tryd.prog w = .ok (.agg o.cs) w := run_loadAt_mid w ob 0 _ (o.cs).toList _ (rangeAt_of hob 0 (o.cs).toList rfl) Tryd.underlying25 rfl (by kernel_rfl)
  have KO := hid (fwOp h o hi hs)
  obtain ⟨va, hva⟩ : ∃ v, Value.agg (o.cs) = v := ⟨_, rfl⟩
  rw [hva] at ld KO
  have LD := hid ld
  clear h hi hs hob ld hva
  go_enter Tryd.func37, Tryd.ntmps37
  repeat (first
    | (refine wpList_load_v LD.out (by exact ⟨_, rfl, rfl⟩) (by kernel_rfl) ?_)
    | (go_at_call 38; refine KO.out.mono ?_; rintro e w1 ⟨⟨v, rfl⟩, ht⟩; have H1 := hid ht; clear ht; dsimp only)
    | go_values | go_skip | go_guarded | go_step | go_upon | go_back)
  go_end0
  exact ⟨⟨_, rfl⟩, H1.out⟩

set_option maxRecDepth 20000 in
set_option maxHeartbeats 3200000 in
theorem putWhole_bad {w : World} {p : Nat} {a : Option Addr} {c : Nat} {bs : List UInt8} (h : Wr 0 w p a c bs) (hbs : bs.length ≤ 1048576) (u : Value) :
    Calls Tryd.prog 35 #[.pointer (some ⟨p, 0, none⟩), .int .i64 40, u] w fun e w' => e = .returned (.int .i64 40) ∧ Wr 0 w' p a c bs ∧ Fr (fun k => k = p ∨ blk a = some k) w w' := by
  have K := hid (isMade_made h (Nat.zero_le _) _ rfl hbs)
  clear h
  go_enter Tryd.func35, Tryd.ntmps35
  go_wp2_with fail
  refine K.out.mono ?_
  rintro e w1 ⟨rfl, h1, f1⟩
  have H1 := hid h1
  have F1 := hid f1
  clear h1 f1
  go_wp2
  go_ret
  exact ⟨rfl, H1.out, F1.out⟩

set_option maxRecDepth 20000 in
set_option maxHeartbeats 3200000 in
theorem putWhole_op {w : World} {p : Nat} {a : Option Addr} {c : Nat} {bs : List UInt8} (h : Wr 0 w p a c bs) (n : Nat) (hn : bs.length = n) (hbs : n ≤ 1048576) (o : M.Op) (hi : ∀ x ∈ [o.t, o.s, o.k, o.n, o.p], -9223372036854775808 ≤ x ∧ x ≤ 9223372036854775807) (hs : ∀ x ∈ [o.a, o.b, o.c], x.size ≤ 200000000000000)
    (ob : Nat) (hob : w.heap[ob]? = some (.cells o.cs 25 (0, 0))) (hop : ob ≠ p) (hoa : blk a ≠ some ob) :
    Calls Tryd.prog 35 #[.pointer (some ⟨p, 0, none⟩), .int .i64 0, .func (.func 37) #[] #[.pointer (some ⟨ob, 0, none⟩)]] w fun e w' => Pw w p a bs (M.opl o).flatten e w' := by
  have K := hid (isMade_made h (Nat.zero_le _) _ hn hbs)
  have HOB := hid hob
  have HAP := hid (And.intro hop hoa)
  have HN := hid hn
  have HIS := hid (And.intro hi hs)
  have HWp := hid (lt_of_row h.at_)
  have HWr := hid (fun k hk => (h.row.lt k hk).2)
  clear h hob hop hoa hn hi hs
  go_enter Tryd.func35, Tryd.ntmps35
  go_wp2_with fail
  refine K.out.mono ?_
  rintro e w1 ⟨rfl, h1, f1⟩
  have c0 := h1.c0
  have c1 := h1.c1
  rw [HN.out] at c1
  have H1 := hid h1
  have F1 := hid f1
  clear h1 f1 K
  obtain ⟨W0, hW0⟩ : ∃ W0, w1.alloc (.cells #[.bool true, .slice a n c] 76) = W0 := ⟨_, rfl⟩
  obtain ⟨nb, hnb⟩ : ∃ nb, w1.heap.size = nb := ⟨_, rfl⟩
  obtain ⟨g, hg⟩ : ∃ g, nb + 1 = g := ⟨_, rfl⟩
  obtain ⟨W, hW⟩ : ∃ W, W0.alloc (.cells #[.pointer (some ⟨p, 0, none⟩), .int .i64 0] 88) = W := ⟨_, rfl⟩
  have hs0 : W0.heap.size = g := by rw [← hW0, World.size_alloc, hnb, hg]
  have fW0 : Fr (fun _ => False) w1 W0 := by rw [← hW0]; exact Fr.alloc (Fr.refl _ _) _
  have fW1 : Fr (fun _ => False) W0 W := by rw [← hW]; exact Fr.alloc (Fr.refl _ _) _
  have fW := fW0.trans fW1 (fun _ _ h => h)
  have bn : W.heap[nb]? = some (.cells #[.bool true, .slice a n c] 76 (0, 0)) := by
    refine fW1.cells ?_ (fun h => h)
    rw [← hW0, ← hnb]
    exact Go.heap_alloc_new w1 _
  have bg : W.heap[g]? = some (.cells #[.pointer (some ⟨p, 0, none⟩), .int .i64 0] 88 (0, 0)) := by rw [← hW, ← hs0]; exact Go.heap_alloc_new W0 _
  have pW : Wr 0 W p a c bs := H1.out.kept fW (fun h => h) (fun _ _ h => h)
  have hp1 := lt_of_row H1.out.at_
  have hr1 := fun k hk => (H1.out.row.lt k hk).2
  have fq : Fq (fun k => k = g ∨ k = p ∨ blk a = some k) W g 88 p (0, bs) :=
    ⟨bg, ⟨a, c, pW, fun k hk => ⟨.inr (.inr hk), fun e => by have := hr1 k hk; omega⟩⟩, by omega, .inl rfl, .inr (.inl rfl),
      fun k hk => by
        rcases hk with rfl | rfl | hk
        · exact lt_of_row bg
        · exact lt_of_row pW.at_
        · exact (pW.row.lt k hk).2, by simp only; rw [HN.out]; exact hbs⟩
  have hob1 : W.heap[ob]? = some (.cells o.cs 25 (0, 0)) := fW.cells (F1.out.cells HOB.out (fun e => e.elim HAP.out.1 (fun e => HAP.out.2 e))) (fun h => h)
  have KP := hid (putOp1 fq o HIS.out.1 HIS.out.2 ob hob1)
  have hnS : ¬ (nb = g ∨ nb = p ∨ blk a = some nb) := fun e => by
    rcases e with e | e | e
    · omega
    · omega
    · have := hr1 nb e; omega
  have dn0 := cell_at (j := 0) bn rfl
  have dn1 := cell_at (j := 1) bn rfl
  have dg0 := cell_at (j := 0) bg rfl
  have dg1 := cell_at (j := 1) bg rfl
  have BN := hid bn
  have FW := hid fW
  have HNS := hid hnS
  have HW0 := hid hW0
  have HNB := hid hnb
  have HG := hid hg
  have HW := hid hW
  have HS0 := hid hs0
  have HP1 := hid hp1
  clear hs0 fW0 fW1 fW bn bg pW hp1 hr1 fq hob1 hnS hW0 hnb hg hW
  go_upto_region 7 with fail
  rw [HNB.out, HW0.out, HG.out, HW.out]
  clear HW0 HW c0 c1
  go_wp2_with fail
  refine KP.out.mono ?_
  rintro e w3 ⟨⟨v, rfl⟩, ht⟩
  rw [M.pop_pnl] at ht
  have q := ht.1
  have bn3 := ht.2.cells BN.out HNS.out
  have FS := hid ht.2
  clear ht KP dn0 dn1 dg0 dg1
  obtain ⟨a3, c3, hw3, hr3⟩ := q.wr
  by_cases hlen : bs.length + (M.opl o).flatten.length ≤ 1048576
  · have hok := M.pnl_ok bs (M.opl o) hlen
    have hat := q.at_
    rw [hok] at hat hw3
    simp only at hat hw3
    have e1 := cell_at (j := 1) hat rfl
    have HW3 := hid hw3
    have HR3 := hid hr3
    clear q hat hw3 hr3 hok bn3
    go_wp2
    go_ret
    refine ⟨?_, .inl ⟨hlen, rfl, a3, c3, HW3.out, fun k hk => ?_⟩⟩
    · refine F1.out.trans ((FW.out.mono (T := fun k => k = g ∨ k = p ∨ blk a = some k) (fun _ _ h => h.elim)).trans FS.out (fun _ _ h => h)) (fun i hi e => ?_)
      rcases e with e | e
      · have := F1.out.size; have := HNB.out; have := HG.out; omega
      · exact e
    · rcases (HR3.out k hk).1.1 with e | e
      · rcases e with e | e | e
        · exact absurd e (HR3.out k hk).2
        · exact absurd hk (e ▸ HW3.out.ne)
        · exact .inl e
      · right
        have := F1.out.size; have := FW.out.size; omega
  · have hlo : 1048576 < bs.length + (M.opl o).flatten.length := by omega
    have hbl : bs.length ≤ 1048576 := by rw [HN.out]; exact hbs
    have hst := M.pnl_long bs (M.opl o) hbl hlo
    obtain ⟨s3, hs3⟩ : ∃ s3, M.pnl (0, bs) (M.opl o) = s3 := ⟨_, rfl⟩
    rw [hs3] at q hst hw3
    obtain ⟨er, bs3⟩ := s3
    simp only at hst
    subst hst
    have hat := q.at_
    simp only at hat hw3
    have e1 := cell_at (j := 1) hat rfl
    have hgp := q.gp
    have d0 := cell_at (j := 0) bn3 rfl
    have d1 := cell_at (j := 1) bn3 rfl
    have p0 := cell_at (j := 0) hw3.at_ rfl
    have p1 := cell_at (j := 1) hw3.at_ rfl
    have z0 := frozen_of_row (j := 0) hw3.at_
    have z1 := frozen_of_row (j := 1) hw3.at_
    have HW3 := hid hw3
    clear q hat hw3 hr3 bn3 hs3
    go_wp2
    go_ret
    have q1 : (w3.setCell ⟨p, 0, none⟩ (.bool true)).heap[p]? = some (.cells #[.bool true, .slice a3 bs3.length c3] 76 (0, 0)) := by rw [setCell_row HW3.out.at_]; rfl
    have q2 : ((w3.setCell ⟨p, 0, none⟩ (.bool true)).setCell ⟨p, 1, none⟩ (.slice a n c)).heap[p]? = some (.cells #[.bool true, .slice a bs.length c] 76 (0, 0)) := by rw [setCell_row q1, HN.out]; rfl
    have f1 : Fr (fun k => k = p) w3 ((w3.setCell ⟨p, 0, none⟩ (.bool true)).setCell ⟨p, 1, none⟩ (.slice a n c)) := Fr.setCell (p := ⟨p, 1, none⟩) (S := fun k => k = p) (Fr.setCell (p := ⟨p, 0, none⟩) (S := fun k => k = p) (Fr.refl _ w3) (fun _ => rfl) _) (fun _ => rfl) _
    refine ⟨?_, .inr ⟨hlo, rfl, a, c, q2⟩⟩
    refine F1.out.trans ((FW.out.mono (T := fun k => k = g ∨ k = p ∨ blk a = some k) (fun _ _ h => h.elim)).trans (FS.out.trans f1 (fun _ _ e => .inr (.inl e))) (fun _ _ h => h)) (fun i hi e => ?_)
    rcases e with e | e
    · have := F1.out.size; have := HNB.out; have := HG.out; omega
    · exact e

theorem mayOp_in {o : M.Op} (h : M.mayOp o = true) : (∀ x ∈ [o.t, o.s, o.k, o.n, o.p], -9223372036854775808 ≤ x ∧ x ≤ 9223372036854775807) ∧ ∀ x ∈ [o.a, o.b, o.c], x.size ≤ 200000000000000 := by
  simp [M.mayOp, M.within, M.texts] at h
  obtain ⟨⟨⟨⟨h1, h2⟩, h3⟩, h4, h5⟩, h6, h7, h8⟩ := h
  constructor
  · intro x hx
    simp at hx
    rcases hx with rfl | rfl | rfl | rfl | rfl <;> omega
  · intro x hx
    simp at hx
    rcases hx with rfl | rfl | rfl <;> omega

set_option maxRecDepth 20000 in
set_option maxHeartbeats 3200000 in
theorem putOp_made {w : World} {p : Nat} {a : Option Addr} {c : Nat} {bs : List UInt8} (h : Wr 0 w p a c bs) (hbs : bs.length ≤ 1048576) (o : M.Op) :
    Calls Tryd.prog 16 #[.pointer (some ⟨p, 0, none⟩), .agg o.cs] w fun e w' =>
      (M.mayOp o = true ∧ Pw w p a bs (M.opl o).flatten e w') ∨ (M.mayOp o = false ∧ e = .returned (.int .i64 40) ∧ Wr 0 w' p a c bs ∧ Fr (fun k => k = p ∨ blk a = some k) w w') := by
  have fW : Fr (fun _ => False) w (w.alloc (.cells o.cs 25)) := Fr.alloc (Fr.refl _ _) _
  have bW : (w.alloc (.cells o.cs 25)).heap[w.heap.size]? = some (.cells o.cs 25 (0, 0)) := Go.heap_alloc_new w _
  obtain ⟨W, hW⟩ : ∃ W, w.alloc (.cells o.cs 25) = W := ⟨_, rfl⟩
  rw [hW] at fW bW
  have ld : (Instr.loadAt 25 (.pointer (some ⟨w.heap.size, 0, none⟩))).run Tryd.prog W = .ok (.agg o.cs) W := run_loadAt_mid W w.heap.size 0 _ (o.cs).toList _ (rangeAt_of bW 0 (o.cs).toList rfl) Tryd.underlying25 rfl (by kernel_rfl)
  have hop : w.heap.size ≠ p := by have := lt_of_row h.at_; omega
  have hoa : blk a ≠ some w.heap.size := fun e => by have := (h.row.lt _ e).2; omega
  have KC := hid (checkOp_any o W)
  have kp : ∀ W2, Fr (fun _ => False) W W2 → Calls Tryd.prog 35 #[.pointer (some ⟨p, 0, none⟩), .int .i64 (if M.mayOp o then 0 else 40), .func (.func 37) #[] #[.pointer (some ⟨w.heap.size, 0, none⟩)]] W2 fun e w' =>
      ∃ er : Int, e = .returned (.int .i64 er) ∧ ((M.mayOp o = true ∧ Pw w p a bs (M.opl o).flatten e w') ∨ (M.mayOp o = false ∧ e = .returned (.int .i64 40) ∧ Wr 0 w' p a c bs ∧ Fr (fun k => k = p ∨ blk a = some k) w w')) := fun W2 hf => by
    have h2 : Wr 0 W2 p a c bs := (h.kept fW (fun h => h) (fun _ _ h => h)).kept hf (fun h => h) (fun _ _ h => h)
    have f02 : Fr (fun k => k = p ∨ blk a = some k) w W2 := (fW.trans hf (fun _ _ h => h)).mono (fun _ _ h => h.elim)
    cases hm : M.mayOp o with
    | true =>
      rw [if_pos rfl]
      refine (putWhole_op h2 _ rfl hbs o (mayOp_in hm).1 (mayOp_in hm).2 _ (hf.cells bW (fun h => h)) hop hoa).mono ?_
      rintro e w' ⟨f1, h1⟩
      have hpw : Pw w p a bs (M.opl o).flatten e w' := ⟨f02.trans f1 (fun _ _ h => h), h1.imp (fun ⟨x1, x2, a', c', x3, x4⟩ => ⟨x1, x2, a', c', x3, fun k hk => (x4 k hk).imp id (fun e => Nat.le_trans f02.size e)⟩) id⟩
      rcases h1 with ⟨_, rfl, _⟩ | ⟨_, rfl, _⟩
      · exact ⟨0, rfl, .inl ⟨rfl, hpw⟩⟩
      · exact ⟨3, rfl, .inl ⟨rfl, hpw⟩⟩
    | false =>
      rw [if_neg (by simp)]
      refine (putWhole_bad h2 hbs _).mono ?_
      rintro e w' ⟨rfl, h1, f1⟩
      exact ⟨40, rfl, .inr ⟨rfl, rfl, h1, f02.trans f1 (fun _ _ h => h)⟩⟩
  have KP := hid kp
  have FW := hid fW
  have HW := hid hW
  obtain ⟨va, hva⟩ : ∃ v, Value.agg (o.cs) = v := ⟨_, rfl⟩
  rw [hva] at ld KC
  have LD := hid ld
  rw [hva]
  have HVA := hid hva
  clear fW bW hW ld hva h kp hop hoa
  rw [← HVA.out]
  go_enter Tryd.func16, Tryd.ntmps16
  go_upto_region 1 with fail
  rw [HW.out, HVA.out]
  repeat (first
    | (refine wpList_load_v LD.out (by exact ⟨_, rfl, rfl⟩) (by kernel_rfl) ?_)
    | (go_at_call 36; refine KC.out.mono ?_; rintro e w1 ⟨rfl, hf1⟩; have F1 := hid hf1; clear hf1; dsimp only)
    | (go_at_call 35; refine (KP.out _ F1.out).mono ?_; rintro e w2 ⟨er, rfl, h2⟩; have H2 := hid h2; clear h2; dsimp only)
    | go_values | go_skip | go_guarded | go_step | go_upon | go_back)
  go_ret
  exact H2.out
end Go.Proofs.YtfkddpcadgidgaaDoor
