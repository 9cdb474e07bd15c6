/-
  A writer whose header is laid back: what was put stands in memory as it did; isMade at a writer that a call made.
-/
import Derived.Test.YtfkddpcadgidgaaDoorQPutNo
namespace Go.Proofs.YtfkddpcadgidgaaDoor
open Go.RowKit
set_option linter.unusedVariables false

theorem Ow.back {base : Nat} {w : World} {a : Option Addr} {c : Nat} {bs x : List UInt8} (h : Ow base w a c (bs ++ x)) : Ow base w a c bs := by
  rcases h with ⟨h1, h2, h3⟩ | ⟨g, cur, ty, ha, hb, hg, hl, hc, hm, ht⟩
  · exact .inl ⟨h1, h2, (List.append_eq_nil_iff.1 h3).1⟩
  · refine .inr ⟨g, cur, ty, ha, hb, hg, by simp at hl; omega, hc, hm, ?_⟩
    have h1 : (cur.toList.take (bs ++ x).length).take bs.length = ((bs ++ x).map B).take bs.length := by rw [ht]
    rw [List.take_take, List.length_append, Nat.min_eq_left (by omega), List.map_append, List.take_left' (by simp)] at h1
    exact h1
/-- behind an append the old row stands as it did -/
theorem Wr.old {base : Nat} {w : World} {p : Nat} {a : Option Addr} {c : Nat} {bs : List UInt8} (h : Wr base w p a c bs) {w3 : World} {a3 : Option Addr} {c3 n : Nat} {add : List UInt8} (how : Ow base w3 a3 c3 (bs ++ add))
    (hat : (a3 = a ∧ c3 = c ∧ n ≤ c) ∨ (a3 = some ⟨w.heap.size, 0, none⟩ ∧ c < n ∧ w.grownBy w3 none)) (v : Value) : Ow base (w3.setCell ⟨p, 1, none⟩ v) a c bs := by
  have f5 : Fr (fun k => k = p) w3 (w3.setCell ⟨p, 1, none⟩ v) := Fr.setCell (p := ⟨p, 1, none⟩) (S := fun k => k = p) (Fr.refl _ _) (fun _ => rfl) _
  have h3 : Ow base w3 a c bs := by
    rcases hat with ⟨rfl, rfl, _⟩ | ⟨_, _, hg⟩
    · exact how.back
    · exact h.row.kept (Fr.of_grown hg) (fun k hk e => by cases e)
  exact h3.kept f5 (fun k hk e => h.ne (e ▸ hk))

set_option maxHeartbeats 800000 in
theorem put_core2 (base : Nat) (w : World) (p : Nat) (a : Option Addr) (c : Nat) (bs : List UInt8) (h : Wr base w p a c bs) (n : Int) (h1 : -9223372036854775808 ≤ n) (h2 : n ≤ 9223372036854775807)
    (ba : Option Addr) (bm bc : Nat) (bh : List UInt8) (hb : Sl w ba bm bh) (hne : 0 < bm → ∀ k, blk ba = some k → blk a ≠ some k) (hbase : base ≤ w.heap.size) (hbm : bm ≤ 200000000000000)
    (en : List UInt8) (el bl : Nat) (HEN : Hid (M.enc (M.fd n) = en)) (HEL : Hid (en.length = el)) (HBL : Hid (bs.length = bl)) (hbs : bl ≤ 1048576) :
    Calls Tryd.prog 33 #[.pointer (some ⟨p, 0, none⟩), .int .i64 n, .slice ba bm bc] w fun e w' =>
      ∃ (er : Int) (a' : Option Addr) (c' : Nat) (bs' : List UInt8), e = .returned (.int .i64 er) ∧ (er = 0 ∨ er = 3) ∧ Wr base w' p a' c' bs' ∧ Ow base w' a c bs ∧ Fr (fun k => k = p ∨ blk a = some k) w w' := by
  have c0 := h.c0
  have hp := lt_of_row h.at_
  go_enter Tryd.func33, Tryd.ntmps33
  go_wp2_with (first | (go_at_call 34; refine (wIsMade_any p _ c0).mono ?_; rintro e w' ⟨rfl, rfl⟩))
  have how0 : Ow w.heap.size (w.alloc (.cells #[.int .u8 0, .int .u8 0, .int .u8 0, .int .u8 0, .int .u8 0, .int .u8 0, .int .u8 0, .int .u8 0, .int .u8 0, .int .u8 0] 114)) (some ⟨w.heap.size, 0, none⟩) 10 [] :=
    .inr ⟨_, _, _, rfl, Nat.le_refl _, Go.heap_alloc_new w _, by simp, by simp, by simp [maxLen], by simp⟩
  refine (appendInt_any w.heap.size _ 0 10 [] n _ rfl how0 h1 h2 (by simp) (by omega)).mono ?_
  clear how0
  rintro e w2 ⟨a2, c2, rfl, hg2⟩
  have hel : el ≤ 10 := by rw [← HEL.out, ← HEN.out]; exact M.enc_ten _ (M.fd_lt n h1 h2)
  rw [HEN.out] at hg2 ⊢
  rw [HEL.out, Nat.zero_add]
  have f2 : Fr (fun _ => False) w w2 := (Fr.alloc (Fr.refl (fun _ => False) w) _).trans hg2.2.1 (fun i hi e => by simp [blk] at e; omega)
  have hs2 : Sl w2 a2 el en := by have := hg2.1.sl; simpa [HEL.out] using this
  have hr2 : ∀ k, blk a2 = some k → w.heap.size ≤ k := fun k hk => (hg2.1.lt k hk).1
  have h2' : Wr base w2 p a c bs := h.kept f2 (fun h => h) (fun _ _ h => h)
  have hb2 : Sl w2 ba bm bh := hb.kept f2 (fun _ _ _ h => h)
  have c21 := h2'.c1
  have f21 := h2'.f1
  rw [HBL.out] at c21
  clear hg2
  have HW : Hid (Wr base w2 p a c bs) := h2'
  clear h2'
  have hsz := f2.size
  by_cases hlong : 1048576 < bl + el + bm
  · go_wp2
    go_ret
    exact ⟨3, a, c, bs, rfl, .inr rfl, HW.out, HW.out.row, f2.mono (fun _ _ h => h.elim)⟩
  · have hap : 0 < bm → ∀ k, blk ba = some k → ¬ (k = p ∨ blk a = some k) := fun hz k hk e => by
      rcases e with rfl | e
      · exact (Sl.apart HW.out.at_ (two_apart _ _ _ _) hb2 hz) hk
      · exact hne hz k hk e
    clear hne
    go_wp2_with (first
      | (at_builtin; refine wpList_append_b _ rfl (.tmp 31) (.tmp 32) rfl base a bl c bs rfl HBL.out HW.out.row a2 el c2 en rfl hs2 (by omega) (by omega) ?_; intro a3 c3 w3 how3 hgb3 hat3; obtain ⟨k1, k2, k3, k4, k5⟩ := HW.out.store (n3 := bl + el) how3 hgb3 hat3 (by rw [List.length_append, HBL.out, HEL.out]); have O3 := hid (HW.out.old how3 hat3 (.slice a3 (bl + el) c3)); have HT3 := hid hat3; rw [HBL.out] at k1; clear how3 hgb3 hat3; have HW4 := hid k3; clear k3; have hb4 := hb2.kept k4 hap; have hsz4 := k4.size; rw [setCell_size] at hsz4)
      | (at_builtin; refine wpList_append_b _ rfl (.tmp 40) (.tmp 41) rfl base a3 (bl + el) c3 (bs ++ en) rfl (by rw [List.length_append, HBL.out, HEL.out]) HW4.out.row ba bm bc bh rfl hb4 (by omega) (by rw [setCell_size]; omega) ?_; intro a5 c5 w5 how5 hgb5 hat5; obtain ⟨q1, q2, q3, q4, q5⟩ := HW4.out.store (n3 := bl + el + bm) how5 hgb5 hat5 (by rw [List.length_append, List.length_append, HBL.out, HEL.out, hb.1]); have O5 := hid (HW4.out.old how5 hat5 (.slice a5 (bl + el + bm) c5)); clear how5 hgb5 hat5; rw [List.length_append, HBL.out, HEL.out] at q1; have HW6 := hid q3; clear q3))
    go_ret
    refine ⟨0, a5, c5, _, rfl, .inl rfl, HW6.out, ?_, ?_⟩
    · rcases HT3.out with ⟨rfl, rfl, _⟩ | ⟨rfl, _⟩
      · exact O5.out.back
      · refine O3.out.kept q4 (fun k hk e => ?_)
        rcases e with rfl | e
        · exact HW.out.ne hk
        · simp [blk] at e
          have := (HW.out.row.lt k hk).2
          omega
    · refine (f2.mono (fun _ _ h => h.elim)).trans (k4.trans q4 (fun i hi e => ?_)) (fun i hi e => e)
      rcases e with rfl | e
      · exact .inl rfl
      · rcases k5 with k5 | k5
        · exact .inr (k5 ▸ e)
        · have := k5 i e; omega

theorem wInt2 (base : Nat) (w : World) (p : Nat) (a : Option Addr) (c : Nat) (bs : List UInt8) (h : Wr base w p a c bs) (n : Int) (h1 : -9223372036854775808 ≤ n) (h2 : n ≤ 9223372036854775807) (hbase : base ≤ w.heap.size) (hbs : bs.length ≤ 1048576) :
    Calls Tryd.prog 82 #[.pointer (some ⟨p, 0, none⟩), .int .i64 n] w fun e w' =>
      ∃ (er : Int) (a' : Option Addr) (c' : Nat) (bs' : List UInt8), e = .returned (.int .i64 er) ∧ (er = 0 ∨ er = 3) ∧ Wr base w' p a' c' bs' ∧ Ow base w' a c bs ∧ Fr (fun k => k = p ∨ blk a = some k) w w' := by
  have K := hid (put_core2 base w p a c bs h n h1 h2 none 0 0 [] (Sl.nil w none) (fun hz => absurd hz (by omega)) hbase (by omega) _ _ _ rfl rfl rfl hbs)
  go_enter Tryd.func82, Tryd.ntmps82
  go_wp2_with fail
  refine K.out.mono ?_
  rintro e w' ⟨er, a', c', bs', rfl, r1, r2, r3, r4⟩
  have HR := hid (And.intro r1 (And.intro r2 (And.intro r3 r4)))
  clear r1 r2 r3 r4
  go_wp2
  go_ret
  exact ⟨er, a', c', bs', rfl, HR.out⟩

/-- the header is laid back -/
theorem Wr.laid {base : Nat} {w2 : World} {p : Nat} {a a' : Option Addr} {c c' : Nat} {bs bs' : List UInt8} (h : Wr base w2 p a' c' bs') (hne : blk a ≠ some p) (ho : Ow base w2 a c bs) (n : Nat) (hn : bs.length = n) :
    Wr base ((w2.setCell ⟨p, 0, none⟩ (.bool true)).setCell ⟨p, 1, none⟩ (.slice a n c)) p a c bs ∧ Fr (fun k => k = p) w2 ((w2.setCell ⟨p, 0, none⟩ (.bool true)).setCell ⟨p, 1, none⟩ (.slice a n c)) := by
  have q1 : (w2.setCell ⟨p, 0, none⟩ (.bool true)).heap[p]? = some (.cells #[.bool true, .slice a' bs'.length c'] 76 (0, 0)) := by rw [setCell_row h.at_]; rfl
  have q2 : ((w2.setCell ⟨p, 0, none⟩ (.bool true)).setCell ⟨p, 1, none⟩ (.slice a n c)).heap[p]? = some (.cells #[.bool true, .slice a bs.length c] 76 (0, 0)) := by rw [setCell_row q1, hn]; rfl
  have f1 : Fr (fun k => k = p) w2 ((w2.setCell ⟨p, 0, none⟩ (.bool true)).setCell ⟨p, 1, none⟩ (.slice a n c)) := Fr.setCell (p := ⟨p, 1, none⟩) (S := fun k => k = p) (Fr.setCell (p := ⟨p, 0, none⟩) (S := fun k => k = p) (Fr.refl _ w2) (fun _ => rfl) _) (fun _ => rfl) _
  exact ⟨⟨q2, ho.kept f1 (fun k hk e => hne (e ▸ hk)), hne, h.own⟩, f1⟩

set_option maxRecDepth 20000 in
set_option maxHeartbeats 3200000 in
theorem isMade_made {base : Nat} {w : World} {p : Nat} {a : Option Addr} {c : Nat} {bs : List UInt8} (h : Wr base w p a c bs) (hbase : base ≤ w.heap.size) (n : Nat) (hn : bs.length = n) (hbs : n ≤ 1048576) :
    Calls Tryd.prog 59 #[.pointer (some ⟨p, 0, none⟩)] w fun e w' => e = .returned (.bool true) ∧ Wr base w' p a c bs ∧ Fr (fun k => k = p ∨ blk a = some k) w w' := by
  have c0 := h.c0
  have c1 := h.c1
  rw [hn] at c1
  have HP := hid h
  have HN := hid hn
  clear hn
  go_enter Tryd.func59, Tryd.ntmps59
  go_wp2_with fail
  have fW : Fr (fun _ => False) w (w.alloc (.cells #[.bool true, .slice a n c] 76)) := Fr.alloc (Fr.refl _ _) _
  have bW : (w.alloc (.cells #[.bool true, .slice a n c] 76)).heap[w.heap.size]? = some (.cells #[.bool true, .slice a n c] 76 (0, 0)) := Go.heap_alloc_new w _
  have nbp : w.heap.size ≠ p := by have := lt_of_row h.at_; omega
  have nba : blk a ≠ some w.heap.size := fun e => by have := (h.row.lt _ e).2; omega
  obtain ⟨nb, hnb⟩ : ∃ nb, w.heap.size = nb := ⟨_, rfl⟩
  obtain ⟨W, hW⟩ : ∃ W, w.alloc (.cells #[.bool true, .slice a n c] 76) = W := ⟨_, rfl⟩
  rw [hnb] at nbp nba
  rw [hW] at fW bW
  rw [hnb] at bW
  rw [hW]
  have hsz := fW.size
  have pW : Wr base W p a c bs := h.kept fW (fun h => h) (fun _ _ h => h)
  have K := hid (wInt2 base W p a c bs pW 0 (by omega) (by omega) (by omega) (by rw [HN.out]; exact hbs))
  have FW := hid fW
  clear c0 c1 hW fW pW h
  first | rw [hnb] | skip
  clear hnb hsz
  refine K.out.mono ?_
  rintro e w2 ⟨er, a', c', bs', rfl, her, hw2, ho2, hf2⟩
  have bW2 := hf2.cells bW (fun e => e.elim nbp nba)
  have d0 := cell_at (j := 0) bW2 rfl
  have d1 := cell_at (j := 1) bW2 rfl
  have e0 := cell_at (j := 0) hw2.at_ rfl
  have e1 := cell_at (j := 1) hw2.at_ rfl
  have z0 := frozen_of_row (j := 0) hw2.at_
  have z1 := frozen_of_row (j := 1) hw2.at_
  have R := hid (hw2.laid HP.out.ne ho2 n HN.out)
  have F2 := hid hf2
  clear hf2 hw2 ho2 bW bW2 K
  rcases her with rfl | rfl
  · go_wp2
    go_ret
    exact ⟨rfl, R.out.1, ((FW.out.mono (T := fun k => k = p ∨ blk a = some k) (fun _ _ h => h.elim)).trans F2.out (fun _ _ h => h)).trans R.out.2 (fun _ _ e => .inl e)⟩
  · go_wp2
    go_ret
    exact ⟨rfl, R.out.1, ((FW.out.mono (T := fun k => k = p ∨ blk a = some k) (fun _ _ h => h.elim)).trans F2.out (fun _ _ h => h)).trans R.out.2 (fun _ _ e => .inl e)⟩
end Go.Proofs.YtfkddpcadgidgaaDoor
