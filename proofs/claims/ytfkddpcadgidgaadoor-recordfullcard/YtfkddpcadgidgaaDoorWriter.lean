/-
  The contracts of the writer.
-/
import Derived.Test.YtfkddpcadgidgaaDoorInts
import Derived.Lib.ConvBytes
namespace Go.Proofs.YtfkddpcadgidgaaDoor
open Go.RowKit
set_option linter.unusedVariables false

/-- A WRITER THAT A CALL MADE lies in block p, its row at a, and has bs. -/
structure Wr (base : Nat) (w : World) (p : Nat) (a : Option Addr) (c : Nat) (bs : List UInt8) : Prop where
  at_ : w.heap[p]? = some (.cells #[.bool true, .slice a bs.length c] 76 (0, 0))
  row : Ow base w a c bs
  ne : blk a ≠ some p
  own : base ≤ p

theorem Wr.kept {S : Nat → Prop} {base : Nat} {w w' : World} {p : Nat} {a : Option Addr} {c : Nat} {bs : List UInt8} (h : Wr base w p a c bs) (hf : Fr S w w') (hp : ¬ S p) (hS : ∀ k, blk a = some k → ¬ S k) : Wr base w' p a c bs :=
  ⟨hf.cells h.at_ hp, h.row.kept hf hS, h.ne, h.own⟩
theorem Wr.c0 {base : Nat} {w : World} {p : Nat} {a : Option Addr} {c : Nat} {bs : List UInt8} (h : Wr base w p a c bs) : w.cell? ⟨p, 0, none⟩ = some (.bool true) := by
  rw [cell_of_row w p 0 _ _ _ h.at_]; rfl
theorem Wr.c1 {base : Nat} {w : World} {p : Nat} {a : Option Addr} {c : Nat} {bs : List UInt8} (h : Wr base w p a c bs) : w.cell? ⟨p, 1, none⟩ = some (.slice a bs.length c) := by
  rw [cell_of_row w p 1 _ _ _ h.at_]; rfl
theorem Wr.f1 {base : Nat} {w : World} {p : Nat} {a : Option Addr} {c : Nat} {bs : List UInt8} (h : Wr base w p a c bs) : w.frozen? ⟨p, 1, none⟩ = false := frozen_of_row h.at_
/-- a slice of bytes never lies over the writer's own cells -/
theorem Sl.apart {w : World} {p : Nat} {cs : Array Value} {t : TypeId} {m : Nat × Nat} (hp : w.heap[p]? = some (.cells cs t m)) (hcs : ∀ (j : Nat) (x : UInt8), cs[j]? ≠ some (B x)) {a : Option Addr} {len : Nat} {bs : List UInt8} (h : Sl w a len bs) (hl : 0 < len) : blk a ≠ some p := by
  obtain ⟨b, off, x, rfl, _, hc⟩ := h.at hl
  intro e
  simp [blk] at e
  subst e
  rw [cell_of_row w _ _ _ _ _ hp] at hc
  exact hcs _ _ hc
theorem two_apart (u : Bool) (a : Option Addr) (n c : Nat) : ∀ (j : Nat) (x : UInt8), (#[Value.bool u, .slice a n c] : Array Value)[j]? ≠ some (B x) := by
  intro j x
  match j with
  | 0 => simp
  | 1 => simp
  | j + 2 => simp

/-- the row has grown: it is stored into the writer -/
theorem Wr.store {base : Nat} {w : World} {p : Nat} {a : Option Addr} {c : Nat} {bs : List UInt8} (h : Wr base w p a c bs) {w3 : World} {a3 : Option Addr} {c3 n n3 : Nat} {bs3 : List UInt8} (how : Ow base w3 a3 c3 bs3)
    (hg : w.grownBy w3 (blk a)) (hat : (a3 = a ∧ c3 = c ∧ n ≤ c) ∨ (a3 = some ⟨w.heap.size, 0, none⟩ ∧ c < n ∧ w.grownBy w3 none)) (hl : bs3.length = n3) :
    w3.cell? ⟨p, 1, none⟩ = some (.slice a bs.length c) ∧ w3.frozen? ⟨p, 1, none⟩ = false ∧ Wr base (w3.setCell ⟨p, 1, none⟩ (.slice a3 n3 c3)) p a3 c3 bs3 ∧
    Fr (fun k => k = p ∨ blk a = some k) w (w3.setCell ⟨p, 1, none⟩ (.slice a3 n3 c3)) ∧ (blk a3 = blk a ∨ ∀ k, blk a3 = some k → w.heap.size ≤ k) := by
  have hp := lt_of_row h.at_
  have hrow := (Fr.of_grown hg).cells h.at_ h.ne
  have hne : blk a3 ≠ some p := by
    rcases hat with ⟨rfl, _⟩ | ⟨rfl, _⟩
    · exact h.ne
    · simp [blk]; omega
  have fr : Fr (fun k => k = p ∨ blk a = some k) w (w3.setCell ⟨p, 1, none⟩ (.slice a3 n3 c3)) :=
    Fr.setCell ((Fr.of_grown hg).mono (fun i _ e => .inr e)) (fun _ => .inl rfl) _
  refine ⟨by rw [cell_of_row w3 p 1 _ _ _ hrow]; rfl, frozen_of_row hrow, ⟨?_, ?_, hne, h.own⟩, fr, ?_⟩
  · rw [setCell_row hrow, hl]; rfl
  · exact how.kept (Fr.setCell (S := fun k => k = p) (Fr.refl _ _) (fun _ => rfl) _) (fun k hk e => hne (e ▸ hk))
  · rcases hat with ⟨rfl, _⟩ | ⟨rfl, _⟩
    · exact .inl rfl
    · right
      intro k hk
      simp [blk] at hk
      omega

theorem newWriter_any (w : World) :
    Calls Tryd.prog 13 #[] w fun e w' => e = .returned (.pointer (some ⟨w.heap.size, 0, none⟩)) ∧ Wr w.heap.size w' w.heap.size none 0 [] ∧ Fr (fun _ => False) w w' := by
  go_enter Tryd.func13, Tryd.ntmps13
  go_wp2
  go_ret
  refine ⟨rfl, ⟨Go.heap_alloc_new w _, Ow.nil _ _, by simp [blk], Nat.le_refl _⟩, Fr.alloc (Fr.refl _ _) _⟩

theorem wIsMade_any (p : Nat) (w : World) (h : w.cell? ⟨p, 0, none⟩ = some (.bool true)) :
    Calls Tryd.prog 34 #[.pointer (some ⟨p, 0, none⟩)] w fun e w' => e = .returned (.bool true) ∧ w = w' := by
  go_enter Tryd.func34, Tryd.ntmps34
  go_wp2
  go_ret
  exact ⟨rfl, rfl⟩

set_option maxHeartbeats 800000 in
theorem put_core (base : Nat) (w : World) (p : Nat) (a : Option Addr) (c : Nat) (bs : List UInt8) (h : Wr base w p a c bs) (n : Int) (h1 : -9223372036854775808 ≤ n) (h2 : n ≤ 9223372036854775807)
    (ba : Option Addr) (bm bc : Nat) (bh : List UInt8) (hb : Sl w ba bm bh) (hne : 0 < bm → ∀ k, blk ba = some k → blk a ≠ some k) (hbase : base ≤ w.heap.size) (hbm : bm ≤ 200000000000000)
    (en : List UInt8) (el bl : Nat) (HEN : Hid (M.enc (M.fd n) = en)) (HEL : Hid (en.length = el)) (HBL : Hid (bs.length = bl)) (hbs : bl ≤ 1048576) :
    Calls Tryd.prog 33 #[.pointer (some ⟨p, 0, none⟩), .int .i64 n, .slice ba bm bc] w fun e w' =>
      (1048576 < bl + el + bm ∧ e = .returned (.int .i64 3) ∧ Fr (fun _ => False) w w' ∧ Wr base w' p a c bs) ∨
      (bl + el + bm ≤ 1048576 ∧ e = .returned (.int .i64 0) ∧ ∃ a' c', Wr base w' p a' c' (bs ++ en ++ bh) ∧ Fr (fun k => k = p ∨ blk a = some k) w w' ∧ (blk a' = blk a ∨ ∀ k, blk a' = some k → w.heap.size ≤ k)) := by
  have c0 := h.c0
  have hp := lt_of_row h.at_
  go_enter Tryd.func33, Tryd.ntmps33
  go_wp2_with (first | (go_at_call 34; refine (wIsMade_any p _ c0).mono ?_; rintro e w' ⟨rfl, rfl⟩))
  have how0 : Ow w.heap.size (w.alloc (.cells #[.int .u8 0, .int .u8 0, .int .u8 0, .int .u8 0, .int .u8 0, .int .u8 0, .int .u8 0, .int .u8 0, .int .u8 0, .int .u8 0] 114)) (some ⟨w.heap.size, 0, none⟩) 10 [] :=
    .inr ⟨_, _, _, rfl, Nat.le_refl _, Go.heap_alloc_new w _, by simp, by simp, by simp [maxLen], by simp⟩
  refine (appendInt_any w.heap.size _ 0 10 [] n _ rfl how0 h1 h2 (by simp) (by omega)).mono ?_
  clear how0
  rintro e w2 ⟨a2, c2, rfl, hg2⟩
  have hel : el ≤ 10 := by rw [← HEL.out, ← HEN.out]; exact M.enc_ten _ (M.fd_lt n h1 h2)
  rw [HEN.out] at hg2 ⊢
  rw [HEL.out, Nat.zero_add]
  have f2 : Fr (fun _ => False) w w2 := (Fr.alloc (Fr.refl (fun _ => False) w) _).trans hg2.2.1 (fun i hi e => by simp [blk] at e; omega)
  have hs2 : Sl w2 a2 el en := by have := hg2.1.sl; simpa [HEL.out] using this
  have hr2 : ∀ k, blk a2 = some k → w.heap.size ≤ k := fun k hk => (hg2.1.lt k hk).1
  have h2' : Wr base w2 p a c bs := h.kept f2 (fun h => h) (fun _ _ h => h)
  have hb2 : Sl w2 ba bm bh := hb.kept f2 (fun _ _ _ h => h)
  have c21 := h2'.c1
  have f21 := h2'.f1
  rw [HBL.out] at c21
  clear hg2
  have HW : Hid (Wr base w2 p a c bs) := h2'
  clear h2'
  have hsz := f2.size
  by_cases hlong : 1048576 < bl + el + bm
  · go_wp2
    go_ret
    left
    exact ⟨hlong, rfl, f2, HW.out⟩
  · have hap : 0 < bm → ∀ k, blk ba = some k → ¬ (k = p ∨ blk a = some k) := fun hz k hk e => by
      rcases e with rfl | e
      · exact (Sl.apart HW.out.at_ (two_apart _ _ _ _) hb2 hz) hk
      · exact hne hz k hk e
    clear hne
    go_wp2_with (first
      | (at_builtin; refine wpList_append_b _ rfl (.tmp 31) (.tmp 32) rfl base a bl c bs rfl HBL.out HW.out.row a2 el c2 en rfl hs2 (by omega) (by omega) ?_; intro a3 c3 w3 how3 hgb3 hat3; obtain ⟨k1, k2, k3, k4, k5⟩ := HW.out.store (n3 := bl + el) how3 hgb3 hat3 (by rw [List.length_append, HBL.out, HEL.out]); rw [HBL.out] at k1; clear how3 hgb3 hat3; have HW4 := hid k3; clear k3; have hb4 := hb2.kept k4 hap; have hsz4 := k4.size; rw [setCell_size] at hsz4)
      | (at_builtin; refine wpList_append_b _ rfl (.tmp 40) (.tmp 41) rfl base a3 (bl + el) c3 (bs ++ en) rfl (by rw [List.length_append, HBL.out, HEL.out]) HW4.out.row ba bm bc bh rfl hb4 (by omega) (by rw [setCell_size]; omega) ?_; intro a5 c5 w5 how5 hgb5 hat5; obtain ⟨q1, q2, q3, q4, q5⟩ := HW4.out.store (n3 := bl + el + bm) how5 hgb5 hat5 (by rw [List.length_append, List.length_append, HBL.out, HEL.out, hb.1]); clear how5 hgb5 hat5; rw [List.length_append, HBL.out, HEL.out] at q1; have HW6 := hid q3; clear q3))
    go_ret
    right
    refine ⟨by omega, rfl, a5, c5, HW6.out, ?_, ?_⟩
    · refine (f2.mono (fun _ _ h => h.elim)).trans (k4.trans q4 (fun i hi e => ?_)) (fun i hi e => e)
      rcases e with rfl | e
      · exact .inl rfl
      · rcases k5 with k5 | k5
        · exact .inr (k5 ▸ e)
        · have := k5 i e; omega
    · rcases q5 with q5 | q5
      · rcases k5 with k5 | k5
        · exact .inl (q5.trans k5)
        · exact .inr (fun k hk => Nat.le_trans hsz (k5 k (q5 ▸ hk)))
      · exact .inr (fun k hk => by have := q5 k hk; rw [setCell_size] at this; omega)

theorem put_any (base : Nat) (w : World) (p : Nat) (a : Option Addr) (c : Nat) (bs : List UInt8) (h : Wr base w p a c bs) (n : Int) (h1 : -9223372036854775808 ≤ n) (h2 : n ≤ 9223372036854775807)
    (ba : Option Addr) (bm bc : Nat) (bh : List UInt8) (hb : Sl w ba bm bh) (hne : 0 < bm → ∀ k, blk ba = some k → blk a ≠ some k) (hbase : base ≤ w.heap.size) (hbm : bm ≤ 200000000000000) (hbs : bs.length ≤ 1048576) :
    Calls Tryd.prog 33 #[.pointer (some ⟨p, 0, none⟩), .int .i64 n, .slice ba bm bc] w fun e w' =>
      (1048576 < bs.length + (M.enc (M.fd n)).length + bm ∧ e = .returned (.int .i64 3) ∧ Fr (fun _ => False) w w' ∧ Wr base w' p a c bs) ∨
      (bs.length + (M.enc (M.fd n)).length + bm ≤ 1048576 ∧ e = .returned (.int .i64 0) ∧ ∃ a' c', Wr base w' p a' c' (bs ++ M.enc (M.fd n) ++ bh) ∧ Fr (fun k => k = p ∨ blk a = some k) w w' ∧ (blk a' = blk a ∨ ∀ k, blk a' = some k → w.heap.size ≤ k)) :=
  put_core base w p a c bs h n h1 h2 ba bm bc bh hb hne hbase hbm _ _ _ rfl rfl rfl hbs

/-- WHAT BECOMES OF A WRITER when 'add' is put: all of it, or nothing and ErrLong. -/
def WP (base : Nat) (w : World) (p : Nat) (a : Option Addr) (c : Nat) (bs add : List UInt8) (e : Ending) (w' : World) : Prop :=
  (1048576 < bs.length + add.length ∧ e = .returned (.int .i64 3) ∧ Fr (fun _ => False) w w' ∧ Wr base w' p a c bs) ∨
  (bs.length + add.length ≤ 1048576 ∧ e = .returned (.int .i64 0) ∧ ∃ a' c', Wr base w' p a' c' (bs ++ add) ∧ Fr (fun k => k = p ∨ blk a = some k) w w' ∧ (blk a' = blk a ∨ ∀ k, blk a' = some k → w.heap.size ≤ k))
theorem WP.ret {base : Nat} {w : World} {p : Nat} {a : Option Addr} {c : Nat} {bs add : List UInt8} {e : Ending} {w' : World} (h : WP base w p a c bs add e w') : ∃ k : Int, e = .returned (.int .i64 k) ∧ WP base w p a c bs add (.returned (.int .i64 k)) w' := by
  rcases h with ⟨h1, rfl, h2⟩ | ⟨h1, rfl, h2⟩
  · exact ⟨3, rfl, .inl ⟨h1, rfl, h2⟩⟩
  · exact ⟨0, rfl, .inr ⟨h1, rfl, h2⟩⟩
/-- what a list is put as -/
def encB (bs : List UInt8) : List UInt8 := M.enc (M.fd bs.length) ++ bs

theorem put_wp (base : Nat) (w : World) (p : Nat) (a : Option Addr) (c : Nat) (bs : List UInt8) (h : Wr base w p a c bs) (n : Int) (h1 : -9223372036854775808 ≤ n) (h2 : n ≤ 9223372036854775807)
    (ba : Option Addr) (bm bc : Nat) (bh : List UInt8) (hb : Sl w ba bm bh) (hne : 0 < bm → ∀ k, blk ba = some k → blk a ≠ some k) (hbase : base ≤ w.heap.size) (hbm : bm ≤ 200000000000000) (hbs : bs.length ≤ 1048576) :
    Calls Tryd.prog 33 #[.pointer (some ⟨p, 0, none⟩), .int .i64 n, .slice ba bm bc] w fun e w' => WP base w p a c bs (M.enc (M.fd n) ++ bh) e w' := by
  refine (put_any base w p a c bs h n h1 h2 ba bm bc bh hb hne hbase hbm hbs).mono fun e w' h => ?_
  have hl := hb.1
  unfold WP
  rw [List.length_append, hl]
  rcases h with ⟨h1, h2⟩ | ⟨h1, h2, a', c', h3, h4⟩
  · exact .inl ⟨by omega, h2⟩
  · exact .inr ⟨by omega, h2, a', c', by rw [← List.append_assoc]; exact h3, h4⟩

theorem wInt_any (base : Nat) (w : World) (p : Nat) (a : Option Addr) (c : Nat) (bs : List UInt8) (h : Wr base w p a c bs) (n : Int) (h1 : -9223372036854775808 ≤ n) (h2 : n ≤ 9223372036854775807) (hbase : base ≤ w.heap.size) (hbs : bs.length ≤ 1048576) :
    Calls Tryd.prog 82 #[.pointer (some ⟨p, 0, none⟩), .int .i64 n] w fun e w' => WP base w p a c bs (M.enc (M.fd n)) e w' := by
  have key := put_wp base w p a c bs h n h1 h2 none 0 0 [] (Sl.nil w none) (fun hz => absurd hz (by omega)) hbase (by omega) hbs
  rw [List.append_nil] at key
  have K := hid key
  clear key
  go_enter Tryd.func82, Tryd.ntmps82
  go_wp2_with fail
  refine K.out.mono ?_
  intro e w' hw
  obtain ⟨k, rfl, hw⟩ := hw.ret
  have HW := hid hw
  clear hw
  go_wp2
  go_ret
  exact HW.out

theorem wBytes_any (base : Nat) (w : World) (p : Nat) (a : Option Addr) (c : Nat) (bs : List UInt8) (h : Wr base w p a c bs) (ba : Option Addr) (bm bc : Nat) (bh : List UInt8) (hb : Sl w ba bm bh)
    (hne : 0 < bm → ∀ k, blk ba = some k → blk a ≠ some k) (hbase : base ≤ w.heap.size) (hbm : bm ≤ 200000000000000) (hbs : bs.length ≤ 1048576) :
    Calls Tryd.prog 14 #[.pointer (some ⟨p, 0, none⟩), .slice ba bm bc] w fun e w' => WP base w p a c bs (encB bh) e w' := by
  have key := put_wp base w p a c bs h bm (by omega) (by omega) ba bm bc bh hb hne hbase (by omega) hbs
  have e0 : encB bh = M.enc (M.fd bm) ++ bh := by unfold encB; rw [hb.1]
  rw [← e0] at key
  have K := hid key
  clear key e0
  go_enter Tryd.func14, Tryd.ntmps14
  go_wp2_with fail
  refine K.out.mono ?_
  intro e w' hw
  obtain ⟨k, rfl, hw⟩ := hw.ret
  have HW := hid hw
  clear hw
  go_wp2
  go_ret
  exact HW.out

theorem wLen_any (base : Nat) (w : World) (p : Nat) (a : Option Addr) (c : Nat) (bs : List UInt8) (h : Wr base w p a c bs) :
    Calls Tryd.prog 15 #[.pointer (some ⟨p, 0, none⟩)] w fun e w' => e = .returned (.int .i64 (bs.length : Nat)) ∧ w = w' := by
  have c0 := h.c0
  have c1 := h.c1
  go_enter Tryd.func15, Tryd.ntmps15
  go_wp2_with (first | (go_at_call 34; refine (wIsMade_any p _ c0).mono ?_; rintro e w' ⟨rfl, rfl⟩))
  go_ret
  exact ⟨rfl, rfl⟩

theorem wOut_any (base : Nat) (w : World) (p : Nat) (a : Option Addr) (c : Nat) (bs : List UInt8) (h : Wr base w p a c bs) (hbs : bs.length ≤ 1048576) :
    Calls Tryd.prog 76 #[.pointer (some ⟨p, 0, none⟩)] w fun e w' => ∃ a' c', e = .returned (.slice a' bs.length c') ∧ Ow w.heap.size w' a' c' bs ∧ Fr (fun _ => False) w w' := by
  have c0 := h.c0
  have c1 := h.c1
  have K := hid (clone_any a bs.length c bs w h.row.sl (by omega))
  go_enter Tryd.func76, Tryd.ntmps76
  go_wp2_with (first | (go_at_call 34; refine (wIsMade_any p _ c0).mono ?_; rintro e w' ⟨rfl, rfl⟩))
  refine K.out.mono ?_
  rintro e w' ⟨a', c', rfl, h1, h2⟩
  have H1 := hid h1
  have H2 := hid h2
  clear h1 h2
  go_wp2
  go_ret
  exact ⟨a', c', rfl, H1.out, H2.out⟩

/-- '[]byte(s)': a new row with the text's bytes -/
theorem bytesWorld_sl (w : World) (bs : List UInt8) : Sl (Lib.bytesWorld w 5 (str bs)) (some ⟨w.heap.size, 0, none⟩) bs.length bs := by
  refine ⟨rfl, .inr ⟨_, _, rfl, fun k x hx => ?_⟩⟩
  have hk : k < bs.length := (List.getElem?_eq_some_iff.1 hx).1
  rw [Nat.zero_add, Lib.bytesWorld_cell w _ _ k (by rw [str_size]; exact hk), str_toList]
  simp [List.getD, hx]
theorem bytesWorld_fr (w : World) (s : ByteArray) : Fr (fun _ => False) w (Lib.bytesWorld w 5 s) :=
  ⟨rfl, rfl, rfl, by rw [Lib.bytesWorld_size]; omega, fun k hk _ => Lib.bytesWorld_at_old w _ _ k hk⟩
theorem run_bytes (w : World) (s : ByteArray) : (convert 9 32 (.string s)).run Tryd.prog w = .ok (.slice (some ⟨w.heap.size, 0, none⟩) s.size (grownCap w s.size 0 5)) (Lib.bytesWorld w 5 s) :=
  Lib.run_convert_string_bytes w _ _ _ s Tryd.underlying9 Tryd.underlying32 Tryd.underlying5

theorem WP.from {base : Nat} {w0 w : World} {p : Nat} {a : Option Addr} {c : Nat} {bs add : List UInt8} {e : Ending} {w' : World} (h : WP base w p a c bs add e w') (hf : Fr (fun _ => False) w0 w) : WP base w0 p a c bs add e w' := by
  rcases h with ⟨h1, h2, h3, h4⟩ | ⟨h1, h2, a', c', h3, h4, h5⟩
  · exact .inl ⟨h1, h2, hf.trans h3 (fun _ _ h => h), h4⟩
  · refine .inr ⟨h1, h2, a', c', h3, (hf.mono (fun _ _ h => h.elim)).trans h4 (fun _ _ h => h), ?_⟩
    rcases h5 with h5 | h5
    · exact .inl h5
    · exact .inr (fun k hk => Nat.le_trans hf.size (h5 k hk))

theorem wText_any (base : Nat) (w : World) (p : Nat) (a : Option Addr) (c : Nat) (bs : List UInt8) (h : Wr base w p a c bs) (t : List UInt8) (hbase : base ≤ w.heap.size) (hbm : t.length ≤ 200000000000000) (hbs : bs.length ≤ 1048576) :
    Calls Tryd.prog 83 #[.pointer (some ⟨p, 0, none⟩), .string (str t)] w fun e w' => WP base w p a c bs (encB t) e w' := by
  have kb := run_bytes w (str t)
  rw [str_size] at kb
  obtain ⟨g, hg⟩ : ∃ g, g = grownCap w t.length 0 5 := ⟨_, rfl⟩
  rw [← hg] at kb
  clear hg
  have hf := bytesWorld_fr w (str t)
  have hlt : ∀ k, blk a = some k → k < w.heap.size := fun k hk => (h.row.lt k hk).2
  have K := hid (wBytes_any base (Lib.bytesWorld w 5 (str t)) p a c bs (h.kept hf (fun h => h) (fun _ _ h => h)) (some ⟨w.heap.size, 0, none⟩) t.length g t (bytesWorld_sl w t)
    (fun _ k hk e => by simp [blk] at hk; subst hk; have := hlt _ e; omega) (Nat.le_trans hbase hf.size) hbm hbs)
  obtain ⟨w1, hw1⟩ : ∃ w1, w1 = Lib.bytesWorld w 5 (str t) := ⟨_, rfl⟩
  rw [← hw1] at kb hf K
  clear hw1
  have HF := hid hf
  clear hf hlt
  go_enter Tryd.func83, Tryd.ntmps83
  go_wp2_with fail
  refine K.out.mono ?_
  intro e w' hw
  obtain ⟨k, rfl, hw⟩ := hw.ret
  have HW := hid hw
  clear hw
  go_wp2
  go_ret
  exact HW.out.from HF.out
end Go.Proofs.YtfkddpcadgidgaaDoor
