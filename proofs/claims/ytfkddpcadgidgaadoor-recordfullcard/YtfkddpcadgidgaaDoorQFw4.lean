/-
  A writer of fields: texts; an operation.
-/
import Derived.Test.YtfkddpcadgidgaaDoorQFw2
import Derived.Test.YtfkddpcadgidgaaDoorQOp
namespace Go.Proofs.YtfkddpcadgidgaaDoor
open Go.RowKit
set_option linter.unusedVariables false

theorem str_of (s : ByteArray) : str s.data.toList = s := by cases s; simp [str]
theorem Ts.kept {S : Nat → Prop} {w w' : World} {a : Option Addr} {len : Nat} {ns : List ByteArray} (h : Ts w a len ns) (hf : Fr S w w') (hS : 0 < len → ∀ k, blk a = some k → ¬ S k) : Ts w' a len ns := by
  obtain ⟨hl, h0⟩ := h
  refine ⟨hl, ?_⟩
  rcases h0 with h0 | ⟨b, off, rfl, hc⟩
  · exact .inl h0
  · by_cases hz : len = 0
    · exact .inl hz
    · refine .inr ⟨b, off, rfl, fun k x hx => ?_⟩
      have h1 := hc k x hx
      have hb := World.block_lt_of_cell? w _ h1
      rw [World.cell?_of_block (w := w) (w' := w') (hf.block b hb (hS (by omega) b rfl))]
      exact h1
/-- what a text is put as -/
def encT (s : ByteArray) : List UInt8 := encB s.data.toList
def M.pts (st : Int × List UInt8) (ss : List ByteArray) : Int × List UInt8 := ss.foldl (fun st s => M.pn st (encT s)) st
theorem M.pts_snoc (st : Int × List UInt8) (ss : List ByteArray) (s : ByteArray) : M.pts st (ss ++ [s]) = M.pn (M.pts st ss) (encT s) := by simp [M.pts]

set_option maxRecDepth 20000 in
set_option maxHeartbeats 3200000 in
theorem fwTexts {S : Nat → Prop} {w : World} {g : Nat} {T : TypeId} {p : Nat} {st : Int × List UInt8} (h : Fq S w g T p st) (la : Option Addr) (len lc : Nat) (ns : List ByteArray) (hI : Ts w la len ns) (hb : 0 < len → ∀ k, blk la = some k → ¬ S k) (hm : len ≤ 9223372036854775807) (hn : ∀ x ∈ ns, x.size ≤ 200000000000000) :
    Calls Tryd.prog 68 #[.pointer (some ⟨g, 0, none⟩), .slice la len lc] w fun e w' => (∃ v, e = .returned v) ∧ Ft S w g T p (M.pts st ns) w' := by
  have HF := hid h
  have HI := hid hI
  have HB := hid hb
  have HN := hid hn
  clear h hI hb hn
  go_enter Tryd.func68, Tryd.ntmps68
  go_wp2
  go_loopw [8] (fun i wr => ∃ k : Nat, k ≤ len ∧ i = .int .i64 k ∧ Ft S w g T p (M.pts st (ns.take k)) wr) (fun i _ => len - (intOf i).toNat)
  case atStart => exact ⟨0, by omega, rfl, Ft.refl HF.out (Fr.refl _ _)⟩
  case round =>
    obtain ⟨k, hk, rfl, hft⟩ := hrel
    by_cases hlt : k < len
    · have hI2 := HI.out.kept hft.2 (fun hz j hj hs => HB.out hz j hj hs)
      obtain ⟨b, off, x, rfl, hx, hc⟩ := hI2.at hlt
      have hxb := HN.out x (List.mem_of_getElem? hx)
      have hnx : M.pts st (ns.take (k + 1)) = M.pn (M.pts st (ns.take k)) (encT x) := by rw [take_nextT hx, M.pts_snoc]
      have HNX := hid hnx
      obtain ⟨s1, hs1⟩ : ∃ s1, M.pts st (ns.take k) = s1 := ⟨_, rfl⟩
      rw [hs1] at hft HNX
      obtain ⟨er, bs⟩ := s1
      have hq := hft.1
      have d0 := cell_at (j := 0) hq.at_ rfl
      have d1 := cell_at (j := 1) hq.at_ rfl
      have HFT := hid hft
      have hi : (k : Int) < (len : Int) := by omega
      clear hI2 hx hnx hs1 hft
      by_cases he : er = 0
      · subst he
        obtain ⟨a, c, ha⟩ := hq.wr
        have ki := wText_any 0 wr p a c bs ha.1 x.data.toList (Nat.zero_le _) (by rw [← str_size, str_of]; exact hxb) hq.le
        rw [str_of] at ki
        have KI := hid ki
        have HQ := hid hq
        have HA := hid ha
        clear hq ha ki
        simp only at d0 d1
        go_wp2_with (first | (go_at_call 83; refine KI.out.mono ?_; intro e w2 hwp; obtain ⟨e2, rfl, hwp⟩ := hwp.ret; obtain ⟨g1, g2, g3⟩ := HQ.out.put HA.out hwp; have G3 := hid g3; clear hwp g3))
        go_roundw
        case rel => exact ⟨k + 1, by omega, by go_num, by rw [HNX.out]; exact HFT.out.trans G3.out⟩
        case measure => simp [intOf]; omega
      · have hpn : M.pn (er, bs) (encT x) = (er, bs) := by unfold M.pn; rw [if_neg he]
        rw [hpn] at HNX
        have he2 : (er == 0) = false := by simpa using he
        simp only at d0 d1
        clear hq hpn
        go_wp2
        go_roundw
        case rel => exact ⟨k + 1, by omega, by go_num, by rw [HNX.out]; exact HFT.out⟩
        case measure => simp [intOf]; omega
    · obtain rfl : k = len := by omega
      have HFT := hid hft
      clear hft
      go_wp2
      go_end0
      refine ⟨⟨_, rfl⟩, ?_⟩
      have := HFT.out
      rw [List.take_of_length_le (by rw [HI.out.1]; exact Nat.le_refl _)] at this
      exact this

/-- the next call, at a row of its own -/
theorem fwInt64s_next {S : Nat → Prop} {w w1 : World} {g : Nat} {T : TypeId} {p : Nat} {st : Int × List UInt8} (h : Ft S w g T p st w1) (n : Nat) (hn : w1.heap.size = n) (ns : List Int) (cs : Array Value) (ty : TypeId) (k : Nat) (hk : ns.length = k) (hcs : cs.toList = ns.map (fun x => Value.int .i64 x)) (hm : k ≤ 9223372036854775807) (hb : ∀ x ∈ ns, -9223372036854775808 ≤ x ∧ x ≤ 9223372036854775807) :
    Calls Tryd.prog 66 #[.pointer (some ⟨g, 0, none⟩), .slice (some ⟨n, 0, none⟩) k k] (w1.alloc (.cells cs ty)) fun e w' => (∃ v, e = .returned v) ∧ Ft S w g T p (M.pns st ns) w' := by
  have fa : Fr (fun _ => False) w1 (w1.alloc (.cells cs ty)) := Fr.alloc (Fr.refl _ _) _
  refine (fwInt64s (h.1.kept fa (fun _ _ h => h)) (some ⟨n, 0, none⟩) k k ns (Is.newn w1 n hn ns cs ty k hk hcs) (fun _ j hj hs => by simp [blk] at hj; have := h.1.lt j hs; omega) hm hb).mono ?_
  rintro e w' ⟨h1, h2⟩
  exact ⟨h1, h.trans (Ft.pre fa h2)⟩
theorem fwInts_next {S : Nat → Prop} {w w1 : World} {g : Nat} {T : TypeId} {p : Nat} {st : Int × List UInt8} (h : Ft S w g T p st w1) (n : Nat) (hn : w1.heap.size = n) (ns : List Int) (cs : Array Value) (ty : TypeId) (k : Nat) (hk : ns.length = k) (hcs : cs.toList = ns.map (fun x => Value.int .i64 x)) (hm : k ≤ 9223372036854775807) (hb : ∀ x ∈ ns, -9223372036854775808 ≤ x ∧ x ≤ 9223372036854775807) :
    Calls Tryd.prog 67 #[.pointer (some ⟨g, 0, none⟩), .slice (some ⟨n, 0, none⟩) k k] (w1.alloc (.cells cs ty)) fun e w' => (∃ v, e = .returned v) ∧ Ft S w g T p (M.pns st ns) w' := by
  have fa : Fr (fun _ => False) w1 (w1.alloc (.cells cs ty)) := Fr.alloc (Fr.refl _ _) _
  refine (fwInts (h.1.kept fa (fun _ _ h => h)) (some ⟨n, 0, none⟩) k k ns (Is.newn w1 n hn ns cs ty k hk hcs) (fun _ j hj hs => by simp [blk] at hj; have := h.1.lt j hs; omega) hm hb).mono ?_
  rintro e w' ⟨h1, h2⟩
  exact ⟨h1, h.trans (Ft.pre fa h2)⟩
theorem fwTexts_next {S : Nat → Prop} {w w1 : World} {g : Nat} {T : TypeId} {p : Nat} {st : Int × List UInt8} (h : Ft S w g T p st w1) (n : Nat) (hn : w1.heap.size = n) (ns : List ByteArray) (cs : Array Value) (ty : TypeId) (k : Nat) (hk : ns.length = k) (hcs : cs.toList = ns.map (fun x => Value.string x)) (hm : k ≤ 9223372036854775807) (hb : ∀ x ∈ ns, x.size ≤ 200000000000000) :
    Calls Tryd.prog 68 #[.pointer (some ⟨g, 0, none⟩), .slice (some ⟨n, 0, none⟩) k k] (w1.alloc (.cells cs ty)) fun e w' => (∃ v, e = .returned v) ∧ Ft S w g T p (M.pts st ns) w' := by
  have fa : Fr (fun _ => False) w1 (w1.alloc (.cells cs ty)) := Fr.alloc (Fr.refl _ _) _
  refine (fwTexts (h.1.kept fa (fun _ _ h => h)) (some ⟨n, 0, none⟩) k k ns (Ts.newn w1 n hn ns cs ty k hk hcs) (fun _ j hj hs => by simp [blk] at hj; have := h.1.lt j hs; omega) hm hb).mono ?_
  rintro e w' ⟨h1, h2⟩
  exact ⟨h1, h.trans (Ft.pre fa h2)⟩
def M.pop (st : Int × List UInt8) (o : M.Op) : Int × List UInt8 := M.pts (M.pns (M.pns (M.pns st [o.t]) [o.s, o.k]) [o.n, o.p]) [o.a, o.b, o.c]
set_option maxRecDepth 20000 in
set_option maxHeartbeats 3200000 in
theorem fwOp {S : Nat → Prop} {w : World} {g : Nat} {T : TypeId} {p : Nat} {st : Int × List UInt8} (h : Fq S w g T p st) (o : M.Op) (hi : ∀ x ∈ [o.t, o.s, o.k, o.n, o.p], -9223372036854775808 ≤ x ∧ x ≤ 9223372036854775807) (hs : ∀ x ∈ [o.a, o.b, o.c], x.size ≤ 200000000000000) :
    Calls Tryd.prog 38 #[.pointer (some ⟨g, 0, none⟩), .agg o.cs] w fun e w' => (∃ v, e = .returned v) ∧ Ft S w g T p (M.pop st o) w' := by
  have fW : Fr (fun _ => False) w (w.alloc (.cells o.cs 25)) := Fr.alloc (Fr.refl _ _) _
  have bW : (w.alloc (.cells o.cs 25)).heap[w.heap.size]? = some (.cells o.cs 25 (0, 0)) := Go.heap_alloc_new w _
  have hSn : ¬ S w.heap.size := fun e => by have := h.lt _ e; omega
  have H0 := hid (Ft.refl (h.kept fW (fun _ _ h => h)) (Fr.refl _ _))
  have HSN := hid hSn
  have FW := hid fW
  have BW := hid bW
  have B1 : Hid (∀ x ∈ [o.t], -9223372036854775808 ≤ x ∧ x ≤ 9223372036854775807) := hid (fun x hx => hi x (by simp at hx; simp [hx]))
  have B2 : Hid (∀ x ∈ [o.s, o.k], -9223372036854775808 ≤ x ∧ x ≤ 9223372036854775807) := hid (fun x hx => hi x (by simp at hx; rcases hx with h | h <;> simp [h]))
  have B3 : Hid (∀ x ∈ [o.n, o.p], -9223372036854775808 ≤ x ∧ x ≤ 9223372036854775807) := hid (fun x hx => hi x (by simp at hx; rcases hx with h | h <;> simp [h]))
  have B4 := hid hs
  clear fW bW hSn h hi hs
  unfold M.Op.cs at *
  go_enter Tryd.func38, Tryd.ntmps38
  go_wp2_with (first
    | (go_at_call 68; refine (fwTexts_next H3.out _ rfl [o.a, o.b, o.c] _ _ 3 rfl rfl (by omega) B4.out).mono ?_; rintro e w4 ⟨⟨v, rfl⟩, ht⟩; have H4 := hid ht; clear ht)
    | (go_at_call 66; refine (fwInt64s_next H2.out _ rfl [o.n, o.p] _ _ 2 rfl rfl (by omega) B3.out).mono ?_; rintro e w3 ⟨⟨v, rfl⟩, ht⟩; have b := ht.2.cells BW.out HSN.out; have H3 := hid ht; have d5 := cell_at (j := 5) b rfl; have d6 := cell_at (j := 6) b rfl; have d7 := cell_at (j := 7) b rfl; clear b ht)
    | (go_at_call 67; refine (fwInts_next H1.out _ rfl [o.s, o.k] _ _ 2 rfl rfl (by omega) B2.out).mono ?_; rintro e w2 ⟨⟨v, rfl⟩, ht⟩; have b := ht.2.cells BW.out HSN.out; have H2 := hid ht; have d3 := cell_at (j := 3) b rfl; have d4 := cell_at (j := 4) b rfl; clear b ht)
    | (go_at_call 66; refine (fwInt64s_next H0.out _ (by simp) [o.t] _ _ 1 rfl rfl (by omega) B1.out).mono ?_; rintro e w1 ⟨⟨v, rfl⟩, ht⟩; have b := ht.2.cells BW.out HSN.out; have H1 := hid ht; have d1 := cell_at (j := 1) b rfl; have d2 := cell_at (j := 2) b rfl; clear b ht))
  go_end0
  exact ⟨⟨_, rfl⟩, Ft.pre FW.out H4.out⟩

/-- several puts, one behind the other -/
def M.pnl (st : Int × List UInt8) (l : List (List UInt8)) : Int × List UInt8 := l.foldl M.pn st
theorem M.pnl_err (e : Int) (bs : List UInt8) (he : e ≠ 0) (l : List (List UInt8)) : M.pnl (e, bs) l = (e, bs) := by
  induction l with
  | nil => rfl
  | cons a l ih => unfold M.pnl at *; rw [List.foldl_cons]; have : M.pn (e, bs) a = (e, bs) := by unfold M.pn; rw [if_neg he]
                   rw [this]; exact ih
theorem M.pnl_ok (bs : List UInt8) (l : List (List UInt8)) (h : bs.length + l.flatten.length ≤ 1048576) : M.pnl (0, bs) l = (0, bs ++ l.flatten) := by
  induction l generalizing bs with
  | nil => simp [M.pnl]
  | cons a l ih =>
    rw [List.flatten_cons, List.length_append] at h
    have h1 : M.pn (0, bs) a = (0, bs ++ a) := by unfold M.pn; rw [if_pos rfl, if_pos (by simp only; omega)]
    have := ih (bs ++ a) (by rw [List.length_append]; omega)
    unfold M.pnl at *
    rw [List.foldl_cons, h1, this, List.flatten_cons, List.append_assoc]
theorem M.pnl_long (bs : List UInt8) (l : List (List UInt8)) (hb : bs.length ≤ 1048576) (h : 1048576 < bs.length + l.flatten.length) : (M.pnl (0, bs) l).1 = 3 := by
  induction l generalizing bs with
  | nil => simp at h; omega
  | cons a l ih =>
    rw [List.flatten_cons, List.length_append] at h
    by_cases hl : bs.length + a.length ≤ 1048576
    · have h1 : M.pn (0, bs) a = (0, bs ++ a) := by unfold M.pn; rw [if_pos rfl, if_pos (by simp only; omega)]
      have := ih (bs ++ a) (by rw [List.length_append]; omega) (by rw [List.length_append]; omega)
      unfold M.pnl at *
      rw [List.foldl_cons, h1]
      exact this
    · have h1 : M.pn (0, bs) a = (3, bs) := by unfold M.pn; rw [if_pos rfl, if_neg (by simp only; omega)]
      have := M.pnl_err 3 bs (by omega) l
      unfold M.pnl at *
      rw [List.foldl_cons, h1, this]
/-- an operation's form, part by part -/
def M.opl (o : M.Op) : List (List UInt8) := [M.enc (M.fd o.t), M.enc (M.fd o.s), M.enc (M.fd o.k), M.enc (M.fd o.n), M.enc (M.fd o.p), encT o.a, encT o.b, encT o.c]
theorem M.pop_pnl (st : Int × List UInt8) (o : M.Op) : M.pop st o = M.pnl st (M.opl o) := rfl
end Go.Proofs.YtfkddpcadgidgaaDoor
