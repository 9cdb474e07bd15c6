/-
  Nodes: all nodes, told.
-/
import Derived.Test.YtilbdpnioajkoaaGreatMg21
import Derived.Test.YtilbdpnioajkoaaGreatMg23
namespace Go.Proofs.YtilbdpnioajkoaaGreat
open Go.RowKit Go.Maps
set_option linter.unusedVariables false
set_option linter.unusedSimpArgs false
set_option maxRecDepth 100000
namespace T
/-- a node told, and where its attributes lie -/
abbrev Tn := (Int × Nd) × (Option Addr × Nat)
def cellsN (z : Tn) : List Value := [.int .i64 z.1.1, .int .i64 z.1.2.par, .string z.1.2.nm, .slice z.2.1 z.1.2.ats.length z.2.2]
def flatN (l : List Tn) : List Value := (l.map cellsN).flatten
theorem flatN_len : ∀ (xs : List Tn), (flatN xs).length = xs.length * 4
  | [] => rfl
  | x :: r => by
    have := flatN_len r
    unfold flatN at this ⊢
    simp only [List.map_cons, List.flatten_cons, List.length_append, List.length_cons, this]
    simp [cellsN]
    omega
theorem flatN_append (xs ys : List Tn) : flatN (xs ++ ys) = flatN xs ++ flatN ys := by simp [flatN]
/-- which nodes are told -/
def tells (p : Int × Nd) : Bool := decide (2 < p.1) || !p.2.ats.isEmpty
def told (t : Tr) : List (Int × Nd) := t.filter tells
/-- NODES TOLD, IN MEMORY: a row of one's own, and the rows of their attributes, all in blocks from b on. -/
structure Lx (b : Nat) (w : World) (a : Option Addr) (c : Nat) (zs : List Tn) : Prop where
  row : Ro w 63 4 a zs.length c (flatN zs)
  new : ∀ k, blk a = some k → b ≤ k
  el : ∀ z ∈ zs, Rw (fun g => b ≤ g ∧ g < w.heap.size ∧ blk a ≠ some g) w 2 z.2.1 z.1.2.ats.length (flatA z.1.2.ats)
  wr : ∀ z ∈ zs, Wn w z.2.1 z.1.2.ats.length
theorem Lx.nil (b : Nat) (w : World) : Lx b w none 0 [] := ⟨Ro.nil _ _ _, by simp [blk], by simp, by simp⟩
theorem Lx.kept {S : Nat → Prop} {b : Nat} {w w' : World} {a : Option Addr} {c : Nat} {zs : List Tn} (h : Lx b w a c zs) (hf : Fr S w w') (hS : ∀ k, b ≤ k → k < w.heap.size → ¬ S k) : Lx b w' a c zs :=
  ⟨h.row.kept hf (fun j hj => hS j (h.new j hj) (h.row.lt j hj)), h.new, fun z hz => ((h.el z hz).kept hf (fun i hi => hS i hi.1 hi.2.1)).mono (fun i hi => ⟨hi.1, Nat.lt_of_lt_of_le hi.2.1 hf.size, hi.2.2⟩), fun z hz => (h.wr z hz).kept hf (fun hn g hg => by
    have hi := rw_at (h.el z hz) hn hg
    exact ⟨hi.2.1, hS g hi.1 hi.2.1⟩)⟩
/-- one more, whose row is new -/
theorem Lx.more {b : Nat} {w0 w w' : World} {a a' : Option Addr} {c c' : Nat} {zs : List Tn} {z : Tn} (h : Lx b w0 a c zs) (hf0 : Fr (fun _ => False) w0 w) (hz : Rw (fun g => w0.heap.size ≤ g ∧ g < w.heap.size) w 2 z.2.1 z.1.2.ats.length (flatA z.1.2.ats)) (hwn : Wn w z.2.1 z.1.2.ats.length) (hb : b ≤ w0.heap.size) (hf : Fr (fun k => blk a = some k) w w') (hr : Ro w' 63 4 a' (zs.length + 1) c' (flatN zs ++ cellsN z)) (hn : ∀ k, blk a' = some k → blk a = some k ∨ w.heap.size ≤ k) : Lx b w' a' c' (zs ++ [z]) := by
  have hlt : ∀ k, blk a = some k → k < w0.heap.size := h.row.lt
  have hs := hf.size
  have hs0 := hf0.size
  refine ⟨?_, fun k hk => ?_, fun y hy => ?_, fun y hy => ?_⟩
  · rw [flatN_append, List.length_append]
    have : flatN [z] = cellsN z := by simp [flatN]
    rw [this]
    exact hr
  · rcases hn k hk with h1 | h1
    · exact h.new k h1
    · omega
  · rcases List.mem_append.1 hy with hy | hy
    · refine (((h.el y hy).kept hf0 (fun _ _ h => h)).kept hf (fun i hi e => hi.2.2 e)).mono (fun i hi => ⟨hi.1, by omega, fun e => ?_⟩)
      rcases hn i e with h1 | h1
      · exact hi.2.2 h1
      · omega
    · simp at hy
      subst hy
      refine (hz.kept hf (fun i hi e => by have := hlt i e; omega)).mono (fun i hi => ⟨by omega, by omega, fun e => ?_⟩)
      rcases hn i e with h1 | h1
      · have := hlt i h1; omega
      · omega
  · rcases List.mem_append.1 hy with hy | hy
    · have hk := (h.wr y hy).kept hf0 (fun hn g hg => ⟨(rw_at (h.el y hy) hn hg).2.1, fun h => h⟩)
      exact hk.kept hf (fun hn g hg => by
        have hi := rw_at (h.el y hy) hn hg
        exact ⟨by omega, fun e => hi.2.2 e⟩)
    · simp at hy
      subst hy
      exact hwn.kept hf (fun hn g hg => by
        have hi := rw_at hz hn hg
        exact ⟨hi.2, fun e => by have := hlt g e; omega⟩)
end T
theorem T.infoN1 : (Tryz.prog.info? 63).map (fun i => (i.size, i.bytes)) = some (4, 56) := by kernel_rfl
theorem T.infoN2 : ((Tryz.prog.info? 63).bind (fun i => i.zero)).map (fun z => z.cells.size) = some 4 := by kernel_rfl
theorem T.info_n : ∃ i z, Tryz.prog.info? 63 = some i ∧ i.zero = some z ∧ i.size = 4 ∧ i.bytes = 56 ∧ z.cells.size = 4 := by
  have h1 := T.infoN1
  have h2 := T.infoN2
  cases hi : Tryz.prog.info? 63 with
  | none => rw [hi] at h1; cases h1
  | some i =>
    rw [hi] at h1 h2
    simp only [Option.map_some, Option.some.injEq, Prod.mk.injEq, Option.bind_some] at h1 h2
    cases hz : i.zero with
    | none => rw [hz] at h2; cases h2
    | some z =>
      rw [hz] at h2
      simp only [Option.map_some, Option.some.injEq] at h2
      exact ⟨i, z, rfl, hz, h1.1, h1.2, h2⟩
/-- one more node, behind the others -/
theorem T.node_append (w : World) (ra : Option Addr) (rc n : Nat) (xs : List Value) (hrow : Ro w 63 4 ra n rc xs) (hb : n ≤ 3900000000000) (z : T.Tn) :
    ∃ ra' rc' w', (Builtin.append_ #[41, 41] 41 #[.slice ra n rc, .slice (some ⟨w.heap.size, 0, none⟩) 1 1]).run Tryz.prog (w.alloc (.cells #[.int .i64 z.1.1, .int .i64 z.1.2.par, .string z.1.2.nm, .slice z.2.1 z.1.2.ats.length z.2.2] 63)) = .ok (.slice ra' (n + 1) rc') w' ∧
      Ro w' 63 4 ra' (n + 1) rc' (xs ++ T.cellsN z) ∧ Fr (fun k => blk ra = some k) w w' ∧ (∀ k, blk ra' = some k → blk ra = some k ∨ w.heap.size ≤ k) := by
  obtain ⟨i0, z0, hi, hz0, hz1, hz2, hz3⟩ := T.info_n
  obtain ⟨cs, hcs⟩ : ∃ cs, (#[.int .i64 z.1.1, .int .i64 z.1.2.par, .string z.1.2.nm, .slice z.2.1 z.1.2.ats.length z.2.2] : Array Value) = cs := ⟨_, rfl⟩
  rw [hcs]
  have hcl : cs.toList = T.cellsN z := by rw [← hcs]; rfl
  have f0 : Fr (fun _ => False) w (w.alloc (.cells cs 63)) := Fr.alloc (Fr.refl _ _) _
  have hn := Go.heap_alloc_new w (.cells cs 63)
  obtain ⟨a', c', w', hr, h2, h3, h4⟩ := run_append_o (P := Tryz.prog) (w.alloc (.cells cs 63)) 41 41 63 i0 z0 4 56 Tryz.underlying41 hi hz0 hz1 hz2 hz3 (by omega) ra n rc xs (hrow.kept f0 (fun _ _ h => h)) ⟨w.heap.size, 0, none⟩ 1 1 (T.cellsN z) rfl (fun j u hu => by
    rw [Addr.add_lit, Nat.zero_add]
    exact cellA hn (by rw [← Array.getElem?_toList, hcl]; exact hu)) (fun u hu => by simp [T.cellsN] at hu; rcases hu with rfl | rfl | rfl | rfl <;> rfl) (by omega) (by omega) (by omega)
  refine ⟨a', c', w', hr, h2, (f0.mono (fun _ _ h => h.elim)).trans (Fr.of_grown h3) (fun i hi e => e), fun k hk => ?_⟩
  rcases h4 with ⟨rfl, _⟩ | ⟨rfl, _⟩
  · exact .inl hk
  · simp [blk] at hk; exact .inr (by omega)
set_option maxHeartbeats 1600000 in
theorem nodes_any {c : Nat → Option T.Col} {w : World} {bud p : Nat} {dos last : Int} {t : T.Tr} {mb : Nat} {f : Int → Nat} (h : Gd c w bud p dos last t mb f) (hfew : ∀ n x, A.get n t = some x → x.ats.length ≤ 5000000000000) (hlen : t.length ≤ 3900000000000) :
    Calls Tryz.prog 13 #[ptr p] w fun e w' => ∃ a cp zs, e = .returned (.slice a (List.length zs) cp) ∧ List.map Prod.fst zs = T.told t ∧ T.Lx w.heap.size w' a cp zs ∧ Fr (fun _ => False) w w' := by
  have KM := hid (tmade_any h.tf)
  have KK := hid (keysI_fn (some mb) w)
  have KS := hid (sortedI_fn h.tf.map (by omega) (l := t.map (·.1)) (by unfold T.Rise; rw [List.pairwise_map]; exact h.wf.up) (fun x => by
    rw [Option.isSome_map, List.mem_map]
    constructor
    · rintro ⟨q, hq, rfl⟩
      rw [A.get_of_mem h.wf.up (show (q.1, q.2) ∈ t from hq)]; rfl
    · intro hx
      obtain ⟨y, hy⟩ := Option.isSome_iff_exists.1 hx
      exact ⟨(x, y), A.get_mem hy, rfl⟩))
  have c0 : w.cell? ⟨p, 0, none⟩ = some (.map (some mb)) := cellA (j := 0) h.tf.cells rfl
  have H := hid h
  have HFEW := hid hfew
  have HLEN := hid hlen
  clear h hfew hlen
  go_enter Tryz.func13, Tryz.ntmps13
  go_wp2_with (first
    | (go_at_call 42; refine KM.out.mono ?_; rintro e wx ⟨rfl, rfl⟩)
    | (go_at_call 44; refine KK.out.mono ?_; rintro e wx ⟨rfl, rfl⟩)
    | (go_at_call 43; refine KS.out.mono ?_; rintro e w1 ⟨a1, c1, rfl, hrw, hf⟩; have RW1 := hid hrw; have F1 := hid ((Fr.alloc (Fr.refl (fun _ => False) w) _).trans hf (fun _ _ h => h)); clear hrw hf))
  obtain ⟨len, hln⟩ : ∃ len, t.length = len := ⟨_, rfl⟩
  rw [hln]
  have HLN := hid hln
  clear hln
  go_loopw [3, 5, 6, 17] (fun l _ _ i wr => ∃ (k m : Nat) (a : Option Addr) (cp : Nat), i = .int .i64 k ∧ l = .slice a m cp ∧ Hid (k ≤ len ∧ ∃ zs : List T.Tn, zs.length = m ∧ zs.map Prod.fst = T.told (t.take k) ∧ T.Lx w.heap.size wr a cp zs ∧ Fr (fun _ => False) w wr ∧ Fr (fun _ => False) w1 wr ∧ ∀ i, blk a = some i → w1.heap.size ≤ i))
    (fun _ _ _ i _ => len - (intOf i).toNat)
  case atStart => exact ⟨0, 0, none, 0, rfl, rfl, hid ⟨Nat.zero_le _, [], rfl, rfl, T.Lx.nil _ _, F1.out, Fr.refl _ _, by simp [blk]⟩⟩
  case round =>
    obtain ⟨k, m, a, cp, rfl, rfl, hall⟩ := hrel
    obtain ⟨hk, zs, hzm, hzt, hlx, hfw, hfw1, hnw⟩ := hall.out
    by_cases hlt : k < len
    · obtain ⟨q, hq⟩ : ∃ q, t[k]? = some q := ⟨_, List.getElem?_eq_getElem (by rw [HLN.out]; exact hlt)⟩
      obtain ⟨n, x⟩ := q
      have hmem : (n, x) ∈ t := List.mem_of_getElem? hq
      have hget := A.get_of_mem H.out.wf.up hmem
      have hGd := H.out.kept hfw (fun _ _ h => h)
      have hNm := hGd.tf.node n x hget
      have hwn := wfI (n := n) (by have := H.out.wf.num n x hget; omega)
      obtain ⟨g, o, rfl, e0⟩ : ∃ g o, a1 = some ⟨g, o, none⟩ ∧ wr.cell? ⟨g, o + k, none⟩ = some (.int .i64 n) := by
        rcases (RW1.out.kept hfw1 (fun _ _ h => h)).2 with h1 | ⟨g, o, h1, _, h2⟩
        · rw [List.length_map, HLN.out] at h1; omega
        · exact ⟨g, o, h1, h2 k _ (by rw [List.getElem?_map, List.getElem?_map, hq]; rfl)⟩
      have LK := hid (hGd.tf.look hwn)
      rw [T.loc_some hget] at LK
      have c0 : wr.cell? ⟨p, 0, none⟩ = some (.map (some mb)) := cellA (j := 0) hGd.tf.cells rfl
      have i0 : (0 : Int) ≤ (k : Int) := by omega
      have i1 : (k : Int) < (len : Int) := by omega
      have hlb : len ≤ 3900000000000 := by have := HLEN.out; have := HLN.out; omega
      have hto : T.told (t.take (k + 1)) = T.told (t.take k) ++ (if T.tells (n, x) then [(n, x)] else []) := by
        unfold T.told
        rw [List.take_add_one, hq, List.filter_append]
        cases hte : T.tells (n, x) <;> simp [hte]
      have hxl := HFEW.out n x hget
      have hAk := (H.out.wf.ats n x hget).1
      have KT := hid (tell_any hNm hAk hxl)
      obtain ⟨av, uv, gg, mm, hNf⟩ := hNm
      have ca : wr.cell? ⟨f n, 2, none⟩ = some (.map av) := cellA (j := 2) hNf.cells rfl
      have LL := hid (hNf.att.len Tryz.underlying77)
      have hml : m ≤ 3900000000000 := by
        have h1 := congrArg List.length hzt
        rw [List.length_map, hzm] at h1
        have h2 : (T.told (t.take k)).length ≤ (t.take k).length := List.length_filter_le _ _
        rw [List.length_take] at h2
        have := HLEN.out
        omega
      have HT := hid hto
      have HZM := hid hzm
      have HZT := hid hzt
      have HLX := hid hlx
      have HFW := hid hfw
      have HFW1 := hid hfw1
      have HML := hid hml
      have HK := hid hk
      have HNEW := hid hnw
      clear hk hnw hzm hzt hlx hfw hfw1 hq hmem hget hGd hwn hto hxl hAk hNf hml hall
      by_cases h2 : 2 < n
      · have HTe := hid (show T.tells (n, x) = true by unfold T.tells; simp [h2])
        go_wp2_with (first
          | (refine wpList_look_v LK.out (by exact ⟨_, _, rfl, rfl, rfl⟩) (by kernel_rfl) ?_)
          | (refine wpList_len_v (LL.out _) (by exact ⟨_, rfl, rfl⟩) (by kernel_rfl) ?_))
        refine KT.out.mono ?_
        rintro e w2 ⟨ta, tc, rfl, hrw2, hwn2, hf2⟩
        obtain ⟨a', cp', w3, hr3, hro3, hf3, hn3⟩ := T.node_append w2 a cp m (T.flatN zs) (by have := (HLX.out.kept hf2 (fun _ _ _ h => h)).row; rw [HZM.out] at this; exact this) HML.out ((n, x), (ta, tc))
        have fw3 : Fr (fun _ => False) w w3 := (HFW.out.trans hf2 (fun _ _ h => h)).trans hf3 (fun i hi e => by have := HLX.out.new i e; omega)
        have fw13 : Fr (fun _ => False) w1 w3 := (HFW1.out.trans hf2 (fun _ _ h => h)).trans hf3 (fun i hi e => by have h1 := HLX.out.new i e; have h2 := HNEW.out i e; omega)
        have hnew3 : ∀ i, blk a' = some i → w1.heap.size ≤ i := fun i hi => by
          rcases hn3 i hi with h1 | h1
          · have := HNEW.out i h1; omega
          · exact Nat.le_trans (Nat.le_trans HFW1.out.size hf2.size) h1
        have fin : k + 1 ≤ len ∧ ∃ zs' : List T.Tn, zs'.length = m + 1 ∧ zs'.map Prod.fst = T.told (t.take (k + 1)) ∧ T.Lx w.heap.size w3 a' cp' zs' ∧ Fr (fun _ => False) w w3 ∧ Fr (fun _ => False) w1 w3 ∧ ∀ i, blk a' = some i → w1.heap.size ≤ i :=
          ⟨hlt, zs ++ [((n, x), (ta, tc))], by rw [List.length_append, HZM.out]; rfl, by rw [List.map_append, HZT.out, HT.out, HTe.out]; rfl, HLX.out.more hf2 hrw2 hwn2 HFW.out.size hf3 (by rw [HZM.out]; exact hro3) hn3, fw3, fw13, hnew3⟩
        have R3 := hid hr3
        have FIN := hid fin
        clear hrw2 hwn2 hf2 hr3 hro3 hf3 hn3 fw3 fw13 hnew3 fin
        dsimp only
        go_wp2_with (first | (at_builtin; refine wpList_append_eq _ _ rfl (.tmp 37) (.tmp 41) _ rfl _ _ _ rfl rfl R3.out ?_))
        go_roundw
        case rel => exact ⟨k + 1, m + 1, a', cp', by first | go_num | rfl | trivial, by first | go_num | rfl | trivial, FIN⟩
        case measure => simp [intOf]; omega
      · cases hna : x.ats.isEmpty with
        | false =>
          have HTe := hid (show T.tells (n, x) = true by unfold T.tells; simp [hna])
          have hpos : 0 < x.ats.length := by cases hx : x.ats with | nil => rw [hx] at hna; cases hna | cons a b => simp
          have b1 : (0 : Int) < (x.ats.length : Int) := by omega
          obtain ⟨al, hal⟩ : ∃ al, x.ats.length = al := ⟨_, rfl⟩
          rw [hal] at LL b1
          clear hpos hna hal
          go_wp2_with (first
            | (refine wpList_look_v LK.out (by exact ⟨_, _, rfl, rfl, rfl⟩) (by kernel_rfl) ?_)
            | (refine wpList_len_v (LL.out _) (by exact ⟨_, rfl, rfl⟩) (by kernel_rfl) ?_))
          refine KT.out.mono ?_
          rintro e w2 ⟨ta, tc, rfl, hrw2, hwn2, hf2⟩
          obtain ⟨a', cp', w3, hr3, hro3, hf3, hn3⟩ := T.node_append w2 a cp m (T.flatN zs) (by have := (HLX.out.kept hf2 (fun _ _ _ h => h)).row; rw [HZM.out] at this; exact this) HML.out ((n, x), (ta, tc))
          have fw3 : Fr (fun _ => False) w w3 := (HFW.out.trans hf2 (fun _ _ h => h)).trans hf3 (fun i hi e => by have := HLX.out.new i e; omega)
          have fw13 : Fr (fun _ => False) w1 w3 := (HFW1.out.trans hf2 (fun _ _ h => h)).trans hf3 (fun i hi e => by have h1 := HLX.out.new i e; have h2 := HNEW.out i e; omega)
          have hnew3 : ∀ i, blk a' = some i → w1.heap.size ≤ i := fun i hi => by
            rcases hn3 i hi with h1 | h1
            · have := HNEW.out i h1; omega
            · exact Nat.le_trans (Nat.le_trans HFW1.out.size hf2.size) h1
          have fin : k + 1 ≤ len ∧ ∃ zs' : List T.Tn, zs'.length = m + 1 ∧ zs'.map Prod.fst = T.told (t.take (k + 1)) ∧ T.Lx w.heap.size w3 a' cp' zs' ∧ Fr (fun _ => False) w w3 ∧ Fr (fun _ => False) w1 w3 ∧ ∀ i, blk a' = some i → w1.heap.size ≤ i :=
            ⟨hlt, zs ++ [((n, x), (ta, tc))], by rw [List.length_append, HZM.out]; rfl, by rw [List.map_append, HZT.out, HT.out, HTe.out]; rfl, HLX.out.more hf2 hrw2 hwn2 HFW.out.size hf3 (by rw [HZM.out]; exact hro3) hn3, fw3, fw13, hnew3⟩
          have R3 := hid hr3
          have FIN := hid fin
          clear hrw2 hwn2 hf2 hr3 hro3 hf3 hn3 fw3 fw13 hnew3 fin
          dsimp only
          go_wp2_with (first | (at_builtin; refine wpList_append_eq _ _ rfl (.tmp 37) (.tmp 41) _ rfl _ _ _ rfl rfl R3.out ?_))
          go_roundw
          case rel => exact ⟨k + 1, m + 1, a', cp', by first | go_num | rfl | trivial, by first | go_num | rfl | trivial, FIN⟩
          case measure => simp [intOf]; omega
        | true =>
          have HTe := hid (show T.tells (n, x) = false by unfold T.tells; simp [hna, h2])
          have hz0 : x.ats.length = 0 := by cases hx : x.ats with | nil => rfl | cons a b => rw [hx] at hna; cases hna
          rw [hz0] at LL
          have FIN := hid (show k + 1 ≤ len ∧ ∃ zs' : List T.Tn, zs'.length = m ∧ zs'.map Prod.fst = T.told (t.take (k + 1)) ∧ T.Lx w.heap.size wr a cp zs' ∧ Fr (fun _ => False) w wr ∧ Fr (fun _ => False) w1 wr ∧ ∀ i, blk a = some i → w1.heap.size ≤ i from
            ⟨hlt, zs, HZM.out, by rw [HT.out, HTe.out, HZT.out]; simp, HLX.out, HFW.out, HFW1.out, HNEW.out⟩)
          clear hna hz0
          go_wp2_with (first
            | (refine wpList_look_v LK.out (by exact ⟨_, _, rfl, rfl, rfl⟩) (by kernel_rfl) ?_)
            | (refine wpList_len_v (LL.out _) (by exact ⟨_, rfl, rfl⟩) (by kernel_rfl) ?_))
          go_roundw
          case rel => exact ⟨k + 1, m, a, cp, by first | go_num | rfl | trivial, by first | go_num | rfl | trivial, FIN⟩
          case measure => simp [intOf]; omega
    · obtain rfl : k = len := by omega
      have HZM := hid hzm
      have HZT := hid hzt
      have HLX := hid hlx
      have HFW := hid hfw
      clear hk hzm hzt hlx hfw hfw1 hall hnw
      go_wp2
      go_ret
      refine ⟨a, cp, zs, by rw [HZM.out]; rfl, ?_, HLX.out, HFW.out⟩
      rw [HZT.out, List.take_of_length_le (by rw [HLN.out]; exact Nat.le_refl _)]
end Go.Proofs.YtilbdpnioajkoaaGreat
