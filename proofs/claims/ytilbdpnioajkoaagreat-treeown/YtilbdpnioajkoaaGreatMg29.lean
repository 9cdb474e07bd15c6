/-
  The document's tree: what it was is kept.
  The document's tree: Below.
  The document's Name.
  The document's tree: May.
-/
import Derived.Test.YtilbdpnioajkoaaGreatMg28
import Derived.Test.YtilbdpnioajkoaaGreatUFindQ
import Derived.Test.YtilbdpnioajkoaaGreatMg20
import Derived.Test.YtilbdpnioajkoaaGreatMg6
import Derived.Test.YtilbdpnioajkoaaGreatMg7
namespace Go.Proofs.YtilbdpnioajkoaaGreat
open Go.RowKit Go.Maps
set_option linter.unusedVariables false
set_option linter.unusedSimpArgs false
set_option maxRecDepth 100000
theorem U.infoR : (Tryz.prog.info? 41).map (fun i => (i.zero, i.size, i.bytes)) = some (some (.slice none 0 0), 1, 24) := by kernel_rfl
theorem U.info_r : ∃ i z, Tryz.prog.info? 41 = some i ∧ i.zero = some z ∧ i.size = 1 ∧ i.bytes = 24 ∧ z.cells.size = 1 := by
  have h1 := U.infoR
  cases hi : Tryz.prog.info? 41 with
  | none => rw [hi] at h1; cases h1
  | some i =>
    rw [hi] at h1
    simp only [Option.map_some, Option.some.injEq, Prod.mk.injEq] at h1
    exact ⟨i, _, rfl, h1.1, h1.2.1, h1.2.2, rfl⟩
/-- one more state that was, behind the others -/
theorem U.was_append (w : World) (ra : Option Addr) (rc n : Nat) (xs : List Value) (hrow : Ro w 41 1 ra n rc xs) (hb : n ≤ 3800000000000) (a : Option Addr) (l cp : Nat) :
    ∃ ra' rc' w', (Builtin.append_ #[84, 84] 84 #[.slice ra n rc, .slice (some ⟨w.heap.size, 0, none⟩) 1 1]).run Tryz.prog (w.alloc (.cells #[.slice a l cp] 41)) = .ok (.slice ra' (n + 1) rc') w' ∧
      Ro w' 41 1 ra' (n + 1) rc' (xs ++ [.slice a l cp]) ∧ Fr (fun k => blk ra = some k) w w' ∧ (∀ k, blk ra' = some k → blk ra = some k ∨ w.heap.size < k) := by
  obtain ⟨i0, z0, hi, hz0, hz1, hz2, hz3⟩ := U.info_r
  have f0 : Fr (fun _ => False) w (w.alloc (.cells #[.slice a l cp] 41)) := Fr.alloc (Fr.refl _ _) _
  have hn := Go.heap_alloc_new w (.cells #[.slice a l cp] 41)
  obtain ⟨a', c', w', hr, h2, h3, h4⟩ := run_append_o (P := Tryz.prog) (w.alloc (.cells #[.slice a l cp] 41)) 84 84 41 i0 z0 1 24 Tryz.underlying84 hi hz0 hz1 hz2 hz3 (by omega) ra n rc xs (hrow.kept f0 (fun _ _ h => h)) ⟨w.heap.size, 0, none⟩ 1 1 [.slice a l cp] rfl (fun j u hu => by
    rw [Addr.add_lit, Nat.zero_add]
    exact cellA hn (by rw [← Array.getElem?_toList]; exact hu)) (fun u hu => by simp at hu; subst hu; rfl) (by omega) (by omega) (by omega)
  refine ⟨a', c', w', hr, h2, (f0.mono (fun _ _ h => h.elim)).trans (Fr.of_grown h3) (fun i hi e => e), fun k hk => ?_⟩
  rcases h4 with ⟨rfl, _⟩ | ⟨rfl, _⟩
  · exact .inl hk
  · simp [blk] at hk; exact .inr (by omega)
namespace U
/-- with a state that was -/
def pushc (c : Nat → Option Col) (n lo hi m : Nat) (a a' : Option Addr) : Nat → Option Col := fun i =>
  if i < n then c i else if blk a' = some i then some .was else if blk a = some i then some (.hist m) else if lo ≤ i ∧ i < hi then some .attr else none
theorem Dt.push {c : Nat → Option Col} {w w2 w3 w4 w5 : World} {r : Nat} {ra : Option Addr} {rc : Nat} {zs : List T.Tn} {ha : Option Addr} {hc : Nat} {hs : List Hs} (h : Dt c w r ra rc zs ha hc hs) (f2 : Fr (fun _ => False) w w2) {a : Option Addr} {cp : Nat} {zs' : List T.Tn} (hx : T.Lx w2.heap.size w3 a cp zs') (f3 : Fr (fun _ => False) w2 w3)
    {a' : Option Addr} {cp' : Nat} (f4 : Fr (fun k => blk ha = some k) w3 w4) (hro : Ro w4 41 1 a' (hs.length + 1) cp' (hs.map hv ++ [.slice a zs'.length cp])) (hnew : ∀ k, blk a' = some k → blk ha = some k ∨ w3.heap.size < k)
    (f5 : Fr (fun i => i = r) w4 w5) (hbox : w5.heap[r]? = some (.cells #[.slice ra zs.length rc, .slice a' (hs.length + 1) cp'] 86 (0, 0))) :
    Dt (pushc c w.heap.size w2.heap.size w3.heap.size hs.length a a') w5 r ra rc zs a' cp' (hs ++ [((a, cp), zs')]) ∧ More c (pushc c w.heap.size w2.heap.size w3.heap.size hs.length a a') w.heap.size ∧ Fr (fun i => c i = some .tree ∨ c i = some .nodes ∨ c i = some .was) w w5 := by
  have s2 := f2.size
  have s3 := f3.size
  have s4 := f4.size
  have s5 := f5.size
  have hlt : ∀ {i : Nat} {col : Col}, c i = some col → i < w.heap.size := fun {i col} e => h.lo i (by rw [e]; simp)
  have hk : ∀ {i : Nat} {col : Col}, c i = some col → pushc c w.heap.size w2.heap.size w3.heap.size hs.length a a' i = some col := fun {i col} e => by
    unfold pushc
    rw [if_pos (hlt e), e]
  have fr : Fr (fun i => i = r ∨ blk ha = some i) w w5 := (((f2.trans f3 (fun _ _ h => h)).mono (fun _ _ h => h.elim)).trans f4 (fun i _ e => .inr e)).trans f5 (fun i _ e => .inl e)
  have hne : ∀ {i : Nat} {col : Col}, c i = some col → col ≠ .tree → col ≠ .was → ¬ (i = r ∨ blk ha = some i) := fun e h1 h2 er => by
    rcases er with er | er
    · rw [er, h.cr] at e; exact h1 (Option.some.inj e).symm
    · rw [h.ch _ er] at e; exact h2 (Option.some.inj e).symm
  have hat : ∀ {b : Option Addr} {n : Nat} {l : List Value}, Rw (fun i => c i = some .attr) w 2 b n l → Rw (fun i => pushc c w.heap.size w2.heap.size w3.heap.size hs.length a a' i = some .attr) w5 2 b n l := fun hb => (hb.kept fr (fun i hi => hne hi (by simp) (by simp))).mono (fun i hi => hk hi)
  have hhw : ∀ g, blk ha = some g → g < w.heap.size := fun g e => hlt (h.ch g e)
  have hrw : r < w.heap.size := hlt h.cr
  have hwn : ∀ {i : Nat}, w2.heap.size ≤ i → i < w3.heap.size → ¬ (i = r ∨ blk ha = some i) ∧ blk a' ≠ some i := fun {i} h1 h2 => ⟨fun e => by
    rcases e with e | e
    · omega
    · have := hhw i e; omega, fun e => by
    rcases hnew i e with e | e
    · have := hhw i e; omega
    · omega⟩
  refine ⟨⟨by rw [List.length_append]; exact hbox, ⟨h.now.row.kept fr (fun i hi => hne (h.cn i hi) (by simp) (by simp)), fun z hz => hat (h.now.el z hz)⟩, ?_, fun j x hx2 => ?_, hk h.cr, fun g hg => hk (h.cn g hg), fun g hg => ?_, fun i hi => ?_⟩, fun i hi => if_pos hi, fr.mono (fun i hi e => ?_)⟩
  · rw [List.length_append, List.map_append]
    exact hro.kept f5 (fun j hj e => by
      rcases hnew j hj with h1 | h1
      · rw [e] at h1; have := h.ch r h1; rw [h.cr] at this; cases this
      · omega)
  · rcases Nat.lt_trichotomy j hs.length with hj | hj | hj
    · rw [List.getElem?_append_left hj] at hx2
      obtain ⟨h1, h2⟩ := h.old j x hx2
      exact ⟨⟨h1.row.kept fr (fun i hi => hne (h2 i hi) (by simp) (by simp)), fun z hz => hat (h1.el z hz)⟩, fun g hg => hk (h2 g hg)⟩
    · subst hj
      rw [List.getElem?_append_right (Nat.le_refl _), Nat.sub_self] at hx2
      simp at hx2
      subst hx2
      have f35 : Fr (fun i => i = r ∨ blk ha = some i) w3 w5 := (f4.mono (fun i _ e => .inr e)).trans f5 (fun i _ e => .inl e)
      refine ⟨⟨hx.row.kept f35 (fun i hi => (hwn (hx.new i hi) (hx.row.lt i hi)).1), fun z hz => ((hx.el z hz).kept f35 (fun i hi => (hwn hi.1 hi.2.1).1)).mono (fun i hi => ?_)⟩, fun g hg => ?_⟩
      · obtain ⟨i1, i2, i3⟩ := hi
        unfold pushc
        rw [if_neg (by omega), if_neg (hwn i1 i2).2, if_neg i3, if_pos ⟨i1, i2⟩]
      · have i1 := hx.new g hg
        have i2 := hx.row.lt g hg
        unfold pushc
        rw [if_neg (by omega), if_neg (hwn i1 i2).2, if_pos hg]
    · rw [List.getElem?_eq_none (by rw [List.length_append]; simp; omega)] at hx2
      cases hx2
  · rcases hnew g hg with h1 | h1
    · exact hk (h.ch g h1)
    · unfold pushc
      rw [if_neg (by omega), if_pos hg]
  · unfold pushc at hi
    by_cases e1 : i < w.heap.size
    · omega
    · rw [if_neg e1] at hi
      by_cases e2 : blk a' = some i
      · have := hro.lt i e2; omega
      · rw [if_neg e2] at hi
        by_cases e3 : blk a = some i
        · have := hx.row.lt i e3; omega
        · rw [if_neg e3] at hi
          by_cases e4 : w2.heap.size ≤ i ∧ i < w3.heap.size
          · omega
          · rw [if_neg e4] at hi; exact absurd rfl hi
  · rcases e with e | e
    · rw [e]; exact .inl h.cr
    · exact .inr (.inr (h.ch i e))
end U
end Go.Proofs.YtilbdpnioajkoaaGreat

namespace Go.Proofs.YtilbdpnioajkoaaGreat
open Go.RowKit Go.Maps
set_option linter.unusedVariables false
set_option linter.unusedSimpArgs false
set_option maxRecDepth 100000
attribute [local go_sem] Oper.semAt_some
/-- a row of nodes has these numbers and parents -/
def U.Np (w : World) (ra : Option Addr) (t : T.Tr) : Prop := ∀ k p, t[k]? = some p → ∃ g o, ra = some ⟨g, o, none⟩ ∧ w.cell? ⟨g, o + k * 4, none⟩ = some (.int .i64 p.1) ∧ w.cell? ⟨g, o + k * 4 + 1, none⟩ = some (.int .i64 p.2.par)
theorem U.Np.nu {w : World} {ra : Option Addr} {t : T.Tr} (h : U.Np w ra t) : U.Nu w ra t := fun k p hp => by
  obtain ⟨g, o, h1, h2, _⟩ := h k p hp
  exact ⟨g, o, h1, h2⟩
set_option maxHeartbeats 4000000 in
theorem ubelow_any {w : World} {r : Nat} {ra : Option Addr} {rc : Nat} {t : T.Tr} {hv : Value} (hb : w.heap[r]? = some (.cells #[.slice ra t.length rc, hv] 86 (0, 0))) (hN : ∀ W, Fr (fun _ => False) w W → U.Np W ra t) (hu : A.Up t) (hl : t.length ≤ 8000000000000) {K : Nat} (hK : ∀ n, T.ends t K n) (n a : Int) :
    Calls Tryz.prog 35 #[ptr r, .int .i64 n, .int .i64 a] w fun e w' => e = .returned (.bool ((A.get a t).isSome && T.up t K n a)) ∧ Fr (fun _ => False) w w' := by
  have KF := hid (fun (W : World) (hf : Fr (fun _ => False) w W) (m : Int) => ufind_any (rc := rc) (hf.cells hb (fun h => h)) (fun V hV => (hN V (hf.trans hV (fun _ _ h => h))).nu) hu hl m)
  have HB := hid hb
  have HN := hid hN
  have HU := hid hu
  obtain ⟨len, hlen⟩ : ∃ n, t.length = n := ⟨_, rfl⟩
  have HL := hid hlen
  rw [hlen] at hl
  have HS := hid (fun (m : Int) (x : T.Nd) (hx : A.get m t = some x) => show T.hgt t K x.par < T.hgt t K m ∧ T.up t K m a = if m = a then true else T.up t K x.par a by
    have e := hK m
    cases K with
    | zero => rw [show A.get m t = none from e] at hx; cases hx
    | succ K =>
      have e2 := e x hx
      refine ⟨?_, ?_⟩
      · rw [T.hgt_succ e2]
        show T.hgt t K x.par < T.hgt t (K + 1) m
        simp only [T.hgt, hx]
        omega
      · rw [T.up_succ e2]
        simp only [T.up, hx])
  clear hb hN hK hu hlen
  obtain ⟨q, hq⟩ : ∃ q, T.up t K n a = q := ⟨_, rfl⟩
  rw [hq]
  have HQ := hid hq
  clear hq
  go_enter Tryz.func35, Tryz.ntmps35
  go_wp2_with fail
  refine (KF.out w (Fr.refl _ _) a).mono ?_
  rintro e w1 ⟨rfl, hf1⟩
  have F1 := hid hf1
  clear hf1
  dsimp only
  go_wp2_with fail
  go_loopw [1] (fun i wr => ∃ m : Int, i = .int .i64 m ∧ Hid (T.up t K m a = q ∧ Fr (fun _ => False) w wr))
    (fun i _ => T.hgt t K (intOf i))
  case atStart => exact ⟨n, rfl, hid ⟨HQ.out, F1.out⟩⟩
  case round =>
    obtain ⟨m, rfl, hall⟩ := hrel
    have HA := hid hall.out.1
    have HF := hid hall.out.2
    clear hall
    cases hA : (A.get a t).isSome with
    | true =>
      have KF1 := hid (KF.out wr HF.out m)
      go_wp2_with fail
      refine KF1.out.mono ?_
      rintro e w2 ⟨rfl, hf2⟩
      have F2 := hid (HF.out.trans hf2 (fun _ _ h => h))
      clear hf2 KF1
      dsimp only
      cases hg : A.get m t with
      | none =>
        have HQ2 := hid (show false = q from by
          rw [← HA.out]
          cases K with
          | zero => rfl
          | succ K => simp only [T.up, hg])
        clear hg
        dsimp only [Option.isSome_none]
        go_wp2_with fail
        go_ret
        exact ⟨ret_bool (by rw [← HQ2.out, Bool.and_false]), F2.out⟩
      | some x =>
        obtain ⟨s1, s2⟩ := HS.out m x hg
        have HS1 := hid s1
        obtain ⟨g, o, rfl, _, c1⟩ := HN.out w2 F2.out (A.low m t) (m, x) ((A.low_get HU.out).1 hg)
        have c0 : w2.cell? ⟨r, 0, none⟩ = some (.slice (some ⟨g, o, none⟩) len rc) := by
          have := F2.out.cells HB.out (fun h => h)
          rw [HL.out] at this
          exact cellA (j := 0) this rfl
        have hlo := (List.getElem?_eq_some_iff.1 ((A.low_get HU.out).1 hg)).1
        rw [HL.out] at hlo
        generalize A.low m t = lo at *
        have i0 : (0 : Int) ≤ (lo : Int) := by omega
        have i1 : (lo : Int) < (len : Int) := by omega
        by_cases e : m = a
        · have HQ2 := hid (show true = q from by rw [← HA.out, s2, if_pos e])
          clear s1 s2 hg
          subst e
          dsimp only [Option.isSome_some]
          go_wp2_with fail
          go_ret
          exact ⟨ret_bool HQ2.out, F2.out⟩
        · have HREL := hid (show T.up t K x.par a = q ∧ Fr (fun _ => False) w w2 from ⟨by rw [← HA.out, s2, if_neg e], F2.out⟩)
          have e2 : (m == a) = false := by simp [e]
          clear s1 s2 hg
          dsimp only [Option.isSome_some]
          go_wp2_with fail
          go_roundw
          case rel => exact ⟨x.par, by first | rfl | trivial, HREL⟩
          case measure => exact HS1.out
    | false =>
      go_wp2_with fail
      go_ret
      exact ⟨ret_bool (by rw [hA]; rfl), HF.out⟩
end Go.Proofs.YtilbdpnioajkoaaGreat

namespace Go.Proofs.YtilbdpnioajkoaaGreat
open Go.RowKit
set_option linter.unusedVariables false
set_option maxRecDepth 100000
set_option linter.unusedSimpArgs false

theorem wpList_index_t {ops : Array Oper} {rest : List Oper} {o : Oper} {a : Act} {w : World} {Q : Exit → Act → World → Prop} {ty : TypeId} {u i v : Value} (hl : (Instr.index ty u i).run Tryz.prog w = .ok v w) (h0 : ∃ x y, o.op = .index ty x y ∧ a.eval x = u ∧ a.eval y = i) (hw : Region.wanted o (yielded ops a.tmps) = true)
    (h : wpList Tryz.prog ops Q rest (a.put o.dst v) w) : wpList Tryz.prog ops Q (o :: rest) a w :=
  wpList_step fun K hK => by
    obtain ⟨x, y, ho, hx, hy⟩ := h0
    rw [if_pos hw]
    unfold Oper.wp execOp
    simp only [ho, hx, hy, hl, Sem.run_bind, Result.andThen_ok]
    exact hK _ _ h
/-- its sum -/
def S.tot (f : Nat → Int) : Nat → Int
  | 0 => 0
  | k + 1 => wrap64 (S.tot f k + f k)
def S.cnt (n : Int) : Bool := decide (0 ≤ n ∧ n ≤ 1099511627776)
/-- a vector may be -/
def S.okv (f : Nat → Int) : Nat → Bool
  | 0 => true
  | k + 1 => S.okv f k && S.cnt (f k)
theorem run_str_byte_t (w : World) (s : ByteArray) (k : Nat) (x : UInt8) (h : s.data.toList[k]? = some x) :
    (Instr.index 9 (.string s) (.int .i64 (k : Int))).run Tryz.prog w = .ok (B x) w := by
  have hk : k < s.data.toList.length := by
    rcases Nat.lt_or_ge k s.data.toList.length with h1 | h1
    · exact h1
    · rw [List.getElem?_eq_none h1] at h; cases h
  have hk2 : k < s.size := by rw [Array.length_toList] at hk; exact hk
  have hi : (0 : Int) ≤ (k : Int) ∧ (k : Int) < (s.size : Int) := by omega
  rw [run_index_string (P := Tryz.prog) (w := w) 9 s .i64 (k : Int) Tryz.underlying9, dif_pos hi]
  have e2 : s.data.toList[k]? = some (s[(k : Int).toNat]'(by omega)) := by
    rw [List.getElem?_eq_getElem hk, Array.getElem_toList]
    rfl
  rw [h] at e2
  simp only [Option.some.injEq] at e2
  rw [← e2]
set_option maxHeartbeats 3200000 in
theorem rtname_any (s : ByteArray) (w : World) : Calls Tryz.prog 50 #[.string s] w fun e w' => e = .returned (.bool (T.nam s)) ∧ w = w' := by
  by_cases hl : 255 < s.size
  · have h1 : (255 : Int) < (s.size : Int) := by omega
    rw [show T.nam s = false by simp [T.nam, T.txt, Nat.not_le.2 hl]]
    cases h0 : s.toList.isEmpty <;>
    · go_enter Tryz.func50, Tryz.ntmps50
      go_wp2
      go_ret
      exact ⟨rfl, rfl⟩
  · have hl1 : ¬ (255 : Int) < (s.size : Int) := by omega
    have hl2 : s.size ≤ 255 := by omega
    have hlen : s.data.toList.length = s.size := by rw [Array.length_toList]; rfl
    by_cases hbad : s.toList.isEmpty = true ∨ (s.toList == [46]) = true ∨ (s.toList == [46, 46]) = true
    · rw [show T.nam s = false by
        unfold T.nam T.txt
        rcases hbad with h | h | h <;> simp [h]]
      cases h0 : s.toList.isEmpty <;> cases h1 : (s.toList == [46]) <;> cases h2 : (s.toList == [46, 46]) <;>
      · first
        | (exfalso; simp [h0, h1, h2] at hbad; done)
        | (clear hbad
           go_enter Tryz.func50, Tryz.ntmps50
           go_wp2
           all_goals (go_ret; exact ⟨rfl, rfl⟩))
    · have h0 : s.toList.isEmpty = false := by cases h : s.toList.isEmpty with | false => rfl | true => exact absurd (.inl h) hbad
      have h1 : (s.toList == [46]) = false := by cases h : (s.toList == [46]) with | false => rfl | true => exact absurd (.inr (.inl h)) hbad
      have h2 : (s.toList == [46, 46]) = false := by cases h : (s.toList == [46, 46]) with | false => rfl | true => exact absurd (.inr (.inr h)) hbad
      have HR := hid (show T.nam s = !T.slash s by simp [T.nam, T.txt, h0, h1, h2, hl2])
      obtain ⟨n, hn⟩ : ∃ n, s.size = n := ⟨_, rfl⟩
      have HB := hid (fun w k x => run_str_byte_t w s k x)
      have HLEN := hid (hlen.trans hn)
      clear hbad hlen hl2
      go_enter Tryz.func50, Tryz.ntmps50
      rw [hn] at hl hl1
      go_wp2
      go_loopw [3] (fun i wr => ∃ (k : Nat), k ≤ n ∧ i = .int .i64 k ∧ Hid (∀ j, j < k → s.data.toList[j]? ≠ some 47) ∧ wr = w) (fun i _ => n - (intOf i).toNat)
      case atStart => exact ⟨0, Nat.zero_le _, rfl, hid (fun j hj => by omega), rfl⟩
      case round =>
        obtain ⟨k, hk, rfl, HK, rfl⟩ := hrel
        by_cases hlt : k < n
        · obtain ⟨x, hx⟩ : ∃ x, s.data.toList[k]? = some x := ⟨_, List.getElem?_eq_getElem (by rw [HLEN.out]; exact hlt)⟩
          have HX := hid hx
          have IX := hid (fun W => HB.out W k x hx)
          have i0 : (0 : Int) ≤ (k : Int) := by omega
          have i1 : (k : Int) < (n : Int) := by omega
          clear hx
          by_cases h47 : x = 47
          · have HN := hid (show T.nam s = false by
              have h5 : T.slash s = true := by
                simp only [T.slash, List.contains_iff_mem]
                rw [h47] at HX
                exact List.mem_of_getElem? HX.out
              rw [HR.out, h5]; rfl)
            have hy : ((x.toNat : Int) == 47) = true := by rw [h47]; rfl
            unfold B at IX
            generalize (x.toNat : Int) = y at IX hy
            clear h47
            go_wp2_with (first
              | (refine wpList_index_t (IX.out _) (by exact ⟨_, _, rfl, rfl, rfl⟩) (by kernel_rfl) ?_))
            go_ret
            exact ⟨ret_bool HN.out.symm, rfl⟩
          · have hy : ((x.toNat : Int) == 47) = false := by
              simp only [beq_eq_false_iff_ne, ne_eq]
              intro e
              apply h47
              apply UInt8.toNat_inj.1
              show x.toNat = 47
              omega
            have HK2 := hid (show ∀ j, j < k + 1 → s.data.toList[j]? ≠ some 47 from fun j hj => by
              by_cases e : j = k
              · subst e
                rw [HX.out]
                intro e2
                exact h47 (Option.some.inj e2)
              · exact HK.out j (by omega))
            unfold B at IX
            generalize (x.toNat : Int) = y at IX hy
            clear h47
            go_wp2_with (first
              | (refine wpList_index_t (IX.out _) (by exact ⟨_, _, rfl, rfl, rfl⟩) (by kernel_rfl) ?_))
            go_roundw
            case rel => exact ⟨k + 1, by omega, by first | go_num | trivial, HK2, by first | rfl | trivial⟩
            case measure => simp [intOf]; omega
        · obtain rfl : k = n := by omega
          have HN := hid (show T.nam s = true by
            have h5 : T.slash s = false := by
              cases h : T.slash s with
              | false => rfl
              | true =>
                simp only [T.slash, List.contains_iff_mem] at h
                obtain ⟨j, hj⟩ := List.getElem?_of_mem h
                exact absurd hj (HK.out j (by have := (List.getElem?_eq_some_iff.1 hj).1; rw [HLEN.out] at this; exact this))
            rw [HR.out, h5]; rfl)
          go_wp2
          go_ret
          exact ⟨ret_bool HN.out.symm, rfl⟩
end Go.Proofs.YtilbdpnioajkoaaGreat

namespace Go.Proofs.YtilbdpnioajkoaaGreat
open Go.RowKit Go.Maps
set_option linter.unusedVariables false
set_option linter.unusedSimpArgs false
set_option maxRecDepth 100000
attribute [local go_sem] Oper.semAt_some
theorem U.Dt.below {c : Nat → Option U.Col} {w : World} {r : Nat} {ra : Option Addr} {rc : Nat} {zs : List T.Tn} {ha : Option Addr} {hc : Nat} {hs : List U.Hs} (h : U.Dt c w r ra rc zs ha hc hs) (hw : T.Wf (U.pl zs)) (hl : zs.length ≤ 3800000000000) (n a : Int) :
    Calls Tryz.prog 35 #[ptr r, .int .i64 n, .int .i64 a] w fun e w' => e = .returned (.bool ((A.get a (U.pl zs)).isSome && T.below (U.pl zs) n a)) ∧ Fr (fun _ => False) w w' := by
  obtain ⟨K, hK⟩ := hw.fin
  rw [← T.below_eq (hK n) a]
  exact ubelow_any (hv := .slice ha hs.length hc) (t := U.pl zs) (by rw [U.pl_len]; exact h.box) (fun W hW k p hp => (h.now.kept hW (fun _ _ h => h) (fun _ _ h => h)).np hp) hw.up (by rw [U.pl_len]; omega) hK n a
set_option maxHeartbeats 4000000 in
theorem umay_any {c : Nat → Option U.Col} {w : World} {r : Nat} {ra : Option Addr} {rc : Nat} {zs : List T.Tn} {ha : Option Addr} {hc : Nat} {hs : List U.Hs} (h : U.Dt c w r ra rc zs ha hc hs) (hw : T.Wf (U.pl zs)) (hl : zs.length ≤ 3800000000000) (o : S.Op) :
    Calls Tryz.prog 41 #[ptr r, .agg o.cs] w fun e w' => e = .returned (.bool (T.guard (U.pl zs) o)) ∧ Fr (fun _ => False) w w' := by
  obtain ⟨W, hW⟩ : ∃ W, w.alloc (.cells o.cs 35) = W := ⟨_, rfl⟩
  have fW : Fr (fun _ => False) w W := by rw [← hW]; exact Fr.alloc (Fr.refl _ _) _
  have hbx : W.heap[w.heap.size]? = some (.cells o.cs 35 (0, 0)) := by rw [← hW]; exact Go.heap_alloc_new w _
  have KF := hid (fun (V : World) (hf : Fr (fun _ => False) w V) (n : Int) => (h.kept hf (fun _ _ h => h)).find hw.up (by omega) n)
  have KB := hid (fun (V : World) (hf : Fr (fun _ => False) w V) => (h.kept hf (fun _ _ h => h)).below hw hl o.p o.n)
  have KN := hid (rtname_any o.a)
  have FW := hid fW
  have HW := hid hW
  have CS := hid (show ∀ V, Fr (fun _ => False) W V → V.cell? ⟨w.heap.size, 2, none⟩ = some (.int .i64 o.k) ∧ V.cell? ⟨w.heap.size, 3, none⟩ = some (.int .i64 o.n) ∧ V.cell? ⟨w.heap.size, 4, none⟩ = some (.int .i64 o.p) ∧ V.cell? ⟨w.heap.size, 5, none⟩ = some (.string o.a) ∧ V.cell? ⟨w.heap.size, 6, none⟩ = some (.string o.b) ∧ V.cell? ⟨w.heap.size, 7, none⟩ = some (.string o.c) from fun V hf => by
    have := hf.cells hbx (fun h => h)
    exact ⟨cellA (j := 2) this rfl, cellA (j := 3) this rfl, cellA (j := 4) this rfl, cellA (j := 5) this rfl, cellA (j := 6) this rfl, cellA (j := 7) this rfl⟩)
  obtain ⟨gd, hgd⟩ : ∃ b, T.guard (U.pl zs) o = b := ⟨_, rfl⟩
  obtain ⟨ui, hui⟩ : ∃ b, T.below (U.pl zs) o.p o.n = b := ⟨_, rfl⟩
  obtain ⟨ni, hni⟩ : ∃ b, (A.get o.n (U.pl zs)).isSome = b := ⟨_, rfl⟩
  obtain ⟨pi, hpi⟩ : ∃ b, (A.get o.p (U.pl zs)).isSome = b := ⟨_, rfl⟩
  obtain ⟨nm, hnm⟩ : ∃ b, T.nam o.a = b := ⟨_, rfl⟩
  have KF1 := hid (KF.out W fW o.n)
  have KF2 := hid (fun (V : World) (hf : Fr (fun _ => False) w V) => KF.out V hf o.p)
  rw [hni] at KF1 KB
  rw [hui] at KB
  rw [hpi] at KF2
  rw [hnm] at KN
  rw [hgd]
  have GD := hid (show gd = if o.k = 1 then decide (2 < o.n) && (!ni && (pi && nm)) else if o.k = 2 then decide (2 < o.n) && (ni && (pi && (nm && !ui))) else if o.k = 3 then ni && (T.txt o.b && decide (o.c.size ≤ 255)) else false from by
    rw [← hgd, ← hni, ← hpi, ← hnm, ← hui]
    rfl)
  have c3 := (CS.out W (Fr.refl _ _)).2.1
  generalize A.low o.n (U.pl zs) = lo1 at KF1
  generalize A.low o.p (U.pl zs) = lo2 at KF2
  clear h hw hl hbx fW hW KF hgd hui hni hpi hnm
  go_enter Tryz.func41, Tryz.ntmps41
  go_wp2_with fail
  rw [HW.out]
  refine KF1.out.mono ?_
  rintro e w1 ⟨rfl, hf1⟩
  have c4 := (CS.out w1 hf1).2.2.1
  have F1 := hid hf1
  have KF3 := hid (KF2.out w1 (FW.out.trans hf1 (fun _ _ h => h)))
  clear hf1 c3 KF1 KF2
  dsimp only
  go_wp2_with fail
  refine KF3.out.mono ?_
  rintro e w2 ⟨rfl, hf2⟩
  have F2 := hid (F1.out.trans hf2 (fun _ _ h => h))
  have F2w := hid (FW.out.trans F2.out (fun _ _ h => h))
  obtain ⟨c2, c3, c4, c5, c6, c7⟩ := CS.out w2 F2.out
  have KB2 := hid (KB.out w2 F2w.out)
  have KN2 := hid (KN.out w2)
  clear hf2 KF3 KB
  dsimp only
  by_cases k1 : o.k = 1
  · rw [k1] at c2
    have G1 := hid (show gd = (decide (2 < o.n) && (!ni && (pi && nm))) from by rw [GD.out, if_pos k1])
    clear c6 c7 k1 GD KB2
    by_cases h2 : 2 < o.n
    · cases ni with
      | true =>
        go_wp2_with fail
        go_ret
        exact ⟨ret_bool (by rw [G1.out]; simp), F2w.out⟩
      | false =>
        cases pi with
        | false =>
          go_wp2_with fail
          go_ret
          exact ⟨ret_bool (by rw [G1.out]; simp), F2w.out⟩
        | true =>
          go_wp2_with fail
          refine KN2.out.mono ?_
          rintro e w3 ⟨rfl, rfl⟩
          dsimp only
          go_wp2_with fail
          go_ret
          exact ⟨ret_bool (by rw [G1.out]; simp [h2]), F2w.out⟩
    · go_wp2_with fail
      go_ret
      exact ⟨ret_bool (by rw [G1.out, decide_eq_false (show ¬ 2 < o.n by omega)]; rfl), F2w.out⟩
  · have e1 : (o.k == 1) = false := by simp [k1]
    by_cases k2 : o.k = 2
    · rw [k2] at c2
      have G1 := hid (show gd = (decide (2 < o.n) && (ni && (pi && (nm && !ui)))) from by rw [GD.out, if_neg k1, if_pos k2])
      clear c6 c7 k1 k2 GD e1
      cases ni with
      | false =>
        go_wp2_with fail
        go_ret
        exact ⟨ret_bool (by rw [G1.out]; simp), F2w.out⟩
      | true =>
        by_cases h2 : 2 < o.n
        · cases pi with
          | false =>
            go_wp2_with fail
            go_ret
            exact ⟨ret_bool (by rw [G1.out]; simp), F2w.out⟩
          | true =>
            go_wp2_with fail
            refine KB2.out.mono ?_
            rintro e w3 ⟨rfl, hf3⟩
            have F3 := hid (F2w.out.trans hf3 (fun _ _ h => h))
            have d5 := cellFr hf3 (fun h => h) c5
            have KN3 := hid (KN.out w3)
            clear hf3 KB2 KN2 c2 c3 c4 c5
            dsimp only
            cases ui with
            | true =>
              go_wp2_with fail
              go_ret
              exact ⟨ret_bool (by rw [G1.out]; simp), F3.out⟩
            | false =>
              go_wp2_with fail
              refine KN3.out.mono ?_
              rintro e w4 ⟨rfl, rfl⟩
              dsimp only
              go_wp2_with fail
              go_ret
              exact ⟨ret_bool (by rw [G1.out]; simp [h2]), F3.out⟩
        · go_wp2_with fail
          go_ret
          exact ⟨ret_bool (by rw [G1.out, decide_eq_false (show ¬ 2 < o.n by omega)]; rfl), F2w.out⟩
    · have e2 : (o.k == 2) = false := by simp [k2]
      by_cases k3 : o.k = 3
      · rw [k3] at c2
        have G1 := hid (show gd = (ni && (T.txt o.b && decide (o.c.size ≤ 255))) from by rw [GD.out, if_neg k1, if_neg k2, if_pos k3])
        clear c3 c4 c5 k1 k2 k3 GD e1 e2 KB2 KN2
        cases ni with
        | false =>
          go_wp2_with fail
          go_ret
          exact ⟨ret_bool (by rw [G1.out]; simp), F2w.out⟩
        | true =>
          have G2 := hid (show gd = (!o.b.toList.isEmpty && (decide (o.b.size ≤ 255) && decide (o.c.size ≤ 255))) from by
            rw [G1.out]
            unfold T.txt
            simp [Bool.and_assoc])
          clear G1
          by_cases hbs : o.b.size ≤ 255 <;> by_cases hcs : o.c.size ≤ 255 <;> cases hb : o.b.toList.isEmpty <;>
          · have hbi : ((o.b.size : Int) ≤ 255) = (o.b.size ≤ 255) := by simp; omega
            have hci : ((o.c.size : Int) ≤ 255) = (o.c.size ≤ 255) := by simp; omega
            go_wp2_with fail
            all_goals
              go_ret
              refine ⟨ret_bool ?_, F2w.out⟩
              rw [G2.out, hb]
              simp [hbs, hcs]
      · have e3 : (o.k == 3) = false := by simp [k3]
        have G1 := hid (show gd = false from by rw [GD.out, if_neg k1, if_neg k2, if_neg k3])
        clear c3 c4 c5 c6 c7 k1 k2 k3 GD KB2 KN2
        go_wp2_with fail
        go_ret
        exact ⟨ret_bool G1.out.symm, F2w.out⟩
end Go.Proofs.YtilbdpnioajkoaaGreat
