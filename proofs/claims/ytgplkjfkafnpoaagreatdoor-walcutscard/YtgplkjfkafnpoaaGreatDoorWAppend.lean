/-
  The contracts of a log: put, Append, Sync.
-/
import Derived.Test.YtgplkjfkafnpoaaGreatDoorWPut2
namespace Go.Proofs.YtgplkjfkafnpoaaGreatDoor
open Go.RowKit
set_option linter.unusedVariables false

theorem put_any {S : Nat → Prop} {w : World} {p q : Nat} {d : K.DK} {L : W.LG} {a : Option Addr} {len : Nat} {bs : List UInt8} (h : PutPre S w p q d L a len bs) (c : Nat) :
    Calls Tryz.prog 63 #[.pointer (some ⟨q, 0, none⟩), .slice a len c] w fun e w' => e = .returned (.int .i64 (W.put d L bs).1) ∧ LT S w p q (W.put d L bs).2.1 (W.put d L bs).2.2 w' := by
  by_cases he : (W.place d L).1 = 0
  · cases hn : (W.place d L).2.1 with
    | true => exact put_new h c he hn
    | false => exact put_old h c he hn
  · exact put_err h c he
namespace W
theorem more_recs {l : List SG} {b : List UInt8} {B : Nat} (h : ∀ s ∈ l, s.recs.length ≤ B) : ∀ s ∈ more l b, s.recs.length ≤ B + 1 := by
  induction l with
  | nil => intro s hs; simp [more] at hs
  | cons x r ih =>
    cases r with
    | nil =>
      intro s hs
      simp [more] at hs
      subst hs
      have := h x (by simp)
      simp; omega
    | cons y t =>
      intro s hs
      have hs' : s ∈ x :: more (y :: t) b := hs
      rcases List.mem_cons.1 hs' with rfl | hs'
      · have := h s (by simp); omega
      · exact ih (fun s hs => h s (List.mem_cons_of_mem _ hs)) s hs'
theorem put_facts (d : K.DK) (L : LG) (r : List UInt8) : (put d L r).2.1.room = d.room ∧ (put d L r).2.2.spoilt = L.spoilt ∧ (put d L r).2.2.synced = L.synced ∧ (put d L r).2.2.nm = L.nm ∧ ((put d L r).1 = 0 → (put d L r).2.2.next = L.next + 1) ∧ (put d L r).2.2.segs.length ≤ L.segs.length + 1 ∧ ∀ B, (∀ s ∈ L.segs, s.recs.length ≤ B) → ∀ s ∈ (put d L r).2.2.segs, s.recs.length ≤ B + 1 := by
  obtain ⟨p1, p2, p3, p4, p5, p6, p7⟩ := place_facts d L
  have hB : ∀ B, (∀ s ∈ L.segs, s.recs.length ≤ B) → ∀ s ∈ L.segs, s.recs.length ≤ B + 1 := fun B h s hs => by have := h s hs; omega
  unfold put
  simp only
  split
  · rename_i h
    exact ⟨p6, p5, p4, p2, fun h0 => absurd h0 h, by rw [p1]; omega, fun B h => by rw [p1]; exact hB B h⟩
  · split
    · rename_i h
      exact ⟨by rw [K.app_room]; exact p6, p5, p4, p2, fun h0 => absurd h0 h, by rw [p1]; omega, fun B h => by rw [p1]; exact hB B h⟩
    · refine ⟨by rw [K.app_room]; exact p6, p5, p4, p2, fun _ => by show (place d L).2.2.2.next + 1 = _; rw [p3], ?_, fun B h => ?_⟩
      · unfold LG.add
        simp only
        split
        · rw [List.length_append, p1]; simp
        · rw [more_length, p1]; omega
      · unfold LG.add
        simp only
        split
        · intro s hs
          rcases List.mem_append.1 hs with hs | hs
          · rw [p1] at hs; exact hB B h s hs
          · simp at hs; subst hs; simp
        · rw [p1]; exact more_recs h
end W
/-- RECORDS THAT ARE HANDED IN, in U's blocks. -/
def Rq (U : Nat → Prop) (w : World) (a : Option Addr) (len : Nat) (bss : List (List UInt8)) : Prop :=
  bss.length = len ∧ (len = 0 ∨ ∃ b off, a = some ⟨b, off, none⟩ ∧ U b ∧ ∀ k bs, bss[k]? = some bs → ∃ A C, w.cell? ⟨b, off + k, none⟩ = some (.slice A bs.length C) ∧ Sl w A bs.length bs ∧ bs.length ≤ 9223372036854775807 ∧ (0 < bs.length → ∀ j, blk A = some j → U j))
theorem Rq.kept {U S : Nat → Prop} {w w' : World} {a : Option Addr} {len : Nat} {bss : List (List UInt8)} (h : Rq U w a len bss) (hf : Fr S w w') (hS : ∀ k, U k → ¬ S k) : Rq U w' a len bss := by
  refine ⟨h.1, ?_⟩
  rcases h.2 with h0 | ⟨b, off, ha, hb, hc⟩
  · exact .inl h0
  · refine .inr ⟨b, off, ha, hb, fun k bs hk => ?_⟩
    obtain ⟨A, C, h1, h2, h3, h4⟩ := hc k bs hk
    exact ⟨A, C, cell_fr hf (hS b hb) h1, h2.kept hf (fun hz j hj => hS j (h4 hz j hj)), h3, h4⟩
theorem Rq.at {U : Nat → Prop} {w : World} {a : Option Addr} {len : Nat} {bss : List (List UInt8)} (h : Rq U w a len bss) {k : Nat} (hk : k < len) :
    ∃ b off bs A C, a = some ⟨b, off, none⟩ ∧ bss[k]? = some bs ∧ w.cell? ⟨b, off + k, none⟩ = some (.slice A bs.length C) ∧ Sl w A bs.length bs ∧ bs.length ≤ 9223372036854775807 ∧ (0 < bs.length → ∀ j, blk A = some j → U j) ∧ U b := by
  rcases h.2 with h0 | ⟨b, off, ha, hb, hc⟩
  · omega
  · have hl := h.1
    have hx : bss[k]? = some bss[k] := List.getElem?_eq_getElem (by omega)
    obtain ⟨A, C, h1, h2, h3, h4⟩ := hc k _ hx
    exact ⟨b, off, bss[k], A, C, ha, hx, h1, h2, h3, h4, hb⟩
/-- what Append is told -/
structure AppPre (I : K.DK → W.LG → Prop) (S U : Nat → Prop) (w : World) (p q : Nat) (d : K.DK) (L : W.LG) (a : Option Addr) (len : Nat) (rs : List (List UInt8)) : Prop where
  ld : LD S w p q d L
  tv : Tv w
  hG : ¬ S 0
  room : d.room ≤ K.cap
  rq : Rq U w a len rs
  ap : ∀ k, U k → ¬ S k ∧ k < w.heap.size
  len : len ≤ 9223372036854775807
  inv : I d L
  step : ∀ d L r, I d L → 0 < r.length → r.length ≤ 65536 → (W.put d L r).1 = 0 → I (W.put d L r).2.1 (W.put d L r).2.2
  few : ∀ d L, I d L → L.segs.length ≤ 100000000 ∧ ∀ s ∈ L.segs, s.recs.length ≤ 100000000
  low : ∀ d L, I d L → rs.length ≤ 1000000000000000 ∨ L.next ≤ 999999999999
theorem any_bad {rs : List (List UInt8)} {k : Nat} {r : List UInt8} (h : rs[k]? = some r) (hb : r.length = 0 ∨ 65536 < r.length) : rs.any W.badRec = true := by
  rw [List.any_eq_true]
  exact ⟨r, List.mem_of_getElem? h, by unfold W.badRec; simpa using hb⟩
theorem puts_drop {d : K.DK} {L : W.LG} {rs : List (List UInt8)} {k : Nat} {r : List UInt8} (h : rs[k]? = some r) : W.puts d L (rs.drop k) = if (W.put d L r).1 ≠ 0 then ((W.put d L r).1, (W.put d L r).2.1, { (W.put d L r).2.2 with spoilt := true }) else W.puts (W.put d L r).2.1 (W.put d L r).2.2 (rs.drop (k + 1)) := by
  have hk := (List.getElem?_eq_some_iff.1 h).1
  have e : rs.drop k = r :: rs.drop (k + 1) := by
    rw [List.drop_eq_getElem_cons hk]
    congr 1
    exact (List.getElem?_eq_some_iff.1 h).2
  rw [e]
  rfl
/-- the log spoilt, in its blocks -/
theorem LD.spoil {S : Nat → Prop} {w : World} {p q : Nat} {d : K.DK} {L : W.LG} (h : LD S w p q d L) : (∃ sp, w.cell? ⟨q, 6, none⟩ = some (.bool sp)) ∧ w.frozen? ⟨q, 6, none⟩ = false ∧ LT S w p q d { L with spoilt := true } (w.setCell ⟨q, 6, none⟩ (.bool true)) := by
  obtain ⟨h1, Sd, Sl, h2, h3, h4, h5, g1, ok, c, sa, sc, sl, hcs, hm⟩ := h
  have hlk := hm.lk (w' := w.setCell ⟨q, 6, none⟩ (.bool true)) (L' := { L with spoilt := true }) (S := Sl) g1 hcs (Fr.setCell (p := ⟨q, 6, none⟩) (S := fun k => k = q) (Fr.refl _ _) (fun _ => rfl) _) (by rw [setCell_row hm.at_]; rfl) rfl ⟨ok.nm, ok.n0, ok.n1, ok.fs, ok.di⟩
  exact ⟨⟨_, hm.k.2.2.2.2.2.2⟩, frozen_of_row (j := 6) hm.at_, LD.log h1 h2 h3 h4 h5 hlk.2 hlk.1⟩
theorem LD.resync {S : Nat → Prop} {w : World} {p q : Nat} {d : K.DK} {L : W.LG} (h : LD S w p q d L) : w.frozen? ⟨q, 4, none⟩ = false ∧ LT S w p q d { L with synced := L.next } (w.setCell ⟨q, 4, none⟩ (.int .i64 L.next)) := by
  obtain ⟨h1, Sd, Sl, h2, h3, h4, h5, g1, ok, c, sa, sc, sl, hcs, hm⟩ := h
  have hlk := hm.lk (w' := w.setCell ⟨q, 4, none⟩ (.int .i64 L.next)) (L' := { L with synced := L.next }) (S := Sl) g1 hcs (Fr.setCell (p := ⟨q, 4, none⟩) (S := fun k => k = q) (Fr.refl _ _) (fun _ => rfl) _) (by rw [setCell_row hm.at_]; rfl) rfl ⟨ok.nm, ok.n0, ok.n1, ok.fs, ok.di⟩
  exact ⟨frozen_of_row (j := 4) hm.at_, LD.log h1 h2 h3 h4 h5 hlk.2 hlk.1⟩
theorem LD.cells {S : Nat → Prop} {w : World} {p q : Nat} {d : K.DK} {L : W.LG} (h : LD S w p q d L) : W.Ok L ∧ w.cell? ⟨q, 1, none⟩ = some (encStr L.nm) ∧ w.cell? ⟨q, 3, none⟩ = some (.int .i64 L.next) ∧ w.cell? ⟨q, 4, none⟩ = some (.int .i64 L.synced) ∧ w.cell? ⟨q, 6, none⟩ = some (.bool L.spoilt) ∧ S q := by
  obtain ⟨h1, Sd, Sl, h2, h3, h4, h5, g1, ok, c, sa, sc, sl, hcs, hm⟩ := h
  exact ⟨ok, hm.k.2.1, hm.k.2.2.2.1, hm.k.2.2.2.2.1, hm.k.2.2.2.2.2.2, h3 q (hcs q (by rw [hm.cq]; simp))⟩

set_option maxHeartbeats 1600000 in
set_option maxRecDepth 20000 in
theorem wappend_any {I : K.DK → W.LG → Prop} {S U : Nat → Prop} {w : World} {p q : Nat} {d : K.DK} {L : W.LG} {a : Option Addr} {len : Nat} {rs : List (List UInt8)} (h : AppPre I S U w p q d L a len rs) (c : Nat) :
    Calls Tryz.prog 20 #[.pointer (some ⟨q, 0, none⟩), .slice a len c] w fun e w' => e = .returned (.int .i64 (W.app d L rs).1) ∧ LT S w p q (W.app d L rs).2.1 (W.app d L rs).2.2 w' := by
  have H := hid h
  obtain ⟨ok, c1, c3, c4, c6, hSq⟩ := h.ld.cells
  have HR := hid (lready_any w q L.nm ok.ne L.spoilt c1 c6)
  have hlen := h.len
  by_cases hsp : L.spoilt = true
  · rw [if_pos hsp] at HR
    have E := hid (show W.app d L rs = (51, d, L) from by unfold W.app; rw [if_pos hsp])
    clear h hsp c1 c3 c4 c6 ok
    go_enter Tryz.func20, Tryz.ntmps20
    go_wp2_with (first | (go_at_call 62; refine HR.out.mono ?_; rintro e w' ⟨rfl, rfl⟩))
    go_ret
    rw [E.out]
    exact ⟨rfl, LT.refl H.out.ld (Fr.refl _ _)⟩
  · rw [if_neg hsp] at HR
    have HSP := hid hsp
    have HOK := hid ok
    have hn0 := ok.n0
    have hn1 := ok.n1
    have HRQ := hid h.rq
    clear h hsp c1 c4 c6 ok
    go_enter Tryz.func20, Tryz.ntmps20
    go_wp2_with (first | (go_at_call 62; refine HR.out.mono ?_; rintro e w' ⟨rfl, rfl⟩))
    go_loopw [18] (fun i wr => ∃ k : Nat, k ≤ len ∧ i = .int .i64 k ∧ w = wr ∧ Hid (∀ j r, j < k → rs[j]? = some r → ¬ (r.length = 0 ∨ 65536 < r.length))) (fun i _ => len - (intOf i).toNat)
    case atStart => exact ⟨0, Nat.zero_le _, rfl, rfl, hid (fun j r hj => absurd hj (Nat.not_lt_zero _))⟩
    case round =>
      obtain ⟨k, hk, rfl, rfl, hall⟩ := hrel
      by_cases hlt : k < len
      · obtain ⟨b, off, r, A, C, rfl, hx, hc, hsl, hL, hU, hUb⟩ := HRQ.out.at hlt
        obtain ⟨rl, hrl⟩ : ∃ rl, r.length = rl := ⟨_, rfl⟩
        rw [hrl] at hc hL
        by_cases hb : rl = 0 ∨ 65536 < rl
        · have E := hid (show W.app d L rs = (50, d, L) from by unfold W.app; rw [if_neg HSP.out, if_pos (any_bad hx (by rw [hrl]; exact hb))])
          clear hx hsl hU hrl
          rcases hb with hb | hb
          · subst hb
            go_wp2
            go_ret
            rw [E.out]
            exact ⟨rfl, LT.refl H.out.ld (Fr.refl _ _)⟩
          · have hz0 : ((rl : Int) == 0) = false := by simp; omega
            have hz1 : (65536 : Int) < (rl : Int) := by omega
            go_wp2
            go_ret
            rw [E.out]
            exact ⟨rfl, LT.refl H.out.ld (Fr.refl _ _)⟩
        · have HA := hid (show ∀ j r, j < k + 1 → rs[j]? = some r → ¬ (r.length = 0 ∨ 65536 < r.length) from fun j r' hj hr => by
            by_cases e : j = k
            · subst e
              rw [hx] at hr
              cases hr
              rw [hrl]
              exact hb
            · exact hall.out j r' (by omega) hr)
          have hz0 : ((rl : Int) == 0) = false := by simp; omega
          have hz1 : ¬ (65536 : Int) < (rl : Int) := by omega
          clear hx hsl hU hrl hb
          go_wp2
          go_roundw
          case rel => exact ⟨k + 1, by omega, by first | go_num | trivial, by first | trivial | rfl, HA⟩
          case measure => simp [intOf]; omega
      · have hkl : k = len := by omega
        subst hkl
        have EG := hid (show ¬ rs.any W.badRec = true from fun e => by
          rw [List.any_eq_true] at e
          obtain ⟨r, hr, hb⟩ := e
          obtain ⟨j, hj, e⟩ := List.getElem_of_mem hr
          exact hall.out j r (by have := HRQ.out.1; omega) (by rw [List.getElem?_eq_getElem hj, e]) (by unfold W.badRec at hb; simpa using hb))
        obtain ⟨x, hw1⟩ : ∃ x, IntKind.i64.wrap (L.next + (k : Int)) = x := ⟨_, rfl⟩
        obtain ⟨y, hw2⟩ : ∃ y, IntKind.i64.wrap (x - 1) = y := ⟨_, rfl⟩
        have HXY := hid (show IntKind.i64.wrap (IntKind.i64.wrap (L.next + (rs.length : Int)) - 1) = y from by rw [HRQ.out.1, hw1, hw2])
        have HXZ := hid (And.intro hw1 hw2)
        by_cases hbig : 0 < k ∧ 999999999999 < y
        · have E := hid (show W.app d L rs = (3, d, L) from by
            unfold W.app
            rw [if_neg HSP.out, if_neg EG.out, if_pos]
            have hrl := HRQ.out.1
            refine ⟨fun e => ?_, by rw [HXY.out]; exact hbig.2⟩
            rw [e] at hrl
            simp at hrl
            omega)
          have hk0 : (0 : Int) < (k : Int) := by omega
          have hgt : 999999999999 < y := hbig.2
          clear hbig hall
          go_wp2
          go_ret
          rw [E.out]
          exact ⟨rfl, LT.refl H.out.ld (Fr.refl _ _)⟩
        · have E0 : W.app d L rs = W.puts d L rs := by
            unfold W.app
            rw [if_neg HSP.out, if_neg EG.out, if_neg]
            have hrl := HRQ.out.1
            intro e
            refine hbig ⟨?_, by rw [← HXY.out]; exact e.2⟩
            rcases Nat.eq_zero_or_pos k with e0 | e0
            · rw [e0] at hrl; exact absurd (List.eq_nil_of_length_eq_zero hrl) e.1
            · exact e0
          have HE0 := hid E0
          have hny : 0 < k → ¬ 999999999999 < y := fun h0 h1 => hbig ⟨h0, h1⟩
          have HNX := hid (show 0 < k → k ≤ 1000000000000000 → L.next + k - 1 ≤ 999999999999 from fun h0 hk2 => by
            have h1 := hny h0
            have h2 := HXZ.out
            rw [IntKind.wrap_i64, IntKind.wrap_i64] at h2
            omega)
          rcases Nat.eq_zero_or_pos k with e0 | e0
          · have hg0 : ¬ (0 : Int) < (k : Int) := by omega
            clear hbig E0 hall hny
            go_wp2
            go_loopw [47] (fun i wr => ∃ (j : Nat) (dj : K.DK) (Lj : W.LG), j ≤ k ∧ i = .int .i64 j ∧ Hid (LT S w p q dj Lj wr ∧ W.puts d L rs = W.puts dj Lj (rs.drop j) ∧ Lj.next = L.next + j ∧ dj.room = d.room ∧ I dj Lj)) (fun i _ => k - (intOf i).toNat)
            case atStart => exact ⟨0, d, L, Nat.zero_le _, rfl, hid ⟨LT.refl H.out.ld (Fr.refl _ _), rfl, by simp, rfl, H.out.inv⟩⟩
            case round =>
              obtain ⟨j, dj, Lj, hj, rfl, hall⟩ := hrel
              by_cases hjl : j < k
              · exact absurd hjl (by omega)
              · have hje : j = k := by omega
                have E := hid (show W.app d L rs = (0, dj, Lj) from by
                  rw [HE0.out, hall.out.2.1, hje, List.drop_eq_nil_of_le (by have := HRQ.out.1; omega)]
                  rfl)
                go_wp2
                go_ret
                rw [E.out]
                exact ⟨rfl, hall.out.1⟩
          · have hg0 : (0 : Int) < (k : Int) := by omega
            have hg1 : ¬ 999999999999 < y := hny e0
            clear hbig E0 hall hny
            go_wp2
            go_loopw [47] (fun i wr => ∃ (j : Nat) (dj : K.DK) (Lj : W.LG), j ≤ k ∧ i = .int .i64 j ∧ Hid (LT S w p q dj Lj wr ∧ W.puts d L rs = W.puts dj Lj (rs.drop j) ∧ Lj.next = L.next + j ∧ dj.room = d.room ∧ I dj Lj)) (fun i _ => k - (intOf i).toNat)
            case atStart => exact ⟨0, d, L, Nat.zero_le _, rfl, hid ⟨LT.refl H.out.ld (Fr.refl _ _), rfl, by simp, rfl, H.out.inv⟩⟩
            case round =>
              obtain ⟨j, dj, Lj, hj, rfl, hall⟩ := hrel
              by_cases hjl : j < k
              · have hrq : Rq U wr a k rs := HRQ.out.kept hall.out.1.2 (fun i hi => (H.out.ap i hi).1)
                obtain ⟨b, off, r, A, C, rfl, hx, hc, hsl, hL, hU, hUb⟩ := hrq.at hjl
                have hpd := puts_drop (d := dj) (L := Lj) hx
                have hpf := W.put_facts dj Lj r
                have hgood : r.length ≤ 65536 := by
                  rcases Nat.lt_or_ge 65536 r.length with h1 | h1
                  · exact absurd (any_bad hx (.inr h1)) EG.out
                  · exact h1
                have hpre : PutPre (Nx S w wr) wr p q dj Lj A r.length r := ⟨hall.out.1.1, H.out.tv.kept hall.out.1.2 H.out.hG, fun e => by
                    rcases e.1 with e | e
                    · exact H.out.hG e
                    · have := H.out.tv.lt; omega, by rw [hall.out.2.2.2.1]; exact H.out.room, hsl, fun hz i hi e => by
                    have h1 := H.out.ap i (hU hz i hi)
                    rcases e.1 with e | e
                    · exact h1.1 e
                    · omega, hgood, by
                    have h1 := hall.out.2.2.1
                    rcases H.out.low dj Lj hall.out.2.2.2.2 with h3 | h3
                    · have h2 := HNX.out (by omega) (by rw [HRQ.out.1] at h3; exact h3); omega
                    · exact h3, (H.out.few dj Lj hall.out.2.2.2.2).2, (H.out.few dj Lj hall.out.2.2.2.2).1⟩
                have KP := hid (put_any hpre C)
                have hgood0 : 0 < r.length := by
                  rcases Nat.eq_zero_or_pos r.length with h1 | h1
                  · exact absurd (any_bad hx (.inl h1)) EG.out
                  · exact h1
                have hst := H.out.step dj Lj r hall.out.2.2.2.2 hgood0 hgood
                obtain ⟨R, hR⟩ : ∃ R, W.put dj Lj r = R := ⟨_, rfl⟩
                rw [hR] at hpd hpf KP hst
                have HST := hid hst
                obtain ⟨rl, hrl⟩ : ∃ rl, r.length = rl := ⟨_, rfl⟩
                rw [hrl] at hc hL KP
                have HPD := hid hpd
                have HPF := hid hpf
                clear hpd hpf hpre hrq hx hsl hU hR hgood hgood0 hst hrl
                by_cases hz : R.1 = 0
                · rw [hz] at KP
                  have HZ := hid hz
                  clear hz
                  go_wp2_with (first | (go_at_call 63; refine KP.out.mono ?_; rintro e w3 ⟨rfl, ht3⟩; have HT3 := hid ht3; clear ht3))
                  go_roundw
                  case rel => exact ⟨j + 1, R.2.1, R.2.2, by omega, by first | go_num | trivial, hid ⟨hall.out.1.trans HT3.out, by rw [hall.out.2.1, HPD.out, if_neg (by simp [HZ.out])], by rw [HPF.out.2.2.2.2.1 HZ.out, hall.out.2.2.1]; push_cast; omega, by rw [HPF.out.1]; exact hall.out.2.2.2.1, HST.out HZ.out⟩⟩
                  case measure => simp [intOf]; omega
                · have hbz : (R.1 == 0) = false := by simpa using hz
                  have E := hid (show W.app d L rs = (R.1, R.2.1, { R.2.2 with spoilt := true }) from by rw [HE0.out, hall.out.2.1, HPD.out, if_pos hz])
                  clear hz
                  go_wp2_with (first
                    | (go_at_call 63; refine KP.out.mono ?_; rintro e w3 ⟨rfl, ht3⟩; obtain ⟨⟨sp, p6⟩, f6, lt6⟩ := ht3.1.spoil; have HT3 := hid (ht3.trans lt6); clear ht3 lt6)
                    | (go_at_call 64; refine (lspoil_any _ q sp p6 f6 _).mono ?_; rintro e w4 ⟨rfl, rfl⟩))
                  go_ret
                  rw [E.out]
                  exact ⟨rfl, hall.out.1.trans HT3.out⟩
              · have hje : j = k := by omega
                have E := hid (show W.app d L rs = (0, dj, Lj) from by
                  rw [HE0.out, hall.out.2.1, hje, List.drop_eq_nil_of_le (by have := HRQ.out.1; omega)]
                  rfl)
                go_wp2
                go_ret
                rw [E.out]
                exact ⟨rfl, hall.out.1⟩

end Go.Proofs.YtgplkjfkafnpoaaGreatDoor
