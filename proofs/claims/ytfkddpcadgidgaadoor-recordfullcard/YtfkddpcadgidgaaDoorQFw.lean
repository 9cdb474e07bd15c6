/-
  A writer of fields: numbers one behind the other, up to the first error.
-/
import Derived.Test.YtfkddpcadgidgaaDoorQCheck
import Derived.Test.YtfkddpcadgidgaaDoorNoneR
namespace Go.Proofs.YtfkddpcadgidgaaDoor
open Go.RowKit
set_option linter.unusedVariables false

/-- what a put does to the error and the bytes -/
def M.pn (st : Int × List UInt8) (add : List UInt8) : Int × List UInt8 := if st.1 = 0 then (if st.2.length + add.length ≤ 1048576 then (0, st.2 ++ add) else (3, st.2)) else st
def M.pns (st : Int × List UInt8) (ns : List Int) : Int × List UInt8 := ns.foldl (fun st n => M.pn st (M.enc (M.fd n))) st
theorem M.pns_snoc (st : Int × List UInt8) (ns : List Int) (n : Int) : M.pns st (ns ++ [n]) = M.pn (M.pns st ns) (M.enc (M.fd n)) := by simp [M.pns]
/-- blocks that are owned, and new ones -/
def Ny (S : Nat → Prop) (w w' : World) : Nat → Prop := fun k => (S k ∨ w.heap.size ≤ k) ∧ k < w'.heap.size
/-- a writer of fields, in memory: its own block g, the writer's p, the row's: all in S -/
structure Fq (S : Nat → Prop) (w : World) (g : Nat) (T : TypeId) (p : Nat) (st : Int × List UInt8) : Prop where
  at_ : w.heap[g]? = some (.cells #[.pointer (some ⟨p, 0, none⟩), .int .i64 st.1] T (0, 0))
  wr : ∃ a c, Wr 0 w p a c st.2 ∧ (∀ k, blk a = some k → S k ∧ k ≠ g)
  gp : g ≠ p
  sg : S g
  sp : S p
  lt : ∀ k, S k → k < w.heap.size
  le : st.2.length ≤ 1048576
theorem Fq.kept {S R : Nat → Prop} {w w' : World} {g : Nat} {T : TypeId} {p : Nat} {st : Int × List UInt8} (h : Fq S w g T p st) (hf : Fr R w w') (hR : ∀ k, S k → ¬ R k) : Fq S w' g T p st := by
  obtain ⟨a, c, h1, h2⟩ := h.wr
  exact ⟨hf.cells h.at_ (hR g h.sg), ⟨a, c, h1.kept hf (hR p h.sp) (fun k hk => hR k (h2 k hk).1), h2⟩, h.gp, h.sg, h.sp, fun k hk => Nat.lt_of_lt_of_le (h.lt k hk) hf.size, h.le⟩
theorem Fq.mono {S R : Nat → Prop} {w : World} {g : Nat} {T : TypeId} {p : Nat} {st : Int × List UInt8} (h : Fq S w g T p st) (hR : ∀ k, S k → R k) (hl : ∀ k, R k → k < w.heap.size) : Fq R w g T p st := by
  obtain ⟨a, c, h1, h2⟩ := h.wr
  exact ⟨h.at_, ⟨a, c, h1, fun k hk => ⟨hR k (h2 k hk).1, (h2 k hk).2⟩⟩, h.gp, hR _ h.sg, hR _ h.sp, hl, h.le⟩
/-- it has turned -/
def Ft (S : Nat → Prop) (w : World) (g : Nat) (T : TypeId) (p : Nat) (st : Int × List UInt8) (w' : World) : Prop := Fq (Ny S w w') w' g T p st ∧ Fr S w w'
theorem Ft.refl {S : Nat → Prop} {w w' : World} {g : Nat} {T : TypeId} {p : Nat} {st : Int × List UInt8} (h : Fq S w g T p st) (hf : Fr (fun _ => False) w w') : Ft S w g T p st w' :=
  ⟨(h.kept hf (fun _ _ h => h)).mono (fun k hk => ⟨.inl hk, Nat.lt_of_lt_of_le (h.lt k hk) hf.size⟩) (fun k hk => hk.2), hf.mono (fun _ _ h => h.elim)⟩
theorem Ft.trans {S : Nat → Prop} {w w1 w2 : World} {g : Nat} {T : TypeId} {p : Nat} {st st' : Int × List UInt8} (h : Ft S w g T p st w1) (k : Ft (Ny S w w1) w1 g T p st' w2) : Ft S w g T p st' w2 :=
  ⟨k.1.mono (fun j hj => ⟨by rcases hj.1 with hj1 | hj1; exact hj1.1; exact .inr (Nat.le_trans h.2.size hj1), hj.2⟩) (fun k hk => hk.2), h.2.trans k.2 (fun i hi e => e.1.resolve_right (by omega))⟩
theorem Ft.pre {S : Nat → Prop} {w w1 w2 : World} {g : Nat} {T : TypeId} {p : Nat} {st : Int × List UInt8} (hf : Fr (fun _ => False) w w1) (k : Ft S w1 g T p st w2) : Ft S w g T p st w2 :=
  ⟨k.1.mono (fun j hj => ⟨hj.1.imp id (Nat.le_trans hf.size), hj.2⟩) (fun k hk => hk.2), (hf.mono (T := S) (fun _ _ h => h.elim)).trans k.2 (fun _ _ h => h)⟩
theorem Ft.post {S : Nat → Prop} {w w1 w2 : World} {g : Nat} {T : TypeId} {p : Nat} {st : Int × List UInt8} (k : Ft S w g T p st w1) (hf : Fr (fun _ => False) w1 w2) : Ft S w g T p st w2 := k.trans (Ft.refl k.1 hf)
/-- what Int of the writer leaves, and its error stored -/
theorem Fq.put {S : Nat → Prop} {w : World} {g : Nat} {T : TypeId} {p : Nat} {bs add : List UInt8} (h : Fq S w g T p (0, bs)) {a : Option Addr} {c : Nat} (ha : Wr 0 w p a c bs ∧ (∀ k, blk a = some k → S k ∧ k ≠ g)) {er : Int} {w' : World} (hp : WP 0 w p a c bs add (.returned (.int .i64 er)) w') :
    w'.cell? ⟨g, 1, none⟩ = some (.int .i64 0) ∧ w'.frozen? ⟨g, 1, none⟩ = false ∧ Ft S w g T p (M.pn (0, bs) add) (w'.setCell ⟨g, 1, none⟩ (.int .i64 er)) := by
  have hle := h.le
  rcases hp with ⟨h1, h2, h3, h4⟩ | ⟨h1, h2, a', c', h4, h3, h5⟩
  · simp only [Ending.returned.injEq, Value.int.injEq, true_and] at h2
    subst h2
    have hb := h3.cells h.at_ (fun h => h)
    have f5 : Fr (fun k => k = g) w' (w'.setCell ⟨g, 1, none⟩ (.int .i64 3)) := Fr.setCell (p := ⟨g, 1, none⟩) (S := fun k => k = g) (Fr.refl _ _) (fun _ => rfl) _
    refine ⟨cell_at hb rfl, frozen_of_row hb, ?_, (h3.mono (T := S) (fun _ _ h => h.elim)).trans f5 (fun i _ e => e ▸ h.sg)⟩
    have e : M.pn (0, bs) add = (3, bs) := by unfold M.pn; rw [if_pos rfl, if_neg (by simp only; omega)]
    rw [e]
    refine ⟨by rw [setCell_row hb]; rfl, ⟨a, c, h4.kept f5 (fun e => h.gp e.symm) (fun k hk e => (ha.2 k hk).2 e), fun k hk => ⟨⟨.inl (ha.2 k hk).1, by rw [setCell_size]; exact Nat.lt_of_lt_of_le (h.lt k (ha.2 k hk).1) h3.size⟩, (ha.2 k hk).2⟩⟩, h.gp, ⟨.inl h.sg, by rw [setCell_size]; exact Nat.lt_of_lt_of_le (h.lt _ h.sg) h3.size⟩, ⟨.inl h.sp, by rw [setCell_size]; exact Nat.lt_of_lt_of_le (h.lt _ h.sp) h3.size⟩, fun k hk => hk.2, hle⟩
  · simp only [Ending.returned.injEq, Value.int.injEq, true_and] at h2
    subst h2
    have hgn : ¬ (g = p ∨ blk a = some g) := fun e => e.elim h.gp (fun e => (ha.2 g e).2 rfl)
    have hb := h3.cells h.at_ hgn
    have f5 : Fr (fun k => k = g) w' (w'.setCell ⟨g, 1, none⟩ (.int .i64 0)) := Fr.setCell (p := ⟨g, 1, none⟩) (S := fun k => k = g) (Fr.refl _ _) (fun _ => rfl) _
    have hlt' := h4.row.lt
    have ha' : ∀ k, blk a' = some k → (S k ∨ w.heap.size ≤ k) ∧ k ≠ g := fun k hk => by
      rcases h5 with h5 | h5
      · rw [h5] at hk
        exact ⟨.inl (ha.2 k hk).1, (ha.2 k hk).2⟩
      · have := h5 k hk
        have := h.lt g h.sg
        exact ⟨.inr (h5 k hk), by omega⟩
    refine ⟨cell_at hb rfl, frozen_of_row hb, ?_, (h3.mono (T := S) (fun i _ e => e.elim (fun e => e ▸ h.sp) (fun e => (ha.2 i e).1))).trans f5 (fun i _ e => e ▸ h.sg)⟩
    have e : M.pn (0, bs) add = (0, bs ++ add) := by unfold M.pn; rw [if_pos rfl, if_pos (by simp only; omega)]
    rw [e]
    refine ⟨by rw [setCell_row hb]; rfl, ⟨a', c', h4.kept f5 (fun e => h.gp e.symm) (fun k hk e => (ha' k hk).2 e), fun k hk => ⟨⟨(ha' k hk).1, by rw [setCell_size]; exact (hlt' k hk).2⟩, (ha' k hk).2⟩⟩, h.gp, ⟨.inl h.sg, by rw [setCell_size]; exact Nat.lt_of_lt_of_le (h.lt _ h.sg) h3.size⟩, ⟨.inl h.sp, by rw [setCell_size]; exact Nat.lt_of_lt_of_le (h.lt _ h.sp) h3.size⟩, fun k hk => hk.2, by simp only [List.length_append]; omega⟩

set_option maxRecDepth 20000 in
set_option maxHeartbeats 3200000 in
theorem fwInt64s {S : Nat → Prop} {w : World} {g : Nat} {T : TypeId} {p : Nat} {st : Int × List UInt8} (h : Fq S w g T p st) (la : Option Addr) (len lc : Nat) (ns : List Int) (hI : Is w la len ns) (hb : 0 < len → ∀ k, blk la = some k → ¬ S k) (hm : len ≤ 9223372036854775807) (hn : ∀ x ∈ ns, -9223372036854775808 ≤ x ∧ x ≤ 9223372036854775807) :
    Calls Tryd.prog 66 #[.pointer (some ⟨g, 0, none⟩), .slice la len lc] w fun e w' => (∃ v, e = .returned v) ∧ Ft S w g T p (M.pns st ns) w' := by
  have HF := hid h
  have HI := hid hI
  have HB := hid hb
  have HN := hid hn
  clear h hI hb hn
  go_enter Tryd.func66, Tryd.ntmps66
  go_wp2
  go_loopw [8] (fun i wr => ∃ k : Nat, k ≤ len ∧ i = .int .i64 k ∧ Ft S w g T p (M.pns st (ns.take k)) wr) (fun i _ => len - (intOf i).toNat)
  case atStart => exact ⟨0, by omega, rfl, Ft.refl HF.out (Fr.refl _ _)⟩
  case round =>
    obtain ⟨k, hk, rfl, hft⟩ := hrel
    by_cases hlt : k < len
    · have hI2 := HI.out.kept hft.2 (fun hz j hj hs => HB.out hz j hj hs)
      obtain ⟨b, off, x, rfl, hx, hc⟩ := hI2.at hlt
      have hxb := HN.out x (List.mem_of_getElem? hx)
      have hnx : M.pns st (ns.take (k + 1)) = M.pn (M.pns st (ns.take k)) (M.enc (M.fd x)) := by rw [take_nextI hx, M.pns_snoc]
      have HNX := hid hnx
      obtain ⟨s1, hs1⟩ : ∃ s1, M.pns st (ns.take k) = s1 := ⟨_, rfl⟩
      rw [hs1] at hft HNX
      obtain ⟨er, bs⟩ := s1
      have hq := hft.1
      have d0 := cell_at (j := 0) hq.at_ rfl
      have d1 := cell_at (j := 1) hq.at_ rfl
      have HFT := hid hft
      have hi : (k : Int) < (len : Int) := by omega
      clear hI2 hx hnx hs1 hft
      by_cases he : er = 0
      · subst he
        obtain ⟨a, c, ha⟩ := hq.wr
        have KI := hid (wInt_any 0 wr p a c bs ha.1 x hxb.1 hxb.2 (Nat.zero_le _) hq.le)
        have HQ := hid hq
        have HA := hid ha
        clear hq ha
        simp only at d0 d1
        go_wp2_with (first | (go_at_call 82; refine KI.out.mono ?_; intro e w2 hwp; obtain ⟨e2, rfl, hwp⟩ := hwp.ret; obtain ⟨g1, g2, g3⟩ := HQ.out.put HA.out hwp; have G3 := hid g3; clear hwp g3))
        go_roundw
        case rel => exact ⟨k + 1, by omega, by go_num, by rw [HNX.out]; exact HFT.out.trans G3.out⟩
        case measure => simp [intOf]; omega
      · have hpn : M.pn (er, bs) (M.enc (M.fd x)) = (er, bs) := by unfold M.pn; rw [if_neg he]
        rw [hpn] at HNX
        have he2 : (er == 0) = false := by simpa using he
        simp only at d0 d1
        clear hq hpn
        go_wp2
        go_roundw
        case rel => exact ⟨k + 1, by omega, by go_num, by rw [HNX.out]; exact HFT.out⟩
        case measure => simp [intOf]; omega
    · obtain rfl : k = len := by omega
      have HFT := hid hft
      clear hft
      go_wp2
      go_end0
      refine ⟨⟨_, rfl⟩, ?_⟩
      have := HFT.out
      rw [List.take_of_length_le (by rw [HI.out.1]; exact Nat.le_refl _)] at this
      exact this

end Go.Proofs.YtfkddpcadgidgaaDoor
