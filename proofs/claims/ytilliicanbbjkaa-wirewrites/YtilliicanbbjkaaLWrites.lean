/-
  WireWrites, the walk: what a writer has is just what was put, part by part.
-/
import Derived.Test.YtilliicanbbjkaaPuts
import Derived.Test.YtilliicanbbjkaaOpenParts
namespace Go.Proofs.Ytilliicanbbjkaa
open Go.RowKit
set_option linter.unusedVariables false

/-- A WRITER AND WHAT IT SHOULD HAVE: both have wb, in rows of their own. -/
structure WW (w : World) (p : Nat) (wr : World) (a : Option Addr) (c : Nat) (a1 : Option Addr) (c1 : Nat) (wb : List UInt8) : Prop where
  wr_ : Wr p wr p a c wb
  row : Ow p wr a1 c1 wb
  ne : ∀ k, blk a1 = some k → blk a ≠ some k ∧ k ≠ p
  fr : Fr (fun _ => False) w wr
  len : wb.length ≤ 1048576

theorem Ow.alloc {base : Nat} {w : World} {a : Option Addr} {c : Nat} {bs : List UInt8} (h : Ow base w a c bs) (o : Obj) : Ow base (w.alloc o) a c bs := h.kept (Fr.alloc (Fr.refl (fun _ => False) _) _) (fun _ _ h => h)
theorem Wr.alloc {base : Nat} {w : World} {p : Nat} {a : Option Addr} {c : Nat} {bs : List UInt8} (h : Wr base w p a c bs) (o : Obj) : Wr base (w.alloc o) p a c bs := h.kept (Fr.alloc (Fr.refl (fun _ => False) _) _) (fun h => h) (fun _ _ h => h)
theorem WW.alloc {w : World} {p : Nat} {wr : World} {a : Option Addr} {c : Nat} {a1 : Option Addr} {c1 : Nat} {wb : List UInt8} (h : WW w p wr a c a1 c1 wb) (o : Obj) : WW w p (wr.alloc o) a c a1 c1 wb :=
  ⟨h.wr_.alloc o, h.row.alloc o, h.ne, Fr.alloc h.fr o, h.len⟩
/-- behind a part that was too long -/
theorem WW.long {w : World} {p : Nat} {wr : World} {a : Option Addr} {c : Nat} {a1 : Option Addr} {c1 : Nat} {wb : List UInt8} (h : WW w p wr a c a1 c1 wb) {w' : World} (hf : Fr (fun _ => False) wr w') (hw : Wr p w' p a c wb) : WW w p w' a c a1 c1 wb :=
  ⟨hw, h.row.kept hf (fun _ _ h => h), h.ne, h.fr.trans hf (fun _ _ h => h), h.len⟩
/-- behind a part that was put, ahead of the append -/
theorem WW.put {w : World} {p : Nat} {wr : World} {a : Option Addr} {c : Nat} {a1 : Option Addr} {c1 : Nat} {wb : List UInt8} (h : WW w p wr a c a1 c1 wb) (hp : w.heap.size ≤ p) {w' : World} {a' : Option Addr} (hf : Fr (fun k => k = p ∨ blk a = some k) wr w') (hb : blk a' = blk a ∨ ∀ k, blk a' = some k → wr.heap.size ≤ k) :
    Ow p w' a1 c1 wb ∧ Fr (fun _ => False) w w' ∧ (∀ k, blk a1 = some k → blk a' ≠ some k) := by
  refine ⟨h.row.kept hf (fun k hk e => ?_), h.fr.trans hf (fun i hi e => ?_), fun k hk e => ?_⟩
  · rcases e with e | e
    · exact (h.ne k hk).2 e
    · exact (h.ne k hk).1 e
  · rcases e with rfl | e
    · omega
    · have := (h.wr_.row.lt i e).1; omega
  · rcases hb with hb | hb
    · exact (h.ne k hk).1 (hb ▸ e)
    · have h1 := hb k e
      have h2 := (h.row.lt k hk).2
      omega

/-- behind the append -/
theorem WW.next {w : World} {p : Nat} {wb en : List UInt8} {w3 : World} {a1 : Option Addr} {c1 : Nat} {a' : Option Addr} {c' : Nat} (hall : Ow p w3 a1 c1 wb ∧ Fr (fun _ => False) w w3 ∧ (∀ k, blk a1 = some k → blk a' ≠ some k)) (hnp : ∀ k, blk a1 = some k → k ≠ p) (hw : Wr p w3 p a' c' (wb ++ en)) (hp : w.heap.size ≤ p)
    {w4 : World} {a2 : Option Addr} {c2 n : Nat} (how : Ow p w4 a2 c2 (wb ++ en)) (hg : w3.grownBy w4 (blk a1)) (hat : (a2 = a1 ∧ c2 = c1 ∧ n ≤ c1) ∨ (a2 = some ⟨w3.heap.size, 0, none⟩ ∧ c1 < n ∧ w3.grownBy w4 none)) (hl : (wb ++ en).length ≤ 1048576) : WW w p w4 a' c' a2 c2 (wb ++ en) := by
  have hpl := lt_of_row hw.at_
  refine ⟨hw.kept (Fr.of_grown hg) (fun e => hnp p e rfl) (fun k hk e => hall.2.2 k e hk), how, ?_, hall.2.1.trans (Fr.of_grown hg) (fun i hi e => by have := (hall.1.lt i e).1; omega), hl⟩
  rcases hat with ⟨rfl, _⟩ | ⟨rfl, _⟩
  · exact fun k hk => ⟨hall.2.2 k hk, hnp k hk⟩
  · intro k hk
    simp [blk] at hk
    subst hk
    exact ⟨fun e => by have := (hw.row.lt _ e).2; omega, by omega⟩

set_option maxHeartbeats 1600000 in
theorem wireWrites_walk (a0 : Option Addr) (len cap : Nat) (ps : List Pt) (w : World) (h : Ps w a0 len ps) (hm : len ≤ 9223372036854775807) :
    Calls Try.prog 3 #[.slice a0 len cap] w fun e w' => e = .returned (.bool true) ∧ Below w.heap.size w w' := by
  go_enter Try.func3, Try.ntmps3
  go_wp2_with fail
  refine (newWriter_any _).mono ?_
  rintro e w1 ⟨rfl, hw1, f1⟩
  obtain ⟨p, hp⟩ : ∃ p, p = w.heap.size := ⟨_, rfl⟩
  rw [← hp] at hw1 ⊢
  have HW1 := hid hw1
  have F1 := hid f1
  have HP := hid hp
  clear hw1 f1 hp
  go_wp2_with fail
  refine (live_any _).mono ?_
  rintro e w2 ⟨rfl, f2⟩
  have HWW : Hid (WW w p w2 none 0 none 0 []) := hid ⟨HW1.out.kept f2 (fun h => h) (fun _ _ h => h), Ow.nil _ _, fun k hk => by simp [blk] at hk, F1.out.trans f2 (fun _ _ h => h), by simp⟩
  clear f2 HW1 F1
  go_wp2
  go_loopw [4, 18] (fun t i wr => ∃ (k : Nat) (a : Option Addr) (c : Nat) (a1 : Option Addr) (c1 : Nat) (wb : List UInt8), k ≤ len ∧ i = .int .i64 k ∧ t = .slice a1 wb.length c1 ∧ WW w p wr a c a1 c1 wb) (fun _ i _ => len - (intOf i).toNat)
  case atStart => exact ⟨0, none, 0, none, 0, [], by omega, rfl, rfl, HWW.out⟩
  case round =>
    obtain ⟨k, a, c, a1, c1, wb, hk, rfl, rfl, hww⟩ := hrel
    obtain ⟨wl, hwl⟩ : ∃ wl, wb.length = wl := ⟨_, rfl⟩
    have hwlm : wl ≤ 1048576 := by rw [← hwl]; exact hww.len
    rw [hwl]
    have HWL := hid hwl
    clear hwl
    by_cases hlt : k < len
    · obtain ⟨b, off, kd, n, bs, A, L, C, rfl, _, q0, q1, q2, qs, qlc, ql, qn1, qn2, qblk⟩ := h.later hww.fr hlt
      have HW3 := hid hww
      have QS := hid qs
      clear hww qs
      have QB := hid qblk
      clear qblk
      have K := put_any' p (wr.alloc (.cells #[.int .i64 kd, .int .i64 n, .slice A L C] 28)) p a c wb (HW3.out.wr_.alloc _) kd n qn1 qn2 A L C bs (QS.out.alloc _)
        (fun hz i hi e => by have h1 := QB.out hz i hi; have h2 := (HW3.out.wr_.row.lt i e).1; have := HP.out; omega) ql (by have := lt_of_row HW3.out.wr_.at_; simp; omega) (by rw [HWL.out]; exact hwlm)
      obtain ⟨en, hen⟩ : ∃ en, partEnc kd n bs = en := ⟨_, rfl⟩
      have hell := partEnc_len kd n bs qn1 qn2 (by have := QS.out.1; omega)
      rw [QS.out.1] at hell
      rw [hen] at K hell
      have HK := hid K
      clear hen K
      go_wp2_with fail
      refine HK.out.mono ?_
      rintro e w3 ⟨ra, rc, er, rfl, hro, hwp⟩
      obtain ⟨el, hel⟩ : ∃ el, en.length = el := ⟨_, rfl⟩
      rw [hel] at hell ⊢
      have HEL := hid hel
      clear hel HK
      rcases hwp with ⟨hlong, her, hf3, hw3⟩ | ⟨hok, her, a', c', hw3, hf3, hb3⟩
      · simp only [Ending.returned.injEq, Value.int.injEq, true_and] at her
        subst her
        have hlong' : 1048576 < (wl : Int) + (el : Int) := by have := HWL.out; have := HEL.out; omega
        have HW4 := hid ((HW3.out.alloc (.cells #[.int .i64 kd, .int .i64 n, .slice A L C] 28)).long hf3 hw3)
        clear hlong hf3 hw3 hro
        go_wp2
        go_roundw
        case rel => exact ⟨k + 1, a, c, a1, c1, wb, by omega, by go_num, by rw [HWL.out], HW4.out⟩
        case measure => simp [intOf]; omega
      · simp only [Ending.returned.injEq, Value.int.injEq, true_and] at her
        subst her
        have hok' : wl + el ≤ 1048576 := by have := HWL.out; have := HEL.out; omega
        have hall := (HW3.out.alloc (.cells #[.int .i64 kd, .int .i64 n, .slice A L C] 28)).put (Nat.le_of_eq HP.out.symm) hf3 hb3
        have HALL := hid hall
        have HW4 := hid hw3
        have hrs : Sl w3 ra el en := by have := hro.sl; rw [HEL.out] at this; exact this
        have hpw3 := lt_of_row hw3.at_
        clear hok hf3 hb3 hw3 hro hall
        have hnp : ∀ k, blk a1 = some k → k ≠ p := fun k hk => (HW3.out.ne k hk).2
        have HNP := hid hnp
        clear hnp
        have hlen4 : (wb ++ en).length = wl + el := by rw [List.length_append, HWL.out, HEL.out]
        have HL4 := hid hlen4
        clear hlen4
        go_wp2_with (first
          | (at_builtin; refine wpList_append_b _ rfl (.tmp 36) (.tmp 37) rfl p a1 wl c1 wb rfl HWL.out HALL.out.1 ra el rc en rfl hrs (by omega) (by omega) ?_; intro a2 c2 w4 how hgb hat; have HW5 := hid (WW.next HALL.out HNP.out HW4.out (Nat.le_of_eq HP.out.symm) how hgb hat (by rw [HL4.out]; exact hok')); clear how hgb hat)
          | (go_at_call 12; refine (wLen_any p _ p a' c' (wb ++ en) HW5.out.wr_).mono ?_; rintro e w5 ⟨rfl, rfl⟩; rw [HL4.out]))
        go_roundw
        case rel => exact ⟨k + 1, a', c', a2, c2, wb ++ en, by omega, by go_num, by rw [HL4.out], HW5.out⟩
        case measure => simp [intOf]; omega
    · have HW3 := hid hww
      have K := wOut_any p wr p a c wb hww.wr_ hww.len
      rw [HWL.out] at K
      have HK := hid K
      clear hww K
      go_wp2_with fail
      refine HK.out.mono ?_
      rintro e w3 ⟨oa, oc, rfl, ho, f3⟩
      have h3 : Sl w3 oa wl wb := by have := ho.sl; rw [HWL.out] at this; exact this
      have h4 : Sl w3 a1 wl wb := by have := (HW3.out.row.kept f3 (fun _ _ h => h)).sl; rw [HWL.out] at this; exact this
      have KE := hid (equal_any oa a1 wl oc wl c1 wb wb w3 h3 h4)
      rw [decide_eq_true (rfl : wb = wb)] at KE
      have F3 := hid (HW3.out.fr.trans f3 (fun _ _ h => h))
      clear ho f3 h3 h4 HK
      go_wp2_with fail
      refine KE.out.mono ?_
      rintro e w4 ⟨rfl, rfl⟩
      go_wp2
      go_ret
      exact ⟨rfl, F3.out.below (Nat.le_refl _) (fun _ _ h => h)⟩
end Go.Proofs.Ytilliicanbbjkaa
