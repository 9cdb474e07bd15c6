/-
  scribble: what is written into all lists of an entry.
-/
import Derived.Test.YtedhmhlhjonloaaAUf1
namespace Go.Proofs.Ytedhmhlhjonloaa
open Go.RowKit Go.Maps
set_option linter.unusedVariables false
set_option linter.unusedSimpArgs false

theorem setCells_row {b : Nat} {t : TypeId} {m : Nat × Nat} : ∀ (vs : List Value) (V : World) (o : Nat) (z : Array Value), V.heap[b]? = some (.cells z t m) → ∃ z', (V.setCells b o vs).heap[b]? = some (.cells z' t m) ∧ z'.size = z.size
  | [], V, o, z, h => ⟨z, h, rfl⟩
  | v :: r, V, o, z, h => by
    obtain ⟨z', h1, h2⟩ := setCells_row r (V.setCell ⟨b, o, none⟩ v) (o + 1) _ (setCell_row h v)
    exact ⟨z', h1, by rw [h2]; simp⟩
theorem store_mid {V : World} {b o : Nat} {ty e : TypeId} {z c : Array Value} (hb : V.heap[b]? = some (.cells z e (0, 0))) (hs : o + c.size ≤ z.size) (hi : (Try.prog.info? ty).map (·.size) = some c.size) (h1 : c.all (·.oneCell') = true) :
    ∃ V' z', (Instr.storeAt ty (.pointer (some ⟨b, o, none⟩)) (.agg c)).run Try.prog V = .ok () V' ∧ V'.heap[b]? = some (.cells z' e (0, 0)) ∧ z'.size = z.size ∧ Fr (fun k => k = b) V V' := by
  obtain ⟨z', h2, h3⟩ := setCells_row c.toList V o z hb
  exact ⟨_, z', run_storeAt_mid (P := Try.prog) V _ o ty c (there_off hb hs) hi h1, h2, h3, Fr.setCells _ _ _ _⟩
/-- a row whose elements may be written -/
def RowOk (I : Nat → Prop) (e : TypeId) (k : Nat) (a : Option Addr) (n : Nat) (w : World) : Prop :=
  n = 0 ∨ ∃ g o z, a = some ⟨g, o, none⟩ ∧ I g ∧ w.heap[g]? = some (.cells z e (0, 0)) ∧ o + n * k ≤ z.size
/-- .. bytes, that may be read, too -/
def DatOk (I : Nat → Prop) (a : Option Addr) (n : Nat) (w : World) : Prop :=
  n = 0 ∨ ∃ g o z, a = some ⟨g, o, none⟩ ∧ I g ∧ w.heap[g]? = some (.cells z 5 (0, 0)) ∧ ∀ j, j < n → ∃ x : Int, z[o + j]? = some (.int .u8 x)
theorem RwU.ok {I : Nat → Prop} {w : World} {e : TypeId} {k : Nat} {a : Option Addr} {n : Nat} {xs : List Value} (hk : 0 < k) (h : RwU I w e k a n xs) : RowOk I e k a n w := by
  rcases h.2 with h0 | ⟨g, o, ha, ⟨hI, z, hz⟩, hc⟩
  · exact .inl h0
  · by_cases hn : n = 0
    · exact .inl hn
    · refine .inr ⟨g, o, z, ha, hI, hz, ?_⟩
      have hl := h.1
      have hp : 0 < n * k := Nat.mul_pos (by omega) hk
      have h1 := hc (n * k - 1) (xs[n * k - 1]'(by omega)) (by simp)
      rw [cell_of_row w g _ z e _ hz] at h1
      have := (Array.getElem?_eq_some_iff.1 h1).1
      omega
theorem RwU.dat {I : Nat → Prop} {w : World} {a : Option Addr} {n : Nat} {bs : List UInt8} (h : RwU I w 5 1 a n (bs.map B)) : DatOk I a n w := by
  have hl : bs.length = n := by have := h.1; simpa using this
  rcases h.2 with h0 | ⟨g, o, ha, ⟨hI, z, hz⟩, hc⟩
  · exact .inl h0
  · refine .inr ⟨g, o, z, ha, hI, hz, fun j hj => ⟨(bs[j]'(by omega)).toNat, ?_⟩⟩
    have := hc j (B (bs[j]'(by omega))) (by simp [hl, hj])
    rwa [cell_of_row w g _ z _ _ hz] at this
theorem RowOk.kept {I S : Nat → Prop} {e : TypeId} {k : Nat} {a : Option Addr} {n : Nat} {w w' : World} (h : RowOk I e k a n w) (hf : Fr S w w') (hS : ∀ g, I g → Uf w e g → ¬ S g) : RowOk I e k a n w' := by
  rcases h with h | ⟨g, o, z, h1, h2, h3, h4⟩
  · exact .inl h
  · exact .inr ⟨g, o, z, h1, h2, hf.cells h3 (hS g h2 ⟨z, h3⟩), h4⟩
theorem DatOk.kept {I S : Nat → Prop} {a : Option Addr} {n : Nat} {w w' : World} (h : DatOk I a n w) (hf : Fr S w w') (hS : ∀ g, I g → Uf w 5 g → ¬ S g) : DatOk I a n w' := by
  rcases h with h | ⟨g, o, z, h1, h2, h3, h4⟩
  · exact .inl h
  · exact .inr ⟨g, o, z, h1, h2, hf.cells h3 (hS g h2 ⟨z, h3⟩), h4⟩
/-- the operation that is written -/
def kOp : Array Value := #[.int .i64 0, .int .i64 0, .int .i64 (-9), .int .i64 0, .int .i64 0, .string ⟨#[]⟩, .string ⟨#[]⟩, .string ⟨#[]⟩]
set_option maxHeartbeats 3200000 in
set_option maxRecDepth 20000 in
theorem scribble_any {I : Nat → Prop} {w : World} {ec : List Value} {e : A.En} (h : ReU I w ec e) (hI : ∀ g, I g → g < w.heap.size) : Calls Try.prog 30 #[.agg ec.toArray] w fun r w' => r = .returned (.tuple #[]) ∧ Fr I w w' := by
  obtain ⟨hok, hsz, hone, a1, c1, a2, c2, g13, g52, r1, r2⟩ := h.parts
  obtain ⟨cs, hcs⟩ : ∃ cs, ec.toArray = cs := ⟨_, rfl⟩
  rw [hcs] at hsz hone g13 g52 ⊢
  obtain ⟨n1, hn1⟩ : ∃ n, e.ops.length = n := ⟨_, rfl⟩
  obtain ⟨n2, hn2⟩ : ∃ n, e.dt.length = n := ⟨_, rfl⟩
  have hb1 : n1 ≤ 2000000000000 := by have := hok.many; omega
  have hb2 : n2 ≤ 200000000000000 := by have := hok.long; omega
  rw [hn1] at g13 r1
  rw [hn2] at g52 r2
  have f0 : Fr (fun _ => False) w (w.alloc (.cells cs 46)) := Fr.alloc (Fr.refl _ _) _
  have b0 : (w.alloc (.cells cs 46)).heap[w.heap.size]? = some (.cells cs 46 (0, 0)) := Go.heap_alloc_new w _
  have HS0 := hid (show (w.alloc (.cells cs 46)).heap[w.heap.size]? = some (.cells cs 46 (0, 0)) ∧ Fr I w (w.alloc (.cells cs 46)) ∧ RowOk I 35 8 a1 n1 (w.alloc (.cells cs 46)) ∧ DatOk I a2 n2 (w.alloc (.cells cs 46)) from ⟨b0, f0.mono (fun _ _ h => h.elim), (r1.ok (by omega)).kept f0 (fun _ _ _ h => h), r2.dat.kept f0 (fun _ _ _ h => h)⟩)
  have G13 := hid g13
  have G52 := hid g52
  have HI := hid hI
  have e13 : (w.alloc (.cells cs 46)).cell? ⟨w.heap.size, 13, none⟩ = some (.slice a1 n1 c1) := cellA b0 g13
  obtain ⟨X, hX⟩ : ∃ X, w.heap.size = X := ⟨_, rfl⟩
  have HX := hid hX
  clear hok hone r1 r2 f0 b0 h hI hcs hn1 hn2 g13 g52
  have c13 : cs[13] = .slice a1 n1 c1 := by have := G13.out; rw [Array.getElem?_eq_getElem (by omega)] at this; simpa using this
  go_enter Try.func30, Try.ntmps30
  go_wp2_with fail
  rw [hX] at HS0 e13
  clear hX
  go_loopw [7] (fun i wr => ∃ (k : Nat), k ≤ n1 ∧ i = .int .i64 k ∧ Hid (wr.heap[X]? = some (.cells cs 46 (0, 0)) ∧ Fr I w wr ∧ RowOk I 35 8 a1 n1 wr ∧ DatOk I a2 n2 wr)) (fun i _ => n1 - (intOf i).toNat)
  case atStart => exact ⟨0, Nat.zero_le _, rfl, HS0⟩
  case round =>
    clear HS0 e13
    obtain ⟨k, hk, rfl, hall⟩ := hrel
    by_cases hlt : k < n1
    · obtain ⟨hbx, hfr, hro, hda⟩ := hall.out
      rcases hro with h0 | ⟨g, o, z, rfl, hg, hz, hzs⟩
      · exfalso; omega
      have hgX : g < X := by rw [← HX.out]; exact HI.out g hg
      obtain ⟨V, z', st, hzV, hzs', fV⟩ := store_mid (o := o + k * 8) (ty := 35) (c := kOp) hz (by
        show o + k * 8 + 8 ≤ z.size
        have : k * 8 + 8 ≤ n1 * 8 := by omega
        omega) (by kernel_rfl) (by kernel_rfl)
      have cx : wr.cell? ⟨X, 13, none⟩ = some (.slice (some ⟨g, o, none⟩) n1 c1) := cellA hbx G13.out
      have hbV := fV.cells hbx (by omega)
      have fin : V.heap[X]? = some (.cells cs 46 (0, 0)) ∧ Fr I w V ∧ RowOk I 35 8 (some ⟨g, o, none⟩) n1 V ∧ DatOk I a2 n2 V := by
        refine ⟨hbV, hfr.trans fV (fun i hi e => by have e : i = g := e; rw [e]; exact hg), .inr ⟨g, o, z', rfl, hg, hzV, by rw [hzs']; exact hzs⟩, hda.kept fV (fun g' hg' hu e => ?_)⟩
        have e : g' = g := e
        subst e
        obtain ⟨zu, hzu⟩ := hu
        rw [hz] at hzu
        simp at hzu
      have i0 : (0 : Int) ≤ (k : Int) := by omega
      have i1 : (k : Int) < (n1 : Int) := by omega
      have ST := hid st
      have FIN := hid fin
      unfold kOp at ST
      clear hbx hfr hda hg hz hzs hgX st hzV hzs' fV hbV fin hall
      go_wp2_with (first
        | (refine wpList_store_v (by exact ST.out) (by exact ⟨_, _, rfl, rfl, rfl⟩) (by kernel_rfl) ?_))
      go_roundw
      case rel => exact ⟨k + 1, by omega, by go_num, FIN⟩
      case measure => simp [intOf]; omega
    · obtain rfl : n1 = k := by omega
      obtain ⟨hbx, hfr, hro, hda⟩ := hall.out
      have cx : wr.cell? ⟨X, 52, none⟩ = some (.slice a2 n2 c2) := cellA hbx G52.out
      have HS1 := hid (And.intro hbx (And.intro hfr hda))
      clear hbx hfr hro hda hall hlt
      go_wp2_with fail
      clear cx
      go_loopw [20] (fun i wr => ∃ (k : Nat), k ≤ n2 ∧ i = .int .i64 k ∧ Hid (wr.heap[X]? = some (.cells cs 46 (0, 0)) ∧ Fr I w wr ∧ DatOk I a2 n2 wr)) (fun i _ => n2 - (intOf i).toNat)
      case atStart => exact ⟨0, Nat.zero_le _, rfl, HS1⟩
      case round =>
        clear HS1
        obtain ⟨k, hk, rfl, hall⟩ := hrel
        by_cases hlt : k < n2
        · obtain ⟨hbx, hfr, hda⟩ := hall.out
          rcases hda with h0 | ⟨g, o, z, rfl, hg, hz, hzs⟩
          · exfalso; omega
          have hgX : g < X := by rw [← HX.out]; exact HI.out g hg
          obtain ⟨x, hx⟩ := hzs k hlt
          have cx : wr.cell? ⟨X, 52, none⟩ = some (.slice (some ⟨g, o, none⟩) n2 c2) := cellA hbx G52.out
          have cz : wr.cell? ⟨g, o + k, none⟩ = some (.int .u8 x) := cellA hz hx
          have zf := frozen_of_row (j := o + k) hz
          have i0 : (0 : Int) ≤ (k : Int) := by omega
          have i1 : (k : Int) < (n2 : Int) := by omega
          have FIN := hid (fun (y : Int) => show (wr.setCell ⟨g, o + k, none⟩ (.int .u8 y)).heap[X]? = some (.cells cs 46 (0, 0)) ∧ Fr I w (wr.setCell ⟨g, o + k, none⟩ (.int .u8 y)) ∧ DatOk I (some ⟨g, o, none⟩) n2 (wr.setCell ⟨g, o + k, none⟩ (.int .u8 y)) by
            have fs : Fr (fun q => q = g) wr (wr.setCell ⟨g, o + k, none⟩ (.int .u8 y)) := Fr.setCell (p := ⟨g, o + k, none⟩) (S := fun q => q = g) (Fr.refl _ _) (fun _ => rfl) _
            refine ⟨fs.cells hbx (by omega), hfr.trans fs (fun i hi e => by have e : i = g := e; rw [e]; exact hg), .inr ⟨g, o, _, rfl, hg, setCell_row hz _, fun j hj => ?_⟩⟩
            rw [Array.getElem?_setIfInBounds]
            split
            · rename_i e
              rw [if_pos (by have := (Array.getElem?_eq_some_iff.1 hx).1; omega)]
              exact ⟨y, rfl⟩
            · exact hzs j hj)
          clear hbx hfr hg hz hzs hx hgX hall
          go_wp2_with fail
          go_roundw
          case rel => exact ⟨k + 1, by omega, by go_num, hid (FIN.out _)⟩
          case measure => simp [intOf]; omega
        · obtain rfl : n2 = k := by omega
          have HF := hid hall.out.2.1
          clear hall hlt
          go_wp2_with fail
          go_end0
          exact ⟨rfl, HF.out⟩
end Go.Proofs.Ytedhmhlhjonloaa
