/-
  A writer of fields: ints, out; the simplest entry is written.
-/
import Derived.Test.YtfkddpcadgidgaaDoorQFw
import Derived.Deep.RegionHeld3
namespace Go.Proofs.YtfkddpcadgidgaaDoor
open Go.RowKit
set_option linter.unusedVariables false

set_option maxRecDepth 20000 in
set_option maxHeartbeats 3200000 in
theorem fwInts {S : Nat → Prop} {w : World} {g : Nat} {T : TypeId} {p : Nat} {st : Int × List UInt8} (h : Fq S w g T p st) (la : Option Addr) (len lc : Nat) (ns : List Int) (hI : Is w la len ns) (hb : 0 < len → ∀ k, blk la = some k → ¬ S k) (hm : len ≤ 9223372036854775807) (hn : ∀ x ∈ ns, -9223372036854775808 ≤ x ∧ x ≤ 9223372036854775807) :
    Calls Tryd.prog 67 #[.pointer (some ⟨g, 0, none⟩), .slice la len lc] w fun e w' => (∃ v, e = .returned v) ∧ Ft S w g T p (M.pns st ns) w' := by
  have HF := hid h
  have HI := hid hI
  have HB := hid hb
  have HN := hid hn
  clear h hI hb hn
  go_enter Tryd.func67, Tryd.ntmps67
  go_wp2
  go_loopw [8] (fun i wr => ∃ k : Nat, k ≤ len ∧ i = .int .i64 k ∧ Ft S w g T p (M.pns st (ns.take k)) wr) (fun i _ => len - (intOf i).toNat)
  case atStart => exact ⟨0, by omega, rfl, Ft.refl HF.out (Fr.refl _ _)⟩
  case round =>
    obtain ⟨k, hk, rfl, hft⟩ := hrel
    by_cases hlt : k < len
    · have hI2 := HI.out.kept hft.2 (fun hz j hj hs => HB.out hz j hj hs)
      obtain ⟨b, off, x, rfl, hx, hc⟩ := hI2.at hlt
      have hxb := HN.out x (List.mem_of_getElem? hx)
      have hnx : M.pns st (ns.take (k + 1)) = M.pns (M.pns st (ns.take k)) [x] := by rw [take_nextI hx, M.pns_snoc]; rfl
      have HNX := hid hnx
      have fa : Fr (fun _ => False) wr (wr.alloc (.cells #[.int .i64 x] 2)) := Fr.alloc (Fr.refl _ _) _
      have KI := hid (fwInt64s (hft.1.kept fa (fun _ _ h => h)) (some ⟨wr.heap.size, 0, none⟩) 1 1 [x] (Is.new wr [x] _ _ 1 rfl rfl) (fun _ j hj hs => by simp [blk] at hj; have := hft.1.lt j hs; omega) (by omega) (by simpa using hxb))
      have HFT := hid hft
      have FA := hid fa
      have hi : (k : Int) < (len : Int) := by omega
      clear hI2 hx hnx hft fa
      go_wp2_with (first | (go_at_call 66; refine KI.out.mono ?_; rintro e w2 ⟨⟨v, rfl⟩, ht2⟩; have HT2 := hid ht2; clear ht2))
      go_roundw
      case rel => exact ⟨k + 1, by omega, by go_num, by rw [HNX.out]; exact HFT.out.trans (Ft.pre FA.out HT2.out)⟩
      case measure => simp [intOf]; omega
    · obtain rfl : k = len := by omega
      have HFT := hid hft
      clear hft
      go_wp2
      go_end0
      refine ⟨⟨_, rfl⟩, ?_⟩
      have := HFT.out
      rw [List.take_of_length_le (by rw [HI.out.1]; exact Nat.le_refl _)] at this
      exact this
set_option maxRecDepth 20000 in
set_option maxHeartbeats 3200000 in
theorem fwOut {S : Nat → Prop} {w : World} {g : Nat} {T : TypeId} {p : Nat} {bs : List UInt8} (h : Fq S w g T p (0, bs)) (n : Nat) (hn : bs.length = n) :
    Calls Tryd.prog 45 #[.pointer (some ⟨g, 0, none⟩)] w fun e w' => ∃ a c, e = .returned (.tuple #[.slice a n c, .int .i64 0]) ∧ Ow w.heap.size w' a c bs ∧ Fr (fun _ => False) w w' := by
  obtain ⟨a0, c0, h1, _⟩ := h.wr
  have d0 := cell_at (j := 0) h.at_ rfl
  have d1 := cell_at (j := 1) h.at_ rfl
  simp only at d0 d1
  have KO := hid (wOut_any 0 w p a0 c0 bs h1 h.le)
  rw [hn] at KO
  clear h h1 hn
  go_enter Tryd.func45, Tryd.ntmps45
  go_wp2_with (first | (go_at_call 76; refine KO.out.mono ?_; rintro e w2 ⟨a, c, rfl, ho, hf⟩; have HO := hid ho; have HF := hid hf; clear ho hf))
  go_ret2
  exact ⟨a, c, rfl, HO.out, HF.out⟩
set_option maxRecDepth 20000 in
set_option maxHeartbeats 3200000 in
theorem ewFields {S : Nat → Prop} {w : World} {g : Nat} {T : TypeId} {p : Nat} {st : Int × List UInt8} (h : Fq S w g T p st) (eb : Nat) (x : Int) (hx : w.cell? ⟨eb, 53, none⟩ = some (.int .i64 x)) (hxb : -9223372036854775808 ≤ x ∧ x ≤ 9223372036854775807) (heb : ¬ S eb) (lb lc : Nat) (hl : Is w (some ⟨lb, 0, none⟩) 4 [16, 0, 0, 0]) (hlb : ¬ S lb) :
    Calls Tryd.prog 75 #[.pointer (some ⟨g, 0, none⟩), .pointer (some ⟨eb, 0, none⟩), .slice (some ⟨lb, 0, none⟩) 4 lc] w fun e w' => (∃ v, e = .returned v) ∧ Ft S w g T p (M.pns st [x]) w' := by
  have HF := hid h
  obtain ⟨b0, o0, y0, e0, hy0, l0⟩ := hl.at (k := 0) (by omega)
  obtain ⟨b1, o1, y1, e1, hy1, l1⟩ := hl.at (k := 1) (by omega)
  obtain ⟨b2, o2, y2, e2, hy2, l2⟩ := hl.at (k := 2) (by omega)
  obtain ⟨b3, o3, y3, e3, hy3, l3⟩ := hl.at (k := 3) (by omega)
  simp only [Option.some.injEq, Addr.mk.injEq, and_true] at e0 e1 e2 e3
  obtain ⟨rfl, rfl⟩ := e0
  obtain ⟨rfl, rfl⟩ := e1
  obtain ⟨rfl, rfl⟩ := e2
  obtain ⟨rfl, rfl⟩ := e3
  simp at hy0 hy1 hy2 hy3
  subst hy0 hy1 hy2 hy3
  simp only [Nat.zero_add] at l0 l1 l2 l3
  have KI : Hid (∀ W, Fr (fun _ => False) w W → ∀ n, W.heap.size = n → Calls Tryd.prog 67 #[.pointer (some ⟨g, 0, none⟩), .slice (some ⟨n, 0, none⟩) 1 1] (W.alloc (.cells #[.int .i64 x] 3)) fun e w' => (∃ v, e = .returned v) ∧ Ft S w g T p (M.pns st [x]) w') := hid (fun W hf n hn => by
    refine (fwInts (h.kept (Fr.alloc hf (.cells #[.int .i64 x] 3)) (fun _ _ h => h)) (some ⟨n, 0, none⟩) 1 1 [x] (Is.newn W n hn [x] _ _ 1 rfl rfl) (fun _ j hj hs => by simp [blk] at hj; have := h.lt j hs; have := hf.size; omega) (by omega) (by simpa using hxb)).mono ?_
    rintro e w' ⟨h1, h2⟩
    exact ⟨h1, Ft.pre (Fr.alloc hf _) h2⟩)
  have HLB := hid hlb
  have HEB := hid heb
  clear h hl hxb hlb heb
  go_enter Tryd.func75, Tryd.ntmps75
  go_wp2
  refine wp_loop_rounds 5 ?_
  rw [rounds_succ]
  go_wp2_with fail
  go_region_held3 (fun w' => w'.cell? ⟨eb, 53, none⟩ = some (.int .i64 x)) (first | go_keep | exact s1)
    (first
      | (go_at_call 67; refine (KI.out w (Fr.refl _ w) _ rfl).mono ?_; rintro e w2 ⟨⟨v, rfl⟩, ht2⟩; have HT2 := hid ht2; have f2 := ht2.2; have s1 : w2.cell? ⟨eb, 53, none⟩ = some (.int .i64 x) := cellFr f2 HEB.out hx; have m1 := cellFr f2 HLB.out l1; have m2 := cellFr f2 HLB.out l2; have m3 := cellFr f2 HLB.out l3; clear f2 ht2)
      | (go_at_call 67; refine (KI.out w.drew (Fr.drew (Fr.refl _ w)) _ rfl).mono ?_; rintro e w2 ⟨⟨v, rfl⟩, ht2⟩; have HT2 := hid ht2; have f2 := ht2.2; have s1 : w2.cell? ⟨eb, 53, none⟩ = some (.int .i64 x) := cellFr f2 HEB.out hx; have m1 := cellFr f2 HLB.out l1; have m2 := cellFr f2 HLB.out l2; have m3 := cellFr f2 HLB.out l3; clear f2 ht2))
  go_wp2
  rw [rounds_succ]
  go_wp2
  rw [rounds_succ]
  go_wp2
  rw [rounds_succ]
  go_wp2
  rw [rounds_succ]
  go_wp2
  go_end0
  exact ⟨⟨_, rfl⟩, HT2.out⟩

end Go.Proofs.YtfkddpcadgidgaaDoor
