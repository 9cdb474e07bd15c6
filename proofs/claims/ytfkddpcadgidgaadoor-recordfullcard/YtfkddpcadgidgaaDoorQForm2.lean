/-
  The document's form of an operation.
-/
import Derived.Test.YtfkddpcadgidgaaDoorQForm
import Derived.Deep.RegionHeld3
namespace Go.Proofs.YtfkddpcadgidgaaDoor
open Go.RowKit
set_option linter.unusedVariables false

/-- a row that grows behind W, all of it new -/
def Gz (w W V : World) (a : Option Addr) (c : Nat) (bs : List UInt8) : Prop := Ow w.heap.size V a c bs ∧ Fr (fun _ => False) W V ∧ (∀ k, blk a = some k → W.heap.size ≤ k) ∧ w.heap.size ≤ W.heap.size
theorem Gz.drew {w W V : World} {a : Option Addr} {c : Nat} {bs : List UInt8} (h : Gz w W V a c bs) : Gz w W V.drew a c bs :=
  ⟨h.1.kept (Fr.drew (Fr.refl (fun _ => False) V)) (fun _ _ h => h), Fr.drew h.2.1, h.2.2⟩
theorem fText_z {w W V : World} {a : Option Addr} {c : Nat} {bs : List UInt8} (h : Gz w W V a c bs) (n : Nat) (hn : bs.length = n) (s : ByteArray) (hs : s.size ≤ 1000) (hm : n ≤ 100000000000000) (el : Nat) (hel : (encT s).length = el) :
    Calls Tryd.prog 42 #[.slice a n c, .string s] V fun e w' => ∃ a' c', e = .returned (.slice a' (n + el) c') ∧ Gz w W w' a' c' (bs ++ encT s) := by
  refine (fText_any w.heap.size V a n c bs hn h.1 (Nat.le_trans h.2.2.2 h.2.1.size) s hs hm el hel).mono ?_
  rintro e w' ⟨a', c', rfl, hg⟩
  refine ⟨a', c', rfl, hg.1, h.2.1.trans hg.2.1 (fun i hi e => by have := h.2.2.1 i e; omega), fun k hk => ?_, h.2.2.2⟩
  rcases hg.2.2 with e | e
  · rw [e] at hk; exact h.2.2.1 k hk
  · exact Nat.le_trans h.2.1.size (e k hk)

set_option maxRecDepth 20000 in
set_option maxHeartbeats 3200000 in
theorem rOpForm_any (o : M.Op) (w : World) (hi : ∀ x ∈ [o.t, o.s, o.k, o.n, o.p], -9223372036854775808 ≤ x ∧ x ≤ 9223372036854775807) (hs : ∀ x ∈ [o.a, o.b, o.c], x.size ≤ 1000) (fl : Nat) (hfl : (M.opl o).flatten.length = fl) :
    Calls Tryd.prog 18 #[.agg o.cs] w fun e w' => ∃ a c, e = .returned (.slice a fl c) ∧ Ow w.heap.size w' a c (M.opl o).flatten ∧ Fr (fun _ => False) w w' := by
  have ea : (M.opl o).flatten = M.encs [o.t, o.s, o.k, o.n, o.p] ++ encT o.a ++ encT o.b ++ encT o.c := by simp [M.opl, M.encs]
  rw [ea] at hfl ⊢
  have fW : Fr (fun _ => False) w (w.alloc (.cells o.cs 25)) := Fr.alloc (Fr.refl _ _) _
  have bW : (w.alloc (.cells o.cs 25)).heap[w.heap.size]? = some (.cells o.cs 25 (0, 0)) := Go.heap_alloc_new w _
  obtain ⟨W, hW⟩ : ∃ W, w.alloc (.cells o.cs 25) = W := ⟨_, rfl⟩
  rw [hW] at fW bW
  have hWs : W.heap.size = w.heap.size + 1 := by rw [← hW, World.size_alloc]
  obtain ⟨es, hes⟩ : ∃ es, M.encs [o.t, o.s, o.k, o.n, o.p] = es := ⟨_, rfl⟩
  have hel : es.length ≤ 50 := by rw [← hes]; exact M.encs_ten _ hi
  obtain ⟨el, hl⟩ : ∃ el, es.length = el := ⟨_, rfl⟩
  obtain ⟨l1, h1⟩ : ∃ l, (encT o.a).length = l := ⟨_, rfl⟩
  obtain ⟨l2, h2⟩ : ∃ l, (encT o.b).length = l := ⟨_, rfl⟩
  obtain ⟨l3, h3⟩ : ∃ l, (encT o.c).length = l := ⟨_, rfl⟩
  have enl : ∀ s : ByteArray, s.size ≤ 1000 → (encT s).length ≤ 2000 := fun s h => by
    have hlen : s.data.toList.length = s.size := by rw [← str_size, str_of]
    unfold encT encB
    rw [List.length_append, hlen]
    have := M.enc_ten _ (M.fd_lt s.size (by omega) (by omega))
    omega
  have b1 := enl o.a (hs _ (by simp))
  have b2 := enl o.b (hs _ (by simp))
  have b3 := enl o.c (hs _ (by simp))
  rw [h1] at b1
  rw [h2] at b2
  rw [h3] at b3
  rw [hl] at hel
  rw [hes] at hfl ⊢
  have hft : fl = el + l1 + l2 + l3 := by rw [← hfl]; simp [hl, h1, h2, h3]; omega
  have KN : Hid (Calls Tryd.prog 41 #[.slice none 0 0, .slice (some ⟨w.heap.size + 1, 0, none⟩) 5 5] (W.alloc (.cells #[.int .i64 o.t, .int .i64 o.s, .int .i64 o.k, .int .i64 o.n, .int .i64 o.p] 2)) fun e w' => ∃ a' c', e = .returned (.slice a' el c') ∧ Ow w.heap.size w' a' c' es ∧ Fr (fun _ => False) W w' ∧ ∀ k, blk a' = some k → W.heap.size ≤ k) := hid (by
    refine (rNum_any w.heap.size _ none 0 0 [] rfl (Ow.nil _ _) (by rw [World.size_alloc]; omega) (some ⟨w.heap.size + 1, 0, none⟩) 5 5 [o.t, o.s, o.k, o.n, o.p] (Is.newn W _ hWs _ _ _ 5 rfl rfl) (fun _ k _ e => by simp [blk] at e) (by omega) hi).mono ?_
    rintro e w' ⟨a', c', rfl, hg⟩
    rw [hes, List.nil_append] at hg
    rw [hes, hl, Nat.zero_add]
    refine ⟨a', c', rfl, hg.1, (Fr.alloc (Fr.refl _ _) _).trans hg.2.1 (fun i _ e => by simp [blk] at e), fun k hk => ?_⟩
    rcases hg.2.2 with e | e
    · rw [e] at hk; simp [blk] at hk
    · have := e k hk; rw [World.size_alloc] at this; omega)
  have HFT := hid hft
  have HL := hid hl
  have H1 := hid h1
  have H2 := hid h2
  have H3 := hid h3
  have FW := hid fW
  have BW := hid bW
  have HW := hid hW
  have HWS := hid hWs
  have HS := hid hs
  clear fW bW hW hWs hes hl h1 h2 h3 hfl hft ea enl hi hs
  unfold M.Op.cs at *
  go_enter Tryd.func18, Tryd.ntmps18
  go_upto_region 1 with fail
  rw [HW.out]
  have c0 := cell_at (j := 0) BW.out rfl
  have c1 := cell_at (j := 1) BW.out rfl
  have c2 := cell_at (j := 2) BW.out rfl
  have c3 := cell_at (j := 3) BW.out rfl
  have c4 := cell_at (j := 4) BW.out rfl
  have HSx : Hid (∀ V, Fr (fun _ => False) W V → V.cell? ⟨w.heap.size, 5, none⟩ = some (.string o.a) ∧ V.cell? ⟨w.heap.size, 6, none⟩ = some (.string o.b) ∧ V.cell? ⟨w.heap.size, 7, none⟩ = some (.string o.c)) := hid (fun V hf => by
    have b := hf.cells BW.out (fun h => h)
    exact ⟨cell_at (j := 5) b rfl, cell_at (j := 6) b rfl, cell_at (j := 7) b rfl⟩)
  go_upto_region 2 with (first | (go_at_call 41; rw [HWS.out]; refine KN.out.mono ?_; rintro e w1 ⟨a1, c1', rfl, ho, hf, hn⟩; have G1 := hid (show Gz w W w1 a1 c1' es from ⟨ho, hf, hn, by have := HWS.out; omega⟩); have z1 := HSx.out w1 hf; clear ho hf hn))
  have K1 : Hid (∀ V, V = w1 ∨ V = w1.drew → Calls Tryd.prog 42 #[.slice a1 el c1', .string o.a] V fun e w' => ∃ a' c', e = .returned (.slice a' (el + l1) c') ∧ Gz w W w' a' c' (es ++ encT o.a)) := hid (fun V hV => by
    rcases hV with rfl | rfl
    · exact fText_z G1.out el HL.out o.a (HS.out _ (by simp)) (by omega) l1 H1.out
    · exact fText_z G1.out.drew el HL.out o.a (HS.out _ (by simp)) (by omega) l1 H1.out)
  clear c0 c1 c2 c3 c4
  go_region_held3 (fun V => V.cell? ⟨w.heap.size, 5, none⟩ = some (.string o.a) ∧ V.cell? ⟨w.heap.size, 6, none⟩ = some (.string o.b) ∧ V.cell? ⟨w.heap.size, 7, none⟩ = some (.string o.c)) (first | exact HSx.out _ G4.out.2.1 | exact HSx.out _ G3.out.2.1 | exact HSx.out _ G2.out.2.1 | exact HSx.out _ G1.out.2.1 | exact HSx.out _ G1.out.drew.2.1)
    (first
      | (go_at_call 42; refine (fText_z G3.out (el + l1 + l2) (by simp [HL.out, H1.out, H2.out]; omega) o.c (HS.out _ (by simp)) (by omega) l3 H3.out).mono ?_; rintro e w4 ⟨a4, c4, rfl, hz⟩; have G4 := hid hz; clear hz)
      | (go_at_call 42; refine (fText_z G2.out (el + l1) (by simp [HL.out, H1.out]) o.b (HS.out _ (by simp)) (by omega) l2 H2.out).mono ?_; rintro e w3 ⟨a3, c3, rfl, hz⟩; have G3 := hid hz; clear hz)
      | (go_at_call 42; refine (K1.out _ (by first | exact .inl rfl | exact .inr rfl)).mono ?_; rintro e w2 ⟨a2, c2, rfl, hz⟩; have G2 := hid hz; clear hz))
  go_wp2
  go_ret
  exact ⟨a4, c4, by rw [HFT.out]; rfl, G4.out.1, FW.out.trans G4.out.2.1 (fun _ _ h => h)⟩
end Go.Proofs.YtfkddpcadgidgaaDoor
