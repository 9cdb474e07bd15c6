/-
  clones of operations; Take.
-/
import Derived.Test.YtedgiffnfhkonaaXCnt
import Derived.Lib.SliceRun
namespace Go.Proofs.Ytedgiffnfhkonaa
open Go.RowKit
set_option linter.unusedVariables false
set_option linter.unusedSimpArgs false
set_option maxRecDepth 100000
/-- what a list of operations is answered as: new memory -/
def X.New (w : World) (os : List S.Op) (e : Ending) (w' : World) : Prop := ∃ a' c', e = .returned (.slice a' os.length c') ∧ X.Ops (fun g => w.heap.size ≤ g ∧ g < w'.heap.size) w' a' os ∧ os.length ≤ c' ∧ Fr (fun _ => False) w w'
theorem X.New.of {w w1 w2 : World} {R : List S.Op} {a : Option Addr} {c : Nat} (h1 : Fr (fun _ => False) w w1) (h2 : X.Ops (fun g => w1.heap.size ≤ g ∧ g < w2.heap.size) w2 a R) (h3 : R.length ≤ c) (h4 : Fr (fun _ => False) w1 w2) : X.New w R (.returned (.slice a R.length c)) w2 := ⟨a, c, rfl, h2.mono (fun i hi => ⟨Nat.le_trans h1.size hi.1, hi.2⟩), h3, h1.trans h4 (fun _ _ h => h)⟩
theorem X.New.nil (w : World) : X.New w [] (.returned (.slice none 0 0)) w := ⟨none, 0, rfl, X.Ops.nil _ _ _, Nat.zero_le _, Fr.refl _ _⟩
theorem X.clone_run {I : Nat → Prop} (w : World) (ad : Addr) (sc : Nat) (os : List S.Op) (h : X.Ops I w (some ad) os) (hn : os.length ≤ 1599289640401) :
    ∃ a' c' w', (Builtin.append_ #[28, 28] 28 #[.slice (some ⟨w.heap.size, 0, none⟩) 0 0, .slice (some ad) os.length sc]).run Try.prog (w.alloc (.cells #[] 43)) = .ok (.slice a' os.length c') w' ∧ X.Ops (fun g => w.heap.size ≤ g ∧ g < w'.heap.size) w' a' os ∧ os.length ≤ c' ∧ Fr (fun _ => False) w w' := by
  obtain ⟨i0, z, hi, hz0, hz1, hz2, hzs⟩ := X.info_o
  have f0 : Fr (fun _ => False) w (w.alloc (.cells #[] 43)) := Fr.alloc (Fr.refl _ _) _
  have hr0 : Ro (w.alloc (.cells #[] 43)) 43 8 (some ⟨w.heap.size, 0, none⟩) 0 0 [] := ⟨by simp, .inr ⟨w.heap.size, 0, #[], by simp, Go.heap_alloc_new w _, Nat.le_refl _, Nat.zero_le _, by simp, by simp⟩⟩
  rcases Nat.eq_zero_or_pos os.length with h0 | h0
  · have hs : os = [] := List.eq_nil_of_length_eq_zero h0
    subst hs
    have hsrc : Src Try.prog 8 28 (.slice (some ad) 0 sc) 0 [] (w.alloc (.cells #[] 43)) := Src.ofSlice _ Try.underlying28 ad 0 sc [] (by simp) (by simp) (by simp)
    exact ⟨_, _, _, run_append_nothing (w.alloc (.cells #[] 43)) 28 28 28 43 i0 Try.underlying28 hi (some ⟨w.heap.size, 0, none⟩) 0 0 (Nat.le_refl _) _ (by rw [hz1]; exact hsrc), X.Ops.nil _ _ _, Nat.le_refl _, f0⟩
  · have hcell : ∀ j u, (X.flat os)[j]? = some u → (w.alloc (.cells #[] 43)).cell? (ad.add j) = some u := fun j u hu => by
      rcases (h.fr f0).2 with hv | ⟨g, o, hv, _, hc⟩
      · omega
      · cases hv
        rw [Addr.add_lit]
        exact hc j u hu
    obtain ⟨a', c', w', hr, h2, h3, h4⟩ := run_append_o (P := Try.prog) (w.alloc (.cells #[] 43)) 28 28 43 i0 z 8 88 Try.underlying28 hi hz0 hz1 hz2 hzs (by omega) (some ⟨w.heap.size, 0, none⟩) 0 0 [] hr0 ad os.length sc (X.flat os) h.1 hcell (X.flat_ones os) h0 (by omega) (by omega)
    rw [Nat.zero_add, List.nil_append] at h2
    rw [Nat.zero_add] at hr
    refine ⟨a', c', w', hr, Rw.of_ro h2 (fun g hg => ⟨?_, h2.lt g hg⟩), h2.le.1, f0.trans (Fr.of_grown h3) (fun i hi e => by simp [blk] at e; omega)⟩
    rcases h4 with ⟨rfl, _⟩ | ⟨rfl, _⟩
    · simp [blk] at hg; omega
    · simp [blk] at hg; omega
theorem xclone_any {I : Nat → Prop} (w : World) (a : Option Addr) (c : Nat) (os : List S.Op) (h : X.Ops I w a os) (hn : os.length ≤ 1599289640401) :
    Calls Try.prog 10 #[.slice a os.length c] w fun e w' => X.New w os e w' := by
  have k1 := fun (w : World) (a : Option Addr) (l c : Nat) => Lib.run_eql_slice_nil (P := Try.prog) w 28 43 a l c 0 0 Try.underlying28
  cases a with
  | none =>
    have h0 : os.length = 0 := by
      rcases h.2 with h0 | ⟨g, o, hv, _⟩
      · exact h0
      · cases hv
    have hs : os = [] := List.eq_nil_of_length_eq_zero h0
    subst hs
    clear h
    go_enter Try.func10, Try.ntmps10
    go_wp2
    go_ret
    exact X.New.nil _
  | some ad =>
    obtain ⟨a', c', w', hr, h2⟩ := X.clone_run w ad c os h hn
    have R := hid hr
    have HP := hid h2
    unfold X.New
    obtain ⟨n, hn1⟩ : ∃ n, os.length = n := ⟨_, rfl⟩
    rw [hn1] at R HP ⊢
    clear hr h2 h hn1 hn
    go_enter Try.func10, Try.ntmps10
    go_wp2_with (first | (at_builtin; refine wpList_append_eq _ _ rfl (.tmp 5) (.tmp 6) _ rfl _ _ _ rfl rfl R.out ?_))
    go_ret
    exact ⟨_, _, rfl, HP.out⟩
theorem counting_any {I : Nat → Prop} (w : World) (g : Nat → Int) (b : Bool) (v : Nat → Value) (hg : X.in64 g) (o q : Int) (l : List S.Op) (a : Option Addr) (c : Nat) (hl : X.Ops I w a l) (hi : ∀ x ∈ l, x.in64) (hlc : l.length ≤ c) (hln : l.length ≤ 1599289640401) :
    Calls Try.prog 11 #[.agg (X.cs g b v), .int .i64 o, .int .i64 q, .slice a l.length c] w fun e w' => ∃ a' c', e = .returned (.slice a' (X.cnt g o q l).length c') ∧ X.Ops I w' a' (X.cnt g o q l) ∧ (X.cnt g o q l).length ≤ c' ∧ Fr (fun _ => False) w w' := by
  cases hm : X.may g o q with
  | false =>
    refine (counting_no (I := I) w g b v o q a l.length c hm).mono fun e w' h => ?_
    obtain ⟨rfl, hf⟩ := h
    have e0 : X.cnt g o q l = [] := by unfold X.cnt; rw [hm]; simp
    rw [e0]
    exact ⟨_, _, rfl, X.Ops.nil _ _ _, Nat.zero_le _, hf⟩
  | true =>
    have hs : X.site o = true := by unfold X.may at hm; cases h : X.site o <;> simp [h] at hm ⊢
    have hs2 := X.site_iff.1 hs
    obtain ⟨k, rfl⟩ : ∃ k : Nat, o = (k : Int) := ⟨o.toNat, by omega⟩
    exact counting_ok w g b v hg k (by omega) q l a c hl hi hlc hln hm
theorem X.cnt_le (g : Nat → Int) (o q : Int) (l : List S.Op) : (X.cnt g o q l).length ≤ l.length := by
  unfold X.cnt
  split
  · refine Nat.le_trans (X.run_le _ _ _ _ _) ?_
    rw [List.length_drop]; omega
  · exact Nat.zero_le _
/-- a state in a box, whole -/
def X.Sn (W : World) (k : Nat) (g : Nat → Int) (b : Bool) (v : Nat → Value) : Prop := ∀ j u, (X.cs g b v)[j]? = some u → W.cell? ⟨k, j, none⟩ = some u
theorem X.Sn.of {W : World} {k : Nat} {g : Nat → Int} {b : Bool} {v : Nat → Value} {t : TypeId} {m : Nat × Nat} (h : W.heap[k]? = some (.cells (X.cs g b v) t m)) : X.Sn W k g b v := fun j u hu => cell_at h hu
theorem X.Sn.kept {M : Nat → Prop} {W V : World} {k : Nat} {g : Nat → Int} {b : Bool} {v : Nat → Value} (h : X.Sn W k g b v) (hf : Fr M W V) (hM : ¬ M k) : X.Sn V k g b v := fun j u hu => cellFr hf hM (h j u hu)
theorem X.Sn.num {W : World} {k : Nat} {g : Nat → Int} {b : Bool} {v : Nat → Value} (h : X.Sn W k g b v) : X.Sc W k g := fun j h1 h2 h3 => h j _ (X.cs_num g b v h1 h2 h3)
theorem X.Sn.load {W : World} {k : Nat} {g : Nat → Int} {b : Bool} {v : Nat → Value} (h : X.Sn W k g b v) : (Instr.loadAt 34 (.pointer (some ⟨k, 0, none⟩))).run Try.prog W = .ok (.agg (X.cs g b v)) W := by
  have := run_loadAt_mid (P := Try.prog) W k 0 34 (X.cs g b v).toList _ (fun j u hu => by rw [Nat.zero_add]; exact h j u (by rw [← Array.getElem?_toList]; exact hu)) Try.underlying34 rfl (by rw [Array.length_toList, X.cs_size]; kernel_rfl)
  simpa using this
set_option maxHeartbeats 1600000 in
theorem xtake_any {I : Nat → Prop} (w : World) (g : Nat → Int) (b : Bool) (v : Nat → Value) (hg : X.in64 g) (o q : Int) (l : List S.Op) (a : Option Addr) (c : Nat) (hl : X.Ops I w a l) (hi : ∀ x ∈ l, x.in64) (hlc : l.length ≤ c) (hln : l.length ≤ 1599289640401) :
    Calls Try.prog 7 #[.agg (X.cs g b v), .int .i64 o, .int .i64 q, .slice a l.length c] w fun e w' => X.New w (X.cnt g o q l) e w' := by
  have F0 := hid (show Fr (fun _ => False) w (w.alloc (.cells (X.cs g b v) 34)) from Fr.alloc (Fr.refl _ _) _)
  have LS := hid (X.Sn.load (X.Sn.of (Go.heap_alloc_new w (.cells (X.cs g b v) 34))))
  have KC := hid (fun W (hf : Fr (fun _ => False) w W) => counting_any W g b v hg o q l a c (hl.fr hf) hi hlc hln)
  have LC := hid (Nat.le_trans (X.cnt_le g o q l) hln)
  generalize X.cs g b v = CX at F0 LS KC ⊢
  generalize X.cnt g o q l = R at KC LC ⊢
  go_enter Try.func7, Try.ntmps7
  go_wp2_with (first
    | (refine wpList_load_v LS.out (by exact ⟨_, rfl, rfl⟩) (by kernel_rfl) ?_)
    | (go_at_call 11; refine (KC.out _ (by exact F0.out)).mono ?_; rintro e w1 ⟨a1, c1, rfl, h1, h2, f1⟩; have O1 := hid h1; have F1 := hid (F0.out.trans f1 (fun _ _ h => h)); clear h1 h2 f1; dsimp only)
    | (go_at_call 10; refine (xclone_any _ _ _ _ O1.out LC.out).mono ?_; rintro e w2 ⟨a2, c2, rfl, h1, h2, f1⟩; have P := hid (X.New.of (R := R) F1.out h1 h2 f1); clear h1 h2 f1; dsimp only))
  go_ret
  exact P.out
end Go.Proofs.Ytedgiffnfhkonaa
