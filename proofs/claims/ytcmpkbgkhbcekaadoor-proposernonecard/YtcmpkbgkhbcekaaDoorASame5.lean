/-
  SameEntry: two entries in memory are the same just if they are the same entry.
-/
import Derived.Test.YtcmpkbgkhbcekaaDoorASame2
import Derived.Test.YtcmpkbgkhbcekaaDoorASame3
import Derived.Test.YtcmpkbgkhbcekaaDoorASame4
namespace Go.Proofs.YtcmpkbgkhbcekaaDoor
open Go.RowKit
set_option linter.unusedVariables false

theorem sameParts {I J : Nat → Prop} {w : World} {ca cb : Array Value} {x y : A.Pa} {a1 a2 b1 b2 : Option Addr} {c1 c2 d1 d2 : Nat} (hca : ca = (((A.cells x.f x.g).set 13 (.slice a1 x.ops.length c1)).set 52 (.slice a2 x.dt.length c2)).toArray) (hcb : cb = (((A.cells y.f y.g).set 13 (.slice b1 y.ops.length d1)).set 52 (.slice b2 y.dt.length d2)).toArray)
    (xo : Rw I w 8 a1 x.ops.length x.ops.flatten) (xd : Rw I w 1 a2 x.dt.length (x.dt.map B)) (yo : Rw J w 8 b1 y.ops.length y.ops.flatten) (yd : Rw J w 1 b2 y.dt.length (y.dt.map B))
    (hx : ∀ o ∈ x.ops, ∃ p : A.Op8, o = p.cs) (hy : ∀ o ∈ y.ops, ∃ p : A.Op8, o = p.cs) (hlx : x.ops.length ≤ 1599289640401) :
    Calls Tryd.prog 10 #[.agg ca, .agg cb] w fun e w' => ∃ r : Bool, e = .returned (.bool r) ∧ (r = true ↔ x.En = y.En) ∧ Fr (fun _ => False) w w' := by
  rw [A.Pa.eq_iff]
  obtain ⟨hsa, hsb, vO, vO', vE, vE', vV, vV', rO, rE, rV, h⟩ := SE.mk' hca hcb xo xd yo yd hx hy hlx
  by_cases h0 : x.f 0 = y.f 0
  · by_cases h1 : x.f 1 = y.f 1
    · by_cases h2 : x.f 2 = y.f 2
      · cases hO : rO with
        | false => exact same_o hsa hsb h h0 h1 h2 hO _ (fun r w' h1 h2 => ⟨r, rfl, h1, h2⟩)
        | true =>
          by_cases h11 : x.f 11 = y.f 11
          · by_cases h12 : x.f 12 = y.f 12
            · exact same_rest hsa hsb h h0 h1 h2 hO h11 h12 _ (fun r w' h1 h2 => ⟨r, rfl, h1, h2⟩)
            · exact same_n12 hsa hsb h h0 h1 h2 hO h11 h12 _ (fun r w' h1 h2 => ⟨r, rfl, h1, h2⟩)
          · exact same_n11 hsa hsb h h0 h1 h2 hO h11 _ (fun r w' h1 h2 => ⟨r, rfl, h1, h2⟩)
      · exact same_n2 hsa hsb h h0 h1 h2 _ (fun r w' h1 h2 => ⟨r, rfl, h1, h2⟩)
    · exact same_n1 hsa hsb h h0 h1 _ (fun r w' h1 h2 => ⟨r, rfl, h1, h2⟩)
  · exact same_n0 hsa hsb h h0 _ (fun r w' h1 h2 => ⟨r, rfl, h1, h2⟩)
/-- SameEntry -/
theorem sameEntry_any {I J : Nat → Prop} {w : World} {ca cb : List Value} {e f : A.En} (h : Re I w ca e) (k : Re J w cb f) :
    Calls Tryd.prog 10 #[.agg ca.toArray, .agg cb.toArray] w fun r w' => ∃ b : Bool, r = .returned (.bool b) ∧ (b = true ↔ e = f) ∧ Fr (fun _ => False) w w' := by
  obtain ⟨he, a1, c1, a2, c2, rfl, xo, xd⟩ := h
  obtain ⟨hf, b1, d1, b2, d2, rfl, yo, yd⟩ := k
  obtain ⟨fe, ge, hce⟩ := he.cells
  obtain ⟨ff, gf, hcf⟩ := hf.cells
  have hpe : (A.Pa.mk fe ge e.ops e.dt).En = e := by unfold A.Pa.En; simp only; rw [← hce]
  have hpf : (A.Pa.mk ff gf f.ops f.dt).En = f := by unfold A.Pa.En; simp only; rw [← hcf]
  have := sameParts (x := ⟨fe, ge, e.ops, e.dt⟩) (y := ⟨ff, gf, f.ops, f.dt⟩) (ca := ((e.fx.set 13 (.slice a1 e.ops.length c1)).set 52 (.slice a2 e.dt.length c2)).toArray) (cb := ((f.fx.set 13 (.slice b1 f.ops.length d1)).set 52 (.slice b2 f.dt.length d2)).toArray) (by rw [hce]) (by rw [hcf]) xo xd yo yd (fun o ho => A.op_of (he.op o ho).1 (he.op o ho).2) (fun o ho => A.op_of (hf.op o ho).1 (hf.op o ho).2) he.many
  rw [hpe, hpf] at this
  exact this
end Go.Proofs.YtcmpkbgkhbcekaaDoor
