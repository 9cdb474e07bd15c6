/-
  What acceptor's laws over scripts are told: the script in memory, the two acceptors as they begin, does of a promise and of an acceptance, what is told by both.
-/
import Derived.Test.YtedhmhlhjonloaaADoes0
import Derived.Test.YtedhmhlhjonloaaADoes1
import Derived.Test.YtedhmhlhjonloaaADoes2
import Derived.Test.YtedhmhlhjonloaaATold
namespace Go.Proofs.Ytedhmhlhjonloaa
open Go.RowKit Go.Maps
set_option linter.unusedVariables false
set_option linter.unusedSimpArgs false

abbrev Lo := Array Value × A.Lop
/-- A SCRIPT, in blocks of E. -/
structure Lz (E : Nat → Prop) (w : World) (a : Option Addr) (os : List Lo) : Prop where
  row : Rw E w 61 a os.length ((os.map (fun x => x.1.toList)).flatten)
  el : ∀ x ∈ os, Rl E w x.1 x.2
theorem Lz.fr {E : Nat → Prop} {w w' : World} {a : Option Addr} {os : List Lo} (h : Lz E w a os) (hf : Fr (fun _ => False) w w') : Lz E w' a os := ⟨h.row.kept hf (fun _ _ h => h), fun x hx => (h.el x hx).kept hf (fun _ _ h => h)⟩
theorem Rl.one {E : Nat → Prop} {w : World} {cs : Array Value} {o : A.Lop} (h : Rl E w cs o) : cs.all (·.oneCell') = true := by
  obtain ⟨ec, rfl, h2, _⟩ := h
  rw [Array.all_eq_true_iff_forall_mem]
  intro u hu
  simp only [List.mem_toArray, List.mem_cons, List.mem_append, List.not_mem_nil, or_false] at hu
  rcases hu with rfl | rfl | rfl | rfl | hu | rfl
  · rfl
  · rfl
  · rfl
  · rfl
  · exact h2.one u hu
  · rfl
theorem Lz.at {E : Nat → Prop} {w : World} {a : Option Addr} {os : List Lo} (h : Lz E w a os) {i : Nat} {x : Lo} (hx : os[i]? = some x) : ∃ g o, a = some ⟨g, o, none⟩ ∧ (Instr.loadAt 48 (.pointer (some ⟨g, o + i * 61, none⟩))).run Try.prog w = .ok (.agg x.1) w := by
  have hi : i < os.length := (List.getElem?_eq_some_iff.1 hx).1
  have hm := List.mem_of_getElem? hx
  have hz := (h.el x hm).size
  rcases h.row.2 with h0 | ⟨g, o, ha, hI, hc⟩
  · omega
  · refine ⟨g, o, ha, ?_⟩
    have hf := flat_at (k := 61) (l := os.map (fun x => x.1.toList)) (fun l hl => by
      obtain ⟨y, hy, rfl⟩ := List.mem_map.1 hl
      rw [Array.length_toList]; exact (h.el y hy).size) (show (os.map (fun x => x.1.toList))[i]? = some x.1.toList by rw [List.getElem?_map, hx]; rfl)
    have := run_loadAt_mid (P := Try.prog) w g (o + i * 61) 48 x.1.toList _ (fun j v hv => by
      rw [Nat.add_assoc]
      refine hc (i * 61 + j) v ?_
      rw [← hf, List.getElem?_take] at hv
      split at hv
      · rw [List.getElem?_drop] at hv; exact hv
      · cases hv) Try.underlying48 rfl (by rw [Array.length_toList, hz]; kernel_rfl)
    simpa using this
/-- the zero of an operation -/
def zL61 : Array Value := #[.int .i64 0, .int .i64 0, .int .i64 0, .int .i64 0, .int .i64 0, .int .i64 0, .int .i64 0, .int .i64 0, .int .i64 0, .int .i64 0, .int .i64 0, .int .i64 0, .string ⟨#[]⟩, .string ⟨#[]⟩, .string ⟨#[]⟩, .int .i64 0, .int .i64 0, .slice none 0 0, .int .i64 0, .int .i64 0, .int .i64 0, .int .i64 0, .int .i64 0, .int .i64 0, .int .i64 0, .int .i64 0, .int .i64 0, .int .i64 0, .int .i64 0, .int .i64 0, .int .i64 0, .int .i64 0, .int .i64 0, .int .i64 0, .int .i64 0, .int .i64 0, .int .i64 0, .int .i64 0, .int .i64 0, .int .i64 0, .int .i64 0, .int .i64 0, .int .i64 0, .int .i64 0, .int .i64 0, .int .i64 0, .int .i64 0, .int .i64 0, .int .i64 0, .int .i64 0, .int .i64 0, .int .i64 0, .int .i64 0, .int .i64 0, .int .i64 0, .int .i64 0, .slice none 0 0, .int .i64 0, .int .i64 0, .int .i64 0, .int .i64 0]
/-- the document's acceptor, as it begins -/
theorem rg_new (w : World) : Rg (fun _ => False) (w.alloc (.cells #[.int .i64 0, .int .i64 0, .int .i64 0, .slice none 0 0] 30)) w.heap.size A.new :=
  ⟨fun _ h => h.elim, by simp, none, 0, [], ⟨Go.heap_alloc_new w _, Ls.nil _ _ _, Nat.le_refl _, rfl, by simp [A.new, A.Up], fun h => h⟩⟩
theorem A.put_len {α : Type} (k : Int) (v : α) (l : List (Int × α)) : (A.put k v l).length ≤ l.length + 1 := A.length_put_le k v l
theorem A.prepare_l (a : A.Ac) (b : A.Bl) (k : Int) : (A.prepare a b k).2.2.l = a.l := by
  unfold A.prepare
  split <;> rfl
theorem A.accept_l (a : A.Ac) (b : A.Bl) (k : Int) (e : A.En) : (A.accept a b k e).2.l.length ≤ a.l.length + 1 := by
  unfold A.accept
  split
  · simp
  · split
    · simp
    · exact A.length_put_le _ _ _
theorem A.forget_l (a : A.Ac) (k : Int) : (A.forget a k).2.l.length ≤ a.l.length := by
  unfold A.forget
  split
  · exact List.length_filter_le _ _
  · exact Nat.le_refl _
theorem A.put_put_len {α : Type} (k : Int) (v u : α) (l : List (Int × α)) : (A.put k v (A.put k u l)).length ≤ l.length + 1 := by
  rw [(A.put_perm k v _).length_eq, List.length_cons]
  have h : (A.del k (A.put k u l)).length = (A.del k l).length := by
    have h1 := ((A.put_perm k u l).filter (fun p => !(p.1 == k))).length_eq
    have h2 : A.del k (A.put k u l) = (A.put k u l).filter (fun p => !(p.1 == k)) := rfl
    rw [h2, h1]
    simp [A.del, List.filter_cons, List.filter_filter]
  have h3 : (A.del k l).length ≤ l.length := List.length_filter_le _ _
  omega
/-- what comes twice adds no slot the second time -/
theorem A.op_twice (a : A.Ac) (o : A.Lop) (hk : o.kind = 0 ∨ o.kind = 1) : (A.op (A.op a o) o).l.length ≤ a.l.length + 1 := by
  rcases hk with hk | hk
  · simp only [A.op, hk, if_true]
    rw [A.prepare_l, A.prepare_l]
    omega
  · have h10 : ¬ (1 : Int) = 0 := by omega
    simp only [A.op, hk, h10, if_true, if_false]
    have h1 : (A.accept a o.bl o.slot o.en).2.l = a.l ∨ ∃ s, (A.accept a o.bl o.slot o.en).2.l = A.put o.slot s a.l := by
      unfold A.accept
      split
      · exact .inl rfl
      · split
        · exact .inl rfl
        · exact .inr ⟨_, rfl⟩
    rcases h1 with h1 | ⟨s, h1⟩
    · have := A.accept_l (A.accept a o.bl o.slot o.en).2 o.bl o.slot o.en
      rw [h1] at this
      exact this
    · have h2 : ∀ c : A.Ac, (A.accept c o.bl o.slot o.en).2.l = c.l ∨ ∃ s, (A.accept c o.bl o.slot o.en).2.l = A.put o.slot s c.l := fun c => by
        unfold A.accept
        split
        · exact .inl rfl
        · split
          · exact .inl rfl
          · exact .inr ⟨_, rfl⟩
      rcases h2 (A.accept a o.bl o.slot o.en).2 with h3 | ⟨s', h3⟩
      · rw [h3, h1]
        exact A.length_put_le _ _ _
      · rw [h3, h1]
        exact A.put_put_len _ _ _ _
/-- does, a promise or an acceptance -/
theorem does_01 {I J E : Nat → Prop} {w : World} {p mb q : Nat} {a : A.Ac} (h : Bt I J w p mb q a) {cs : Array Value} {o : A.Lop} (hc : Rl E w cs o) (hE : ¬ E p ∧ ¬ E mb ∧ ¬ E q) (hl : a.l.length < 300000000000) (hk : o.kind = 0 ∨ o.kind = 1) :
    Calls Try.prog 14 #[ptrV p, ptrV q, .agg cs] w fun e w' => ∃ a', Dn I J w p mb q a' e w' ∧ a'.l.length ≤ a.l.length + 1 ∧ a' = A.op a o := by
  rcases hk with hk | hk
  · exact (does_0 h hc hE hl hk).mono (fun e w' hd => ⟨_, hd, by rw [A.prepare_l]; omega, by simp [A.op, hk]⟩)
  · exact (does_1 h hc hE hl hk).mono (fun e w' hd => ⟨_, hd, A.accept_l _ _ _ _, by simp [A.op, hk]⟩)
/-- what both tell, from a slot on -/
theorem told_both {I J : Nat → Prop} {w : World} {p mb q : Nat} {a : A.Ac} (h : Bt I J w p mb q a) (hl : a.l.length < 300000000000) (k : Int) :
    (Calls Try.prog 16 #[ptrV p, .int .i64 k] w fun e w1 => ∃ B, e = .returned (.func (.func 46) #[] #[ptrV B]) ∧ Fr (fun _ => False) w w1 ∧
      (Calls Try.prog 17 #[ptrV q, .int .i64 k] w1 fun e w2 => ∃ oa n oc, e = .returned (.slice oa n oc) ∧ Fr (fun _ => False) w1 w2 ∧
        ∀ stop w3, Fr (fun _ => False) w2 w3 → (Calls Try.prog 15 #[.func (.func 46) #[] #[ptrV B], .slice oa n oc, .int .i64 stop] w3 fun e w4 => e = .returned (.bool true) ∧ Fr (fun _ => False) w3 w4))) := by
  obtain ⟨hI, hp, hm, l, ham⟩ := h.at_
  have hln : l.length = a.l.length := by rw [← ham.ls, A.length_mp]
  refine (acAll_any ham k (by omega) hm hI).mono ?_
  rintro e w1 ⟨B, ra, rc, rfl, hit, f1⟩
  refine ⟨B, rfl, f1, ?_⟩
  obtain ⟨hJ, hq, qa, qc, xs, hrf⟩ := h.rg.fr f1
  have hxl := hrf.len
  refine (rall_any hrf (by omega) k).mono ?_
  rintro e w2 ⟨oa, oc, ys, hys, rfl, hls, hcap, f2⟩
  refine ⟨oa, _, oc, rfl, f2, fun stop w3 f3 => ?_⟩
  have s1 := f1.size
  have s2 := f2.size
  have s3 := f3.size
  have f13 := f2.trans f3 (fun _ _ h => h)
  refine (told_any (hit.kc (Kc.of_fr (M := fun _ => False) f13) (fun _ _ h => h)) (fun i hi => ?_) ?_ (hls.fr f3) hcap stop).mono ?_
  · rcases hi with hi | hi
    · have := hI i hi; omega
    · omega
  · rw [List.length_map]
    have : (A.from_ k l).length ≤ l.length := List.length_filter_le _ _
    omega
  · rintro e w4 ⟨b, rfl, hb, f4⟩
    have : b = true := hb (by rw [ham.from_ls k, hys]; exact (hrf.from_sd k).symm)
    rw [this]
    exact ⟨rfl, f4⟩
end Go.Proofs.Ytedhmhlhjonloaa
