/-
  The contract of Clone.
-/
import Derived.Test.YtogdjhhabcejgaaKSorted
import Derived.Test.YtogdjhhabcejgaaKIt
import Derived.Test.YtogdjhhabcejgaaRound
import Derived.Deep.RegionHeld3
namespace Go.Proofs.Ytogdjhhabcejgaa
open Go.RowKit Go.Maps Go.Shelf
set_option linter.unusedVariables false
attribute [local go_sem] Oper.semAt_some

/-- a disk stays as it is where none of its blocks turns -/
theorem Du.kept_own {S : Nat → Prop} {c : Cl} {w w' : World} {p mb : Nat} {l : List (K.Nm × FM)} {d : K.DK} {u : Int} (h : Du c w p mb l d u) (hf : Fr S w w') (hp : ¬ S p) (hm : ¬ S mb) (hS : ∀ q ∈ l, ∀ k, q.2.own k → ¬ S k) : Du c w' p mb l d u :=
  ⟨hf.cells h.at_ hp, h.cp, h.cm, h.mp.kept hf hm, fun q hq => (h.fl q hq).kept hf (hS q hq), h.inj, h.fs, fun k hk => Nat.lt_of_lt_of_le (h.lt k hk) hf.size⟩
theorem Ow.isCells {base : Nat} {w : World} {a : Option Addr} {c : Nat} {bs : List UInt8} (h : Ow base w a c bs) {k : Nat} (hk : blk a = some k) : ∃ cs t m, w.heap[k]? = some (.cells cs t m) := by
  rcases h with ⟨rfl, _, _⟩ | ⟨g, cur, ty, rfl, _, hg, _⟩
  · simp [blk] at hk
  · simp [blk] at hk
    subst hk
    exact ⟨_, _, _, hg⟩
theorem Fl.isCells {c : Cl} {w : World} {m : FM} (h : Fl c w m) {k : Nat} (hk : m.own k) : ∃ cs t m, w.heap[k]? = some (.cells cs t m) := by
  rcases hk with rfl | hk | hk
  · exact ⟨_, _, _, h.at_⟩
  · exact h.so.isCells hk
  · exact h.to_.isCells hk
/-- the three new blocks of a clone: its map, the disk, the variable -/
structure C3 (w1 W : World) (q nmb cbx : Nat) (d : K.DK) : Prop where
  fr : Fr (fun _ => False) w1 W
  hc : W.heap[cbx]? = some (.cells #[.pointer (some ⟨q, 0, none⟩)] 32 (0, 0))
  hq : W.heap[q]? = some (.cells #[.int .i64 d.room, .int .i64 (d.used : Nat), .map (some nmb), .int .i64 d.left, .int .i64 d.keep, .bool d.down] 51 (0, 0))
  hm : OM W nmb []
  n1 : nmb ≠ q
  n2 : cbx ≠ q
  n3 : cbx ≠ nmb
  l1 : w1.heap.size ≤ q
  l2 : w1.heap.size ≤ nmb
  l3 : w1.heap.size ≤ cbx
  l4 : nmb < W.heap.size
theorem at3 (w : World) (a b c : Obj) : (((w.alloc a).alloc b).alloc c).drew.heap[w.heap.size]? = some a ∧ (((w.alloc a).alloc b).alloc c).drew.heap[w.heap.size + 1]? = some b ∧ (((w.alloc a).alloc b).alloc c).drew.heap[w.heap.size + 1 + 1]? = some c := by
  refine ⟨?_, ?_, ?_⟩
  · exact (Below.heap_alloc _ _ _ (by simp; omega)).trans ((Below.heap_alloc _ _ _ (by simp)).trans (Go.heap_alloc_new w _))
  · have := Go.heap_alloc_new (w.alloc a) b
    rw [World.size_alloc] at this
    exact (Below.heap_alloc _ _ _ (by simp)).trans this
  · have := Go.heap_alloc_new ((w.alloc a).alloc b) c
    rw [World.size_alloc, World.size_alloc] at this
    exact this
theorem om_new {W : World} {nmb : Nat} (h : W.heap[nmb]? = some (.map #[] 0)) : OM W nmb [] := by
  obtain ⟨es, clock, hb, r⟩ := World.ownsMap_made W Try.prog 9 fileElem
  rw [Go.heap_alloc_new] at hb
  simp only [Option.some.injEq, Obj.map.injEq] at hb
  obtain ⟨rfl, rfl⟩ := hb
  exact ⟨_, _, h, r⟩
theorem fr3 (w : World) (a b c : Obj) : Fr (fun _ => False) w (((w.alloc a).alloc b).alloc c).drew := Fr.drew (Fr.alloc (Fr.alloc (Fr.alloc (Fr.refl _ _) _) _) _)
theorem c3a (w1 : World) (d : K.DK) : C3 w1 (((w1.alloc (.map #[] 0)).alloc (.cells #[.int .i64 d.room, .int .i64 (d.used : Nat), .map (some w1.heap.size), .int .i64 d.left, .int .i64 d.keep, .bool d.down] 51)).alloc (.cells #[.pointer (some ⟨w1.heap.size + 1, 0, none⟩)] 32)).drew (w1.heap.size + 1) w1.heap.size (w1.heap.size + 1 + 1) d :=
  ⟨fr3 _ _ _ _, (at3 _ _ _ _).2.2, (at3 _ _ _ _).2.1, om_new (at3 _ _ _ _).1, by omega, by omega, by omega, by omega, by omega, by omega, by simp; omega⟩
theorem c3b (w1 : World) (d : K.DK) : C3 w1 (((w1.alloc (.map #[] 0)).alloc (.cells #[.pointer (some ⟨w1.heap.size + 1 + 1, 0, none⟩)] 32)).alloc (.cells #[.int .i64 d.room, .int .i64 (d.used : Nat), .map (some w1.heap.size), .int .i64 d.left, .int .i64 d.keep, .bool d.down] 51)).drew (w1.heap.size + 1 + 1) w1.heap.size (w1.heap.size + 1) d :=
  ⟨fr3 _ _ _ _, (at3 _ _ _ _).2.1, (at3 _ _ _ _).2.2, om_new (at3 _ _ _ _).1, by omega, by omega, by omega, by omega, by omega, by omega, by simp; omega⟩
theorem c3c (w1 : World) (d : K.DK) : C3 w1 (((w1.alloc (.cells #[.pointer (some ⟨w1.heap.size + 1 + 1, 0, none⟩)] 32)).alloc (.map #[] 0)).alloc (.cells #[.int .i64 d.room, .int .i64 (d.used : Nat), .map (some (w1.heap.size + 1)), .int .i64 d.left, .int .i64 d.keep, .bool d.down] 51)).drew (w1.heap.size + 1 + 1) (w1.heap.size + 1) w1.heap.size d :=
  ⟨fr3 _ _ _ _, (at3 _ _ _ _).1, (at3 _ _ _ _).2.2, om_new (at3 _ _ _ _).2.1, by omega, by omega, by omega, by omega, by omega, by omega, lt_of_row (at3 _ _ _ _).2.1⟩

/-- a new file of a clone is put into its map -/
theorem Du.putfile {c c' : Cl} {w w1 w4 : World} {p mb : Nat} {l : List (K.Nm × FM)} {d : K.DK} {u : Int} (h : Du c w p mb l d u) {n : K.Nm} {m' : FM} {f : K.F} (hcn : Cn c c' w w1 m' f) (hf : Fr (fun k => k = mb) w1 w4) (hom : OM w4 mb (K.put n m'.g (K.mp FM.g l))) :
    Du c' w4 p mb (K.put n m' l) { d with fs := K.put n f d.fs } u := by
  have hpm : p ≠ mb := fun e => by have := h.cm; rw [← e, h.cp] at this; simp at this
  have hcm := hcn.le.some h.cm
  have hg := hcn.g
  refine ⟨hf.cells (hcn.fr.cells h.at_ (fun h => h)) hpm, hcn.le.some h.cp, hcm, by rw [K.mp_put]; exact hom, ?_, ?_, by rw [K.mp_put, h.fs, hcn.f], fun k hk => Nat.lt_of_lt_of_le (hcn.lt k hk) hf.size⟩
  · intro q hq
    rcases K.mem_put.1 hq with rfl | ⟨hq, _⟩
    · refine hcn.fl.kept hf (fun k hk e => ?_)
      subst e
      rcases hk with e | e | e
      · rw [e, hcn.fl.cg] at hcm; simp at hcm
      · rw [hcn.fl.cs _ e] at hcm; simp at hcm
      · rw [hcn.fl.ct _ e] at hcm; simp at hcm
    · exact (((h.fl q hq).kept hcn.fr (fun _ _ h => h)).kept hf (fun k hk e => (h.ne hq).2 (e ▸ hk))).le hcn.le
  · intro q hq r hr e
    rcases K.mem_put.1 hq with rfl | ⟨hq, hqn⟩
    · rcases K.mem_put.1 hr with rfl | ⟨hr, hrn⟩
      · rfl
      · have := (h.fl r hr).lt
        simp only at e
        omega
    · rcases K.mem_put.1 hr with rfl | ⟨hr, hrn⟩
      · have := (h.fl q hq).lt
        simp only at e
        omega
      · exact h.inj q hq r hr e
theorem snoc_ind {α : Type} {P : List α → Prop} (h0 : P []) (hs : ∀ l x, P l → P (l ++ [x])) (l : List α) : P l := by
  rw [← List.reverse_reverse l]
  induction l.reverse with
  | nil => exact h0
  | cons x r ih => rw [List.reverse_cons]; exact hs _ x ih
/-- all of them -/
def K.puts {l : List (K.Nm × FM)} (pre : List { x // x ∈ l }) : List (K.Nm × K.F) := pre.foldl (fun a x => K.put x.1.1 x.1.2.f a) []
theorem K.puts_snoc {l : List (K.Nm × FM)} (pre : List { x // x ∈ l }) (x : { x // x ∈ l }) : K.puts (pre ++ [x]) = K.put x.1.1 x.1.2.f (K.puts pre) := by simp [K.puts]
theorem K.puts_up {l : List (K.Nm × FM)} (pre : List { x // x ∈ l }) : K.Up (K.puts pre) ∧ (K.puts pre).length ≤ pre.length := by
  refine snoc_ind (P := fun pre => K.Up (K.puts pre) ∧ (K.puts pre).length ≤ pre.length) ⟨List.Pairwise.nil, Nat.zero_le _⟩ (fun pre x ih => ?_) pre
  · 
    rw [K.puts_snoc]
    refine ⟨ih.1.put _ _, ?_⟩
    rw [K.length_put ih.1, List.length_append]
    have := ih.2
    split <;> simp <;> omega
theorem K.puts_mem {l : List (K.Nm × FM)} (hu : K.Up l) (pre : List { x // x ∈ l }) (p : K.Nm × K.F) : p ∈ K.puts pre ↔ ∃ x ∈ pre, (x.1.1, x.1.2.f) = p := by
  refine snoc_ind (P := fun pre => p ∈ K.puts pre ↔ ∃ x ∈ pre, (x.1.1, x.1.2.f) = p) (by simp [K.puts]) (fun pre x ih => ?_) pre
  · 
    rw [K.puts_snoc, K.mem_put, ih]
    simp only [List.mem_append, List.mem_singleton]
    constructor
    · rintro (rfl | ⟨⟨y, hy, rfl⟩, hn⟩)
      · exact ⟨x, .inr rfl, rfl⟩
      · exact ⟨y, .inl hy, rfl⟩
    · rintro ⟨y, hy | rfl, rfl⟩
      · by_cases e : y.1.1 = x.1.1
        · left
          have := hu.inj y.2 x.2 e
          rw [this]
        · exact .inr ⟨⟨y, hy, rfl⟩, e⟩
      · exact .inl rfl
theorem K.puts_all {l : List (K.Nm × FM)} (hu : K.Up l) : K.puts l.attach = K.mp FM.f l :=
  K.up_ext (K.puts_up _).1 (hu.mp _) (fun p => by
    rw [K.puts_mem hu, K.mem_mp]
    constructor
    · rintro ⟨x, _, rfl⟩; exact ⟨x.1, x.2, rfl⟩
    · rintro ⟨q, hq, rfl⟩; exact ⟨⟨q, hq⟩, List.mem_attach _ _, rfl⟩)
/-- what the clone's loop keeps -/
def CI {l : List (K.Nm × FM)} (wn : World) (b q nmb : Nat) (d : K.DK) (pre : List { x // x ∈ l }) (W : World) : Prop :=
  Fr (fun k => k = nmb) wn W ∧ ∃ c2 l2, Du c2 W q nmb l2 { d with fs := K.puts pre } (d.used : Nat) ∧ (∀ k, c2 k ≠ none → b ≤ k)
theorem CI.own {l : List (K.Nm × FM)} (wn : World) (b q nmb : Nat) (d : K.DK) (hq : q < wn.heap.size) (hm : nmb < wn.heap.size) : OwnFrom wn.heap.size (CI (l := l) wn b q nmb d) := by
  rintro pre A B row ⟨h1, c2, l2, h2, h3⟩ hg hr
  refine ⟨h1.trans (Fr.of_grown hg) (fun i hi e => by have := (hr i e).1; omega), c2, l2, h2.kept_own (Fr.of_grown hg) (fun e => by have := (hr _ e).1; omega) (fun e => by have := (hr _ e).1; omega) (fun x hx k hk e => ?_), h3⟩
  obtain ⟨_, o, ho, hc⟩ := hr k e
  obtain ⟨cs, t, m, h⟩ := (h2.fl x hx).isCells hk
  rw [h] at ho
  cases ho
  cases hc

set_option maxRecDepth 100000 in
set_option maxHeartbeats 4000000 in
theorem dclone_any {S : Nat → Prop} {w : World} {p : Nat} {d : K.DK} (h : Dk S w p d) :
    Calls Try.prog 41 #[.pointer (some ⟨p, 0, none⟩)] w fun e w' => ∃ q, e = .returned (.pointer (some ⟨q, 0, none⟩)) ∧ Td (fun _ => False) w q d w' := by
  obtain ⟨c, mb, l, hS, ho, hc, hd⟩ := h.tn
  obtain ⟨k0, k1, k2, k3, k4⟩ := hd.k
  have ku := hd.ku
  have hp := lt_of_row hd.at_
  have hp1 : p < w.heap.size + 1 := by omega
  have hp2 : p < w.heap.size + 1 + 1 := by omega
  have hp3 : p < w.heap.size + 1 + 1 + 1 := by omega
  have hp4 : p < w.heap.size + 1 + 1 + 1 + 1 := by omega
  have HD := hid hd
  have HO := hid ho
  have HK := hid h
  have hm := fun W hf => made_any W p mb (cell_fr (w := w) (w' := W) (S := fun _ => False) hf (fun h => h) k1)
  have HM := hid hm
  clear h hS ho hc hd hm
  have hmm := @run_makeMap Try.prog
  refine (callsIn_wide (n := 8)).1 ?_
  refine callsIn_of_wp_marks Try.func41 rfl trivial ?_ rfl
  simp only [Try.ntmps41, List.size_toArray, List.length_cons, List.length_nil, Nat.reduceAdd, Nat.reduceSub, Array.replicate_succ, Array.replicate_zero, List.push_toArray, List.append_toArray, List.nil_append, List.cons_append]
  refine wpIn_wide.2 ?_
  go_wp2_with fail
  refine (HM.out _ (Fr.alloc (Fr.refl _ _) _)).mono ?_
  rintro e w' ⟨rfl, rfl⟩
  obtain ⟨w1, hw1⟩ : ∃ w1, w1 = w.alloc (.cells #[.pointer (some ⟨p, 0, none⟩)] 32) := ⟨_, rfl⟩
  have f1 : Fr (fun _ => False) w w1 := by rw [hw1]; exact Fr.alloc (Fr.refl _ _) _
  have hz1 : w1.heap.size = w.heap.size + 1 := by rw [hw1]; simp
  have b0 : w1.cell? ⟨w.heap.size, 0, none⟩ = some (.pointer (some ⟨p, 0, none⟩)) := by rw [hw1]; exact cell_of (Go.heap_alloc_new w _) rfl
  replace k0 := cell_fr f1 (fun h => h) k0
  replace ku := cell_fr f1 (fun h => h) ku
  replace k1 := cell_fr f1 (fun h => h) k1
  replace k2 := cell_fr f1 (fun h => h) k2
  replace k3 := cell_fr f1 (fun h => h) k3
  replace k4 := cell_fr f1 (fun h => h) k4
  have F1 := hid f1
  have HZ := hid hz1
  obtain ⟨bd, hbd⟩ : ∃ bd, bd = w.heap.size := ⟨_, rfl⟩
  rw [← hbd] at b0
  go_wp2
  rw [← hw1, ← hbd]
  clear hw1 f1 hp1 hp2 hp3 hp4 hz1
  have HBD := hid hbd
  clear hbd hp
  rename_i Q0 K0 hK0
  have rest : ∀ (q nmb cbx : Nat) (W : World), C3 w1 W q nmb cbx d → Exit.then K0 Q0 Exit.normal { tmps := #[.pointer (some ⟨p, 0, none⟩), .pointer (some ⟨bd, 0, none⟩), .pointer none, .pointer (some ⟨cbx, 0, none⟩), undef, .pointer (some ⟨p, 0, none⟩), .bool true, .bool false, .pointer (some ⟨p, 0, none⟩), .pointer (some ⟨p, 0, none⟩), .pointer (some ⟨p, 0, none⟩), .int .i64 d.room, .pointer (some ⟨p, 0, none⟩), .pointer (some ⟨p, 0, none⟩), .pointer (some ⟨p, 1, none⟩), .int .i64 (d.used : Nat), .map (some nmb), .pointer (some ⟨p, 0, none⟩), .pointer (some ⟨p, 0, none⟩), .pointer (some ⟨p, 3, none⟩), .agg #[.int .i64 d.left, .int .i64 d.keep], .pointer (some ⟨p, 0, none⟩), .pointer (some ⟨p, 0, none⟩), .pointer (some ⟨p, 5, none⟩), .bool d.down, .agg #[.int .i64 d.room, .int .i64 (d.used : Nat), .map (some nmb), .int .i64 d.left, .int .i64 d.keep, .bool d.down], .pointer (some ⟨q, 0, none⟩), undef, undef, undef, undef, undef, undef, undef, undef, undef, undef, undef, undef, undef, undef, undef, undef], defers := [] } W := by
    intro q nmb cbx W hC
    refine hK0 _ _ ?_
    have b1 : W.cell? ⟨bd, 0, none⟩ = some (.pointer (some ⟨p, 0, none⟩)) := cell_fr hC.fr (fun h => h) b0
    have f0 : Fr (fun _ => False) w W := F1.out.trans hC.fr (fun _ _ h => h)
    have HN := hid (names_any (HK.out.kept f0 (fun _ _ h => h)))
    have HC := hid hC
    have F0 := hid f0
    clear hC f0
    go_wp2_with fail
    refine HN.out.mono ?_
    rintro e wn ⟨B, a, cap, rfl, hB, hNs, hNk, hfn⟩
    have hqn : q < wn.heap.size := Nat.lt_of_lt_of_le (lt_of_row HC.out.hq) hfn.size
    have hmn : nmb < wn.heap.size := Nat.lt_of_lt_of_le HC.out.l4 hfn.size
    have hcn : cbx < wn.heap.size := Nat.lt_of_lt_of_le (lt_of_row HC.out.hc) hfn.size
    have fn0 : Fr (fun _ => False) w wn := F0.out.trans hfn (fun _ _ h => h)
    have eN : K.names d = l.attach.map (fun x => x.1.1) := by
      unfold K.names
      have e1 : l.attach.map (fun x => x.1.1) = (l.attach.map Subtype.val).map (·.1) := by rw [List.map_map]; rfl
      rw [← HD.out.fs, e1, List.attach_map_subtype_val]
      simp [K.mp]
    have hlen : l.attach.length ≤ 1024 := by rw [List.length_attach, HD.out.len]; exact HO.out.files
    have eL : (K.names d).length = l.attach.length := by rw [eN, List.length_map]
    rw [eN] at hNs hNk
    rw [eL] at hB
    have b2 : wn.heap[cbx]? = some (.cells #[.pointer (some ⟨q, 0, none⟩)] 32 (0, 0)) := hfn.cells HC.out.hc (fun h => h)
    have hBm : B ≠ nmb := fun e => by
      obtain ⟨es, clock, hb, _⟩ := HC.out.hm
      have h1 := hfn.cells hb (fun h => h)
      have h2 := hNk B (.inl rfl)
      have h3 := HC.out.l4
      omega
    have hKm : ∀ k, Nk B a (l.attach.map (fun x => x.1.1)) k → k ≠ nmb ∧ k < wn.heap.size := fun k hk => by
      have h2 := hNk k hk
      have h3 := HC.out.l4
      exact ⟨by omega, h2.2⟩
    have HKm := hid hKm
    have h0 : CI (l := l) wn w.heap.size q nmb d [] wn := by
      refine ⟨Fr.refl _ _, Cl.on (Cl.on (fun _ => none) (some ⟨nmb, 0, none⟩) .map) (some ⟨q, 0, none⟩) .disk, [], ⟨hfn.cells HC.out.hq (fun h => h), Cl.on_same _ rfl _, ?_, HC.out.hm.kept hfn (fun h => h), by simp, by simp, rfl, ?_⟩, ?_⟩
      · rw [Cl.on_other _ (by simp [blk]; exact fun e => HC.out.n1 e.symm), Cl.on_same _ rfl]
      · intro k hk
        by_cases e : k = q
        · omega
        · rw [Cl.on_other _ (by simp [blk]; exact fun e' => e e'.symm)] at hk
          by_cases e : k = nmb
          · omega
          · rw [Cl.on_other _ (by simp [blk]; exact fun e' => e e'.symm)] at hk
            exact absurd rfl hk
      · intro k hk
        have h1 := HC.out.l1
        have h2 := HC.out.l2
        have h3 := HZ.out
        by_cases e : k = q
        · omega
        · rw [Cl.on_other _ (by simp [blk]; exact fun e' => e e'.symm)] at hk
          by_cases e : k = nmb
          · omega
          · rw [Cl.on_other _ (by simp [blk]; exact fun e' => e e'.symm)] at hk
            exact absurd rfl hk
    have H0 := hid h0
    have HQN := hid hqn
    have HMN := hid hmn
    have HCN := hid hcn
    have FN := hid fn0
    have HNS := hid hNs
    have HL := hid hlen
    have hbdp : Fr (fun _ => False) w1 wn := HC.out.fr.trans hfn (fun _ _ h => h)
    have b3 : wn.cell? ⟨bd, 0, none⟩ = some (.pointer (some ⟨p, 0, none⟩)) := cell_fr hbdp (fun h => h) b0
    have hbdm : bd ≠ nmb := by have := HC.out.l2; have := HZ.out; have := HBD.out; omega
    have hcm : cbx ≠ nmb := HC.out.n3
    have HB := hid hB
    have HB2 := hid b2
    have HB3 := hid b3
    have HX := hid (And.intro hbdm hcm)
    clear hNs hNk hfn hqn hmn hcn fn0 eN hlen eL b2 hBm hKm h0 hbdp b3 hbdm hcm hB b1
    go_wp2_with fail
    refine (wpIn_wide (n := 8)).1 ?_
    refine wpIn_rangeFunc_ownG (w := wn) rfl (by omega) (gf := 46) (lb := #[.pointer (some ⟨B, 0, none⟩)]) rfl trivial (enters_of Try.func46 (by kernel_rfl) rfl)
      (names1g_stops (fun x : { x // x ∈ l } => x.1.1) Fence.wide _ trivial rfl (by omega) B cap a l.attach HL.out wn HB.out HNS.out) (fun h k => h.trans k)
      (fun W l o o' hl hW _ _ k hk => World.putObj_heap_other (fun e => by have := (HKm.out k hk).2; omega))
      (Below.refl _ _) (fun _ => rfl) (CI (l := l) wn w.heap.size q nmb d) (fun _ _ _ => False) (CI.own wn _ q nmb d HQN.out HMN.out) (fun _ _ _ _ _ hs _ _ => hs) H0.out
      (fun x => { tmps := #[.pointer (some ⟨p, 0, none⟩), .pointer (some ⟨bd, 0, none⟩), .pointer none, .pointer (some ⟨cbx, 0, none⟩), encStr x.1.1, .pointer (some ⟨p, 0, none⟩), .bool true, .bool false, .pointer (some ⟨p, 0, none⟩), .pointer (some ⟨p, 0, none⟩), .pointer (some ⟨p, 0, none⟩), .int .i64 d.room, .pointer (some ⟨p, 0, none⟩), .pointer (some ⟨p, 0, none⟩), .pointer (some ⟨p, 1, none⟩), .int .i64 (d.used : Nat), .map (some nmb), .pointer (some ⟨p, 0, none⟩), .pointer (some ⟨p, 0, none⟩), .pointer (some ⟨p, 3, none⟩), .agg #[.int .i64 d.left, .int .i64 d.keep], .pointer (some ⟨p, 0, none⟩), .pointer (some ⟨p, 0, none⟩), .pointer (some ⟨p, 5, none⟩), .bool d.down, .agg #[.int .i64 d.room, .int .i64 (d.used : Nat), .map (some nmb), .int .i64 d.left, .int .i64 d.keep, .bool d.down], .pointer (some ⟨q, 0, none⟩), .pointer (some ⟨p, 0, none⟩), .func (.func 46) #[] #[.pointer (some ⟨B, 0, none⟩)], encStr x.1.1, undef, undef, undef, undef, undef, undef, undef, undef, undef, undef, undef, undef, undef], defers := [] }) ?assign ?body ?done ?stop
    case assign =>
      intro l x W K hK
      gi_wp2
      exact hK
    case stop =>
      rintro D c pre W _ _ h _
      exact h.elim
    case done =>
      rintro D xs W hD rfl ⟨hfr, c2, l2, hdm, hc2⟩ hK
      have e0 : ({ d with fs := K.puts l.attach } : K.DK) = d := by rw [K.puts_all (HD.out.up HO.out.up), HD.out.fs]
      replace hdm : Dm c2 W q nmb l2 d := hdm.same' e0 rfl
      have e1 : W.cell? ⟨cbx, 0, none⟩ = some (.pointer (some ⟨q, 0, none⟩)) := cell_fr hfr HX.out.2 (cell_of HB2.out rfl)
      have HDM := hid hdm
      have HFR := hid hfr
      have HD' := hid hD
      have HK' := hid hK
      clear hdm hfr hD hK e0
      go_wp2
      refine ⟨by simp, .inl ⟨_, _, rfl, run_takeDeferred HK'.out, ?_⟩⟩
      have f2 : Fr (fun k => k = D) W (W.putObj D (.deferred none)) := (Fr.of_grown (grownBy_putObj' _ D _)).mono (fun i _ e => by simp at e; exact e.symm)
      have hsz := FN.out.size
      have hnm : w.heap.size ≤ nmb := by have := HC.out.l2; have := HZ.out; omega
      have f3 : Fr (fun _ => False) w (W.putObj D (.deferred none)) := (FN.out.trans HFR.out (fun i hi e => by omega)).trans f2 (fun i hi e => by have := HD'.out; omega)
      refine ⟨.pointer (some ⟨q, 0, none⟩), ?_, q, rfl, ⟨Nx.lt, HO.out, c2, nmb, l2, fun k hk => ⟨.inr (hc2 k hk), Nat.lt_of_lt_of_le (HDM.out.lt k hk) f2.size⟩, HDM.out.kept_own f2 (fun e => by have := HD'.out; have := HQN.out; omega) (fun e => by have := HD'.out; have := HMN.out; omega) (fun y hy k hk e => ?_)⟩, f3⟩
      · simp [results, Try.f41, go_sem]
      · subst e
        obtain ⟨cs, t, m, h⟩ := (HDM.out.fl y hy).isCells hk
        rw [HK'.out] at h
        cases h
    case body =>
      rintro l' pre x W ⟨hfr, c2, l2, hdm, hc2⟩ hlt
      have hnm : w.heap.size ≤ nmb := by have := HC.out.l2; have := HZ.out; omega
      have hds : Dm c W p mb l d := (HD.out.kept FN.out (fun _ _ h => h)).kept hfr (fun k hk e => by have := HD.out.lt k hk; omega)
      have e1 : W.cell? ⟨cbx, 0, none⟩ = some (.pointer (some ⟨q, 0, none⟩)) := cell_fr hfr HX.out.2 (cell_of HB2.out rfl)
      have e2 : W.cell? ⟨q, 2, none⟩ = some (.map (some nmb)) := hdm.k.2.1
      have e3 : W.cell? ⟨bd, 0, none⟩ = some (.pointer (some ⟨p, 0, none⟩)) := cell_fr hfr HX.out.1 HB3.out
      have e4 : W.cell? ⟨p, 2, none⟩ = some (.map (some mb)) := hds.k.2.1
      have hmf : (x.1.1, x.1.2.f) ∈ d.fs := by rw [← HD.out.fs]; exact K.mem_mp.2 ⟨x.1, x.2, rfl⟩
      have hbd := Ok_len HO.out hmf
      have hnl := (HO.out.names _ hmf).2
      have hz : (⟨x.1.1.toArray⟩ : ByteArray).size ≤ maxLen := by simp [ByteArray.size]; unfold maxLen; simp only at hnl; omega
      have hkey : keyOf Try.prog 9 (encStr x.1.1) = some (.string x.1.1) := WideMaps.keyOf_string_mk Try.underlying9 hz
      have dr : Fr (fun _ => False) W W.drew := Fr.drew (Fr.refl _ _)
      have hmbm : mb ≠ nmb := fun e => by have := HD.out.lt mb (by rw [HD.out.cm]; simp); omega
      have hlk : ∀ w', Fr (fun k => k = nmb) W w' → (Instr.lookup 47 (.map (some mb)) (encStr x.1.1) false).run Try.prog w' = .ok (.pointer (some ⟨x.1.2.g, 0, none⟩)) w' := by
        intro w' hf'
        obtain ⟨v, ps, hrun, hR⟩ := (hds.mp.kept hf' hmbm).lookup keyed Try.underlying47 (zeroFile _) (zd := .nil) (zp := []) rfl hkey
        rw [K.toD_at, K.get_of_mem ((HD.out.up HO.out.up).mp _) (K.mem_mp.2 ⟨x.1, x.2, rfl⟩)] at hR
        rcases fileElem_inv hR with ⟨g, rfl, e⟩ | ⟨rfl, e⟩
        · simp at e; rw [hrun, e.1]
        · simp at e
      have HMD := hid (hdm.mp.kept dr (fun h => h))
      have d1 : W.drew.cell? ⟨cbx, 0, none⟩ = some (.pointer (some ⟨q, 0, none⟩)) := e1
      have d2 : W.drew.cell? ⟨q, 2, none⟩ = some (.map (some nmb)) := e2
      have HE := hid (And.intro d1 d2)
      clear d1 d2
      have KC := hid (fclone_any c W.drew x.1.2 ((hds.fl _ x.2).kept dr (fun _ _ h => h)) hbd c2 hdm.lt)
      rw [show W.drew.heap.size = W.heap.size from rfl] at KC
      have hml : (K.mp FM.g l2).length < maxLen := by
        have h1 := (K.puts_up pre).2
        have h2 := hdm.len
        simp only at h2
        have h3 := HL.out
        rw [K.length_mp, h2]
        unfold maxLen
        omega
      have HDM := hid hdm
      have HFR := hid hfr
      have HKEY := hid hkey
      have HML := hid hml
      have HCZ := hid hc2
      have HNM := hid hnm
      generalize encStr x.1.1 = xs at hlk HKEY ⊢
      generalize x.1.2.g = xg at hlk KC ⊢
      have hmx : Try.prog.follows .mixedOrders = true := by kernel_rfl
      clear hdm hfr hds hmf hbd hnl hz hkey dr hml hc2 hnm
      clear hK0 HN F0 HM hmm k0 k1 k2 k3 k4 ku b0
      refine wpIn_block ?_
      refine region_round (fun w' => Fr (fun k => k = nmb) W w') l' _ hmx (noDefer_of (by kernel_rfl)) (noOut_block noOut_own) ?_
      have hS : Fr (fun k => k = nmb) W { W with drawn := W.drawn + 1 } := Fr.drew (Fr.refl _ _)
      have hqm : q ≠ nmb := fun e => HC.out.n1 e.symm
      have hpm : p ≠ nmb := fun e => by have := HD.out.lt p (by rw [HD.out.cp]; simp); have := HNM.out; omega
      simp only [List.size_toArray, List.length_cons, List.length_nil, Nat.reduceAdd, Array.replicate_succ, Array.replicate_zero, List.push_toArray, List.nil_append, List.cons_append]
      refine wpAnyH_take (i := 0) (v := .pointer (some ⟨q, 0, none⟩)) rfl (by kernel_rfl) (by kernel_rfl) (by kernel_rfl) (fun _ _ _ h => h) (Or.inl ⟨by rfl, fun w' hS' => by have h1 := cell_fr hS' HX.out.2 e1; clear hS'; go_simp⟩) hS ?_
      simp only [Act.put, List.setIfInBounds_toArray, List.set_cons_zero]
      refine wpAnyH_take (i := 1) (v := .pointer (some ⟨q, 0, none⟩)) rfl (by kernel_rfl) (by kernel_rfl) (by kernel_rfl) (fun _ _ _ h => h) (Or.inl ⟨by rfl, fun w' hS' => by clear hS'; go_simp⟩) hS ?_
      simp only [Act.put, List.setIfInBounds_toArray, List.set_cons_zero, List.set_cons_succ]
      refine wpAnyH_take (i := 2) (v := .pointer (some ⟨q, 2, none⟩)) rfl (by kernel_rfl) (by kernel_rfl) (by kernel_rfl) (fun _ _ _ h => h) (Or.inl ⟨by rfl, fun w' hS' => by clear hS'; go_simp⟩) hS ?_
      simp only [Act.put, List.setIfInBounds_toArray, List.set_cons_zero, List.set_cons_succ]
      refine wpAnyH_take (i := 3) (v := .map (some nmb)) rfl (by kernel_rfl) (by kernel_rfl) (by kernel_rfl) (fun _ _ _ h => h) (Or.inl ⟨by rfl, fun w' hS' => by have h1 := cell_fr hS' hqm e2; clear hS'; go_simp⟩) hS ?_
      simp only [Act.put, List.setIfInBounds_toArray, List.set_cons_zero, List.set_cons_succ]
      refine wpAnyH_take (i := 4) (v := xs) rfl (by kernel_rfl) (by kernel_rfl) (by kernel_rfl) (fun _ _ _ h => h) (Or.inl ⟨by rfl, fun w' hS' => by clear hS'; go_simp⟩) hS ?_
      simp only [Act.put, List.setIfInBounds_toArray, List.set_cons_zero, List.set_cons_succ]
      refine wpAnyH_take (i := 5) (v := .pointer (some ⟨p, 0, none⟩)) rfl (by kernel_rfl) (by kernel_rfl) (by kernel_rfl) (fun _ _ _ h => h) (Or.inl ⟨by rfl, fun w' hS' => by have h1 := cell_fr hS' HX.out.1 e3; clear hS'; go_simp⟩) hS ?_
      simp only [Act.put, List.setIfInBounds_toArray, List.set_cons_zero, List.set_cons_succ]
      refine wpAnyH_take (i := 6) (v := .pointer (some ⟨p, 0, none⟩)) rfl (by kernel_rfl) (by kernel_rfl) (by kernel_rfl) (fun _ _ _ h => h) (Or.inl ⟨by rfl, fun w' hS' => by clear hS'; go_simp⟩) hS ?_
      simp only [Act.put, List.setIfInBounds_toArray, List.set_cons_zero, List.set_cons_succ]
      refine wpAnyH_take (i := 7) (v := .pointer (some ⟨p, 2, none⟩)) rfl (by kernel_rfl) (by kernel_rfl) (by kernel_rfl) (fun _ _ _ h => h) (Or.inl ⟨by rfl, fun w' hS' => by clear hS'; go_simp⟩) hS ?_
      simp only [Act.put, List.setIfInBounds_toArray, List.set_cons_zero, List.set_cons_succ]
      refine wpAnyH_take (i := 8) (v := .map (some mb)) rfl (by kernel_rfl) (by kernel_rfl) (by kernel_rfl) (fun _ _ _ h => h) (Or.inl ⟨by rfl, fun w' hS' => by have h1 := cell_fr hS' hpm e4; clear hS'; go_simp⟩) hS ?_
      simp only [Act.put, List.setIfInBounds_toArray, List.set_cons_zero, List.set_cons_succ]
      refine wpAnyH_take (i := 9) (v := xs) rfl (by kernel_rfl) (by kernel_rfl) (by kernel_rfl) (fun _ _ _ h => h) (Or.inl ⟨by rfl, fun w' hS' => by clear hS'; go_simp⟩) hS ?_
      simp only [Act.put, List.setIfInBounds_toArray, List.set_cons_zero, List.set_cons_succ]
      refine wpAnyH_take (i := 10) (v := .pointer (some ⟨xg, 0, none⟩)) rfl (by kernel_rfl) (by kernel_rfl) (by kernel_rfl) (fun _ _ _ h => h) (Or.inl ⟨by rfl, fun w' hS' => by have h1 := hlk w' hS'; clear hS'; go_simp⟩) hS ?_
      simp only [Act.put, List.setIfInBounds_toArray, List.set_cons_zero, List.set_cons_succ]
      refine wpAnyH_ready (rs := [11]) (by kernel_rfl) (by simp) ?_
      refine AllReadyH.cons rfl (fun K1 hK1 => ?_) AllReadyH.nil
      clear hlk
      go_simp
      refine KC.out.mono ?_
      rintro e w5 ⟨c5, m5, rfl, hcn5⟩
      obtain ⟨w6, hrun6, hown6, hg6⟩ := (OM.kept (S := fun _ => False) HMD.out hcn5.fr (fun h => h)).update keyed Try.underlying47 HML.out HKEY.out (val := .pointer (some ⟨W.heap.size, 0, none⟩)) (d := .held W.heap.size) (ps := []) rfl
      have f5 : Fr (fun _ => False) W w5 := (Fr.drew (Fr.refl _ _)).trans hcn5.fr (fun _ _ h => h)
      have f6 : Fr (fun k => k = nmb) w5 w6 := (Fr.of_grown hg6).mono (fun i _ e => by simp at e; exact e.symm)
      have f7 : Fr (fun k => k = nmb) W w6 := (f5.mono (fun _ _ h => h.elim)).trans f6 (fun _ _ h => h)
      have HG := hid (And.intro f5 (And.intro f6 f7))
      have HCN5 := hid hcn5
      have HO6 := hid hown6
      clear hcn5 hown6 hg6 f5 f6 f7
      refine hK1.out _ _ (HG.out.1.mono (fun _ _ h => h.elim)) (fun hS5 => ?_)
      clear hK1 K1
      simp only [List.setIfInBounds_toArray, List.set_cons_zero, List.set_cons_succ]
      refine wpAnyH_ready (rs := [12]) (by kernel_rfl) (by simp) ?_
      refine AllReadyH.cons rfl (fun K1 hK1 => ?_) AllReadyH.nil
      clear hS5
      go_simp
      refine hK1.out _ _ HG.out.2.2 (fun hS6 => ?_)
      refine wpAnyH_done (by kernel_rfl) ?_ _
      have hom : OM w6 nmb (K.put x.1.1 m5.g (K.mp FM.g l2)) := by
        have h6 := HO6.out
        rw [K.toD_put] at h6
        rw [show m5.g = W.heap.size from HCN5.out.g]
        exact OM.tight h6
      have hle := HFR.out.size
      refine ⟨⟨HG.out.2.2.size, fun k o hk h0 _ => HG.out.2.2.cells h0 (fun e => by have := HMN.out; omega)⟩, fun k hk => HG.out.2.2.block k (by have := (HKm.out k hk).2; omega) (HKm.out k hk).1, HFR.out.trans HG.out.2.2 (fun _ _ h => h), c5, K.put x.1.1 m5 l2, ((HDM.out.kept (Fr.drew (Fr.refl (fun _ => False) _)) (fun _ _ h => h)).putfile HCN5.out HG.out.2.1 hom).same' ?_ rfl, fun k hk => ?_⟩
      · rw [K.puts_snoc]
      · rcases HCN5.out.nw k hk with h1 | h1
        · exact HCZ.out k h1
        · have h2 := FN.out.size
          have h3 : W.heap.size ≤ k := h1
          omega
  go_region_held3 (fun w' => w'.cell? ⟨bd, 0, none⟩ = some (.pointer (some ⟨p, 0, none⟩)) ∧ w'.cell? ⟨p, 0, none⟩ = some (.int .i64 d.room) ∧ w'.cell? ⟨p, 1, none⟩ = some (.int .i64 (d.used : Nat)) ∧ w'.cell? ⟨p, 3, none⟩ = some (.int .i64 d.left) ∧ w'.cell? ⟨p, 4, none⟩ = some (.int .i64 d.keep) ∧ w'.cell? ⟨p, 5, none⟩ = some (.bool d.down)) (refine ⟨cell_fr (w := w1) (S := fun _ => False) ?_ (fun h => h) b0, cell_fr (w := w1) (S := fun _ => False) ?_ (fun h => h) k0, cell_fr (w := w1) (S := fun _ => False) ?_ (fun h => h) ku, cell_fr (w := w1) (S := fun _ => False) ?_ (fun h => h) k2, cell_fr (w := w1) (S := fun _ => False) ?_ (fun h => h) k3, cell_fr (w := w1) (S := fun _ => False) ?_ (fun h => h) k4⟩ <;> (repeat' (first | exact Fr.refl _ _ | exact Fr.drewN _ _ | refine Fr.drew ?_ | refine Fr.alloc ?_ _ | refine Fr.setCell ?_ (fun h => by first | omega | (simp at h; done) | (simp at h; omega)) _))) (fail)
  · exact rest _ _ _ _ (c3a w1 d)
  · exact rest _ _ _ _ (c3b w1 d)
  · exact rest _ _ _ _ (c3c w1 d)

end Go.Proofs.Ytogdjhhabcejgaa
