/-
  What stays true of a log and its disk, as long as nothing crashes.
-/
import Derived.Test.YtgplkjfkafnpoaaGreatDoorWAppend
namespace Go.Proofs.YtgplkjfkafnpoaaGreatDoor
set_option linter.unusedVariables false
namespace K
theorem burn0 {d : DK} (hl : d.left = 0) : burn d = (0, d) := by unfold burn; rw [if_pos hl]
theorem app_fail {d : DK} {n : Nm} {b : List UInt8} (hl : d.left = 0) (h : (app d n b).1 ≠ 0) : (app d n b).2 = d := by
  unfold app at h ⊢
  split
  · rfl
  · rename_i h1
    split
    · rfl
    · rename_i h2
      split
      · rfl
      · rename_i h3
        rw [if_neg h1, if_neg h2, if_neg h3, burn0 (d := { d with fs := put n (add (get n d.fs) b) d.fs }) hl] at h
        exact absurd rfl h
theorem app_zero {d : DK} {n : Nm} {b : List UInt8} (hl : d.left = 0) (h : (app d n b).1 = 0) : app d n b = (0, { d with fs := put n (add (get n d.fs) b) d.fs }) ∧ rdy d n = 0 ∧ (d.used : Int) + b.length ≤ d.room := by
  unfold app at h ⊢
  split at h
  · rename_i h1
    exact absurd h h1
  · rename_i h1
    split at h
    · simp at h
    · rename_i h2
      split at h
      · simp at h
      · rename_i h3
        rw [if_neg h1, if_neg h2, if_neg h3, burn0 (d := { d with fs := put n (add (get n d.fs) b) d.fs }) hl]
        exact ⟨rfl, Classical.not_not.1 h1, by omega⟩
theorem fnd_ok {d : DK} {n : Nm} {f : F} (hd : d.down = false) (h1 : 0 < n.length) (h2 : n.length ≤ 64) (hg : get n d.fs = some f) : fnd d n = 0 := by
  unfold fnd
  rw [if_neg (by rw [rdy_of hd h1 h2]; simp), if_neg (by rw [hg]; simp)]
theorem syn_ok {d : DK} {n : Nm} {f : F} (hd : d.down = false) (hl : d.left = 0) (h1 : 0 < n.length) (h2 : n.length ≤ 64) (hg : get n d.fs = some f) : syn d n = (0, { d with fs := put n ⟨f.all, []⟩ d.fs }) := by
  unfold syn
  rw [if_neg (by rw [fnd_ok hd h1 h2 hg]; simp), burn0 hl]
  simp [hg]
theorem rem_ok {d : DK} {n : Nm} {f : F} (hd : d.down = false) (hl : d.left = 0) (h1 : 0 < n.length) (h2 : n.length ≤ 64) (hg : get n d.fs = some f) : rem d n = (0, { d with fs := del n d.fs }) := by
  unfold rem
  rw [if_neg (by rw [fnd_ok hd h1 h2 hg]; simp), burn0 hl]
  simp
theorem get_put_some {l : List (Nm × F)} (hu : Up l) {n k : Nm} {v : F} (h : ∃ f, get k l = some f) : ∃ f, get k (put n v l) = some f := by
  obtain ⟨f, hf⟩ := h
  by_cases e : k = n
  · subst e
    exact ⟨v, get_of_mem (hu.put _ _) (mem_put.2 (.inl rfl))⟩
  · exact ⟨f, get_of_mem (hu.put _ _) (mem_put.2 (.inr ⟨get_mem hf, e⟩))⟩
theorem get_del_some {l : List (Nm × F)} (hu : Up l) {n k : Nm} (hne : k ≠ n) (h : ∃ f, get k l = some f) : ∃ f, get k (del n l) = some f := by
  obtain ⟨f, hf⟩ := h
  exact ⟨f, get_of_mem (hu.del _) (mem_del.2 ⟨get_mem hf, hne⟩)⟩
end K
namespace W
def cnt (l : List SG) : Nat := (l.map (fun s => s.recs.length)).sum
/-- segments that follow on one another, up to a number -/
def chain : List SG → Int → Prop
  | [], _ => True
  | [s], n => s.recs ≠ [] ∧ s.first + s.recs.length = n
  | s :: t :: r, n => s.recs ≠ [] ∧ s.first + s.recs.length = t.first ∧ chain (t :: r) n
theorem chain_ne {l : List SG} {n : Int} (h : chain l n) : ∀ s ∈ l, s.recs ≠ [] := by
  induction l with
  | nil => simp
  | cons s r ih =>
    cases r with
    | nil => intro t ht; simp at ht; subst ht; exact h.1
    | cons t r =>
      intro x hx
      rcases List.mem_cons.1 hx with rfl | hx
      · exact h.1
      · exact ih h.2.2 x hx
theorem chain_snoc {l : List SG} {n : Int} (h : chain l n) (r : List UInt8) : chain (l ++ [⟨n, [r]⟩]) (n + 1) := by
  induction l with
  | nil => exact ⟨by simp, by simp⟩
  | cons s t ih =>
    cases t with
    | nil => exact ⟨h.1, h.2, by simp, by simp⟩
    | cons x y => exact ⟨h.1, h.2.1, ih h.2.2⟩
theorem chain_more {l : List SG} {n : Int} (h : chain l n) (hne : l ≠ []) (r : List UInt8) : chain (more l r) (n + 1) := by
  induction l with
  | nil => exact absurd rfl hne
  | cons s t ih =>
    cases t with
    | nil =>
      refine ⟨by simp, ?_⟩
      have := h.2
      show s.first + ((s.recs ++ [r]).length : Nat) = n + 1
      rw [List.length_append]
      simp only [List.length_cons, List.length_nil]
      omega
    | cons x y =>
      have h2 := ih h.2.2 (by simp)
      have hf : ∃ a b, more (x :: y) r = a :: b ∧ a.first = x.first := by
        cases y with
        | nil => exact ⟨_, _, rfl, rfl⟩
        | cons z w => exact ⟨_, _, rfl, rfl⟩
      obtain ⟨a, b, e, ef⟩ := hf
      show chain (s :: more (x :: y) r) (n + 1)
      rw [e] at h2 ⊢
      exact ⟨h.1, by rw [ef]; exact h.2.1, h2⟩
theorem cnt_append (l m : List SG) : cnt (l ++ m) = cnt l + cnt m := by unfold cnt; rw [List.map_append, List.sum_append]
theorem cnt_more {l : List SG} (hne : l ≠ []) (r : List UInt8) : cnt (more l r) = cnt l + 1 := by
  induction l with
  | nil => exact absurd rfl hne
  | cons s t ih =>
    cases t with
    | nil => simp [more, cnt]
    | cons x y =>
      have := ih (by simp)
      show cnt (s :: more (x :: y) r) = _
      unfold cnt at this ⊢
      rw [List.map_cons, List.sum_cons, this, List.map_cons (l := x :: y), List.sum_cons]
      omega
theorem cnt_le {l : List SG} {s : SG} (h : s ∈ l) : s.recs.length ≤ cnt l := by
  induction l with
  | nil => cases h
  | cons x r ih =>
    unfold cnt at ih ⊢
    rw [List.map_cons, List.sum_cons]
    rcases List.mem_cons.1 h with rfl | h
    · omega
    · have := ih h; omega
theorem len_le_cnt {l : List SG} (h : ∀ s ∈ l, s.recs ≠ []) : l.length ≤ cnt l := by
  induction l with
  | nil => exact Nat.le_refl _
  | cons x r ih =>
    have h1 := ih (fun s hs => h s (List.mem_cons_of_mem _ hs))
    have h2 := List.length_pos_iff.2 (h x (by simp))
    unfold cnt at h1 ⊢
    rw [List.map_cons, List.sum_cons, List.length_cons]
    omega
theorem more_mem {l : List SG} {r : List UInt8} : ∀ {s : SG}, s ∈ more l r → ∀ x ∈ s.recs, x = r ∨ ∃ t ∈ l, x ∈ t.recs := by
  induction l with
  | nil => intro s hs; simp [more] at hs
  | cons a t ih =>
    cases t with
    | nil =>
      intro s hs x hx
      simp [more] at hs
      subst hs
      rcases List.mem_append.1 hx with h | h
      · exact .inr ⟨a, by simp, h⟩
      · simp at h; exact .inl h
    | cons b y =>
      intro s hs x hx
      have hs' : s ∈ a :: more (b :: y) r := hs
      rcases List.mem_cons.1 hs' with rfl | hs'
      · exact .inr ⟨s, by simp, hx⟩
      · rcases ih hs' x hx with h | ⟨t, ht, h⟩
        · exact .inl h
        · exact .inr ⟨t, List.mem_cons_of_mem _ ht, h⟩
/-- what stays true, as long as nothing crashes -/
structure Inv (d : K.DK) (L : LG) : Prop where
  ok : K.Ok d
  room : d.room ≤ 100000000
  down : d.down = false
  left : d.left = 0
  nm : isNm L.nm = true
  fs : ∀ s ∈ L.segs, 0 ≤ s.first ∧ s.first ≤ 999999999999
  chain : chain L.segs L.next
  files : ∀ s ∈ L.segs, ∃ f, K.get (L.file s.first) d.fs = some f
  six : 6 * cnt L.segs ≤ d.used
  nx : L.next ≤ (cnt L.segs : Int)
  rl : ∀ s ∈ L.segs, ∀ r ∈ s.recs, r.length ≤ 65536
theorem seg_pos {nm : List UInt8} {f : Int} (hn : isNm nm = true) (h0 : 0 ≤ f) (h1 : f ≤ 999999999999) : 0 < (seg nm f).length := by
  unfold seg
  rw [if_pos ⟨hn, h0, h1⟩, List.length_append, List.length_cons]
  omega
theorem Inv.few {d : K.DK} {L : LG} (h : Inv d L) : L.segs.length ≤ 100000000 ∧ ∀ s ∈ L.segs, s.recs.length ≤ 100000000 := by
  have h1 := len_le_cnt (chain_ne h.chain)
  have h2 := h.six
  have h3 := h.ok.ur
  have h4 := h.room
  exact ⟨by omega, fun s hs => by have := cnt_le hs; omega⟩
theorem Inv.low {d : K.DK} {L : LG} (h : Inv d L) : L.next ≤ 999999999999 := by
  have h2 := h.six
  have h3 := h.ok.ur
  have h4 := h.room
  have h5 := h.nx
  omega
theorem Inv.clean {d : K.DK} {L : LG} (h : Inv d L) : Inv (clean d L).2.1 (clean d L).2.2 := by
  unfold W.clean
  split
  · cases hs : L.segs.getLast? with
    | none => exact h
    | some s =>
      have hm := List.mem_of_getLast? hs
      obtain ⟨f, hf⟩ := h.files s hm
      have hb := h.fs s hm
      have hp : 0 < (L.file s.first).length := seg_pos h.nm hb.1 hb.2
      have hq : (L.file s.first).length ≤ 64 := by have := seg_len L.nm s.first; unfold LG.file; omega
      have e := K.syn_ok h.down h.left hp hq hf
      have ho := K.ok_syn h.ok (L.file s.first)
      simp only
      rw [e] at ho ⊢
      simp only [ne_eq, not_true_eq_false, if_false]
      have hu : K.tot K.F.len (K.put (L.file s.first) ⟨f.all, []⟩ d.fs) = K.tot K.F.len d.fs := by
        have := K.tot_put K.F.len h.ok.up (L.file s.first) ⟨f.all, []⟩
        rw [hf] at this
        simp only [K.F.len, K.F.all, List.length_append, List.length_nil, Nat.add_zero] at this
        exact Nat.add_right_cancel this
      refine ⟨ho, h.room, h.down, h.left, h.nm, h.fs, h.chain, fun t ht => K.get_put_some h.ok.up (h.files t ht), ?_, h.nx, h.rl⟩
      have := h.six
      show 6 * cnt L.segs ≤ K.tot K.F.len _
      rw [hu]
      exact this
  · exact h
theorem Inv.place {d : K.DK} {L : LG} (h : Inv d L) : Inv (place d L).2.2.1 (place d L).2.2.2 := by
  unfold W.place
  split
  · exact h
  · split
    · split
      · exact h
      · split
        · exact h
        · exact h.clean
    · exact h
theorem frame_six {r : List UInt8} (h : 0 < r.length) : 6 ≤ (M.frame r).length := by
  have := M.enc_pos (M.fd r.length)
  unfold M.frame
  rw [List.length_append, List.length_append, M.le4_length]
  omega
theorem Inv.put {d : K.DK} {L : LG} (h : Inv d L) {r : List UInt8} (hr : 0 < r.length) (hr2 : r.length ≤ 65536) : Inv (put d L r).2.1 (put d L r).2.2 := by
  have hp := h.place
  have hpf := place_facts d L
  unfold W.put
  simp only
  split
  · exact hp
  · rename_i h0
    have h0 := Classical.not_not.1 h0
    have hlast := hpf.2.2.2.2.2.2 h0
    have hsg : (W.place d L).2.2.2.segs = L.segs := hpf.1
    generalize W.place d L = a at hp h0 hlast hsg ⊢
    obtain ⟨er, new, d1, L1⟩ := a
    simp only at hp h0 hlast hsg ⊢
    split
    · rename_i h1
      rw [K.app_fail hp.left h1]
      exact hp
    · rename_i h1
      obtain ⟨e, hrd, hroom⟩ := K.app_zero hp.left (Classical.not_not.1 h1)
      have hnb := K.not_bad hrd
      have ho := K.ok_app hp.ok (L1.file (L1.at_ new)) (M.frame r) (by have h5 := hp.room; have : K.cap = 200000000000000 := rfl; omega)
      rw [e] at ho ⊢
      simp only
      have hu := K.tot_add hp.ok.up (L1.file (L1.at_ new)) (M.frame r)
      have h6 := frame_six hr
      have hsx := hp.six
      have hne : new = false → L1.segs ≠ [] := fun hn => by
        obtain ⟨s, hs⟩ := hlast hn
        rw [hsg]
        intro e
        rw [e] at hs
        cases hs
      have hb : 0 ≤ L1.at_ new ∧ L1.at_ new ≤ 999999999999 := by
        rcases Classical.em (0 ≤ L1.at_ new ∧ L1.at_ new ≤ 999999999999) with h | h
        · exact h
        · have : L1.file (L1.at_ new) = [] := by unfold LG.file seg; rw [if_neg (fun h' => h h'.2)]
          rw [this] at hnb
          exact absurd hnb.2.1 (by simp)
      have hc : cnt (L1.add new r).segs = cnt L1.segs + 1 := by
        cases new with
        | true => show cnt (L1.segs ++ _) = _; rw [cnt_append]; rfl
        | false => exact cnt_more (hne rfl) r
      refine ⟨ho, hp.room, hp.down, hp.left, hp.nm, fun s hs => ?_, ?_, fun s hs => ?_, ?_, ?_, fun s hs x hx => ?_⟩
      · cases new with
        | true =>
          rcases List.mem_append.1 hs with hs | hs
          · exact hp.fs s hs
          · simp at hs; subst hs; exact hb
        | false =>
          have hs' : s.first ∈ (more L1.segs r).map (·.first) := List.mem_map.2 ⟨s, hs, rfl⟩
          rw [more_firsts] at hs'
          obtain ⟨t, ht, e⟩ := List.mem_map.1 hs'
          rw [← e]
          exact hp.fs t ht
      · cases new with
        | true => exact chain_snoc hp.chain r
        | false => exact chain_more hp.chain (hne rfl) r
      · show ∃ f, K.get (L1.file s.first) (K.put _ _ d1.fs) = some f
        cases new with
        | true =>
          rcases List.mem_append.1 hs with hs | hs
          · exact K.get_put_some hp.ok.up (hp.files s hs)
          · simp at hs
            subst hs
            exact ⟨_, K.get_put_same hp.ok.up _ _⟩
        | false =>
          have hs' : s.first ∈ (more L1.segs r).map (·.first) := List.mem_map.2 ⟨s, hs, rfl⟩
          rw [more_firsts] at hs'
          obtain ⟨t, ht, e⟩ := List.mem_map.1 hs'
          rw [← e]
          exact K.get_put_some hp.ok.up (hp.files t ht)
      · show 6 * cnt (L1.add new r).segs ≤ K.tot K.F.len _
        rw [hu, hc]
        unfold K.DK.used at hsx
        omega
      · have hx := hp.nx
        show L1.next + 1 ≤ ((cnt (L1.add new r).segs : Nat) : Int)
        rw [hc]
        push_cast
        omega
      · cases new with
        | true =>
          rcases List.mem_append.1 hs with hs | hs
          · exact hp.rl s hs x hx
          · simp at hs; subst hs; simp at hx; subst hx; exact hr2
        | false =>
          rcases more_mem hs x hx with e | ⟨t, ht, e⟩
          · rw [e]; exact hr2
          · exact hp.rl t ht x e
theorem Inv.spoil {d : K.DK} {L : LG} (h : Inv d L) : Inv d { L with spoilt := true } := ⟨h.ok, h.room, h.down, h.left, h.nm, h.fs, h.chain, h.files, h.six, h.nx, h.rl⟩
theorem Inv.puts {rs : List (List UInt8)} : ∀ {d : K.DK} {L : LG}, Inv d L → (∀ r ∈ rs, 0 < r.length ∧ r.length ≤ 65536) → Inv (puts d L rs).2.1 (puts d L rs).2.2 := by
  induction rs with
  | nil => exact fun h _ => h
  | cons r t ih =>
    intro d L h hr
    have h1 := h.put (hr r (by simp)).1 (hr r (by simp)).2
    unfold W.puts
    split
    · exact h1.spoil
    · exact ih h1 (fun x hx => hr x (List.mem_cons_of_mem _ hx))
theorem Inv.app {d : K.DK} {L : LG} (h : Inv d L) (rs : List (List UInt8)) : Inv (app d L rs).2.1 (app d L rs).2.2 := by
  unfold W.app
  split
  · exact h
  · split
    · exact h
    · rename_i hb
      split
      · exact h
      · refine h.puts (fun r hr => ?_)
        refine ⟨?_, ?_⟩
        · rcases Nat.eq_zero_or_pos r.length with e | e
          · exact absurd (List.any_eq_true.2 ⟨r, hr, by unfold badRec; simp [e]⟩) hb
          · exact e
        · rcases Nat.lt_or_ge 65536 r.length with e | e
          · exact absurd (List.any_eq_true.2 ⟨r, hr, by unfold badRec; simp [e]⟩) hb
          · exact e
theorem inv_empty {room : Int} (h0 : 0 ≤ room) (h1 : room ≤ 100000000) {nm : List UInt8} (hn : isNm nm = true) (L : LG) (hL : L.segs = []) (hnm : L.nm = nm) (hx : L.next = 0) : Inv (K.mk room) L :=
  ⟨K.ok_mk h0 (by omega), h1, rfl, rfl, by rw [hnm]; exact hn, by rw [hL]; simp, by rw [hL]; trivial, by rw [hL]; simp, by rw [hL]; exact Nat.zero_le _, by rw [hx]; exact Int.natCast_nonneg _, by rw [hL]; simp⟩
end W

end Go.Proofs.YtgplkjfkafnpoaaGreatDoor
