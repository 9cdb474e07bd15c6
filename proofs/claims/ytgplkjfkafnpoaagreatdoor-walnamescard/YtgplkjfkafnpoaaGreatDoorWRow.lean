/-
  Append onto an owned row of whatever elements: where the row then lies.
-/
import Derived.Test.YtgplkjfkafnpoaaGreatDoorKMem
namespace Go.Proofs.YtgplkjfkafnpoaaGreatDoor
open Go.RowKit
set_option linter.unusedVariables false

theorem run_append_x {P : Program} (w : World) (t ty e : TypeId) (i : TypeInfo) (z : Value) (size bytes : Nat) (ht : P.underlying t = some (.slice e)) (hi : P.info? e = some i) (hz : i.zero = some z)
    (hsize : i.size = size) (hby : i.bytes = bytes) (hzs : z.cells.size = size) (hsz : 0 < size)
    (a : Option Addr) (n c : Nat) (xs : List Value) (hown : w.ownsRow 0 e size (.slice a n c) n xs)
    (sa : Addr) (m sc : Nat) (news : List Value) (hl : news.length = m * size) (hnews : ∀ j u, news[j]? = some u → w.cell? (sa.add j) = some u) (h1 : ∀ u ∈ news, u.oneCell' = true) (hm : 0 < m)
    (h63 : n + m ≤ maxLen) (hbytes : ((n + m) + (n + m) / 4 + 192) * bytes ≤ 281474976710656) :
    ∃ a' c' w', (Builtin.append_ #[t, t] ty #[.slice a n c, .slice (some sa) m sc]).run P w = .ok (.slice a' (n + m) c') w' ∧ w'.ownsRow 0 e size (.slice a' (n + m) c') (n + m) (xs ++ news) ∧ w.grownBy w' (blk a) ∧
      ((a' = a ∧ c' = c) ∨ (a' = some ⟨w.heap.size, 0, none⟩ ∧ w.grownBy w' none)) := by
  obtain ⟨v', w', hr, h2, h3, h4⟩ := run_append_own_wide (P := P) w 0 t ty e i z size bytes ht hi hz hsize hby hzs hsz _ n xs hown sa m sc news hl hnews h1 h63 hbytes (Nat.zero_le _)
  have hob : (Value.slice a n c).ownBlock = blk a := by cases a <;> rfl
  rw [hob] at h3
  by_cases hroom : n + m ≤ c
  · rcases hown.2 with ⟨hv, h0⟩ | ⟨g, cap, cur, hv, hb, hg, hn, hmx, hcs, htk⟩
    · simp only [Value.slice.injEq] at hv
      omega
    · simp only [Value.slice.injEq] at hv
      obtain ⟨rfl, _, rfl⟩ := hv
      have hs : Src P size t (.slice (some sa) m sc) m news w := Src.ofSlice w ht sa m sc _ hl hnews h1
      have hst := run_storeCells_at (P := P) g (n * size) e news 0 cur w hg (by rw [hl, hcs, Nat.add_zero, ← Nat.add_mul]; exact Nat.mul_le_mul_right _ hroom) h1
      simp only [Nat.add_zero] at hst
      have hW : (Builtin.append_ #[t, t] ty #[.slice (some ⟨g, 0, none⟩) n c, .slice (some sa) m sc]).run P w = .ok (.slice (some ⟨g, 0, none⟩) (n + m) c) (w.setRow g (cur.toList.take (n * size) ++ news ++ cur.toList.drop (n * size + news.length)).toArray) := by
        simp [Builtin.append_, run_underlying ht, sizeOf, typeInfo, hi, hsize, hs.len, hroom, hs.cells, Addr.add_lit, hst]
      rw [hr] at hW
      simp only [Result.ok.injEq] at hW
      obtain ⟨rfl, _⟩ := hW
      exact ⟨_, _, w', hr, h2, h3, .inl ⟨rfl, rfl⟩⟩
  · have hs : Src P size t (.slice (some sa) m sc) m news w := Src.ofSlice w ht sa m sc _ hl hnews h1
    have hold : (Builtin.firstCells i.size n (.slice a n c)).run P w.drew = .ok xs.toArray w.drew := by
      rw [hsize]
      rcases hown.2 with ⟨hv, h0⟩ | ⟨g, cap, cur, hv, hb, hg, hn, hmx, hcs, htk⟩
      · simp only [Value.slice.injEq] at hv
        obtain ⟨rfl, _, rfl⟩ := hv
        have : xs = [] := List.eq_nil_of_length_eq_zero (by rw [hown.1, h0]; simp)
        subst this
        subst h0
        exact run_firstCells_none w.drew size 0 0 0
      · simp only [Value.slice.injEq] at hv
        obtain ⟨rfl, _, rfl⟩ := hv
        exact run_firstCells_some w.drew size n ⟨g, 0, none⟩ n c xs hown.1 (fun j u hu => by
          rw [Addr.add_lit, Nat.zero_add]
          rw [← htk, List.getElem?_take] at hu
          split at hu
          · exact cell_of (w := w.drew) hg (by simpa using hu)
          · cases hu)
    have hg := run_append_grow_src (P := P) w t t ty e i z ht hi hz a n c xs hold (.slice (some sa) m sc) m news (by rw [hsize]; exact hs)
      (by omega) (by unfold maxLen at h63; omega) (by rw [hby]; exact growslice_fits_wide (by omega) hbytes)
    rw [hr] at hg
    simp only [Result.ok.injEq] at hg
    obtain ⟨rfl, rfl⟩ := hg
    exact ⟨_, _, _, hr, h2, h3, .inr ⟨rfl, ⟨rfl, rfl, rfl, by simp, fun k hk _ => Below.heap_alloc w.drew _ k hk⟩⟩⟩

end Go.Proofs.YtgplkjfkafnpoaaGreatDoor
