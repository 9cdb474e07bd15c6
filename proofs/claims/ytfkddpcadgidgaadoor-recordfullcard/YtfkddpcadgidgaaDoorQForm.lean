/-
  The document's numbers and texts, one behind the other.
-/
import Derived.Test.YtfkddpcadgidgaaDoorQMay
namespace Go.Proofs.YtfkddpcadgidgaaDoor
open Go.RowKit
set_option linter.unusedVariables false

/-- numbers, one behind the other -/
def M.encs (ns : List Int) : List UInt8 := (ns.map (fun x => M.enc (M.fd x))).flatten
theorem M.encs_snoc (ns : List Int) (x : Int) : M.encs (ns ++ [x]) = M.encs ns ++ M.enc (M.fd x) := by simp [M.encs]
theorem M.encs_ten (ns : List Int) (h : ∀ x ∈ ns, -9223372036854775808 ≤ x ∧ x ≤ 9223372036854775807) : (M.encs ns).length ≤ 10 * ns.length := by
  induction ns with
  | nil => simp [M.encs]
  | cons a l ih =>
    have h1 := M.enc_ten _ (M.fd_lt a (h a (by simp)).1 (h a (by simp)).2)
    have h2 := ih (fun x hx => h x (by simp [hx]))
    simp [M.encs] at h2 ⊢
    omega
theorem Grew.post {base : Nat} {w : World} {a : Option Addr} {w1 w2 : World} {a1 : Option Addr} {c1 : Nat} {bs1 : List UInt8} (h : Grew base w a w1 a1 c1 bs1) (hf : Fr (fun _ => False) w1 w2) : Grew base w a w2 a1 c1 bs1 :=
  ⟨h.1.kept hf (fun _ _ h => h), h.2.1.trans hf (fun _ _ h => h.elim), h.2.2⟩
set_option maxRecDepth 20000 in
set_option maxHeartbeats 1600000 in
theorem rNum_any (base : Nat) (w : World) (a : Option Addr) (n c : Nat) (bs : List UInt8) (hn : bs.length = n) (how : Ow base w a c bs) (hbase : base ≤ w.heap.size) (la : Option Addr) (len lc : Nat) (ns : List Int) (hI : Is w la len ns)
    (hap : 0 < len → ∀ k, blk la = some k → blk a ≠ some k) (hm : n + 10 * len ≤ 100000000000000) (hb : ∀ x ∈ ns, -9223372036854775808 ≤ x ∧ x ≤ 9223372036854775807) :
    Calls Tryd.prog 41 #[.slice a n c, .slice la len lc] w fun e w' => ∃ a' c', e = .returned (.slice a' (n + (M.encs ns).length) c') ∧ Grew base w a w' a' c' (bs ++ M.encs ns) := by
  have HI := hid hI
  have HB := hid hb
  have HAP := hid hap
  have HN := hid hn
  clear hI hb hap hn
  go_enter Tryd.func41, Tryd.ntmps41
  go_wp2
  go_loopw [0, 5] (fun t i wr => ∃ (k : Nat) (a1 : Option Addr) (c1 : Nat), k ≤ len ∧ i = .int .i64 k ∧ t = .slice a1 (n + (M.encs (ns.take k)).length) c1 ∧ Grew base w a wr a1 c1 (bs ++ M.encs (ns.take k))) (fun _ i _ => len - (intOf i).toNat)
  case atStart => exact ⟨0, a, c, by omega, rfl, by simp [M.encs], by simpa [M.encs] using Grew.start how⟩
  case round =>
    obtain ⟨k, a1, c1, hk, rfl, rfl, hg⟩ := hrel
    obtain ⟨es, hes⟩ : ∃ es, M.encs (ns.take k) = es := ⟨_, rfl⟩
    have hel : es.length ≤ 10 * k := by
      rw [← hes]
      refine Nat.le_trans (M.encs_ten _ (fun x hx => HB.out x (List.mem_of_mem_take hx))) ?_
      have := List.length_take_le k ns
      omega
    rw [hes] at hg ⊢
    obtain ⟨el, hl⟩ : ∃ el, es.length = el := ⟨_, rfl⟩
    rw [hl] at hel ⊢
    have HL := hid hl
    have HES := hid hes
    clear hl hes
    by_cases hlt : k < len
    · have hI2 := HI.out.kept hg.2.1 (fun hz j hj hs => HAP.out hz j hj hs)
      obtain ⟨b, off, x, rfl, hx, hc⟩ := hI2.at hlt
      have hxb := HB.out x (List.mem_of_getElem? hx)
      have hnx : M.encs (ns.take (k + 1)) = es ++ M.enc (M.fd x) := by rw [take_nextI hx, M.encs_snoc, HES.out]
      have ht := M.enc_ten _ (M.fd_lt x hxb.1 hxb.2)
      have KI := hid (refInt_any x wr hxb.1 hxb.2)
      obtain ⟨en, hen⟩ : ∃ en, M.enc (M.fd x) = en := ⟨_, rfl⟩
      rw [hen] at KI hnx ht
      obtain ⟨xl, hxl⟩ : ∃ xl, en.length = xl := ⟨_, rfl⟩
      rw [hxl] at KI ht
      have HXL := hid hxl
      have HNX := hid hnx
      have HG := hid hg
      have hi : (k : Int) < (len : Int) := by omega
      have hgs := hg.size
      clear hI2 hx hnx hg hen hxl
      go_wp2_with (first
        | (go_at_call 71; refine KI.out.mono ?_; rintro e w1 ⟨a2, c2, rfl, ho, hf⟩; have HO := hid ho; have G1 := hid (HG.out.post hf); have hs1 := hf.size; clear ho hf)
        | (at_builtin; refine wpList_append_b _ rfl (.tmp 12) (.tmp 17) rfl base a1 (n + el) c1 (bs ++ es) rfl (by rw [List.length_append, HN.out, HL.out]) G1.out.1 a2 xl c2 en rfl (by have := HO.out.sl; rw [HXL.out] at this; exact this) (by omega) (by omega) ?_; intro a3 c3 w3 how3 hgb3 hat3; have G3 := hid (G1.out.step how3 hgb3 hat3); clear how3 hgb3 hat3))
      go_roundw
      case rel => exact ⟨k + 1, a3, c3, by omega, by go_num, by rw [HNX.out, List.length_append, HL.out, HXL.out]; congr 1; omega, by rw [HNX.out, ← List.append_assoc]; exact G3.out⟩
      case measure => simp [intOf]; omega
    · obtain rfl : k = len := by omega
      have HG := hid hg
      clear hg
      have e1 : M.encs ns = es := by rw [← HES.out, List.take_of_length_le (by rw [HI.out.1]; exact Nat.le_refl _)]
      have E1 := hid e1
      clear e1
      go_wp2
      go_ret
      exact ⟨a1, c1, by rw [E1.out, HL.out]; rfl, by rw [E1.out]; exact HG.out⟩
set_option maxRecDepth 20000 in
set_option maxHeartbeats 1600000 in
theorem fText_any (base : Nat) (w : World) (a : Option Addr) (n c : Nat) (bs : List UInt8) (hn : bs.length = n) (how : Ow base w a c bs) (hbase : base ≤ w.heap.size) (s : ByteArray) (hs : s.size ≤ 1000) (hm : n ≤ 100000000000000) (el : Nat) (hel : (encT s).length = el) :
    Calls Tryd.prog 42 #[.slice a n c, .string s] w fun e w' => ∃ a' c', e = .returned (.slice a' (n + el) c') ∧ Grew base w a w' a' c' (bs ++ encT s) := by
  have hlen : s.data.toList.length = s.size := by rw [← str_size, str_of]
  have kb := run_bytes w s
  have hsl := bytesWorld_sl w s.data.toList
  rw [str_of, hlen] at hsl
  obtain ⟨g, hg⟩ : ∃ g, g = grownCap w s.size 0 5 := ⟨_, rfl⟩
  rw [← hg] at kb
  clear hg
  have hf := bytesWorld_fr w s
  obtain ⟨W, hW⟩ : ∃ W, W = Lib.bytesWorld w 5 s := ⟨_, rfl⟩
  rw [← hW] at kb hf hsl
  clear hW
  have kB := refBytes_any (some ⟨w.heap.size, 0, none⟩) s.size g s.data.toList W hsl (by omega)
  have e1 : M.enc (M.fd s.size) ++ s.data.toList = encT s := by unfold encT encB; rw [hlen]
  have e2 : (M.enc (M.fd s.size)).length + s.size = el := by rw [← hel, ← e1, List.length_append, hlen]
  rw [e1, e2] at kB
  have hl2 : el ≤ 2000 := by have := M.enc_ten _ (M.fd_lt s.size (by omega) (by omega)); omega
  have KB := hid kB
  have HN := hid hn
  have HEL := hid hel
  have G0 := hid ((Grew.start how).post hf)
  have hs0 := hf.size
  clear hlen hsl hf kB e1 e2 hn hel how
  go_enter Tryd.func42, Tryd.ntmps42
  go_wp2_with (first
    | (go_at_call 72; refine KB.out.mono ?_; rintro e w1 ⟨a2, c2, rfl, ho, hf⟩; have HO := hid ho; have G1 := hid (G0.out.post hf); have hs1 := hf.size; clear ho hf)
    | (at_builtin; refine wpList_append_b _ rfl (.tmp 5) (.tmp 8) rfl base a n c bs rfl HN.out G1.out.1 a2 el c2 (encT s) rfl (by have := HO.out.sl; rw [HEL.out] at this; exact this) (by omega) (by omega) ?_; intro a3 c3 w3 how3 hgb3 hat3; have G3 := hid (G1.out.step how3 hgb3 hat3); clear how3 hgb3 hat3))
  go_ret
  exact ⟨a3, c3, rfl, G3.out⟩
end Go.Proofs.YtfkddpcadgidgaaDoor
