/-
  The contract of a disk: Append, where it is done.
-/
import Derived.Test.YtogdjhhabcejgaaGreatKAppQ
namespace Go.Proofs.YtogdjhhabcejgaaGreat
open Go.RowKit Go.Maps
set_option linter.unusedVariables false

set_option maxHeartbeats 1600000 in
set_option maxRecDepth 20000 in
theorem app_F {S : Nat → Prop} {w : World} {p : Nat} {d : K.DK} (h : Dk S w p d) (s : ByteArray) (hz : s.size ≤ maxLen) (ba : Option Addr) (bm bc : Nat) (bs : List UInt8) (hb : Sl w ba bm bs) (hA : K.rdy d s.data.toList = 0) (hB : ¬ (K.get s.data.toList d.fs = none ∧ 1024 ≤ d.fs.length)) (hF : ¬ (d.room < d.used + bs.length)) (hG : K.get s.data.toList d.fs ≠ none) (hbm : bm ≤ 9223372036854775807) (hc : ((d.used + bm : Nat) : Int) ≤ d.room → d.used + bm ≤ K.cap) :
    Calls Tryz.prog 25 #[.pointer (some ⟨p, 0, none⟩), .string s, .slice ba bm bc] w fun e w' => e = .returned (.int .i64 (K.app d s.data.toList bs).1) ∧ Td S w p (K.app d s.data.toList bs).2 w' := by
  have HK := hid h
  obtain ⟨hS, ho, c, mb, l, hcS, hd⟩ := h
  obtain ⟨n, hn⟩ : ∃ n, s.data.toList = n := ⟨_, rfl⟩
  have HR := hid (ready1 hd s hz)
  have hgl := hd.get s.data.toList
  have hlen := hd.len
  have hblen := hb.1
  rw [hn] at HR hgl hA hB hG ⊢
  have hkey : keyOf Tryz.prog 9 (.string s) = some (.string n) := by rw [← hn]; exact WideMaps.keyOf_string_mk Tryz.underlying9 hz
  have hk' : ∀ W, Fr (fun _ => False) w W → W.cell? ⟨p, 2, none⟩ = some (.map (some mb)) := fun W hf => cell_fr hf (fun h => h) hd.k.2.1
  have hk0' : ∀ W, Fr (fun _ => False) w W → W.cell? ⟨p, 0, none⟩ = some (.int .i64 d.room) := fun W hf => cell_fr hf (fun h => h) hd.k.1
  have hsz := hd.mp.size_le
  have HOM := hid (fun W (hf : Fr (fun _ => False) w W) => hd.mp.kept hf (fun h => h))
  have HD := hid hd
  have HO := hid ho
  have HS := hid hS
  have HC := hid hcS
  have HZ := hid hz
  have HN := hid hn
  have HKEY := hid hkey
  have HCC := hid hc
  have HB := hid hb
  have HK1 := hid hk'
  have HK0 := hid hk0'
  have HKU := hid (fun W (hf : Fr (fun _ => False) w W) => cell_fr hf (fun h => h) hd.ku)
  have r0 := ho.r0
  have r1 := ho.r1
  have hur := ho.ur
  have HFI := hid ho.files
  clear hd ho hS hcS hz hn hkey hc hb hk' hk0' hsz
  rw [K.app_ok hA hB hF]
  have hcap : d.used + bm ≤ K.cap := HCC.out (by rw [hblen] at hF; omega)
  have HOK := hid (K.ok_add HO.out hA hB hF (by rw [hblen]; exact hcap))
  rw [hA] at HR
  obtain ⟨m, hg0⟩ : ∃ m, K.get n l = some m := by
    cases e : K.get n l with
    | none => rw [hgl.1, e] at hG; exact absurd rfl hG
    | some m => exact ⟨m, rfl⟩
  have HGG := hid (show K.get n (K.mp FM.g l) = some m.g by rw [hgl.2, hg0]; rfl)
  rw [hblen] at hF
  have hFF : ¬ (d.room - (d.used : Int) < (bm : Int)) := by omega
  have hw : IntKind.i64.wrap (d.room - (d.used : Int)) = d.room - (d.used : Int) := by rw [IntKind.wrap_i64]; omega
  have hwu : IntKind.i64.wrap ((d.used : Int) + (bm : Int)) = (d.used : Int) + (bm : Int) := by have : K.cap = 200000000000000 := rfl; rw [IntKind.wrap_i64]; omega
  have HG0 := hid hg0
  have HGL := hid hgl.1
  have HUP := hid (HD.out.up HO.out.up)
  clear hgl hg0 hB hA hG hF
  go_enter Tryz.func25, Tryz.ntmps25
  go_wp2_with (first
    | (go_at_call 44; refine (HR.out _ _ _ (Fr.alloc (Fr.refl _ _) _) (by simp)).mono ?_; rintro e w1 ⟨rfl, hw1⟩; have f1 : Fr (fun _ => False) w w1 := hw1 ▸ Fr.alloc (Fr.refl _ _) _; clear hw1; have k11 := HK1.out _ f1; have k10 := HK0.out _ f1; have k1u := HKU.out _ f1; have hl1 := World.ownsMap.len (HOM.out _ f1) Tryz.underlying42 3; rw [K.toD_size, K.length_mp] at hl1; have F1 := hid f1; clear f1)
    | (at_lookup; refine wpList_lookup_file _ rfl _ _ rfl mb (K.mp FM.g l) rfl (HOM.out _ F1.out) s rfl HZ.out (some m.g) (by rw [HN.out]; exact HGG.out) ?_))
  go_region_held3 (fun w' => w'.cell? ⟨p, 0, none⟩ = some (.int .i64 d.room) ∧ w'.cell? ⟨p, 1, none⟩ = some (.int .i64 (d.used : Nat))) (first | go_keep | exact ⟨k10, k1u⟩) (fail)
  obtain ⟨w2, hw2⟩ : ∃ w2, w2 = w1.drew := ⟨_, rfl⟩
  rw [← hw2]
  have F2 := hid (show Fr (fun _ => False) w w2 from hw2 ▸ Fr.drew F1.out)
  have s1 := HK0.out _ F2.out
  have s2 := HK1.out _ F2.out
  clear hw2
  go_wp2_with fail
  have hmem := K.get_mem HG0.out
  have hd2 := HD.out.kept F2.out (fun _ _ h => h)
  have hmf : (n, m.f) ∈ d.fs := by rw [← HD.out.fs]; exact K.mem_mp.2 ⟨_, hmem, rfl⟩
  have hgf : K.get n d.fs = some m.f := by rw [HGL.out, HG0.out]; rfl
  have hb2 : m.tl.length + bm ≤ K.cap := by
    have := K.tot_mem K.F.len hmf
    unfold K.DK.used at hcap
    simp only [K.F.len, FM.f] at *
    omega
  refine (fput_any c w2 m (hd2.fl _ hmem) hd2.lt ba bm bc bs (HB.out.kept F2.out (fun _ _ _ h => h)) hb2).mono ?_
  rintro e w4 ⟨⟨v4, rfl⟩, c4, ta4, tc4, hfs4⟩
  have hd4 := hd2.step HUP.out hmem hfs4.g hfs4.fr hfs4.le hfs4.fl hfs4.lt
  have e4 : K.upd n (FM.f { m with ta := ta4, tc := tc4, tl := m.tl ++ bs }) d.fs = K.put n (K.add (K.get n d.fs) bs) d.fs := by
    rw [hgf, K.put_upd HO.out.up hmf]; rfl
  rw [e4] at hd4
  have f4 : Fr (fun k => c k ≠ none) w w4 := (F2.out.mono (fun _ _ h => h.elim)).trans hfs4.fr (fun i hi e => (hd2.fl _ hmem).own_col e)
  have n4 : ∀ k, c4 k ≠ none → c k ≠ none ∨ w.heap.size ≤ k := fun k hk => (hfs4.nw k hk).imp id (Nat.le_trans F2.out.size)
  have kU4 := hd4.ku
  have qU4 := frozen_of_row (j := 1) hd4.at_
  have hd5 : Dm c4 (w4.setCell ⟨p, 1, none⟩ (.int .i64 ((d.used : Int) + (bm : Int)))) p mb _ { d with fs := K.put n (K.add (K.get n d.fs) bs) d.fs } := hd4.own (Fr.setCell (p := ⟨p, 1, none⟩) (S := fun k => k = p) (Fr.refl _ _) (fun _ => rfl) _) (by
    rw [setCell_row hd4.at_, show (K.DK.used { d with fs := K.put n (K.add (K.get n d.fs) bs) d.fs } : Nat) = d.used + bm from (K.tot_add HO.out.up n bs).trans (by rw [hblen]; rfl)]
    rfl) rfl
  have f5 : Fr (fun k => c k ≠ none) w (w4.setCell ⟨p, 1, none⟩ (.int .i64 ((d.used : Int) + (bm : Int)))) := Fr.setCell (p := ⟨p, 1, none⟩) f4 (fun _ => by rw [HD.out.cp]; simp) _
  have HB4 := hid (burn_any c4 _ p mb _ _ hd5 HOK.out)
  have F4 := hid f5
  have N4 := hid n4
  clear hd5 f5 hd4 hfs4 f4 n4 e4 hb2 hgf hmf hd2 hmem
  go_wp2_with fail
  refine HB4.out.mono ?_
  rintro e w5 ⟨rfl, hbn⟩
  have HBN := hid hbn
  clear hbn
  go_wp2
  go_ret
  exact ⟨rfl, (HBN.out.tn.pre F4.out N4.out).td HS.out HC.out (K.ok_burn HOK.out)⟩

set_option maxHeartbeats 1600000 in
set_option maxRecDepth 20000 in
theorem app_D {S : Nat → Prop} {w : World} {p : Nat} {d : K.DK} (h : Dk S w p d) (s : ByteArray) (hz : s.size ≤ maxLen) (ba : Option Addr) (bm bc : Nat) (bs : List UInt8) (hb : Sl w ba bm bs) (hA : K.rdy d s.data.toList = 0) (hB : ¬ (K.get s.data.toList d.fs = none ∧ 1024 ≤ d.fs.length)) (hF : ¬ (d.room < d.used + bs.length)) (hG : K.get s.data.toList d.fs = none) (hbm : bm ≤ 9223372036854775807) (hc : ((d.used + bm : Nat) : Int) ≤ d.room → d.used + bm ≤ K.cap) :
    Calls Tryz.prog 25 #[.pointer (some ⟨p, 0, none⟩), .string s, .slice ba bm bc] w fun e w' => e = .returned (.int .i64 (K.app d s.data.toList bs).1) ∧ Td S w p (K.app d s.data.toList bs).2 w' := by
  have HK := hid h
  obtain ⟨hS, ho, c, mb, l, hcS, hd⟩ := h
  obtain ⟨n, hn⟩ : ∃ n, s.data.toList = n := ⟨_, rfl⟩
  have HR := hid (ready1 hd s hz)
  have hgl := hd.get s.data.toList
  have hlen := hd.len
  have hblen := hb.1
  rw [hn] at HR hgl hA hB hG ⊢
  have hkey : keyOf Tryz.prog 9 (.string s) = some (.string n) := by rw [← hn]; exact WideMaps.keyOf_string_mk Tryz.underlying9 hz
  have hk' : ∀ W, Fr (fun _ => False) w W → W.cell? ⟨p, 2, none⟩ = some (.map (some mb)) := fun W hf => cell_fr hf (fun h => h) hd.k.2.1
  have hk0' : ∀ W, Fr (fun _ => False) w W → W.cell? ⟨p, 0, none⟩ = some (.int .i64 d.room) := fun W hf => cell_fr hf (fun h => h) hd.k.1
  have hsz := hd.mp.size_le
  have HOM := hid (fun W (hf : Fr (fun _ => False) w W) => hd.mp.kept hf (fun h => h))
  have HD := hid hd
  have HO := hid ho
  have HS := hid hS
  have HC := hid hcS
  have HZ := hid hz
  have HN := hid hn
  have HKEY := hid hkey
  have HCC := hid hc
  have HB := hid hb
  have HK1 := hid hk'
  have HK0 := hid hk0'
  have HKU := hid (fun W (hf : Fr (fun _ => False) w W) => cell_fr hf (fun h => h) hd.ku)
  have r0 := ho.r0
  have r1 := ho.r1
  have hur := ho.ur
  have HFI := hid ho.files
  clear hd ho hS hcS hz hn hkey hc hb hk' hk0' hsz
  rw [K.app_ok hA hB hF]
  have hcap : d.used + bm ≤ K.cap := HCC.out (by rw [hblen] at hF; omega)
  have HOK := hid (K.ok_add HO.out hA hB hF (by rw [hblen]; exact hcap))
  rw [hA] at HR
  have hg0 : K.get n l = none := by rw [hgl.1] at hG; simpa using hG
  have HGG := hid (show K.get n (K.mp FM.g l) = none by rw [hgl.2, hg0]; rfl)
  have hL : ¬ (1024 : Int) ≤ l.length := by have h1 : ¬ 1024 ≤ d.fs.length := fun h => hB ⟨hG, h⟩; omega
  rw [hblen] at hF
  have hFF : ¬ (d.room - (d.used : Int) < (bm : Int)) := by omega
  have hw : IntKind.i64.wrap (d.room - (d.used : Int)) = d.room - (d.used : Int) := by rw [IntKind.wrap_i64]; omega
  have hwu : IntKind.i64.wrap ((d.used : Int) + (bm : Int)) = (d.used : Int) + (bm : Int) := by have : K.cap = 200000000000000 := rfl; rw [IntKind.wrap_i64]; omega
  have HG0 := hid hg0
  have hGd := hid hG
  have HUP := hid (HD.out.up HO.out.up)
  have hp := lt_of_row HD.out.at_
  clear hgl hg0 hB hA hG hF
  go_enter Tryz.func25, Tryz.ntmps25
  go_wp2_with (first
    | (go_at_call 44; refine (HR.out _ _ _ (Fr.alloc (Fr.refl _ _) _) (by simp)).mono ?_; rintro e w1 ⟨rfl, hw1⟩; have f1 : Fr (fun _ => False) w w1 := hw1 ▸ Fr.alloc (Fr.refl _ _) _; clear hw1; have k11 := HK1.out _ f1; have k10 := HK0.out _ f1; have k1u := HKU.out _ f1; have hl1 := World.ownsMap.len (HOM.out _ f1) Tryz.underlying42 3; rw [K.toD_size, K.length_mp] at hl1; have F1 := hid f1; clear f1)
    | (at_lookup; refine wpList_lookup_file _ rfl _ _ rfl mb (K.mp FM.g l) rfl (HOM.out _ F1.out) s rfl HZ.out none (by rw [HN.out]; exact HGG.out) ?_))
  go_region_held3 (fun w' => w'.cell? ⟨p, 0, none⟩ = some (.int .i64 d.room) ∧ w'.cell? ⟨p, 1, none⟩ = some (.int .i64 (d.used : Nat))) (first | go_keep | exact ⟨k10, k1u⟩) (fail)
  obtain ⟨w2, hw2⟩ : ∃ w2, w2 = w1.drew := ⟨_, rfl⟩
  rw [← hw2]
  have F2 := hid (show Fr (fun _ => False) w w2 from hw2 ▸ Fr.drew F1.out)
  have s1 := HK0.out _ F2.out
  have s2 := HK1.out _ F2.out
  clear hw2
  have hp2 : p < w2.heap.size := Nat.lt_of_lt_of_le hp F2.out.size
  have hml : (K.mp FM.g l).length < maxLen := by
    have := HFI.out
    rw [K.length_mp]
    unfold maxLen
    omega
  have HML := hid hml
  clear hml
  go_wp2_with (first
    | (at_mapUpdate; refine wpList_mapUpdate_own _ rfl _ _ _ 42 rfl 9 64 keyed Tryz.underlying42 fileElem mb _ (K.toD (K.mp FM.g l)) rfl (HOM.out _ (Fr.alloc F2.out _)) HML.out _ _ (.string n) rfl rfl HKEY.out (.held w2.heap.size) [] rfl ?_; intro w3 hown3 hg3; rw [K.toD_put] at hown3; have HO3 := hid hown3; have HG3 := hid hg3; clear hown3 hg3))
  have fm : Fr (fun k => k = mb) (w2.alloc (.cells #[.slice none 0 0, .slice none 0 0] 80)) w3 := (Fr.of_grown HG3.out).mono (fun i _ e => by simp at e; exact e.symm)
  have hd2 := HD.out.kept F2.out (fun _ _ h => h)
  have hd3 := hd2.newfile HUP.out HG0.out fm (OM.tight HO3.out)
  have hmem : (n, (⟨w2.heap.size, none, 0, [], none, 0, []⟩ : FM)) ∈ K.put n ⟨w2.heap.size, none, 0, [], none, 0, []⟩ l := K.mem_put.2 (.inl rfl)
  have hb3 : Sl w3 ba bm bs := (HB.out.kept (Fr.alloc F2.out _) (fun _ _ _ h => h)).map (HOM.out _ (Fr.alloc F2.out _)) fm
  refine (fput_any _ w3 _ (hd3.fl _ hmem) hd3.lt ba bm bc bs hb3 (by show 0 + bm ≤ K.cap; omega)).mono ?_
  rintro e w4 ⟨⟨v4, rfl⟩, c4, ta4, tc4, hfs4⟩
  have hd4 := hd3.step (HUP.out.put _ _) hmem hfs4.g hfs4.fr hfs4.le hfs4.fl hfs4.lt
  have e4 : K.upd n (FM.f { g := w2.heap.size, sa := none, sc := 0, sf := [], ta := ta4, tc := tc4, tl := [] ++ bs }) (K.put n ⟨[], []⟩ d.fs) = K.put n (K.add (K.get n d.fs) bs) d.fs := by
    rw [K.upd_put HO.out.up, hGd.out]; rfl
  have hd4' : Du c4 w4 p mb _ { d with fs := K.put n (K.add (K.get n d.fs) bs) d.fs } (d.used : Nat) := e4 ▸ hd4
  have hcm : c mb ≠ none := by rw [HD.out.cm]; simp
  have f3 : Fr (fun k => c k ≠ none) w w3 := (Fr.alloc (F2.out.mono (fun _ _ h => h.elim)) _).trans fm (fun i _ e => e ▸ hcm)
  have f4 : Fr (fun k => c k ≠ none) w w4 := f3.trans hfs4.fr (fun i hi e => by
    have := F2.out.size
    rcases e with e | e | e
    · simp only at e; omega
    · simp [blk] at e
    · simp [blk] at e)
  have n4 : ∀ k, c4 k ≠ none → c k ≠ none ∨ w.heap.size ≤ k := fun k hk => by
    have := F2.out.size
    have h3 := fm.size
    rcases hfs4.nw k hk with h | h
    · by_cases e : blk (some ⟨w2.heap.size, 0, none⟩) = some k
      · simp [blk] at e; right; omega
      · rw [Cl.on_other _ e] at h; exact .inl h
    · right; simp at h3; omega
  have kU4 := hd4'.ku
  have qU4 := frozen_of_row (j := 1) hd4'.at_
  have hd5 : Dm c4 (w4.setCell ⟨p, 1, none⟩ (.int .i64 ((d.used : Int) + (bm : Int)))) p mb _ { d with fs := K.put n (K.add (K.get n d.fs) bs) d.fs } := hd4'.own (Fr.setCell (p := ⟨p, 1, none⟩) (S := fun k => k = p) (Fr.refl _ _) (fun _ => rfl) _) (by
    rw [setCell_row hd4'.at_, show (K.DK.used { d with fs := K.put n (K.add (K.get n d.fs) bs) d.fs } : Nat) = d.used + bm from (K.tot_add HO.out.up n bs).trans (by rw [hblen]; rfl)]
    rfl) rfl
  have f5 : Fr (fun k => c k ≠ none) w (w4.setCell ⟨p, 1, none⟩ (.int .i64 ((d.used : Int) + (bm : Int)))) := Fr.setCell (p := ⟨p, 1, none⟩) f4 (fun _ => by rw [HD.out.cp]; simp) _
  have HB4 := hid (burn_any c4 _ p mb _ _ hd5 HOK.out)
  have F4 := hid f5
  have N4 := hid n4
  clear hd5 f5 hd4 hd4' hfs4 f4 n4 e4 hd2 hmem hd3 fm hb3 f3
  go_wp2_with fail
  refine HB4.out.mono ?_
  rintro e w5 ⟨rfl, hbn⟩
  have HBN := hid hbn
  clear hbn
  go_wp2
  go_ret
  exact ⟨rfl, (HBN.out.tn.pre F4.out N4.out).td HS.out HC.out (K.ok_burn HOK.out)⟩

theorem append_any {S : Nat → Prop} {w : World} {p : Nat} {d : K.DK} (h : Dk S w p d) (s : ByteArray) (hz : s.size ≤ maxLen) (ba : Option Addr) (bm bc : Nat) (bs : List UInt8) (hb : Sl w ba bm bs) (hbm : bm ≤ 9223372036854775807) (hc : ((d.used + bm : Nat) : Int) ≤ d.room → d.used + bm ≤ K.cap) :
    Calls Tryz.prog 25 #[.pointer (some ⟨p, 0, none⟩), .string s, .slice ba bm bc] w fun e w' => e = .returned (.int .i64 (K.app d s.data.toList bs).1) ∧ Td S w p (K.app d s.data.toList bs).2 w' := by
  by_cases hA : K.rdy d s.data.toList = 0
  · by_cases hB : K.get s.data.toList d.fs = none ∧ 1024 ≤ d.fs.length
    · exact app_B h s hz ba bm bc bs hb hA hB hbm hc
    · by_cases hF : d.room < d.used + bs.length
      · by_cases hG : K.get s.data.toList d.fs = none
        · exact app_C h s hz ba bm bc bs hb hA hB hF hG hbm hc
        · exact app_E h s hz ba bm bc bs hb hA hB hF hG hbm hc
      · by_cases hG : K.get s.data.toList d.fs = none
        · exact app_D h s hz ba bm bc bs hb hA hB hF hG hbm hc
        · exact app_F h s hz ba bm bc bs hb hA hB hF hG hbm hc
  · exact app_A h s hz ba bm bc bs hb hA hbm hc

end Go.Proofs.YtogdjhhabcejgaaGreat
