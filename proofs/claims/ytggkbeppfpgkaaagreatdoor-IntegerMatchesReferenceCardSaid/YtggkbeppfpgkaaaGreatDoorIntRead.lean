/- The contract of readMagnitude: groups of four digits, read from the end. -/
import Derived.Test.YtggkbeppfpgkaaaGreatDoorIntQuo
import Derived.Test.YtggkbeppfpgkaaaGreatDoorIntText
import Derived.Lib.ConvBytes
namespace Go.Proofs.YtggkbeppfpgkaaaGreatDoor
open Go.RowKit Putlog

set_option maxRecDepth 100000 in
set_option maxHeartbeats 2000000 in
theorem read1_any (n : Nat) (b : UInt8) (hn : n ≤ 1000) (hb : IsDig b) (w : World) :
    Calls Tryz.prog 78 #[.int .i64 n, .int .u8 (b.toNat : Nat)] w fun e w' => e = .returned (.int .i64 (((b.toNat - 48) + 10 * n : Nat) : Int)) ∧ w' = w := by
  unfold IsDig at hb
  obtain ⟨d, hd⟩ : ∃ d, d = b.toNat - 48 := ⟨_, rfl⟩
  have hw : IntKind.u8.wrap ((b.toNat : Int) - 48) = (d : Nat) := by rw [IntKind.wrap_u8]; omega
  have hdb : (d : Int) ≤ 9 := by omega
  have hnb : (n : Int) ≤ 1000 := by omega
  have HR : Hid (10 * (n : Int) + d = ((d + 10 * n : Nat) : Int)) := by show _ = _; omega
  rw [← hd]
  generalize (b.toNat : Int) = x at *
  clear hd hb
  go_enter Tryz.func78, Tryz.ntmps78
  go_wp2_with fail
  go_ret
  refine ⟨?_, rfl⟩
  rw [← HR.out]; rfl
theorem take_succ_getD (bs : List UInt8) {k : Nat} (h : k < bs.length) : bs.take (k + 1) = bs.take k ++ [bs.getD k 0] := by
  rw [List.take_succ_eq_append_getElem h]; simp [List.getD_eq_getElem?_getD, h]
theorem decT_lt1000 {bs : List UInt8} (hd : ∀ c ∈ bs, IsDig c) (h : bs.length ≤ 3) : leV 10 (decT bs) ≤ 1000 := by
  have h1 := leV_lt (decT_dig hd)
  rw [decT_len] at h1
  have h2 : 10 ^ bs.length ≤ 10 ^ 3 := Nat.pow_le_pow_right (by decide) h
  omega
set_option maxRecDepth 100000 in
set_option maxHeartbeats 2000000 in
theorem fold8_any (bs : List UInt8) (hd : ∀ c ∈ bs, IsDig c) (hl : bs.length ≤ 4) (g c : Nat) (hc : bs.length ≤ c) (w : World) (hcell : ∀ j, j < bs.length → w.cell? ⟨g, j, none⟩ = some (.int .u8 ((bs.getD j 0).toNat : Nat))) :
    Calls Tryz.prog 77 #[.slice (some ⟨g, 0, none⟩) bs.length c, .int .i64 0, .func (.func 78) #[] #[]] w fun e w' => e = .returned (.int .i64 (leV 10 (decT bs) : Nat)) ∧ w' = w := by
  have HD := Lib.hid hd
  have HC := Lib.hid hcell
  obtain ⟨n, hn⟩ : ∃ n, n = bs.length := ⟨_, rfl⟩
  rw [← hn] at hl hc ⊢
  have HN := Lib.hid hn
  have hnb : (n : Int) ≤ 4 := by omega
  clear hd hcell hn
  go_enter Tryz.func77, Tryz.ntmps77
  go_wp2_with fail
  go_loopw [1, 11] (fun v i wr => ∃ k : Nat, k ≤ n ∧ i = .int .i64 k ∧ v = .int .i64 (leV 10 (decT (bs.take k)) : Nat) ∧ wr = w) (fun _ i _ => n - (intOf i).toNat)
  case atStart => exact ⟨0, by omega, rfl, rfl, rfl⟩
  case round =>
    obtain ⟨k, hk, rfl, rfl, rfl⟩ := hrel
    by_cases hlt : k < n
    · have hlt' : (k : Int) < n := by omega
      have hkb : k < bs.length := by have := HN.out; omega
      have hcx := HC.out k hkb
      have hdx : IsDig (bs.getD k 0) := HD.out _ (by rw [List.getD_eq_getElem?_getD, List.getElem?_eq_getElem hkb, Option.getD_some]; exact List.getElem_mem _)
      have ht := take_succ_getD bs hkb
      have hs : leV 10 (decT (bs.take (k + 1))) = ((bs.getD k 0).toNat - 48) + 10 * leV 10 (decT (bs.take k)) := by rw [ht, decT_snoc, leV]
      have hle := decT_lt1000 (bs := bs.take k) (fun c hc => HD.out c (List.mem_of_mem_take hc)) (by simp; omega)
      have HR1 := Lib.hid (read1_any (leV 10 (decT (bs.take k))) (bs.getD k 0) hle hdx wr)
      rw [← hs] at HR1
      obtain ⟨y2, hy2⟩ : ∃ y2, y2 = leV 10 (decT (bs.take (k + 1))) := ⟨_, rfl⟩; rw [← hy2] at HR1; have HY2 := Lib.hid hy2; clear hy2
      clear hs ht hdx hle hkb
      generalize leV 10 (decT (bs.take k)) = y at *
      go_wp2_with (go_at_call 78; refine HR1.out.mono ?_; rintro e w1 ⟨rfl, rfl⟩)
      exact ⟨⟨k + 1, by omega, by go_num, by rw [HY2.out], trivial⟩, by simp [intOf]; omega⟩
    · obtain rfl : k = n := by omega
      have ht : bs.take k = bs := by rw [HN.out, List.take_length]
      rw [ht]
      go_wp2_with fail
      go_ret
      exact ⟨rfl, rfl⟩
theorem bytesWorld_below (w : World) (e : TypeId) (s : ByteArray) : Below w.heap.size w (Lib.bytesWorld w e s) :=
  ⟨rfl, rfl, rfl, by rw [Lib.bytesWorld_size]; omega, fun k hk => Lib.bytesWorld_at_old w e s k hk⟩
theorem extract_list (s : ByteArray) (a b : Nat) : (s.extract a b).data.toList = (s.data.toList.take b).drop a := by
  simp [List.extract_eq_take_drop, List.drop_take]
set_option maxRecDepth 100000 in
set_option maxHeartbeats 4000000 in
theorem readM_any (s : ByteArray) (hd : ∀ c ∈ s.data.toList, IsDig c) (hs : s.size ≤ 1000) (w : World) :
    Calls Tryz.prog 62 #[.string s] w fun e w' => (∃ v, e = .returned v ∧ MagAt w' v (digsL 10000 (natV s.data.toList))) ∧ Below w.heap.size w w' := by
  obtain ⟨i0, hi0, hz0, hz1, hz2⟩ := info_parts info_int
  have HI0 := Lib.hid hi0
  have HZ0 := Lib.hid hz0
  have HZ1 := Lib.hid hz1
  have HZ2 := Lib.hid hz2
  have HD := Lib.hid hd
  have HDD := Lib.hid (decT_dig hd)
  have hsz : s.data.toList.length = s.size := by rw [Array.length_toList]; rfl
  have HSZ := Lib.hid hsz
  obtain ⟨D, hD⟩ : ∃ D, D = decT s.data.toList := ⟨_, rfl⟩
  have hDl : D.length = s.size := by rw [hD, decT_len, hsz]
  obtain ⟨n, hn⟩ : ∃ n, n = s.size := ⟨_, rfl⟩
  have HDL : Hid (D.length = n) := hDl.trans hn.symm
  rw [← hD] at HDD
  have HDE := Lib.hid hD
  have HN := Lib.hid hn
  rw [← hn] at hs
  have hnb : (n : Int) ≤ 1000 := by omega
  have hns : (s.size : Int) = n := by omega
  obtain ⟨q, hq⟩ : ∃ q, q = n / 4 := ⟨_, rfl⟩
  have hqd : (n : Int).tdiv 4 = (q : Nat) := by rw [Int.tdiv_eq_ediv_of_nonneg (by omega)]; omega
  have hqb : (q : Int) ≤ 1000 := by omega
  clear hi0 hz0 hz1 hz2 hd hsz hDl hD hn hq
  go_enter Tryz.func62, Tryz.ntmps62
  go_wp2_with (at_make; go_must (refine wpList_make_own _ rfl _ _ 45 rfl w.heap.size 3 i0 (.int .i64 0) 1 Tryz.underlying45 HI0.out HZ0.out HZ1.out .i64 .i64 ((q : Int) + 1) (q + 1) rfl rfl (by omega) (by rw [HZ2.out]; omega) (by unfold maxLen; omega) (Nat.le_refl _) ?_); intro w1 hown hgrow; have HO := Lib.hid hown; have HB := Lib.hid (belowMade hgrow); clear hown hgrow)
  go_loopw [3, 4] (fun v i wr => ∃ k : Nat, 4 * k ≤ n + 3 ∧ i = .int .i64 ((n : Int) - 4 * k) ∧ wr.ownsRow w.heap.size 3 1 v (grpL D k).length (i64l (grpL D k)) ∧ Below w.heap.size w wr) (fun _ i _ => (4 + intOf i).toNat)
  case atStart => exact ⟨0, by omega, by simp, HO.out, HB.out⟩
  case round =>
    obtain ⟨k, hk, rfl, hown, hB⟩ := hrel
    have HO := Lib.hid hown
    have HB := Lib.hid hB
    clear hown hB
    have HGL : Hid ((grpL D k).length ≤ 100000) := by show _ ≤ _; rw [grpL_len]; omega
    by_cases hlt : 4 * k < n
    · have HLT : Hid (4 * k < n) := hlt
      obtain ⟨hi, hhi⟩ : ∃ hi, hi = n - 4 * k := ⟨_, rfl⟩
      obtain ⟨lo, hlo⟩ : ∃ lo, lo = hi - 4 := ⟨_, rfl⟩
      have hie : (n : Int) - 4 * k = (hi : Nat) := by omega
      have hmax : max (0 : Int) ((hi : Int) - 4) = (lo : Nat) := by omega
      have hmin : (hi : Int) ≤ n := by omega
      have hhi0 : (0 : Int) < hi := by omega
      have hlh : (lo : Int) ≤ hi := by omega
      have hsub : (hi : Int) - 4 = (n : Int) - 4 * ((k + 1 : Nat) : Int) := by omega
      have HSB := Lib.hid hsub
      obtain ⟨L, hL⟩ : ∃ L, L = hi - lo := ⟨_, rfl⟩
      have hxl := extract_list s lo hi
      have hxs : (s.extract lo hi).size = L := by have := HN.out; simp [ByteArray.size_extract]; omega
      have hxn : (s.extract lo hi).data.toList.length = L := by rw [Array.length_toList]; exact hxs
      have hconv := fun w => Lib.run_convert_string_bytes (P := Tryz.prog) w 9 72 5 (s.extract lo hi) Tryz.underlying9 Tryz.underlying72 Tryz.underlying5
      simp only [hxs] at hconv
      have hdx : ∀ c ∈ (s.extract lo hi).data.toList, IsDig c := fun c hc => by
        rw [hxl] at hc
        exact HD.out c (List.mem_of_mem_take (List.mem_of_mem_drop hc))
      have hd : leV 10 (decT (s.extract lo hi).data.toList) = leV 10 ((D.drop (4 * k)).take 4) := by
        rw [hxl, decT_part _ (by rw [HSZ.out]; have := HN.out; omega), ← HDE.out, HSZ.out, ← HN.out, show n - hi = 4 * k by omega]
        rcases Nat.lt_or_ge 4 hi with h | h
        · rw [show hi - lo = 4 by omega]
        · rw [show hi - lo = hi by omega, List.take_of_length_le (by simp; have := HDL.out; omega), List.take_of_length_le (by simp; have := HDL.out; omega)]
      have hgs := grpL_succ D k
      rw [← hd] at hgs
      have HF : Hid (∀ (W : World) (g c : Nat), L ≤ c → (∀ j, j < L → W.cell? ⟨g, j, none⟩ = some (.int .u8 (((s.extract lo hi).data.toList.getD j 0).toNat : Nat))) → Calls Tryz.prog 77 #[.slice (some ⟨g, 0, none⟩) L c, .int .i64 0, .func (.func 78) #[] #[]] W fun e w' => e = .returned (.int .i64 (leV 10 (decT (s.extract lo hi).data.toList) : Nat)) ∧ w' = W) := by
        intro W g c hc hcell
        have := fold8_any (s.extract lo hi).data.toList hdx (by omega) g c (by omega) W (by rw [hxn]; exact hcell)
        rwa [hxn] at this
      obtain ⟨d, hdd⟩ : ∃ d, d = leV 10 (decT (s.extract lo hi).data.toList) := ⟨_, rfl⟩
      rw [← hdd] at hgs HF
      have HGS := Lib.hid hgs
      have HXS := Lib.hid hxs
      have hLb : (L : Int) ≤ 4 := by omega
      have hcell5 := fun W => Lib.bytesWorld_cell W 5 (s.extract lo hi)
      have HC5 := Lib.hid hcell5
      rw [hie]
      have hB5 := bytesWorld_below wr 5 (s.extract lo hi)
      have HB5 := Lib.hid hB5
      have hcp := grownCap_ge wr L 0 5
      have HF5 := Lib.hid (HF.out _ wr.heap.size _ hcp (fun j hj => HC5.out wr j (by rw [HXS.out]; exact hj)))
      have hcp2 : (L : Int) ≤ grownCap wr L 0 5 := by omega
      clear hhi hlo hie hsub hL hxl hxs hxn hdx hd hgs hdd hcell5 hB5 hcp HF HC5 hk hlt
      go_wp2_with fail
      refine HF5.out.mono ?_
      rintro e w5 ⟨rfl, rfl⟩
      have HO5 := Lib.hid (ownsRow_below HO.out HB5.out)
      have HB6 := Lib.hid (belowVia HB5.out HB.out)
      clear hcp2 hconv HF5
      generalize Lib.bytesWorld wr 5 (s.extract lo hi) = w5 at *
      generalize grownCap wr L 0 5 = cp at *
      go_wp2_with (at_builtin; refine wpList_append_own _ rfl _ _ 45 rfl w.heap.size 3 i0 (.int .i64 0) 1 8 Tryz.underlying45 HI0.out HZ0.out HZ1.out HZ2.out rfl (by decide) u3 (grpL D k).length (i64l (grpL D k)) (by rfl) (HO5.out.alloc _) ⟨w5.heap.size, 0, none⟩ 1 1 [.int .i64 (d : Nat)] (by rfl) rfl (news_val _ _ _) (one_int _ _) (app_b1 HGL.out) (app_b2 HGL.out (by decide)) (app_b3 HB6.out) ?_; intro v2 w9 hown9 hgrow9 _; have HF9 := Lib.hid (app_i64 (b := d) HO5.out HB6.out hown9 hgrow9); clear hown9 hgrow9)
      exact ⟨⟨k + 1, by have := HLT.out; omega, by rw [HSB.out], by rw [HGS.out]; exact HF9.out.1, HF9.out.2⟩, by simp [intOf]; omega⟩
    · obtain ⟨j, hj⟩ : ∃ j : Int, (n : Int) - 4 * k = j := ⟨_, rfl⟩
      rw [hj]
      have hj0 : j ≤ 0 := by omega
      have hj1 : -3 ≤ j := by omega
      obtain ⟨a1, c1, rfl, hr1, hc1⟩ := cols_clone HO.out
      have hTR := trimmed_any (grpL D k) HGL.out a1 c1 wr hr1 hc1.cells
      have he : trimL (grpL D k) = digsL 10000 (natV s.data.toList) := by
        rw [grp_trim HDD.out (by have := HDL.out; omega), HDE.out]; rfl
      have hr2 : Room (trimL (grpL D k)).length c1 := ⟨by have := trimL_le (grpL D k); have := hr1.1; omega, hr1.2⟩
      have HC2 := Lib.hid (cells_trim hc1.cells)
      rw [he] at hTR HC2 hr2
      have HTR := Lib.hid hTR
      have HR2 := Lib.hid hr2
      clear hj hr1 hc1 hTR he hr2 hlt
      generalize (grpL D k).length = gl at *
      go_wp2_with fail
      refine HTR.out.mono ?_
      rintro e w2 ⟨rfl, rfl⟩
      go_wp2_with fail
      go_ret
      exact ⟨⟨_, rfl, _, _, rfl, HR2.out, HC2.out⟩, HB.out⟩
end Go.Proofs.YtggkbeppfpgkaaaGreatDoor
