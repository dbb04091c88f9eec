/- WireSumBurst: what the law's body answers. -/
import Derived.Lib.ConvBytes
import Derived.Test.YtlnbipldbbdnmaaDoorWireBurstPure
import Derived.Test.YtlnbipldbbdnmaaDoorWireAffine
namespace Go.Proofs.YtlnbipldbbdnmaaDoor
open Go.RowKit Putlog

/-- Block B begins with the bytes l, which may be written. -/
def Holds (B : Nat) (l : List UInt8) (W : World) : Prop := ∀ j, j < l.length → W.cell? ⟨B, j, none⟩ = some (.int .u8 ((l.getD j 0).toNat : Int)) ∧ W.frozen? ⟨B, j, none⟩ = false
theorem Holds.set {B : Nat} {l : List UInt8} {W : World} (h : Holds B l W) {q : Nat} (hq : q < l.length) (c : UInt8) : Holds B (l.set q c) (W.setCell ⟨B, q, none⟩ (.int .u8 (c.toNat : Int))).drew := by
  intro j hj
  rw [List.length_set] at hj
  rw [World.cell?_drew, World.frozen?_drew, World.frozen?_setCell]
  refine ⟨?_, (h j hj).2⟩
  by_cases e : j = q
  · subst e
    rw [World.cell?_setCell_same' _ _ _ (by rw [(h j hj).1]; rfl), List.getD_eq_getElem?_getD, List.getElem?_set_self (by simpa using hj)]
    rfl
  · rw [World.cell?_setCell_other _ _ _ _ (fun h => e (congrArg Addr.off h).symm), (h j hj).1, List.getD_eq_getElem?_getD, List.getD_eq_getElem?_getD, List.getElem?_set_ne (fun h => e h.symm)]
theorem bytesWorld_below (w : World) (e : TypeId) (s : ByteArray) : Below w.heap.size w (Lib.bytesWorld w e s) :=
  ⟨rfl, rfl, rfl, by rw [Lib.bytesWorld_size]; omega, fun k hk => Lib.bytesWorld_at_old w e s k hk⟩
theorem bytesWorld_holds (w : World) (e : TypeId) (s : ByteArray) : Holds w.heap.size s.data.toList (Lib.bytesWorld w e s) := by
  intro j hj
  have hj' : j < s.size := by simpa using hj
  refine ⟨Lib.bytesWorld_cell w e s j hj', ?_⟩
  unfold World.frozen?
  rw [Lib.bytesWorld_at_new]
  have : s.size ≤ (Lib.bytesCells w e s).size := by unfold Lib.bytesCells; simp
  simp
  omega

theorem byte_flip (v r : Nat) (hv : v < 256) (hr : r < 8) : bits .xor .u8 (v : Int) (2 ^ r % 256) = ((v ^^^ 2 ^ r : Nat) : Int) := by
  have h2 : 2 ^ r < 256 := Nat.lt_of_lt_of_le (Nat.pow_lt_pow_right (by omega) hr) (by decide)
  have e : ((2 : Int) ^ r % 256) = ((2 ^ r : Nat) : Int) := by
    have : ((2 ^ r : Nat) : Int) < 256 := by omega
    rw [Int.natCast_pow] at this ⊢
    have h0 : (0 : Int) ≤ 2 ^ r := Int.pow_nonneg (by omega)
    exact Int.emod_eq_of_lt h0 this
  rw [e]
  exact u8_xor_nat v (2 ^ r) hv h2
theorem strOfNums_bytes (l : List UInt8) : strOfNums (l.map fun b => (b.toNat : Int)) = ⟨l.toArray⟩ := by
  unfold strOfNums
  rw [List.map_map]
  congr 2
  conv => rhs; rw [← List.map_id l]
  apply List.map_congr_left
  intro x _
  simp

set_option maxRecDepth 100000 in
set_option maxHeartbeats 2000000 in
theorem Burst_calls (s : ByteArray) (at' : Int) (P : Nat) (w : World) (h4 : -9223372036854775808 ≤ at') (h5 : at' ≤ 9223372036854775807) (hP : P < 2 ^ 32) (hs : s.size ≤ 9223372036854775807) (hT : TabAt w) :
    Calls Tryd.prog 8 #[.string s, .int .i64 at', .int .u32 (P : Int)] w fun e w' => e = .returned (.bool true) ∧ Below w.heap.size w w' := by
  have HT := Lib.hid hT
  have hm3 := min_int s.size 300
  have hn3 : min s.size 300 ≤ s.size := by omega
  have hn6 : min s.size 300 ≤ 300 := by omega
  generalize min s.size 300 = n at *
  simp only [Int.cast_ofNat_Int] at hm3
  have hn3' : (n : Int) ≤ s.size := by omega
  have hxs : (s.extract 0 n).size = n := by simp; omega
  have hxl : (s.extract 0 n).data.toList.length = n := by simp; omega
  clear hT
  have hconv := fun w => Lib.run_convert_string_bytes (P := Tryd.prog) w 9 38 5 (s.extract 0 n) Tryd.underlying9 Tryd.underlying38 Tryd.underlying5
  simp only [hxs] at hconv
  have hholds := fun w => bytesWorld_holds w 5 (s.extract 0 n)
  have hbelow := fun w => bytesWorld_below w 5 (s.extract 0 n)
  have HX := Lib.hid hxl
  have HH := Lib.hid hholds
  have HBW := Lib.hid hbelow
  clear hxs hxl hholds hbelow
  by_cases h0 : n = 0
  · have hn0 : ((n : Int) == 0) = true := by simp [h0]
    clear h0
    go_enter Tryd.func8, Tryd.ntmps8
    go_wp2_with fail
    refine (sane_any _ HT.out).mono ?_; rintro e w1 ⟨rfl, hB⟩
    go_wp2_with fail
    go_ret
    exact ⟨rfl, belowStep hB (HBW.out w1)⟩
  by_cases hP0 : P = 0
  · have hn0 : ((n : Int) == 0) = false := by simp; omega
    have hp0 : ((P : Int) == 0) = true := by simp [hP0]
    clear h0 hP0 hP
    go_enter Tryd.func8, Tryd.ntmps8
    go_wp2_with fail
    refine (sane_any _ HT.out).mono ?_; rintro e w1 ⟨rfl, hB⟩
    go_wp2_with fail
    go_ret
    exact ⟨rfl, belowStep hB (HBW.out w1)⟩
  have hn0 : ((n : Int) == 0) = false := by simp; omega
  have hp0 : ((P : Int) == 0) = false := by simp; omega
  go_enter Tryd.func8, Tryd.ntmps8
  go_wp2_with fail
  refine (sane_any _ HT.out).mono ?_; rintro e w1 ⟨rfl, hB⟩
  go_wp2_with fail
  have hx0 := pickZ_nonneg at' (n := 8 * (n : Int)) (by omega)
  have hx1 := pickZ_lt at' (n := 8 * (n : Int)) (by omega)
  refine (pick_any at' (8 * n) _ h4 h5 (by omega) (by omega)).mono ?_; rintro e w' ⟨rfl, rfl⟩
  generalize pickZ at' (8 * (n : Int)) = x at *
  obtain ⟨x, rfl⟩ := Int.eq_ofNat_of_zero_le hx0
  have hh := HH.out w1
  have hb2 := belowStep hB (HBW.out w1)
  generalize Lib.bytesWorld w1 5 (s.extract 0 n) = w2 at *
  generalize grownCap w1 n 0 5 = cp at *
  have hwb := hB.size
  have Hh := Lib.hid hh
  have Hb2 := Lib.hid hb2
  clear hh hb2 HBW HH hB hconv hm3 hx0
  have hP31 := Lib.hid hP
  clear hP hP0 h0
  go_wp2_with fail
  go_loopw [10, 11] (fun ch i wr => ∃ (k : Nat) (bs : List UInt8) (cb : Bool), k ≤ 32 ∧ x + k ≤ 8 * n ∧ i = .int .i64 k ∧ ch = .bool cb ∧ bs.length = n ∧ Holds w1.heap.size bs wr ∧ num bs = num (s.extract 0 n).data.toList ^^^ P % 2 ^ k * 2 ^ x ∧ cb = decide (P % 2 ^ k ≠ 0) ∧ Below w.heap.size w wr) (fun _ i _ => 32 - (intOf i).toNat)
  case atStart => exact ⟨0, _, false, by omega, by omega, rfl, rfl, HX.out, Hh.out, by simp [Nat.mod_one], by simp [Nat.mod_one], Hb2.out⟩
  case round =>
    obtain ⟨k, bs, cb, hk, hxk, rfl, rfl, hlen, hholds, hnum, hcb, hBr⟩ := hrel
    by_cases hlt : k < 32 ∧ x + k < 8 * n
    · obtain ⟨h32, h8⟩ := hlt
      have h32' : (k : Int) < 32 := by omega
      have h8' : (x : Int) + k < 8 * n := by omega
      have HL := Lib.hid hlen
      have HHo := Lib.hid hholds
      have HN := Lib.hid hnum
      have HC := Lib.hid hcb
      have HBr := Lib.hid hBr
      have H32 := Lib.hid h32
      have H8 := Lib.hid h8
      clear hlen hholds hnum hcb hBr hk hxk h32 h8 hx1
      have hy : (P : Int) / 2 ^ k = ((P / 2 ^ k : Nat) : Int) := by simp
      by_cases hbit : P / 2 ^ k % 2 = 1
      · have HBIT := Lib.hid hbit
        have hb1 : (((P / 2 ^ k : Nat) : Int) % 2 == 1) = true := by simp; omega
        generalize hyy : P / 2 ^ k = y at hy hb1
        have hq : (x + k) / 8 < n := by have := H8.out; omega
        obtain ⟨hc, hf⟩ := HHo.out ((x + k) / 8) (by rw [HL.out]; exact hq)
        have hq' : ((x : Int) + k) / 8 < n := by omega
        clear hbit hyy
        go_wp2
        go_region
        have hv : (bs[(x + k) / 8]?.getD 0).toNat < 256 := UInt8.toNat_lt _
        have hr : (x + k) % 8 < 8 := by omega
        rw [byte_flip _ _ hv hr]
        have hcv : (UInt8.ofNat ((bs[(x + k) / 8]?.getD 0).toNat ^^^ 2 ^ ((x + k) % 8))).toNat = (bs[(x + k) / 8]?.getD 0).toNat ^^^ 2 ^ ((x + k) % 8) := by
          have h2 : 2 ^ ((x + k) % 8) < 2 ^ 8 := Nat.pow_lt_pow_right (by omega) hr
          have := Nat.xor_lt_two_pow (n := 8) hv h2
          rw [UInt8.toNat_ofNat']
          exact Nat.mod_eq_of_lt this
        rw [← hcv]
        have HCV := Lib.hid hcv
        have HQ := Lib.hid hq
        generalize UInt8.ofNat ((bs[(x + k) / 8]?.getD 0).toNat ^^^ 2 ^ ((x + k) % 8)) = c at *
        clear hcv hc hf hq hv hr
        go_wp2
        go_roundw
        case rel =>
          have hq := HQ.out
          refine ⟨k + 1, bs.set ((x + k) / 8) c, true, by have := H32.out; omega, by have := H8.out; omega, by go_num, rfl, by rw [List.length_set]; exact HL.out, HHo.out.set (by rw [HL.out]; exact hq) c, ?_, ?_, (HBr.out.setCell (p := ⟨w1.heap.size, (x + k) / 8, none⟩) hwb _).drew⟩
          · rw [num_set bs _ ((x + k) % 8) (by rw [HL.out]; exact hq) (by omega) c (by rw [List.getD_eq_getElem?_getD]; exact HCV.out), HN.out, mod_succ_one HBIT.out, xor_mul_pow, ← Nat.xor_assoc, ← Nat.pow_add,
              show 8 * ((x + k) / 8) + (x + k) % 8 = k + x by omega]
          · have := mod_pos_one HBIT.out
            simp [this]
        case measure => simp [intOf]; have := H32.out; omega
      · have hbit0 : P / 2 ^ k % 2 = 0 := by omega
        have HBIT := Lib.hid hbit0
        have hb1 : (((P / 2 ^ k : Nat) : Int) % 2 == 1) = false := by simp; omega
        generalize hyy : P / 2 ^ k = y at hy hb1
        clear hbit hbit0 hyy
        go_wp2
        go_roundw
        case rel => exact ⟨k + 1, bs, cb, by have := H32.out; omega, by have := H8.out; omega, by go_num, rfl, HL.out, HHo.out, by rw [mod_succ_zero HBIT.out]; exact HN.out, by rw [mod_succ_zero HBIT.out]; exact HC.out, HBr.out⟩
        case measure => simp [intOf]; have := H32.out; omega
    · have hTr : TabAt wr := HT.out.below hBr HT.out.size
      have hXl := HX.out
      have hconv : ∀ q, (convert 38 9 (.slice (some ⟨w1.heap.size, 0, none⟩) n cp)).run Tryd.prog (wr.drewN q) = .ok (.string (strOfNums (bs.map fun b => (b.toNat : Int)))) (wr.drewN q) := fun q =>
        run_convert_bytes_arg (P := Tryd.prog) (wr.drewN q) 38 5 Tryd.underlying38 Tryd.underlying5 w1.heap.size 0 n cp _ (by simpa using hlen) (fun i hi => by
          rw [World.cell?_drewN, Nat.zero_add, (hholds i (by omega)).1, List.getD_eq_getElem?_getD, List.getD_eq_getElem?_getD, List.getElem?_map, List.getElem?_eq_getElem (by omega : i < bs.length)]; rfl) 9 Tryd.underlying9
      rw [strOfNums_bytes] at hconv
      have hP2 : P % 2 ^ k < 2 ^ 32 := by
        have : P % 2 ^ k ≤ P := Nat.mod_le _ _
        have := hP31.out
        omega
      have hsum := crcSum_burst (s.extract 0 n).data.toList bs (P % 2 ^ k) x (by omega) hnum hP2 (by omega)
      have hne : (((sumOf ⟨bs.toArray⟩ : Nat) : Int) != ((sumOf (s.extract 0 n) : Nat) : Int)) = cb := by
        have e1 : sumOf ⟨bs.toArray⟩ = crcSum bs := rfl
        have e2 : sumOf (s.extract 0 n) = crcSum (s.extract 0 n).data.toList := rfl
        rw [hcb, e1, e2]
        by_cases h : P % 2 ^ k = 0
        · rw [show crcSum bs = crcSum (s.extract 0 n).data.toList from hsum.mpr h]; simp [h]
        · have h3 : ¬ crcSum bs = crcSum (s.extract 0 n).data.toList := fun h4 => h (hsum.mp h4)
          have h5 : ¬ ((crcSum bs : Nat) : Int) = ((crcSum (s.extract 0 n).data.toList : Nat) : Int) := fun h6 => h3 (by exact_mod_cast h6)
          simp only [ne_eq, h, not_false_eq_true, decide_true, bne_iff_ne]
          exact h5
      have sX : small (s.extract 0 n) := by unfold small; simp; omega
      have sB : small ⟨bs.toArray⟩ := by unfold small; rw [ba_size]; omega
      have HTr := Lib.hid hTr
      have HBr := Lib.hid hBr
      generalize (⟨bs.toArray⟩ : ByteArray) = B at *
      clear hTr hBr hholds hnum hcb hlen hsum hP2 hXl
      by_cases h32 : k < 32
      · have h32' : (k : Int) < 32 := by omega
        have h8' : 8 * (n : Int) ≤ x + k := by omega
        clear hlt h32 hk hxk
        go_wp2
        go_quiet ((go_at_call 21; exact Calls.quiet_of_same (Sum_quiet _ _ (by assumption) (tabAt_drewN HTr.out _))))
        go_wp2
        go_ret
        exact ⟨rfl, below_drewN HBr.out _⟩
      · have h32' : 32 ≤ (k : Int) := by omega
        clear hlt h32 hk hxk
        go_wp2
        go_quiet ((go_at_call 21; exact Calls.quiet_of_same (Sum_quiet _ _ (by assumption) (tabAt_drewN HTr.out _))))
        go_wp2
        go_ret
        exact ⟨rfl, below_drewN HBr.out _⟩
theorem Burst_calls' (s : ByteArray) (at' P : Int) (w : World) (h4 : -9223372036854775808 ≤ at') (h5 : at' ≤ 9223372036854775807) (h0 : 0 ≤ P) (hP : P ≤ 4294967295) (hs : s.size ≤ 9223372036854775807) (hT : TabAt w) :
    Calls Tryd.prog 8 #[.string s, .int .i64 at', .int .u32 P] w fun e w' => e = .returned (.bool true) ∧ Below w.heap.size w w' := by
  obtain ⟨P, rfl⟩ := Int.eq_ofNat_of_zero_le h0
  exact Burst_calls s at' P w h4 h5 (by omega) hs hT
end Go.Proofs.YtlnbipldbbdnmaaDoor
