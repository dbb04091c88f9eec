/- WireSumAffine: what the law's body answers. -/
import Derived.RegionTactic
import Derived.WalkSmall
import Derived.Deep.QuietTactic
import Derived.BigQuiet
import Derived.Laws.BitsAllLaws
import Derived.Test.YtlnbipldbbdnmaaDoorWireLaws
namespace Go.Proofs.YtlnbipldbbdnmaaDoor
open Go.RowKit Putlog

theorem run_min4 (x y z u : Nat) (w : World) : (Builtin.min_ #[3, 3, 3, 3] 3 #[.int .i64 (x : Int), .int .i64 (y : Int), .int .i64 (z : Int), .int .i64 (u : Int)]).run Tryd.prog w = .ok (.int .i64 ((min (min (min x y) z) u : Nat) : Int)) w := by
  simp [Builtin.min_, Builtin.min2]
  repeat' split
  all_goals omega

def xorAt (a b c : ByteArray) (j : Nat) : UInt8 := a.data.toList.getD j 0 ^^^ b.data.toList.getD j 0 ^^^ c.data.toList.getD j 0
theorem getD_byte (s : ByteArray) (k : Nat) (h : k < s.size) : s.data.toList.getD k 0 = s[k] := by
  rw [List.getD_eq_getElem?_getD, List.getElem?_eq_getElem (by simpa using h)]; rfl
theorem infoByte : (Tryd.prog.info? 5).map (fun i => (i.zero, i.size, i.bytes)) = some (some (.int .u8 0), 1, 1) := by kernel_rfl

/-- The first k of the n bytes of block B are written: as g says. -/
def Bytes (n B k : Nat) (g : Nat → Nat) (W : World) : Prop := ∀ j, j < n → W.cell? ⟨B, j, none⟩ = some (.int .u8 ((if j < k then g j else 0 : Nat) : Int)) ∧ W.frozen? ⟨B, j, none⟩ = false

theorem Bytes.step {n B k : Nat} {g : Nat → Nat} {W : World} (h : Bytes n B k g W) (hk : k < n) : Bytes n B (k + 1) g (W.setCell ⟨B, k, none⟩ (.int .u8 (g k : Nat))).drew := by
  intro j hj
  rw [World.cell?_drew, World.frozen?_drew, World.frozen?_setCell]
  refine ⟨?_, (h j hj).2⟩
  by_cases e : j = k
  · subst e
    rw [World.cell?_setCell_same' _ _ _ (by rw [(h j hj).1]; rfl), if_pos (by omega)]
  · rw [World.cell?_setCell_other _ _ _ _ (fun h => e (congrArg Addr.off h).symm), (h j hj).1]
    by_cases hlt : j < k
    · rw [if_pos hlt, if_pos (by omega)]
    · rw [if_neg hlt, if_neg (by omega)]
theorem getD_take (l : List UInt8) (n j : Nat) (h : j < n) : (l.take n).getD j 0 = l.getD j 0 := by
  simp [List.getD_eq_getElem?_getD, h]
/-- The bytes of the XOR. -/
theorem xorBytes (a b c : ByteArray) (n : Nat) (ha : n ≤ a.size) (hb : n ≤ b.size) (hc : n ≤ c.size) :
    strOfNums ((List.range n).map fun j => ((xorAt a b c j).toNat : Int)) = ⟨(xor3 (a.data.toList.take n) (b.data.toList.take n) (c.data.toList.take n)).toArray⟩ := by
  have h1 : (a.data.toList.take n).length = n := by simp; omega
  have h2 : (b.data.toList.take n).length = n := by simp; omega
  have h3 : (c.data.toList.take n).length = n := by simp; omega
  unfold strOfNums
  rw [List.map_map]
  congr 2
  apply List.ext_getElem?
  intro j
  by_cases hj : j < n
  · have h4 := xor3_get (a.data.toList.take n) (b.data.toList.take n) (c.data.toList.take n) j (by omega) (by omega)
    rw [getD_take _ _ _ hj, getD_take _ _ _ hj, getD_take _ _ _ hj] at h4
    have h5 : j < (xor3 (a.data.toList.take n) (b.data.toList.take n) (c.data.toList.take n)).length := by rw [xor3_length _ _ _ (by omega) (by omega)]; omega
    rw [List.getD_eq_getElem?_getD, List.getElem?_eq_getElem h5, Option.getD_some] at h4
    rw [List.getElem?_eq_getElem h5, h4, List.getElem?_map, List.getElem?_range hj]
    simp [xorAt]
  · rw [List.getElem?_eq_none (by simp; omega), List.getElem?_eq_none (by rw [xor3_length _ _ _ (by omega) (by omega)]; omega)]
theorem i64_xor_nat (a b : Nat) (ha : a < 2 ^ 63) (hb : b < 2 ^ 63) : bits .xor .i64 (a : Int) (b : Int) = ((a ^^^ b : Nat) : Int) := by
  have hx : a ^^^ b < 2 ^ 63 := Nat.xor_lt_two_pow ha hb
  have e : bits .xor .i64 (a : Int) (b : Int) = IntKind.i64.wrap ((a ^^^ b : Nat) : Int) := by
    show IntKind.i64.wrap ((BitVec.ofInt 64 (a : Int) ^^^ BitVec.ofInt 64 (b : Int)).toNat : Int) = _
    rw [BitVec.ofInt_natCast, BitVec.ofInt_natCast, BitVec.toNat_xor, BitVec.toNat_ofNat, BitVec.toNat_ofNat, Nat.mod_eq_of_lt (by omega), Nat.mod_eq_of_lt (by omega)]
  rw [e, IntKind.wrap_i64]
  omega
theorem tabAt_drewN {w : World} (h : TabAt w) (q : Nat) : TabAt (w.drewN q) := fun i hi => h i hi
def sumOf (s : ByteArray) : Nat := crcSum s.data.toList
def small (s : ByteArray) : Prop := s.size ≤ 9223372036854775807
theorem Sum_quiet (s : ByteArray) (w : World) (hs : small s) (hT : TabAt w) :
    Calls Tryd.prog 21 #[.string s] w fun e w' => e = .returned (.int .i64 (sumOf s : Nat)) ∧ w' = w :=
  (Sum_any s w hs hT).mono fun _ _ ⟨he, hw⟩ => ⟨he, hw.symm⟩

set_option maxRecDepth 100000 in
set_option maxHeartbeats 1000000 in
theorem Affine_calls (a b c : ByteArray) (w : World) (ha : a.size ≤ 9223372036854775807) (hb : b.size ≤ 9223372036854775807) (hc : c.size ≤ 9223372036854775807) (hT : TabAt w) :
    Calls Tryd.prog 9 #[.string a, .string b, .string c] w fun e w' => e = .returned (.bool true) ∧ Below w.heap.size w w' := by
  have HT := Lib.hid hT
  have hmin := run_min4 a.size b.size c.size 200
  obtain ⟨n, hn⟩ : ∃ n, n = min (min (min a.size b.size) c.size) 200 := ⟨_, rfl⟩
  rw [← hn] at hmin
  have hna : n ≤ a.size := by omega
  have hnb : n ≤ b.size := by omega
  have hnc : n ≤ c.size := by omega
  have hn200 : n ≤ 200 := by omega
  simp only [Int.cast_ofNat_Int] at hmin
  obtain ⟨i0, hi, hz0, hz1, hz2⟩ := info_parts infoByte
  clear hT hn
  go_enter Tryd.func9, Tryd.ntmps9
  go_wp2_with fail
  refine (sane_any _ HT.out).mono ?_; rintro e w1 ⟨rfl, hB⟩
  have HI := Lib.hid hi
  have HZ := Lib.hid (And.intro hz0 (And.intro hz1 hz2))
  clear hi hz0 hz1 hz2
  go_wp2_with (at_make; go_must (refine wpList_make_full _ rfl _ _ 38 rfl w1.heap.size 5 i0 (.int .u8 0) 1 Tryd.underlying38 HI.out HZ.out.1 HZ.out.2.1 .i64 .i64 n n n rfl rfl rfl rfl (by rw [HZ.out.2.2]; omega) (by unfold maxLen; omega) (Nat.le_refl _) ?_); intro w2 hown hgrow)
  have hcells : Bytes n w1.heap.size 0 (fun j => (xorAt a b c j).toNat) w2 := by
    intro j hj
    have h1 := hown.cellAt j (by omega)
    rw [show (Value.int .u8 0).cells = #[.int .u8 0] from rfl, toList_madeCells_one] at h1
    refine ⟨?_, hown.frozenAt j⟩
    rw [h1, if_neg (by omega), List.getElem?_replicate, if_pos (by omega)]
    rfl
  have hB2 : Below w.heap.size w w2 := hB.grown hgrow hB.size (fun k e => by cases e)
  have hwb := hB.size
  clear hown hgrow hmin
  go_loopw [10] (fun i wr => ∃ k : Nat, k ≤ n ∧ i = .int .i64 k ∧ Bytes n w1.heap.size k (fun j => (xorAt a b c j).toNat) wr ∧ Below w.heap.size w wr) (fun i _ => n - (intOf i).toNat)
  case atStart => exact ⟨0, Nat.zero_le _, rfl, hcells, hB2⟩
  case round =>
    clear hcells hB2
    obtain ⟨k, hk, rfl, hbytes, hBr⟩ := hrel
    by_cases hlt : k < n
    · have hka : k < a.size := by omega
      have hkb : k < b.size := by omega
      have hkc : k < c.size := by omega
      have hx1 := u8_xor_nat a[k].toNat b[k].toNat (UInt8.toNat_lt _) (UInt8.toNat_lt _)
      have hx2 := u8_xor_nat (a[k].toNat ^^^ b[k].toNat) c[k].toNat (Nat.xor_lt_two_pow (n := 8) (UInt8.toNat_lt _) (UInt8.toNat_lt _)) (UInt8.toNat_lt _)
      have hg : (xorAt a b c k).toNat = a[k].toNat ^^^ b[k].toNat ^^^ c[k].toNat := by
        unfold xorAt; rw [getD_byte a k hka, getD_byte b k hkb, getD_byte c k hkc]; simp
      rw [← hg] at hx2
      have HG := Lib.hid hg
      clear hg
      generalize a[k].toNat ^^^ b[k].toNat = x1 at *
      have hcell := (hbytes k hlt).1
      have hfro := (hbytes k hlt).2
      have HBY := Lib.hid hbytes
      have HBR := Lib.hid hBr
      have hlt' : (k : Int) < n := by omega
      clear hbytes hBr
      go_wp2
      go_region
      go_wp2
      go_roundw
      case rel => exact ⟨k + 1, by omega, by go_num, HBY.out.step hlt, (HBR.out.setCell (p := ⟨w1.heap.size, k, none⟩) hwb _).drew⟩
      case measure => simp [intOf]; omega
    · obtain rfl : k = n := by omega
      have hTr : TabAt wr := HT.out.below hBr HT.out.size
      have hstr := xorBytes a b c k hna hnb hnc
      have hconv : ∀ q, (convert 38 9 (.slice (some ⟨w1.heap.size, 0, none⟩) k k)).run Tryd.prog (wr.drewN q) = .ok (.string (strOfNums ((List.range k).map fun j => ((xorAt a b c j).toNat : Int)))) (wr.drewN q) := fun q =>
        run_convert_bytes_arg (P := Tryd.prog) (wr.drewN q) 38 5 Tryd.underlying38 Tryd.underlying5 w1.heap.size 0 k k _ (by simp) (fun i hi => by
          rw [World.cell?_drewN, Nat.zero_add, (hbytes i hi).1, if_pos hi, List.getD_eq_getElem?_getD, List.getElem?_map, List.getElem?_range hi]; rfl) 9 Tryd.underlying9
      rw [hstr] at hconv
      have hsum := crcSum_xor3 (a.data.toList.take k) (b.data.toList.take k) (c.data.toList.take k) (by simp; omega) (by simp; omega)
      have hXs : (⟨(xor3 (a.data.toList.take k) (b.data.toList.take k) (c.data.toList.take k)).toArray⟩ : ByteArray).size ≤ 9223372036854775807 := by
        rw [ba_size, xor3_length _ _ _ (by simp; omega) (by simp; omega)]; simp; omega
      have hXl : (⟨(xor3 (a.data.toList.take k) (b.data.toList.take k) (c.data.toList.take k)).toArray⟩ : ByteArray).data.toList = xor3 (a.data.toList.take k) (b.data.toList.take k) (c.data.toList.take k) := rfl
      have hs2 : sumOf ⟨(xor3 (a.data.toList.take k) (b.data.toList.take k) (c.data.toList.take k)).toArray⟩ = sumOf (a.extract 0 k) ^^^ sumOf (b.extract 0 k) ^^^ sumOf (c.extract 0 k) := by
        unfold sumOf; rw [extract_zero, extract_zero, extract_zero]; exact hsum
      have sX : small ⟨(xor3 (a.data.toList.take k) (b.data.toList.take k) (c.data.toList.take k)).toArray⟩ := hXs
      have sA : small (a.extract 0 k) := by unfold small; simp; omega
      have sB : small (b.extract 0 k) := by unfold small; simp; omega
      have sC : small (c.extract 0 k) := by unfold small; simp; omega
      generalize (⟨(xor3 (a.data.toList.take k) (b.data.toList.take k) (c.data.toList.take k)).toArray⟩ : ByteArray) = X at *
      have hA2 := crcSum_lt (a.extract 0 k).data.toList
      have hB2 := crcSum_lt (b.extract 0 k).data.toList
      have hC2 := crcSum_lt (c.extract 0 k).data.toList
      have hx1 := i64_xor_nat (sumOf (a.extract 0 k)) (sumOf (b.extract 0 k)) (Nat.lt_trans hA2 (by decide)) (Nat.lt_trans hB2 (by decide))
      have hx2 := i64_xor_nat (sumOf (a.extract 0 k) ^^^ sumOf (b.extract 0 k)) (sumOf (c.extract 0 k)) (Nat.xor_lt_two_pow (Nat.lt_trans hA2 (by decide)) (Nat.lt_trans hB2 (by decide))) (Nat.lt_trans hC2 (by decide))
      rw [← hs2] at hx2
      clear hs2
      generalize sumOf (a.extract 0 k) ^^^ sumOf (b.extract 0 k) = sAB at *
      have HTr := Lib.hid hTr
      have HBr := Lib.hid hBr
      have hna' : (k : Int) ≤ a.size := by omega
      have hnb' : (k : Int) ≤ b.size := by omega
      have hnc' : (k : Int) ≤ c.size := by omega
      clear hTr hBr hbytes hstr hsum hXs hXl hA2 hB2 hC2
      go_wp2
      go_quiet ((go_at_call 21; exact Calls.quiet_of_same (Sum_quiet _ _ (by assumption) (tabAt_drewN HTr.out _))))
      go_wp2
      go_ret
      exact ⟨rfl, below_drewN HBr.out _⟩
end Go.Proofs.YtlnbipldbbdnmaaDoor
