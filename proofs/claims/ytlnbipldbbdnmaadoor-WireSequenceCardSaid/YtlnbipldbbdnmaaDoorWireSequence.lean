/- WireSequence: what the law's body answers. -/
import Derived.WalkSmall
import Derived.Deep.RegionHeld3
import Derived.Test.YtlnbipldbbdnmaaDoorWireLaws
namespace Go.Proofs.YtlnbipldbbdnmaaDoor
open Go.RowKit Putlog

def seqA (ls : Nat → Int) (k : Nat) : ByteArray := ⟨(enc (numZ (ls k))).toArray⟩
def seqT (ts : Nat → ByteArray) (k : Nat) : ByteArray := (ts k).extract 0 (min (ts k).size 100)
def seqB (ts : Nat → ByteArray) (k : Nat) : ByteArray := ⟨(enc (seqT ts k).size).toArray⟩ ++ seqT ts k
/-- The concatenation of the first k encodings. -/
def seqEnc (ls : Nat → Int) (ts : Nat → ByteArray) : Nat → ByteArray
  | 0 => ⟨#[]⟩
  | k + 1 => seqEnc ls ts k ++ seqA ls k ++ seqB ts k
theorem seqA_size (ls : Nat → Int) (k : Nat) : (seqA ls k).size ≤ 9 := by
  unfold seqA; rw [ba_size]; exact enc_len_le (numZ_bd _).1 (numZ_bd _).2
theorem seqT_size (ts : Nat → ByteArray) (k : Nat) : (seqT ts k).size ≤ 100 := by unfold seqT; simp; omega
theorem seqB_size (ts : Nat → ByteArray) (k : Nat) : (seqB ts k).size ≤ 109 := by
  have := seqT_size ts k
  unfold seqB; rw [ByteArray.size_append, ba_size]
  have := enc_len_le (n := (seqT ts k).size) (by omega) (by omega)
  omega
theorem seqEnc_size (ls : Nat → Int) (ts : Nat → ByteArray) : ∀ k, (seqEnc ls ts k).size ≤ 118 * k
  | 0 => by simp [seqEnc, ByteArray.size]
  | k + 1 => by
    have := seqEnc_size ls ts k
    have := seqA_size ls k
    have := seqB_size ts k
    rw [seqEnc, ByteArray.size_append, ByteArray.size_append]; omega
theorem seq_split (ls : Nat → Int) (ts : Nat → ByteArray) (k : Nat) : ∀ m, ∃ Q : ByteArray, seqEnc ls ts (k + 1 + m) = seqEnc ls ts k ++ seqA ls k ++ (seqB ts k ++ Q)
  | 0 => ⟨⟨#[]⟩, by
      show seqEnc ls ts k ++ seqA ls k ++ seqB ts k = _
      apply ByteArray.ext
      simp [ByteArray.data_append]⟩
  | m + 1 => by
    obtain ⟨Q, h⟩ := seq_split ls ts k m
    refine ⟨Q ++ seqA ls (k + 1 + m) ++ seqB ts (k + 1 + m), ?_⟩
    show seqEnc ls ts (k + 1 + m) ++ seqA ls (k + 1 + m) ++ seqB ts (k + 1 + m) = _
    rw [h]
    simp only [ByteArray.append_assoc]
/-- What Int and String read at the k-th place. -/
theorem seq_int (ls : Nat → Int) (ts : Nat → ByteArray) {k n : Nat} (hk : k < n) (hn : n ≤ 20) (w : World) :
    Calls Tryd.prog 15 #[.string (seqEnc ls ts n), .int .i64 ((seqEnc ls ts k).size : Int)] w fun e w' => e = .returned (.tuple #[.int .i64 (numZ (ls k)), .int .i64 ((seqEnc ls ts k ++ seqA ls k).size : Int), .int .i64 0]) ∧ w = w' := by
  have hs := seqEnc_size ls ts n
  have hs2 := seqEnc_size ls ts k
  obtain ⟨Q, hQ⟩ := seq_split ls ts k (n - (k + 1))
  rw [show k + 1 + (n - (k + 1)) = n by omega] at hQ
  have hle : (seqEnc ls ts k).size ≤ (seqEnc ls ts n).size := by rw [hQ, ByteArray.size_append, ByteArray.size_append]; omega
  have hd := dec_app (numZ (ls k)) (numZ_bd _).1 (numZ_bd _).2 (seqEnc ls ts k) (seqA ls k) (seqB ts k ++ Q) rfl
  rw [← hQ] at hd
  have h := Int_some (seqEnc ls ts n) (seqEnc ls ts k).size (zig (numZ (ls k))) (seqA ls k).size w (by omega) hle hd
  rw [zag_zig, ← ByteArray.size_append] at h
  exact h
theorem seq_str (ls : Nat → Int) (ts : Nat → ByteArray) {k n : Nat} (hk : k < n) (hn : n ≤ 20) (w : World) :
    Calls Tryd.prog 17 #[.string (seqEnc ls ts n), .int .i64 ((seqEnc ls ts k ++ seqA ls k).size : Int)] w fun e w' => e = .returned (.tuple #[.string (seqT ts k), .int .i64 ((seqEnc ls ts (k + 1)).size : Int), .int .i64 0]) ∧ Below w.heap.size w w' := by
  have hs := seqEnc_size ls ts n
  have hs2 := seqT_size ts k
  obtain ⟨Q, hQ⟩ := seq_split ls ts k (n - (k + 1))
  rw [show k + 1 + (n - (k + 1)) = n by omega, ← ByteArray.append_assoc] at hQ
  have hle : (seqEnc ls ts k ++ seqA ls k).size ≤ (seqEnc ls ts n).size := by rw [hQ]; simp only [ByteArray.size_append]; omega
  have h := strEnd_app (seqT ts k) (by omega) (seqEnc ls ts k ++ seqA ls k) (seqB ts k) Q rfl
  rw [← hQ, ← Int.natCast_add, ← ByteArray.size_append] at h
  exact (String_at (seqEnc ls ts n) _ w (by omega) hle).mono fun _ _ ⟨he, hB⟩ => ⟨he.trans h, hB⟩
theorem seq_end (ls : Nat → Int) (ts : Nat → ByteArray) {n : Nat} (hn : n ≤ 20) (w : World) :
    Calls Tryd.prog 15 #[.string (seqEnc ls ts n), .int .i64 ((seqEnc ls ts n).size : Int)] w fun e w' => e = .returned (.tuple #[.int .i64 0, .int .i64 0, .int .i64 10]) ∧ w = w' := by
  have hs := seqEnc_size ls ts n
  exact Int_none _ _ w (by omega) (Nat.le_refl _) (by rw [List.drop_eq_nil_of_le (by simp)]; rfl)

theorem block_lt {w : World} {b o : Nat} {v : Value} (h : w.cell? ⟨b, o, none⟩ = some v) : b < w.heap.size := by
  unfold World.cell? at h
  rcases Nat.lt_or_ge b w.heap.size with h1 | h1
  · exact h1
  · rw [Array.getElem?_eq_none (by simpa using h1)] at h; cases h
theorem run_min3 (x y z : Nat) (w : World) : (Builtin.min_ #[3, 3, 3] 3 #[.int .i64 (x : Int), .int .i64 (y : Int), .int .i64 (z : Int)]).run Tryd.prog w = .ok (.int .i64 ((min (min x y) z : Nat) : Int)) w := by
  simp [Builtin.min_, Builtin.min2]
  repeat' split
  all_goals omega

set_option maxRecDepth 100000 in
set_option maxHeartbeats 2000000 in
theorem Sequence_calls (ls : Nat → Int) (ts : Nat → ByteArray) (b1 o1 len1 cap1 b2 o2 len2 cap2 : Nat) (w : World) (hl1 : len1 ≤ 9223372036854775807) (hl2 : len2 ≤ 9223372036854775807) (hb1 : b1 < w.heap.size) (hb2 : b2 < w.heap.size)
    (hc1 : ∀ j, j < len1 → w.cell? ⟨b1, o1 + j, none⟩ = some (.int .i64 (ls j)) ∧ -9223372036854775808 ≤ ls j ∧ ls j ≤ 9223372036854775807)
    (hc2 : ∀ j, j < len2 → w.cell? ⟨b2, o2 + j, none⟩ = some (.string (ts j)) ∧ (ts j).size ≤ 9223372036854775807) (hT : TabAt w) :
    Calls Tryd.prog 6 #[.slice (some ⟨b1, o1, none⟩) len1 cap1, .slice (some ⟨b2, o2, none⟩) len2 cap2] w fun e w' => e = .returned (.bool true) ∧ Below w.heap.size w w' := by
  have HT := Lib.hid hT
  have hl1' : (len1 : Int) ≤ 9223372036854775807 := by omega
  have hl2' : (len2 : Int) ≤ 9223372036854775807 := by omega
  have HC1 := Lib.hid hc1
  have HC2 := Lib.hid hc2
  clear hT hc1 hc2 hl1 hl2
  go_enter Tryd.func6, Tryd.ntmps6
  go_wp2_with fail
  refine (sane_any _ HT.out).mono ?_; rintro e w1 ⟨rfl, hB⟩
  have hmin := run_min3 len1 len2 20
  simp only [Int.cast_ofNat_Int] at hmin
  obtain ⟨n, hn⟩ : ∃ n, n = min (min len1 len2) 20 := ⟨_, rfl⟩
  rw [← hn] at hmin
  have hn1 : n ≤ len1 := by omega
  have hn2 : n ≤ len2 := by omega
  have hn20 : n ≤ 20 := by omega
  clear hn
  go_wp2_with fail
  clear hmin
  have HB := Lib.hid hB
  clear hB
  go_loopw [7, 8] (fun sv i wr => ∃ k : Nat, k ≤ n ∧ i = .int .i64 k ∧ sv = .string (seqEnc ls ts k) ∧ Below w.heap.size w wr) (fun _ i _ => n - (intOf i).toNat)
  case atStart => exact ⟨0, Nat.zero_le _, rfl, rfl, HB.out⟩
  case round =>
    obtain ⟨k, hk, rfl, rfl, hB⟩ := hrel
    by_cases hlt : k < n
    · have hlt' : (k : Int) < n := by omega
      have hk1 : (k : Int) < len1 := by omega
      have hk2 : (k : Int) < len2 := by omega
      have hcell : wr.cell? ⟨b1, o1 + k, none⟩ = some (.int .i64 (ls k)) := (hB.cell (p := ⟨b1, o1 + k, none⟩) hb1).trans (HC1.out k (by omega)).1
      have hN := Lib.hid (fun w => NumberFrom_any (ls k) w (HC1.out k (by omega)).2.1 (HC1.out k (by omega)).2.2)
      have hP : Hid (∀ w, Calls Tryd.prog 12 #[.int .i64 (numZ (ls k))] w fun e W' => e = .returned (.tuple #[.string (seqA ls k), .int .i64 0]) ∧ Below w.heap.size w W') := fun w => PutInt_ok _ w (numZ_bd _).1 (numZ_bd _).2
      have hQ : Hid (∀ w, w.cell? ⟨b2, o2 + k, none⟩ = some (.string (ts k)) → Calls Tryd.prog 19 #[.string ((ts k).extract 0 (min (ts k).size 100))] w fun e W' => e = .returned (.tuple #[.string (seqB ts k), .int .i64 0]) ∧ Below w.heap.size w W' ∧ W'.cell? ⟨b2, o2 + k, none⟩ = some (.string (ts k))) :=
        fun w hw => (PutString_ok _ w (by have := seqT_size ts k; unfold seqT at this; omega)).mono fun e w' ⟨h1, h2⟩ => ⟨h1, h2, (h2.cell (p := ⟨b2, o2 + k, none⟩) (block_lt hw)).trans hw⟩
      have hA9 : (seqA ls k).size ≤ 9 := seqA_size ls k
      have hB9 : (seqB ts k).size ≤ 109 := seqB_size ts k
      have hS9 : (seqEnc ls ts k).size ≤ 3000 := by have := seqEnc_size ls ts k; omega
      have hsucc : Hid (seqEnc ls ts (k + 1) = seqEnc ls ts k ++ seqA ls k ++ seqB ts k) := rfl
      have HBr := Lib.hid hB
      have HK := Lib.hid hlt
      generalize seqEnc ls ts k = S at *
      generalize seqA ls k = A at *
      generalize seqB ts k = B at *
      generalize numZ (ls k) = m at *
      clear hB hk hlt
      go_wp2_with fail
      refine (hN.out _).mono ?_; rintro e w2 ⟨rfl, hR⟩
      go_wp2_with fail
      refine (hP.out _).mono ?_; rintro e w3 ⟨rfl, hB3⟩
      replace hR := belowStep hR hB3; clear hB3
      have hts := (HC2.out k (by omega)).2
      have hcell2 : w3.cell? ⟨b2, o2 + k, none⟩ = some (.string (ts k)) := (hR.cell (p := ⟨b2, o2 + k, none⟩) (Nat.lt_of_lt_of_le hb2 HBr.out.size)).trans ((HBr.out.cell (p := ⟨b2, o2 + k, none⟩) hb2).trans (HC2.out k (by omega)).1)
      have hm3 := min_int (ts k).size 100
      have hn3 : min (ts k).size 100 ≤ (ts k).size := by omega
      simp only [Int.cast_ofNat_Int] at hm3
      generalize ts k = t at *
      generalize min t.size 100 = nt at *
      have hn3' : (nt : Int) ≤ t.size := by omega
      have HR := Lib.hid hR
      clear hR
      go_wp2_with fail
      go_region_held3 (fun w' => w'.cell? ⟨b2, o2 + k, none⟩ = some (.string t)) (go_keep)
        (first | (go_at_call 19; refine (hQ.out _ ?_).mono ?_; (simp [*]); rintro e w' ⟨rfl, hB4, hc4⟩))
      have hBn := Lib.hid (belowStep (below_drewN (belowStep HBr.out HR.out) _) hB4)
      clear hB4 hc4 hcell hcell2
      have hA9' : (A.size : Int) ≤ 9 := by omega
      have hB9' : (B.size : Int) ≤ 109 := by omega
      have hS9' : (S.size : Int) ≤ 3000 := by omega
      go_wp2_with fail
      go_roundw
      case rel => exact ⟨k + 1, HK.out, by go_num, by rw [hsucc.out], hBn.out⟩
      case measure => simp [intOf]; have := HK.out; omega
    · obtain rfl : k = n := by omega
      have hk' : (k : Int) ≤ k := by omega
      clear hlt hk HB
      have HBr := Lib.hid hB
      clear hB
      go_wp2_with fail
      obtain ⟨wo, rfl⟩ : ∃ wo : World, wo = wr := ⟨_, rfl⟩
      go_loopw [13, 14] (fun av i wr => ∃ j : Nat, j ≤ k ∧ i = .int .i64 j ∧ av = .int .i64 ((seqEnc ls ts j).size : Int) ∧ Below w.heap.size w wr) (fun _ i _ => k - (intOf i).toNat)
      case atStart => exact ⟨0, Nat.zero_le _, rfl, rfl, HBr.out⟩
      case round =>
        obtain ⟨j, hj, rfl, rfl, hB⟩ := hrel
        by_cases hlt : j < k
        · have hlt' : (j : Int) < k := by omega
          have hk1 : (j : Int) < len1 := by omega
          have hk2 : (j : Int) < len2 := by omega
          have hI := Lib.hid (fun w => seq_int ls ts hlt hn20 w)
          have hU : Hid (∀ w, Calls Tryd.prog 17 #[.string (seqEnc ls ts k), .int .i64 ((seqEnc ls ts j ++ seqA ls j).size : Int)] w fun e w' => e = .returned (.tuple #[.string ((ts j).extract 0 (min (ts j).size 100)), .int .i64 ((seqEnc ls ts (j + 1)).size : Int), .int .i64 0]) ∧ Below w.heap.size w w') := fun w => seq_str ls ts hlt hn20 w
          have hN : Hid (∀ w, w.cell? ⟨b1, o1 + j, none⟩ = some (.int .i64 (ls j)) → w.cell? ⟨b2, o2 + j, none⟩ = some (.string (ts j)) → Calls Tryd.prog 11 #[.int .i64 (ls j)] w fun e W' => e = .returned (.int .i64 (numZ (ls j))) ∧ Below w.heap.size w W' ∧ W'.cell? ⟨b1, o1 + j, none⟩ = some (.int .i64 (ls j)) ∧ W'.cell? ⟨b2, o2 + j, none⟩ = some (.string (ts j))) :=
            fun w h1 h2 => (NumberFrom_any (ls j) w (HC1.out j (by omega)).2.1 (HC1.out j (by omega)).2.2).mono fun e w' ⟨a1, a2⟩ => ⟨a1, a2, (a2.cell (p := ⟨b1, o1 + j, none⟩) (block_lt h1)).trans h1, (a2.cell (p := ⟨b2, o2 + j, none⟩) (block_lt h2)).trans h2⟩
          have HBr2 := Lib.hid hB
          have HK := Lib.hid hlt
          have hm3 := min_int (ts j).size 100
          have hn3 : min (ts j).size 100 ≤ (ts j).size := by omega
          have hts := (HC2.out j (by omega)).2
          simp only [Int.cast_ofNat_Int] at hm3
          generalize hsj : (seqEnc ls ts (j + 1)).size = sj1 at *
          generalize (seqEnc ls ts j ++ seqA ls j).size = sa at *
          generalize (seqEnc ls ts j).size = sj at *
          have HSJ := Lib.hid hsj
          generalize seqEnc ls ts k = S at *
          generalize numZ (ls j) = m at *
          generalize min (ts j).size 100 = nt at *
          have hn3' : (nt : Int) ≤ (ts j).size := by omega
          clear hB hlt hj hsj
          go_wp2_with fail
          refine (hI.out _).mono ?_; rintro e w' ⟨rfl, rfl⟩
          go_wp2_with fail
          refine (hU.out _).mono ?_; rintro e w3 ⟨rfl, hR⟩
          have hcell1 : w3.cell? ⟨b1, o1 + j, none⟩ = some (.int .i64 (ls j)) := (hR.cell (p := ⟨b1, o1 + j, none⟩) (Nat.lt_of_lt_of_le hb1 HBr2.out.size)).trans ((HBr2.out.cell (p := ⟨b1, o1 + j, none⟩) hb1).trans (HC1.out j (by omega)).1)
          have hcell2 : w3.cell? ⟨b2, o2 + j, none⟩ = some (.string (ts j)) := (hR.cell (p := ⟨b2, o2 + j, none⟩) (Nat.lt_of_lt_of_le hb2 HBr2.out.size)).trans ((HBr2.out.cell (p := ⟨b2, o2 + j, none⟩) hb2).trans (HC2.out j (by omega)).1)
          generalize ts j = t at *
          generalize ls j = lj at *
          have HR := Lib.hid hR
          clear hR
          go_wp2_with fail
          go_region_held3 (fun w' => w'.cell? ⟨b1, o1 + j, none⟩ = some (.int .i64 lj) ∧ w'.cell? ⟨b2, o2 + j, none⟩ = some (.string t)) (go_keep)
            (first | (go_at_call 11; refine (hN.out _ ?_ ?_).mono ?_; (simp [*]); (simp [*]); rintro e w' ⟨rfl, hB4, hc4, hc5⟩))
          have hBn := Lib.hid (belowStep (below_drewN (belowStep HBr2.out HR.out) _) hB4)
          clear hB4 hc4 hc5 hcell1 hcell2
          go_wp2_with fail
          go_roundw
          case rel => exact ⟨j + 1, HK.out, by go_num, by rw [HSJ.out], hBn.out⟩
          case measure => simp [intOf]; have := HK.out; omega
        · obtain rfl : j = k := by omega
          have hj' : (j : Int) ≤ j := by omega
          have hE := Lib.hid (fun w => seq_end ls ts hn20 w)
          have hS9 : ((seqEnc ls ts j).size : Int) ≤ 3000 := by have := seqEnc_size ls ts j; omega
          generalize seqEnc ls ts j = S at *
          have HBr2 := Lib.hid hB
          clear hB hj hlt
          go_wp2_with fail
          refine (hE.out _).mono ?_; rintro e w' ⟨rfl, rfl⟩
          go_wp2_with fail
          go_ret
          exact ⟨rfl, HBr2.out⟩
set_option maxRecDepth 100000 in
set_option maxHeartbeats 2000000 in
/-- Where one of the lists is empty, or nil. -/
theorem Sequence_zero (a1 a2 : Option Addr) (len1 cap1 len2 cap2 : Nat) (w : World) (h : len1 = 0 ∨ len2 = 0) (hT : TabAt w) :
    Calls Tryd.prog 6 #[.slice a1 len1 cap1, .slice a2 len2 cap2] w fun e w' => e = .returned (.bool true) ∧ Below w.heap.size w w' := by
  have HT := Lib.hid hT
  have hmin := run_min3 len1 len2 20
  simp only [Int.cast_ofNat_Int] at hmin
  obtain ⟨n, hn⟩ : ∃ n, n = min (min len1 len2) 20 := ⟨_, rfl⟩
  rw [← hn] at hmin
  have hn0 : (n : Int) ≤ 0 := by omega
  have hE := Lib.hid (fun w => Int_none ⟨#[]⟩ 0 w (by decide) (by decide) rfl)
  clear hn h hT
  go_enter Tryd.func6, Tryd.ntmps6
  go_wp2_with fail
  refine (sane_any _ HT.out).mono ?_; rintro e w1 ⟨rfl, hB⟩
  go_wp2_with fail
  have HB := Lib.hid hB
  clear hB hmin
  go_loop [7, 8] (fun sv i => i = .int .i64 0 ∧ sv = .string ⟨#[]⟩) (fun _ _ => 0)
  case atStart => exact ⟨rfl, rfl⟩
  case round =>
    obtain ⟨rfl, rfl⟩ := hrel
    go_wp2_with fail
    go_loop [13, 14] (fun av i => i = .int .i64 0 ∧ av = .int .i64 0) (fun _ _ => 0)
    case atStart => exact ⟨rfl, rfl⟩
    case round =>
      obtain ⟨rfl, rfl⟩ := hrel
      go_wp2_with fail
      refine (hE.out _).mono ?_; rintro e w' ⟨rfl, rfl⟩
      go_wp2_with fail
      go_ret
      exact ⟨rfl, HB.out⟩
end Go.Proofs.YtlnbipldbbdnmaaDoor
