/- Several texts of layers 7 and 8, one behind the other: WirePutInt, WireInt, UntNum, UntDec, UntShape, UntStands, UntMove. -/
import Derived.RangeFuncFrom
import Derived.Lib.Hide
import Derived.Laws.BytesArg
import Derived.Defers
import Derived.Recover
import Derived.Test.YtcamncipkofgkaaDoorUM6
/- WirePutInt: The contract of PutInt. -/
namespace Go.Proofs.YtcamncipkofgkaaDoor
open Go.RowKit Go.Shelf Putlog
attribute [local go_sem] Oper.semAt_some

set_option maxHeartbeats 400000 in
theorem groups_any (z : Int) (w : World) :
    Calls Tryd.prog 109 #[.int .u64 z] w fun e w' => e = .returned (.func (.func 112) #[] #[.pointer (some ⟨w.heap.size, 0, none⟩)]) ∧ w' = w.alloc (.cells #[.int .u64 z] 133) := by
  go_enter Tryd.func109, Tryd.ntmps109
  go_wp2
  go_ret
  exact ⟨rfl, rfl⟩

theorem cell_new_l (W : World) (v : Value) (t : TypeId) : (W.alloc (.cells #[v] t)).cell? ⟨W.heap.size, 0, none⟩ = some v ∧ (W.alloc (.cells #[v] t)).frozen? ⟨W.heap.size, 0, none⟩ = false := ⟨by rw [World.cell?_alloc_new]; rfl, World.frozen?_alloc_new ..⟩
theorem cell_alloc_l {W : World} {a : Addr} {v : Value} (o : Obj) (h : W.cell? a = some v) : (W.alloc o).cell? a = some v := cell_kept h (World.grownBy_alloc W o none) (fun r e => by cases e)
theorem frozen_alloc_l {W : World} {a : Addr} {v : Value} (o : Obj) (h : W.cell? a = some v) (hf : W.frozen? a = false) : (W.alloc o).frozen? a = false := (frozen_kept h (World.grownBy_alloc W o none) (fun r e => by cases e)).trans hf
/-- What the nine cells hold after the bytes pre. -/
def Nine (b : Nat) (pre : List Int) (W : World) : Prop := ∀ i, i < 9 → W.cell? ⟨b, 0 + i, none⟩ = some (.int .u8 (pre.getD i 0)) ∧ W.frozen? ⟨b, 0 + i, none⟩ = false

theorem Nine.alloc {b : Nat} {pre : List Int} {W : World} (h : Nine b pre W) (o : Obj) : Nine b pre (W.alloc o) :=
  fun i hi => ⟨cell_alloc_l _ (h i hi).1, frozen_alloc_l _ (h i hi).1 (h i hi).2⟩
theorem nine_new (w : World) (t : TypeId) : Nine w.heap.size [] (w.alloc (.cells #[.int .u8 0, .int .u8 0, .int .u8 0, .int .u8 0, .int .u8 0, .int .u8 0, .int .u8 0, .int .u8 0, .int .u8 0] t)) := by
  intro i hi
  refine ⟨?_, World.frozen?_alloc_new ..⟩
  rw [World.cell?_alloc_new]
  match i, hi with
  | 0, _ | 1, _ | 2, _ | 3, _ | 4, _ | 5, _ | 6, _ | 7, _ | 8, _ => rfl

theorem getD_snoc (pre : List Int) (x : Int) (i : Nat) : (pre ++ [x]).getD i 0 = if i = pre.length then x else pre.getD i 0 := by
  simp only [List.getD_eq_getElem?_getD, List.getElem?_append]
  split
  · rw [if_neg (by omega)]
  · split
    · subst i; simp
    · rw [List.getElem?_eq_none (l := [x]) (by simp; omega), List.getElem?_eq_none (l := pre) (by omega)]
theorem Nine.snoc {b : Nat} {pre : List Int} {W : World} (h : Nine b pre W) (x : Int) (_ : pre.length < 9) : Nine b (pre ++ [x]) (W.setCell ⟨b, pre.length, none⟩ (.int .u8 x)) := by
  intro i hi
  refine ⟨?_, by rw [World.frozen?_setCell]; exact (h i hi).2⟩
  rw [getD_snoc]
  by_cases e : i = pre.length
  · subst e
    rw [if_pos rfl, Nat.zero_add]
    have := (h _ hi).1
    rw [Nat.zero_add] at this
    exact World.cell?_setCell_same' _ _ _ (by rw [this]; rfl)
  · rw [if_neg e, World.cell?_setCell_other _ _ _ _ (fun h => e (by have := congrArg Addr.off h; simp at this; exact this.symm))]
    exact (h i hi).1
theorem Nine.far {b : Nat} {pre : List Int} {W : World} (h : Nine b pre W) (b' o : Nat) (v : Value) (hb : b' ≠ b) : Nine b pre (W.setCell ⟨b', o, none⟩ v) :=
  fun i hi => ⟨by rw [World.cell?_setCell_other _ _ _ _ (fun h => hb (congrArg Addr.block h))]; exact (h i hi).1, by rw [World.frozen?_setCell]; exact (h i hi).2⟩

set_option maxRecDepth 100000 in
set_option maxHeartbeats 2000000 in
theorem PutInt_in (c : Int) (w : World) (hc1 : -4611686018427387903 ≤ c) (hc2 : c ≤ 4611686018427387903) :
    CallsIn Fence.wide 5 Tryd.prog 106 #[.int .i64 c] w fun e W' => e = .returned (.tuple #[.string (strOfNums (lebI (zig c))), .int .i64 0]) ∧ Below w.heap.size w W' := by
  have hd1 : decide (c < -4611686018427387903) = false := by simpa using hc1
  have hd2 : decide (4611686018427387903 < c) = false := by simpa using hc2
  refine callsIn_of_wp_marks Tryd.func106 rfl trivial ?_ rfl
  simp only [Tryd.ntmps106, List.size_toArray, List.length_cons, List.length_nil, Nat.reduceAdd, Nat.reduceSub, Array.replicate_succ, Array.replicate_zero, List.push_toArray, List.append_toArray, List.nil_append, List.cons_append]
  gi_wp2_with fail
  refine ⟨trivial, ?_⟩
  refine (callsIn_wide.2 (fold_any c _ hc1 hc2)).mono ?_
  rintro e w1 ⟨rfl, rfl⟩
  gi_wp2_with fail
  refine ⟨trivial, ?_⟩
  refine (callsIn_wide.2 (groups_any _ _)).mono ?_
  rintro e w1 ⟨rfl, rfl⟩
  gi_wp2_with fail
  obtain ⟨w0, hw0⟩ : ∃ w0 : World, w0 = (((w.alloc (.cells #[.int .u8 0, .int .u8 0, .int .u8 0, .int .u8 0, .int .u8 0, .int .u8 0, .int .u8 0, .int .u8 0, .int .u8 0] 150)).alloc (.cells #[.int .i64 0] 3)).alloc (.cells #[.int .u64 ↑(zig c)] 133)) := ⟨_, rfl⟩
  have hsz : w0.heap.size = w.heap.size + 1 + 1 + 1 := by rw [hw0, World.size_alloc, World.size_alloc, World.size_alloc]
  have hz : w0.cell? ⟨w.heap.size + 1 + 1, 0, none⟩ = some (.int .u64 ↑(zig c)) := by
    have := cell_new_l ((w.alloc (.cells #[.int .u8 0, .int .u8 0, .int .u8 0, .int .u8 0, .int .u8 0, .int .u8 0, .int .u8 0, .int .u8 0, .int .u8 0] 150)).alloc (.cells #[.int .i64 0] 3)) (.int .u64 ↑(zig c)) 133
    rw [World.size_alloc, World.size_alloc] at this
    rw [hw0]
    exact this.1
  have h90 : Nine w.heap.size [] w0 := by rw [hw0]; exact ((nine_new w _).alloc _).alloc _
  have hk0 : w0.cell? ⟨w.heap.size + 1, 0, none⟩ = some (.int .i64 0) ∧ w0.frozen? ⟨w.heap.size + 1, 0, none⟩ = false := by
    rw [hw0]
    have := cell_new_l (w.alloc (.cells #[.int .u8 0, .int .u8 0, .int .u8 0, .int .u8 0, .int .u8 0, .int .u8 0, .int .u8 0, .int .u8 0, .int .u8 0] 150)) (.int .i64 0) 3
    rw [World.size_alloc] at this
    exact ⟨cell_alloc_l _ this.1, frozen_alloc_l _ this.1 this.2⟩
  have hB0 : Below w.heap.size w w0 := by rw [hw0]; exact ((((Below.refl _ w).alloc (Nat.le_refl _) _).alloc (by simp) _).alloc (by rw [World.size_alloc, World.size_alloc]; omega) _)
  rw [← hw0]
  refine wpIn_rangeFunc_ownF rfl (by omega) (gf := 112) (lb := #[.pointer (some ⟨w.heap.size + 1 + 1, 0, none⟩)]) rfl trivial (enters_of Tryd.func112 (by kernel_rfl) rfl)
    (groups1_stops Fence.wide 4 trivial rfl (by omega) (w.heap.size + 1 + 1) (zig c) (zig_lt hc1 hc2) w0 (by omega) hz) walksK_t walksK_b (Below.refl _ _) (fun _ => rfl)
    (fun pre W => (Nine w.heap.size pre W ∧ W.cell? ⟨w.heap.size + 1, 0, none⟩ = some (.int .i64 pre.length) ∧ W.frozen? ⟨w.heap.size + 1, 0, none⟩ = false) ∧ Below w.heap.size w W)
    (fun _ _ _ => False)
    (OwnFrom.and (Own.from (fun s A B row hs hg hr => ⟨fun i hi => ⟨cell_kept (hs.1 i hi).1 hg hr, (frozen_kept (hs.1 i hi).1 hg hr).trans (hs.1 i hi).2⟩, cell_kept hs.2.1 hg hr, (frozen_kept hs.2.1 hg hr).trans hs.2.2⟩) _) (ownFrom_below (Nat.le_refl _) (by omega)))
    (fun _ _ _ _ _ hs _ _ => hs)
    ⟨⟨h90, hk0⟩, hB0⟩
    (fun x => { tmps := #[.int .i64 c, undef, .string { data := #[] }, .int .i64 0, .pointer (some ⟨w.heap.size, 0, none⟩), .pointer (some ⟨w.heap.size + 1, 0, none⟩), .int .u8 x, .int .i64 c, .bool false, .bool false, .int .i64 c, .bool false, .bool false, .int .i64 c,
      .int .u64 ↑(zig c), .func (.func 112) #[] #[.pointer (some ⟨w.heap.size + 1 + 1, 0, none⟩)], .int .u8 x, undef, undef, undef, undef, undef, undef, undef, undef], defers := [] }) ?assign ?body ?done ?stop
  case assign =>
    intro l x W K hK
    gi_wp2
    exact hK
  case body =>
    rintro l pre x W ⟨⟨h9, hk, hkf⟩, hB⟩ hlt
    have hx1 : W.cell? ⟨w.heap.size, pre.length, none⟩ = some (.int .u8 0) := by
      have := (h9 pre.length hlt).1
      rw [Nat.zero_add] at this
      rw [this]; simp
    have hx2 : W.frozen? ⟨w.heap.size, pre.length, none⟩ = false := by
      have := (h9 pre.length hlt).2
      rwa [Nat.zero_add] at this
    have hl9 : (pre.length : Int) < 9 := by omega
    clear hw0 hz h90 hk0 hB0
    gi_wp2
    refine ⟨(KeepsOthers.setCell _ _ _).trans (KeepsOthers.setCell _ _ _), ((KeepsOthers.setCell _ _ _).trans (KeepsOthers.setCell _ _ _)).walks,
      ⟨(h9.snoc x hlt).far _ _ _ (by omega), ?_, by rw [World.frozen?_setCell, World.frozen?_setCell]; exact hkf⟩,
      (hB.setCell (p := ⟨w.heap.size, pre.length, none⟩) (Nat.le_refl _) _).setCell (p := ⟨w.heap.size + 1, 0, none⟩) (by simp) _⟩
    rw [World.cell?_setCell_same' _ _ _ (by rw [World.cell?_setCell_other _ _ _ _ (by simp), hk]; rfl)]
    simp
  case done =>
    rintro D ys W hD rfl ⟨⟨h9, hk, hkf⟩, hB⟩ hK
    have hl9 := leb_len_le 8 (zig c) (by have := zig_lt hc1 hc2; omega)
    rw [← lebI_len] at hl9
    have hl : ((lebI (zig c)).length : Int) ≤ 9 := by omega
    have hconv := run_convert_bytes_arg (P := Tryd.prog) W 60 5 Tryd.underlying60 Tryd.underlying5 w.heap.size 0 (lebI (zig c)).length 9 (lebI (zig c)) rfl (fun i hi => (h9 i (by omega)).1) 9 Tryd.underlying9
    clear hw0 hz h90 hk0 hB0 hl9
    gi_wp2
    refine ⟨by simp, .inl ⟨_, _, rfl, run_takeDeferred hK, ?_⟩⟩
    exact ⟨_, results_tmp2 rfl _ _ _, rfl, hB.trans (belowK_b (w := w) (Nat.le_refl _) W D _ _ (by omega) hK rfl rfl)⟩
  case stop =>
    rintro D c pre W _ _ h _
    exact h.elim
theorem strOfNums_lebI (z : Nat) : strOfNums (lebI z) = ⟨(leb z).toArray⟩ := by
  unfold strOfNums
  rw [lebI_eq, List.map_map]
  congr 2
  conv => rhs; rw [← List.map_id (leb z)]
  apply List.map_congr_left
  intro x _
  simp

/-- PutInt, within its range: the encoding. -/
theorem PutInt_ok (c : Int) (w : World) (hc1 : -4611686018427387903 ≤ c) (hc2 : c ≤ 4611686018427387903) :
    Calls Tryd.prog 106 #[.int .i64 c] w fun e W' => e = .returned (.tuple #[.string ⟨(enc c).toArray⟩, .int .i64 0]) ∧ Below w.heap.size w W' := by
  have := callsIn_wide.1 (PutInt_in c w hc1 hc2)
  rw [strOfNums_lebI] at this
  exact this
set_option maxHeartbeats 400000 in
/-- PutInt, out of its range. -/
theorem PutInt_no (c : Int) (w : World) (h : c < -4611686018427387903 ∨ 4611686018427387903 < c) :
    Calls Tryd.prog 106 #[.int .i64 c] w fun e w' => e = .returned (.tuple #[.string ⟨#[]⟩, .int .i64 10]) ∧ w = w' := by
  rcases h with h | h
  · go_enter Tryd.func106, Tryd.ntmps106
    go_wp2
    go_ret2
    exact ⟨rfl, rfl⟩
  · go_enter Tryd.func106, Tryd.ntmps106
    go_wp2
    go_ret2
    exact ⟨rfl, rfl⟩
end Go.Proofs.YtcamncipkofgkaaDoor
/- WireInt: The contract of Int. -/
namespace Go.Proofs.YtcamncipkofgkaaDoor
open Go.RowKit Putlog

/-- What Int hands back at an offset of s. -/
def intEnd (l : List UInt8) (p : Nat) : Ending := match dec 0 0 (l.drop p) with
  | none => .returned (.tuple #[.int .i64 0, .int .i64 0, .int .i64 10])
  | some (z, k) => .returned (.tuple #[.int .i64 (zag z), .int .i64 ((p + k : Nat) : Int), .int .i64 0])

theorem wraps_u64 (n : Int) (h0 : 0 ≤ n) (h1 : n < 2 ^ 64) : IntKind.u64.wrap n = n := by
  simp only [IntKind.wrap, IntKind.bits, IntKind.signed]
  simp
  omega
theorem pow128 (k : Nat) : 128 ^ k = 2 ^ (7 * k) := by rw [Nat.pow_mul]
theorem dig_lt {b k : Nat} (hk : k ≤ 8) : b % 128 * 2 ^ (7 * k) < 2 ^ 63 := by
  have h1 : 2 ^ (7 * k) ≤ 2 ^ 56 := Nat.pow_le_pow_right (by omega) (by omega)
  have h2 : b % 128 * 2 ^ (7 * k) ≤ 127 * 2 ^ 56 := Nat.mul_le_mul (by omega) h1
  omega
theorem or_step {z b k : Nat} (hz : z < 128 ^ k) (hk : k ≤ 8) : bits .or .u64 (z : Int) (IntKind.u64.wrap ((b : Int) % 128 * 2 ^ (7 * k))) = ((z + b % 128 * 128 ^ k : Nat) : Int) := by
  have h0 := dig_lt (b := b) hk
  have h1 : 2 ^ (7 * k) ≤ 2 ^ 56 := Nat.pow_le_pow_right (by omega) (by omega)
  rw [pow128] at hz
  have e : ((b : Int) % 128 * 2 ^ (7 * k)) = ((b % 128 * 2 ^ (7 * k) : Nat) : Int) := by simp
  rw [e, wraps_u64 _ (by omega) (by omega), (bits_nat .u64 64 (by decide) wraps_u64 z (b % 128 * 2 ^ (7 * k)) (by omega) (by omega)).2, pow128]
  congr 1
  rw [Nat.mul_comm, Nat.or_comm, ← Nat.two_pow_add_eq_or_of_lt hz, Nat.add_comm]
theorem step_lt {z b k : Nat} (hz : z < 128 ^ k) : z + b % 128 * 128 ^ k < 128 ^ (k + 1) := by
  have : b % 128 * 128 ^ k ≤ 127 * 128 ^ k := Nat.mul_le_mul_right _ (by omega)
  rw [Nat.pow_succ]; omega
theorem ret3 {a a' b b' c : Int} (h1 : a = a') (h2 : b = b') : Ending.returned (.tuple #[.int .i64 a, .int .i64 b, .int .i64 c]) = .returned (.tuple #[.int .i64 a', .int .i64 b', .int .i64 c]) := by rw [h1, h2]
theorem byte_pos {z b k y : Nat} (hz : z < 128 ^ k) (hy : y = z + b % 128 * 128 ^ k) (h : 9223372036854775806 < y) (hk : k < 9) : b ≠ 0 := by
  rintro rfl
  have h1 : 128 ^ k ≤ 128 ^ 8 := Nat.pow_le_pow_right (by omega) (by omega)
  simp at hy
  omega
theorem dec_end (i z : Nat) : dec i z [] = none := rfl
theorem dec_nine (z : Nat) : ∀ l, dec 9 z l = none
  | [] => rfl
  | _ :: _ => by simp [dec]
theorem drop_byte (s : ByteArray) (i : Nat) (h : i < s.size) : s.data.toList.drop i = s[i] :: s.data.toList.drop (i + 1) :=
  List.drop_eq_getElem_cons (by simpa using h)
theorem dec_more {k z b : Nat} {x : UInt8} {l : List UInt8} (hk : k < 9) (hx : x.toNat = b) (hb : 128 ≤ b) : dec k z (x :: l) = dec (k + 1) (z + b % 128 * 128 ^ k) l := by
  subst hx; rw [dec, if_neg (by omega), if_pos hb]
theorem dec_bad {k z b : Nat} {x : UInt8} {l : List UInt8} (hk : k < 9) (hx : x.toNat = b) (hb : b < 128) (h : (b = 0 ∧ 0 < k) ∨ 9223372036854775806 < z + b % 128 * 128 ^ k) : dec k z (x :: l) = none := by
  subst hx; rw [dec, if_neg (by omega), if_neg (by omega), if_pos h]
theorem dec_last {k z b : Nat} {x : UInt8} {l : List UInt8} (hk : k < 9) (hx : x.toNat = b) (hb : b < 128) (h : ¬ ((b = 0 ∧ 0 < k) ∨ 9223372036854775806 < z + b % 128 * 128 ^ k)) : dec k z (x :: l) = some (z + b % 128 * 128 ^ k, k + 1) := by
  subst hx; rw [dec, if_neg (by omega), if_neg (by omega), if_neg h]
theorem intEnd_none {l : List UInt8} {p : Nat} (h : dec 0 0 (l.drop p) = none) : intEnd l p = .returned (.tuple #[.int .i64 0, .int .i64 0, .int .i64 10]) := by unfold intEnd; rw [h]
theorem intEnd_some {l : List UInt8} {p z k : Nat} (h : dec 0 0 (l.drop p) = some (z, k)) : intEnd l p = .returned (.tuple #[.int .i64 (zag z), .int .i64 ((p + k : Nat) : Int), .int .i64 0]) := by unfold intEnd; rw [h]

set_option maxRecDepth 100000 in
set_option maxHeartbeats 1000000 in
theorem Int_at (s : ByteArray) (p : Nat) (w : World) (hs : s.size ≤ 9223372036854775807) (hp : p ≤ s.size) :
    Calls Tryd.prog 107 #[.string s, .int .i64 p] w fun e w' => e = intEnd s.data.toList p ∧ w = w' := by
  have hp0 : (p : Int) ≤ s.size := by omega
  have hs0 : (s.size : Int) ≤ 9223372036854775807 := by omega
  have hd1 : decide ((p : Int) < 0) = false := by simp
  have hd2 : decide (s.size < p) = false := by simpa using hp
  clear hs
  by_cases hm : 9 ≤ (s.size : Int) - p
  all_goals
    go_enter Tryd.func107, Tryd.ntmps107
    go_wp2
    go_loop [7, 24] (fun zz i => ∃ k z : Nat, k ≤ 9 ∧ p + k ≤ s.size ∧ i = .int .i64 k ∧ zz = .int .u64 z ∧ z < 128 ^ k ∧ dec 0 0 (s.data.toList.drop p) = dec k z (s.data.toList.drop (p + k))) (fun _ i => 9 - (intOf i).toNat)
    case atStart => exact ⟨0, 0, by omega, by omega, rfl, rfl, by omega, rfl⟩
    case round =>
      obtain ⟨k, z, hk9, hpk, rfl, rfl, hz, hdec⟩ := hrel
      by_cases hlt : k < 9 ∧ p + k < s.size
      · obtain ⟨h1, h2⟩ := hlt
        rw [drop_byte s (p + k) h2] at hdec
        obtain ⟨y, hy⟩ : ∃ y : Nat, y = z + s[p+k].toNat % 128 * 128 ^ k := ⟨_, rfl⟩
        have hor := or_step (b := s[p+k].toNat) hz (by omega : k ≤ 8)
        have hstep := step_lt (b := s[p+k].toNat) hz
        rw [← hy] at hor hstep
        have HD := Lib.hid hdec
        have HY := Lib.hid hy
        have HS := Lib.hid hstep
        have HZ := Lib.hid hz
        have h1k := Lib.hid h1
        have h1' : (k : Int) < 9 := by omega
        have h2' : (p : Int) + k < s.size := by omega
        clear hz hdec hy hstep hk9 hpk
        by_cases hb : 128 ≤ s[p+k].toNat
        · have hb' : 128 ≤ (s[p+k].toNat : Int) := by omega
          have HD2 := Lib.hid (HD.out.trans (dec_more h1 rfl hb))
          rw [← HY.out] at HD2
          have H1 := Lib.hid h1
          clear hb HD h1
          go_wp2
          go_round
          case rel => exact ⟨k + 1, y, by have := H1.out; omega, by omega, by go_num, rfl, HS.out, HD2.out⟩
          case measure => simp [intOf]; omega
        · have hb' : (s[p+k].toNat : Int) < 128 := by omega
          by_cases hbad : (s[p+k].toNat = 0 ∧ 0 < k) ∨ 9223372036854775806 < y
          · have hE := intEnd_none (HD.out.trans (dec_bad h1 rfl (by omega) (by rw [HY.out] at hbad; exact hbad)))
            have HE := Lib.hid hE
            clear hE HD h1 hb
            rcases hbad with ⟨hb0, hk0⟩ | hy
            · have hb1 : ((s[p+k].toNat : Int) == 0) = true := by simp [hb0]
              have hk1 : 0 < (k : Int) := by omega
              clear hb0 hk0
              go_wp2
              go_ret3
              exact ⟨HE.out.symm, rfl⟩
            · have hy1 : 9223372036854775806 < (y : Int) := by omega
              have hb1 : ((s[p+k].toNat : Int) == 0) = false := by
                have := byte_pos HZ.out HY.out hy h1k.out
                simp; omega
              clear hy
              go_wp2
              go_ret3
              exact ⟨HE.out.symm, rfl⟩
          · have hE := intEnd_some (HD.out.trans (dec_last h1 rfl (by omega) (by rw [HY.out] at hbad; exact hbad)))
            rw [← HY.out] at hE
            have HE := Lib.hid hE
            have hy1 : (y : Int) ≤ 9223372036854775806 := by omega
            have hy0 : 0 ≤ (y : Int) := by omega
            by_cases hb0 : s[p+k].toNat = 0
            · have hk0 : (k : Int) ≤ 0 := by omega
              have hb1 : ((s[p+k].toNat : Int) == 0) = true := by simp [hb0]
              clear hb0 hE HD HY h1 hb hbad
              go_wp2_with (go_at_call 111; refine (unfold_any _ _ (by omega) (by omega)).mono ?_; rintro e w' ⟨rfl, rfl⟩)
              go_ret3
              exact ⟨by rw [HE.out]; exact ret3 (by simp) (by omega), rfl⟩
            · have hb1 : ((s[p+k].toNat : Int) == 0) = false := by simp; omega
              clear hb0 hE HD HY h1 hb hbad
              go_wp2_with (go_at_call 111; refine (unfold_any _ _ (by omega) (by omega)).mono ?_; rintro e w' ⟨rfl, rfl⟩)
              go_ret3
              exact ⟨by rw [HE.out]; exact ret3 (by simp) (by omega), rfl⟩
      · have hE := intEnd_none (l := s.data.toList) (p := p) (by
          rw [hdec]
          by_cases h9 : k = 9
          · subst h9; exact dec_nine _ _
          · rw [List.drop_eq_nil_of_le (by simp; omega)]; rfl)
        have HE := Lib.hid hE
        clear hE hdec hz
        have hlt' : 9 ≤ (k : Int) ∨ (s.size : Int) - p ≤ k := by omega
        first
          | (have hlt2 : 9 ≤ (k : Int) := by omega
             clear hlt hlt'
             go_wp2
             go_ret3
             exact ⟨HE.out.symm, rfl⟩)
          | (have hlt2 : (s.size : Int) - p ≤ k := by omega
             clear hlt hlt'
             go_wp2
             go_ret3
             exact ⟨HE.out.symm, rfl⟩)
end Go.Proofs.YtcamncipkofgkaaDoor
/- UntNum: The contract of builder.numbers. -/
namespace Unt
open Putlog
def encs : List Int → List UInt8
  | [] => []
  | n :: l => enc n ++ encs l
theorem encs_app : ∀ a b : List Int, encs (a ++ b) = encs a ++ encs b
  | [], _ => rfl
  | n :: a, b => by simp [encs, encs_app a b]
/-- What can be encoded. -/
def EncOk (l : List Int) : Prop := ∀ n ∈ l, -4611686018427387903 ≤ n ∧ n ≤ 4611686018427387903
theorem encs_len : ∀ {l : List Int}, EncOk l → (encs l).length ≤ 9 * l.length
  | [], _ => by simp [encs]
  | n :: l, h => by
    have := encs_len (l := l) (fun x hx => h x (by simp [hx]))
    have := enc_len_le (h n (by simp)).1 (h n (by simp)).2
    simp [encs]; omega
end Unt
namespace Go.Proofs.YtcamncipkofgkaaDoor
open Go.RowKit Go.Shelf Pln Unt Putlog
/-- A box that holds a text. -/
def TBox (w : World) (b : Nat) (t : TypeId) (s : List UInt8) : Prop := w.heap[b]? = some (.cells #[.string ⟨s.toArray⟩] t (0, 0))
theorem TBox.c0 {w : World} {b : Nat} {t : TypeId} {s : List UInt8} (h : TBox w b t s) : w.cell? ⟨b, 0, none⟩ = some (.string ⟨s.toArray⟩) := cell_heap h rfl
theorem TBox.f0 {w : World} {b : Nat} {t : TypeId} {s : List UInt8} (h : TBox w b t s) : w.frozen? ⟨b, 0, none⟩ = false := frozen_of_row _ _ 0 _ _ h
theorem TBox.via {w w' : World} {b : Nat} {t : TypeId} {s : List UInt8} (h : TBox w b t s) (hB : Below w.heap.size w w') : TBox w' b t s := heap_below hB h
theorem TBox.set {w : World} {b : Nat} {t : TypeId} {s : List UInt8} (h : TBox w b t s) (s' : List UInt8) : TBox (w.setCell ⟨b, 0, none⟩ (.string ⟨s'.toArray⟩)) b t s' := by
  have := heap_setCell_same w b 0 _ _ (.string ⟨s'.toArray⟩) h
  exact this
def IntsIn (w : World) (g o : Nat) (l : List Int) : Prop := ∀ j, j < l.length → w.cell? ⟨g, o + j, none⟩ = some (.int .i64 (l.getD j 0))
/-- Nothing but a box has turned, of what lay. -/
structure ButB (b : Nat) (w w' : World) : Prop where
  g : w.grownBy w' (some b)
theorem ButB.size {b : Nat} {w w' : World} (h : ButB b w w') : w.heap.size ≤ w'.heap.size := h.g.size
theorem butRefl (b : Nat) (w : World) : ButB b w w := ⟨⟨rfl, rfl, rfl, Nat.le_refl _, fun _ _ _ => rfl⟩⟩
theorem ButB.below {b : Nat} {w w1 w2 : World} (h : ButB b w w1) (hB : Below w1.heap.size w1 w2) : ButB b w w2 :=
  ⟨⟨hB.os.trans h.g.os, hB.tape.trans h.g.tape, hB.output.trans h.g.output, Nat.le_trans h.g.size hB.size, fun i hi hne => (hB.block i (Nat.lt_of_lt_of_le hi h.g.size)).trans (h.g.block i hi hne)⟩⟩
theorem ButB.set {b : Nat} {w w1 : World} (h : ButB b w w1) (v : Value) : ButB b w (w1.setCell ⟨b, 0, none⟩ v) :=
  ⟨⟨h.g.os, h.g.tape, h.g.output, by have := h.g.size; simp [World.setCell]; exact this, fun i hi hne => (heap_setCell_other w1 ⟨b, 0, none⟩ i v (by simpa using fun e => hne (by rw [e]))).trans (h.g.block i hi hne)⟩⟩
theorem ButB.cell {b g k : Nat} {w w1 : World} {v : Value} (h : ButB b w w1) (hn : g ≠ b) (hc : w.cell? ⟨g, k, none⟩ = some v) : w1.cell? ⟨g, k, none⟩ = some v := by
  have hlt := lt_of_cell hc
  unfold World.cell? at hc ⊢
  rw [h.g.block g hlt (fun e => hn (by cases e; rfl))]
  exact hc
theorem ButB.trans {b : Nat} {w w1 w2 : World} (h : ButB b w w1) (k : ButB b w1 w2) : ButB b w w2 :=
  ⟨⟨k.g.os.trans h.g.os, k.g.tape.trans h.g.tape, k.g.output.trans h.g.output, Nat.le_trans h.g.size k.g.size, fun i hi hne => (k.g.block i (Nat.lt_of_lt_of_le hi h.g.size) hne).trans (h.g.block i hi hne)⟩⟩
theorem bytes_app (A B : List UInt8) : (⟨A.toArray⟩ : ByteArray) ++ ⟨B.toArray⟩ = ⟨(A ++ B).toArray⟩ := by
  apply ByteArray.ext
  simp [ByteArray.data_append]
theorem encs_snoc (l : List Int) (k : Nat) (hk : k < l.length) : encs (l.take (k + 1)) = encs (l.take k) ++ enc (l.getD k 0) := by
  rw [List.take_add_one, List.getElem?_eq_getElem hk, encs_app]
  simp [encs, List.getD_eq_getElem?_getD, List.getElem?_eq_getElem hk]
set_option maxRecDepth 100000 in
set_option maxHeartbeats 1000000 in
theorem numbers_w (b : Nat) (t : TypeId) (T : List UInt8) (l : List Int) (g o c : Nat) (hgb : g ≠ b) (hl : l.length ≤ 100) (hT : T.length ≤ 10000) (hok : EncOk l) (w : World) (hb : TBox w b t T) (hi : IntsIn w g o l) :
    Calls Tryd.prog 90 #[.pointer (some ⟨b, 0, none⟩), .slice (some ⟨g, o, none⟩) l.length c] w fun e w' => e = .returned (.tuple #[]) ∧ TBox w' b t (T ++ encs l) ∧ ButB b w w' := by
  have HI := Lib.hid hi
  have HT := Lib.hid hb
  have HOK := Lib.hid hok
  have HSN := Lib.hid (fun k hk => encs_snoc l k hk)
  have HLN := Lib.hid (fun k => encs_len (l := l.take k) (fun x hx => hok x (List.mem_of_mem_take hx)))
  clear hi hb hok
  obtain ⟨n, hn⟩ : ∃ n, n = l.length := ⟨_, rfl⟩
  have HN := Lib.hid hn
  rw [← hn] at hl ⊢
  have hnb : (n : Int) ≤ 100 := by omega
  clear hn
  go_enter Tryd.func90, Tryd.ntmps90
  go_wp2_with fail
  go_loopw [10] (fun x wr => ∃ k : Nat, k ≤ n ∧ x = .int .i64 k ∧ TBox wr b t (T ++ encs (l.take k)) ∧ ButB b w wr) (fun x _ => n - (intOf x).toNat)
  case atStart => exact ⟨0, by omega, rfl, by simpa [encs] using HT.out, butRefl _ _⟩
  case round =>
    obtain ⟨k, hk, rfl, htb, hbb⟩ := hrel
    have HTr := Lib.hid htb
    have HBr := Lib.hid hbb
    clear htb hbb
    by_cases hlt : k < n
    · have hlt' : (k : Int) < n := by omega
      have hkl : k < l.length := by rw [← HN.out]; exact hlt
      have c0 := HBr.out.cell hgb (HI.out k hkl)
      have hsn := HSN.out k hkl
      have hmem : l.getD k 0 ∈ l := by rw [List.getD_eq_getElem?_getD, List.getElem?_eq_getElem hkl]; exact List.getElem_mem hkl
      have hbd := HOK.out _ hmem
      have HPI := Lib.hid (fun w1 => PutInt_ok (l.getD k 0) w1 hbd.1 hbd.2)
      have hel := enc_len_le hbd.1 hbd.2
      have HLk := HLN.out k
      rw [List.length_take] at HLk
      have HS := Lib.hid hsn
      clear hkl hmem hbd hsn
      generalize l.getD k 0 = v at *
      go_wp2_with fail
      refine (HPI.out _).mono ?_
      rintro e w1 ⟨rfl, hB1⟩
      have HT1 := Lib.hid (HTr.out.via hB1)
      have HB1 := Lib.hid (HBr.out.below hB1)
      have c1 := HT1.out.c0
      have f1 := HT1.out.f0
      clear hB1
      go_wp2_with fail
      refine ⟨⟨k + 1, by omega, by go_num, ?_, HB1.out.set _⟩, by simp [intOf]; omega⟩
      rw [HS.out, bytes_app, ← List.append_assoc]
      exact HT1.out.set _
    · obtain rfl : n = k := by omega
      have HTF : Hid (TBox wr b t (T ++ encs l)) := Lib.hid (by have := HTr.out; rwa [HN.out, List.take_length] at this)
      go_wp2_with fail
      go_end0
      exact ⟨rfl, HTF.out, HBr.out⟩
end Go.Proofs.YtcamncipkofgkaaDoor
/- UntDec: The contracts of decoder.require and decoder.number. -/
namespace Go.Proofs.YtcamncipkofgkaaDoor
open Go.RowKit Go.Shelf Pln Unt Putlog
/-- The panic of require. -/
def PN : List PanicEntry := [{ v := .iface 51 (.int .i64 80), recovered := false }]
set_option maxRecDepth 100000 in
theorem require_ok (d : Value) (w : World) : Calls Tryd.prog 95 #[d, .bool true] w fun e w' => e = .returned (.tuple #[]) ∧ w = w' := by
  go_enter Tryd.func95, Tryd.ntmps95
  go_wp2_with fail
  go_end0
  exact ⟨rfl, rfl⟩
set_option maxRecDepth 100000 in
theorem require_no (d : Value) (w : World) : Calls Tryd.prog 95 #[d, .bool false] w fun e w' => e = .panicked PN ∧ w = w' := by
  go_enter Tryd.func95, Tryd.ntmps95
  go_wp2_with fail
  exact ⟨rfl, rfl, rfl⟩
/-- A decoder in its box. -/
def DBox (w : World) (d : Nat) (S : List UInt8) (p : Int) : Prop := w.heap[d]? = some (.cells #[.string ⟨S.toArray⟩, .int .i64 p] 100 (0, 0))
theorem DBox.c0 {w : World} {d : Nat} {S : List UInt8} {p : Int} (h : DBox w d S p) : w.cell? ⟨d, 0, none⟩ = some (.string ⟨S.toArray⟩) := cell_heap h rfl
theorem DBox.c1 {w : World} {d : Nat} {S : List UInt8} {p : Int} (h : DBox w d S p) : w.cell? ⟨d, 1, none⟩ = some (.int .i64 p) := cell_heap h rfl
theorem DBox.f1 {w : World} {d : Nat} {S : List UInt8} {p : Int} (h : DBox w d S p) : w.frozen? ⟨d, 1, none⟩ = false := frozen_of_row _ _ 1 _ _ h
theorem DBox.via {w w' : World} {d : Nat} {S : List UInt8} {p : Int} (h : DBox w d S p) (hB : Below w.heap.size w w') : DBox w' d S p := heap_below hB h
theorem DBox.set {w : World} {d : Nat} {S : List UInt8} {p : Int} (h : DBox w d S p) (q : Int) : DBox (w.setCell ⟨d, 1, none⟩ (.int .i64 q)) d S q :=
  (heap_setCell_same w d 1 _ _ (.int .i64 q) h).trans rfl
theorem ButB.setI {b : Nat} {w w1 : World} (h : ButB b w w1) (i : Nat) (v : Value) : ButB b w (w1.setCell ⟨b, i, none⟩ v) :=
  ⟨⟨h.g.os, h.g.tape, h.g.output, by have := h.g.size; simp [World.setCell]; exact this, fun j hj hne => (heap_setCell_other w1 ⟨b, i, none⟩ j v (by simpa using fun e => hne (by rw [e]))).trans (h.g.block j hj hne)⟩⟩
/-- What number answers. -/
def NumR (d : Nat) (S : List UInt8) (p : Nat) (w : World) (e : Ending) (w' : World) : Prop :=
  (∃ z k, dec 0 0 (S.drop p) = some (z, k) ∧ e = .returned (.int .i64 (zag z)) ∧ DBox w' d S ((p + k : Nat) : Int) ∧ ButB d w w') ∨
  (dec 0 0 (S.drop p) = none ∧ e = .panicked PN ∧ ButB d w w')
set_option maxRecDepth 100000 in
set_option maxHeartbeats 1000000 in
theorem number_w (d : Nat) (S : List UInt8) (p : Nat) (hS : S.length ≤ 9223372036854775807) (hp : p ≤ S.length) (w : World) (hd : DBox w d S p) :
    Calls Tryd.prog 93 #[.pointer (some ⟨d, 0, none⟩)] w (NumR d S p w) := by
  have HI := Lib.hid (fun w1 => Int_at ⟨S.toArray⟩ p w1 (by simpa [ByteArray.size] using hS) (by simpa [ByteArray.size] using hp))
  have HD := Lib.hid hd
  have HK : Hid (∀ z k, dec 0 0 (S.drop p) = some (z, k) → (p + k : Nat) ≤ S.length) := Lib.hid (fun z k h => by have := dec_le h; rw [List.length_drop] at this; omega)
  clear hd
  rcases hz : dec 0 0 (S.drop p) with _ | ⟨z, k⟩
  · have hie : intEnd S p = .returned (.tuple #[.int .i64 0, .int .i64 0, .int .i64 10]) := intEnd_none hz
    have HZ := Lib.hid hz
    simp only [List.toList_toArray] at HI
    rw [hie] at HI
    clear hz hie HK hS hp
    go_enter Tryd.func93, Tryd.ntmps93
    go_upto_region 1 with fail
    refine (wpIn_wide (n := 5)).1 ?_
    refine wpIn_region_T (fun w' => Below w.drew.heap.size w.drew w') 15 (by kernel_rfl) ?_
    have hd : Below w.heap.size w w.drew := (Below.refl _ _).drew
    have HD4 := Lib.hid (HD.out.via hd)
    have HB4 := Lib.hid ((butRefl d w).below hd)
    generalize w.drew = wd at *
    have c0 := HD4.out.c0
    have c1 := HD4.out.c1
    refine wpT_tk 0 7 (v := ?_) (Below.refl _ _) rfl rfl (by rfl) (hy := fun w hw => ?_) (h := ?_)
    rotate_left
    · go_simp; with_reducible rfl
    try simp only [Act.put, List.setIfInBounds_toArray, List.set_cons_zero, List.set_cons_succ]
    refine wpT_tk 1 8 (v := ?_) (Below.refl _ _) rfl rfl (by rfl) (hy := fun w hw => ?_) (h := ?_)
    rotate_left
    · go_simp; with_reducible rfl
    try simp only [Act.put, List.setIfInBounds_toArray, List.set_cons_zero, List.set_cons_succ]
    refine wpT_tk 2 9 (v := ?_) (Below.refl _ _) rfl rfl (by rfl) (hy := fun w hw => ?_) (h := ?_)
    rotate_left
    · go_simp; with_reducible rfl
    try simp only [Act.put, List.setIfInBounds_toArray, List.set_cons_zero, List.set_cons_succ]
    refine wpT_tk 3 10 (v := ?_) (Below.refl _ _) rfl rfl (by rfl) (hy := fun w hw => ?_) (h := ?_)
    rotate_left
    · have c0 := keptBelow hw c0; go_simp; with_reducible rfl
    try simp only [Act.put, List.setIfInBounds_toArray, List.set_cons_zero, List.set_cons_succ]
    refine wpT_tk 4 11 (v := ?_) (Below.refl _ _) rfl rfl (by rfl) (hy := fun w hw => ?_) (h := ?_)
    rotate_left
    · go_simp; with_reducible rfl
    try simp only [Act.put, List.setIfInBounds_toArray, List.set_cons_zero, List.set_cons_succ]
    refine wpT_tk 5 12 (v := ?_) (Below.refl _ _) rfl rfl (by rfl) (hy := fun w hw => ?_) (h := ?_)
    rotate_left
    · go_simp; with_reducible rfl
    try simp only [Act.put, List.setIfInBounds_toArray, List.set_cons_zero, List.set_cons_succ]
    refine wpT_tk 6 13 (v := ?_) (Below.refl _ _) rfl rfl (by rfl) (hy := fun w hw => ?_) (h := ?_)
    rotate_left
    · go_simp; with_reducible rfl
    try simp only [Act.put, List.setIfInBounds_toArray, List.set_cons_zero, List.set_cons_succ]
    refine wpT_tk 7 14 (v := ?_) (Below.refl _ _) rfl rfl (by rfl) (hy := fun w hw => ?_) (h := ?_)
    rotate_left
    · have c1 := keptBelow hw c1; go_simp; with_reducible rfl
    try simp only [Act.put, List.setIfInBounds_toArray, List.set_cons_zero, List.set_cons_succ]
    refine wpT_one 8 rfl rfl (by kernel_rfl) ?_
    go_simp
    refine ⟨trivial, ?_⟩
    refine (callsIn_wide.2 (HI.out wd)).mono ?_
    rintro e u3 ⟨rfl, rfl⟩
    refine ⟨Below.refl _ _, ?_⟩
    refine wpT_one 9 rfl rfl (by kernel_rfl) ?_
    go_simp
    refine ⟨Below.refl _ _, ?_⟩
    refine wpT_tk 10 16 (v := ?_) (Below.refl _ _) rfl rfl (by rfl) (hy := fun w hw => ?_) (h := ?_)
    rotate_left
    · go_simp; with_reducible rfl
    try simp only [Act.put, List.setIfInBounds_toArray, List.set_cons_zero, List.set_cons_succ]
    refine wpT_tk 11 17 (v := ?_) (Below.refl _ _) rfl rfl (by rfl) (hy := fun w hw => ?_) (h := ?_)
    rotate_left
    · go_simp; with_reducible rfl
    try simp only [Act.put, List.setIfInBounds_toArray, List.set_cons_zero, List.set_cons_succ]
    refine wpT_tk 12 18 (v := ?_) (Below.refl _ _) rfl rfl (by rfl) (hy := fun w hw => ?_) (h := ?_)
    rotate_left
    · go_simp; with_reducible rfl
    try simp only [Act.put, List.setIfInBounds_toArray, List.set_cons_zero, List.set_cons_succ]
    refine wpT_one 13 rfl rfl (by kernel_rfl) ?_
    go_simp
    refine ⟨Below.refl _ _, ?_⟩
    refine wpT_one 14 rfl rfl (by kernel_rfl) ?_
    go_simp
    refine ⟨Below.refl _ _, ?_⟩
    refine wpT_one 15 rfl rfl (by kernel_rfl) ?_
    go_simp
    refine wpT_done (by kernel_rfl) ?_ _
    go_wp2_with fail
    refine (require_no _ _).mono ?_
    rintro e w4 ⟨rfl, rfl⟩
    go_wp2_with fail
    exact ⟨rfl, .inr ⟨HZ.out, rfl, HB4.out⟩⟩
  · have hie : intEnd S p = .returned (.tuple #[.int .i64 (zag z), .int .i64 ((p + k : Nat) : Int), .int .i64 0]) := intEnd_some hz
    have HZ := Lib.hid hz
    have hle := HK.out z k hz
    simp only [List.toList_toArray] at HI
    rw [hie] at HI
    clear hz hie HK hp
    generalize hzg : zag z = zg at *
    have HZG := Lib.hid hzg
    clear hzg
    generalize hpk : p + k = pk at *
    have HPK := Lib.hid hpk
    clear hpk
    go_enter Tryd.func93, Tryd.ntmps93
    go_upto_region 1 with fail
    refine (wpIn_wide (n := 5)).1 ?_
    refine wpIn_region_T (fun w' => Below w.drew.heap.size w.drew w') 15 (by kernel_rfl) ?_
    have hd : Below w.heap.size w w.drew := (Below.refl _ _).drew
    have HD4 := Lib.hid (HD.out.via hd)
    have HB4 := Lib.hid ((butRefl d w).below hd)
    generalize w.drew = wd at *
    have c0 := HD4.out.c0
    have c1 := HD4.out.c1
    refine wpT_tk 0 7 (v := ?_) (Below.refl _ _) rfl rfl (by rfl) (hy := fun w hw => ?_) (h := ?_)
    rotate_left
    · go_simp; with_reducible rfl
    try simp only [Act.put, List.setIfInBounds_toArray, List.set_cons_zero, List.set_cons_succ]
    refine wpT_tk 1 8 (v := ?_) (Below.refl _ _) rfl rfl (by rfl) (hy := fun w hw => ?_) (h := ?_)
    rotate_left
    · go_simp; with_reducible rfl
    try simp only [Act.put, List.setIfInBounds_toArray, List.set_cons_zero, List.set_cons_succ]
    refine wpT_tk 2 9 (v := ?_) (Below.refl _ _) rfl rfl (by rfl) (hy := fun w hw => ?_) (h := ?_)
    rotate_left
    · go_simp; with_reducible rfl
    try simp only [Act.put, List.setIfInBounds_toArray, List.set_cons_zero, List.set_cons_succ]
    refine wpT_tk 3 10 (v := ?_) (Below.refl _ _) rfl rfl (by rfl) (hy := fun w hw => ?_) (h := ?_)
    rotate_left
    · have c0 := keptBelow hw c0; go_simp; with_reducible rfl
    try simp only [Act.put, List.setIfInBounds_toArray, List.set_cons_zero, List.set_cons_succ]
    refine wpT_tk 4 11 (v := ?_) (Below.refl _ _) rfl rfl (by rfl) (hy := fun w hw => ?_) (h := ?_)
    rotate_left
    · go_simp; with_reducible rfl
    try simp only [Act.put, List.setIfInBounds_toArray, List.set_cons_zero, List.set_cons_succ]
    refine wpT_tk 5 12 (v := ?_) (Below.refl _ _) rfl rfl (by rfl) (hy := fun w hw => ?_) (h := ?_)
    rotate_left
    · go_simp; with_reducible rfl
    try simp only [Act.put, List.setIfInBounds_toArray, List.set_cons_zero, List.set_cons_succ]
    refine wpT_tk 6 13 (v := ?_) (Below.refl _ _) rfl rfl (by rfl) (hy := fun w hw => ?_) (h := ?_)
    rotate_left
    · go_simp; with_reducible rfl
    try simp only [Act.put, List.setIfInBounds_toArray, List.set_cons_zero, List.set_cons_succ]
    refine wpT_tk 7 14 (v := ?_) (Below.refl _ _) rfl rfl (by rfl) (hy := fun w hw => ?_) (h := ?_)
    rotate_left
    · have c1 := keptBelow hw c1; go_simp; with_reducible rfl
    try simp only [Act.put, List.setIfInBounds_toArray, List.set_cons_zero, List.set_cons_succ]
    refine wpT_one 8 rfl rfl (by kernel_rfl) ?_
    go_simp
    refine ⟨trivial, ?_⟩
    refine (callsIn_wide.2 (HI.out wd)).mono ?_
    rintro e u3 ⟨rfl, rfl⟩
    refine ⟨Below.refl _ _, ?_⟩
    refine wpT_one 9 rfl rfl (by kernel_rfl) ?_
    go_simp
    refine ⟨Below.refl _ _, ?_⟩
    refine wpT_tk 10 16 (v := ?_) (Below.refl _ _) rfl rfl (by rfl) (hy := fun w hw => ?_) (h := ?_)
    rotate_left
    · go_simp; with_reducible rfl
    try simp only [Act.put, List.setIfInBounds_toArray, List.set_cons_zero, List.set_cons_succ]
    refine wpT_tk 11 17 (v := ?_) (Below.refl _ _) rfl rfl (by rfl) (hy := fun w hw => ?_) (h := ?_)
    rotate_left
    · go_simp; with_reducible rfl
    try simp only [Act.put, List.setIfInBounds_toArray, List.set_cons_zero, List.set_cons_succ]
    refine wpT_tk 12 18 (v := ?_) (Below.refl _ _) rfl rfl (by rfl) (hy := fun w hw => ?_) (h := ?_)
    rotate_left
    · go_simp; with_reducible rfl
    try simp only [Act.put, List.setIfInBounds_toArray, List.set_cons_zero, List.set_cons_succ]
    refine wpT_one 13 rfl rfl (by kernel_rfl) ?_
    go_simp
    refine ⟨Below.refl _ _, ?_⟩
    refine wpT_one 14 rfl rfl (by kernel_rfl) ?_
    go_simp
    refine ⟨Below.refl _ _, ?_⟩
    refine wpT_one 15 rfl rfl (by kernel_rfl) ?_
    go_simp
    refine wpT_done (by kernel_rfl) ?_ _
    go_wp2_with fail
    refine (require_ok _ _).mono ?_
    rintro e w4 ⟨rfl, rfl⟩
    have d1 := HD4.out.c1
    have f1 := HD4.out.f1
    go_wp2_with fail
    go_ret
    exact .inl ⟨z, k, HZ.out, ret_int HZG.out.symm, by rw [HPK.out]; exact HD4.out.set _, HB4.out.setI 1 _⟩
end Go.Proofs.YtcamncipkofgkaaDoor
/- UntShape: The contract of decoder.shape. -/
namespace Unt
open Pln Putlog
/-- The number at an offset, and the next offset. -/
def rd (S : List UInt8) (p : Nat) : Option (Int × Nat) := match dec 0 0 (S.drop p) with
  | none => none
  | some (z, k) => some (zag z, p + k)
theorem rd_some {S : List UInt8} {p : Nat} {x : Int} {q : Nat} (h : rd S p = some (x, q)) (hp : p ≤ S.length) : p < q ∧ q ≤ S.length ∧ -4611686018427387903 ≤ x ∧ x ≤ 4611686018427387903 := by
  unfold rd at h
  rcases e : dec 0 0 (S.drop p) with _ | ⟨z, k⟩
  · rw [e] at h; cases h
  · rw [e] at h
    cases h
    have := dec_le e
    rw [List.length_drop] at this
    obtain ⟨h1, h2, _⟩ := dec_some e
    have := leb_len_pos z
    have := zag_bd h1
    omega
def pairsP (S : List UInt8) (p : Nat) : Nat → Option (List Pt × Nat)
  | 0 => some ([], p)
  | i + 1 => match pairsP S p i with
    | none => none
    | some (l, q) => match rd S q with
      | none => none
      | some (x, q1) => match rd S q1 with
        | none => none
        | some (y, q2) => some (l ++ [(x, y)], q2)
theorem pairs_none {S : List UInt8} {p i : Nat} (h : pairsP S p i = none) : ∀ j, pairsP S p (i + j) = none
  | 0 => h
  | j + 1 => by rw [← Nat.add_assoc, pairsP, pairs_none h j]
theorem pairs_some {S : List UInt8} {p : Nat} (hp : p ≤ S.length) : ∀ {i : Nat} {l : List Pt} {q : Nat}, pairsP S p i = some (l, q) → l.length = i ∧ p + 2 * i ≤ q ∧ q ≤ S.length
  | 0, l, q, h => by cases h; simp; omega
  | i + 1, l, q, h => by
    rw [pairsP] at h
    rcases e : pairsP S p i with _ | ⟨l', q'⟩
    · rw [e] at h; cases h
    · rw [e] at h
      obtain ⟨h1, h2, h3⟩ := pairs_some hp e
      dsimp only at h
      rcases e1 : rd S q' with _ | ⟨x, q1⟩
      · rw [e1] at h; cases h
      · rw [e1] at h
        dsimp only at h
        obtain ⟨a1, a2, _⟩ := rd_some e1 h3
        rcases e2 : rd S q1 with _ | ⟨y, q2⟩
        · rw [e2] at h; cases h
        · rw [e2] at h
          obtain ⟨b1, b2, _⟩ := rd_some e2 a2
          cases h
          rw [List.length_append, h1]
          simp; omega
end Unt
namespace Go.Proofs.YtcamncipkofgkaaDoor
open Go.RowKit Go.Shelf Pln Unt Putlog
theorem pairs_ok {S : List UInt8} {p : Nat} (hp : p ≤ S.length) : ∀ {i : Nat} {l : List Pt} {q : Nat}, pairsP S p i = some (l, q) → PtsOk l
  | 0, l, q, h => by cases h; intro r hr; simp at hr
  | i + 1, l, q, h => by
    rw [pairsP] at h
    rcases e : pairsP S p i with _ | ⟨l', q'⟩
    · rw [e] at h; cases h
    · rw [e] at h
      have ih := pairs_ok hp e
      obtain ⟨h1, h2, h3⟩ := pairs_some hp e
      dsimp only at h
      rcases e1 : rd S q' with _ | ⟨x, q1⟩
      · rw [e1] at h; cases h
      · rw [e1] at h
        dsimp only at h
        obtain ⟨a1, a2, a3, a4⟩ := rd_some e1 h3
        rcases e2 : rd S q1 with _ | ⟨y, q2⟩
        · rw [e2] at h; cases h
        · rw [e2] at h
          obtain ⟨b1, b2, b3, b4⟩ := rd_some e2 a2
          cases h
          intro r hr
          rw [List.mem_append] at hr
          rcases hr with hr | hr
          · exact ih r hr
          · simp at hr; subst hr
            exact ⟨⟨by dsimp only; omega, by dsimp only; omega⟩, by dsimp only; omega, by dsimp only; omega⟩
/-- number, in these words. -/
def RdR (d : Nat) (S : List UInt8) (p : Nat) (w : World) (e : Ending) (w' : World) : Prop :=
  (∃ x q, rd S p = some (x, q) ∧ e = .returned (.int .i64 x) ∧ DBox w' d S (q : Int) ∧ ButB d w w') ∨ (rd S p = none ∧ e = .panicked PN ∧ ButB d w w')
theorem rd_w (d : Nat) (S : List UInt8) (p : Nat) (hS : S.length ≤ 1000) (hp : p ≤ S.length) (w : World) (hd : DBox w d S p) :
    Calls Tryd.prog 93 #[.pointer (some ⟨d, 0, none⟩)] w (RdR d S p w) := by
  refine (number_w d S p (by omega) hp w hd).mono ?_
  rintro e w' (⟨z, k, h, rfl, h1, h2⟩ | ⟨h, rfl, h2⟩)
  · exact .inl ⟨zag z, p + k, by unfold rd; rw [h], rfl, h1, h2⟩
  · exact .inr ⟨by unfold rd; rw [h], rfl, h2⟩
theorem own_but {w w' : World} {base b n : Nat} {e : TypeId} {size : Nat} {v : Value} {xs : List Value} (h : w.ownsRow base e size v n xs) (hb : ButB b w w') (hlt : b < base) : w'.ownsRow base e size v n xs := by
  refine ⟨h.1, ?_⟩
  rcases h.2 with h2 | ⟨g, cap, cur, rfl, h2, h3, h4⟩
  · exact .inl h2
  · exact .inr ⟨g, cap, cur, rfl, h2, (hb.g.block g (Array.getElem?_eq_some_iff.1 h3).1 (fun e => by cases e; omega)).trans h3, h4⟩
theorem ButB.grown {b : Nat} {w w1 w2 : World} {row : Option Nat} (h : ButB b w w1) (hg : w1.grownBy w2 row) (hr : ∀ k, row = some k → w.heap.size ≤ k) : ButB b w w2 :=
  ⟨⟨hg.os.trans h.g.os, hg.tape.trans h.g.tape, hg.output.trans h.g.output, Nat.le_trans h.g.size hg.size, fun i hi hne => (hg.block i (Nat.lt_of_lt_of_le hi h.g.size) (fun e => by have := hr i e.symm; omega)).trans (h.g.block i hi hne)⟩⟩
theorem DBox.grown {w w' : World} {d : Nat} {S : List UInt8} {p : Int} {row : Option Nat} (h : DBox w d S p) (hg : w.grownBy w' row) (hr : ∀ k, row = some k → k ≠ d) : DBox w' d S p :=
  (hg.block d (lt_of_cell h.c0) (fun e => hr d e.symm rfl)).trans h
/-- What shape answers. -/
def shpP (S : List UInt8) (p : Nat) : Option (List Pt × Nat) := match rd S p with
  | none => none
  | some (n, q) => pairsP S q n.toNat
def ShpR (d : Nat) (S : List UInt8) (p : Nat) (w : World) (e : Ending) (w' : World) : Prop :=
  (∃ l q r, shpP S p = some (l, q) ∧ e = .returned r ∧ PtsAt w' r l ∧ DBox w' d S (q : Int) ∧ ButB d w w' ∧ (∀ k, r.ownBlock = some k → w.heap.size ≤ k)) ∨ (shpP S p = none ∧ e = .panicked PN ∧ ButB d w w')
set_option maxRecDepth 100000 in
set_option maxHeartbeats 1000000 in
theorem shape_w (d : Nat) (S : List UInt8) (p : Nat) (hS : S.length ≤ 1000) (hp : p ≤ S.length) (w : World) (hd : DBox w d S p) :
    Calls Tryd.prog 94 #[.pointer (some ⟨d, 0, none⟩)] w (ShpR d S p w) := by
  have HN := Lib.hid (rd_w d S p hS hp w hd)
  have hdl : d < w.heap.size := lt_of_cell hd.c0
  have HSP : Hid (shpP S p = match rd S p with
    | none => none
    | some (n, q) => pairsP S q n.toNat) := Lib.hid rfl
  obtain ⟨i0, hi, hz0, hz1, hz2⟩ := info_parts info_pt
  have HI := Lib.hid hi
  have HZ0 := Lib.hid hz0
  have HZ1 := Lib.hid hz1
  have HZ2 := Lib.hid hz2
  clear hi hz0 hz1 hz2 hd
  go_enter Tryd.func94, Tryd.ntmps94
  go_wp2_with fail
  refine HN.out.mono ?_
  rintro e w1 (⟨N, p1, h1, rfl, hd1, hb1⟩ | ⟨h1, rfl, hb1⟩)
  rotate_left
  · have HSN : Hid (shpP S p = none) := Lib.hid (by rw [HSP.out, h1])
    have HB1 := Lib.hid hb1
    clear hb1
    go_wp2_with fail
    exact ⟨rfl, .inr ⟨HSN.out, rfl, HB1.out⟩⟩
  have HSN : Hid (shpP S p = pairsP S p1 N.toNat) := Lib.hid (by rw [HSP.out, h1])
  obtain ⟨q1, q2, q3, q4⟩ := rd_some h1 hp
  have HD1 := Lib.hid hd1
  have HB1 := Lib.hid hb1
  have HP1 : Hid (p1 ≤ S.length) := Lib.hid q2
  have HQ := Lib.hid (And.intro hS q2)
  clear HSP HN h1 hd1 hb1 q1
  go_wp2_with fail
  go_loopw [3, 6] (fun u x wr => ∃ (i q : Nat) (l : List Pt), (i = 0 ∨ (i : Int) ≤ N) ∧ x = .int .i64 i ∧ pairsP S p1 i = some (l, q) ∧ wr.ownsRow w1.heap.size 38 2 u i (cellsP l) ∧ DBox wr d S (q : Int) ∧ ButB d w1 wr) (fun _ x _ => (N - intOf x).toNat)
  case atStart => exact ⟨0, p1, [], by omega, rfl, rfl, ⟨rfl, .inl ⟨rfl, rfl⟩⟩, HD1.out, butRefl _ _⟩
  case round =>
    obtain ⟨i, q, l, hiN, rfl, hpr, hown, hdb, hbb⟩ := hrel
    have HPR := Lib.hid hpr
    have HO := Lib.hid hown
    have HDB := Lib.hid hdb
    have HBB := Lib.hid hbb
    obtain ⟨hl, hq1, hq2⟩ := pairs_some HP1.out hpr
    have hi5 : 2 * i ≤ 1000 := by omega
    have HQL := Lib.hid hq2
    have HLN := Lib.hid hl
    clear hpr hown hdb hbb hl hq1 hq2
    by_cases hlt : (i : Int) < N
    · go_wp2_with fail
      refine (rd_w d S q HQ.out.1 HQL.out _ HDB.out).mono ?_
      rintro e w2 (⟨x, qa, ha, rfl, hda, hba⟩ | ⟨ha, rfl, hba⟩)
      rotate_left
      · have HNO : Hid (shpP S p = none) := Lib.hid (by
          have : pairsP S p1 (i + 1) = none := by rw [pairsP, HPR.out]; dsimp only; rw [ha]
          have := pairs_none this (N.toNat - (i + 1))
          rw [show i + 1 + (N.toNat - (i + 1)) = N.toNat by omega] at this
          rw [HSN.out]; exact this)
        have HBX := Lib.hid (HB1.out.trans (HBB.out.trans hba))
        clear hba ha
        go_wp2_with fail
        exact ⟨rfl, .inr ⟨HNO.out, rfl, HBX.out⟩⟩
      obtain ⟨_, ra, xa, xb⟩ := rd_some ha HQL.out
      have HA := Lib.hid ha
      have HRA := Lib.hid ra
      have HDA := Lib.hid hda
      have HBA := Lib.hid (HBB.out.trans hba)
      have HOA := Lib.hid (own_but HO.out hba (by have := HDB.out.c0; have := lt_of_cell HD1.out.c0; omega))
      clear ha hda hba ra
      go_wp2_with fail
      refine (rd_w d S qa HQ.out.1 HRA.out _ HDA.out).mono ?_
      rintro e w3 (⟨y, qb, hb, rfl, hdb, hbb⟩ | ⟨hb, rfl, hbb⟩)
      rotate_left
      · have HNO : Hid (shpP S p = none) := Lib.hid (by
          have : pairsP S p1 (i + 1) = none := by rw [pairsP, HPR.out]; dsimp only; rw [HA.out]; dsimp only; rw [hb]
          have := pairs_none this (N.toNat - (i + 1))
          rw [show i + 1 + (N.toNat - (i + 1)) = N.toNat by omega] at this
          rw [HSN.out]; exact this)
        have HBX := Lib.hid (HB1.out.trans (HBA.out.trans hbb))
        clear hbb hb
        go_wp2_with fail
        exact ⟨rfl, .inr ⟨HNO.out, rfl, HBX.out⟩⟩
      have HPN : Hid (pairsP S p1 (i + 1) = some (l ++ [(x, y)], qb)) := Lib.hid (by rw [pairsP, HPR.out]; dsimp only; rw [HA.out]; dsimp only; rw [hb])
      have HDC := Lib.hid hdb
      have HBC := Lib.hid (HBA.out.trans hbb)
      have HOC := Lib.hid (own_but HOA.out hbb (by have := lt_of_cell HD1.out.c0; omega))
      clear hb hdb hbb
      have HO6 := Lib.hid (own_via HOC.out (alloc_below w3 (.cells #[.int .i64 x, .int .i64 y] 38)))
      have HNW := Lib.hid (news_in (w := w3.alloc (.cells #[.int .i64 x, .int .i64 y] 38)) (g := w3.heap.size) (o := 0) (l := [(x, y)]) (fun j hj => by obtain rfl : j = 0 := (by simp at hj; omega); exact ⟨cell_rowN w3 _ _ 0 rfl, cell_rowN w3 _ _ 1 rfl⟩))
      have HAP := Lib.hid (app_ok (n := i) (m := 1) (by omega))
      have HBZ : Hid (w1.heap.size ≤ (w3.alloc (.cells #[.int .i64 x, .int .i64 y] 38)).heap.size) := Lib.hid (by have := HBC.out.size; simp; omega)
      have HDD := Lib.hid (HDC.out.via (alloc_below w3 (.cells #[.int .i64 x, .int .i64 y] 38)))
      have HBD := Lib.hid (HBC.out.below (alloc_below w3 (.cells #[.int .i64 x, .int .i64 y] 38)))
      go_wp2_with (at_builtin; refine wpList_append_own _ rfl _ _ 25 rfl w1.heap.size 38 i0 (.agg #[.int .i64 0, .int .i64 0]) 2 16 Tryd.underlying25 HI.out HZ0.out HZ1.out HZ2.out rfl (by decide) _ i (cellsP l) rfl HO6.out ⟨w3.heap.size, 0, none⟩ 1 1 (cellsP [(x, y)]) rfl rfl HNW.out (cellsP_one _) HAP.out.1 HAP.out.2 HBZ.out ?_)
      intro v5 w5 hown5 hgrow5 _
      have HDE := Lib.hid (HDD.out.grown hgrow5 (fun k hk => by have := (own_lt HO6.out k hk).1; have := lt_of_cell HD1.out.c0; omega))
      have HBE := Lib.hid (HBD.out.grown hgrow5 (fun k hk => (own_lt HO6.out k hk).1))
      rw [← cellsP_app] at hown5
      have HO5 := Lib.hid hown5
      clear hown5 hgrow5
      go_wp2_with fail
      go_roundw
      case rel => exact ⟨i + 1, qb, _, by omega, by go_num, HPN.out, HO5.out, HDE.out, HBE.out⟩
      case measure => simp [intOf]; omega
    · have HF : Hid (shpP S p = some (l, q)) := Lib.hid (by
        rw [HSN.out, ← HPR.out]
        congr 1; omega)
      have HOK := Lib.hid (pairs_ok HP1.out HPR.out)
      have HPT := Lib.hid (owns_at (by rw [HLN.out]; exact HO.out) HOK.out)
      have HOW := Lib.hid (fun k hk => Nat.le_trans HB1.out.size (own_lt HO.out k hk).1)
      go_wp2_with fail
      go_ret
      exact .inl ⟨l, q, _, HF.out, rfl, HPT.out, HDB.out, HB1.out.trans HBB.out, HOW.out⟩
end Go.Proofs.YtcamncipkofgkaaDoor
/- UntStands: The contract of Stands. -/
namespace Unt
open Pln
/-- The corners at the ground. -/
def lowP (l : List Pt) : List Pt := l.filter fun p => decide (p.2 = 0)
theorem lowP_nil : lowP [] = [] := rfl
theorem lowP_snoc (l : List Pt) (p : Pt) : lowP (l ++ [p]) = lowP l ++ if p.2 = 0 then [p] else [] := by
  unfold lowP
  rw [List.filter_append]
  by_cases h : p.2 = 0 <;> simp [h]
theorem lowP_len (l : List Pt) : (lowP l).length ≤ l.length := List.length_filter_le _ _
def ordP (p q : Pt) : Pt × Pt := if p.1 > q.1 then (q, p) else (p, q)
def stdU (u : U) : Option (Pt × Pt) := if valU u = true then (if (lowP u.shape).length < 2 then none else some (ordP (vx (lowP u.shape) 0) (vx (lowP u.shape) 1))) else none
end Unt
namespace Go.Proofs.YtcamncipkofgkaaDoor
open Go.RowKit Go.Shelf Pln Unt Putlog
def stdV (u : U) : Value := match stdU u with
  | some s => .tuple #[conV u.id (-1) s u.back u.front, .bool true]
  | none => .tuple #[conV 0 0 ((0, 0), (0, 0)) 0 0, .bool false]
theorem lowP_ok {l : List Pt} (h : PtsOk l) : PtsOk (lowP l) := fun p hp => h p (List.mem_filter.1 hp).1
theorem below_grown {w w1 w2 : World} {row : Option Nat} (h : Below w.heap.size w w1) (hg : w1.grownBy w2 row) (hr : ∀ k, row = some k → w.heap.size ≤ k) : Below w.heap.size w w2 where
  os := hg.os.trans h.os
  tape := hg.tape.trans h.tape
  output := hg.output.trans h.output
  size := Nat.le_trans h.size hg.size
  block := fun i hi => (hg.block i (Nat.lt_of_lt_of_le hi h.size) (fun e => by have := hr i e.symm; omega)).trans (h.block i hi)
theorem stands_end {w W : World} {x0 x1 x2 x3 x4 x5 x6 x7 : Int} {y : Bool} {tm : Array Value} {V : Value} (hz : W.heap[w.heap.size + 1]? = some (.cells #[.int .i64 0, .int .i64 0, .int .i64 0, .int .i64 0, .int .i64 0, .int .i64 0, .int .i64 0, .int .i64 0] 42 (0, 0))) (hB : Below w.heap.size w W) (ho : V = .tuple #[.agg #[.int .i64 x0, .int .i64 x1, .int .i64 x2, .int .i64 x3, .int .i64 x4, .int .i64 x5, .int .i64 x6, .int .i64 x7], .bool y])
    (h4 : tm[2]?.getD undef = .pointer (some ⟨w.heap.size + 1, 0, none⟩) := by rfl) (h5 : tm[3]?.getD undef = .bool y := by rfl) :
    bodyPost Tryd.prog Tryd.f15 (fun e w' => e = .returned V ∧ Below w.heap.size w w') .ret { tmps := tm, defers := [] }
      ((((((((W.setCell ⟨w.heap.size + 1, 0, none⟩ (.int .i64 x0)).setCell ⟨w.heap.size + 1, 1, none⟩ (.int .i64 x1)).setCell ⟨w.heap.size + 1, 2, none⟩ (.int .i64 x2)).setCell ⟨w.heap.size + 1, 3, none⟩ (.int .i64 x3)).setCell ⟨w.heap.size + 1, 4, none⟩ (.int .i64 x4)).setCell ⟨w.heap.size + 1, 5, none⟩ (.int .i64 x5)).setCell ⟨w.heap.size + 1, 6, none⟩ (.int .i64 x6)).setCell ⟨w.heap.size + 1, 7, none⟩ (.int .i64 x7)) := by
  have z0 := cell_heap hz (i := 0) rfl
  have z1 := cell_heap hz (i := 1) rfl
  have z2 := cell_heap hz (i := 2) rfl
  have z3 := cell_heap hz (i := 3) rfl
  have z4 := cell_heap hz (i := 4) rfl
  have z5 := cell_heap hz (i := 5) rfl
  have z6 := cell_heap hz (i := 6) rfl
  have z7 := cell_heap hz (i := 7) rfl
  refine bodyPost_ret (v := .tuple #[.agg #[.int .i64 x0, .int .i64 x1, .int .i64 x2, .int .i64 x3, .int .i64 x4, .int .i64 x5, .int .i64 x6, .int .i64 x7], .bool y]) (by simp [results, Tryd.results15, go_sem, h4, h5, z0, z1, z2, z3, z4, z5, z6, z7]) rfl ⟨by rw [ho], ?_⟩
  exact ((((((((hB.setCell (p := ⟨w.heap.size + 1, 0, none⟩) (by simp) _).setCell (p := ⟨w.heap.size + 1, 1, none⟩) (by simp) _).setCell (p := ⟨w.heap.size + 1, 2, none⟩) (by simp) _).setCell (p := ⟨w.heap.size + 1, 3, none⟩) (by simp) _).setCell (p := ⟨w.heap.size + 1, 4, none⟩) (by simp) _).setCell (p := ⟨w.heap.size + 1, 5, none⟩) (by simp) _).setCell (p := ⟨w.heap.size + 1, 6, none⟩) (by simp) _).setCell (p := ⟨w.heap.size + 1, 7, none⟩) (by simp) _)
theorem cell_row_eq {w w' : World} {b i : Nat} (h : w'.heap[b]? = w.heap[b]?) : w'.cell? ⟨b, i, none⟩ = w.cell? ⟨b, i, none⟩ := by simp only [World.cell?, h]
theorem ubox_row {w w' : World} {b : Nat} {u : U} {s : Value} (h : w'.heap[b]? = w.heap[b]?) (k : UBox w b u s) : UBox w' b u s :=
  ⟨(cell_row_eq h).trans k.c0, (cell_row_eq h).trans k.c1, (cell_row_eq h).trans k.c2, (cell_row_eq h).trans k.c3, (cell_row_eq h).trans k.c4, (cell_row_eq h).trans k.c5⟩
theorem one_other' {w : World} {b c i : Nat} {v : Value} (hn : c ≠ b) : (w.setCell ⟨b, i, none⟩ v).heap[c]? = w.heap[c]? := heap_setCell_other w ⟨b, i, none⟩ c v (by intro e; simp at e; omega)
theorem wpT_two {F : Fence} {n : Nat} {P : Program} {ops : Array Oper} {Q : Exit → Act → World → Prop} {md : Region.Mode} {S : World → Prop} (i j : Nat) {k : Nat} {oi oj : Oper} {fuel : Nat} {listed : Array Bool} {a : Act} {w : World} (hi : ops[i]? = some oi) (hj : ops[j]? = some oj) (hg : Region.wanted oi (yielded ops a.tmps) = true) (hg' : Region.wanted oj (yielded ops a.tmps) = true) (hr : Region.ready md ops listed = [i, j])
    (h : oi.wpIn F n P a w (fun a' w' => ((listed.setIfInBounds i true).getD k true = false → S w') ∧ wpT F n P md ops Q S k fuel (listed.setIfInBounds i true) a' w') Q)
    (h' : oj.wpIn F n P a w (fun a' w' => ((listed.setIfInBounds j true).getD k true = false → S w') ∧ wpT F n P md ops Q S k fuel (listed.setIfInBounds j true) a' w') Q) : wpT F n P md ops Q S k (fuel + 1) listed a w := by
  refine ⟨fun h0 => (by rw [hr] at h0; cases h0), fun x hx => ?_⟩
  rw [hr] at hx
  have hx : x = i ∨ x = j := by simpa using hx
  rcases hx with rfl | rfl
  · unfold wpOpIn
    simp only [hi]
    rw [if_pos hg]
    exact h
  · unfold wpOpIn
    simp only [hj]
    rw [if_pos hg']
    exact h'
set_option maxRecDepth 100000 in
set_option maxHeartbeats 1000000 in
theorem stands_w (u : U) (s : Value) (w : World) (h : UAt w s u) :
    Calls Tryd.prog 15 #[uv u s] w fun e w' => e = .returned (stdV u) ∧ Below w.heap.size w w' := by
  have HV := Lib.hid (fun w1 (hB : Below w.heap.size w w1) => validU_w u s w1 (h.via hB))
  have HE : Hid (stdV u = match stdU u with
    | some s => .tuple #[conV u.id (-1) s u.back u.front, .bool true]
    | none => .tuple #[conV 0 0 ((0, 0), (0, 0)) 0 0, .bool false]) := Lib.hid rfl
  have HU : Hid (stdU u = if valU u = true then (if (lowP u.shape).length < 2 then none else some (ordP (vx (lowP u.shape) 0) (vx (lowP u.shape) 1))) else none) := Lib.hid rfl
  obtain ⟨W0, hW0⟩ : ∃ W0, W0 = w.alloc (uo u s) := ⟨_, rfl⟩
  have hX : UBox W0 w.heap.size u s := by rw [hW0]; exact UBox.new w u s
  have hb0 : Below w.heap.size w W0 := by rw [hW0]; exact alloc_below _ _
  have hsz : W0.heap.size = w.heap.size + 1 := by rw [hW0]; simp
  obtain ⟨W, hW⟩ : ∃ W, W = W0.alloc (.cells #[.int .i64 0, .int .i64 0, .int .i64 0, .int .i64 0, .int .i64 0, .int .i64 0, .int .i64 0, .int .i64 0] 42) := ⟨_, rfl⟩
  have hA : Below W0.heap.size W0 W := by rw [hW]; exact alloc_below _ _
  have hz := heap_alloc_new W0 (.cells #[.int .i64 0, .int .i64 0, .int .i64 0, .int .i64 0, .int .i64 0, .int .i64 0, .int .i64 0, .int .i64 0] 42)
  rw [← hW, hsz] at hz
  have HZ := Lib.hid hz
  have HB := Lib.hid (belowStep hb0 hA)
  have HX := Lib.hid (hX.via hA)
  have HAT := Lib.hid h.at_
  have HOK := Lib.hid h.at_.2
  have HS2 : Hid (W.heap.size = w.heap.size + 2) := Lib.hid (by rw [hW]; simp [hsz])
  obtain ⟨sa, sn, sc, hs⟩ : ∃ a n c, s = .slice a n c := by
    obtain ⟨⟨a, c', he, _⟩, _⟩ := h.at_
    exact ⟨_, _, _, he⟩
  subst hs
  obtain ⟨i0, hi, hz0, hz1, hz2⟩ := info_parts info_pt
  have HI := Lib.hid hi
  have HY0 := Lib.hid hz0
  have HY1 := Lib.hid hz1
  have HY2 := Lib.hid hz2
  rw [hW0] at hW
  clear hi hz0 hz1 hz2 hX hA hb0 hsz hW0 hz h
  generalize stdV u = sv at *
  unfold uo at hW
  unfold uv at *
  rcases hv : valU u with _ | _
  · have hsv : sv = .tuple #[conV 0 0 ((0, 0), (0, 0)) 0 0, .bool false] := by rw [HE.out, HU.out, hv]; rfl
    have HSV := Lib.hid hsv
    rw [hv] at HV
    clear hv hsv HE HU
    obtain ⟨i, k, m, sh, b, f⟩ := u
    dsimp only at *
    go_enter Tryd.func15, Tryd.ntmps15
    go_upto_region 1 with fail
    rw [← hW]
    clear hW
    obtain ⟨c0, c1, c2, c3, c4, c5⟩ := HX.out
    dsimp only at c0 c1 c2 c3 c4 c5
    go_wp2_with fail
    refine (HV.out _ HB.out).mono ?_
    rintro e w1 ⟨rfl, hB1⟩
    have HB1 := Lib.hid (belowStep HB.out hB1)
    have HZ1 := Lib.hid (heap_below hB1 HZ.out)
    clear hB1 c0 c1 c2 c3 c4 c5
    have z0 := cell_heap HZ1.out (i := 0) rfl
    have z1 := cell_heap HZ1.out (i := 1) rfl
    have z2 := cell_heap HZ1.out (i := 2) rfl
    have z3 := cell_heap HZ1.out (i := 3) rfl
    have z4 := cell_heap HZ1.out (i := 4) rfl
    have z5 := cell_heap HZ1.out (i := 5) rfl
    have z6 := cell_heap HZ1.out (i := 6) rfl
    have z7 := cell_heap HZ1.out (i := 7) rfl
    have f0 := frozen_of_row _ _ 0 _ _ HZ1.out
    have f1 := frozen_of_row _ _ 1 _ _ HZ1.out
    have f2 := frozen_of_row _ _ 2 _ _ HZ1.out
    have f3 := frozen_of_row _ _ 3 _ _ HZ1.out
    have f4 := frozen_of_row _ _ 4 _ _ HZ1.out
    have f5 := frozen_of_row _ _ 5 _ _ HZ1.out
    have f6 := frozen_of_row _ _ 6 _ _ HZ1.out
    have f7 := frozen_of_row _ _ 7 _ _ HZ1.out
    go_wp2_with fail
    exact stands_end HZ1.out HB1.out HSV.out
  · have vu := (valU_iff u).1 hv
    rw [hv] at HV HU
    rw [if_pos rfl] at HU
    have HLO : Hid (∀ l, (lowP l).length ≤ l.length) := Lib.hid lowP_len
    obtain ⟨i, k, m, sh, bk, fr⟩ := u
    dsimp only at *
    have HN : Hid (sn = sh.length ∧ 3 ≤ sh.length ∧ sh.length ≤ 8) := Lib.hid (by
      obtain ⟨⟨a, c', he, _⟩, _⟩ := HAT.out
      cases he
      exact ⟨rfl, vu.v.lo, vu.v.hi⟩)
    have HON := Lib.hid vu.v.on
    have HI5 : Hid (I64 i ∧ I64 bk ∧ I64 fr) := Lib.hid ⟨(valU_ok vu).id, (valU_ok vu).back, (valU_ok vu).front⟩
    obtain ⟨g, o, sc', he, _⟩ := at_some HAT.out (by have := vu.v.lo; dsimp only at this; omega)
    cases he
    clear hv vu
    have hn1 := HN.out.2.1
    have hn2 := HN.out.2.2
    go_enter Tryd.func15, Tryd.ntmps15
    go_upto_region 1 with fail
    rw [← hW]
    clear hW
    obtain ⟨c0, c1, c2, c3, c4, c5⟩ := HX.out
    dsimp only at c0 c1 c2 c3 c4 c5
    go_wp2_with fail
    refine (HV.out _ HB.out).mono ?_
    rintro e w1 ⟨rfl, hB1⟩
    have HB1 := Lib.hid (belowStep HB.out hB1)
    have HZ1 := Lib.hid (heap_below hB1 HZ.out)
    have HX1 := Lib.hid (HX.out.via hB1)
    have HAT1 := Lib.hid (HAT.out.via HB1.out)
    have HS1 : Hid (w.heap.size + 2 ≤ w1.heap.size) := Lib.hid (by have := hB1.size; have := HS2.out; omega)
    clear hB1 c0 c1 c2 c3 c4 c5
    obtain ⟨c0, c1, c2, c3, c4, c5⟩ := HX1.out
    dsimp only at c0 c1 c2 c3 c4 c5
    go_wp2_with fail
    clear c0 c1 c2 c3 c4 c5
    go_loopw [4, 16] (fun lw x wr => ∃ j : Nat, x = .int .i64 j ∧ j ≤ sh.length ∧ wr.ownsRow w1.heap.size 38 2 lw (lowP (sh.take j)).length (cellsP (lowP (sh.take j))) ∧ Below w1.heap.size w1 wr) (fun _ x _ => sh.length - (intOf x).toNat)
    case atStart => exact ⟨0, rfl, by omega, ⟨rfl, .inl ⟨rfl, rfl⟩⟩, Below.refl _ _⟩
    case round =>
      obtain ⟨j, rfl, hj, hown, hbb⟩ := hrel
      have HO := Lib.hid hown
      have HBB := Lib.hid hbb
      clear hown hbb
      by_cases hlt : j < sh.length
      · have hlt' : (j : Int) < sh.length := by omega
        obtain ⟨d0, d1⟩ := (at_cells (HAT1.out.via HBB.out)).2.2.2 j hlt
        have HTK : Hid (lowP (sh.take (j + 1)) = lowP (sh.take j) ++ if (vx sh j).2 = 0 then [vx sh j] else []) := Lib.hid (by rw [take_vx hlt, lowP_snoc])
        have HLL : Hid ((lowP (sh.take j)).length ≤ 8) := Lib.hid (by have := HLO.out (sh.take j); rw [List.length_take] at this; omega)
        obtain ⟨L', hL'⟩ : ∃ L', L' = lowP (sh.take (j + 1)) := ⟨_, rfl⟩
        rw [← hL'] at HTK
        have HLE := Lib.hid hL'
        clear hL'
        generalize lowP (sh.take j) = L at *
        generalize vx sh j = p at *
        obtain ⟨p1, p2⟩ := p
        dsimp only at d0 d1 HTK
        have HPB := Lib.hid (PBox.new wr p1 p2)
        have hA3 := alloc_below wr (.cells #[.int .i64 p1, .int .i64 p2] 38)
        have HO3 := Lib.hid (own_via HO.out hA3)
        have HB3 := Lib.hid (belowStep HBB.out hA3)
        have HSR := Lib.hid HBB.out.size
        clear hA3
        obtain ⟨W3, hW3⟩ : ∃ W3, W3 = wr.alloc (.cells #[.int .i64 p1, .int .i64 p2] 38) := ⟨_, rfl⟩
        obtain ⟨bp, hbp⟩ : ∃ bp, bp = wr.heap.size := ⟨_, rfl⟩
        go_upto_region 7 with fail
        rw [← hbp, ← hW3] at HPB ⊢
        rw [← hW3] at HO3 HB3
        rw [← hbp] at HSR
        clear hW3 hbp
        have e0 := HPB.out.c0
        have e1 := HPB.out.c1
        dsimp only at e0 e1
        by_cases h0 : p2 = 0
        · subst h0
          have HTL : Hid (L' = L ++ [(p1, 0)]) := Lib.hid (by rw [HTK.out]; simp)
          clear HTK
          have HO6 := Lib.hid (own_via HO3.out (alloc_below W3 (.cells #[.int .i64 p1, .int .i64 0] 38)))
          have HNW := Lib.hid (news_in (w := W3.alloc (.cells #[.int .i64 p1, .int .i64 0] 38)) (g := W3.heap.size) (o := 0) (l := [(p1, 0)]) (fun j hj => by obtain rfl : j = 0 := (by simp at hj; omega); exact ⟨cell_rowN W3 _ _ 0 rfl, cell_rowN W3 _ _ 1 rfl⟩))
          have HAP := Lib.hid (app_ok (n := L.length) (m := 1) (by have := HLL.out; omega))
          have HBZ : Hid (w1.heap.size ≤ (W3.alloc (.cells #[.int .i64 p1, .int .i64 0] 38)).heap.size) := Lib.hid (by have := HB3.out.size; simp; omega)
          have HBD := Lib.hid (belowStep HB3.out (alloc_below W3 (.cells #[.int .i64 p1, .int .i64 0] 38)))
          go_wp2_with (at_builtin; refine wpList_append_own _ rfl _ _ 25 rfl w1.heap.size 38 i0 (.agg #[.int .i64 0, .int .i64 0]) 2 16 Tryd.underlying25 HI.out HY0.out HY1.out HY2.out rfl (by decide) _ L.length (cellsP L) rfl HO6.out ⟨W3.heap.size, 0, none⟩ 1 1 (cellsP [(p1, 0)]) rfl rfl HNW.out (cellsP_one _) HAP.out.1 HAP.out.2 HBZ.out ?_)
          intro v5 w5 hown5 hgrow5 _
          have HBE := Lib.hid (below_grown HBD.out hgrow5 (fun k hk => (own_lt HO6.out k hk).1))
          rw [← cellsP_app] at hown5
          have HO5 := Lib.hid hown5
          clear hown5 hgrow5
          go_wp2_with fail
          go_roundw
          case rel => exact ⟨j + 1, by go_num, by omega, by rw [← HLE.out, HTL.out]; simpa using HO5.out, HBE.out⟩
          case measure => simp [intOf]; omega
        · have HTL : Hid (L' = L) := Lib.hid (by rw [HTK.out, if_neg h0, List.append_nil])
          clear HTK
          go_wp2_with fail
          go_roundw
          case rel => exact ⟨j + 1, by go_num, by omega, by rw [← HLE.out, HTL.out]; exact HO3.out, HB3.out⟩
          case measure => simp [intOf]; omega
      · have hjn : sh.take j = sh := List.take_of_length_le (by omega)
        rw [hjn] at HO
        have HP := Lib.hid (owns_at HO.out (lowP_ok HOK.out))
        have HLL : Hid ((lowP sh).length ≤ 8) := Lib.hid (by have := HLO.out sh; omega)
        clear hjn HLO
        generalize lowP sh = L at *
        obtain ⟨a, c', he, _⟩ := HP.out.1
        subst he
        have HBR := Lib.hid (belowStep HB1.out HBB.out)
        have HZR := Lib.hid (heap_below HBB.out HZ1.out)
        have HXR := Lib.hid (HX1.out.via HBB.out)
        by_cases h2 : L.length < 2
        · have h2' : (L.length : Int) < 2 := by omega
          have HSV : Hid (sv = .tuple #[conV 0 0 ((0, 0), (0, 0)) 0 0, .bool false]) := Lib.hid (by rw [HE.out, HU.out, if_pos h2])
          have z0 := cell_heap HZR.out (i := 0) rfl
          have z1 := cell_heap HZR.out (i := 1) rfl
          have z2 := cell_heap HZR.out (i := 2) rfl
          have z3 := cell_heap HZR.out (i := 3) rfl
          have z4 := cell_heap HZR.out (i := 4) rfl
          have z5 := cell_heap HZR.out (i := 5) rfl
          have z6 := cell_heap HZR.out (i := 6) rfl
          have z7 := cell_heap HZR.out (i := 7) rfl
          have f0 := frozen_of_row _ _ 0 _ _ HZR.out
          have f1 := frozen_of_row _ _ 1 _ _ HZR.out
          have f2 := frozen_of_row _ _ 2 _ _ HZR.out
          have f3 := frozen_of_row _ _ 3 _ _ HZR.out
          have f4 := frozen_of_row _ _ 4 _ _ HZR.out
          have f5 := frozen_of_row _ _ 5 _ _ HZR.out
          have f6 := frozen_of_row _ _ 6 _ _ HZR.out
          have f7 := frozen_of_row _ _ 7 _ _ HZR.out
          go_wp2_with fail
          exact stands_end HZR.out HBR.out HSV.out
        · have h2' : ¬ (L.length : Int) < 2 := by omega
          have HSV : Hid (sv = .tuple #[conV i (-1) (ordP (vx L 0) (vx L 1)) bk fr, .bool true]) := Lib.hid (by rw [HE.out, HU.out, if_neg h2])
          obtain ⟨ga, oa, ca, he, _, _, hcs⟩ := at_some HP.out (by omega)
          cases he
          have hc0 := hcs 0 (by omega)
          have hc1 := hcs 1 (by omega)
          clear hcs
          go_upto_region 12 with fail
          go_cut [7, 8] (fun x7 x8 wc => ∃ b7 b8 : Nat, x7 = .pointer (some ⟨b7, 0, none⟩) ∧ x8 = .pointer (some ⟨b8, 0, none⟩) ∧ b7 ≠ b8 ∧ w.heap.size + 2 ≤ b7 ∧ w.heap.size + 2 ≤ b8 ∧ PBox wc b7 (vx L 0) ∧ PBox wc b8 (vx L 1) ∧ Below wr.heap.size wr wc)
          case first =>
            obtain ⟨d0, d1⟩ := hc0
            obtain ⟨d2, d3⟩ := hc1
            generalize vx L 0 = p at *
            generalize vx L 1 = q at *
            obtain ⟨p1, p2⟩ := p
            obtain ⟨q1, q2⟩ := q
            dsimp only at d0 d1 d2 d3
            have hl2 : 1 < L.length := by omega
            have hl1 : 0 < L.length := by omega
            have hl2i : (1 : Int) < (L.length : Int) := by omega
            simp only [Nat.zero_mul, Nat.add_zero, Nat.one_mul] at d0 d1 d2 d3
            have HSW : Hid (w.heap.size + 2 ≤ wr.heap.size) := Lib.hid (by have := HBB.out.size; have := HS1.out; omega)
            refine (wpIn_wide (n := 5)).1 ?_
            refine wpIn_region_T (fun w' => Below wr.drew.heap.size wr.drew w') 9 (by kernel_rfl) ?_
            have hd : Below wr.heap.size wr wr.drew := (Below.refl _ _).drew
            have HBD := Lib.hid hd
            have HSD : Hid (w.heap.size + 2 ≤ wr.drew.heap.size) := Lib.hid (by have := hd.size; have := HSW.out; omega)
            generalize wr.drew = wd at *
            have d0 := keptBelow hd d0
            have d1 := keptBelow hd d1
            have d2 := keptBelow hd d2
            have d3 := keptBelow hd d3
            clear hd
            refine wpT_tk 0 32 (v := ?_) (Below.refl _ _) rfl rfl (by rfl) (hy := fun w hw => ?_) (h := ?_)
            rotate_left
            · go_simp; with_reducible rfl
            try simp only [Act.put, List.setIfInBounds_toArray, List.set_cons_zero, List.set_cons_succ]
            refine wpT_tk 1 33 (v := ?_) (Below.refl _ _) rfl rfl (by rfl) (hy := fun w hw => ?_) (h := ?_)
            rotate_left
            · go_simp; with_reducible rfl
            try simp only [Act.put, List.setIfInBounds_toArray, List.set_cons_zero, List.set_cons_succ]
            refine wpT_tk 2 34 (v := ?_) (Below.refl _ _) rfl rfl (by rfl) (hy := fun w hw => ?_) (h := ?_)
            rotate_left
            · have d0 := keptBelow hw d0; have d1 := keptBelow hw d1; have d2 := keptBelow hw d2; have d3 := keptBelow hw d3; go_simp; with_reducible rfl
            try simp only [Act.put, List.setIfInBounds_toArray, List.set_cons_zero, List.set_cons_succ]
            refine wpT_tk 3 35 (v := ?_) (Below.refl _ _) rfl rfl (by rfl) (hy := fun w hw => ?_) (h := ?_)
            rotate_left
            · go_simp; with_reducible rfl
            try simp only [Act.put, List.setIfInBounds_toArray, List.set_cons_zero, List.set_cons_succ]
            refine wpT_tk 4 36 (v := ?_) (Below.refl _ _) rfl rfl (by rfl) (hy := fun w hw => ?_) (h := ?_)
            rotate_left
            · go_simp; with_reducible rfl
            try simp only [Act.put, List.setIfInBounds_toArray, List.set_cons_zero, List.set_cons_succ]
            refine wpT_tk 5 37 (v := ?_) (Below.refl _ _) rfl rfl (by rfl) (hy := fun w hw => ?_) (h := ?_)
            rotate_left
            · have d0 := keptBelow hw d0; have d1 := keptBelow hw d1; have d2 := keptBelow hw d2; have d3 := keptBelow hw d3; go_simp; with_reducible rfl
            try simp only [Act.put, List.setIfInBounds_toArray, List.set_cons_zero, List.set_cons_succ]
            obtain ⟨Wz, hWz⟩ : ∃ Wz, Wz = (wd.alloc (.cells #[.int .i64 0, .int .i64 0] 38)).alloc (.cells #[.int .i64 0, .int .i64 0] 38) := ⟨_, rfl⟩
            have HBZ : Hid (Below wd.heap.size wd Wz) := Lib.hid (by rw [hWz]; exact belowStep (alloc_below _ _) (alloc_below _ _))
            have HA7 : Hid (PBox Wz wd.heap.size (0, 0)) := Lib.hid (by rw [hWz]; exact (PBox.new wd 0 0).via (alloc_below _ _))
            have HA8 : Hid (PBox Wz (wd.heap.size + 1) (0, 0)) := Lib.hid (by
              have h1 := PBox.new (wd.alloc (.cells #[.int .i64 0, .int .i64 0] 38)) 0 0
              rw [← hWz] at h1
              simpa using h1)
            refine wpT_two 6 7 rfl rfl (by rfl) (by rfl) (by kernel_rfl) ?_ ?_
            · go_simp
              refine ⟨alloc_below _ _, ?_⟩
              refine wpT_oneW 7 rfl (by rfl) (by kernel_rfl) ?_
              go_simp
              rw [← hWz]
              refine ⟨HBZ.out, ?_⟩
              clear hWz d0 d1 d2 d3
              have e0 := HA7.out.c0
              have e1 := HA7.out.c1
              have g0 := HA7.out.f0
              have g1 := HA7.out.f1
              have e2 := HA8.out.c0
              have e3 := HA8.out.c1
              have g2 := HA8.out.f0
              have g3 := HA8.out.f1
              dsimp only at e0 e1 e2 e3
              refine wpT_oneW 8 rfl (by rfl) (by kernel_rfl) ?_
              go_simp
              refine ⟨(HBZ.out.setCell (p := ⟨wd.heap.size, 0, none⟩) (by simp) _).setCell (p := ⟨wd.heap.size, 1, none⟩) (by simp) _, ?_⟩
              refine wpT_oneW 9 rfl (by rfl) (by kernel_rfl) ?_
              go_simp
              refine wpT_done (by kernel_rfl) ?_ _
              go_wp2_with fail
              go_meet
              case rel => exact ⟨wd.heap.size, wd.heap.size + 1, rfl, rfl, by omega, by have := HSD.out; omega, by have := HSD.out; omega, (((HA7.out.set p1 p2).other _ (by omega)).other _ (by omega)), (((HA8.out.other _ (by omega)).other _ (by omega)).set q1 q2), belowStep HBD.out ((((HBZ.out.setCell (p := ⟨wd.heap.size, 0, none⟩) (by simp) _).setCell (p := ⟨wd.heap.size, 1, none⟩) (by simp) _).setCell (p := ⟨wd.heap.size + 1, 0, none⟩) (by simp) _).setCell (p := ⟨wd.heap.size + 1, 1, none⟩) (by simp) _)⟩
            · go_simp
              refine ⟨alloc_below _ _, ?_⟩
              refine wpT_oneW 6 rfl (by rfl) (by kernel_rfl) ?_
              go_simp
              rw [← hWz]
              refine ⟨HBZ.out, ?_⟩
              clear hWz d0 d1 d2 d3
              have e0 := HA7.out.c0
              have e1 := HA7.out.c1
              have g0 := HA7.out.f0
              have g1 := HA7.out.f1
              have e2 := HA8.out.c0
              have e3 := HA8.out.c1
              have g2 := HA8.out.f0
              have g3 := HA8.out.f1
              dsimp only at e0 e1 e2 e3
              refine wpT_oneW 8 rfl (by rfl) (by kernel_rfl) ?_
              go_simp
              refine ⟨(HBZ.out.setCell (p := ⟨wd.heap.size + 1, 0, none⟩) (by simp) _).setCell (p := ⟨wd.heap.size + 1, 1, none⟩) (by simp) _, ?_⟩
              refine wpT_oneW 9 rfl (by rfl) (by kernel_rfl) ?_
              go_simp
              refine wpT_done (by kernel_rfl) ?_ _
              go_wp2_with fail
              go_meet
              case rel => exact ⟨wd.heap.size + 1, wd.heap.size, rfl, rfl, by omega, by have := HSD.out; omega, by have := HSD.out; omega, (((HA8.out.set p1 p2).other _ (by omega)).other _ (by omega)), (((HA7.out.other _ (by omega)).other _ (by omega)).set q1 q2), belowStep HBD.out ((((HBZ.out.setCell (p := ⟨wd.heap.size + 1, 0, none⟩) (by simp) _).setCell (p := ⟨wd.heap.size + 1, 1, none⟩) (by simp) _).setCell (p := ⟨wd.heap.size, 0, none⟩) (by simp) _).setCell (p := ⟨wd.heap.size, 1, none⟩) (by simp) _)⟩
          case rest =>
            obtain ⟨b7, b8, rfl, rfl, hn, s7, s8, hp, hq, hb⟩ := hcut
            have HBC := Lib.hid (belowStep HBR.out hb)
            have HZC := Lib.hid (heap_below hb HZR.out)
            have HXC := Lib.hid (HXR.out.via hb)
            have HP7 := Lib.hid hp
            have HP8 := Lib.hid hq
            clear hp hq hb hc0 hc1
            generalize vx L 0 = p at *
            generalize vx L 1 = q at *
            obtain ⟨p1, p2⟩ := p
            obtain ⟨q1, q2⟩ := q
            have hn' : b8 ≠ b7 := fun e => hn e.symm
            have e0 := HP7.out.c0
            have e1 := HP7.out.c1
            have g0 := HP7.out.f0
            have g1 := HP7.out.f1
            have e2 := HP8.out.c0
            have e3 := HP8.out.c1
            have g2 := HP8.out.f0
            have g3 := HP8.out.f1
            dsimp only at e0 e1 e2 e3
            by_cases hx : q1 < p1
            · have HSW : Hid (sv = .tuple #[conV i (-1) ((q1, q2), (p1, p2)) bk fr, .bool true]) := Lib.hid (by rw [HSV.out, ordP, if_pos hx])
              have HBS : Hid (Below w.heap.size w ((((wc.setCell ⟨b7, 0, none⟩ (.int .i64 q1)).setCell ⟨b7, 1, none⟩ (.int .i64 q2)).setCell ⟨b8, 0, none⟩ (.int .i64 p1)).setCell ⟨b8, 1, none⟩ (.int .i64 p2))) := Lib.hid ((((HBC.out.setCell (p := ⟨b7, 0, none⟩) (by simp; omega) _).setCell (p := ⟨b7, 1, none⟩) (by simp; omega) _).setCell (p := ⟨b8, 0, none⟩) (by simp; omega) _).setCell (p := ⟨b8, 1, none⟩) (by simp; omega) _)
              obtain ⟨Wd, hWd⟩ : ∃ Wd, Wd = ((((wc.setCell ⟨b7, 0, none⟩ (.int .i64 q1)).setCell ⟨b7, 1, none⟩ (.int .i64 q2)).setCell ⟨b8, 0, none⟩ (.int .i64 p1)).setCell ⟨b8, 1, none⟩ (.int .i64 p2)) := ⟨_, rfl⟩
              have hro : ∀ c, c < w.heap.size + 2 → Wd.heap[c]? = wc.heap[c]? := fun c hc => by
                rw [hWd, one_other' (by omega), one_other' (by omega), one_other' (by omega), one_other' (by omega)]
              have HZD := Lib.hid ((hro _ (by omega)).trans HZC.out)
              have HXD : Hid (UBox Wd w.heap.size _ _) := Lib.hid (ubox_row (hro _ (by omega)) HXC.out)
              have HQ7 : Hid (PBox Wd b7 (q1, q2)) := Lib.hid (by rw [hWd]; exact ((HP7.out.set q1 q2).other _ hn).other _ hn)
              have HQ8 : Hid (PBox Wd b8 (p1, p2)) := Lib.hid (by rw [hWd]; exact ((HP8.out.other _ hn').other _ hn').set p1 p2)
              rw [← hWd] at HBS
              clear hro
              go_upto_region 15 with fail
              rw [← hWd]
              clear hWd e0 e1 e2 e3 g0 g1 g2 g3
              have e0 := HQ7.out.c0
              have e1 := HQ7.out.c1
              have e2 := HQ8.out.c0
              have e3 := HQ8.out.c1
              dsimp only at e0 e1 e2 e3
              obtain ⟨c0, c1, c2, c3, c4, c5⟩ := HXD.out
              dsimp only at c0 c1 c2 c3 c4 c5
              have z0 := cell_heap HZD.out (i := 0) rfl
              have z1 := cell_heap HZD.out (i := 1) rfl
              have z2 := cell_heap HZD.out (i := 2) rfl
              have z3 := cell_heap HZD.out (i := 3) rfl
              have z4 := cell_heap HZD.out (i := 4) rfl
              have z5 := cell_heap HZD.out (i := 5) rfl
              have z6 := cell_heap HZD.out (i := 6) rfl
              have z7 := cell_heap HZD.out (i := 7) rfl
              have f0 := frozen_of_row _ _ 0 _ _ HZD.out
              have f1 := frozen_of_row _ _ 1 _ _ HZD.out
              have f2 := frozen_of_row _ _ 2 _ _ HZD.out
              have f3 := frozen_of_row _ _ 3 _ _ HZD.out
              have f4 := frozen_of_row _ _ 4 _ _ HZD.out
              have f5 := frozen_of_row _ _ 5 _ _ HZD.out
              have f6 := frozen_of_row _ _ 6 _ _ HZD.out
              have f7 := frozen_of_row _ _ 7 _ _ HZD.out
              go_wp2_with fail
              exact stands_end HZD.out HBS.out HSW.out
            · have HSW : Hid (sv = .tuple #[conV i (-1) ((p1, p2), (q1, q2)) bk fr, .bool true]) := Lib.hid (by rw [HSV.out, ordP, if_neg hx])
              obtain ⟨c0, c1, c2, c3, c4, c5⟩ := HXC.out
              dsimp only at c0 c1 c2 c3 c4 c5
              have z0 := cell_heap HZC.out (i := 0) rfl
              have z1 := cell_heap HZC.out (i := 1) rfl
              have z2 := cell_heap HZC.out (i := 2) rfl
              have z3 := cell_heap HZC.out (i := 3) rfl
              have z4 := cell_heap HZC.out (i := 4) rfl
              have z5 := cell_heap HZC.out (i := 5) rfl
              have z6 := cell_heap HZC.out (i := 6) rfl
              have z7 := cell_heap HZC.out (i := 7) rfl
              have f0 := frozen_of_row _ _ 0 _ _ HZC.out
              have f1 := frozen_of_row _ _ 1 _ _ HZC.out
              have f2 := frozen_of_row _ _ 2 _ _ HZC.out
              have f3 := frozen_of_row _ _ 3 _ _ HZC.out
              have f4 := frozen_of_row _ _ 4 _ _ HZC.out
              have f5 := frozen_of_row _ _ 5 _ _ HZC.out
              have f6 := frozen_of_row _ _ 6 _ _ HZC.out
              have f7 := frozen_of_row _ _ 7 _ _ HZC.out
              go_wp2_with fail
              exact stands_end HZC.out HBC.out HSW.out
end Go.Proofs.YtcamncipkofgkaaDoor
/- UntMove: The contract of unit.Move. -/
namespace Unt
open Pln
def movU (u : U) (dx dy : Int) : Option U := if valU u = true then (moveP u.shape dx dy).map fun l => { u with shape := l } else none
end Unt
namespace Go.Proofs.YtcamncipkofgkaaDoor
open Go.RowKit Go.Shelf Pln Unt
def zeroU : Value := .agg #[.int .i64 0, .int .i64 0, .int .i64 0, .slice none 0 0, .int .i64 0, .int .i64 0]
def MoveUR (o : Option U) (w : World) (e : Ending) (w' : World) : Prop :=
  (∃ m r, o = some m ∧ e = .returned (.tuple #[uv m r, .int .i64 0]) ∧ PtsAt w' r m.shape ∧ Below w.heap.size w w') ∨
  (o = none ∧ e = .returned (.tuple #[zeroU, .int .i64 80]) ∧ Below w.heap.size w w')
theorem moveU_end {w W : World} {x0 x1 x2 x3 x4 x5 : Value} {y : Int} {tm : Array Value} {Q : Ending → World → Prop} (hz : W.heap[w.heap.size + 1]? = some (.cells #[.int .i64 0, .int .i64 0, .int .i64 0, .slice none 0 0, .int .i64 0, .int .i64 0] 27 (0, 0)))
    (hQ : Q (.returned (.tuple #[.agg #[x0, x1, x2, x3, x4, x5], .int .i64 y])) ((((((W.setCell ⟨w.heap.size + 1, 0, none⟩ x0).setCell ⟨w.heap.size + 1, 1, none⟩ x1).setCell ⟨w.heap.size + 1, 2, none⟩ x2).setCell ⟨w.heap.size + 1, 3, none⟩ x3).setCell ⟨w.heap.size + 1, 4, none⟩ x4).setCell ⟨w.heap.size + 1, 5, none⟩ x5))
    (h4 : tm[6]?.getD undef = .pointer (some ⟨w.heap.size + 1, 0, none⟩) := by rfl) (h5 : tm[7]?.getD undef = .int .i64 y := by rfl) :
    bodyPost Tryd.prog Tryd.f30 Q .ret { tmps := tm, defers := [] }
      ((((((W.setCell ⟨w.heap.size + 1, 0, none⟩ x0).setCell ⟨w.heap.size + 1, 1, none⟩ x1).setCell ⟨w.heap.size + 1, 2, none⟩ x2).setCell ⟨w.heap.size + 1, 3, none⟩ x3).setCell ⟨w.heap.size + 1, 4, none⟩ x4).setCell ⟨w.heap.size + 1, 5, none⟩ x5) := by
  have z0 := cell_heap hz (i := 0) rfl
  have z1 := cell_heap hz (i := 1) rfl
  have z2 := cell_heap hz (i := 2) rfl
  have z3 := cell_heap hz (i := 3) rfl
  have z4 := cell_heap hz (i := 4) rfl
  have z5 := cell_heap hz (i := 5) rfl
  have f0 := frozen_of_row _ _ 0 _ _ hz
  have f1 := frozen_of_row _ _ 1 _ _ hz
  have f2 := frozen_of_row _ _ 2 _ _ hz
  have f3 := frozen_of_row _ _ 3 _ _ hz
  have f4 := frozen_of_row _ _ 4 _ _ hz
  have f5 := frozen_of_row _ _ 5 _ _ hz
  exact bodyPost_ret (v := .tuple #[.agg #[x0, x1, x2, x3, x4, x5], .int .i64 y]) (by simp [results, Tryd.results30, go_sem, h4, h5, z0, z1, z2, z3, z4, z5]) rfl hQ
theorem pts_set {w : World} {g o n c b i : Nat} {l : List Pt} {y : Value} (h : PtsAt w (.slice (some ⟨g, o, none⟩) n c) l) (hn : g ≠ b) : PtsAt (w.setCell ⟨b, i, none⟩ y) (.slice (some ⟨g, o, none⟩) n c) l := by
  obtain ⟨⟨a, c', he, h1, h2, h3⟩, h4⟩ := h
  refine ⟨⟨a, c', he, h1, h2, ?_⟩, h4⟩
  rcases h3 with h3 | ⟨g', o', h5, h6⟩
  · exact .inl h3
  · rw [h5] at he
    cases he
    refine .inr ⟨g, o, h5, fun j hj => ?_⟩
    obtain ⟨p, q⟩ := h6 j hj
    have K : ∀ k v, w.cell? ⟨g, k, none⟩ = some v → (w.setCell ⟨b, i, none⟩ y).cell? ⟨g, k, none⟩ = some v := fun k v hk => by
      unfold World.cell? at hk ⊢
      rw [heap_setCell_other w ⟨b, i, none⟩ g y (by simpa using hn)]
      exact hk
    exact ⟨K _ _ p, K _ _ q⟩
theorem pts_apart {w : World} {g o n c b : Nat} {l : List Pt} {x0 x1 x2 x4 x5 : Value} {a' : Option Addr} {n' c' : Nat} {t : TypeId} {fr : Nat × Nat} (h : PtsAt w (.slice (some ⟨g, o, none⟩) n c) l) (hl : 3 ≤ l.length)
    (hb : w.heap[b]? = some (.cells #[x0, x1, x2, .slice a' n' c', x4, x5] t fr)) : g ≠ b := by
  rintro rfl
  obtain ⟨_, _, _, hc⟩ := at_cells h
  have h2 := (hc 2 (by omega)).2
  have h3 := (hc 1 (by omega)).2
  have K : ∀ k v, w.cell? ⟨g, k, none⟩ = some v → (#[x0, x1, x2, .slice a' n' c', x4, x5] : Array Value)[k]? = some v := fun k v hk => (cell_of_row w g k _ t fr hb).symm.trans hk
  have e2 := K _ _ h2
  have e3 := K _ _ h3
  have ho : o = 0 := by
    have := (Array.getElem?_eq_some_iff.1 e2).1
    simp at this; omega
  subst ho
  simp at e3
theorem below_six {w W : World} {x0 x1 x2 x3 x4 x5 : Value} (hB : Below w.heap.size w W) : Below w.heap.size w ((((((W.setCell ⟨w.heap.size + 1, 0, none⟩ x0).setCell ⟨w.heap.size + 1, 1, none⟩ x1).setCell ⟨w.heap.size + 1, 2, none⟩ x2).setCell ⟨w.heap.size + 1, 3, none⟩ x3).setCell ⟨w.heap.size + 1, 4, none⟩ x4).setCell ⟨w.heap.size + 1, 5, none⟩ x5) :=
  ((((((hB.setCell (p := ⟨w.heap.size + 1, 0, none⟩) (by simp) _).setCell (p := ⟨w.heap.size + 1, 1, none⟩) (by simp) _).setCell (p := ⟨w.heap.size + 1, 2, none⟩) (by simp) _).setCell (p := ⟨w.heap.size + 1, 3, none⟩) (by simp) _).setCell (p := ⟨w.heap.size + 1, 4, none⟩) (by simp) _).setCell (p := ⟨w.heap.size + 1, 5, none⟩) (by simp) _)
set_option maxRecDepth 100000 in
set_option maxHeartbeats 1000000 in
theorem moveU_w (u : U) (s : Value) (dx dy : Int) (hx : I64 dx) (hy : I64 dy) (w : World) (h1 : UAt w s u) :
    Calls Tryd.prog 30 #[uv u s, .int .i64 dx, .int .i64 dy] w (MoveUR (movU u dx dy) w) := by
  have HV := Lib.hid (fun w1 (hB : Below w.heap.size w w1) => validU_w u s w1 (h1.via hB))
  have HO := Lib.hid (fun w1 (hB : Below w.heap.size w w1) => move_w u.shape h1.ok.len dx dy hx hy s w1 (h1.at_.via hB))
  have HU : Hid (movU u dx dy = if valU u = true then (moveP u.shape dx dy).map fun l => { u with shape := l } else none) := Lib.hid rfl
  obtain ⟨W0, hW0⟩ : ∃ W0, W0 = w.alloc (uo u s) := ⟨_, rfl⟩
  have hX : UBox W0 w.heap.size u s := by rw [hW0]; exact UBox.new w u s
  have hb0 : Below w.heap.size w W0 := by rw [hW0]; exact alloc_below _ _
  have hsz : W0.heap.size = w.heap.size + 1 := by rw [hW0]; simp
  have hrow : W0.heap[w.heap.size]? = some (uo u s) := by rw [hW0]; exact heap_alloc_new w (uo u s)
  obtain ⟨W, hW⟩ : ∃ W, W = W0.alloc (.cells #[.int .i64 0, .int .i64 0, .int .i64 0, .slice none 0 0, .int .i64 0, .int .i64 0] 27) := ⟨_, rfl⟩
  have hA : Below W0.heap.size W0 W := by rw [hW]; exact alloc_below _ _
  have hz := heap_alloc_new W0 (.cells #[.int .i64 0, .int .i64 0, .int .i64 0, .slice none 0 0, .int .i64 0, .int .i64 0] 27)
  rw [← hW, hsz] at hz
  have HZ := Lib.hid hz
  have HX := Lib.hid (hX.via hA)
  have HB := Lib.hid (belowStep hb0 hA)
  have HRW := Lib.hid (heap_below hA hrow)
  rw [hW0] at hW
  obtain ⟨as_, cs_, hs, _⟩ := h1.at_.at_
  subst hs
  clear h1 hA hsz hW0 hz hX hb0 hrow
  obtain ⟨o, ho⟩ : ∃ o, o = movU u dx dy := ⟨_, rfl⟩
  rw [← ho] at HU ⊢
  clear ho hx hy
  unfold uo at hW HRW
  unfold uv at *
  rcases hv : valU u with _ | _
  · rw [hv] at HU HV
    have HU2 : Hid (o = none) := Lib.hid HU.out
    clear hv HU HO
    obtain ⟨i, k, m, sh, b, f⟩ := u
    dsimp only at *
    go_enter Tryd.func30, Tryd.ntmps30
    go_upto_region 1 with fail
    rw [← hW]
    clear hW
    obtain ⟨c0, c1, c2, c3, c4, c5⟩ := HX.out
    dsimp only at c0 c1 c2 c3 c4 c5
    go_wp2_with fail
    refine (HV.out _ HB.out).mono ?_
    rintro e w1 ⟨rfl, hB1⟩
    have HB1 := Lib.hid (belowStep HB.out hB1)
    have HZ1 := Lib.hid (heap_below hB1 HZ.out)
    clear hB1 c0 c1 c2 c3 c4 c5
    have z0 := cell_heap HZ1.out (i := 0) rfl
    have z1 := cell_heap HZ1.out (i := 1) rfl
    have z2 := cell_heap HZ1.out (i := 2) rfl
    have z3 := cell_heap HZ1.out (i := 3) rfl
    have z4 := cell_heap HZ1.out (i := 4) rfl
    have z5 := cell_heap HZ1.out (i := 5) rfl
    have f0 := frozen_of_row _ _ 0 _ _ HZ1.out
    have f1 := frozen_of_row _ _ 1 _ _ HZ1.out
    have f2 := frozen_of_row _ _ 2 _ _ HZ1.out
    have f3 := frozen_of_row _ _ 3 _ _ HZ1.out
    have f4 := frozen_of_row _ _ 4 _ _ HZ1.out
    have f5 := frozen_of_row _ _ 5 _ _ HZ1.out
    go_wp2_with fail
    exact moveU_end HZ1.out (.inr ⟨HU2.out, rfl, below_six HB1.out⟩)
  · rw [hv] at HU HV
    have HM3 : Hid (∀ l, moveP u.shape dx dy = some l → 3 ≤ l.length) := Lib.hid (fun l hl => by
      unfold moveP at hl
      split at hl
      · rename_i hv
        split at hl
        · cases hl; unfold shf; rw [List.length_map]; exact ((valB_iff _).1 hv).lo
        · cases hl
      · cases hl)
    have HU2 : Hid (o = (moveP u.shape dx dy).map fun l => { u with shape := l }) := Lib.hid HU.out
    clear hv HU
    obtain ⟨i, k, m, sh, b, f⟩ := u
    dsimp only at *
    go_enter Tryd.func30, Tryd.ntmps30
    go_upto_region 1 with fail
    rw [← hW]
    clear hW
    obtain ⟨c0, c1, c2, c3, c4, c5⟩ := HX.out
    dsimp only at c0 c1 c2 c3 c4 c5
    go_wp2_with fail
    refine (HV.out _ HB.out).mono ?_
    rintro e w1 ⟨rfl, hB1⟩
    have HB1 := Lib.hid (belowStep HB.out hB1)
    have HZ1 := Lib.hid (heap_below hB1 HZ.out)
    have HRW1 := Lib.hid (heap_below hB1 HRW.out)
    have c3 := keptBelow hB1 c3
    clear hB1 c0 c1 c2 c4 c5
    go_wp2_with fail
    refine (HO.out _ HB1.out).mono ?_
    intro e w2 hr
    rcases hr with ⟨l, r, hl, rfl, hr, hB2⟩ | ⟨hl, rfl, hB2⟩
    · have HL3 : Hid (3 ≤ l.length) := Lib.hid (HM3.out l hl)
      rw [hl] at HU2
      have HR := Lib.hid hr
      obtain ⟨⟨ar, cr, rfl, _, _, _⟩, _⟩ := id hr
      obtain ⟨n, hn⟩ : ∃ n, n = l.length := ⟨_, rfl⟩
      rw [← hn] at HR ⊢
      clear hn
      have HB2 := Lib.hid (belowStep HB1.out hB2)
      have HZ2 := Lib.hid (heap_below hB2 HZ1.out)
      have HRW2 := Lib.hid (heap_below hB2 HRW1.out)
      clear hr hB2 c3 hl
      have g0 := cell_heap HRW2.out (i := 0) rfl
      have g1 := cell_heap HRW2.out (i := 1) rfl
      have g2 := cell_heap HRW2.out (i := 2) rfl
      have g3 := cell_heap HRW2.out (i := 3) rfl
      have g4 := cell_heap HRW2.out (i := 4) rfl
      have g5 := cell_heap HRW2.out (i := 5) rfl
      have k3 := frozen_of_row _ _ 3 _ _ HRW2.out
      have z0 := cell_heap HZ2.out (i := 0) rfl
      have z1 := cell_heap HZ2.out (i := 1) rfl
      have z2 := cell_heap HZ2.out (i := 2) rfl
      have z3 := cell_heap HZ2.out (i := 3) rfl
      have z4 := cell_heap HZ2.out (i := 4) rfl
      have z5 := cell_heap HZ2.out (i := 5) rfl
      have f0 := frozen_of_row _ _ 0 _ _ HZ2.out
      have f1 := frozen_of_row _ _ 1 _ _ HZ2.out
      have f2 := frozen_of_row _ _ 2 _ _ HZ2.out
      have f3 := frozen_of_row _ _ 3 _ _ HZ2.out
      have f4 := frozen_of_row _ _ 4 _ _ HZ2.out
      have f5 := frozen_of_row _ _ 5 _ _ HZ2.out
      go_wp2_with fail
      refine moveU_end ((heap_setCell_other _ _ _ _ (by simp)).trans HZ2.out) (.inl ⟨_, _, HU2.out, rfl, ?_, below_six (HB2.out.setCell (p := ⟨w.heap.size, 3, none⟩) (by simp) _)⟩)
      have h3 : 3 ≤ l.length := HL3.out
      obtain ⟨g, o', rfl⟩ : ∃ g o', ar = some ⟨g, o', none⟩ := by
        obtain ⟨g, o', c', he, _⟩ := at_some HR.out (by omega)
        cases he; exact ⟨g, o', rfl⟩
      have n1 := pts_apart HR.out h3 HRW2.out
      have n2 := pts_apart HR.out h3 HZ2.out
      exact pts_set (pts_set (pts_set (pts_set (pts_set (pts_set (pts_set HR.out n1) n2) n2) n2) n2) n2) n2
    · rw [hl] at HU2
      have HB2 := Lib.hid (belowStep HB1.out hB2)
      have HZ2 := Lib.hid (heap_below hB2 HZ1.out)
      clear hB2 c3 hl
      have z0 := cell_heap HZ2.out (i := 0) rfl
      have z1 := cell_heap HZ2.out (i := 1) rfl
      have z2 := cell_heap HZ2.out (i := 2) rfl
      have z3 := cell_heap HZ2.out (i := 3) rfl
      have z4 := cell_heap HZ2.out (i := 4) rfl
      have z5 := cell_heap HZ2.out (i := 5) rfl
      have f0 := frozen_of_row _ _ 0 _ _ HZ2.out
      have f1 := frozen_of_row _ _ 1 _ _ HZ2.out
      have f2 := frozen_of_row _ _ 2 _ _ HZ2.out
      have f3 := frozen_of_row _ _ 3 _ _ HZ2.out
      have f4 := frozen_of_row _ _ 4 _ _ HZ2.out
      have f5 := frozen_of_row _ _ 5 _ _ HZ2.out
      go_wp2_with fail
      exact moveU_end HZ2.out (.inr ⟨HU2.out, rfl, below_six HB2.out⟩)
end Go.Proofs.YtcamncipkofgkaaDoor
