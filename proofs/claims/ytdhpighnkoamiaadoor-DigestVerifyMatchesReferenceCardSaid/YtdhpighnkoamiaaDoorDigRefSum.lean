/- The contracts of the reference's Sum, Leaf, Node and Chain. -/
import Derived.Test.YtdhpighnkoamiaaDoorDigRefBlock
namespace Go.Proofs.YtdhpighnkoamiaaDoor
open Go.RowKit Putlog

theorem ownsRow_u8 {w : World} {B : Nat} {v : Value} {l : List UInt8} (h : w.ownsRow B 5 1 v l.length (u8l l)) (h0 : 0 < l.length) : ∃ g c, v = .slice (some ⟨g, 0, none⟩) l.length c ∧ B ≤ g ∧ l.length ≤ c ∧ (c : Int) ≤ 9223372036854775807 ∧ U8At w g 0 l := by
  obtain ⟨_, hv | ⟨g, cap, cur, hv, hg, hh, h1, h2, h3, h4⟩⟩ := h
  · omega
  · refine ⟨g, cap, hv, hg, h1, by unfold maxLen at h2; omega, fun j hj => ?_⟩
    rw [Nat.zero_add, cell_of_row w g j cur _ (0, 0) hh]
    rw [Nat.mul_one] at h4
    have h5 : (cur.toList.take l.length)[j]? = (u8l l)[j]? := by rw [h4]
    rw [List.getElem?_take_of_lt hj] at h5
    rw [Array.getElem?_toList] at h5
    rw [h5]
    simp [u8l, List.getD_eq_getElem?_getD, hj]
/-- A piece of bytes that lie. -/
theorem U8At.piece {w : World} {b o : Nat} {l : List UInt8} (h : U8At w b o l) (k n : Nat) : U8At w b (o + k) ((l.drop k).take n) := fun j hj => by
  have hj' : j < n ∧ k + j < l.length := by simp at hj; omega
  have := h (k + j) hj'.2
  rw [Nat.add_assoc, this]
  simp [List.getD_eq_getElem?_getD, hj'.1]
/-- The state behind some blocks. -/
def shaAt (l : List UInt8) (k : Nat) : W8 := (chunks k (extR l)).foldl mix iv
theorem shaAt_succ (l : List UInt8) (k : Nat) : shaAt l (k + 1) = mix (shaAt l k) (((extR l).drop (64 * k)).take 64) := by
  unfold shaAt
  rw [chunks_snoc, List.foldl_append]; rfl
theorem shaAt_end (l : List UInt8) : shaAt l ((extR l).length / 64) = (blocksOf l).foldl mix iv := by
  unfold shaAt; rw [extR_blocks]
theorem shaAt_ok (l : List UInt8) (k : Nat) : (shaAt l k).ok := fold_ok _ _ iv_ok

theorem news4 (W : World) (a b c d : Value) (t : TypeId) : ∀ j u, [a, b, c, d][j]? = some u → (W.alloc (.cells #[a, b, c, d] t)).cell? ((⟨W.heap.size, 0, none⟩ : Addr).add j) = some u := by
  intro j u h
  have hA := ArrAt.new W #[a, b, c, d] t
  match j, h with
  | 0, h | 1, h | 2, h | 3, h => exact hA.cell (by simpa using h)
theorem one4 (a b c d : Int) : ∀ u ∈ [Value.int .u8 a, .int .u8 b, .int .u8 c, .int .u8 d], u.oneCell' = true := by
  intro u hu; simp at hu; rcases hu with rfl | rfl | rfl | rfl <;> rfl
theorem u8l_append (l r : List UInt8) : u8l (l ++ r) = u8l l ++ u8l r := by simp [u8l]
theorem sum_b1 {n : Nat} (h : n ≤ 100000) : n + 4 ≤ maxLen := by unfold maxLen; omega
theorem sum_b2 {n : Nat} (h : n ≤ 100000) : (n + 4) * 1 ≤ 140737488355328 := by omega
theorem app_next4 {w wr w3 : World} {l : List UInt8} {a b c d : UInt8} {v v' : Value} {o : Obj} (hO : wr.ownsRow w.heap.size 5 1 v l.length (u8l l)) (hB : Below w.heap.size w wr)
    (hown : w3.ownsRow w.heap.size 5 1 v' (l.length + 4) (u8l l ++ [.int .u8 (a.toNat : Nat), .int .u8 (b.toNat : Nat), .int .u8 (c.toNat : Nat), .int .u8 (d.toNat : Nat)])) (hg : (wr.alloc o).grownBy w3 v.ownBlock) :
    w3.ownsRow w.heap.size 5 1 v' (l ++ [a, b, c, d]).length (u8l (l ++ [a, b, c, d])) ∧ Below w.heap.size w w3 := by
  refine ⟨?_, belowGrown (hB.alloc hB.size o) (hO.alloc o) hg⟩
  rw [u8l_append, List.length_append]
  exact hown
theorem digest_step (V : W8) {j : Nat} (h : j < 8) : (digestOf V).take (4 * j) ++ [(digestOf V).getD (4 * j) 0, (digestOf V).getD (4 * j + 1) 0, (digestOf V).getD (4 * j + 2) 0, (digestOf V).getD (4 * j + 3) 0] = (digestOf V).take (4 * (j + 1)) := by
  have hl := digestOf_len V
  have g : ∀ i (hi : i < (digestOf V).length), (digestOf V).getD i 0 = (digestOf V)[i] := fun i hi => by simp [List.getD_eq_getElem?_getD, hi]
  rw [g _ (by omega), g _ (by omega), g _ (by omega), g _ (by omega), show 4 * (j + 1) = 4 * j + 1 + 1 + 1 + 1 by omega]
  rw [List.take_succ_eq_append_getElem (i := 4 * j + 1 + 1 + 1) (by omega), List.take_succ_eq_append_getElem (i := 4 * j + 1 + 1) (by omega), List.take_succ_eq_append_getElem (i := 4 * j + 1) (by omega), List.take_succ_eq_append_getElem (i := 4 * j) (by omega)]
  simp only [List.append_assoc, List.cons_append, List.nil_append]
theorem digest_byte (V : W8) {j t : Nat} (h : j < 8) (ht : t < 4) : ((digestOf V).getD (4 * j + t) 0).toNat = V.list.getD j 0 / 2 ^ (24 - 8 * t) % 256 := by
  rw [digestOf_get (by omega), show (4 * j + t) / 4 = j by omega, show (4 * j + t) % 4 = t by omega]
theorem u8_wrap (n : Int) (b : Nat) (h : n % 256 = b) : IntKind.u8.wrap n = b := by rw [IntKind.wrap_u8]; exact h
theorem shaB_digest (s : ByteArray) : (⟨(digestOf (shaAt s.data.toList ((extR s.data.toList).length / 64))).toArray⟩ : ByteArray) = shaB s := by
  rw [shaAt_end]; rfl
theorem shaAt_zero (l : List UInt8) : shaAt l 0 = iv := rfl

set_option maxRecDepth 100000 in
set_option maxHeartbeats 8000000 in
theorem rsum_any (s : ByteArray) (w : World) (hs : (s.size : Int) ≤ 5000) :
    Calls Tryd.prog 14 #[.string s] w fun e w' => e = .returned (.string (shaB s)) ∧ Below w.heap.size w w' := by
  obtain ⟨i0, hi0, hz0, hz1, hz2⟩ := info_parts rinfo_u8
  have HI0 := Lib.hid hi0
  have HZ0 := Lib.hid hz0
  have HZ1 := Lib.hid hz1
  have HZ2 := Lib.hid hz2
  clear hi0 hz0 hz1 hz2
  obtain ⟨R, hR⟩ : ∃ R, R = shaB s := ⟨_, rfl⟩
  rw [← hR]
  have HR := Lib.hid hR
  clear hR
  go_enter Tryd.func14, Tryd.ntmps14
  go_wp2_with fail
  have hlit := u32At_lit w iv.list
  obtain ⟨W0, hW0⟩ : ∃ W0, W0 = w.alloc (.cells (u32s iv.list) 48) := ⟨_, rfl⟩
  have hB0 : Below w.heap.size w W0 := by rw [hW0]; exact (Below.refl _ _).alloc (Nat.le_refl _) _
  rw [← hW0] at hlit
  have hx : Calls Tryd.prog 41 #[.string s] W0 _ := rext_any s W0 hs
  have HX := Lib.hid hx
  have HB0 := Lib.hid hB0
  have HIV := Lib.hid hlit
  have hWe : w.alloc (.cells (u32s iv.list) 48) = W0 := hW0.symm
  clear hlit hB0 hx hW0
  show Calls _ _ _ (w.alloc (.cells (u32s iv.list) 48)) _
  rw [hWe]
  clear hWe
  refine HX.out.mono ?_
  rintro e W1 ⟨v, rfl, hown, hB⟩
  have hl5 := extR_le s.data.toList
  have hsz : s.data.toList.length = s.size := by simp
  have hmod := extR_mod s.data.toList
  have hl0 : 0 < (extR s.data.toList).length := by rw [extR_len]; split <;> omega
  obtain ⟨g, c, rfl, hg, hc, hc2, hcells⟩ := ownsRow_u8 hown hl0
  obtain ⟨L, hL⟩ : ∃ L, L = (extR s.data.toList).length := ⟨_, rfl⟩
  rw [← hL] at hc hmod hl0 hl5 ⊢
  have hLb : (L : Int) ≤ 6000 := by omega
  have HL := Lib.hid hL
  have HU := Lib.hid hcells
  have HBW := Lib.hid (belowVia hB HB0.out)
  have HIV1 := Lib.hid (U32At.via hB HIV.out)
  have hend := shaB_digest s
  rw [← hL] at hend
  have HEND := Lib.hid hend
  generalize hll : s.data.toList = l at *
  clear hll hown hB hcells hL hend HX HB0 HIV hl5 hsz
  go_wp2_with fail
  go_loopw [3, 5] (fun h i wr => ∃ (k gh ch : Nat), 64 * k ≤ L ∧ i = .int .i64 (64 * k : Nat) ∧ h = .slice (some ⟨gh, 0, none⟩) 8 ch ∧ U32At wr gh 0 (shaAt l k).list ∧ Below W1.heap.size W1 wr) (fun _ i _ => L - (intOf i).toNat)
  case atStart => exact ⟨0, w.heap.size, 8, by omega, rfl, rfl, by rw [shaAt_zero]; exact HIV1.out, Below.refl _ _⟩
  case round =>
    obtain ⟨k, gh, ch, hk, rfl, rfl, hh, hB⟩ := hrel
    have HB := Lib.hid hB
    have HH := Lib.hid hh
    by_cases hlt : 64 * k < L
    · have hlt' : ((64 * k : Nat) : Int) < L := by omega
      have hpc : U8At wr g (64 * k) (((extR l).drop (64 * k)).take 64) := by have := (U8At.via hB HU.out).piece (64 * k) 64; rwa [Nat.zero_add] at this
      have hpl : (((extR l).drop (64 * k)).take 64).length = 64 := by rw [List.length_take, List.length_drop, ← HL.out]; omega
      have HBL := Lib.hid (rblock_any (shaAt l k) (shaAt_ok l k) _ hpl gh 0 ch g (64 * k) (c - 64 * k) wr hh hpc)
      have HSU := Lib.hid (shaAt_succ l k)
      generalize mix (shaAt l k) (((extR l).drop (64 * k)).take 64) = M at *
      obtain ⟨K, hK⟩ : ∃ K, K = 64 * k := ⟨_, rfl⟩
      rw [← hK] at HBL hlt hlt' hk ⊢
      have HKK := Lib.hid hK
      have hKc : K + 64 ≤ c := by omega
      have hKc2 : (K : Int) + 64 ≤ c := by omega
      have hne : ¬ c = K := by omega
      clear hK hpc hpl hh hB
      go_wp2_with fail
      refine HBL.out.mono ?_
      rintro e w3 ⟨v', rfl, hown3, hB3⟩
      obtain ⟨g2, c2, rfl, _, _, _, hU3⟩ := ownsRow_u32 hown3 (by simp [W8.list])
      rw [← HSU.out] at hU3
      have HU3 := Lib.hid hU3
      have HB3 := Lib.hid (belowVia hB3 HB.out)
      clear hown3 hB3 hU3
      go_wp2_with fail
      go_roundw
      case rel => exact ⟨k + 1, g2, c2, by have := HKK.out; have := HL.out; omega, by have := HKK.out; go_num, rfl, HU3.out, HB3.out⟩
      case measure => simp [intOf]; omega
    · have hkL : 64 * k = L := by omega
      have hkd : L / 64 = k := by omega
      have hok := shaAt_ok l (L / 64)
      rw [← hkd] at hh
      have hend := HEND.out
      generalize shaAt l (L / 64) = V at *
      have HOK := Lib.hid hok
      have HH := Lib.hid hh
      have HEN := Lib.hid hend
      have hge : (L : Int) ≤ ((64 * k : Nat) : Int) := by omega
      have HBF := Lib.hid (belowVia HB.out HBW.out)
      obtain ⟨K, hK⟩ : ∃ K, K = 64 * k := ⟨_, rfl⟩
      rw [← hK] at hge ⊢
      have hKL : ¬ K < L := by omega
      clear hK hh hok hend hB hkd hkL hlt hk HB HEND HBW HU HL
      obtain ⟨W2, rfl⟩ : ∃ W2, W2 = wr := ⟨_, rfl⟩
      go_wp2_with fail
      go_loopw [6, 7] (fun v i wr => ∃ j : Nat, j ≤ 8 ∧ i = .int .i64 j ∧ wr.ownsRow W2.heap.size 5 1 v ((digestOf V).take (4 * j)).length (u8l ((digestOf V).take (4 * j))) ∧ Below W2.heap.size W2 wr) (fun _ i _ => 8 - (intOf i).toNat)
      case atStart => exact ⟨0, by omega, rfl, World.ownsRow_nil _ _ _ _, Below.refl _ _⟩
      case round =>
        obtain ⟨j, hj, rfl, hown, hB⟩ := hrel
        have HO := Lib.hid hown
        have HB := Lib.hid hB
        clear hown hB
        by_cases hlt : j < 8
        · have hlt' : (j : Int) < 8 := by omega
          have hd := HH.out j (by simpa [W8.list] using hlt)
          rw [Nat.zero_add] at hd
          have q0 := digest_byte V hlt (t := 0) (by decide)
          have q1 := digest_byte V hlt (t := 1) (by decide)
          have q2 := digest_byte V hlt (t := 2) (by decide)
          have q3 := digest_byte V hlt (t := 3) (by decide)
          have hst := digest_step V hlt
          rw [Nat.add_zero] at q0
          have HK : Hid (((digestOf V).take (4 * j)).length ≤ 100000) := by show _ ≤ _; rw [List.length_take, digestOf_len]; omega
          have xb := W8.list_lt HOK.out j
          generalize (digestOf V).take (4 * j) = y at *
          generalize V.list.getD j 0 = x at *
          generalize (digestOf V).getD (4 * j) 0 = b0 at *
          generalize (digestOf V).getD (4 * j + 1) 0 = b1 at *
          generalize (digestOf V).getD (4 * j + 2) 0 = b2 at *
          generalize (digestOf V).getD (4 * j + 3) 0 = b3 at *
          have hc := keptBelow HB.out hd
          have HST := Lib.hid hst
          have HOd : Hid (wr.drew.ownsRow W2.heap.size 5 1 u6 y.length (u8l y)) := HO.out
          have HBd : Hid (Below W2.heap.size W2 wr.drew) := HB.out.drew
          have w0 : IntKind.u8.wrap ((x : Int) / 16777216) = (b0.toNat : Nat) := u8_wrap _ _ (by rw [q0]; omega)
          have w1 : IntKind.u8.wrap ((x : Int) / 65536) = (b1.toNat : Nat) := u8_wrap _ _ (by rw [q1]; omega)
          have w2 : IntKind.u8.wrap ((x : Int) / 256) = (b2.toNat : Nat) := u8_wrap _ _ (by rw [q2]; omega)
          have w3 : IntKind.u8.wrap (x : Int) = (b3.toNat : Nat) := u8_wrap _ _ (by rw [q3]; omega)
          clear hst q0 q1 q2 q3
          go_wp2_with fail
          go_region_held3 (fun w' => w'.cell? ⟨gh, j, none⟩ = some (.int .u32 (x : Nat)))
            (first | exact hc | exact cellR _ hc | exact keptBelow hB9 hd) (first
            | (refine step_append_own rfl _ _ 43 rfl W2.heap.size 5 i0 (.int .u8 0) 1 1 Tryd.underlying43 HI0.out HZ0.out HZ1.out HZ2.out rfl (by decide) u6 y.length (u8l y) (by rfl) (HOd.out.alloc _) ⟨wr.heap.size, 0, none⟩ 4 4 [.int .u8 (b0.toNat : Nat), .int .u8 (b1.toNat : Nat), .int .u8 (b2.toNat : Nat), .int .u8 (b3.toNat : Nat)] (by rfl) rfl (news4 _ _ _ _ _ _) (one4 _ _ _ _) (sum_b1 HK.out) (sum_b2 HK.out) (ext_b3 HB.out) (fun v' w9 hown3 hgrow3 => ?_); have hB9 := (app_next4 HOd.out HBd.out hown3 hgrow3).2))
          have HN := Lib.hid (app_next4 HOd.out HBd.out hown3 hgrow3)
          rw [HST.out] at HN
          clear hown3 hgrow3 hB9 w0 w1 w2 w3
          go_wp2_with fail
          go_roundw
          case rel => exact ⟨j + 1, by omega, by go_num, HN.out.1, HN.out.2⟩
          case measure => simp [intOf]; omega
        · obtain rfl : j = 8 := by omega
          rw [List.take_of_length_le (by rw [digestOf_len]; decide)] at HO
          obtain ⟨g3, c3, rfl, _, _, _, hU⟩ := ownsRow_u8 HO.out (by rw [digestOf_len]; decide)
          have hcells : ∀ i, i < 32 → wr.cell? ⟨g3, 0 + i, none⟩ = some (.int .u8 (((digestOf V).map fun b => (b.toNat : Int)).getD i 0)) := by
            intro i hi
            have hi' : i < (digestOf V).length := by rw [digestOf_len]; exact hi
            rw [hU i hi']
            simp [List.getD_eq_getElem?_getD, hi']
          have hconv := run_convert_bytes_arg (P := Tryd.prog) wr 43 5 Tryd.underlying43 Tryd.underlying5 g3 0 32 c3 ((digestOf V).map fun b => (b.toNat : Int)) (by simp [digestOf_len]) hcells 9 Tryd.underlying9
          have hstr : strOfNums ((digestOf V).map fun b => (b.toNat : Int)) = ⟨(digestOf V).toArray⟩ := by
            unfold strOfNums
            rw [List.map_map]
            congr 2
            conv => rhs; rw [← List.map_id (digestOf V)]
            apply List.map_congr_left
            intro x _
            simp
          rw [hstr, HEN.out, ← HR.out] at hconv
          have hdl : (digestOf V).length = 32 := digestOf_len V
          rw [hdl]
          have HBF2 := Lib.hid (belowVia HB.out HBF.out)
          clear hU hcells hstr HO hdl hlt hj HB HH HEN
          go_wp2_with fail
          go_ret
          exact ⟨rfl, HBF2.out⟩
end Go.Proofs.YtdhpighnkoamiaaDoor
