/- The reference's FromInt and ToInt. -/
import Derived.Test.YtggkbeppfpgkaaaGreatDoorIntRefRoot
import Derived.Test.YtggkbeppfpgkaaaGreatDoorIntInts
namespace Go.Proofs.YtggkbeppfpgkaaaGreatDoor
open Go.RowKit Putlog

/-- The digits of a number under way: those that are found, and the rest. -/
def FromT (N : Nat) (l : List Nat) (M : Nat) : Prop := DigB 10 l ∧ leV 10 l + 10 ^ l.length * M = N ∧ (l = [] ∨ 10 ^ (l.length - 1) ≤ N)
theorem FromT.start (N : Nat) : FromT N [] N := ⟨DigB.nil _, by simp [leV], .inl rfl⟩
theorem FromT.step {N : Nat} {l : List Nat} {M : Nat} (h : FromT N l M) (hM : 0 < M) : FromT N (l ++ [M % 10]) (M / 10) := by
  obtain ⟨h1, h2, h3⟩ := h
  refine ⟨h1.append (DigB.cons (Nat.mod_lt _ (by decide)) (DigB.nil _)), ?_, .inr ?_⟩
  · rw [leV_snoc, List.length_append, List.length_cons, List.length_nil, Nat.zero_add, Nat.pow_succ, Nat.mul_assoc, Nat.add_assoc, ← Nat.mul_add, Nat.mod_add_div]
    exact h2
  · have e : (l ++ [M % 10]).length - 1 = l.length := by simp
    rw [e]
    have h4 : 10 ^ l.length * 1 ≤ 10 ^ l.length * M := Nat.mul_le_mul_left _ hM
    omega
theorem FromT.done {N : Nat} {l : List Nat} (h : FromT N l 0) : l = digsL 10 N := by
  obtain ⟨h1, h2, h3⟩ := h
  have hv : leV 10 l = N := by omega
  refine digs_of h1 (norm_of_ge h1 ?_) hv
  rcases h3 with h3 | h3
  · exact .inl h3
  · exact .inr (by omega)
theorem FromT.small {N : Nat} {l : List Nat} {M : Nat} (h : FromT N l M) (hN : N < 10 ^ 20) : l.length ≤ 20 := by
  obtain ⟨_, _, h3⟩ := h
  rcases h3 with rfl | h3
  · decide
  · refine Nat.not_lt.1 fun hl => ?_
    have : 10 ^ 20 ≤ 10 ^ (l.length - 1) := Nat.pow_le_pow_right (by decide) (by omega)
    omega

set_option maxRecDepth 100000 in
set_option maxHeartbeats 4000000 in
theorem rfrom_pos (n : Int) (h0 : -9223372036854775808 ≤ n) (h1 : n ≤ 9223372036854775807) (hs : ¬ n < 0) (w : World) :
    Calls Tryz.prog 6 #[.int .i64 n] w fun e w' => e = .returned (.string (intB n)) ∧ Below w.heap.size w w' := by
  obtain ⟨i0, hi0, hz0, hz1, hz2⟩ := info_parts info_int
  have HI0 := Lib.hid hi0
  have HZ0 := Lib.hid hz0
  have HZ1 := Lib.hid hz1
  have HZ2 := Lib.hid hz2
  obtain ⟨N, hN⟩ : ∃ N, N = n.natAbs := ⟨_, rfl⟩
  have HNB : Hid (N < 10 ^ 20) := by show _ < _; omega
  have hn : n = (N : Int) := by omega
  have hT := fun v W h => rtext_any false (digsL 10 N) (by have : (digsL 10 N).length ≤ 20 := dlen_lt HNB.out; omega) (digsL_dig (by decide) _) (digsL_norm (by decide) _) v W h
  rw [leV_digsL (by decide), show sgn false N = n by rw [hn]; rfl] at hT
  have HT := Lib.hid hT
  have hNb : (N : Int) ≤ 9223372036854775808 := by omega
  have hNb2 : (N : Int) ≤ 9223372036854775807 := by omega
  generalize intB n = s at *
  clear hi0 hz0 hz1 hz2 hT hN
  subst hn
  go_enter Tryz.func6, Tryz.ntmps6
  go_wp2_with fail
  go_loopw [3, 4] (fun v m wr => ∃ (M : Nat) (l : List Nat), m = .int .i64 ((M : Nat) : Int) ∧ M ≤ N ∧ FromT N l M ∧ wr.ownsRow w.heap.size 3 1 v l.length (i64l l) ∧ Below w.heap.size w wr) (fun _ m _ => (intOf m).natAbs)
  case atStart => exact ⟨N, [], rfl, Nat.le_refl _, FromT.start N, World.ownsRow_nil _ _ _ _, Below.refl _ _⟩
  case round =>
    obtain ⟨M, y, rfl, hM, hF, hown, hB⟩ := hrel
    have HF := Lib.hid hF
    have HO := Lib.hid hown
    have HB := Lib.hid hB
    have hyl := hF.small HNB.out
    have HK : Hid (y.length ≤ 100000) := by show _ ≤ _; omega
    have hMb : (M : Int) ≤ 9223372036854775808 := by omega
    have hMb2 : (M : Int) ≤ 9223372036854775807 := by omega
    clear hF hown hB hyl
    rcases Nat.eq_zero_or_pos M with rfl | hM0
    · have hE := HF.out.done
      have hnums := NumsAt.of_owns HO.out
      rw [hE] at hnums
      have HNU := Lib.hid hnums
      obtain ⟨_, _, rfl, _⟩ := nums_form hnums
      clear hE hnums HO
      go_wp2_with fail
      refine (HT.out _ _ HNU.out).mono ?_
      rintro e w5 ⟨rfl, hB5⟩
      have HB5 := Lib.hid (belowVia hB5 HB.out)
      clear hB5
      go_wp2_with fail
      go_ret
      exact ⟨rfl, HB5.out⟩
    · have HST := Lib.hid (HF.out.step hM0)
      have hne : (((M : Nat) : Int) != 0) = true := by rw [bne_iff_ne]; omega
      have hmm : ((M : Nat) : Int).tmod 10 = ((M % 10 : Nat) : Int) := by rw [Int.tmod_eq_emod_of_nonneg (by omega)]; omega
      have hmq : ((M : Nat) : Int).tdiv 10 = ((M / 10 : Nat) : Int) := by rw [Int.tdiv_eq_ediv_of_nonneg (by omega)]; omega
      have hd9 : ((M % 10 : Nat) : Int) ≤ 9 := by omega
      have hq9 : ((M / 10 : Nat) : Int) ≤ 922337203685477580 := by omega
      have HQM : Hid (M / 10 < M ∧ M / 10 ≤ N) := by show _ ∧ _; omega
      generalize M % 10 = d at *
      generalize M / 10 = q at *
      go_wp2_with (at_builtin; refine wpList_append_own _ rfl _ _ 38 rfl w.heap.size 3 i0 (.int .i64 0) 1 8 Tryz.underlying38 HI0.out HZ0.out HZ1.out HZ2.out rfl (by decide) u3 y.length (i64l y) (by rfl) (HO.out.alloc _) ⟨wr.heap.size, 0, none⟩ 1 1 [.int .i64 (d : Nat)] (by rfl) rfl (news_val _ _ _) (one_int _ _) (app_b1 HK.out) (app_b2 HK.out (by decide)) (app_b3 HB.out) ?_; intro v2 w9 hown9 hgrow9 _)
      have HFF := Lib.hid (app_i64 (b := d) HO.out HB.out hown9 hgrow9)
      clear hown9 hgrow9
      go_wp2_with fail
      go_roundw
      case rel => exact ⟨q, _, by go_num, HQM.out.2, HST.out, HFF.out.1, HFF.out.2⟩
      case measure => have := HQM.out; simp [intOf]; omega
set_option maxRecDepth 100000 in
set_option maxHeartbeats 4000000 in
theorem rfrom_neg (n : Int) (h0 : -9223372036854775808 ≤ n) (h1 : n ≤ 9223372036854775807) (hs : n < 0) (w : World) :
    Calls Tryz.prog 6 #[.int .i64 n] w fun e w' => e = .returned (.string (intB n)) ∧ Below w.heap.size w w' := by
  obtain ⟨i0, hi0, hz0, hz1, hz2⟩ := info_parts info_int
  have HI0 := Lib.hid hi0
  have HZ0 := Lib.hid hz0
  have HZ1 := Lib.hid hz1
  have HZ2 := Lib.hid hz2
  obtain ⟨N, hN⟩ : ∃ N, N = n.natAbs := ⟨_, rfl⟩
  have HNB : Hid (N < 10 ^ 20) := by show _ < _; omega
  have hn : n = -(N : Int) := by omega
  have hT := fun v W h => rtext_any true (digsL 10 N) (by have : (digsL 10 N).length ≤ 20 := dlen_lt HNB.out; omega) (digsL_dig (by decide) _) (digsL_norm (by decide) _) v W h
  rw [leV_digsL (by decide), show sgn true N = n by rw [hn]; rfl] at hT
  have HT := Lib.hid hT
  have hNb : (N : Int) ≤ 9223372036854775808 := by omega
  have hNp : 0 < N := by omega
  generalize intB n = s at *
  clear hi0 hz0 hz1 hz2 hT hN
  subst hn
  go_enter Tryz.func6, Tryz.ntmps6
  go_wp2_with fail
  go_loopw [3, 4] (fun v m wr => ∃ (M : Nat) (l : List Nat), m = .int .i64 (-(M : Int)) ∧ M ≤ N ∧ FromT N l M ∧ wr.ownsRow w.heap.size 3 1 v l.length (i64l l) ∧ Below w.heap.size w wr) (fun _ m _ => (intOf m).natAbs)
  case atStart => exact ⟨N, [], rfl, Nat.le_refl _, FromT.start N, World.ownsRow_nil _ _ _ _, Below.refl _ _⟩
  case round =>
    obtain ⟨M, y, rfl, hM, hF, hown, hB⟩ := hrel
    have HF := Lib.hid hF
    have HO := Lib.hid hown
    have HB := Lib.hid hB
    have hyl := hF.small HNB.out
    have HK : Hid (y.length ≤ 100000) := by show _ ≤ _; omega
    have hMb : (M : Int) ≤ 9223372036854775808 := by omega
    clear hF hown hB hyl
    rcases Nat.eq_zero_or_pos M with rfl | hM0
    · have hE := HF.out.done
      have hnums := NumsAt.of_owns HO.out
      rw [hE] at hnums
      have HNU := Lib.hid hnums
      obtain ⟨_, _, rfl, _⟩ := nums_form hnums
      have hnl : -(N : Int) < 0 := by omega
      clear hE hnums HO
      go_wp2_with fail
      refine (HT.out _ _ HNU.out).mono ?_
      rintro e w5 ⟨rfl, hB5⟩
      have HB5 := Lib.hid (belowVia hB5 HB.out)
      clear hB5
      go_wp2_with fail
      go_ret
      exact ⟨rfl, HB5.out⟩
    · have HST := Lib.hid (HF.out.step hM0)
      have hne : ((-(M : Int)) != 0) = true := by rw [bne_iff_ne]; omega
      have hmm : (-(M : Int)).tmod 10 = -((M % 10 : Nat) : Int) := by rw [Int.neg_tmod, Int.tmod_eq_emod_of_nonneg (by omega)]; omega
      have hmq : (-(M : Int)).tdiv 10 = -((M / 10 : Nat) : Int) := by rw [Int.neg_tdiv, Int.tdiv_eq_ediv_of_nonneg (by omega)]; omega
      have hd9 : ((M % 10 : Nat) : Int) ≤ 9 := by omega
      have hq9 : ((M / 10 : Nat) : Int) ≤ 922337203685477580 := by omega
      have HQM : Hid (M / 10 < M ∧ M / 10 ≤ N) := by show _ ∧ _; omega
      generalize M % 10 = d at *
      generalize M / 10 = q at *
      rcases Nat.eq_zero_or_pos d with rfl | hd0
      · skip
        go_wp2_with (at_builtin; refine wpList_append_own _ rfl _ _ 38 rfl w.heap.size 3 i0 (.int .i64 0) 1 8 Tryz.underlying38 HI0.out HZ0.out HZ1.out HZ2.out rfl (by decide) u3 y.length (i64l y) (by rfl) (HO.out.alloc _) ⟨wr.heap.size, 0, none⟩ 1 1 [.int .i64 ((0 : Nat) : Nat)] (by rfl) rfl (news_val _ _ _) (one_int _ _) (app_b1 HK.out) (app_b2 HK.out (by decide)) (app_b3 HB.out) ?_; intro v2 w9 hown9 hgrow9 _)
        have HFF := Lib.hid (app_i64 (b := 0) HO.out HB.out hown9 hgrow9)
        clear hown9 hgrow9
        go_wp2_with fail
        go_roundw
        case rel => exact ⟨q, _, by go_num, HQM.out.2, HST.out, HFF.out.1, HFF.out.2⟩
        case measure => have := HQM.out; simp [intOf]; omega
      · have hdn : -(d : Int) < 0 := by omega
        go_wp2_with (at_builtin; refine wpList_append_own _ rfl _ _ 38 rfl w.heap.size 3 i0 (.int .i64 0) 1 8 Tryz.underlying38 HI0.out HZ0.out HZ1.out HZ2.out rfl (by decide) u3 y.length (i64l y) (by rfl) (HO.out.alloc _) ⟨wr.heap.size, 0, none⟩ 1 1 [.int .i64 (d : Nat)] (by rfl) rfl (news_val _ _ _) (one_int _ _) (app_b1 HK.out) (app_b2 HK.out (by decide)) (app_b3 HB.out) ?_; intro v2 w9 hown9 hgrow9 _)
        have HFF := Lib.hid (app_i64 (b := d) HO.out HB.out hown9 hgrow9)
        clear hown9 hgrow9
        go_wp2_with fail
        go_roundw
        case rel => exact ⟨q, _, by go_num, HQM.out.2, HST.out, HFF.out.1, HFF.out.2⟩
        case measure => have := HQM.out; simp [intOf]; omega
theorem rfrom_any (n : Int) (h0 : -9223372036854775808 ≤ n) (h1 : n ≤ 9223372036854775807) (w : World) :
    Calls Tryz.prog 6 #[.int .i64 n] w fun e w' => e = .returned (.string (intB n)) ∧ Below w.heap.size w w' := by
  by_cases h : n < 0
  · exact rfrom_neg n h0 h1 h w
  · exact rfrom_pos n h0 h1 h w

theorem natV_snoc (l : List UInt8) (c : UInt8) : natV (l ++ [c]) = 10 * natV l + (c.toNat - 48) := by
  unfold natV decT
  rw [List.reverse_append]
  simp only [List.reverse_cons, List.reverse_nil, List.nil_append, List.singleton_append, List.map_cons, leV]
  omega
theorem natV_part (l : List UInt8) (k : Nat) : natV (l.take k) ≤ natV l := by
  have h : natV l = natV (l.take k ++ l.drop k) := by rw [List.take_append_drop]
  rw [h]
  unfold natV decT
  rw [List.reverse_append, List.map_append, leV_append]
  have h1 : 1 ≤ 10 ^ ((l.drop k).reverse.map fun c : UInt8 => c.toNat - 48).length := Nat.pow_pos (by decide)
  have h2 := Nat.le_mul_of_pos_left (leV 10 ((l.take k).reverse.map fun c => c.toNat - 48)) h1
  omega
theorem natV_next (l : List UInt8) {k : Nat} (h : k < l.length) : natV (l.take (k + 1)) = 10 * natV (l.take k) + ((l[k]).toNat - 48) := by
  rw [List.take_succ_eq_append_getElem h, natV_snoc]
theorem b_min : intB (-9223372036854775808) = (⟨#[45, 57, 50, 50, 51, 51, 55, 50, 48, 51, 54, 56, 53, 52, 55, 55, 53, 56, 48, 56]⟩ : ByteArray) := by decide +kernel
theorem b_max : intB 9223372036854775807 = (⟨#[57, 50, 50, 51, 51, 55, 50, 48, 51, 54, 56, 53, 52, 55, 55, 53, 56, 48, 55]⟩ : ByteArray) := by decide +kernel
theorem f_min : Fits (-9223372036854775808) := by decide +kernel
theorem f_max : Fits 9223372036854775807 := by decide +kernel
theorem cmpI_bounds (a b : Int) : -1 ≤ cmpI a b ∧ cmpI a b ≤ 1 := by unfold cmpI; split <;> (try split) <;> omega
theorem cmp_min (z : Int) (hz : Fits z) (w : World) : Calls Tryz.prog 24 #[.string (intB z), .string ⟨#[45, 57, 50, 50, 51, 51, 55, 50, 48, 51, 54, 56, 53, 52, 55, 55, 53, 56, 48, 56]⟩] w fun e w' => e = .returned (.int .i64 (cmpI z (-9223372036854775808))) ∧ Below w.heap.size w w' := by
  have h := rcompare_ok z (-9223372036854775808) hz f_min w
  rwa [b_min] at h
theorem cmp_max (z : Int) (hz : Fits z) (w : World) : Calls Tryz.prog 24 #[.string (intB z), .string ⟨#[57, 50, 50, 51, 51, 55, 50, 48, 51, 54, 56, 53, 52, 55, 55, 53, 56, 48, 55]⟩] w fun e w' => e = .returned (.int .i64 (cmpI z 9223372036854775807)) ∧ Below w.heap.size w w' := by
  have h := rcompare_ok z 9223372036854775807 hz f_max w
  rwa [b_max] at h
set_option maxRecDepth 100000 in
theorem rto_no (s : ByteArray) (hs : (s.size : Int) ≤ 9223372036854775807) (hv : validT s.data.toList = false) (w : World) :
    Calls Tryz.prog 20 #[.string s] w fun e w' => e = .returned (.tuple #[.int .i64 0, .int .i64 30]) ∧ Below w.heap.size w w' := by
  have hVs := rvalid_any s hs
  rw [hv] at hVs
  have HVS := Lib.hid hVs
  clear hVs hv
  go_enter Tryz.func20, Tryz.ntmps20
  go_wp2_with fail
  refine (HVS.out _).mono ?_
  rintro e w1 ⟨rfl, rfl⟩
  go_wp2_with fail
  go_ret2
  exact ⟨rfl, Below.refl _ _⟩
set_option maxRecDepth 100000 in
theorem rto_out (z : Int) (hz : Fits z) (hi : ¬ InInt z) (w : World) :
    Calls Tryz.prog 20 #[.string (intB z)] w fun e w' => e = .returned (.tuple #[.int .i64 0, .int .i64 30]) ∧ Below w.heap.size w w' := by
  have HVS := Lib.hid (rvalid_int z hz)
  have hMI := cmp_min z hz
  have hMA := cmp_max z hz
  by_cases hlo : z < -9223372036854775808
  · have hc : cmpI z (-9223372036854775808) = -1 := by unfold cmpI; rw [if_pos hlo]
    rw [hc] at hMI
    have HMI := Lib.hid hMI
    clear hMI hMA hi hlo hc
    generalize intB z = s at *
    go_enter Tryz.func20, Tryz.ntmps20
    go_wp2_with fail
    refine (HVS.out _).mono ?_
    rintro e w1 ⟨rfl, rfl⟩
    go_wp2_with fail
    refine (HMI.out _).mono ?_
    rintro e w2 ⟨rfl, hB2⟩
    have HB2 := Lib.hid hB2
    clear hB2
    go_wp2_with fail
    go_ret2
    exact ⟨rfl, HB2.out⟩
  · have hhi : 9223372036854775807 < z := by unfold InInt at hi; omega
    have hc : cmpI z (-9223372036854775808) = 1 := by unfold cmpI; rw [if_neg hlo, if_pos (by omega)]
    have hc2 : cmpI z 9223372036854775807 = 1 := by unfold cmpI; rw [if_neg (by omega), if_pos hhi]
    rw [hc] at hMI
    rw [hc2] at hMA
    have HMI := Lib.hid hMI
    have HMA := Lib.hid hMA
    clear hMI hMA hi hlo hc hc2 hhi
    generalize intB z = s at *
    go_enter Tryz.func20, Tryz.ntmps20
    go_wp2_with fail
    refine (HVS.out _).mono ?_
    rintro e w1 ⟨rfl, rfl⟩
    go_wp2_with fail
    refine (HMI.out _).mono ?_
    rintro e w2 ⟨rfl, hB2⟩
    have HB2 := Lib.hid hB2
    clear hB2
    go_wp2_with fail
    refine (HMA.out _).mono ?_
    rintro e w3 ⟨rfl, hB3⟩
    have HB3 := Lib.hid (belowVia hB3 HB2.out)
    clear hB3
    go_wp2_with fail
    go_ret2
    exact ⟨rfl, HB3.out⟩
theorem str_at (s : ByteArray) (l : List UInt8) (hl : s.data.toList = l) (k : Nat) (h : k < s.size) : ∃ h2 : k < l.length, s[k] = l[k]'h2 := by
  obtain ⟨h1, h2⟩ := (ba_list s).2 k h
  subst hl
  exact ⟨h1, h2⟩
theorem dig_val {c : UInt8} (h : IsDig c) : ((c.toNat : Int) = 48 + ((c.toNat - 48 : Nat) : Int)) ∧ c.toNat - 48 ≤ 9 := by unfold IsDig at h; omega
set_option maxRecDepth 100000 in
set_option maxHeartbeats 4000000 in
theorem rto_pos (z : Int) (hz : Fits z) (hi : InInt z) (hs : 0 ≤ z) (w : World) :
    Calls Tryz.prog 20 #[.string (intB z)] w fun e w' => e = .returned (.tuple #[.int .i64 z, .int .i64 0]) ∧ Below w.heap.size w w' := by
  have HVS := Lib.hid (rvalid_int z hz)
  have hMI := cmp_min z hz
  have hMA := cmp_max z hz
  obtain ⟨a, ha⟩ : ∃ a, a = cmpI z (-9223372036854775808) := ⟨_, rfl⟩
  obtain ⟨b, hb⟩ : ∃ b, b = cmpI z 9223372036854775807 := ⟨_, rfl⟩
  have ha0 : 0 ≤ a := by rw [ha]; unfold cmpI; unfold InInt at hi; rw [if_neg (by omega)]; split <;> omega
  have hb0 : b ≤ 0 := by rw [hb]; unfold cmpI; unfold InInt at hi; split
                         · omega
                         · rw [if_neg (by omega)]; exact Int.le_refl 0
  have hab := cmpI_bounds z (-9223372036854775808)
  have hbb := cmpI_bounds z 9223372036854775807
  rw [← ha] at hMI hab
  rw [← hb] at hMA hbb
  have ha1 := hab.2
  have hb1 := hbb.1
  have HMI := Lib.hid hMI
  have HMA := Lib.hid hMA
  have hl : (intB z).data.toList = natT z.natAbs := by
    show (intT z).toArray.toList = _
    rw [List.toList_toArray]; unfold intT; rw [if_neg (by omega)]
  have HAT := Lib.hid (str_at (intB z) _ hl)
  have HDG := Lib.hid (natT_dig z.natAbs)
  have HNV : Hid (natV (natT z.natAbs) = z.natAbs) := natT_val _
  have hsz := (ba_list (intB z)).1
  rw [hl] at hsz
  have HSZ := Lib.hid hsz
  have hsb := intT_size hz (by decide)
  have hsb' : ((intB z).size : Int) ≤ 201 := by omega
  obtain ⟨z0, h45⟩ := int_head (z := z)
  have e45 := h45 z0
  rw [show decide (z < 0) = false by simp; omega] at e45
  have z0' : (0 : Int) < (intB z).size := by omega
  have HZI : Hid (z = (z.natAbs : Nat) ∧ (z.natAbs : Int) ≤ 9223372036854775807) := by show _ ∧ _; unfold InInt at hi; omega
  generalize z.natAbs = n at *
  generalize natT n = T at *
  obtain ⟨hzn, hnb⟩ := HZI.out
  subst hzn
  generalize intB (n : Int) = s at *
  clear hMI hMA hl hsz hi hs hz h45 ha hb hab hbb hsb HZI
  go_enter Tryz.func20, Tryz.ntmps20
  go_wp2_with fail
  refine (HVS.out _).mono ?_
  rintro e w1 ⟨rfl, rfl⟩
  go_wp2_with fail
  refine (HMI.out _).mono ?_
  rintro e w2 ⟨rfl, hB2⟩
  have HB2 := Lib.hid hB2
  clear hB2
  go_wp2_with fail
  refine (HMA.out _).mono ?_
  rintro e w3 ⟨rfl, hB3⟩
  have HB3 := Lib.hid (belowVia hB3 HB2.out)
  clear hB3
  go_wp2_with fail
  go_loopw [4, 5] (fun v i wr => ∃ k : Nat, k ≤ s.size ∧ i = .int .i64 k ∧ v = .int .i64 (natV (T.take k) : Nat) ∧ wr = w3) (fun _ i _ => s.size - (intOf i).toNat)
  case atStart => exact ⟨0, by omega, rfl, rfl, rfl⟩
  case round =>
    obtain ⟨k, hk, rfl, rfl, rfl⟩ := hrel
    by_cases hlt : k < s.size
    · have hlt' : (k : Int) < s.size := by omega
      obtain ⟨h2, h3⟩ := HAT.out k hlt
      obtain ⟨d1, d2⟩ := dig_val (HDG.out _ (List.getElem_mem h2))
      have hnx := natV_next T h2
      have hpt := natV_part T (k + 1)
      rw [HNV.out] at hpt
      rw [← h3] at d1 d2 hnx
      generalize (s[k]).toNat - 48 = x at *
      generalize natV (T.take k) = V at *
      have HV2 := Lib.hid hnx
      have hxb : (x : Int) ≤ 9 := by omega
      have hVb : 10 * (V : Int) + x ≤ 9223372036854775807 := by omega
      have hne : (((s[k]).toNat : Int) == 45) = false := by rw [beq_eq_false_iff_ne]; omega
      have hw : IntKind.u8.wrap (((s[k]).toNat : Int) - 48) = (x : Nat) := by rw [d1, IntKind.wrap_u8]; omega
      clear h3 d1 d2 hnx hpt
      go_wp2_with fail
      go_roundw
      case rel => exact ⟨k + 1, by omega, by go_num, by rw [HV2.out]; go_num, trivial⟩
      case measure => simp [intOf]; omega
    · obtain rfl : k = s.size := by omega
      have HE : Hid (natV (T.take s.size) = n) := by show _ = _; rw [← HSZ.out, List.take_length, HNV.out]
      clear hlt
      go_wp2_with fail
      go_ret2
      exact ⟨by rw [HE.out]; rfl, HB3.out⟩
set_option maxRecDepth 100000 in
set_option maxHeartbeats 4000000 in
theorem rto_neg (z : Int) (hz : Fits z) (hi : InInt z) (hs : z < 0) (w : World) :
    Calls Tryz.prog 20 #[.string (intB z)] w fun e w' => e = .returned (.tuple #[.int .i64 z, .int .i64 0]) ∧ Below w.heap.size w w' := by
  have HVS := Lib.hid (rvalid_int z hz)
  have hMI := cmp_min z hz
  have hMA := cmp_max z hz
  obtain ⟨a, ha⟩ : ∃ a, a = cmpI z (-9223372036854775808) := ⟨_, rfl⟩
  obtain ⟨b, hb⟩ : ∃ b, b = cmpI z 9223372036854775807 := ⟨_, rfl⟩
  have ha0 : 0 ≤ a := by rw [ha]; unfold cmpI; unfold InInt at hi; rw [if_neg (by omega)]; split <;> omega
  have hb0 : b ≤ 0 := by rw [hb]; unfold cmpI; unfold InInt at hi; split
                         · omega
                         · rw [if_neg (by omega)]; exact Int.le_refl 0
  have hab := cmpI_bounds z (-9223372036854775808)
  have hbb := cmpI_bounds z 9223372036854775807
  rw [← ha] at hMI hab
  rw [← hb] at hMA hbb
  have ha1 := hab.2
  have hb1 := hbb.1
  have HMI := Lib.hid hMI
  have HMA := Lib.hid hMA
  have hl : (intB z).data.toList = 45 :: natT z.natAbs := by
    show (intT z).toArray.toList = _
    rw [List.toList_toArray]; unfold intT; rw [if_pos (by omega)]
  have HAT := Lib.hid (str_at (intB z) _ hl)
  have HDG := Lib.hid (natT_dig z.natAbs)
  have HNV : Hid (natV (natT z.natAbs) = z.natAbs) := natT_val _
  have hsz := (ba_list (intB z)).1
  rw [hl, List.length_cons] at hsz
  have HSZ := Lib.hid hsz
  have hsb := intT_size hz (by decide)
  have hsb' : ((intB z).size : Int) ≤ 201 := by omega
  obtain ⟨z0, h45⟩ := int_head (z := z)
  have e45 := h45 z0
  rw [show decide (z < 0) = true by simpa using hs] at e45
  have z0' : (0 : Int) < (intB z).size := by omega
  have HZI : Hid (z = -(z.natAbs : Nat) ∧ (z.natAbs : Int) ≤ 9223372036854775808) := by show _ ∧ _; unfold InInt at hi; omega
  generalize z.natAbs = n at *
  generalize natT n = T at *
  obtain ⟨hzn, hnb⟩ := HZI.out
  subst hzn
  generalize intB (-(n : Int)) = s at *
  clear hMI hMA hl hsz hi hs hz h45 ha hb hab hbb hsb HZI
  go_enter Tryz.func20, Tryz.ntmps20
  go_wp2_with fail
  refine (HVS.out _).mono ?_
  rintro e w1 ⟨rfl, rfl⟩
  go_wp2_with fail
  refine (HMI.out _).mono ?_
  rintro e w2 ⟨rfl, hB2⟩
  have HB2 := Lib.hid hB2
  clear hB2
  go_wp2_with fail
  refine (HMA.out _).mono ?_
  rintro e w3 ⟨rfl, hB3⟩
  have HB3 := Lib.hid (belowVia hB3 HB2.out)
  clear hB3
  go_wp2_with fail
  go_loopw [4, 5] (fun v i wr => ∃ k : Nat, k ≤ s.size ∧ i = .int .i64 k ∧ v = .int .i64 (-(natV (T.take (k - 1)) : Nat)) ∧ wr = w3) (fun _ i _ => s.size - (intOf i).toNat)
  case atStart => exact ⟨0, by omega, rfl, rfl, rfl⟩
  case round =>
    obtain ⟨k, hk, rfl, rfl, rfl⟩ := hrel
    by_cases hlt : k < s.size
    · have hlt' : (k : Int) < s.size := by omega
      rcases Nat.eq_zero_or_pos k with rfl | hk0
      · go_wp2_with fail
        go_roundw
        case rel => exact ⟨1, by omega, by go_num, rfl, trivial⟩
        case measure => simp [intOf]; omega
      · obtain ⟨q, rfl⟩ : ∃ q, k = q + 1 := ⟨k - 1, by omega⟩
        obtain ⟨h2, h3⟩ := HAT.out (q + 1) hlt
        rw [List.getElem_cons_succ] at h3
        have h2' : q < T.length := by have := HSZ.out; omega
        obtain ⟨d1, d2⟩ := dig_val (HDG.out _ (List.getElem_mem h2'))
        have hnx := natV_next T h2'
        have hpt := natV_part T (q + 1)
        rw [HNV.out] at hpt
        rw [← h3] at d1 d2 hnx
        rw [Nat.add_sub_cancel]
        generalize (s[q + 1]).toNat - 48 = x at *
        generalize natV (T.take q) = V at *
        have HV2 := Lib.hid hnx
        have hxb : (x : Int) ≤ 9 := by omega
        have hVb : 10 * (V : Int) + x ≤ 9223372036854775808 := by omega
        have hne : (((s[q + 1]).toNat : Int) == 45) = false := by rw [beq_eq_false_iff_ne]; omega
        have hw : IntKind.u8.wrap (((s[q + 1]).toNat : Int) - 48) = (x : Nat) := by rw [d1, IntKind.wrap_u8]; omega
        clear h3 d1 d2 hnx hpt
        go_wp2_with fail
        go_roundw
        case rel => exact ⟨q + 1 + 1, by omega, by go_num, by rw [Nat.add_sub_cancel, HV2.out]; go_num, trivial⟩
        case measure => simp [intOf]; omega
    · obtain rfl : k = s.size := by omega
      have HE : Hid (natV (T.take (s.size - 1)) = n) := by show _ = _; rw [← HSZ.out, Nat.add_sub_cancel, List.take_length, HNV.out]
      clear hlt
      go_wp2_with fail
      go_ret2
      exact ⟨by rw [HE.out]; rfl, HB3.out⟩
theorem rto_ok (z : Int) (hz : Fits z) (hi : InInt z) (w : World) :
    Calls Tryz.prog 20 #[.string (intB z)] w fun e w' => e = .returned (.tuple #[.int .i64 z, .int .i64 0]) ∧ Below w.heap.size w w' := by
  by_cases h : z < 0
  · exact rto_neg z hz hi h w
  · exact rto_pos z hz hi (by omega) w
end Go.Proofs.YtggkbeppfpgkaaaGreatDoor
