/- The contract of the reference's Made. -/
import Derived.Test.YtggkbeppfpgkaaaGreatDoorIntRef
namespace Go.Proofs.YtggkbeppfpgkaaaGreatDoor
open Go.RowKit Putlog

def madeL (s : ByteArray) (k : Nat) : List Nat := (s.data.toList.take k).map fun b => b.toNat % 10
/-- Two operations behind '&&', under names of their own. -/
def mvOp : Op := Op.move (Operand.tmp 0)
def geOp : Op := Op.binOp BinOp.geq 5 (Operand.tmp 34) (Operand.const (Value.int IntKind.u8 128)) 5
theorem madeL_succ {s : ByteArray} {k : Nat} (h : k < s.size) : madeL s k ++ [(s[k]).toNat % 10] = madeL s (k + 1) := by
  unfold madeL
  rw [List.take_succ_eq_append_getElem (by simpa using h), List.map_append]; rfl
theorem madeL_dig (s : ByteArray) (k : Nat) : DigB 10 (madeL s k) := by
  intro x hx
  obtain ⟨b, _, rfl⟩ := List.mem_map.1 hx
  exact Nat.mod_lt _ (by decide)
theorem madeL_len (s : ByteArray) (k : Nat) : (madeL s k).length ≤ k := by simp [madeL]; omega

set_option maxRecDepth 100000 in
set_option maxHeartbeats 2000000 in
theorem rmade_any (s : ByteArray) (M : Nat) (w : World) (hs : (s.size : Int) ≤ 9223372036854775807) (hM : (M : Int) ≤ 1000) :
    Calls Tryz.prog 5 #[.string s, .int .i64 M] w fun e w' => (∃ z : Int, e = .returned (.string (intB z)) ∧ z.natAbs < 10 ^ M) ∧ Below w.heap.size w w' := by
  obtain ⟨i0, hi0, hz0, hz1, hz2⟩ := info_parts info_int
  have HI0 := Lib.hid hi0
  have HZ0 := Lib.hid hz0
  have HZ1 := Lib.hid hz1
  have HZ2 := Lib.hid hz2
  clear hi0 hz0 hz1 hz2
  go_enter Tryz.func5, Tryz.ntmps5
  go_wp2_with fail
  go_loopw [5, 6] (fun v i wr => ∃ k : Nat, k ≤ s.size ∧ k ≤ M ∧ i = .int .i64 k ∧ wr.ownsRow w.heap.size 3 1 v (madeL s k).length (i64l (madeL s k)) ∧ Below w.heap.size w wr) (fun _ i _ => M - (intOf i).toNat)
  case atStart => exact ⟨0, by omega, by omega, rfl, World.ownsRow_nil _ _ _ _, Below.refl _ _⟩
  case round =>
    obtain ⟨k, hk, hkM, rfl, hown, hB⟩ := hrel
    have HO := Lib.hid hown
    have HB := Lib.hid hB
    clear hown hB
    by_cases hlt : k < s.size ∧ k < M
    · obtain ⟨l1, l2⟩ := hlt
      have l1' : (k : Int) < s.size := by omega
      have l2' : (k : Int) < M := by omega
      have HA := Lib.hid (madeL_succ l1)
      have HK : Hid ((madeL s k).length ≤ 100000) := by show _ ≤ _; have := madeL_len s k; omega
      obtain ⟨d, hd⟩ : ∃ d, d = (s[k]).toNat % 10 := ⟨_, rfl⟩
      have hb := UInt8.toNat_lt s[k]
      have hb2 : ((s[k]).toNat : Int) < 256 := by omega
      have hm : ((s[k]).toNat : Int) % 10 = (d : Nat) := by omega
      have hm2 : ((s[k]).toNat : Int).tmod 10 = (d : Nat) := by rw [Int.tmod_eq_emod_of_nonneg (by omega)]; exact hm
      have hd9 : (d : Int) ≤ 9 := by omega
      rw [← hd] at HA
      generalize madeL s k = y at *
      clear hd
      go_wp2_with (at_builtin; refine wpList_append_own _ rfl _ _ 38 rfl w.heap.size 3 i0 (.int .i64 0) 1 8 Tryz.underlying38 HI0.out HZ0.out HZ1.out HZ2.out rfl (by decide) u5 y.length (i64l y) (by rfl) (HO.out.alloc _) ⟨wr.heap.size, 0, none⟩ 1 1 [.int .i64 (d : Nat)] (by rfl) rfl (news_val _ _ _) (one_int _ _) (app_b1 HK.out) (app_b2 HK.out (by decide)) (app_b3 HB.out) ?_; intro v2 w9 hown9 hgrow9 _)
      have HF := Lib.hid (app_i64 (b := d) HO.out HB.out hown9 hgrow9)
      rw [HA.out] at HF
      clear hown9 hgrow9
      go_wp2_with fail
      go_roundw
      case rel => exact ⟨k + 1, by omega, by omega, by go_num, HF.out.1, HF.out.2⟩
      case measure => simp [intOf]; omega
    · have hdig := madeL_dig s k
      have hlen := madeL_len s k
      generalize madeL s k = y at *
      have htv := trimL_val 10 y
      have htl := trimL_le y
      have hz : leV 10 (trimL y) < 10 ^ M := by
        rw [htv]
        have h1 := leV_lt hdig
        have h2 : 10 ^ y.length ≤ 10 ^ M := Nat.pow_le_pow_right (by decide) (by omega)
        omega
      have HTR := Lib.hid (fun w h => rtrim_any y (by omega) u5 w h)
      have HTX := Lib.hid (fun neg v w h => rtext_any neg (trimL y) (by omega) (trimL_dig hdig) (trimL_norm y) v w h)
      have HZ : Hid (∀ neg, (sgn neg (leV 10 (trimL y))).natAbs < 10 ^ M) := fun neg => by
        unfold sgn; split <;> omega
      have HNA : Hid (NumsAt wr u5 y) := NumsAt.of_owns HO.out
      generalize trimL y = t at *
      generalize leV 10 t = n at *
      clear hdig hlen htv htl hz HO
      rcases Nat.eq_zero_or_pos s.size with h0 | h0
      · have h0' : ((s.size : Int)) = 0 := by omega
        have l2 : (s.size : Int) ≤ k := by omega
        clear hlt
        have hdz : decide ((0 : Int) < s.size) = false := by rw [h0']; rfl
        go_wp2_with fail
        have hmv : mvOp = Op.move (Operand.tmp 0) := rfl
        have hge : geOp = Op.binOp BinOp.geq 5 (Operand.tmp 34) (Operand.const (Value.int IntKind.u8 128)) 5 := rfl
        rw [← hmv, ← hge]
        go_region_held3 (fun _ => True) (trivial) (first
          | (go_at_call 27; (with_reducible refine (HTR.out _ ?_).mono ?_); exact HNA.out; rintro e w1 ⟨u, rfl, hu, rfl⟩)
          | (go_at_call 26; (with_reducible refine (HTX.out false _ _ hu).mono ?_); rintro e w2 ⟨rfl, hB2⟩))
        all_goals
          go_wp2_with fail
          go_ret
          exact ⟨⟨_, rfl, HZ.out false⟩, belowVia hB2 ⟨HB.out.os, HB.out.tape, HB.out.output, HB.out.size, HB.out.block⟩⟩
      · have h0' : (0 : Int) < s.size := by omega
        by_cases h128 : 128 ≤ (s[0]).toNat
        · have h128' : decide ((128 : Int) ≤ ((s[0]).toNat : Int)) = true := by simp; omega
          by_cases l1 : (k : Int) < s.size
          · have l2 : (M : Int) ≤ k := by omega
            clear hlt
            go_wp2_with fail
            go_region_held3 (fun _ => True) (trivial) (first
              | (go_at_call 27; (with_reducible refine (HTR.out _ ?_).mono ?_); exact HNA.out; rintro e w1 ⟨u, rfl, hu, rfl⟩)
              | (go_at_call 26; (with_reducible refine (HTX.out true _ _ hu).mono ?_); rintro e w2 ⟨rfl, hB2⟩))
            all_goals
              go_wp2_with fail
              go_ret
              exact ⟨⟨_, rfl, HZ.out true⟩, belowVia hB2 ⟨HB.out.os, HB.out.tape, HB.out.output, HB.out.size, HB.out.block⟩⟩
          · have l2 : (s.size : Int) ≤ k := by omega
            clear hlt l1
            go_wp2_with fail
            go_region_held3 (fun _ => True) (trivial) (first
              | (go_at_call 27; (with_reducible refine (HTR.out _ ?_).mono ?_); exact HNA.out; rintro e w1 ⟨u, rfl, hu, rfl⟩)
              | (go_at_call 26; (with_reducible refine (HTX.out true _ _ hu).mono ?_); rintro e w2 ⟨rfl, hB2⟩))
            all_goals
              go_wp2_with fail
              go_ret
              exact ⟨⟨_, rfl, HZ.out true⟩, belowVia hB2 ⟨HB.out.os, HB.out.tape, HB.out.output, HB.out.size, HB.out.block⟩⟩
        · have h128' : decide ((128 : Int) ≤ ((s[0]).toNat : Int)) = false := by simp; omega
          by_cases l1 : (k : Int) < s.size
          · have l2 : (M : Int) ≤ k := by omega
            clear hlt
            go_wp2_with fail
            go_region_held3 (fun _ => True) (trivial) (first
              | (go_at_call 27; (with_reducible refine (HTR.out _ ?_).mono ?_); exact HNA.out; rintro e w1 ⟨u, rfl, hu, rfl⟩)
              | (go_at_call 26; (with_reducible refine (HTX.out false _ _ hu).mono ?_); rintro e w2 ⟨rfl, hB2⟩))
            all_goals
              go_wp2_with fail
              go_ret
              exact ⟨⟨_, rfl, HZ.out false⟩, belowVia hB2 ⟨HB.out.os, HB.out.tape, HB.out.output, HB.out.size, HB.out.block⟩⟩
          · have l2 : (s.size : Int) ≤ k := by omega
            clear hlt l1
            go_wp2_with fail
            go_region_held3 (fun _ => True) (trivial) (first
              | (go_at_call 27; (with_reducible refine (HTR.out _ ?_).mono ?_); exact HNA.out; rintro e w1 ⟨u, rfl, hu, rfl⟩)
              | (go_at_call 26; (with_reducible refine (HTX.out false _ _ hu).mono ?_); rintro e w2 ⟨rfl, hB2⟩))
            all_goals
              go_wp2_with fail
              go_ret
              exact ⟨⟨_, rfl, HZ.out false⟩, belowVia hB2 ⟨HB.out.os, HB.out.tape, HB.out.output, HB.out.size, HB.out.block⟩⟩
end Go.Proofs.YtggkbeppfpgkaaaGreatDoor
