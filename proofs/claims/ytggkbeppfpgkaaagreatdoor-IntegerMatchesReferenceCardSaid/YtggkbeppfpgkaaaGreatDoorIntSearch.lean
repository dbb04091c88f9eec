/- The contracts of sort.Search over a function value, and of what a magnitude has above an index. -/
import Derived.Test.YtggkbeppfpgkaaaGreatDoorIntCompare
namespace Go.Proofs.YtggkbeppfpgkaaaGreatDoor
open Go.RowKit Putlog

set_option maxRecDepth 100000 in
set_option maxHeartbeats 2000000 in
theorem above_any (l : List Nat) (hd : DigB 10000 l) (cut : Nat) (hl : l.length ≤ cut + 3) (hlb : l.length ≤ 100000) (hcb : cut ≤ 100000) (a : Option Addr) (c : Nat) (w : World) (hr : Room l.length c) (hv : CellsAt w a (ofN l)) :
    Calls Tryz.prog 89 #[.slice a l.length c, .int .i64 cut] w fun e w' => e = .returned (.int .i64 (leV 10000 (l.drop cut) : Nat)) ∧ w' = w := by
  have HD := Lib.hid hd
  have HV := Lib.hid hv
  have hr1 := hr.1
  obtain ⟨n, hn⟩ : ∃ n, n = l.length := ⟨_, rfl⟩
  rw [← hn] at hl hlb hr1 ⊢
  have HN := Lib.hid hn
  have HL : Hid (n ≤ cut + 3) := hl
  have hnb : (n : Int) ≤ 100000 := by omega
  have hcb' : (cut : Int) ≤ 100000 := by omega
  clear hd hv hr hn hl
  go_enter Tryz.func89, Tryz.ntmps89
  go_wp2_with fail
  go_loop [5, 6] (fun v i => ∃ k : Nat, k ≤ n ∧ (cut ≤ k ∨ k = n) ∧ i = .int .i64 ((k : Int) - 1) ∧ v = .int .i64 (leV 10000 (l.drop k) : Nat)) (fun _ i => (1 + intOf i).toNat)
  case atStart => exact ⟨n, Nat.le_refl _, .inr rfl, rfl, by rw [List.drop_of_length_le (by have := HN.out; omega)]; rfl⟩
  case round =>
    obtain ⟨k, hk, hck, rfl, rfl⟩ := hrel
    by_cases hge : cut < k
    · obtain ⟨q, rfl⟩ : ∃ q, k = q + 1 := ⟨k - 1, by omega⟩
      have hqe : ((q + 1 : Nat) : Int) - 1 = q := by omega
      have hqn : (q : Int) < n := by omega
      have hqc : (cut : Int) ≤ q := by omega
      have hql : q < l.length := by have := HN.out; omega
      obtain ⟨g, o, rfl, hcell⟩ := cells_get HV.out hql
      have hcx := hcell q hql
      have hxb := digB_get HD.out hql
      have hxb' : ((l.getD q 0 : Nat) : Int) < 10000 := by omega
      have hN : leV 10000 (l.drop (q + 1)) < 10000 ^ 3 := by
        have h1 : DigB 10000 (l.drop (q + 1)) := fun x hx => HD.out x (List.mem_of_mem_drop hx)
        have h2 := leV_lt h1
        have h3 : 10000 ^ (l.drop (q + 1)).length ≤ 10000 ^ 3 := Nat.pow_le_pow_right (by decide) (by simp; have := HL.out; have := HN.out; omega)
        omega
      have hnx : leV 10000 (l.drop q) = l.getD q 0 + 10000 * leV 10000 (l.drop (q + 1)) := by rw [drop_next hql, leV]
      rw [hqe]
      generalize leV 10000 (l.drop (q + 1)) = y at *
      generalize l.getD q 0 = x at *
      have hyb : (y : Int) < 1000000000000 := by omega
      have HX : Hid (((leV 10000 (l.drop q) : Nat) : Int) = (y : Int) * 10000 + x) := by show _ = _; omega
      clear hN hnx hcell hxb
      go_wp2_with fail
      go_round
      case rel => exact ⟨q, by omega, .inl (by omega), by go_num, by rw [HX.out]⟩
      case measure => simp [intOf]; omega
    · have hkc : ((k : Int) - 1) < cut := by omega
      have HE : Hid (leV 10000 (l.drop k) = leV 10000 (l.drop cut)) := by
        show _ = _
        rcases Nat.lt_or_ge k cut with h | h
        · have h1 : k = n := by omega
          rw [List.drop_of_length_le (by have := HN.out; omega), List.drop_of_length_le (by have := HN.out; omega)]
        · have : k = cut := by omega
          rw [this]
      rw [HE.out]
      clear hge
      go_wp2_with fail
      go_ret
      exact ⟨rfl, rfl⟩

set_option maxRecDepth 100000 in
set_option maxHeartbeats 2000000 in
/-- sort.Search over a function value that answers p and keeps I. -/
theorem search_any {g : Nat} {lb : Array Value} (eg : ∀ args w, (callFunc g args).run Tryz.prog w = .ok (.enter g args) w) (n : Nat) (hn : n ≤ 100000) (p : Nat → Bool) (I : World → Prop) (w : World) (h0 : I w)
    (hstep : ∀ (h : Nat) (w : World), h < n → I w → Calls Tryz.prog g (#[.int .i64 h] ++ lb) w fun e w' => e = .returned (.bool (p h)) ∧ I w') :
    Calls Tryz.prog 63 #[.int .i64 n, .func (.func g) #[] lb] w fun e w' => ∃ r : Nat, e = .returned (.int .i64 r) ∧ Firsts p n r ∧ I w' := by
  have HS := Lib.hid hstep
  have H0 := Lib.hid h0
  have hnb : (n : Int) ≤ 100000 := by omega
  clear hstep h0
  go_enter Tryz.func63, Tryz.ntmps63
  go_wp2_with fail
  go_loopw [5, 6] (fun a b wr => ∃ i j : Nat, i ≤ j ∧ j ≤ n ∧ a = .int .i64 i ∧ b = .int .i64 j ∧ (i = 0 ∨ p (i - 1) = false) ∧ (j = n ∨ p j = true) ∧ I wr) (fun a b _ => (intOf b - intOf a).toNat)
  case atStart => exact ⟨0, n, by omega, by omega, rfl, rfl, .inl rfl, .inl rfl, H0.out⟩
  case round =>
    obtain ⟨i, j, hij, hjn, rfl, rfl, hi, hj, hI⟩ := hrel
    have HI := Lib.hid hI
    have HP := Lib.hid hi
    have HQ := Lib.hid hj
    clear hI hi hj
    have hjb : (j : Int) ≤ 100000 := by omega
    by_cases hlt : i < j
    · have hlt' : (i : Int) < j := by omega
      obtain ⟨h, hh⟩ : ∃ h, h = (i + j) / 2 := ⟨_, rfl⟩
      have h1 : i ≤ h := by omega
      have h2 : h < j := by omega
      have hdiv : ((i : Int) + (j : Int)) / 2 = (h : Nat) := by omega
      have hhb : (h : Int) ≤ 100000 := by omega
      have HC := Lib.hid (HS.out h wr (by omega) HI.out)
      clear hh HI
      obtain ⟨bv, hbv⟩ : ∃ bv, bv = p h := ⟨_, rfl⟩
      have HBV := Lib.hid hbv
      rw [← hbv] at HC
      clear hbv
      go_wp2_with fail
      refine HC.out.mono ?_
      rintro e w1 ⟨rfl, hI1⟩
      have HI1 := Lib.hid hI1
      clear hI1 HC
      cases bv with
      | true =>
        go_wp2_with fail
        go_roundw
        case rel => exact ⟨i, h, by omega, by omega, rfl, rfl, HP.out, .inr HBV.out.symm, HI1.out⟩
        case measure => simp [intOf]; omega
      | false =>
        go_wp2_with fail
        go_roundw
        case rel => exact ⟨h + 1, j, by omega, by omega, by go_num, rfl, .inr (by rw [Nat.add_sub_cancel]; exact HBV.out.symm), HQ.out, HI1.out⟩
        case measure => simp [intOf]; omega
    · obtain rfl : i = j := by omega
      go_wp2_with fail
      go_ret
      exact ⟨i, rfl, ⟨hjn, HP.out, HQ.out⟩, HI.out⟩
end Go.Proofs.YtggkbeppfpgkaaaGreatDoor
