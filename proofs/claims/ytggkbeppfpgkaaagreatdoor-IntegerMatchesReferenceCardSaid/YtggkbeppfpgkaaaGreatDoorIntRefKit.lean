/- What the contracts of the reference share; its order of two lists of digits. -/
import Derived.Test.YtggkbeppfpgkaaaGreatDoorIntTimes
import Derived.Test.YtggkbeppfpgkaaaGreatDoorIntTen
import Derived.Test.YtggkbeppfpgkaaaGreatDoorIntApi
namespace Go.Proofs.YtggkbeppfpgkaaaGreatDoor
open Go.RowKit Putlog

theorem nums_form {w : World} {v : Value} {l : List Nat} (h : NumsAt w v l) : ∃ a c, v = .slice a l.length c ∧ NumsAt w (.slice a l.length c) l := by
  obtain ⟨a, c, e, r⟩ := h
  exact ⟨a, c, e, a, c, rfl, r⟩
set_option maxRecDepth 100000 in
set_option maxHeartbeats 2000000 in
theorem rtrim_at (l : List Nat) (hl : l.length ≤ 100000) (a : Option Addr) (c : Nat) (w : World) (hv : NumsAt w (.slice a l.length c) l) :
    Calls Tryz.prog 27 #[.slice a l.length c] w fun e w' => e = .returned (.slice a (trimL l).length c) ∧ w = w' := by
  obtain ⟨hc1, hc2, hc3⟩ := hv.addr
  have HA := Lib.hid hc3
  clear hv hc3
  go_enter Tryz.func27, Tryz.ntmps27
  go_wp2_with fail
  go_loop [0] (fun v => ∃ k : Nat, k ≤ l.length ∧ v = .slice a k c ∧ trimL (l.take k) = trimL l) (fun v => slen v)
  case atStart => exact ⟨l.length, Nat.le_refl _, rfl, by rw [List.take_length]⟩
  case round =>
    obtain ⟨k, hk, rfl, ht⟩ := hrel
    rcases Nat.eq_zero_or_pos k with rfl | h0
    · have HT : Hid (trimL l = []) := by show trimL l = []; rw [← ht]; rfl
      clear ht
      go_wp2_with fail
      go_ret
      rw [HT.out]
      exact ⟨rfl, rfl⟩
    · obtain ⟨q, rfl⟩ : ∃ q, k = q + 1 := ⟨k - 1, by omega⟩
      obtain ⟨g, rfl, hcell⟩ := HA.out (by omega)
      have hc := hcell q (by omega)
      obtain ⟨hs1, hs2⟩ := trim_step (l := l) (k := q) (by omega)
      have hqc : (q : Int) + 1 ≤ c := by omega
      have hqb : (q : Int) ≤ 100000 := by omega
      by_cases hx : l.getD q 0 = 0
      · have HN : Hid (trimL (l.take q) = trimL l) := by show _ = _; rw [← hs1 hx]; exact ht
        rw [hx] at hc
        clear ht hs1 hs2 hx hcell
        go_wp2_with fail
        go_round
        case rel => exact ⟨q, by omega, rfl, HN.out⟩
        case measure => simp [slen]
      · have HT : Hid (trimL l = l.take (q + 1)) := by show _ = _; rw [← ht]; exact hs2 hx
        have hxb : ((l.getD q 0 : Nat) : Int) ≠ 0 := by omega
        have hxe : (((l.getD q 0 : Nat) : Int) == 0) = false := by simpa using hxb
        generalize l.getD q 0 = x at *
        clear ht hs1 hs2 hcell
        go_wp2_with fail
        go_ret
        have hkl : (trimL l).length = q + 1 := by rw [HT.out]; simp; omega
        rw [hkl]
        exact ⟨rfl, rfl⟩

theorem trim_nums {w : World} {a : Option Addr} {l : List Nat} {c : Nat} (h : NumsAt w (.slice a l.length c) l) : NumsAt w (.slice a (trimL l).length c) (trimL l) := by
  have h1 := NumsAt.take h (trimL_le l)
  rw [← trimL_take l] at h1
  exact h1
/-- A list of numbers in a block that is not one of the first. -/
def NumsNew (w : World) (base : Nat) (v : Value) (l : List Nat) : Prop := NumsAt w v l ∧ ∀ ad n c, v = .slice (some ad) n c → base ≤ ad.block
theorem NumsNew.set {w : World} {base b i : Nat} {v x : Value} {l : List Nat} (h : NumsNew w base v l) (hb : b < base) : NumsAt (w.setCell ⟨b, i, none⟩ x) v l := by
  obtain ⟨⟨a, c, rfl, h2, h3, h4⟩, h5⟩ := h
  refine ⟨a, c, rfl, h2, h3, ?_⟩
  rcases h4 with h4 | ⟨g, rfl, h6⟩
  · exact .inl h4
  · have hg := h5 _ _ _ rfl
    refine .inr ⟨g, rfl, fun j hj => ?_⟩
    rw [World.cell?_setCell_other _ _ _ _ (fun h => by have := congrArg Addr.block h; simp at this hg; omega)]
    exact h6 j hj
theorem new_trim {w : World} {base : Nat} {v : Value} {l : List Nat} (h : w.ownsRow base 3 1 v l.length (i64l l)) : ∃ a c, v = .slice a l.length c ∧ NumsAt w (.slice a l.length c) l ∧ NumsNew w base (.slice a (trimL l).length c) (trimL l) := by
  have h1 := NumsAt.of_owns h
  obtain ⟨a, c, rfl, _, _, h4, _⟩ := ownsRow_form h
  refine ⟨a, c, rfl, h1, trim_nums h1, fun ad n c' e => ?_⟩
  cases e
  rcases h4 with ⟨h4, _⟩ | ⟨g, h5, h6⟩
  · cases h4
  · cases h6; exact h5
theorem ten_next {l : List Nat} {k : Nat} (h : k < l.length) : l.drop k = l.getD k 0 :: l.drop (k + 1) := by
  rw [List.drop_eq_getElem_cons h]; simp [List.getD_eq_getElem?_getD, h]
theorem ten_cmp {A B : List Nat} {q : Nat} (hA : DigB 10 A) (hB : DigB 10 B) (hl : A.length = B.length) (hq : q < A.length) (hd : A.drop (q + 1) = B.drop (q + 1)) (hne : A.getD q 0 ≠ B.getD q 0) : cmpI (leV 10 A : Nat) (leV 10 B : Nat) = if A.getD q 0 < B.getD q 0 then -1 else 1 := by
  have eA : A = A.take q ++ A.getD q 0 :: A.drop (q + 1) := by rw [← ten_next hq, List.take_append_drop]
  have eB : B = B.take q ++ B.getD q 0 :: A.drop (q + 1) := by rw [hd, ← ten_next (by omega), List.take_append_drop]
  have hAt : DigB 10 (A.take q) := fun x hx => hA x (List.mem_of_mem_take hx)
  have hBt : DigB 10 (B.take q) := fun x hx => hB x (List.mem_of_mem_take hx)
  have hlt : (A.take q).length = (B.take q).length := by simp; omega
  rcases Nat.lt_or_gt_of_ne hne with h | h
  · have := leV_top (t := A.drop (q + 1)) hAt hlt h
    rw [← eA, ← eB] at this
    unfold cmpI
    rw [if_pos (by omega), if_pos (by omega)]
  · have := leV_top (t := A.drop (q + 1)) hBt hlt.symm h
    rw [← eA, ← eB] at this
    unfold cmpI
    rw [if_neg (by omega), if_pos (by omega), if_neg (by omega)]
theorem ten_len {A B : List Nat} (hA : DigB 10 A) (hB : DigB 10 B) (nA : Norm A) (nB : Norm B) (hl : A.length ≠ B.length) : cmpI (leV 10 A : Nat) (leV 10 B : Nat) = if A.length < B.length then -1 else 1 := by
  rcases Nat.lt_or_gt_of_ne hl with h | h
  · have := leV_len_lt (by decide) hA nB h
    unfold cmpI
    rw [if_pos (by omega), if_pos (by omega)]
  · have := leV_len_lt (by decide) hB nA h
    unfold cmpI
    rw [if_neg (by omega), if_pos (by omega), if_neg (by omega)]
set_option maxRecDepth 100000 in
set_option maxHeartbeats 4000000 in
theorem rorder_any (A B : List Nat) (hA : DigB 10 A) (hB : DigB 10 B) (nA : Norm A) (nB : Norm B) (hlA : A.length ≤ 5000) (hlB : B.length ≤ 5000) (u v : Value) (w : World) (hu : NumsAt w u A) (hv : NumsAt w v B) :
    Calls Tryz.prog 48 #[u, v] w fun e w' => e = .returned (.int .i64 (cmpI (leV 10 A : Nat) (leV 10 B : Nat))) ∧ Below w.heap.size w w' := by
  obtain ⟨a, ca, rfl, hva⟩ := nums_form hu
  obtain ⟨b, cb, rfl, hvb⟩ := nums_form hv
  obtain ⟨hra1, hra2, hva⟩ := hva.addr
  obtain ⟨hrb1, hrb2, hvb⟩ := hvb.addr
  have HDA := Lib.hid hA
  have HDB := Lib.hid hB
  have HVA := Lib.hid hva
  have HVB := Lib.hid hvb
  have hlA' : (A.length : Int) ≤ 5000 := by omega
  have hlB' : (B.length : Int) ≤ 5000 := by omega
  by_cases hl : A.length = B.length
  · obtain ⟨n, hn⟩ : ∃ n, n = A.length := ⟨_, rfl⟩
    rw [← hl] at hrb1 ⊢
    rw [← hn] at hra1 hrb1 hlA' ⊢
    have HN := Lib.hid hn
    have HL := Lib.hid hl
    clear hA hB hu hv hva hvb hra2 hrb2 hlA hlB hn hl nA nB hlB'
    have hd0 : ((n : Int) != n) = false := by simp
    go_enter Tryz.func48, Tryz.ntmps48
    go_wp2_with fail
    go_loopw [5] (fun i wr => ∃ k : Nat, k ≤ n ∧ i = .int .i64 ((k : Int) - 1) ∧ A.drop k = B.drop k ∧ Below w.heap.size w wr) (fun i _ => (1 + intOf i).toNat)
    case atStart => exact ⟨n, Nat.le_refl _, rfl, by have h1 := HN.out; have h2 := HL.out; rw [List.drop_of_length_le (by omega), List.drop_of_length_le (by omega)], Below.refl _ _⟩
    case round =>
      obtain ⟨k, hk, rfl, hd, hB⟩ := hrel
      have HD := Lib.hid hd
      have HB := Lib.hid hB
      clear hd hB
      rcases Nat.eq_zero_or_pos k with rfl | h0
      · have HE : Hid (cmpI (leV 10 A : Nat) (leV 10 B : Nat) = 0) := by
          show _ = _
          have : A = B := by have := HD.out; simpa using this
          rw [this]; unfold cmpI; simp
        go_wp2_with fail
        go_ret
        rw [HE.out]
        exact ⟨rfl, HB.out⟩
      · obtain ⟨q, rfl⟩ : ∃ q, k = q + 1 := ⟨k - 1, by omega⟩
        have hqA : q < A.length := by have := HN.out; omega
        have hqB : q < B.length := by have := HL.out; omega
        obtain ⟨ga, rfl, hca⟩ := HVA.out (by omega)
        obtain ⟨gb, rfl, hcb⟩ := HVB.out (by omega)
        have hcx := keptBelow HB.out (hca q hqA)
        have hcy := keptBelow HB.out (hcb q hqB)
        have hqe : ((q + 1 : Nat) : Int) - 1 = q := by omega
        have hqn : (q : Int) < n := by omega
        rw [hqe]
        by_cases hne : A.getD q 0 = B.getD q 0
        · have HE : Hid (A.drop q = B.drop q) := by show _ = _; rw [ten_next hqA, ten_next hqB, hne, HD.out]
          have hnb : (((A.getD q 0 : Nat) : Int) != ((B.getD q 0 : Nat) : Int)) = false := by rw [hne]; simp
          clear hca hcb hqA hqB hne
          generalize A.getD q 0 = x at *
          generalize B.getD q 0 = y at *
          go_wp2_with fail
          go_quiet (fail)
          go_wp2_with fail
          go_roundw
          case rel => exact ⟨q, by omega, by go_num, HE.out, below_drewN HB.out _⟩
          case measure => simp [intOf]; omega
        · have HE := Lib.hid (ten_cmp HDA.out HDB.out HL.out hqA HD.out hne)
          have hnb : (((A.getD q 0 : Nat) : Int) != ((B.getD q 0 : Nat) : Int)) = true := by rw [bne_iff_ne]; omega
          rcases Nat.lt_or_gt_of_ne hne with hlt | hlt
          · rw [if_pos hlt] at HE
            have hlt' : ((A.getD q 0 : Nat) : Int) < ((B.getD q 0 : Nat) : Int) := by omega
            clear hca hcb hqA hqB hne hlt
            generalize A.getD q 0 = x at *
            generalize B.getD q 0 = y at *
            go_wp2_with fail
            go_quiet (fail)
            go_wp2_with fail
            have hcx2 : (wr.drewN nq).cell? ⟨ga, q, none⟩ = some (.int .i64 (x : Nat)) := hcx
            have hcy2 : (wr.drewN nq).cell? ⟨gb, q, none⟩ = some (.int .i64 (y : Nat)) := hcy
            have HB2 : Hid (Below w.heap.size w (wr.drewN nq)) := below_drewN HB.out _
            generalize wr.drewN nq = w9 at *
            clear nq hcx hcy
            go_quiet (fail)
            go_wp2_with fail
            go_ret
            rw [HE.out]
            exact ⟨rfl, below_drewN HB2.out _⟩
          · rw [if_neg (by omega)] at HE
            have hlt' : ((B.getD q 0 : Nat) : Int) < ((A.getD q 0 : Nat) : Int) := by omega
            clear hca hcb hqA hqB hne hlt
            generalize A.getD q 0 = x at *
            generalize B.getD q 0 = y at *
            go_wp2_with fail
            go_quiet (fail)
            go_wp2_with fail
            have hcx2 : (wr.drewN nq).cell? ⟨ga, q, none⟩ = some (.int .i64 (x : Nat)) := hcx
            have hcy2 : (wr.drewN nq).cell? ⟨gb, q, none⟩ = some (.int .i64 (y : Nat)) := hcy
            have HB2 : Hid (Below w.heap.size w (wr.drewN nq)) := below_drewN HB.out _
            generalize wr.drewN nq = w9 at *
            clear nq hcx hcy
            go_quiet (fail)
            go_wp2_with fail
            go_ret
            rw [HE.out]
            exact ⟨rfl, below_drewN HB2.out _⟩
  · have HE := Lib.hid (ten_len hA hB nA nB hl)
    obtain ⟨n, hn⟩ : ∃ n, n = A.length := ⟨_, rfl⟩
    obtain ⟨m, hm⟩ : ∃ m, m = B.length := ⟨_, rfl⟩
    have hnm : ((n : Int) != m) = true := by rw [bne_iff_ne]; omega
    rw [← hn, ← hm] at HE
    rw [← hn] at hra1 hlA' hl ⊢
    rw [← hm] at hrb1 hlB' hl ⊢
    clear hA hB hu hv hva hvb hra2 hrb2 hlA hlB hn hm nA nB
    rcases Nat.lt_or_gt_of_ne hl with hlt | hlt
    · rw [if_pos hlt] at HE
      have hlt' : (n : Int) < m := by omega
      clear hl hlt
      go_enter Tryz.func48, Tryz.ntmps48
      go_wp2_with fail
      go_ret
      rw [HE.out]
      exact ⟨rfl, Below.refl _ _⟩
    · rw [if_neg (by omega)] at HE
      have hlt' : (m : Int) < n := by omega
      clear hl hlt
      go_enter Tryz.func48, Tryz.ntmps48
      go_wp2_with fail
      go_ret
      rw [HE.out]
      exact ⟨rfl, Below.refl _ _⟩
end Go.Proofs.YtggkbeppfpgkaaaGreatDoor
