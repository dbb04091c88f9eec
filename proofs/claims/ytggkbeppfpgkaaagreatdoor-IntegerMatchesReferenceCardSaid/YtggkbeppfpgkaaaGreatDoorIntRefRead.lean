/- The reference's Valid, and the digits of a valid integer. -/
import Derived.Test.YtggkbeppfpgkaaaGreatDoorIntRefKit
namespace Go.Proofs.YtggkbeppfpgkaaaGreatDoor
open Go.RowKit Putlog

def coreT (l : List UInt8) : Bool := l.all isDigB && !l.isEmpty && decide (l.length ≤ 200) && (l == [48] || !(l.head? == some 48))
theorem coreT_pos {l : List UInt8} (h : l.head? ≠ some 45) : validT l = coreT l := by unfold validT coreT; rw [if_neg h]
theorem coreT_neg {l : List UInt8} (h : l.head? = some 45) (h2 : l.tail ≠ [48]) : validT l = coreT l.tail := by
  unfold validT coreT
  have : (l.tail == [48]) = false := by simpa using h2
  rw [if_pos h, this, Bool.false_or]
theorem coreT_neg0 {l : List UInt8} (h : l.head? = some 45) (h2 : l.tail = [48]) : validT l = false := by
  unfold validT
  rw [if_pos h, h2]; decide
theorem ten_nodig {l : List UInt8} {k : Nat} (h : k < l.length) (hd : ¬ IsDig l[k]) : coreT l = false := by
  have : l.all isDigB = false := by
    rw [Bool.eq_false_iff]
    intro h2
    exact hd ((all_isDigB l).1 h2 _ (List.getElem_mem h))
  unfold coreT; rw [this]; rfl
theorem ba_list (d : ByteArray) : d.data.toList.length = d.size ∧ ∀ k (_h : k < d.size), ∃ h2 : k < d.data.toList.length, d[k] = d.data.toList[k]'h2 := by
  have hsz : d.data.toList.length = d.size := by rw [Array.length_toList]; rfl
  exact ⟨hsz, fun k h => ⟨by omega, by simp [ByteArray.getElem_eq_getElem_data]⟩⟩
theorem ba_tail (s : ByteArray) : (s.extract 1 s.size).data.toList = s.data.toList.tail := by
  have h1 := (ba_list s).1
  simp [List.extract_eq_take_drop]
  exact List.take_of_length_le (by simp)
theorem ba_head {s : ByteArray} (h : 0 < s.size) : s.data.toList.head? = some s[0] := by
  obtain ⟨h1, h2⟩ := ba_list s
  obtain ⟨h3, h4⟩ := h2 0 h
  rw [h4, List.head?_eq_getElem?, List.getElem?_eq_getElem h3]
set_option maxRecDepth 100000 in
set_option maxHeartbeats 4000000 in
theorem rvalid_any (s : ByteArray) (hs : (s.size : Int) ≤ 9223372036854775807) (w : World) :
    Calls Tryz.prog 22 #[.string s] w fun e w' => e = .returned (.bool (validT s.data.toList)) ∧ w' = w := by
  rcases Nat.eq_zero_or_pos s.size with z0 | z0
  · have hnil : s.data.toList = [] := List.length_eq_zero_iff.1 (by rw [(ba_list s).1]; exact z0)
    have hz : (s.size : Int) = 0 := by omega
    have hdz : decide ((0 : Int) < s.size) = false := by rw [hz]; rfl
    have hE : validT s.data.toList = false := by rw [hnil]; rfl
    rw [hE]
    clear hnil hE
    go_enter Tryz.func22, Tryz.ntmps22
    go_wp2_with fail
    go_loopw [3] (fun i wr => i = .int .i64 0 ∧ wr = w) (fun _ _ => 0)
    case atStart => exact ⟨rfl, rfl⟩
    case round =>
      obtain ⟨rfl, rfl⟩ := hrel
      go_wp2_with fail
      go_ret
      exact ⟨rfl, rfl⟩
  · have z0' : (0 : Int) < s.size := by omega
    have hh := ba_head z0
    by_cases h45 : s[0] = 45
    · have e45 : (((s[0]).toNat : Int) == 45) = true := by rw [h45]; rfl
      have hh2 : s.data.toList.head? = some 45 := by rw [hh, h45]
      by_cases h48 : s.data.toList.tail = [48]
      · have e48 : ((s.extract 1 s.size).toList == [48]) = true := by rw [ByteArray.toList_eq, ba_tail, h48]; rfl
        rw [coreT_neg0 hh2 h48]
        clear hh hh2 h45 h48
        go_enter Tryz.func22, Tryz.ntmps22
        go_wp2_with fail
        go_ret
        exact ⟨rfl, rfl⟩
      · have e48 : ((s.extract 1 s.size).toList == [48]) = false := by rw [ByteArray.toList_eq, ba_tail]; simpa using h48
        rw [coreT_neg hh2 h48]
        obtain ⟨bb, hbb⟩ : ∃ bb, bb = coreT s.data.toList.tail := ⟨_, rfl⟩
        rw [← hbb]
        rw [← ba_tail] at hbb
        have HBB := Lib.hid hbb
        have HBL := Lib.hid (ba_list (s.extract 1 s.size))
        have hds : ((s.extract 1 s.size).size : Int) ≤ 9223372036854775807 := by simp [ByteArray.size_extract]; omega
        clear hbb hh hh2 h45 h48
        go_enter Tryz.func22, Tryz.ntmps22
        go_wp2_with fail
        generalize s.extract 1 s.size = d at *
        have HZ := Lib.hid HBL.out.1
        have HG := Lib.hid HBL.out.2
        clear HBL e48 e45
        go_loopw [3] (fun i wr => ∃ k : Nat, k ≤ d.size ∧ i = .int .i64 k ∧ wr = w ∧ ∀ j (h : j < d.data.toList.length), j < k → IsDig (d.data.toList[j]'h)) (fun i _ => d.size - (intOf i).toNat)
        case atStart => exact ⟨0, by omega, rfl, rfl, fun j _ h => by omega⟩
        case round =>
          obtain ⟨k, hk, rfl, rfl, hdig⟩ := hrel
          have HDG := Lib.hid hdig
          clear hdig
          by_cases hlt : k < d.size
          · have hlt' : (k : Int) < d.size := by omega
            obtain ⟨h2, h3⟩ := HG.out k hlt
            by_cases hdx : IsDig d[k]
            · have b1 : (48 : Int) ≤ (d[k]).toNat := by have := hdx.1; omega
              have b2 : ((d[k]).toNat : Int) ≤ 57 := by have := hdx.2; omega
              have HN : Hid (∀ j (h : j < d.data.toList.length), j < k + 1 → IsDig (d.data.toList[j]'h)) := fun j h hj => by
                rcases Nat.lt_or_ge j k with h4 | h4
                · exact HDG.out j h h4
                · have : j = k := by omega
                  subst this
                  rw [← h3]; exact hdx
              clear hdx h3
              go_wp2_with fail
              exact ⟨⟨k + 1, by omega, by go_num, trivial, HN.out⟩, by simp [intOf]; omega⟩
            · have HF := Lib.hid (HBB.out.trans (ten_nodig h2 (by rw [← h3]; exact hdx)))
              have hor : ((d[k]).toNat : Int) < 48 ∨ (57 : Int) < (d[k]).toNat := by unfold IsDig at hdx; omega
              rcases hor with hor | hor
              · clear hdx h3
                go_wp2_with fail
                go_ret
                exact ⟨congrArg (fun b => Ending.returned (Value.bool b)) HF.out.symm, rfl⟩
              · have b3 : ¬ ((d[k]).toNat : Int) < 48 := by omega
                clear hdx h3
                go_wp2_with fail
                go_ret
                exact ⟨congrArg (fun b => Ending.returned (Value.bool b)) HF.out.symm, rfl⟩
          · obtain rfl : k = d.size := by omega
            have hall : d.data.toList.all isDigB = true := (all_isDigB _).2 fun c hc => by
              obtain ⟨j, hj, rfl⟩ := List.mem_iff_getElem.1 hc
              exact HDG.out j hj (by rw [← HZ.out]; exact hj)
            have hbb := HBB.out
            unfold coreT at hbb
            rw [hall, HZ.out, Bool.true_and] at hbb
            clear hlt
            rcases Nat.eq_zero_or_pos d.size with c0 | c0
            · have hnil : d.data.toList = [] := List.length_eq_zero_iff.1 (by rw [HZ.out]; exact c0)
              have HF : Hid (bb = false) := by show _ = _; rw [hbb, hnil]; rfl
              have c0' : (d.size : Int) = 0 := by omega
              have hdz : decide ((0 : Int) < d.size) = false := by rw [c0']; rfl
              clear hbb hnil hall
              go_wp2_with fail
              go_ret
              exact ⟨congrArg (fun b => Ending.returned (Value.bool b)) HF.out.symm, rfl⟩
            · have c0' : (0 : Int) < d.size := by omega
              have hne : d.data.toList.isEmpty = false := by
                rw [Bool.eq_false_iff]; intro h; have := List.isEmpty_iff.1 h; have h4 := HZ.out; rw [this] at h4; simp at h4; omega
              rw [hne, Bool.not_false, Bool.true_and] at hbb
              by_cases c1 : 200 < d.size
              · have HF : Hid (bb = false) := by show _ = _; rw [hbb, show decide (d.size ≤ 200) = false by simp; omega]; rfl
                have c1' : (200 : Int) < d.size := by omega
                clear hbb hne hall c1
                go_wp2_with fail
                go_ret
                exact ⟨congrArg (fun b => Ending.returned (Value.bool b)) HF.out.symm, rfl⟩
              · have c1' : (d.size : Int) ≤ 200 := by omega
                rw [show decide (d.size ≤ 200) = true by simp; omega, Bool.true_and] at hbb
                by_cases c2 : d.data.toList = [48]
                · have HF : Hid (bb = true) := by show _ = _; rw [hbb, c2]; rfl
                  have e2 : (d.toList == [48]) = true := by rw [ByteArray.toList_eq, c2]; rfl
                  clear hbb hne hall c1 c2
                  go_wp2_with fail
                  go_ret
                  exact ⟨congrArg (fun b => Ending.returned (Value.bool b)) HF.out.symm, rfl⟩
                · have e2 : (d.toList == [48]) = false := by rw [ByteArray.toList_eq]; simpa using c2
                  have e3 : (d.data.toList == [48]) = false := by simpa using c2
                  rw [e3, Bool.false_or, ba_head c0] at hbb
                  by_cases c3 : d[0] = 48
                  · have HF : Hid (bb = false) := by show _ = _; rw [hbb, c3]; rfl
                    have e4 : (((d[0]).toNat : Int) != 48) = false := by rw [c3]; rfl
                    clear hbb hne hall c1 c2 c3 e3
                    go_wp2_with fail
                    go_ret
                    exact ⟨congrArg (fun b => Ending.returned (Value.bool b)) HF.out.symm, rfl⟩
                  · have HF : Hid (bb = true) := by show _ = _; rw [hbb]; simpa using c3
                    have e4 : (((d[0]).toNat : Int) != 48) = true := by
                      rw [bne_iff_ne]
                      intro h
                      exact c3 (UInt8.toNat_inj.1 (by rw [show (48 : UInt8).toNat = 48 from rfl]; omega))
                    clear hbb hne hall c1 c2 c3 e3
                    go_wp2_with fail
                    go_ret
                    exact ⟨congrArg (fun b => Ending.returned (Value.bool b)) HF.out.symm, rfl⟩
    · have e45 : (((s[0]).toNat : Int) == 45) = false := by
        rw [beq_eq_false_iff_ne]
        intro h
        exact h45 (UInt8.toNat_inj.1 (by rw [show (45 : UInt8).toNat = 45 from rfl]; omega))
      have hh2 : s.data.toList.head? ≠ some 45 := by rw [hh]; simpa using h45
      rw [coreT_pos hh2]
      obtain ⟨bb, hbb⟩ : ∃ bb, bb = coreT s.data.toList := ⟨_, rfl⟩
      rw [← hbb]
      have HBB := Lib.hid hbb
      have HZ := Lib.hid (ba_list s).1
      have HG := Lib.hid (ba_list s).2
      clear hbb hh hh2 h45
      go_enter Tryz.func22, Tryz.ntmps22
      go_wp2_with fail
      clear e45
      generalize s = d at *
      go_loopw [3] (fun i wr => ∃ k : Nat, k ≤ d.size ∧ i = .int .i64 k ∧ wr = w ∧ ∀ j (h : j < d.data.toList.length), j < k → IsDig (d.data.toList[j]'h)) (fun i _ => d.size - (intOf i).toNat)
      case atStart => exact ⟨0, by omega, rfl, rfl, fun j _ h => by omega⟩
      case round =>
        obtain ⟨k, hk, rfl, rfl, hdig⟩ := hrel
        have HDG := Lib.hid hdig
        clear hdig
        by_cases hlt : k < d.size
        · have hlt' : (k : Int) < d.size := by omega
          obtain ⟨h2, h3⟩ := HG.out k hlt
          by_cases hdx : IsDig d[k]
          · have b1 : (48 : Int) ≤ (d[k]).toNat := by have := hdx.1; omega
            have b2 : ((d[k]).toNat : Int) ≤ 57 := by have := hdx.2; omega
            have HN : Hid (∀ j (h : j < d.data.toList.length), j < k + 1 → IsDig (d.data.toList[j]'h)) := fun j h hj => by
              rcases Nat.lt_or_ge j k with h4 | h4
              · exact HDG.out j h h4
              · have : j = k := by omega
                subst this
                rw [← h3]; exact hdx
            clear hdx h3
            go_wp2_with fail
            exact ⟨⟨k + 1, by omega, by go_num, trivial, HN.out⟩, by simp [intOf]; omega⟩
          · have HF := Lib.hid (HBB.out.trans (ten_nodig h2 (by rw [← h3]; exact hdx)))
            have hor : ((d[k]).toNat : Int) < 48 ∨ (57 : Int) < (d[k]).toNat := by unfold IsDig at hdx; omega
            rcases hor with hor | hor
            · clear hdx h3
              go_wp2_with fail
              go_ret
              exact ⟨congrArg (fun b => Ending.returned (Value.bool b)) HF.out.symm, rfl⟩
            · have b3 : ¬ ((d[k]).toNat : Int) < 48 := by omega
              clear hdx h3
              go_wp2_with fail
              go_ret
              exact ⟨congrArg (fun b => Ending.returned (Value.bool b)) HF.out.symm, rfl⟩
        · obtain rfl : k = d.size := by omega
          have hall : d.data.toList.all isDigB = true := (all_isDigB _).2 fun c hc => by
            obtain ⟨j, hj, rfl⟩ := List.mem_iff_getElem.1 hc
            exact HDG.out j hj (by rw [← HZ.out]; exact hj)
          have hbb := HBB.out
          unfold coreT at hbb
          rw [hall, HZ.out, Bool.true_and] at hbb
          clear hlt
          rcases Nat.eq_zero_or_pos d.size with c0 | c0
          · have hnil : d.data.toList = [] := List.length_eq_zero_iff.1 (by rw [HZ.out]; exact c0)
            have HF : Hid (bb = false) := by show _ = _; rw [hbb, hnil]; rfl
            have c0' : (d.size : Int) = 0 := by omega
            have hdz : decide ((0 : Int) < d.size) = false := by rw [c0']; rfl
            clear hbb hnil hall
            go_wp2_with fail
            go_ret
            exact ⟨congrArg (fun b => Ending.returned (Value.bool b)) HF.out.symm, rfl⟩
          · have c0' : (0 : Int) < d.size := by omega
            have hne : d.data.toList.isEmpty = false := by
              rw [Bool.eq_false_iff]; intro h; have := List.isEmpty_iff.1 h; have h4 := HZ.out; rw [this] at h4; simp at h4; omega
            rw [hne, Bool.not_false, Bool.true_and] at hbb
            by_cases c1 : 200 < d.size
            · have HF : Hid (bb = false) := by show _ = _; rw [hbb, show decide (d.size ≤ 200) = false by simp; omega]; rfl
              have c1' : (200 : Int) < d.size := by omega
              clear hbb hne hall c1
              go_wp2_with fail
              go_ret
              exact ⟨congrArg (fun b => Ending.returned (Value.bool b)) HF.out.symm, rfl⟩
            · have c1' : (d.size : Int) ≤ 200 := by omega
              rw [show decide (d.size ≤ 200) = true by simp; omega, Bool.true_and] at hbb
              by_cases c2 : d.data.toList = [48]
              · have HF : Hid (bb = true) := by show _ = _; rw [hbb, c2]; rfl
                have e2 : (d.toList == [48]) = true := by rw [ByteArray.toList_eq, c2]; rfl
                clear hbb hne hall c1 c2
                go_wp2_with fail
                go_ret
                exact ⟨congrArg (fun b => Ending.returned (Value.bool b)) HF.out.symm, rfl⟩
              · have e2 : (d.toList == [48]) = false := by rw [ByteArray.toList_eq]; simpa using c2
                have e3 : (d.data.toList == [48]) = false := by simpa using c2
                rw [e3, Bool.false_or, ba_head c0] at hbb
                by_cases c3 : d[0] = 48
                · have HF : Hid (bb = false) := by show _ = _; rw [hbb, c3]; rfl
                  have e4 : (((d[0]).toNat : Int) != 48) = false := by rw [c3]; rfl
                  clear hbb hne hall c1 c2 c3 e3
                  go_wp2_with fail
                  go_ret
                  exact ⟨congrArg (fun b => Ending.returned (Value.bool b)) HF.out.symm, rfl⟩
                · have HF : Hid (bb = true) := by show _ = _; rw [hbb]; simpa using c3
                  have e4 : (((d[0]).toNat : Int) != 48) = true := by
                    rw [bne_iff_ne]
                    intro h
                    exact c3 (UInt8.toNat_inj.1 (by rw [show (48 : UInt8).toNat = 48 from rfl]; omega))
                  clear hbb hne hall c1 c2 c3 e3
                  go_wp2_with fail
                  go_ret
                  exact ⟨congrArg (fun b => Ending.returned (Value.bool b)) HF.out.symm, rfl⟩

theorem natT_digs {n : Nat} (h : n ≠ 0) : natT n = (digsL 10 n).reverse.map chr10 := by unfold natT; rw [if_neg h]
theorem digs_at {n : Nat} (h : n ≠ 0) (d : ByteArray) (hd : d.data.toList = natT n) : d.size = (digsL 10 n).length ∧ ∀ q (hq : q < d.size), ((d[q]).toNat : Int) = 48 + ((digsL 10 n).getD ((digsL 10 n).length - 1 - q) 0 : Nat) ∧ (digsL 10 n).getD ((digsL 10 n).length - 1 - q) 0 < 10 := by
  obtain ⟨h1, h2⟩ := ba_list d
  have hl : d.size = (digsL 10 n).length := by rw [← h1, hd, natT_digs h]; simp
  refine ⟨hl, fun q hq => ?_⟩
  obtain ⟨h3, h4⟩ := h2 q hq
  have h9 := dig_getD (by decide) (digsL_dig (B := 10) (by decide) n) ((digsL 10 n).length - 1 - q)
  refine ⟨?_, h9⟩
  have e : d.data.toList[q]'h3 = chr10 ((digsL 10 n).getD ((digsL 10 n).length - 1 - q) 0) := by
    have h5 : d.data.toList[q]? = some (chr10 ((digsL 10 n).getD ((digsL 10 n).length - 1 - q) 0)) := by
      rw [hd, natT_digs h, List.getElem?_map, List.getElem?_reverse (by omega), List.getD_eq_getElem?_getD, List.getElem?_eq_getElem (by omega)]
      rfl
    rw [List.getElem?_eq_getElem h3] at h5
    exact Option.some.inj h5
  rw [h4, e, chr10_toNat h9]; omega
theorem take_back (D : List Nat) {q : Nat} (h : q < D.length) : D.take (D.length - (q + 1)) ++ [D.getD (D.length - 1 - q) 0] = D.take (D.length - q) := by
  have e1 : D.length - q = D.length - (q + 1) + 1 := by omega
  have e2 : D.length - 1 - q = D.length - (q + 1) := by omega
  rw [e1, e2, List.take_succ_eq_append_getElem (by omega)]
  simp [List.getD_eq_getElem?_getD, show D.length - (q + 1) < D.length by omega]
set_option maxRecDepth 100000 in
set_option maxHeartbeats 4000000 in
theorem rdigits_any (z : Int) (hz : Fits z) (w : World) :
    Calls Tryz.prog 30 #[.string (intB z)] w fun e w' => (∃ u, e = .returned (.tuple #[.bool (decide (z < 0)), u]) ∧ NumsAt w' u (digsL 10 z.natAbs)) ∧ Below w.heap.size w w' := by
  obtain ⟨i0, hi0, hz0, hz1, hz2⟩ := info_parts info_int
  have HI0 := Lib.hid hi0
  have HZ0 := Lib.hid hz0
  have HZ1 := Lib.hid hz1
  have HZ2 := Lib.hid hz2
  have hlen : (digsL 10 z.natAbs).length ≤ 200 := (digsL_len (by decide) _ _).2 hz
  obtain ⟨n, hn⟩ : ∃ n, n = z.natAbs := ⟨_, rfl⟩
  rw [← hn] at hlen ⊢
  clear hi0 hz0 hz1 hz2
  by_cases h0 : n = 0
  · obtain rfl : z = 0 := by omega
    subst h0
    rw [digsL_zero, intB_zero]
    clear hlen hn hz
    have e48 : ((⟨#[48]⟩ : ByteArray).toList == [48]) = true := by decide +kernel
    go_enter Tryz.func30, Tryz.ntmps30
    go_wp2_with fail
    go_loopw [5, 6] (fun v i wr => v = .slice none 0 0 ∧ i = .int .i64 0 ∧ wr = w) (fun _ _ _ => 0)
    case atStart => exact ⟨rfl, rfl, rfl⟩
    case round =>
      obtain ⟨rfl, rfl, rfl⟩ := hrel
      go_wp2_with fail
      go_ret2
      exact ⟨⟨_, rfl, ⟨none, 0, rfl, Nat.le_refl _, by omega, .inl ⟨rfl, rfl⟩⟩⟩, Below.refl _ _⟩
  · have hne : natT n ≠ [48] := fun e => by
      have h1 := natT_val n
      rw [e] at h1
      exact h0 (by rw [← h1]; rfl)
    have hszz : (natT n).length ≤ 200 := by rw [natT_digs h0]; simpa using hlen
    by_cases hneg : z < 0
    · have hl : (intB z).data.toList = 45 :: natT n := by
        show (intT z).toArray.toList = _
        rw [List.toList_toArray]; unfold intT; rw [if_pos hneg, ← hn]
      have hdt : decide (z < 0) = true := by simpa using hneg
      rw [hdt]
      generalize intB z = s at *
      have hsz := (ba_list s).1
      rw [hl, List.length_cons] at hsz
      have z0 : 0 < s.size := by omega
      have z0' : (0 : Int) < s.size := by omega
      have hsb : (s.size : Int) ≤ 201 := by omega
      have hh := ba_head z0
      rw [hl, List.head?_cons] at hh
      have e45 : (((s[0]).toNat : Int) == 45) = true := by rw [← Option.some.inj hh]; rfl
      have hdl := ba_tail s
      rw [hl, List.tail_cons] at hdl
      have e48 : ((s.extract 1 s.size).toList == [48]) = false := by rw [ByteArray.toList_eq, hdl]; simpa using hne
      have e48' : ((s.extract 1 s.size).toList != [48]) = true := by rw [bne, e48]; rfl
      obtain ⟨hdn, hat⟩ := digs_at h0 (s.extract 1 s.size) hdl
      obtain ⟨N, hN⟩ : ∃ N, N = (digsL 10 n).length := ⟨_, rfl⟩
      have HAT := Lib.hid hat
      rw [← hN] at hdn hlen
      have HN := Lib.hid hN
      have hdb : ((s.extract 1 s.size).size : Int) ≤ 200 := by omega
      have hsum : (s.size : Int) - 1 = (s.extract 1 s.size).size := by simp [ByteArray.size_extract]; omega
      clear hl hsz hh hdl hat hN hdt hn hz hne hszz
      go_enter Tryz.func30, Tryz.ntmps30
      go_wp2_with fail
      generalize s.extract 1 s.size = d at *
      go_loopw [5, 6] (fun v i wr => ∃ q : Nat, q ≤ N ∧ i = .int .i64 ((q : Int) - 1) ∧ wr.ownsRow w.heap.size 3 1 v ((digsL 10 n).take (N - q)).length (i64l ((digsL 10 n).take (N - q))) ∧ Below w.heap.size w wr) (fun _ i _ => (1 + intOf i).toNat)
      case atStart => exact ⟨N, Nat.le_refl _, by go_num, by rw [Nat.sub_self]; exact World.ownsRow_nil _ _ _ _, Below.refl _ _⟩
      case round =>
        obtain ⟨k, hk, rfl, hown, hB⟩ := hrel
        have HO := Lib.hid hown
        have HB := Lib.hid hB
        clear hown hB
        rcases Nat.eq_zero_or_pos k with rfl | hk0
        · have hnums := NumsAt.of_owns HO.out
          rw [Nat.sub_zero, HN.out, List.take_length] at hnums
          have HNU := Lib.hid hnums
          clear hnums
          go_wp2_with fail
          go_ret2
          exact ⟨⟨_, rfl, HNU.out⟩, HB.out⟩
        · obtain ⟨q, rfl⟩ : ∃ q, k = q + 1 := ⟨k - 1, by omega⟩
          have hqe : ((q + 1 : Nat) : Int) - 1 = q := by omega
          have hqd : q < d.size := by omega
          have hqn : (q : Int) < d.size := by omega
          obtain ⟨hv, h9⟩ := HAT.out q hqd
          have htk := take_back (digsL 10 n) (q := q) (by have := HN.out; omega)
          rw [← HN.out] at hv h9 htk
          rw [hqe]
          have hxb : (((digsL 10 n).getD (N - 1 - q) 0 : Nat) : Int) ≤ 9 := by omega
          have HK : Hid (((digsL 10 n).take (N - (q + 1))).length ≤ 100000) := by show _ ≤ _; simp; omega
          generalize (digsL 10 n).getD (N - 1 - q) 0 = x at *
          generalize (digsL 10 n).take (N - (q + 1)) = y at *
          have hw : IntKind.u8.wrap (((d[q]).toNat : Int) - 48) = (x : Nat) := by rw [hv, IntKind.wrap_u8]; omega
          have HTK := Lib.hid htk
          clear hv h9 htk hqe
          go_wp2_with (at_builtin; refine wpList_append_own _ rfl _ _ 38 rfl w.heap.size 3 i0 (.int .i64 0) 1 8 Tryz.underlying38 HI0.out HZ0.out HZ1.out HZ2.out rfl (by decide) u5 y.length (i64l y) (by rfl) (HO.out.alloc _) ⟨wr.heap.size, 0, none⟩ 1 1 [.int .i64 (x : Nat)] (by rfl) rfl (news_val _ _ _) (one_int _ _) (app_b1 HK.out) (app_b2 HK.out (by decide)) (app_b3 HB.out) ?_; intro v2 w9 hown9 hgrow9 _)
          have HF := Lib.hid (app_i64 (b := x) HO.out HB.out hown9 hgrow9)
          rw [HTK.out] at HF
          clear hown9 hgrow9
          go_wp2_with fail
          go_roundw
          case rel => exact ⟨q, by omega, by go_num, HF.out.1, HF.out.2⟩
          case measure => simp [intOf]; omega
    · have hl : (intB z).data.toList = natT n := by
        show (intT z).toArray.toList = _
        rw [List.toList_toArray]; unfold intT; rw [if_neg hneg, ← hn]
      have hdt : decide (z < 0) = false := by simpa using hneg
      rw [hdt]
      generalize intB z = d at *
      obtain ⟨hdn, hat⟩ := digs_at h0 d hl
      obtain ⟨N, hN⟩ : ∃ N, N = (digsL 10 n).length := ⟨_, rfl⟩
      have HAT := Lib.hid hat
      rw [← hN] at hdn hlen
      have HN := Lib.hid hN
      have hdb : (d.size : Int) ≤ 200 := by omega
      have hsz := (ba_list d).1
      have z0 : 0 < d.size := by
        have h1 := natT_ne n
        rw [← hl] at h1
        have := List.length_pos_iff.2 h1
        omega
      have z0' : (0 : Int) < d.size := by omega
      have hx0 := (HAT.out 0 z0).1
      have e45 : (((d[0]).toNat : Int) == 45) = false := by rw [beq_eq_false_iff_ne]; omega
      have e48 : (d.toList == [48]) = false := by rw [ByteArray.toList_eq, hl]; simpa using hne
      have e48' : (d.toList != [48]) = true := by rw [bne, e48]; rfl
      clear hl hat hN hdt hn hz hne hszz hsz hx0
      go_enter Tryz.func30, Tryz.ntmps30
      go_wp2_with fail
      go_loopw [5, 6] (fun v i wr => ∃ q : Nat, q ≤ N ∧ i = .int .i64 ((q : Int) - 1) ∧ wr.ownsRow w.heap.size 3 1 v ((digsL 10 n).take (N - q)).length (i64l ((digsL 10 n).take (N - q))) ∧ Below w.heap.size w wr) (fun _ i _ => (1 + intOf i).toNat)
      case atStart => exact ⟨N, Nat.le_refl _, by go_num, by rw [Nat.sub_self]; exact World.ownsRow_nil _ _ _ _, Below.refl _ _⟩
      case round =>
        obtain ⟨k, hk, rfl, hown, hB⟩ := hrel
        have HO := Lib.hid hown
        have HB := Lib.hid hB
        clear hown hB
        rcases Nat.eq_zero_or_pos k with rfl | hk0
        · have hnums := NumsAt.of_owns HO.out
          rw [Nat.sub_zero, HN.out, List.take_length] at hnums
          have HNU := Lib.hid hnums
          clear hnums
          go_wp2_with fail
          go_ret2
          exact ⟨⟨_, rfl, HNU.out⟩, HB.out⟩
        · obtain ⟨q, rfl⟩ : ∃ q, k = q + 1 := ⟨k - 1, by omega⟩
          have hqe : ((q + 1 : Nat) : Int) - 1 = q := by omega
          have hqd : q < d.size := by omega
          have hqn : (q : Int) < d.size := by omega
          obtain ⟨hv, h9⟩ := HAT.out q hqd
          have htk := take_back (digsL 10 n) (q := q) (by have := HN.out; omega)
          rw [← HN.out] at hv h9 htk
          rw [hqe]
          have hxb : (((digsL 10 n).getD (N - 1 - q) 0 : Nat) : Int) ≤ 9 := by omega
          have HK : Hid (((digsL 10 n).take (N - (q + 1))).length ≤ 100000) := by show _ ≤ _; simp; omega
          generalize (digsL 10 n).getD (N - 1 - q) 0 = x at *
          generalize (digsL 10 n).take (N - (q + 1)) = y at *
          have hw : IntKind.u8.wrap (((d[q]).toNat : Int) - 48) = (x : Nat) := by rw [hv, IntKind.wrap_u8]; omega
          have HTK := Lib.hid htk
          clear hv h9 htk hqe
          go_wp2_with (at_builtin; refine wpList_append_own _ rfl _ _ 38 rfl w.heap.size 3 i0 (.int .i64 0) 1 8 Tryz.underlying38 HI0.out HZ0.out HZ1.out HZ2.out rfl (by decide) u5 y.length (i64l y) (by rfl) (HO.out.alloc _) ⟨wr.heap.size, 0, none⟩ 1 1 [.int .i64 (x : Nat)] (by rfl) rfl (news_val _ _ _) (one_int _ _) (app_b1 HK.out) (app_b2 HK.out (by decide)) (app_b3 HB.out) ?_; intro v2 w9 hown9 hgrow9 _)
          have HF := Lib.hid (app_i64 (b := x) HO.out HB.out hown9 hgrow9)
          rw [HTK.out] at HF
          clear hown9 hgrow9
          go_wp2_with fail
          go_roundw
          case rel => exact ⟨q, by omega, by go_num, HF.out.1, HF.out.2⟩
          case measure => simp [intOf]; omega
end Go.Proofs.YtggkbeppfpgkaaaGreatDoor
