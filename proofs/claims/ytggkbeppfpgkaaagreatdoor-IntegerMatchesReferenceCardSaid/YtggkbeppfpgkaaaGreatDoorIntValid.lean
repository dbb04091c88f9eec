/- The contract of Valid. -/
import Derived.Test.YtggkbeppfpgkaaaGreatDoorIntNum4
namespace Go.Proofs.YtggkbeppfpgkaaaGreatDoor
open Go.RowKit Putlog

theorem trim_minus (l : List UInt8) : Lib.trimPrefix l [45] = if l.head? = some 45 then l.tail else l := by
  cases l with
  | nil => rfl
  | cons c t =>
    by_cases h : c = 45
    · subst h; simp [Lib.trimPrefix, Lib.hasPrefix]
    · simp [Lib.trimPrefix, Lib.hasPrefix, h]
      intro h2; exact absurd h2.symm h
theorem validT_form (l : List UInt8) (h0 : l ≠ [48]) : validT l = ((Lib.trimPrefix l [45]).all isDigB && !(Lib.trimPrefix l [45]).isEmpty && decide ((Lib.trimPrefix l [45]).length ≤ 200) && !((Lib.trimPrefix l [45]).head? == some 48)) := by
  rw [trim_minus]
  unfold validT
  split
  · rfl
  · have : (l == [48]) = false := by simpa using h0
    rw [this, Bool.false_or]
theorem hasPrefix_minus (l : List UInt8) : Lib.hasPrefix l [45] = decide (l.head? = some 45) := by
  cases l with
  | nil => rfl
  | cons c t =>
    by_cases h : c = 45
    · subst h; simp [Lib.hasPrefix]
    · have : ((45 : UInt8) == c) = false := by rw [beq_eq_false_iff_ne]; exact fun e => h e.symm
      simp [Lib.hasPrefix, List.isPrefixOf, this, h]
theorem not_dig {l : List UInt8} {k : Nat} (h : k < l.length) (hd : ¬ IsDig l[k]) : l.all isDigB = false := by
  rw [Bool.eq_false_iff]
  intro h2
  exact hd ((all_isDigB l).1 h2 _ (List.getElem_mem h))
set_option maxRecDepth 100000 in
set_option maxHeartbeats 4000000 in
theorem valid_any (s : ByteArray) (hs : (s.size : Int) ≤ 9223372036854775807) (w : World) :
    Calls Tryz.prog 21 #[.string s] w fun e w' => e = .returned (.bool (validT s.data.toList)) ∧ w' = w := by
  by_cases h0 : s.data.toList = [48]
  · have e1 : (s.toList == [48]) = true := by rw [ByteArray.toList_eq, h0]; rfl
    have e2 : validT s.data.toList = true := by rw [h0]; decide
    rw [e2]
    clear h0 e2
    go_enter Tryz.func21, Tryz.ntmps21
    go_wp2_with fail
    go_ret
    exact ⟨rfl, rfl⟩
  · have e1 : (s.toList == [48]) = false := by rw [ByteArray.toList_eq]; simpa using h0
    have HV := Lib.hid (validT_form s.data.toList h0)
    have hT := Tryz.strings_TrimPrefix s ⟨#[45]⟩
    simp only at hT
    obtain ⟨d, hd⟩ : ∃ d : ByteArray, d = ⟨(Lib.trimPrefix s.data.toList [45]).toArray⟩ := ⟨_, rfl⟩
    have hdl : d.data.toList = Lib.trimPrefix s.data.toList [45] := by rw [hd]
    rw [← hd] at hT
    rw [← hdl] at HV
    have hds : (d.size : Int) ≤ 9223372036854775807 := by
      have h1 : d.size = d.data.toList.length := by rw [Array.length_toList]; rfl
      have h2 : s.size = s.data.toList.length := by rw [Array.length_toList]; rfl
      have h3 : d.data.toList.length ≤ s.data.toList.length := by
        rw [hdl, trim_minus]; split
        · simp
        · exact Nat.le_refl _
      omega
    have HT := Lib.hid hT
    have hsz : d.data.toList.length = d.size := by rw [Array.length_toList]; rfl
    rw [HV.out]
    clear h0 hT hd hdl HV
    by_cases c0 : d.data.toList = []
    · have e2 : (d.toList == []) = true := by rw [ByteArray.toList_eq, c0]; rfl
      have e3 : (d.data.toList.all isDigB && !d.data.toList.isEmpty && decide (d.data.toList.length ≤ 200) && !(d.data.toList.head? == some 48)) = false := by rw [c0]; rfl
      rw [e3]
      clear e3 c0 hsz
      go_enter Tryz.func21, Tryz.ntmps21
      go_wp2_with fail
      refine (HT.out w).mono ?_
      rintro e w1 ⟨rfl, rfl⟩
      go_wp2_with fail
      go_ret
      exact ⟨rfl, rfl⟩
    · have e2 : (d.toList == []) = false := by rw [ByteArray.toList_eq]; simpa using c0
      have hpos : 0 < d.size := by have := List.length_pos_iff.2 c0; omega
      by_cases c1 : 200 < d.size
      · have e3 : (d.data.toList.all isDigB && !d.data.toList.isEmpty && decide (d.data.toList.length ≤ 200) && !(d.data.toList.head? == some 48)) = false := by
          rw [hsz]; simp; intros; omega
        rw [e3]
        have c1' : (200 : Int) < d.size := by omega
        clear e3 c0 hsz c1
        go_enter Tryz.func21, Tryz.ntmps21
        go_wp2_with fail
        refine (HT.out w).mono ?_
        rintro e w1 ⟨rfl, rfl⟩
        go_wp2_with fail
        go_ret
        exact ⟨rfl, rfl⟩
      · have c1' : ¬ (200 : Int) < d.size := by omega
        have hgd : ∀ k (h : k < d.size), ∃ h2 : k < d.data.toList.length, d[k] = d.data.toList[k]'h2 := fun k h => ⟨by omega, by simp [ByteArray.getElem_eq_getElem_data]⟩
        have hh : d.data.toList.head? = some d[0] := by
          obtain ⟨h2, h3⟩ := hgd 0 hpos
          rw [h3, List.head?_eq_getElem?, List.getElem?_eq_getElem h2]
        have hp' : (0 : Int) < d.size := by omega
        by_cases c2 : d[0] = 48
        · have e3 : (d.data.toList.all isDigB && !d.data.toList.isEmpty && decide (d.data.toList.length ≤ 200) && !(d.data.toList.head? == some 48)) = false := by
            rw [hh, c2]; simp
          rw [e3]
          have e4 : (((d[0]).toNat : Int) == 48) = true := by rw [c2]; rfl
          clear e3 c0 hsz c1 hh hgd c2
          go_enter Tryz.func21, Tryz.ntmps21
          go_wp2_with fail
          refine (HT.out w).mono ?_
          rintro e w1 ⟨rfl, rfl⟩
          go_wp2_with fail
          go_ret
          exact ⟨rfl, rfl⟩
        · have e4 : (((d[0]).toNat : Int) == 48) = false := by
            simp
            intro h
            exact c2 (UInt8.toNat_inj.1 (by rw [show (48 : UInt8).toNat = 48 from rfl]; omega))
          have e3 : (d.data.toList.all isDigB && !d.data.toList.isEmpty && decide (d.data.toList.length ≤ 200) && !(d.data.toList.head? == some 48)) = d.data.toList.all isDigB := by
            have h1 : (d.data.toList.head? == some 48) = false := by rw [hh]; simpa using c2
            have h2 : d.data.toList.isEmpty = false := by simpa using c0
            rw [h1, h2, hsz]; simp; omega
          rw [e3]
          obtain ⟨bb, hbb⟩ : ∃ bb, bb = d.data.toList.all isDigB := ⟨_, rfl⟩
          rw [← hbb]
          have HBB := Lib.hid hbb
          have HG := Lib.hid hgd
          have HZ := Lib.hid hsz
          clear hbb
          clear e3 c0 hsz c1 hh hgd c2
          go_enter Tryz.func21, Tryz.ntmps21
          go_wp2_with fail
          refine (HT.out w).mono ?_
          rintro e w1 ⟨rfl, rfl⟩
          go_wp2_with fail
          go_loopw [23] (fun i wr => ∃ k : Nat, k ≤ d.size ∧ i = .int .i64 k ∧ wr = w1 ∧ ∀ j (h : j < d.data.toList.length), j < k → IsDig (d.data.toList[j]'h)) (fun i _ => d.size - (intOf i).toNat)
          case atStart => exact ⟨0, by omega, rfl, rfl, fun j _ h => by omega⟩
          case round =>
            obtain ⟨k, hk, rfl, rfl, hdig⟩ := hrel
            have HDG := Lib.hid hdig
            clear hdig
            by_cases hlt : k < d.size
            · have hlt' : (k : Int) < d.size := by omega
              obtain ⟨h2, h3⟩ := HG.out k hlt
              by_cases hdx : IsDig d[k]
              · have b1 : (48 : Int) ≤ (d[k]).toNat := by have := hdx.1; omega
                have b2 : ((d[k]).toNat : Int) ≤ 57 := by have := hdx.2; omega
                have HN : Hid (∀ j (h : j < d.data.toList.length), j < k + 1 → IsDig (d.data.toList[j]'h)) := fun j h hj => by
                  rcases Nat.lt_or_ge j k with h4 | h4
                  · exact HDG.out j h h4
                  · have : j = k := by omega
                    subst this
                    rw [← h3]; exact hdx
                clear hdx h3
                go_wp2_with fail
                exact ⟨⟨k + 1, by omega, by go_num, trivial, HN.out⟩, by simp [intOf]; omega⟩
              · have HF := Lib.hid (HBB.out.trans (not_dig h2 (by rw [← h3]; exact hdx)))
                have hor : ((d[k]).toNat : Int) < 48 ∨ (57 : Int) < (d[k]).toNat := by unfold IsDig at hdx; omega
                rcases hor with hor | hor
                · clear hdx h3
                  go_wp2_with fail
                  go_ret
                  exact ⟨congrArg (fun b => Ending.returned (Value.bool b)) HF.out.symm, rfl⟩
                · have b3 : ¬ ((d[k]).toNat : Int) < 48 := by omega
                  clear hdx h3
                  go_wp2_with fail
                  go_ret
                  exact ⟨congrArg (fun b => Ending.returned (Value.bool b)) HF.out.symm, rfl⟩
            · obtain rfl : k = d.size := by omega
              have hall : d.data.toList.all isDigB = true := (all_isDigB _).2 fun c hc => by
                obtain ⟨j, hj, rfl⟩ := List.mem_iff_getElem.1 hc
                exact HDG.out j hj (by rw [← HZ.out]; exact hj)
              have HF := Lib.hid (HBB.out.trans hall)
              clear hall
              go_wp2_with fail
              go_ret
              exact ⟨congrArg (fun b => Ending.returned (Value.bool b)) HF.out.symm, rfl⟩
end Go.Proofs.YtggkbeppfpgkaaaGreatDoor
