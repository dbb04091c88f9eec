/- The contract of collide. -/
import Derived.BigQuiet
import Derived.Deep.QuietTactic
import Derived.Test.YtdhpighnkoamiaaDoorDigWay
namespace Go.Proofs.YtdhpighnkoamiaaDoor
open Go.RowKit Putlog

/-- No collision in the first k places. -/
def NoColl (xs ys : List ByteArray) (k : Nat) : Prop := ∀ j, j < k → getB xs j ≠ getB ys j → shaB (getB xs j) ≠ shaB (getB ys j)
theorem NoColl.none {xs ys : List ByteArray} {k : Nat} (h : NoColl xs ys k) (hk : min xs.length ys.length ≤ k) : ¬ Coll xs ys := fun ⟨j, h1, h2, h3, h4⟩ => h j (by omega) h3 h4
theorem toList_eq {a b : ByteArray} (h : (a.toList == b.toList) = true) : a = b := by
  have h1 : a.toList = b.toList := by simpa using h
  rw [ByteArray.toList_eq, ByteArray.toList_eq] at h1
  exact ByteArray.ext (Array.toList_inj.1 h1)
theorem toList_ne {a b : ByteArray} (h : (a.toList == b.toList) = false) : a ≠ b := by
  rintro rfl
  simp at h

set_option maxRecDepth 100000 in
set_option maxHeartbeats 2000000 in
theorem collide_any (xs ys : List ByteArray) (hxs : ∀ j, (getB xs j).size ≤ 1000000) (hys : ∀ j, (getB ys j).size ≤ 1000000) (a1 a2 : Option Addr) (c1 c2 : Nat) (w : World)
    (hx1 : (xs.length : Int) ≤ 1000000) (hy1 : (ys.length : Int) ≤ 1000000) (h1 : SliceAt w a1 (getB xs) xs.length) (h2 : SliceAt w a2 (getB ys) ys.length) (hT : TabAt w) :
    Calls Tryd.prog 35 #[.slice a1 xs.length c1, .slice a2 ys.length c2] w fun e w' => ∃ r, e = .returned (.bool r) ∧ (Coll xs ys → r = true) ∧ Below w.heap.size w w' := by
  have HXS := Lib.hid hxs
  have HYS := Lib.hid hys
  have H1 := Lib.hid h1
  have H2 := Lib.hid h2
  have HT := Lib.hid hT
  clear hxs hys h1 h2 hT
  go_enter Tryd.func35, Tryd.ntmps35
  go_wp2_with fail
  go_loopw [5] (fun i wr => ∃ k : Nat, k ≤ 1000000 ∧ i = .int .i64 k ∧ NoColl xs ys k ∧ Below w.heap.size w wr) (fun i _ => 1000000 - (intOf i).toNat)
  case atStart => exact ⟨0, by omega, rfl, fun j hj => absurd hj (by omega), Below.refl _ _⟩
  case round =>
    obtain ⟨k, hk, rfl, hno, hB⟩ := hrel
    have HNO := Lib.hid hno
    have HB := Lib.hid hB
    clear hno hB
    by_cases hlt : k < xs.length ∧ k < ys.length
    · obtain ⟨l1, l2⟩ := hlt
      have l1' : (k : Int) < xs.length := by omega
      have l2' : (k : Int) < ys.length := by omega
      obtain ⟨b1, o1, rfl, hc1⟩ := SliceAt.via HB.out H1.out (by omega)
      obtain ⟨b2, o2, rfl, hc2⟩ := SliceAt.via HB.out H2.out (by omega)
      have hcx := hc1 k l1
      have hcy := hc2 k l2
      have sx := HXS.out k
      have sy := HYS.out k
      have HT1 := Lib.hid (tabVia HB.out HT.out)
      have HS : Hid (NoColl xs ys k → (getB xs k ≠ getB ys k → shaB (getB xs k) ≠ shaB (getB ys k)) → NoColl xs ys (k + 1)) := fun h1 h2 j hj => by
        rcases Nat.lt_or_ge j k with h3 | h3
        · exact h1 j h3
        · obtain rfl : j = k := by omega
          exact h2
      generalize getB xs k = x at *
      generalize getB ys k = y at *
      clear hc1 hc2
      cases he : (x.toList == y.toList) with
      | true =>
        have hne : ¬ x ≠ y := fun h => h (toList_eq he)
        have HN : Hid (NoColl xs ys (k + 1)) := HS.out HNO.out (fun h => absurd h hne)
        clear hne sx sy l1 l2
        go_wp2_with fail
        go_quiet (fail)
        go_wp2_with fail
        go_roundw
        case rel => exact ⟨k + 1, by omega, by go_num, HN.out, below_drewN HB.out _⟩
        case measure => simp [intOf]; omega
      | false =>
        have hsx : (shaB x).size ≤ 32 := by rw [shaB_size]; omega
        have hsy : (shaB y).size ≤ 32 := by rw [shaB_size]; omega
        have HSX := Lib.hid (fun w h => Sum_any x w (by omega) h)
        have HSY := Lib.hid (fun w h => Sum_any y w (by omega) h)
        generalize hdx : shaB x = dx at *
        generalize hdy : shaB y = dy at *
        clear hsx hsy sx sy l1 l2 hdx hdy
        go_wp2_with fail
        go_region_held3 (fun w' => w'.cell? ⟨b1, o1 + k, none⟩ = some (.string x) ∧ w'.cell? ⟨b2, o2 + k, none⟩ = some (.string y)) (first | exact ⟨hcx, hcy⟩ | exact ⟨keptBelow hB1 hcx, keptBelow hB1 hcy⟩ | exact ⟨keptBelow hB2 (keptBelow hB1 hcx), keptBelow hB2 (keptBelow hB1 hcy)⟩) (first
          | (go_at_call 13; (with_reducible refine (HSX.out _ ?_).mono ?_); exact HT1.out; rintro e w1 ⟨rfl, hB1⟩)
          | (go_at_call 13; (with_reducible refine (HSY.out _ ?_).mono ?_); exact tabVia hB1 HT1.out; rintro e w2 ⟨rfl, hB2⟩))
        have HB3 := Lib.hid (belowVia hB2 (belowVia hB1 ⟨HB.out.os, HB.out.tape, HB.out.output, HB.out.size, HB.out.block⟩))
        clear hB1 hB2 hcx hcy
        cases hd : (dx.toList == dy.toList) with
        | true =>
          go_wp2_with fail
          go_ret
          exact ⟨true, rfl, fun _ => rfl, HB3.out⟩
        | false =>
          have HN : Hid (NoColl xs ys (k + 1)) := HS.out HNO.out (fun _ => toList_ne hd)
          go_wp2_with fail
          go_roundw
          case rel => exact ⟨k + 1, by omega, by go_num, HN.out, HB3.out⟩
          case measure => simp [intOf]; omega
    · have hnc : ¬ Coll xs ys := NoColl.none HNO.out (by omega)
      have HN := Lib.hid hnc
      clear hnc
      by_cases l1 : k < xs.length
      · have l1' : (k : Int) < xs.length := by omega
        have l2' : (ys.length : Int) ≤ k := by omega
        clear hlt l1
        go_wp2_with fail
        go_ret
        exact ⟨false, rfl, fun h => absurd h HN.out, HB.out⟩
      · have l1' : (xs.length : Int) ≤ k := by omega
        clear hlt l1
        go_wp2_with fail
        go_ret
        exact ⟨false, rfl, fun h => absurd h HN.out, HB.out⟩
end Go.Proofs.YtdhpighnkoamiaaDoor
