/- The contracts of the order, the text and the division of numbers with a sign. -/
import Derived.Test.YtggkbeppfpgkaaaGreatDoorIntNum2
namespace Go.Proofs.YtggkbeppfpgkaaaGreatDoor
open Go.RowKit Putlog

theorem cmp_both {x y : Int} (hx : x < 0) (hy : y < 0) : cmpI (y.natAbs : Nat) (x.natAbs : Nat) = cmpI x y := by
  unfold cmpI
  split <;> split <;> (try split) <;> (try split) <;> omega
theorem cmp_none {x y : Int} (hx : ¬ x < 0) (hy : ¬ y < 0) : cmpI (x.natAbs : Nat) (y.natAbs : Nat) = cmpI x y := by
  unfold cmpI
  split <;> split <;> (try split) <;> (try split) <;> omega
set_option maxRecDepth 100000 in
set_option maxHeartbeats 4000000 in
theorem ncmp (x y : Int) (hx : x.natAbs < 10000 ^ 250) (hy : y.natAbs < 10000 ^ 250) (u v : Value) (w : World) (hu : NumAt w u x) (hv : NumAt w v y)  :
    Calls Tryz.prog 52 #[u, v] w fun e w' => e = .returned (.int .i64 (cmpI x y)) ∧ Below w.heap.size w w' := by
  obtain ⟨a, ca, rfl, hra, hca⟩ := hu
  obtain ⟨b, cb, rfl, hrb, hcb⟩ := hv
  have HB : Hid (∀ o p : Obj, Below w.heap.size w ((w.alloc o).alloc p)) := fun o p => belowVia (alloc_below _ _) (alloc_below _ _)
  have HP := Lib.hid (fun W hu hv => mcmp x.natAbs y.natAbs hx hy _ _ W (MagAt.via hu (mag_of_num hra hca)) (MagAt.via hv (mag_of_num hrb hcb)))
  have HQ := Lib.hid (fun W hu hv => mcmp y.natAbs x.natAbs hy hx _ _ W (MagAt.via hu (mag_of_num hrb hcb)) (MagAt.via hv (mag_of_num hra hca)))
  clear hx hy
  by_cases h : x < 0 <;> by_cases k : y < 0
  · rw [cmp_both h k] at HQ
    have e1 : decide (x < 0) = true := by simp [h]
    have e2 : decide (y < 0) = true := by simp [k]
    rw [e1, e2]
    generalize (digsL 10000 x.natAbs).length = n at *
    generalize (digsL 10000 y.natAbs).length = m at *
    generalize cmpI x y = r at *
    clear h k e1 e2
    go_enter Tryz.func52, Tryz.ntmps52
    go_wp2_with fail
    refine (HQ.out _ (HB.out _ _) (HB.out _ _)).mono ?_
    rintro e w1 ⟨rfl, hB1⟩
    go_wp2_with fail
    go_ret
    exact ⟨rfl, belowVia hB1 (HB.out _ _)⟩
  · have e0 : cmpI x y = -1 := by unfold cmpI; rw [if_pos (by omega)]
    have e1 : decide (x < 0) = true := by simp [h]
    have e2 : decide (y < 0) = false := by simp; omega
    rw [e1, e2, e0]
    generalize (digsL 10000 x.natAbs).length = n at *
    generalize (digsL 10000 y.natAbs).length = m at *
    clear h k e1 e2 e0
    go_enter Tryz.func52, Tryz.ntmps52
    go_wp2_with fail
    go_ret
    exact ⟨rfl, HB.out _ _⟩
  · have e0 : cmpI x y = 1 := by unfold cmpI; rw [if_neg (by omega), if_pos (by omega)]
    have e1 : decide (x < 0) = false := by simp; omega
    have e2 : decide (y < 0) = true := by simp [k]
    rw [e1, e2, e0]
    generalize (digsL 10000 x.natAbs).length = n at *
    generalize (digsL 10000 y.natAbs).length = m at *
    clear h k e1 e2 e0
    go_enter Tryz.func52, Tryz.ntmps52
    go_wp2_with fail
    go_ret
    exact ⟨rfl, HB.out _ _⟩
  · rw [cmp_none h k] at HP
    have e1 : decide (x < 0) = false := by simp; omega
    have e2 : decide (y < 0) = false := by simp; omega
    rw [e1, e2]
    generalize (digsL 10000 x.natAbs).length = n at *
    generalize (digsL 10000 y.natAbs).length = m at *
    generalize cmpI x y = r at *
    clear h k e1 e2
    go_enter Tryz.func52, Tryz.ntmps52
    go_wp2_with fail
    refine (HP.out _ (HB.out _ _) (HB.out _ _)).mono ?_
    rintro e w1 ⟨rfl, hB1⟩
    go_wp2_with fail
    go_ret
    exact ⟨rfl, belowVia hB1 (HB.out _ _)⟩
theorem ba_cons (c : UInt8) (l : List UInt8) : (⟨#[c]⟩ : ByteArray) ++ (⟨l.toArray⟩ : ByteArray) = ⟨(c :: l).toArray⟩ := by
  apply ByteArray.ext
  simp [ByteArray.data_append]
set_option maxRecDepth 100000 in
set_option maxHeartbeats 4000000 in
theorem ntext (x : Int) (hx : x.natAbs < 10000 ^ 250) (u : Value) (w : World) (hu : NumAt w u x) :
    Calls Tryz.prog 39 #[u] w fun e w' => e = .returned (.string (intB x)) ∧ Below w.heap.size w w' := by
  obtain ⟨a, ca, rfl, hra, hca⟩ := hu
  have HD := Lib.hid (fun W hm => mdigits x.natAbs hx _ W (MagAt.via hm (mag_of_num hra hca)))
  have hlen := (natT_len x.natAbs (4 * 250) (by decide)).2 (by rw [show (10000 : Nat) = 10 ^ 4 from rfl, ← Nat.pow_mul] at hx; exact hx)
  obtain ⟨d, hd⟩ : ∃ d : ByteArray, d = ⟨(natT x.natAbs).toArray⟩ := ⟨_, rfl⟩
  have hds : (d.size : Int) ≤ 1000 := by rw [hd]; show ((natT x.natAbs).toArray.size : Int) ≤ 1000; rw [List.size_toArray]; omega
  have HI : Hid (intB x = if x < 0 then (⟨#[45]⟩ : ByteArray) ++ d else d) := by
    show _ = _
    unfold intB intT
    rw [hd]
    split
    · rw [ba_cons]
    · rfl
  rw [← hd] at HD
  generalize (digsL 10000 x.natAbs).length = n at *
  by_cases h : x < 0
  · have e1 : decide (x < 0) = true := by simp [h]
    rw [e1]
    rw [if_pos h] at HI
    rw [HI.out]
    clear hx hlen hd h e1 HI
    go_enter Tryz.func39, Tryz.ntmps39
    go_wp2_with fail
    refine (HD.out _ (alloc_below _ _)).mono ?_
    rintro e w1 ⟨rfl, hB1⟩
    go_wp2_with fail
    go_ret
    exact ⟨rfl, belowVia hB1 (alloc_below _ _)⟩
  · have e1 : decide (x < 0) = false := by simp; omega
    rw [e1]
    rw [if_neg h] at HI
    rw [HI.out]
    clear hx hlen hd h e1 HI
    go_enter Tryz.func39, Tryz.ntmps39
    go_wp2_with fail
    refine (HD.out _ (alloc_below _ _)).mono ?_
    rintro e w1 ⟨rfl, hB1⟩
    go_wp2_with fail
    go_ret
    exact ⟨rfl, belowVia hB1 (alloc_below _ _)⟩
set_option maxRecDepth 100000 in
set_option maxHeartbeats 4000000 in
theorem nzero (x : Int) (hx : x.natAbs < 10000 ^ 250) (u : Value) (w : World) (hu : NumAt w u x) :
    Calls Tryz.prog 37 #[u] w fun e w' => e = .returned (.bool (decide (x = 0))) ∧ Below w.heap.size w w' := by
  obtain ⟨a, ca, rfl, hra, hca⟩ := hu
  have hl := big_len hx
  have he : ((digsL 10000 x.natAbs).length = 0) ↔ x = 0 := by
    have := digsL_pos_len x.natAbs
    constructor
    · intro h
      have h2 := digsL_nil (List.length_eq_zero_iff.1 h); omega
    · intro h; subst h; show (digsL 10000 0).length = 0; rw [digsL_zero]; rfl
  obtain ⟨n, hn⟩ : ∃ n, n = (digsL 10000 x.natAbs).length := ⟨_, rfl⟩
  rw [← hn] at hl he ⊢
  have hlb : (n : Int) ≤ 250 := by omega
  have hdd : ((n : Int) == 0) = decide (x = 0) := by
    by_cases h : x = 0
    · have := he.2 h; simp [h, this]
    · have : n ≠ 0 := fun k => h (he.1 k)
      simp [h, this]
  generalize decide (x = 0) = t at *
  generalize decide (x < 0) = s at *
  clear hx hl he hn hra hca
  go_enter Tryz.func37, Tryz.ntmps37
  go_wp2_with fail
  go_ret
  exact ⟨rfl, alloc_below _ _⟩
end Go.Proofs.YtggkbeppfpgkaaaGreatDoor
