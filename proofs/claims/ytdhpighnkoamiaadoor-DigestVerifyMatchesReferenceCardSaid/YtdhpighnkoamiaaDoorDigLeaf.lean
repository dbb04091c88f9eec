/- The contracts of Sum, Leaf, Node and Chain. -/
import Derived.Test.YtdhpighnkoamiaaDoorDigSum
namespace Go.Proofs.YtdhpighnkoamiaaDoor
open Go.RowKit Go.Shelf Putlog

/-- The contract of sum at parts that have just been laid. -/
theorem sum_new (l : List ByteArray) (n : Nat) (hn : l.length = n) (w w2 : World) (hB : Below w.heap.size w w2) (b c : Nat) (hl : n ≤ 3) (hc : ∀ j, j < n → w2.cell? ⟨b, j, none⟩ = some (.string (l.getD j ByteArray.empty))) (hb2 : b < w2.heap.size)
    (s : ByteArray) (hs : cat (fun j => l.getD j ByteArray.empty) 0 n = s.data.toList) (hsz : (s.size : Int) ≤ 1152921504606846976) (hT : TabAt w) :
    Calls Tryd.prog 40 #[.slice (some ⟨b, 0, none⟩) n c] w2 fun e W' => e = .returned (.string (shaB s)) ∧ Below w.heap.size w W' := by
  subst hn
  refine (sum_calls b 0 l.length c (fun j => l.getD j ByteArray.empty) w2 (by omega) hb2 (fun j hj => by rw [Nat.zero_add]; exact hc j hj) (by rw [hs]; simpa using hsz) (hT.below hB hT.size)).mono fun e W' ⟨he, hb'⟩ => ⟨?_, hB.trans (hb'.mono hB.size)⟩
  rw [he, hs]
  rfl

set_option maxHeartbeats 400000 in
theorem Sum_any (s : ByteArray) (w : World) (hs : (s.size : Int) ≤ 1152921504606846976) (hT : TabAt w) :
    Calls Tryd.prog 13 #[.string s] w fun e w' => e = .returned (.string (shaB s)) ∧ Below w.heap.size w w' := by
  have HC : Hid (Calls Tryd.prog 40 #[.slice (some ⟨w.heap.size, 0, none⟩) 1 1] (w.alloc (.cells #[.string s] 9)) fun e w' => e = .returned (.string (shaB s)) ∧ Below w.heap.size w w') := by
    have hA := ArrAt.new w #[.string s] 9
    refine sum_new [s] 1 rfl w _ ((Below.refl _ _).alloc (Nat.le_refl _) _) w.heap.size 1 (by omega) (fun j hj => ?_) (by simp) s (by simp [cat]) hs hT
    match j, hj with
    | 0, _ => exact hA.cell rfl
  clear hT
  go_enter Tryd.func13, Tryd.ntmps13
  go_wp2_with fail
  refine HC.out.mono ?_
  rintro e w' ⟨rfl, hb⟩
  go_wp2_with fail
  go_ret
  exact ⟨rfl, hb⟩
set_option maxHeartbeats 400000 in
theorem Leaf_any (s : ByteArray) (w : World) (hs : (s.size : Int) ≤ 1152921504606846975) (hT : TabAt w) :
    Calls Tryd.prog 15 #[.string s] w fun e w' => e = .returned (.string (shaB ((⟨#[0]⟩ : ByteArray) ++ s))) ∧ Below w.heap.size w w' := by
  have HC : Hid (Calls Tryd.prog 40 #[.slice (some ⟨w.heap.size, 0, none⟩) 2 2] (w.alloc (.cells #[.string ⟨#[0]⟩, .string s] 9)) fun e w' => e = .returned (.string (shaB ((⟨#[0]⟩ : ByteArray) ++ s))) ∧ Below w.heap.size w w') := by
    have hA := ArrAt.new w #[.string ⟨#[0]⟩, .string s] 9
    refine sum_new [⟨#[0]⟩, s] 2 rfl w _ ((Below.refl _ _).alloc (Nat.le_refl _) _) w.heap.size 2 (by omega) (fun j hj => ?_) (by simp) ((⟨#[0]⟩ : ByteArray) ++ s) (by simp [cat]) (by rw [ByteArray.size_append]; have : (⟨#[0]⟩ : ByteArray).size = 1 := rfl; omega) hT
    match j, hj with
    | 0, _ | 1, _ => exact hA.cell rfl
  clear hT
  go_enter Tryd.func15, Tryd.ntmps15
  go_wp2_with fail
  refine HC.out.mono ?_
  rintro e w' ⟨rfl, hb⟩
  go_wp2_with fail
  go_ret
  exact ⟨rfl, hb⟩
set_option maxHeartbeats 400000 in
theorem Node_any (s t : ByteArray) (w : World) (hs : (s.size : Int) ≤ 140737488355328) (ht : (t.size : Int) ≤ 140737488355328) (hT : TabAt w) :
    Calls Tryd.prog 17 #[.string s, .string t] w fun e w' => e = .returned (.string (shaB ((⟨#[1]⟩ : ByteArray) ++ s ++ t))) ∧ Below w.heap.size w w' := by
  have HC : Hid (Calls Tryd.prog 40 #[.slice (some ⟨w.heap.size, 0, none⟩) 3 3] (w.alloc (.cells #[.string ⟨#[1]⟩, .string s, .string t] 9)) fun e w' => e = .returned (.string (shaB ((⟨#[1]⟩ : ByteArray) ++ s ++ t))) ∧ Below w.heap.size w w') := by
    have hA := ArrAt.new w #[.string ⟨#[1]⟩, .string s, .string t] 9
    refine sum_new [⟨#[1]⟩, s, t] 3 rfl w _ ((Below.refl _ _).alloc (Nat.le_refl _) _) w.heap.size 3 (by omega) (fun j hj => ?_) (by simp) ((⟨#[1]⟩ : ByteArray) ++ s ++ t) (by simp [cat]) (by rw [ByteArray.size_append, ByteArray.size_append]; have : (⟨#[1]⟩ : ByteArray).size = 1 := rfl; omega) hT
    match j, hj with
    | 0, _ | 1, _ | 2, _ => exact hA.cell rfl
  clear hT
  go_enter Tryd.func17, Tryd.ntmps17
  go_wp2_with fail
  refine HC.out.mono ?_
  rintro e w' ⟨rfl, hb⟩
  go_wp2_with fail
  go_ret
  exact ⟨rfl, hb⟩
set_option maxHeartbeats 400000 in
theorem Chain_any (s t : ByteArray) (w : World) (hs : (s.size : Int) ≤ 140737488355328) (ht : (t.size : Int) ≤ 140737488355328) (hT : TabAt w) :
    Calls Tryd.prog 19 #[.string s, .string t] w fun e w' => e = .returned (.string (shaB ((⟨#[2]⟩ : ByteArray) ++ s ++ t))) ∧ Below w.heap.size w w' := by
  have HC : Hid (Calls Tryd.prog 40 #[.slice (some ⟨w.heap.size, 0, none⟩) 3 3] (w.alloc (.cells #[.string ⟨#[2]⟩, .string s, .string t] 9)) fun e w' => e = .returned (.string (shaB ((⟨#[2]⟩ : ByteArray) ++ s ++ t))) ∧ Below w.heap.size w w') := by
    have hA := ArrAt.new w #[.string ⟨#[2]⟩, .string s, .string t] 9
    refine sum_new [⟨#[2]⟩, s, t] 3 rfl w _ ((Below.refl _ _).alloc (Nat.le_refl _) _) w.heap.size 3 (by omega) (fun j hj => ?_) (by simp) ((⟨#[2]⟩ : ByteArray) ++ s ++ t) (by simp [cat]) (by rw [ByteArray.size_append, ByteArray.size_append]; have : (⟨#[2]⟩ : ByteArray).size = 1 := rfl; omega) hT
    match j, hj with
    | 0, _ | 1, _ | 2, _ => exact hA.cell rfl
  clear hT
  go_enter Tryd.func19, Tryd.ntmps19
  go_wp2_with fail
  refine HC.out.mono ?_
  rintro e w' ⟨rfl, hb⟩
  go_wp2_with fail
  go_ret
  exact ⟨rfl, hb⟩
end Go.Proofs.YtdhpighnkoamiaaDoor
