/- The fixed examples of the laws' sane. -/
import Derived.Test.YtdhpighnkoamiaaDoorDigHex
import Derived.Test.YtdhpighnkoamiaaDoorDigFacts
namespace Go.Proofs.YtdhpighnkoamiaaDoor
open Go.RowKit Putlog

theorem digB_of (xs : List ByteArray) (h : ∀ x ∈ xs, x.size = 32) : digB (getB xs) 0 xs.length = true := by
  suffices hk : ∀ k, k ≤ xs.length → digB (getB xs) 0 k = true from hk _ (Nat.le_refl _)
  intro k
  induction k with
  | zero => intro _; rfl
  | succ k ih =>
    intro hk
    have : (getB xs (0 + k)).size = 32 := by
      rw [Nat.zero_add]
      simp only [getB, List.getD_eq_getElem?_getD, List.getElem?_eq_getElem (show k < xs.length by omega), Option.getD_some]
      exact h _ (List.getElem_mem _)
    simp only [digB, ih (by omega), this]
    rfl
theorem verB_ok (f : Nat → ByteArray) {n i : Nat} (hi : i < n) : verB (getB (besideS f 0 n i)) (rootS f 0 n) (f i) n i (besideS f 0 n i).length = true := by
  rw [verB, if_pos ⟨by omega, by omega, digB_of _ (beside_mem f n n 0 i (Nat.le_refl _))⟩, Int.toNat_natCast, Int.toNat_natCast]
  have := proof_value f n n i 0 (Nat.le_refl _) hi
  rw [Nat.zero_add] at this
  rw [this]
  simp
theorem extB_ok (f : Nat → ByteArray) {n m : Nat} (hm : m ≤ n) : extB (getB (extS f n m)) (rootS f 0 m) (rootS f 0 n) m n (extS f n m).length = true := by
  rcases Nat.eq_zero_or_pos m with rfl | h0
  · rw [extS, if_pos rfl, extB, if_pos ⟨by omega, by omega, rootS_size _ _ _, rootS_size _ _ _, rfl⟩, if_pos (show ((0 : Nat) : Int) = 0 from rfl), rootS_zero]
    simp
  · rw [extS, if_neg (by omega), extB, if_pos ⟨by omega, by omega, rootS_size _ _ _, rootS_size _ _ _, digB_of _ (part_mem f n n 0 m true (Nat.le_refl _))⟩, if_neg (by omega), Int.toNat_natCast, Int.toNat_natCast,
      ext_value f n n m 0 true _ (Nat.le_refl _) h0 hm (fun _ => rfl)]
    simp

def sA : ByteArray := ⟨#[97]⟩
def sB : ByteArray := ⟨#[98]⟩
def sC : ByteArray := ⟨#[99]⟩
def sD : ByteArray := ⟨#[100]⟩
def abc : Nat → ByteArray := getB [sA, sB, sC]
theorem root1 : rootS abc 0 1 = leafB sA := by rw [rootS_one]; rfl
theorem root2 : rootS abc 0 2 = nodeB (leafB sA) (leafB sB) := by rw [rootS_more (Nat.le_refl _), half2, rootS_one, rootS_one]; rfl
theorem root3 : rootS abc 0 3 = nodeB (nodeB (leafB sA) (leafB sB)) (leafB sC) := by rw [rootS_more (by omega), half3, root2, rootS_one]; rfl
theorem prf2 : besideS abc 0 3 2 = [rootS abc 0 2] := by
  rw [besideS_right (by omega) (by rw [half3]; exact Nat.le_refl _), half3, besideS_one (by omega)]; rfl
theorem ext1 : extS abc 3 1 = [leafB sB, leafB sC] := by
  rw [extS, if_neg (by omega), partS_left (by omega) (by omega) (by rw [half3]; omega), half3, partS_left (by omega) (by omega) (by rw [half2]; omega), half2, partS_whole, rootS_one, rootS_one]; rfl
theorem node_ne1 : ((nodeB (nodeB (leafB sA) (leafB sB)) (leafB sD)).data.toList == (nodeB (nodeB (leafB sA) (leafB sB)) (leafB sC)).data.toList) = false := by decide +kernel
theorem node_ne2 : ((nodeB (nodeB (nodeB (leafB sA) (leafB sB)) (leafB sB)) (leafB sC)).data.toList == (nodeB (nodeB (leafB sA) (leafB sB)) (leafB sC)).data.toList) = false := by decide +kernel
theorem ver_c : verB (getB [rootS abc 0 2]) (rootS abc 0 3) sC 3 2 1 = true := by
  have := verB_ok abc (n := 3) (i := 2) (by omega)
  rw [prf2] at this
  exact this
theorem ver_d : verB (getB [rootS abc 0 2]) (rootS abc 0 3) sD 3 2 1 = false := by
  rw [verB]
  split
  · have e : valueS (getB [rootS abc 0 2]) sD 3 2 1 = (nodeB (rootS abc 0 2) (leafB sD), true) := by
      rw [valueS_right (m := 0) (by omega) (by rw [half3]; exact Nat.le_refl _), half3, valueS_one (by omega)]; rfl
    rw [show ((3 : Int).toNat) = 3 from rfl, show ((2 : Int).toNat) = 2 from rfl, e, root3, root2, ByteArray.toList_eq, ByteArray.toList_eq]
    exact node_ne1
  · rfl
theorem ext_a : extB (getB [leafB sB, leafB sC]) (rootS abc 0 1) (rootS abc 0 3) 1 3 2 = true := by
  have := extB_ok abc (n := 3) (m := 1) (by omega)
  rw [ext1] at this
  exact this
theorem ext_b : extB (getB [leafB sB, leafB sC]) (rootS abc 0 2) (rootS abc 0 3) 1 3 2 = false := by
  rw [extB]
  split
  · have e : twoS (getB [leafB sB, leafB sC]) (rootS abc 0 2) 1 3 2 true = (rootS abc 0 2, nodeB (nodeB (rootS abc 0 2) (leafB sB)) (leafB sC), true) := by
      rw [twoS_left (k := 1) (by omega) (by omega) (by rw [half3]; omega), half3, twoS_left (k := 0) (by omega) (by omega) (by rw [half2]; omega), half2, twoS_whole]; rfl
    rw [if_neg (by omega), show ((3 : Int).toNat) = 3 from rfl, show ((1 : Int).toNat) = 1 from rfl, e, root3, root2, ByteArray.toList_eq, ByteArray.toList_eq, ByteArray.toList_eq]
    simp only
    rw [node_ne2, Bool.and_false]
  · rfl
end Go.Proofs.YtdhpighnkoamiaaDoor
