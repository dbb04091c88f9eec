/- The contract of hex, and the fixed digests of sane. -/
import Derived.Test.YtdhpighnkoamiaaDoorDigFew
namespace Go.Proofs.YtdhpighnkoamiaaDoor
open Go.RowKit Putlog

def hexAll : ByteArray := ⟨#[48, 49, 50, 51, 52, 53, 54, 55, 56, 57, 97, 98, 99, 100, 101, 102]⟩
def hexStep (acc : ByteArray) (b : UInt8) : ByteArray := acc ++ hexAll.extract (b.toNat / 16) (b.toNat / 16 + 1) ++ hexAll.extract (b.toNat % 16) (b.toNat % 16 + 1)
def hexS (l : List UInt8) : ByteArray := l.foldl hexStep ⟨#[]⟩
theorem hexS_snoc (l : List UInt8) (b : UInt8) : hexS (l ++ [b]) = hexStep (hexS l) b := by simp [hexS, List.foldl_append]
theorem hexStep_size (acc : ByteArray) (b : UInt8) : (hexStep acc b).size ≤ acc.size + 32 := by
  have h : hexAll.size = 16 := rfl
  simp only [hexStep, ByteArray.size_append, ByteArray.size_extract, h]
  omega
theorem hexS_size (l : List UInt8) : (hexS l).size ≤ 32 * l.length := by
  suffices h : ∀ (l : List UInt8) (acc : ByteArray), (l.foldl hexStep acc).size ≤ acc.size + 32 * l.length by
    have := h l ⟨#[]⟩
    have e : (⟨#[]⟩ : ByteArray).size = 0 := rfl
    unfold hexS; omega
  intro l
  induction l with
  | nil => intro acc; simp
  | cons b l ih => intro acc; have h1 := ih (hexStep acc b); have h2 := hexStep_size acc b; simp only [List.foldl_cons, List.length_cons]; omega
theorem hex_empty : (hexS (shaB ByteArray.empty).data.toList).toList = [101, 51, 98, 48, 99, 52, 52, 50, 57, 56, 102, 99, 49, 99, 49, 52, 57, 97, 102, 98, 102, 52, 99, 56, 57, 57, 54, 102, 98, 57, 50, 52, 50, 55, 97, 101, 52, 49, 101, 52, 54, 52, 57, 98, 57, 51, 52, 99, 97, 52, 57, 53, 57, 57, 49, 98, 55, 56, 53, 50, 98, 56, 53, 53] := by
  rw [ByteArray.toList_eq]
  decide +kernel
theorem hex_abc : (hexS (shaB ⟨#[97, 98, 99]⟩).data.toList).toList = [98, 97, 55, 56, 49, 54, 98, 102, 56, 102, 48, 49, 99, 102, 101, 97, 52, 49, 52, 49, 52, 48, 100, 101, 53, 100, 97, 101, 50, 50, 50, 51, 98, 48, 48, 51, 54, 49, 97, 51, 57, 54, 49, 55, 55, 97, 57, 99, 98, 52, 49, 48, 102, 102, 54, 49, 102, 50, 48, 48, 49, 53, 97, 100] := by
  rw [ByteArray.toList_eq]
  decide +kernel

set_option maxRecDepth 100000 in
set_option maxHeartbeats 2000000 in
theorem hex_any (s : ByteArray) (w : World) (hs : (s.size : Int) ≤ 1000) :
    Calls Tryd.prog 39 #[.string s] w fun e w' => e = .returned (.string (hexS s.data.toList)) ∧ Below w.heap.size w w' := by
  go_enter Tryd.func39, Tryd.ntmps39
  go_wp2_with fail
  go_loopw [3, 4] (fun v i wr => ∃ k : Nat, k ≤ s.size ∧ i = .int .i64 k ∧ v = .string (hexS (s.data.toList.take k)) ∧ Below w.heap.size w wr) (fun _ i _ => s.size - (intOf i).toNat)
  case atStart => exact ⟨0, by omega, rfl, rfl, Below.refl _ _⟩
  case round =>
    obtain ⟨k, hk, rfl, rfl, hB⟩ := hrel
    have HB := Lib.hid hB
    clear hB
    by_cases hlt : k < s.size
    · have hsn : hexS (s.data.toList.take (k + 1)) = hexStep (hexS (s.data.toList.take k)) s[k] := by
        rw [List.take_succ_eq_append_getElem (by simpa using hlt), hexS_snoc]; rfl
      have hsz := hexS_size (s.data.toList.take k)
      have hl : (s.data.toList.take k).length ≤ k := List.length_take_le _ _
      have hz : ((hexS (s.data.toList.take k)).size : Int) ≤ 32000 := by omega
      have hb := UInt8.toNat_lt s[k]
      unfold hexStep hexAll at hsn
      generalize hexS (s.data.toList.take k) = acc at *
      have HN := Lib.hid hsn
      have b1 : (s[k].toNat : Int) < 256 := by omega
      have b2 : (s[k].toNat : Int) / 16 < 16 := by omega
      have b3 : (s[k].toNat : Int) % 16 < 16 := by omega
      clear hsn hsz hl hb
      go_wp2_with fail
      go_quiet (fail)
      go_wp2_with fail
      go_roundw
      case rel => exact ⟨k + 1, by omega, by go_num, by rw [HN.out], below_drewN HB.out _⟩
      case measure => simp [intOf]; omega
    · have he : s.data.toList.take k = s.data.toList := List.take_of_length_le (by simp; omega)
      have HE := Lib.hid he
      have hlt2 : (s.size : Int) ≤ k := by omega
      clear he hlt
      go_wp2_with fail
      go_ret
      refine ⟨?_, HB.out⟩
      show Ending.returned (.string (hexS (s.data.toList.take k))) = _
      rw [HE.out]
end Go.Proofs.YtdhpighnkoamiaaDoor
