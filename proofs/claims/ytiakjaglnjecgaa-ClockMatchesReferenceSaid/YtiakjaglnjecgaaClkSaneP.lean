/- The fixed examples of layer 5. -/
import Derived.Test.YtiakjaglnjecgaaClkPure
import Derived.Test.YtiakjaglnjecgaaClkAgreeP
namespace Putlog

abbrev exR : List Rd := [(1000, 2000, 2010)]
abbrev exS : List Sp := [(0, 10), (5, 15), (8, 9), (12, 20)]
theorem ex_reads : ReadsIs 100 exR 2005 994 1007 :=
  ⟨FirstI.mk (fun l m h hp => Int.le_trans hp (winG_mono (by decide) (by decide) h _)) (by decide) (by decide) (.inr (by decide)) (.inr (by decide)),
   FirstI.mk (fun l m h hp => Int.lt_of_lt_of_le hp (winF_mono (by decide) (by decide) h _)) (by decide) (by decide) (.inr (by decide)) (.inr (by decide))⟩
theorem ex_agreed : Agreed exS 8 9 3 := by
  have hc : ∀ s, cnt s exS = (if 0 ≤ s ∧ s < 10 then 1 else 0) + ((if 5 ≤ s ∧ s < 15 then 1 else 0) + ((if 8 ≤ s ∧ s < 9 then 1 else 0) + ((if 12 ≤ s ∧ s < 20 then 1 else 0) + 0))) := fun s => by simp [cnt, inSp]
  refine ⟨by decide, fun s => ?_, fun e => by simp at e, fun _ => by decide, fun _ s hs => ?_, fun _ s h1 h2 => ?_, fun _ => ?_⟩
  · rw [hc]; repeat' split <;> omega
  · rw [hc]; repeat' split <;> omega
  · rw [hc]; repeat' split <;> omega
  · rw [hc]; decide
theorem ex_at1 : atOk 100 exR 1110 = true ∧ winF 100 1110 exR = 2100 ∧ winG 100 1110 exR = 2133 := by decide
theorem ex_at2 : atOk 100 exR 890 = true ∧ winF 100 890 exR = 1877 ∧ winG 100 890 exR = 1910 := by decide
theorem ex_valid : validC 100 exR = true := by decide
theorem ex_spread : loS 0 7 = 7 ∧ hiS 0 7 = 7 ∧ loS 100 0 = 0 ∧ hiS 100 0 = 1 ∧ loS 100 110 = 100 ∧ hiS 100 110 = 123 := by decide
end Putlog
