/- ClockAgrees: every second of the spell that Agree returns is in as many spells as it says, those before and after it are not, and no second is in more, for any spells, of which the first twelve count. Conditions: none but the form's own. -/
import Derived.Test.YtebhalcoemkomaaClkLawKit
import Derived.Test.YtebhalcoemkomaaClkCardKit
import Derived.Test.YtebhalcoemkomaaClkAgreesW
namespace Go.Proofs.Ytebhalcoemkomaa
open Go.ChangeShapes Go.WideShapes Go.ChangeAt Go.RowKit
namespace lawClockAgrees

set_option maxRecDepth 100000 in
theorem contract (H : Type) (enc : TypeId × Value → H) (W : World) (base : Nat) (args : Array Value) (ds gs : List (DataW H)) (before : List MemPlace)
    (hval : ∀ (j : Nat) t v, Try.f8.params[j]? = some t → args[j]? = some v → Value.okWide Try.prog W .any base t v)
    (hW : DataW.Whole enc Try.prog Try.f8.params.toList Rows.clockAgreesSpec.vars false W args.toList ds gs before) (_hL : laidMetH Try.prog Rows.clockAgreesRow.laid W) :
    Calls Try.prog 8 args W fun e W' => ∃ v, e = .returned v ∧ Rows.clockAgreesSpec.post enc Try.prog Try.f8 false true false false W args v W' := by
  have hW' := hW
  obtain ⟨p, q, hA0, hV, rfl, hfz, hnd⟩ := hW
  have hA : DataW.TrodAll enc Try.prog W 0 (fun _ => true) true Try.f8.params.toList args.toList ds p := hA0
  rw [Try.params8] at hA hval
  obtain ⟨v0, vs0, d0, ds0, p0, q0, hargs, rfl, rfl, t0, r0⟩ := trodAll_cons hA
  obtain ⟨v1, vs1, d1, ds1, p1, q1, rfl, rfl, rfl, t1, r1⟩ := trodAll_cons r0
  obtain ⟨rfl, rfl, rfl⟩ := trodAll_nil r1
  obtain rfl : args = #[v0, v1] := by cases args; simp_all
  obtain ⟨l0, n0⟩ := open_spells (hval 0 _ v0 rfl rfl) t0
  obtain ⟨a1, rfl, _, _, w1⟩ := open_int Try.underlying3 (hval 1 _ v1 rfl rfl) t1
  have b1 := bounds_i64 w1
  refine (Agrees_calls l0 v0 a1 W n0 b1).mono fun e W' ⟨he, hB⟩ => ⟨_, he, ?_⟩
  exact law_post (by kernel_rfl) (by kernel_rfl) rfl rfl hW' hB

def argsW : Array Value := #[.slice none 0 0, .int .i64 0]
theorem laid_met (os : Os) : laidMet Try.prog Rows.clockAgreesRow.laid ((World.laidAll Try.prog os Rows.clockAgreesRow.laid).forCall (fun _ _ => 0) ⟨#[], argsW, []⟩).memory :=
  laidMet_laidAll _ (by kernel_rfl) (by kernel_rfl)
theorem reads (os : Os) {H : Type} (enc : TypeId × Value → H) : ∃ places, DataW.whole enc Try.prog ((World.laidAll Try.prog os Rows.clockAgreesRow.laid).forCall (fun _ _ => 0) ⟨#[], argsW, []⟩).memory Try.f8.params.toList Rows.clockAgreesSpec.vars false argsW.toList 8
    = some ([.nil, .lit (.int .i64 0)], [], places) :=
  ⟨[], by kernel_rfl⟩

set_option maxRecDepth 100000 in
theorem lifted (os : Os) (started : os.Started) (H : Type) (enc : TypeId × Value → H) (F : Stop.Interp) :
    ReturnsInHanded {} Try.checked os 8 .any ((OpenSpec.ofChange Rows.clockAgreesSpec).preRow enc Try.prog Try.f8 Rows.clockAgreesRow.domain false Rows.clockAgreesRow.laid) (((OpenSpec.ofChange Rows.clockAgreesSpec).at F).post enc Try.prog Try.f8 false true false false) := by
  obtain ⟨places, hx⟩ := reads os enc
  refine returnsInHanded_of_row (C := Try.checked) (s := OpenSpec.ofChange Rows.clockAgreesSpec) ownKnobNone started (by kernel_rfl) Try.func8
    (witness_row_at (enc := enc) (C := Try.checked) false (World.laidAll Try.prog os Rows.clockAgreesRow.laid) argsW rfl (by kernel_rfl) (by kernel_rfl) (by kernel_rfl)
      (OpenSpec.preRow_of_cond 8 hx (by kernel_rfl) (fun k hk => by cases hk) (by kernel_rfl) (laid_met os))) ?_
  intro W base args ds gs before hval hW _ _ _ hL _ _
  exact contract H enc W base args ds gs before hval hW hL

/-- The statement: whatever the arguments, ClockAgrees answers true and changes none of them. -/
theorem said : Rows.ClockAgreesSaid :=
  OpenClaim.holds_of_cond 8 Try.f8 rfl rfl rfl rfl rfl rfl rfl ⟨rfl, rfl, rfl, rfl, rfl⟩ rfl rfl rfl rfl rfl (by kernel_rfl) Try.func8 (by kernel_rfl)
    (of_decide_eq_true (by kernel_rfl)) (by unfold Func.isWrapper; first | (rw [if_pos (by decide +kernel)]; kernel_rfl) | (rw [if_neg (by decide +kernel)]; exact ⟨rfl, rfl⟩))
    (fun os started H enc _ F => by rw [OpenClaim.pre_eq_preRow]; exact lifted os started H enc F)

end lawClockAgrees
end Go.Proofs.Ytebhalcoemkomaa
