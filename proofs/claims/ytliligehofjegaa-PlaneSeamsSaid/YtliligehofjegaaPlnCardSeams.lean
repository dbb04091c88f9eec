/- PlaneSeams: the seam of two made polygons is that in the other order, turned around; a place is on it exactly if it is on both boundaries; the first polygon is to the left of it; and there is one if two places are on both boundaries. Conditions: none but the form's own. -/
import Derived.Test.YtliligehofjegaaPlnLawKit
import Derived.Test.YtliligehofjegaaPlnCardKit
import Derived.Test.YtliligehofjegaaPlnSeams
namespace Go.Proofs.Ytliligehofjegaa
open Go.ChangeShapes Go.WideShapes Go.ChangeAt Go.RowKit
namespace lawPlaneSeams

set_option maxRecDepth 100000 in
theorem contract (H : Type) (enc : TypeId × Value → H) (W : World) (base : Nat) (args : Array Value) (ds gs : List (DataW H)) (before : List MemPlace)
    (hval : ∀ (j : Nat) t v, Try.f7.params[j]? = some t → args[j]? = some v → Value.okWide Try.prog W .any base t v)
    (hW : DataW.Whole enc Try.prog Try.f7.params.toList Rows.planeSeamsSpec.vars false W args.toList ds gs before) (_hL : laidMetH Try.prog Rows.planeSeamsRow.laid W) :
    Calls Try.prog 7 args W fun e W' => ∃ v, e = .returned v ∧ Rows.planeSeamsSpec.post enc Try.prog Try.f7 false true false false W args v W' := by
  have hW' := hW
  obtain ⟨p, q, hA0, hV, rfl, hfz, hnd⟩ := hW
  have hA : DataW.TrodAll enc Try.prog W 0 (fun _ => true) true Try.f7.params.toList args.toList ds p := hA0
  rw [Try.params7] at hA hval
  obtain ⟨v0, vs0, d0, ds0, p0, q0, hargs, rfl, rfl, t0, r0⟩ := trodAll_cons hA
  obtain ⟨v1, vs1, d1, ds1, p1, q1, rfl, rfl, rfl, t1, r1⟩ := trodAll_cons r0
  obtain ⟨v2, vs2, d2, ds2, p2, q2, rfl, rfl, rfl, t2, r2⟩ := trodAll_cons r1
  obtain ⟨rfl, rfl, rfl⟩ := trodAll_nil r2
  obtain rfl : args = #[v0, v1, v2] := by cases args; simp_all
  obtain ⟨l0, n0, k0⟩ := open_xy (hval 0 _ v0 rfl rfl) t0
  obtain ⟨l1, n1, k1⟩ := open_xy (hval 1 _ v1 rfl rfl) t1
  obtain ⟨a2, rfl, _, _, u2⟩ := open_int Try.underlying3 (hval 2 _ v2 rfl rfl) t2
  have b2 := bounds_i64 u2
  refine (seams_w l0 l1 k0 k1 a2 b2 v0 v1 W n0 n1).mono fun e W' ⟨he, hB⟩ => ⟨_, he, ?_⟩
  exact law_post (by kernel_rfl) (by kernel_rfl) rfl rfl hW' hB

def argsW : Array Value := #[.slice none 0 0, .slice none 0 0, .int .i64 0]
theorem laid_met (os : Os) : laidMet Try.prog Rows.planeSeamsRow.laid ((World.laidAll Try.prog os Rows.planeSeamsRow.laid).forCall (fun _ _ => 0) ⟨#[], argsW, []⟩).memory :=
  laidMet_laidAll _ (by kernel_rfl) (by kernel_rfl)
theorem reads (os : Os) {H : Type} (enc : TypeId × Value → H) : ∃ places, DataW.whole enc Try.prog ((World.laidAll Try.prog os Rows.planeSeamsRow.laid).forCall (fun _ _ => 0) ⟨#[], argsW, []⟩).memory Try.f7.params.toList Rows.planeSeamsSpec.vars false argsW.toList 8
    = some ([.nil, .nil, .lit (.int .i64 0)], [], places) :=
  ⟨[], by kernel_rfl⟩

set_option maxRecDepth 100000 in
theorem lifted (os : Os) (started : os.Started) (H : Type) (enc : TypeId × Value → H) (F : Stop.Interp) :
    ReturnsInHanded {} Try.checked os 7 .any ((OpenSpec.ofChange Rows.planeSeamsSpec).preRow enc Try.prog Try.f7 Rows.planeSeamsRow.domain false Rows.planeSeamsRow.laid) (((OpenSpec.ofChange Rows.planeSeamsSpec).at F).post enc Try.prog Try.f7 false true false false) := by
  obtain ⟨places, hx⟩ := reads os enc
  refine returnsInHanded_of_row (C := Try.checked) (s := OpenSpec.ofChange Rows.planeSeamsSpec) ownKnobNone started (by kernel_rfl) Try.func7
    (witness_row_at (enc := enc) (C := Try.checked) false (World.laidAll Try.prog os Rows.planeSeamsRow.laid) argsW rfl (by kernel_rfl) (by kernel_rfl) (by kernel_rfl)
      (OpenSpec.preRow_of_cond 8 hx (by kernel_rfl) (fun k hk => by cases hk) (by kernel_rfl) (laid_met os))) ?_
  intro W base args ds gs before hval hW _ _ _ hL _ _
  exact contract H enc W base args ds gs before hval hW hL

/-- The statement: whatever the arguments, PlaneSeams answers true and changes none of them. -/
theorem said : Rows.PlaneSeamsSaid :=
  OpenClaim.holds_of_cond 7 Try.f7 rfl rfl rfl rfl rfl rfl rfl ⟨rfl, rfl, rfl, rfl, rfl⟩ rfl rfl rfl rfl rfl (by kernel_rfl) Try.func7 (by kernel_rfl)
    (of_decide_eq_true (by kernel_rfl)) (by unfold Func.isWrapper; first | (rw [if_pos (by decide +kernel)]; kernel_rfl) | (rw [if_neg (by decide +kernel)]; exact ⟨rfl, rfl⟩))
    (fun os started H enc _ F => by rw [OpenClaim.pre_eq_preRow]; exact lifted os started H enc F)

end lawPlaneSeams
end Go.Proofs.Ytliligehofjegaa
