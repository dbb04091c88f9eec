/- The contracts of Area2, Moments, Lattice, Inside, Cell, Move. -/
import Derived.Test.YtliligehofjegaaPlnTotal
import Derived.Test.YtliligehofjegaaPlnSteps
import Derived.Test.YtliligehofjegaaPlnRow
import Derived.Test.YtliligehofjegaaPlnValid
namespace Go.Proofs.Ytliligehofjegaa
open Go.RowKit Go.Shelf Pln

/-- A length that a list in memory may have. -/
def Len (l : List Pt) : Prop := (l.length : Int) ≤ 4611686018427387904
theorem sumE_bd {l : List Pt} {f : Pt → Pt → Int} {M : Int} (h : ∀ i, i < l.length → -M ≤ f (vx l i) (nx l i) ∧ f (vx l i) (nx l i) ≤ M) : ∀ k, k ≤ l.length → -(k * M) ≤ sumE l f k ∧ sumE l f k ≤ k * M
  | 0, _ => by simp [sumE, sm]
  | k + 1, hk => by
    have := sumE_bd h k (by omega)
    have := h k (by omega)
    rw [sumE_succ]; push_cast; rw [Int.add_mul]; omega
theorem sumE_small {l : List Pt} {f : Pt → Pt → Int} (hl : l.length ≤ 8) {M : Int} (hM : M ≤ 400000000) (h0 : 0 ≤ M) (h : ∀ i, i < l.length → -M ≤ f (vx l i) (nx l i) ∧ f (vx l i) (nx l i) ≤ M) (k : Nat) (hk : k ≤ l.length) : -3200000000 ≤ sumE l f k ∧ sumE l f k ≤ 3200000000 := by
  have := sumE_bd h k hk
  have h1 : (k : Int) * M ≤ 8 * 400000000 := Int.mul_le_mul (by omega) hM h0 (by omega)
  omega
theorem crs_sum {l : List Pt} (v : Val l) (k : Nat) (hk : k ≤ l.length) : -3200000000 ≤ sumE l crs k ∧ sumE l crs k ≤ 3200000000 :=
  sumE_small v.hi (M := 13122) (by omega) (by omega) (fun i hi => crs_in (val_smls v i hi) (val_smls v _ (mod_lt' hi))) k hk
theorem mx_in {a b : Pt} (ha : Sml a) (hb : Sml b) : (-(13122 * 13122) ≤ (a.1 + b.1) * crs a b ∧ (a.1 + b.1) * crs a b ≤ 13122 * 13122) ∧ -(13122 * 13122) ≤ (a.2 + b.2) * crs a b ∧ (a.2 + b.2) * crs a b ≤ 13122 * 13122 := by
  have := crs_in ha hb
  have := ha.x0; have := ha.x1; have := ha.y0; have := ha.y1
  have := hb.x0; have := hb.x1; have := hb.y0; have := hb.y1
  exact ⟨mul_in (by omega) (by omega) (by omega) (by omega), mul_in (by omega) (by omega) (by omega) (by omega)⟩
theorem mx_sum {l : List Pt} (v : Val l) (k : Nat) (hk : k ≤ l.length) : -3200000000 ≤ sumE l (fun a b => (a.1 + b.1) * crs a b) k ∧ sumE l (fun a b => (a.1 + b.1) * crs a b) k ≤ 3200000000 :=
  sumE_small v.hi (M := 13122 * 13122) (by omega) (by omega) (fun i hi => (mx_in (val_smls v i hi) (val_smls v _ (mod_lt' hi))).1) k hk
theorem my_sum {l : List Pt} (v : Val l) (k : Nat) (hk : k ≤ l.length) : -3200000000 ≤ sumE l (fun a b => (a.2 + b.2) * crs a b) k ∧ sumE l (fun a b => (a.2 + b.2) * crs a b) k ≤ 3200000000 :=
  sumE_small v.hi (M := 13122 * 13122) (by omega) (by omega) (fun i hi => (mx_in (val_smls v i hi) (val_smls v _ (mod_lt' hi))).2) k hk
theorem stp_in {a b : Pt} (ha : Sml a) (hb : Sml b) : 0 ≤ stp a b ∧ stp a b ≤ 162 := by
  have := ha.x0; have := ha.x1; have := ha.y0; have := ha.y1
  have := hb.x0; have := hb.x1; have := hb.y0; have := hb.y1
  unfold stp
  refine ⟨by omega, ?_⟩
  by_cases h : b.1 - a.1 = 0
  · rw [h]; simp [Int.gcd]; omega
  · have := Int.gcd_le_natAbs_left (b.2 - a.2) h; omega
theorem stp_sum {l : List Pt} (v : Val l) (k : Nat) (hk : k ≤ l.length) : -3200000000 ≤ sumE l stp k ∧ sumE l stp k ≤ 3200000000 :=
  sumE_small v.hi (M := 162) (by omega) (by omega) (fun i hi => by have h : 0 ≤ stp (vx l i) (nx l i) ∧ stp (vx l i) (nx l i) ≤ 162 := stp_in (val_smls v i hi) (val_smls v _ (mod_lt' hi)); exact ⟨by omega, h.2⟩) k hk
set_option maxHeartbeats 1000000 in
theorem area_w (l : List Pt) (hl : Len l) (v : Value) (w : World) (hv : PtsAt w v l) :
    Calls Try.prog 19 #[v] w fun e w' => e = .returned (.int .i64 (areaP l)) ∧ Below w.heap.size w w' := by
  have HW := Lib.hid (valid_w l hl v w hv)
  rcases hb : valB l with _ | _
  · have HR : Hid (areaP l = 0) := Lib.hid (by unfold areaP; rw [hb]; rfl)
    rw [hb] at HW
    clear hb hv
    go_enter Try.func19, Try.ntmps19
    go_wp2_with (go_at_call 18; (with_reducible refine HW.out.mono ?_); rintro e u3 ⟨rfl, hB3⟩)
    go_ret
    exact ⟨ret_int HR.out.symm, hB3⟩
  · have vl := (valB_iff l).1 hb
    have HT := Lib.hid (fun w1 (hB : Below w.heap.size w w1) => total_w l crs 51 (enters_of Try.func51 (by kernel_rfl) rfl) v w1 (hv.via hB) (by have := vl.hi; omega)
      (fun k hk w2 => cross_w _ _ (val_smls vl k hk) (val_smls vl _ (mod_lt' hk)) w2) (fun k hk => by have := crs_sum vl k hk; omega))
    have HR : Hid (areaP l = sumE l crs l.length) := Lib.hid (by unfold areaP; rw [if_pos hb])
    rw [hb] at HW
    clear hb hv vl
    go_enter Try.func19, Try.ntmps19
    go_wp2_with (first | (go_at_call 18; (with_reducible refine HW.out.mono ?_); rintro e u3 ⟨rfl, hB3⟩) | (go_at_call 45; (with_reducible refine (HT.out _ (by assumption)).mono ?_); rintro e u4 ⟨rfl, hB4⟩))
    go_ret
    exact ⟨ret_int HR.out.symm, belowStep hB3 hB4⟩
end Go.Proofs.Ytliligehofjegaa
