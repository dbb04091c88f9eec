/- The contract of run. -/
import Derived.Test.YtliligehofjegaaPlnDel
namespace Go.Proofs.Ytliligehofjegaa
open Go.RowKit Go.Shelf Pln

theorem vx_drop {l : List Pt} {i j : Nat} : vx (l.drop i) j = vx l (i + j) := by
  unfold vx; rw [List.getD_eq_getElem?_getD, List.getD_eq_getElem?_getD, List.getElem?_drop]
theorem vx_take {l : List Pt} {i j : Nat} (h : j < i) : vx (l.take i) j = vx l j := by
  unfold vx; rw [List.getD_eq_getElem?_getD, List.getD_eq_getElem?_getD, List.getElem?_take_of_lt h]
/-- A part of a slice of places. -/
theorem at_part {w : World} {g o n c : Nat} {l : List Pt} (hok : PtsOk l) (hn : n = l.length) (hc : n ≤ c) (hc2 : (c : Int) ≤ 9223372036854775807) (h : ∀ j, j < l.length → w.cell? ⟨g, o + j * 2, none⟩ = some (.int .i64 (vx l j).1) ∧ w.cell? ⟨g, o + j * 2 + 1, none⟩ = some (.int .i64 (vx l j).2))
    {i k : Nat} (hik : i ≤ k) (hk : k ≤ n) : PtsAt w (.slice (some ⟨g, o + i * 2, none⟩) (k - i) (c - i)) ((l.take k).drop i) := by
  subst hn
  have hlen : ((l.take k).drop i).length = k - i := by rw [List.length_drop, List.length_take]; omega
  refine ⟨⟨some ⟨g, o + i * 2, none⟩, c - i, by rw [hlen], by rw [hlen]; omega, by omega, .inr ⟨g, o + i * 2, rfl, fun j hj => ?_⟩⟩, fun r hr => hok r (List.mem_of_mem_take (List.mem_of_mem_drop hr))⟩
  rw [hlen] at hj
  have := h (i + j) (by omega)
  rw [vx_drop, vx_take (by omega), show o + i * 2 + j * 2 = o + (i + j) * 2 by omega]
  exact this
set_option maxRecDepth 100000 in
set_option maxHeartbeats 2000000 in
theorem run_w (l : List Pt) (hl : l.length ≤ 100) (i k : Nat) (hi : i < l.length) (hk : k < l.length) (v : Value) (w : World) (hv : PtsAt w v l) :
    Calls Try.prog 52 #[v, .int .i64 i, .int .i64 k] w fun e w' => ∃ r, e = .returned r ∧ PtsAt w' r (runP l i k) ∧ Below w.heap.size w w' := by
  have hok := hv.ok
  obtain ⟨g, o, c, rfl, hc, hc2, hcells⟩ := at_some hv (by omega)
  obtain ⟨n, hn⟩ : ∃ n, n = l.length := ⟨_, rfl⟩
  rw [← hn] at hc hl hi hk ⊢
  have hnb : (n : Int) ≤ 100 := by omega
  have hcb : (n : Int) ≤ c := by omega
  have hib : (i : Int) < n := by omega
  have hkb : (k : Int) < n := by omega
  by_cases hik : i ≤ k
  · have hpart := fun w1 (hB : Below w.heap.size w w1) => at_part hok hn hc hc2 (fun j hj => ⟨keptBelow hB (hcells j hj).1, keptBelow hB (hcells j hj).2⟩) (i := i) (k := k + 1) (by omega) (by omega)
    have hlen : ((l.take (k + 1)).drop i).length = k + 1 - i := by rw [List.length_drop, List.length_take]; omega
    have HC := Lib.hid (clone_w ((l.take (k + 1)).drop i) (by omega) (by omega) _ w (hpart w (Below.refl _ _)))
    have HR : Hid (runP l i k = (l.take (k + 1)).drop i) := Lib.hid (by unfold runP; rw [if_pos hik])
    have hikb : (i : Int) ≤ k := by omega
    clear hpart hlen hok hcells hn hi hk hik
    go_enter Try.func52, Try.ntmps52
    go_wp2_with fail
    refine HC.out.mono ?_
    rintro e u3 ⟨r, rfl, hr, hB3⟩
    have HR3 := Lib.hid hr
    clear hr
    go_wp2_with fail
    go_ret
    exact ⟨_, rfl, by rw [HR.out]; exact HR3.out, hB3⟩
  · have hki : k < i := by omega
    have hp1 := fun w1 (hB : Below w.heap.size w w1) => at_part hok hn hc hc2 (fun j hj => ⟨keptBelow hB (hcells j hj).1, keptBelow hB (hcells j hj).2⟩) (i := i) (k := n) (by omega) (by omega)
    have hp2 := fun w1 (hB : Below w.heap.size w w1) => at_part hok hn hc hc2 (fun j hj => ⟨keptBelow hB (hcells j hj).1, keptBelow hB (hcells j hj).2⟩) (i := 0) (k := k + 1) (by omega) (by omega)
    simp only [List.drop_zero, Nat.zero_mul, Nat.add_zero, Nat.sub_zero] at hp2
    have e1 : l.take n = l := List.take_of_length_le (by omega)
    rw [e1] at hp1
    have hl1 : (l.drop i).length = n - i := by rw [List.length_drop]; omega
    have hl2 : (l.take (k + 1)).length = k + 1 := by rw [List.length_take]; omega
    have hok2 : PtsOk (runP l i k) := fun r hr => hok r (by
      unfold runP at hr
      split at hr
      · exact List.mem_of_mem_take (List.mem_of_mem_drop hr)
      · rcases List.mem_append.1 hr with h | h
        · exact List.mem_of_mem_drop h
        · exact List.mem_of_mem_take h)
    have HC := Lib.hid (fun G w1 (hB : Below w.heap.size w w1) c0 c1 => concat_w (l.drop i) (l.take (k + 1)) (by omega) (by omega) (by omega) (by omega) _ _ G 2 w1 (hp1 w1 hB) (hp2 w1 hB) c0 c1)
    have HR : Hid (runP l i k = l.drop i ++ l.take (k + 1)) := Lib.hid (by unfold runP; rw [if_neg hik])
    have HOK := Lib.hid hok2
    have hikb : ¬ ((i : Int) ≤ k) := by omega
    have hik2 : decide ((i : Int) ≤ k) = false := decide_eq_false hikb
    have hk1 : IntKind.i64.wrap ((k : Int) + 1) = (k : Int) + 1 := IntWalk.i64_in _ (by omega)
    have hin : i ≤ n := by omega
    have hci : ¬ c = i := by omega
    have hk0 : 0 ≤ (k : Int) + 1 := by omega
    have hkc : (k : Int) + 1 ≤ c := by omega
    clear hp1 hp2 hl1 hl2 hok hok2 hcells hn hi hk hik e1 hki
    go_enter Try.func52, Try.ntmps52
    go_wp2_with fail
    refine (wpIn_wide (n := 5)).1 ?_
    have hB0 : Below w.heap.size w w.drew := (Below.refl _ _).drew
    refine wpIn_region_T (fun w' => Below w.drew.heap.size w.drew w') 9 (by kernel_rfl) ?_
    generalize w.drew = wd at *
    refine wpT_tk 0 16 (v := ?_) (Below.refl _ _) rfl rfl (by rfl) (hy := fun w hw => ?_) (h := ?_)
    rotate_left
    · go_simp; with_reducible rfl
    try simp only [Act.put, List.setIfInBounds_toArray, List.set_cons_zero, List.set_cons_succ]
    refine wpT_tk 1 17 (v := ?_) (Below.refl _ _) rfl rfl (by rfl) (hy := fun w hw => ?_) (h := ?_)
    rotate_left
    · go_simp; with_reducible rfl
    try simp only [Act.put, List.setIfInBounds_toArray, List.set_cons_zero, List.set_cons_succ]
    refine wpT_tk 2 18 (v := ?_) (Below.refl _ _) rfl rfl (by rfl) (hy := fun w hw => ?_) (h := ?_)
    rotate_left
    · go_simp; with_reducible rfl
    try simp only [Act.put, List.setIfInBounds_toArray, List.set_cons_zero, List.set_cons_succ]
    refine wpT_tk 3 19 (v := ?_) (Below.refl _ _) rfl rfl (by rfl) (hy := fun w hw => ?_) (h := ?_)
    rotate_left
    · go_simp; with_reducible rfl
    try simp only [Act.put, List.setIfInBounds_toArray, List.set_cons_zero, List.set_cons_succ]
    refine wpT_tk 4 20 (v := ?_) (Below.refl _ _) rfl rfl (by rfl) (hy := fun w hw => ?_) (h := ?_)
    rotate_left
    · go_simp; with_reducible rfl
    try simp only [Act.put, List.setIfInBounds_toArray, List.set_cons_zero, List.set_cons_succ]
    refine wpT_tk 5 21 (v := ?_) (Below.refl _ _) rfl rfl (by rfl) (hy := fun w hw => ?_) (h := ?_)
    rotate_left
    · go_simp; with_reducible rfl
    try simp only [Act.put, List.setIfInBounds_toArray, List.set_cons_zero, List.set_cons_succ]
    refine wpT_tk 6 22 (v := ?_) (Below.refl _ _) rfl rfl (by rfl) (hy := fun w hw => ?_) (h := ?_)
    rotate_left
    · go_simp; with_reducible rfl
    try simp only [Act.put, List.setIfInBounds_toArray, List.set_cons_zero, List.set_cons_succ]
    refine wpT_one 7 rfl rfl (by kernel_rfl) ?_
    go_simp
    have hB1 := alloc_below wd (.cells #[.slice (some ⟨g, o + i * 2, none⟩) (n - i) (c - i), .slice (some ⟨g, o, none⟩) (k + 1) c] 23)
    have hc := HC.out wd.heap.size _ (belowStep hB0 hB1) (cell_rowN wd _ _ 0 rfl) (cell_rowN wd _ _ 1 rfl)
    have HC2 := Lib.hid hc
    clear hc
    refine ⟨hB1, ?_⟩
    refine wpT_one 8 rfl rfl (by kernel_rfl) ?_
    go_simp
    refine ⟨trivial, ?_⟩
    refine (callsIn_wide.2 HC2.out).mono ?_
    rintro e u3 ⟨r, rfl, hr, hB3⟩
    have HR3 := Lib.hid hr
    have hB4 := belowStep hB0 (belowStep hB1 hB3)
    have hB5 := belowStep hB1 hB3
    clear hr
    refine ⟨hB5, ?_⟩
    clear hB5 hB3 hB1
    refine wpT_one 9 rfl rfl (by kernel_rfl) ?_
    go_simp
    refine wpT_done (by kernel_rfl) ?_ _
    go_wp2_with fail
    go_ret
    refine ⟨_, rfl, ?_, hB4⟩
    have := HR3.out
    rw [← HR.out] at this
    exact owns_at this HOK.out
end Go.Proofs.Ytliligehofjegaa
