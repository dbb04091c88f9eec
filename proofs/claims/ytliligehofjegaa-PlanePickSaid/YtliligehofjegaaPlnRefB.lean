/- The contracts of the reference's OnMap and walk. -/
import Derived.Test.YtliligehofjegaaPlnMade
import Derived.Test.YtliligehofjegaaPlnMap
namespace Go.Proofs.Ytliligehofjegaa
open Go.RowKit Go.Shelf Pln

set_option maxRecDepth 100000 in
set_option maxHeartbeats 1000000 in
theorem onMapR_w (p1 p2 : Int) (w : World) :
    Calls Try.prog 30 #[.agg #[.int .i64 p1, .int .i64 p2]] w fun e w' => e = .returned (.bool (onB (p1, p2))) ∧ Below w.heap.size w w' := by
  by_cases h1 : 0 ≤ p1
  · by_cases h2 : p1 ≤ 40
    · by_cases h3 : 0 ≤ p2
      · by_cases h4 : p2 ≤ 40
        · have HR := Lib.hid (onB_yes (p := (p1, p2)) h1 h2 h3 h4)
          go_enter Try.func30, Try.ntmps30
          go_wp2_with fail
          go_ret
          exact ⟨ret_bool HR.out.symm, alloc_below _ _⟩
        · have HR := Lib.hid (onB_no (p := (p1, p2)) (.inr (.inr (.inr (by dsimp only; omega)))))
          have h5 : 40 < p2 := by omega
          clear h4
          go_enter Try.func30, Try.ntmps30
          go_wp2_with fail
          go_ret
          exact ⟨ret_bool ((decide_eq_false (by omega)).trans HR.out.symm), alloc_below _ _⟩
      · have HR := Lib.hid (onB_no (p := (p1, p2)) (.inr (.inr (.inl (by dsimp only; omega)))))
        have h5 : p2 < 0 := by omega
        clear h3
        go_enter Try.func30, Try.ntmps30
        go_wp2_with fail
        go_ret
        exact ⟨ret_bool HR.out.symm, alloc_below _ _⟩
    · have HR := Lib.hid (onB_no (p := (p1, p2)) (.inr (.inl (by dsimp only; omega))))
      have h5 : 40 < p1 := by omega
      clear h2
      go_enter Try.func30, Try.ntmps30
      go_wp2_with fail
      go_ret
      exact ⟨ret_bool HR.out.symm, alloc_below _ _⟩
  · have HR := Lib.hid (onB_no (p := (p1, p2)) (.inl (by dsimp only; omega)))
    have h5 : p1 < 0 := by omega
    clear h1
    go_enter Try.func30, Try.ntmps30
    go_wp2_with fail
    go_ret
    exact ⟨ret_bool HR.out.symm, alloc_below _ _⟩
/-- The corners from i on, j steps. -/
def wlkP (l : List Pt) (i j : Nat) : List Pt := (List.range (j + 1)).map fun t => vx l ((i + t) % l.length)
theorem wlk_len (l : List Pt) (i j : Nat) : (wlkP l i j).length = j + 1 := by unfold wlkP; simp
theorem wlk_step (l : List Pt) (i j : Nat) : wlkP l i (j + 1) = wlkP l i j ++ [vx l ((i + (j + 1)) % l.length)] := by
  unfold wlkP; rw [List.range_succ, List.map_append]; simp
theorem wlk_vx {l : List Pt} {i j t : Nat} (h : t ≤ j) : vx (wlkP l i j) t = vx l ((i + t) % l.length) := by
  unfold wlkP
  rw [vx_eq (by simp; omega)]; simp
theorem wlk_run {l : List Pt} {i k j : Nat} (hi : i < l.length) (hk : k < l.length) (hj : j < l.length) (h : (i + j) % l.length = k) : wlkP l i j = runP l i k := by
  unfold runP
  by_cases hik : i ≤ k
  · rw [if_pos hik]
    have e : j = k - i := by
      rcases Nat.lt_or_ge (i + j) l.length with h2 | h2
      · rw [Nat.mod_eq_of_lt h2] at h; omega
      · rw [Nat.mod_eq_sub_mod h2, Nat.mod_eq_of_lt (by omega)] at h; omega
    have hl : ((l.take (k + 1)).drop i).length = k + 1 - i := by rw [List.length_drop, List.length_take]; omega
    refine ext_vx (by rw [wlk_len, hl]; omega) fun t ht => ?_
    rw [wlk_len] at ht
    rw [wlk_vx (by omega), vx_drop, vx_take (by omega), Nat.mod_eq_of_lt (by omega)]
  · rw [if_neg hik]
    have e : j = k + l.length - i := by
      rcases Nat.lt_or_ge (i + j) l.length with h2 | h2
      · rw [Nat.mod_eq_of_lt h2] at h; omega
      · rw [Nat.mod_eq_sub_mod h2, Nat.mod_eq_of_lt (by omega)] at h; omega
    have hl : (l.drop i ++ l.take (k + 1)).length = l.length - i + (k + 1) := by rw [List.length_append, List.length_drop, List.length_take]; omega
    refine ext_vx (by rw [wlk_len, hl]; omega) fun t ht => ?_
    rw [wlk_len] at ht
    rw [wlk_vx (by omega)]
    rcases Nat.lt_or_ge t (l.length - i) with h3 | h3
    · rw [vx_app_l (by rw [List.length_drop]; omega), vx_drop, Nat.mod_eq_of_lt (by omega)]
    · have e2 : t = (l.drop i).length + (t - (l.length - i)) := by rw [List.length_drop]; omega
      conv => rhs; rw [e2, vx_app_r]
      rw [vx_take (by omega), Nat.mod_eq_sub_mod (by omega), Nat.mod_eq_of_lt (by omega)]
      congr 1
      omega
theorem wlk_way {n i k : Nat} (hi : i < n) (hk : k < n) : ∃ d, d < n ∧ (i + d) % n = k ∧ ∀ j, j < d → (i + j) % n ≠ k := by
  by_cases h : i ≤ k
  · refine ⟨k - i, by omega, by rw [show i + (k - i) = k by omega, Nat.mod_eq_of_lt hk], fun j hj e => ?_⟩
    rw [Nat.mod_eq_of_lt (by omega)] at e; omega
  · refine ⟨k + n - i, by omega, by rw [show i + (k + n - i) = k + n by omega, Nat.add_mod_right, Nat.mod_eq_of_lt hk], fun j hj e => ?_⟩
    rcases Nat.lt_or_ge (i + j) n with h2 | h2
    · rw [Nat.mod_eq_of_lt h2] at e; omega
    · rw [Nat.mod_eq_sub_mod h2, Nat.mod_eq_of_lt (by omega)] at e; omega
set_option maxRecDepth 100000 in
set_option maxHeartbeats 2000000 in
theorem walk_w (l : List Pt) (hl : l.length ≤ 100) (i k : Nat) (hi : i < l.length) (hk : k < l.length) (v : Value) (w : World) (hv : PtsAt w v l) :
    Calls Try.prog 63 #[v, .int .i64 i, .int .i64 k] w fun e w' => ∃ r, e = .returned r ∧ PtsAt w' r (runP l i k) ∧ Below w.heap.size w w' := by
  have hok := hv.ok
  obtain ⟨g, o, c, rfl, _, _, hcells⟩ := at_some hv (by omega)
  obtain ⟨n, hn⟩ : ∃ n, n = l.length := ⟨_, rfl⟩
  have HNN := Lib.hid hn
  rw [← hn] at hl hi hk hcells ⊢
  have hnb : (n : Int) ≤ 100 := by omega
  have hn0 : ¬ n = 0 := by omega
  have hib : (i : Int) < n := by omega
  have hkb : (k : Int) < n := by omega
  obtain ⟨d, hd, hdk, hdn⟩ := wlk_way hi hk
  have HW := Lib.hid (wlk_run (l := l) (i := i) (k := k) (j := d) (by omega) (by omega) (by omega) (by rw [← hn]; exact hdk))
  have HDN := Lib.hid hdn
  have HDK := Lib.hid hdk
  have HOKR : Hid (PtsOk (runP l i k)) := Lib.hid (fun r hr => hok r (by
    rw [← HW.out] at hr
    unfold wlkP at hr
    obtain ⟨t, _, rfl⟩ := List.mem_map.1 hr
    exact vx_mem (Nat.mod_lt _ (by omega))))
  have HST := Lib.hid (fun j => wlk_step l i j)
  have HLN := Lib.hid (fun j => wlk_len l i j)
  have HI0 : Hid ((i + 0) % n = i) := Lib.hid (Nat.mod_eq_of_lt hi)
  have HC := Lib.hid hcells
  obtain ⟨i0, hi0, hz0, hz1, hz2⟩ := info_parts info_pt
  have HI := Lib.hid hi0
  have HZ0 := Lib.hid hz0
  have HZ1 := Lib.hid hz1
  have HZ2 := Lib.hid hz2
  obtain ⟨c0, c1⟩ := hcells i hi
  have HV0 : Hid (wlkP l i 0 = [vx l i]) := Lib.hid (by unfold wlkP; rw [← hn]; simp [Nat.mod_eq_of_lt hi])
  clear hi0 hz0 hz1 hz2 hdn hdk hn hcells hok hv
  generalize hp : vx l i = p at *
  obtain ⟨x, y⟩ := p
  dsimp only at c0 c1
  clear hp
  go_enter Try.func63, Try.ntmps63
  go_wp2_with fail
  clear c0 c1
  go_loopw [1, 7] (fun s u wr => ∃ j : Nat, j ≤ d ∧ s = .int .i64 (((i + j) % n : Nat) : Int) ∧ wr.ownsRow w.heap.size 26 2 u (j + 1) (cellsP (wlkP l i j)) ∧ Below w.heap.size w wr) (fun _ u _ => d + 1 - slN u)
  case atStart => exact ⟨0, by omega, by rw [HI0.out], by rw [HV0.out]; exact own_first w x y _ (Nat.le_refl _), alloc_below _ _⟩
  case round =>
    obtain ⟨j, hj, rfl, hown, hB⟩ := hrel
    have HO := Lib.hid hown
    have HB := Lib.hid hB
    clear hown hB
    by_cases he : j = d
    · subst he
      rw [HDK.out]
      rw [HW.out] at HO
      have hlr : (runP l i k).length = j + 1 := by rw [← HW.out, HLN.out]
      have HL := Lib.hid hlr
      clear hlr
      go_wp2_with fail
      go_ret
      exact ⟨_, rfl, owns_at (by rw [HL.out]; exact HO.out) HOKR.out, HB.out⟩
    · have hne := HDN.out j (by omega)
      have hne2 : ¬ (((i + j) % n : Nat) : Int) = k := by omega
      have hm : (i + j) % n < n := Nat.mod_lt _ (by omega)
      have hm1 : (i + (j + 1)) % n < n := Nat.mod_lt _ (by omega)
      have hrem : ((((i + j) % n : Nat) : Int) + 1).tmod n = (((i + (j + 1)) % n : Nat) : Int) := by
        rw [Int.tmod_eq_emod_of_nonneg (by omega), show i + (j + 1) = i + j + 1 by omega, ← Nat.mod_add_mod]; simp
      obtain ⟨c0, c1⟩ := HC.out _ hm1
      have c0 := keptBelow HB.out c0
      have c1 := keptBelow HB.out c1
      have HS := Lib.hid (HST.out j)
      rw [← HNN.out] at HS
      have hjn : j + 1 < 100 := by omega
      have HA := Lib.hid (app_ok (n := j + 1) (m := 1) (by omega))
      generalize hbq : (i + (j + 1)) % n = b at *
      have HBQ := Lib.hid hbq
      clear hbq
      generalize (i + j) % n = a at *
      generalize vx l b = p at *
      obtain ⟨p1, p2⟩ := p
      dsimp only at c0 c1
      have hw1 : IntKind.i64.wrap ((a : Int) + 1) = (a : Int) + 1 := IntWalk.i64_in _ (by omega)
      have HO6 := Lib.hid (own_via HO.out (alloc_below wr (.cells #[.int .i64 p1, .int .i64 p2] 26)))
      have HB6 := Lib.hid (belowStep HB.out (alloc_below wr (.cells #[.int .i64 p1, .int .i64 p2] 26)))
      have HN := Lib.hid (news_in (w := wr.alloc (.cells #[.int .i64 p1, .int .i64 p2] 26)) (g := wr.heap.size) (o := 0) (l := [(p1, p2)]) (fun j hj => by obtain rfl : j = 0 := (by simp at hj; omega); exact ⟨cell_rowN wr _ _ 0 rfl, cell_rowN wr _ _ 1 rfl⟩))
      clear hne
      go_wp2_with (at_builtin; refine wpList_append_own _ rfl _ _ 23 rfl w.heap.size 26 i0 (.agg #[.int .i64 0, .int .i64 0]) 2 16 Try.underlying23 HI.out HZ0.out HZ1.out HZ2.out rfl (by decide) _ (j + 1) _ rfl HO6.out ⟨wr.heap.size, 0, none⟩ 1 1 (cellsP [(p1, p2)]) rfl rfl HN.out (cellsP_one _) HA.out.1 HA.out.2 HB6.out.size ?_)
      intro v' w5 hown5 hgrow5 _
      have HB5 := Lib.hid (HB6.out.grown hgrow5 HB6.out.size (fun k hk => (own_lt HO6.out k hk).1))
      rw [← cellsP_app, ← HS.out] at hown5
      have HO5 := Lib.hid hown5
      clear hown5 hgrow5
      go_wp2_with fail
      go_roundw
      case rel => exact ⟨j + 1, by omega, by rw [HBQ.out], HO5.out, HB5.out⟩
      case measure => rw [own_slN HO5.out, own_slN HO.out]; omega
end Go.Proofs.Ytliligehofjegaa
