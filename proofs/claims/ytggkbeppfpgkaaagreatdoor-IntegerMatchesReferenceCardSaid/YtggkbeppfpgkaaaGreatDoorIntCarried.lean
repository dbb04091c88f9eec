/- The contract of carried: the fold over its closure. -/
import Derived.Test.YtggkbeppfpgkaaaGreatDoorIntCarry
namespace Go.Proofs.YtggkbeppfpgkaaaGreatDoor
open Go.RowKit Putlog

theorem take_bnd {M : Int} {C : List Int} (h : Bnd M C) (k : Nat) : Bnd M (C.take k) := fun x hx => h x (List.mem_of_mem_take hx)
theorem take_next {C : List Int} {k : Nat} (h : k < C.length) : C.take (k + 1) = C.take k ++ [C.getD k 0] := by
  rw [List.take_succ_eq_append_getElem h]; simp [List.getD_eq_getElem?_getD, h]
set_option maxRecDepth 100000 in
set_option maxHeartbeats 2000000 in
theorem foldC_any (base Bx : Nat) (C : List Int) (a : Option Addr) (c : Nat) (w0 w : World) (hC : C.length ≤ 50000) (hM : Bnd 1000000000000000 C) (hr : Room C.length c) (hb : base ≤ Bx) (hw0 : w0.heap.size = base) (hbel : Below base w0 w) (hcells : CellsAt w0 a C) (hbox : BoxOwn w base Bx []) :
    Calls Tryz.prog 86 #[.slice a C.length c, .int .i64 0, .func (.func 87) #[] #[.pointer (some ⟨Bx, 0, none⟩)]] w fun e w' => e = .returned (.int .i64 (carryO 0 C)) ∧ BoxOwn w' base Bx (carryG 0 C) ∧ Below base w0 w' := by
  obtain ⟨hc1, hc2⟩ := hr
  have HM := Lib.hid hM
  have HB0 := Lib.hid hbel
  have HC := Lib.hid hcells
  have HX0 := Lib.hid hbox
  obtain ⟨n, hn⟩ : ∃ n, n = C.length := ⟨_, rfl⟩
  rw [← hn] at hC hc1 ⊢
  have HN := Lib.hid hn
  have HW := Lib.hid hw0
  have hlb : (n : Int) ≤ 50000 := by omega
  clear hn hM hbel hcells hbox hw0
  go_enter Tryz.func86, Tryz.ntmps86
  go_wp2_with fail
  go_loopw [1, 11] (fun v i wr => ∃ k : Nat, k ≤ n ∧ i = .int .i64 k ∧ v = .int .i64 (carryO 0 (C.take k)) ∧ BoxOwn wr base Bx (carryG 0 (C.take k)) ∧ Below base w0 wr) (fun _ i _ => n - (intOf i).toNat)
  case atStart => exact ⟨0, by omega, rfl, rfl, HX0.out, HB0.out⟩
  case round =>
    obtain ⟨k, hk, rfl, rfl, hX, hB⟩ := hrel
    have HX := Lib.hid hX
    have HB := Lib.hid hB
    clear hX hB
    by_cases hlt : k < n
    · have hlt' : (k : Int) < n := by omega
      have hkC : k < C.length := by have := HN.out; omega
      have hnil : C ≠ [] := fun e => by rw [e] at hkC; simp at hkC
      obtain ⟨g, o, rfl, hcell⟩ := HC.out.resolve_left hnil
      have hcx : wr.cell? ⟨g, o + k, none⟩ = some (.int .i64 (C.getD k 0)) := by
        have h := hcell k hkC
        exact (HB.out.cell (p := ⟨g, o + k, none⟩) (by have := lt_of_cell h; have := HW.out; show g < base; omega)).trans h
      have hx := bnd_get HM.out hkC
      have hco := carryO_bound 1000000000000000 (by decide) (C.take k) 0 (take_bnd HM.out k) (by decide) (by decide)
      have hn1 := take_next hkC
      have ho1 := carryO_snoc (C.take k) 0 (C.getD k 0)
      have hg1 := carryG_snoc (C.take k) 0 (C.getD k 0)
      rw [← hn1] at ho1 hg1
      have hgl := carryG_len (C.take k) 0
      have HG : Hid ((carryG 0 (C.take k)).length ≤ 50000) := by show _ ≤ _; rw [hgl]; simp; omega
      have HO1 := Lib.hid ho1
      have HG1 := Lib.hid hg1
      clear hn1 ho1 hg1 hgl hnil hcell hkC
      generalize carryO 0 (C.take k) = co at *
      generalize carryG 0 (C.take k) = G at *
      generalize C.getD k 0 = x at *
      go_wp2_with (go_at_call 87; refine (carried1_any base Bx G co x wr HG.out hco hx hb HX.out).mono ?_; rintro e w1 ⟨rfl, hX1, hB1⟩; have HX1 := Lib.hid hX1; have HB1 := Lib.hid (HB.out.trans hB1); clear hX1 hB1)
      go_roundw
      case rel => exact ⟨k + 1, by omega, by go_num, by rw [HO1.out], by rw [HG1.out]; exact HX1.out, HB1.out⟩
      case measure => simp [intOf]; omega
    · obtain rfl : k = n := by omega
      have ht : C.take k = C := by rw [HN.out, List.take_length]
      rw [ht] at HX ⊢
      go_wp2_with fail
      go_ret
      exact ⟨rfl, HX.out, HB.out⟩
/-- From an owned slice of groups, cut to a beginning that is not longer. -/
theorem mag_of_owns {w : World} {base : Nat} {v : Value} {l : List Nat} (h : w.ownsRow base 3 1 v l.length (i64l l)) (h0 : 0 < l.length) :
    ∃ g c, v = .slice (some ⟨g, 0, none⟩) l.length c ∧ base ≤ g ∧ Room l.length c ∧ ∀ j, j < l.length → w.cell? ⟨g, j, none⟩ = some (.int .i64 (l.getD j 0 : Nat)) := by
  have h' : w.ownsRow base 3 1 v (ofN l).length (vals (ofN l)) := by rw [ofN_len, vals_ofN]; exact h
  rcases owns_row h' with ⟨h1, _⟩ | ⟨_, g, c, h1, h2, h3, h4⟩
  · have h2 : (ofN l).length = 0 := by rw [h1]; rfl
    rw [ofN_len] at h2; omega
  · rw [ofN_len] at h1 h2
    refine ⟨g, c, h1, h3, h2, fun j hj => ?_⟩
    have := (h4 j (by rw [ofN_len]; exact hj)).1
    rwa [ofN_get] at this
theorem mag_trim {w : World} {base g c : Nat} {l : List Nat} (hg : base ≤ g) (hr : Room l.length c) (h : ∀ j, j < l.length → w.cell? ⟨g, j, none⟩ = some (.int .i64 (l.getD j 0 : Nat))) : MagNew w base (.slice (some ⟨g, 0, none⟩) (trimL l).length c) (trimL l) := by
  have h1 := trimL_le l
  refine ⟨g, c, rfl, hg, ⟨by have := hr.1; omega, hr.2⟩, fun j hj => ?_⟩
  rw [h j (by omega)]
  conv => rhs; rw [trimL_take l, take_getD l hj]
/-- What the last append leaves. -/
theorem tail_step {w w9 : World} {base Bx d : Nat} {G : List Nat} {v v2 : Value} {o : Obj} (hv : w.heap[Bx]? = some (.cells #[v] 45 (0, 0))) (hown : w.ownsRow base 3 1 v G.length (i64l G)) (hb : base ≤ Bx)
    (hown9 : w9.ownsRow base 3 1 v2 (G.length + 1) (i64l G ++ [.int .i64 (d : Nat)])) (hg : (w.alloc o).grownBy w9 v.ownBlock) :
    ∃ g c, v2 = .slice (some ⟨g, 0, none⟩) (G.length + 1) c ∧ base ≤ g ∧ Room (G ++ [d]).length c ∧ CellsAt w9 (some ⟨g, 0, none⟩) (ofN (G ++ [d])) ∧ (∀ j, j < (G ++ [d]).length → w9.cell? ⟨g, j, none⟩ = some (.int .i64 ((G ++ [d]).getD j 0 : Nat))) ∧ Below base w w9 := by
  have hlt := lt_of_block hv
  have hB9 : Below base w w9 := ((Below.refl base w).alloc (by omega) o).grown hg (by simp; try omega) (fun k e => by
    obtain ⟨_, ⟨rfl, _⟩ | ⟨g, cap, cur, rfl, hg2, hh, _⟩⟩ := hown
    · simp [Value.ownBlock] at e
    · simp [Value.ownBlock] at e; subst e; exact hg2)
  have hx : w9.ownsRow base 3 1 v2 (G ++ [d]).length (i64l (G ++ [d])) := by rw [i64l_snoc, List.length_append]; exact hown9
  obtain ⟨g, c, rfl, h1, h2, h3⟩ := mag_of_owns hx (by simp)
  exact ⟨g, c, by simp, h1, h2, .inr ⟨g, 0, rfl, fun j hj => by rw [Nat.zero_add, ofN_get]; rw [ofN_len] at hj; exact h3 j hj⟩, h3, hB9⟩
theorem belowMade {w w1 : World} (hg : w.grownBy w1 none) : Below w.heap.size w w1 := (Below.refl w.heap.size w).grown hg (Nat.le_refl _) (fun k e => by cases e)
theorem box_new {w1 : World} {base : Nat} {v : Value} {G : List Nat} (h : w1.ownsRow base 3 1 v G.length (i64l G)) : BoxOwn (w1.alloc (.cells #[v] 45)) base w1.heap.size G :=
  ⟨v, heap_alloc_new w1 _, h.alloc _⟩
set_option maxRecDepth 100000 in
set_option maxHeartbeats 2000000 in
theorem carried_any (C : List Int) (a : Option Addr) (c : Nat) (w : World) (hC : C.length ≤ 40000) (hM : Bnd 1000000000000000 C) (hr : Room C.length c) (hcells : CellsAt w a C) (h0 : 0 ≤ colV C) (h1 : colV C < 10000 ^ (C.length + 1)) :
    Calls Tryz.prog 70 #[.slice a C.length c] w fun e w' => (∃ v, e = .returned v ∧ MagNew w' w.heap.size v (digsL 10000 (colV C).toNat)) ∧ Below w.heap.size w w' := by
  obtain ⟨i0, hi0, hz0, hz1, hz2⟩ := info_parts info_int
  have HI0 := Lib.hid hi0
  have HZ0 := Lib.hid hz0
  have HZ1 := Lib.hid hz1
  have HZ2 := Lib.hid hz2
  have HM := Lib.hid hM
  have HR := Lib.hid hr
  have HC := Lib.hid hcells
  obtain ⟨s1, s2, s3⟩ := carried_spec C h0 h1
  have HS := Lib.hid s3
  have hgl := carryG_len C 0
  have HGL := Lib.hid hgl
  obtain ⟨d, hd⟩ : ∃ d : Nat, d = (carryO 0 C).toNat := ⟨_, rfl⟩
  have hco : carryO 0 C = (d : Nat) := by omega
  rw [← hd] at HS
  have HCO := Lib.hid hco
  have hdb : (d : Int) < 10000 := by omega
  have hlb : (C.length : Int) ≤ 40000 := by omega
  clear hi0 hz0 hz1 hz2 hM hr hcells h0 h1 s1 s2 s3 hgl hd hco
  go_enter Tryz.func70, Tryz.ntmps70
  go_wp2_with (at_make; go_must (refine wpList_make_own _ rfl _ _ 45 rfl w.heap.size 3 i0 (.int .i64 0) 1 Tryz.underlying45 HI0.out HZ0.out HZ1.out .i64 .i64 ((C.length : Int) + 1) (C.length + 1) rfl rfl (by omega) (by rw [HZ2.out]; omega) (by unfold maxLen; omega) (Nat.le_refl _) ?_); intro w1 hown hgrow; have HO := Lib.hid hown; have HB := Lib.hid (belowMade hgrow); clear hown hgrow)
  refine (foldC_any w.heap.size w1.heap.size C a c w _ (by omega) HM.out HR.out HB.out.size rfl (HB.out.alloc HB.out.size _) HC.out (box_new HO.out)).mono ?_
  rintro e w3 ⟨rfl, ⟨v3, hv3, hown3⟩, hB3⟩
  have hc3 := cell_of_one hv3
  rw [HCO.out]
  have HV3 := Lib.hid hv3
  have HO3 := Lib.hid hown3
  have HB3 := Lib.hid hB3
  clear hv3 hown3 hB3
  have HK : Hid ((carryG 0 C).length ≤ 100000) := by show _ ≤ _; rw [HGL.out]; omega
  go_wp2_with (at_builtin; refine wpList_append_own _ rfl _ _ 45 rfl w.heap.size 3 i0 (.int .i64 0) 1 8 Tryz.underlying45 HI0.out HZ0.out HZ1.out HZ2.out rfl (by decide) v3 (carryG 0 C).length (i64l (carryG 0 C)) (by rfl) (HO3.out.alloc _) ⟨w3.heap.size, 0, none⟩ 1 1 [.int .i64 (d : Nat)] (by rfl) rfl (news_val _ _ _) (one_int _ _) (app_b1 HK.out) (app_b2 HK.out (by decide)) (app_b3' HV3.out HB.out.size) ?_; intro v4 w9 hown9 hgrow9 _; obtain ⟨g4, c4, rfl, hw4⟩ := tail_step (d := d) HV3.out HO3.out HB.out.size hown9 hgrow9; have HW4 := Lib.hid hw4; clear hown9 hgrow9 hw4)
  have hlen : (carryG 0 C ++ [d]).length = (carryG 0 C).length + 1 := by simp
  have ht := trimmed_any (carryG 0 C ++ [d]) (by rw [hlen]; have := HK.out; have := HGL.out; omega) (some ⟨g4, 0, none⟩) c4 w9 HW4.out.2.1 HW4.out.2.2.1
  rw [hlen] at ht
  refine ht.mono ?_
  rintro e w10 ⟨rfl, rfl⟩
  clear ht
  go_wp2_with fail
  go_ret
  refine ⟨⟨_, rfl, ?_⟩, HB3.out.trans HW4.out.2.2.2.2⟩
  rw [← HS.out]
  exact mag_trim HW4.out.1 HW4.out.2.1 HW4.out.2.2.2.1
end Go.Proofs.YtggkbeppfpgkaaaGreatDoor
