/- Several texts of layers 3 and 4, one behind the other: IntCarried, IntSums, IntMinus, IntTimes, IntApi, IntCompare, IntSearch, IntGroup, IntDivPure, IntDiv, IntQuo, IntText, IntRead, IntDigits, IntNum, IntPlus, IntNum2, IntNum3. -/
import Derived.Lib.SliceRun
import Derived.Laws.OwnMore
import Derived.Laws.EntriesVeiled
import Derived.Lib.ConvBytes
import Derived.Test.YtofmjkgaaphnkaaGreatDoorShelf
import Derived.Test.YtofmjkgaaphnkaaGreatDoorLP2
/- IntCarried: The contract of carried: the fold over its closure. -/
namespace Go.Proofs.YtofmjkgaaphnkaaGreatDoor
open Go.RowKit Putlog

theorem take_bnd {M : Int} {C : List Int} (h : Bnd M C) (k : Nat) : Bnd M (C.take k) := fun x hx => h x (List.mem_of_mem_take hx)
theorem take_next {C : List Int} {k : Nat} (h : k < C.length) : C.take (k + 1) = C.take k ++ [C.getD k 0] := by
 rw [List.take_succ_eq_append_getElem h]; simp [List.getD_eq_getElem?_getD, h]
set_option maxRecDepth 100000 in
set_option maxHeartbeats 2000000 in
theorem foldC_any (base Bx : Nat) (C : List Int) (a : Option Addr) (c : Nat) (w0 w : World) (hC : C.length ≤ 50000) (hM : Bnd 1000000000000000 C) (hr : Room C.length c) (hb : base ≤ Bx) (hw0 : w0.heap.size = base) (hbel : Below base w0 w) (hcells : CellsAt w0 a C) (hbox : BoxOwn w base Bx []) :
  Calls Tryz.prog 172 #[.slice a C.length c, .int .i64 0, .func (.func 173) #[] #[.pointer (some ⟨Bx, 0, none⟩)]] w fun e w' => e = .returned (.int .i64 (carryO 0 C)) ∧ BoxOwn w' base Bx (carryG 0 C) ∧ Below base w0 w' := by
 obtain ⟨hc1, hc2⟩ := hr
 have HM := Lib.hid hM
 have HB0 := Lib.hid hbel
 have HC := Lib.hid hcells
 have HX0 := Lib.hid hbox
 obtain ⟨n, hn⟩ : ∃ n, n = C.length := ⟨_, rfl⟩
 rw [← hn] at hC hc1 ⊢
 have HN := Lib.hid hn
 have HW := Lib.hid hw0
 have hlb : (n : Int) ≤ 50000 := by omega
 clear hn hM hbel hcells hbox hw0
 go_enter Tryz.func172, Tryz.ntmps172
 go_wp2_with fail
 go_loopw [1, 11] (fun v i wr => ∃ k : Nat, k ≤ n ∧ i = .int .i64 k ∧ v = .int .i64 (carryO 0 (C.take k)) ∧ BoxOwn wr base Bx (carryG 0 (C.take k)) ∧ Below base w0 wr) (fun _ i _ => n - (intOf i).toNat)
 case atStart => exact ⟨0, by omega, rfl, rfl, HX0.out, HB0.out⟩
 case round =>
  obtain ⟨k, hk, rfl, rfl, hX, hB⟩ := hrel
  have HX := Lib.hid hX
  have HB := Lib.hid hB
  clear hX hB
  by_cases hlt : k < n
  ·have hlt' : (k : Int) < n := by omega
   have hkC : k < C.length := by have := HN.out; omega
   have hnil : C ≠ [] := fun e => by rw [e] at hkC; simp at hkC
   obtain ⟨g, o, rfl, hcell⟩ := HC.out.resolve_left hnil
   have hcx : wr.cell? ⟨g, o + k, none⟩ = some (.int .i64 (C.getD k 0)) := by
    have h := hcell k hkC
    exact (HB.out.cell (p := ⟨g, o + k, none⟩) (by have := lt_of_cell h; have := HW.out; show g < base; omega)).trans h
   have hx := bnd_get HM.out hkC
   have hco := carryO_bound 1000000000000000 (by decide) (C.take k) 0 (take_bnd HM.out k) (by decide) (by decide)
   have hn1 := take_next hkC
   have ho1 := carryO_snoc (C.take k) 0 (C.getD k 0)
   have hg1 := carryG_snoc (C.take k) 0 (C.getD k 0)
   rw [← hn1] at ho1 hg1
   have hgl := carryG_len (C.take k) 0
   have HG : Hid ((carryG 0 (C.take k)).length ≤ 50000) := by show _ ≤ _; rw [hgl]; simp; omega
   have HO1 := Lib.hid ho1
   have HG1 := Lib.hid hg1
   clear hn1 ho1 hg1 hgl hnil hcell hkC
   generalize carryO 0 (C.take k) = co at *
   generalize carryG 0 (C.take k) = G at *
   generalize C.getD k 0 = x at *
   go_wp2_with (go_at_call 173; refine (carried1_any base Bx G co x wr HG.out hco hx hb HX.out).mono ?_; rintro e w1 ⟨rfl, hX1, hB1⟩; have HX1 := Lib.hid hX1; have HB1 := Lib.hid (HB.out.trans hB1); clear hX1 hB1)
   go_roundw
   case rel => exact ⟨k + 1, by omega, by go_num, by rw [HO1.out], by rw [HG1.out]; exact HX1.out, HB1.out⟩
   case measure => simp [intOf]; omega
  ·obtain rfl : k = n := by omega
   have ht : C.take k = C := by rw [HN.out, List.take_length]
   rw [ht] at HX ⊢
   go_wp2_with fail
   go_ret
   exact ⟨rfl, HX.out, HB.out⟩
/-- From an owned slice of groups, cut to a beginning that is not longer. -/
theorem mag_of_owns {w : World} {base : Nat} {v : Value} {l : List Nat} (h : w.ownsRow base 3 1 v l.length (i64l l)) (h0 : 0 < l.length) :
  ∃ g c, v = .slice (some ⟨g, 0, none⟩) l.length c ∧ base ≤ g ∧ Room l.length c ∧ ∀ j, j < l.length → w.cell? ⟨g, j, none⟩ = some (.int .i64 (l.getD j 0 : Nat)) := by
 have h' : w.ownsRow base 3 1 v (ofN l).length (vals (ofN l)) := by rw [ofN_len, vals_ofN]; exact h
 rcases owns_row h' with ⟨h1, _⟩ | ⟨_, g, c, h1, h2, h3, h4⟩
 ·have h2 : (ofN l).length = 0 := by rw [h1]; rfl
  rw [ofN_len] at h2; omega
 ·rw [ofN_len] at h1 h2
  refine ⟨g, c, h1, h3, h2, fun j hj => ?_⟩
  have := (h4 j (by rw [ofN_len]; exact hj)).1
  rwa [ofN_get] at this
theorem mag_trim {w : World} {base g c : Nat} {l : List Nat} (hg : base ≤ g) (hr : Room l.length c) (h : ∀ j, j < l.length → w.cell? ⟨g, j, none⟩ = some (.int .i64 (l.getD j 0 : Nat))) : MagNew w base (.slice (some ⟨g, 0, none⟩) (trimL l).length c) (trimL l) := by
 have h1 := trimL_le l
 refine ⟨g, c, rfl, hg, ⟨by have := hr.1; omega, hr.2⟩, fun j hj => ?_⟩
 rw [h j (by omega)]
 conv => rhs; rw [trimL_take l, take_getD l hj]
/-- What the last append leaves. -/
theorem tail_step {w w9 : World} {base Bx d : Nat} {G : List Nat} {v v2 : Value} {o : Obj} (hv : w.heap[Bx]? = some (.cells #[v] 135 (0, 0))) (hown : w.ownsRow base 3 1 v G.length (i64l G)) (hb : base ≤ Bx)
  (hown9 : w9.ownsRow base 3 1 v2 (G.length + 1) (i64l G ++ [.int .i64 (d : Nat)])) (hg : (w.alloc o).grownBy w9 v.ownBlock) :
  ∃ g c, v2 = .slice (some ⟨g, 0, none⟩) (G.length + 1) c ∧ base ≤ g ∧ Room (G ++ [d]).length c ∧ CellsAt w9 (some ⟨g, 0, none⟩) (ofN (G ++ [d])) ∧ (∀ j, j < (G ++ [d]).length → w9.cell? ⟨g, j, none⟩ = some (.int .i64 ((G ++ [d]).getD j 0 : Nat))) ∧ Below base w w9 := by
 have hlt := lt_of_block hv
 have hB9 : Below base w w9 := ((Below.refl base w).alloc (by omega) o).grown hg (by simp; try omega) (fun k e => by
  obtain ⟨_, ⟨rfl, _⟩ | ⟨g, cap, cur, rfl, hg2, hh, _⟩⟩ := hown
  ·simp [Value.ownBlock] at e
  ·simp [Value.ownBlock] at e; subst e; exact hg2)
 have hx : w9.ownsRow base 3 1 v2 (G ++ [d]).length (i64l (G ++ [d])) := by rw [i64l_snoc, List.length_append]; exact hown9
 obtain ⟨g, c, rfl, h1, h2, h3⟩ := mag_of_owns hx (by simp)
 exact ⟨g, c, by simp, h1, h2, .inr ⟨g, 0, rfl, fun j hj => by rw [Nat.zero_add, ofN_get]; rw [ofN_len] at hj; exact h3 j hj⟩, h3, hB9⟩
theorem belowMade {w w1 : World} (hg : w.grownBy w1 none) : Below w.heap.size w w1 := (Below.refl w.heap.size w).grown hg (Nat.le_refl _) (fun k e => by cases e)
theorem box_new {w1 : World} {base : Nat} {v : Value} {G : List Nat} (h : w1.ownsRow base 3 1 v G.length (i64l G)) : BoxOwn (w1.alloc (.cells #[v] 135)) base w1.heap.size G :=
 ⟨v, heap_alloc_new w1 _, h.alloc _⟩
set_option maxRecDepth 100000 in
set_option maxHeartbeats 2000000 in
theorem carried_any (C : List Int) (a : Option Addr) (c : Nat) (w : World) (hC : C.length ≤ 40000) (hM : Bnd 1000000000000000 C) (hr : Room C.length c) (hcells : CellsAt w a C) (h0 : 0 ≤ colV C) (h1 : colV C < 10000 ^ (C.length + 1)) :
  Calls Tryz.prog 156 #[.slice a C.length c] w fun e w' => (∃ v, e = .returned v ∧ MagNew w' w.heap.size v (digsL 10000 (colV C).toNat)) ∧ Below w.heap.size w w' := by
 obtain ⟨i0, hi0, hz0, hz1, hz2⟩ := info_parts info_int
 have HI0 := Lib.hid hi0
 have HZ0 := Lib.hid hz0
 have HZ1 := Lib.hid hz1
 have HZ2 := Lib.hid hz2
 have HM := Lib.hid hM
 have HR := Lib.hid hr
 have HC := Lib.hid hcells
 obtain ⟨s1, s2, s3⟩ := carried_spec C h0 h1
 have HS := Lib.hid s3
 have hgl := carryG_len C 0
 have HGL := Lib.hid hgl
 obtain ⟨d, hd⟩ : ∃ d : Nat, d = (carryO 0 C).toNat := ⟨_, rfl⟩
 have hco : carryO 0 C = (d : Nat) := by omega
 rw [← hd] at HS
 have HCO := Lib.hid hco
 have hdb : (d : Int) < 10000 := by omega
 have hlb : (C.length : Int) ≤ 40000 := by omega
 clear hi0 hz0 hz1 hz2 hM hr hcells h0 h1 s1 s2 s3 hgl hd hco
 go_enter Tryz.func156, Tryz.ntmps156
 go_wp2_with (at_make; go_must (refine wpList_make_own _ rfl _ _ 135 rfl w.heap.size 3 i0 (.int .i64 0) 1 Tryz.underlying135 HI0.out HZ0.out HZ1.out .i64 .i64 ((C.length : Int) + 1) (C.length + 1) rfl rfl (by omega) (by rw [HZ2.out]; omega) (by unfold maxLen; omega) (Nat.le_refl _) ?_); intro w1 hown hgrow; have HO := Lib.hid hown; have HB := Lib.hid (belowMade hgrow); clear hown hgrow)
 refine (foldC_any w.heap.size w1.heap.size C a c w _ (by omega) HM.out HR.out HB.out.size rfl (HB.out.alloc HB.out.size _) HC.out (box_new HO.out)).mono ?_
 rintro e w3 ⟨rfl, ⟨v3, hv3, hown3⟩, hB3⟩
 have hc3 := cell_of_one hv3
 rw [HCO.out]
 have HV3 := Lib.hid hv3
 have HO3 := Lib.hid hown3
 have HB3 := Lib.hid hB3
 clear hv3 hown3 hB3
 have HK : Hid ((carryG 0 C).length ≤ 100000) := by show _ ≤ _; rw [HGL.out]; omega
 go_wp2_with (at_builtin; refine wpList_append_own _ rfl _ _ 135 rfl w.heap.size 3 i0 (.int .i64 0) 1 8 Tryz.underlying135 HI0.out HZ0.out HZ1.out HZ2.out rfl (by decide) v3 (carryG 0 C).length (i64l (carryG 0 C)) (by rfl) (HO3.out.alloc _) ⟨w3.heap.size, 0, none⟩ 1 1 [.int .i64 (d : Nat)] (by rfl) rfl (news_val _ _ _) (one_int _ _) (app_b1 HK.out) (app_b2 HK.out (by decide)) (app_b3' HV3.out HB.out.size) ?_; intro v4 w9 hown9 hgrow9 _; obtain ⟨g4, c4, rfl, hw4⟩ := tail_step (d := d) HV3.out HO3.out HB.out.size hown9 hgrow9; have HW4 := Lib.hid hw4; clear hown9 hgrow9 hw4)
 have hlen : (carryG 0 C ++ [d]).length = (carryG 0 C).length + 1 := by simp
 have ht := trimmed_any (carryG 0 C ++ [d]) (by rw [hlen]; have := HK.out; have := HGL.out; omega) (some ⟨g4, 0, none⟩) c4 w9 HW4.out.2.1 HW4.out.2.2.1
 rw [hlen] at ht
 refine ht.mono ?_
 rintro e w10 ⟨rfl, rfl⟩
 clear ht
 go_wp2_with fail
 go_ret
 refine ⟨⟨_, rfl, ?_⟩, HB3.out.trans HW4.out.2.2.2.2⟩
 rw [← HS.out]
 exact mag_trim HW4.out.1 HW4.out.2.1 HW4.out.2.2.2.1
end Go.Proofs.YtofmjkgaaphnkaaGreatDoor
/- IntSums: The contracts of the copy, of sums, differences and multiples of magnitudes. -/
namespace Go.Proofs.YtofmjkgaaphnkaaGreatDoor
open Go.RowKit Putlog

theorem cells_src {w : World} {ad : Addr} {l : List Nat} {o : Obj} (h : CellsAt w (some ad) (ofN l)) : ∀ j u, (i64l l)[j]? = some u → (w.alloc o).cell? (ad.add j) = some u := by
 intro j u hj
 have hjl : j < l.length := by have := (List.getElem?_eq_some_iff.1 hj).1; simpa [i64l] using this
 rcases h with h | ⟨g, p, h1, h2⟩
 ·have h2 : (ofN l).length = 0 := by rw [h]; rfl
  rw [ofN_len] at h2; omega
 ·obtain rfl := Option.some.inj h1
  rw [Addr.add_lit]
  rw [i64l_get hjl] at hj
  obtain rfl := Option.some.inj hj
  have := h2 j (by rw [ofN_len]; exact hjl)
  rw [ofN_get] at this
  exact cellA o this
theorem i64l_one (l : List Nat) : ∀ u ∈ i64l l, u.oneCell' = true := by
 intro u hu
 obtain ⟨x, _, rfl⟩ := List.mem_map.1 hu
 rfl
theorem i64l_len (l : List Nat) : (i64l l).length = l.length := by simp [i64l]
set_option maxRecDepth 100000 in
set_option maxHeartbeats 2000000 in
theorem clone_any (l : List Nat) (hl : l.length ≤ 100000) (a : Option Addr) (c : Nat) (w : World) (hv : CellsAt w a (ofN l)) :
  Calls Tryz.prog 157 #[.slice a l.length c] w fun e w' => (∃ v, e = .returned v ∧ w'.ownsRow w.heap.size 3 1 v l.length (i64l l)) ∧ Below w.heap.size w w' := by
 have HV := Lib.hid hv
 have qn : ∀ (w : World) (a : Option Addr) (n c n' c' : Nat), (binOp .eql 135 (.slice a n c) (.slice none n' c')).run Tryz.prog w = .ok (.bool a.isNone) w := fun w a n c n' c' => Lib.run_eql_slice_nil w _ _ a n c n' c' Tryz.underlying135
 clear hv
 cases a with
 | none =>
  have h0 : l = [] := by
   rcases HV.out with h | ⟨g, o, h, _⟩
   ·have h2 : (ofN l).length = 0 := by rw [h]; rfl
    rw [ofN_len] at h2
    exact List.length_eq_zero_iff.1 h2
   ·cases h
  subst h0
  go_enter Tryz.func157, Tryz.ntmps157
  go_wp2_with fail
  go_ret
  exact ⟨⟨_, rfl, World.ownsRow_nil _ _ _ _⟩, Below.refl _ _⟩
 | some ad =>
  obtain ⟨i0, hi0, hz0, hz1, hz2⟩ := info_parts info_int
  have HI0 := Lib.hid hi0
  have HZ0 := Lib.hid hz0
  have HZ1 := Lib.hid hz1
  have HZ2 := Lib.hid hz2
  clear hi0 hz0 hz1 hz2
  have HK : Hid (l.length ≤ 100000) := hl
  go_enter Tryz.func157, Tryz.ntmps157
  go_wp2_with (at_builtin; refine wpList_append_own _ rfl _ _ 135 rfl w.heap.size 3 i0 (.int .i64 0) 1 8 Tryz.underlying135 HI0.out HZ0.out HZ1.out HZ2.out rfl (by decide) _ _ _ rfl (World.ownsRow_made w #[] 0 (Nat.le_refl _) (Nat.zero_le _) (by simp)) ad l.length c (i64l l) rfl (by rw [i64l_len, Nat.mul_one]) (cells_src HV.out) (i64l_one l) (by have := HK.out; unfold maxLen; omega) (by have := HK.out; omega) (by simp) ?_; intro v' w1 hown hgrow _; have HO := Lib.hid hown; have HG := Lib.hid hgrow; clear hown hgrow)
  go_ret
  refine ⟨⟨_, rfl, by simpa using HO.out⟩, ((Below.refl _ w).alloc (Nat.le_refl _) _).grown HG.out (by simp) (by intro k hk; cases hk; exact Nat.le_refl _)⟩
/-- The start of a loop over the columns: the copy of a magnitude. -/
theorem row_of_clone {w w1 : World} {v : Value} {l : List Nat} (hown : w1.ownsRow w.heap.size 3 1 v l.length (i64l l)) :
  ∃ a c, v = .slice a l.length c ∧ Room l.length c ∧ ((l = [] ∧ CellsAt w1 a (ofN l)) ∨ ∃ g, w.heap.size ≤ g ∧ a = some ⟨g, 0, none⟩ ∧ RowAt w1 g (ofN l)) := by
 have h' : w1.ownsRow w.heap.size 3 1 v (ofN l).length (vals (ofN l)) := by rw [ofN_len, vals_ofN]; exact hown
 rcases owns_row h' with ⟨h1, a, c, h2, h3⟩ | ⟨_, g, c, h1, h2, h3, h4⟩
 ·have h5 : (ofN l).length = 0 := by rw [h1]; rfl
  rw [ofN_len] at h5
  have h6 := List.length_eq_zero_iff.1 h5
  subst h6
  exact ⟨a, c, h2, h3, .inl ⟨rfl, .inl rfl⟩⟩
 ·rw [ofN_len] at h1 h2
  exact ⟨_, c, h1, h2, .inr ⟨g, h3, rfl, h4⟩⟩
/-- Columns under way: a row, or none. -/
def ColsAt (w : World) (base : Nat) (a : Option Addr) (C : List Int) : Prop := (C = [] ∨ ∃ g, base ≤ g ∧ a = some ⟨g, 0, none⟩ ∧ RowAt w g C)
theorem ColsAt.cells {w : World} {base : Nat} {a : Option Addr} {C : List Int} (h : ColsAt w base a C) : CellsAt w a C := by
 rcases h with h | ⟨g, _, rfl, h2⟩
 ·exact .inl h
 ·exact h2.cells
theorem ColsAt.at {w : World} {base : Nat} {a : Option Addr} {C : List Int} (h : ColsAt w base a C) {k : Nat} (hk : k < C.length) : ∃ g, base ≤ g ∧ a = some ⟨g, 0, none⟩ ∧ RowAt w g C := by
 rcases h with h | h
 ·rw [h] at hk; simp at hk
 ·exact h
theorem cols_clone {w w1 : World} {v : Value} {l : List Nat} (hown : w1.ownsRow w.heap.size 3 1 v l.length (i64l l)) : ∃ a c, v = .slice a l.length c ∧ Room l.length c ∧ ColsAt w1 w.heap.size a (ofN l) := by
 obtain ⟨a, c, h1, h2, h3⟩ := row_of_clone hown
 refine ⟨a, c, h1, h2, ?_⟩
 rcases h3 with ⟨h3, _⟩ | h3
 ·exact .inl (by rw [h3]; rfl)
 ·exact .inr h3
theorem pow_up {m n : Nat} (h : m ≤ n) : (10000 : Int) ^ m ≤ 10000 ^ n := by
 rw [← pow_cast, ← pow_cast]
 have := Nat.pow_le_pow_right (show 0 < 10000 by decide) h
 omega
/-- What a loop over the columns adds: the columns after k steps. -/
def Added (M s : Int) (A B : List Nat) (k : Nat) (C : List Int) : Prop := C.length = A.length ∧ colV C = (leV 10000 A : Nat) + s * (leV 10000 (B.take k) : Nat) ∧ Bnd M C ∧ ∀ j, k ≤ j → C.getD j 0 = (A.getD j 0 : Nat)
theorem Added.start {M s : Int} {A : List Nat} (hM : 9999 ≤ M) (hA : DigB 10000 A) (B : List Nat) : Added M s A B 0 (ofN A) := by
 refine ⟨ofN_len A, ?_, Bnd.mono (bnd_ofN hA) hM, fun j _ => ofN_get A j⟩
 rw [show ofN A = A.map (fun x : Nat => (x : Int)) from rfl, colV_nat]; simp [leV]
theorem Added.step {M s : Int} {A B : List Nat} {k : Nat} {C : List Int} (h : Added M s A B k C) (hk : k < B.length) (hl : B.length ≤ A.length) (hx : -M ≤ (A.getD k 0 : Nat) + s * (B.getD k 0 : Nat) ∧ (A.getD k 0 : Nat) + s * (B.getD k 0 : Nat) ≤ M) : Added M s A B (k + 1) (C.set k ((A.getD k 0 : Nat) + s * (B.getD k 0 : Nat))) := by
 obtain ⟨h1, h2, h3, h4⟩ := h
 have h5 := h4 k (Nat.le_refl _)
 refine ⟨by rw [List.length_set]; exact h1, ?_, bnd_set h3 k hx.1 hx.2, fun j hj => ?_⟩
 ·rw [colV_set C k _ (by omega), h2]
  have h8 : B.take (k + 1) = B.take k ++ [B.getD k 0] := by rw [List.take_succ_eq_append_getElem hk]; simp [List.getD_eq_getElem?_getD, hk]
  rw [h8, leV_snoc]
  have h9 : (B.take k).length = k := by simp; omega
  rw [h9, Int.natCast_add, Int.natCast_mul, pow_cast, Int.mul_add]
  have h10 : ((A.getD k 0 : Nat) : Int) + s * (B.getD k 0 : Nat) - C.getD k 0 = s * (B.getD k 0 : Nat) := by omega
  rw [h10, ← Int.mul_assoc, ← Int.mul_assoc, Int.mul_comm (10000 ^ k) s]; omega
 ·rw [getD_set C k j _ (by omega), if_neg (by omega)]
  exact h4 j (by omega)
end Go.Proofs.YtofmjkgaaphnkaaGreatDoor
/- IntMinus: The contracts of differences, sums and multiples of magnitudes. -/
namespace Go.Proofs.YtofmjkgaaphnkaaGreatDoor
open Go.RowKit Putlog

theorem minus_end {A B : List Nat} {C : List Int} (hA : DigB 10000 A) (h : Added 20000 (-1) A B B.length C) (hle : leV 10000 B ≤ leV 10000 A) : 0 ≤ colV C ∧ colV C < 10000 ^ (C.length + 1) ∧ (colV C).toNat = leV 10000 A - leV 10000 B := by
 obtain ⟨h1, h2, _, _⟩ := h
 rw [List.take_length] at h2
 have h3 := leV_lt hA
 have h4 := pow_up (show A.length ≤ C.length + 1 by omega)
 have h5 := pow_cast A.length
 omega
theorem plus_end {A B : List Nat} {C : List Int} (hA : DigB 10000 A) (hB : DigB 10000 B) (hl : B.length ≤ A.length) (h : Added 20000 1 A B B.length C) : 0 ≤ colV C ∧ colV C < 10000 ^ (C.length + 1) ∧ (colV C).toNat = leV 10000 A + leV 10000 B := by
 obtain ⟨h1, h2, _, _⟩ := h
 rw [List.take_length] at h2
 have h3 := leV_lt hA
 have h6 := leV_lt hB
 have h7 : 10000 ^ B.length ≤ 10000 ^ A.length := Nat.pow_le_pow_right (by decide) hl
 have h5 := pow_cast A.length
 rw [h1, Int.pow_succ]
 omega
theorem scaled_end {A : List Nat} {C : List Int} {f : Nat} (hA : DigB 10000 A) (hf : f ≤ 10000) (h : Added 100000000 ((f : Int) - 1) A A A.length C) : 0 ≤ colV C ∧ colV C < 10000 ^ (C.length + 1) ∧ (colV C).toNat = leV 10000 A * f := by
 obtain ⟨h1, h2, _, _⟩ := h
 rw [List.take_length, Int.sub_mul, Int.one_mul] at h2
 have h3 := leV_lt hA
 have h5 := pow_cast A.length
 have h6 : leV 10000 A * f ≤ leV 10000 A * 10000 := Nat.mul_le_mul_left _ hf
 have h7 : (f : Int) * (leV 10000 A : Nat) = ((leV 10000 A * f : Nat) : Int) := by rw [Int.natCast_mul, Int.mul_comm]
 rw [h1, Int.pow_succ]
 omega
set_option maxRecDepth 100000 in
set_option maxHeartbeats 2000000 in
theorem minus_any (A B : List Nat) (hA : DigB 10000 A) (hB : DigB 10000 B) (hlA : A.length ≤ 30000) (hlen : B.length ≤ A.length) (hle : leV 10000 B ≤ leV 10000 A) (a b : Option Addr) (ca cb : Nat) (w : World)
  (_hra : Room A.length ca) (hrb : Room B.length cb) (hva : CellsAt w a (ofN A)) (hvb : CellsAt w b (ofN B)) :
  Calls Tryz.prog 142 #[.slice a A.length ca, .slice b B.length cb] w fun e w' => (∃ v, e = .returned v ∧ MagNew w' w.heap.size v (digsL 10000 (leV 10000 A - leV 10000 B))) ∧ Below w.heap.size w w' := by
 have HDA := Lib.hid hA
 have HDB := Lib.hid hB
 have HLE := Lib.hid hle
 have HVA := Lib.hid hva
 have HVB := Lib.hid hvb
 obtain ⟨m, hm⟩ : ∃ m, m = B.length := ⟨_, rfl⟩
 have HL : Hid (m ≤ A.length) := by show _ ≤ _; omega
 have hrb1 := hrb.1
 rw [← hm] at hrb1 ⊢
 have HM := Lib.hid hm
 have hmb : (m : Int) ≤ 30000 := by omega
 have HLA : Hid (A.length ≤ 30000) := hlA
 clear hA hB hle hva hvb hm hlen hrb
 go_enter Tryz.func142, Tryz.ntmps142
 go_wp2_with fail
 refine (clone_any A (by omega) a ca w HVA.out).mono ?_
 rintro e w1 ⟨⟨v, rfl, hown⟩, hB1⟩
 obtain ⟨a1, c1, rfl, hr1, hC1⟩ := cols_clone hown
 have hr1' := hr1.1
 have HR1 := Lib.hid hr1
 have HC1 := Lib.hid hC1
 have HB1 := Lib.hid hB1
 clear hown hr1 hC1 hB1
 go_wp2_with fail
 go_loopw [12] (fun i wr => ∃ (k : Nat) (C : List Int), k ≤ m ∧ i = .int .i64 k ∧ Added 20000 (-1) A B k C ∧ ColsAt wr w.heap.size a1 C ∧ Below w.heap.size w wr) (fun i _ => m - (intOf i).toNat)
 case atStart => exact ⟨0, _, by omega, rfl, Added.start (by decide) HDA.out B, HC1.out, HB1.out⟩
 case round =>
  obtain ⟨k, C, hk, rfl, hadd, hcols, hB⟩ := hrel
  have HAD := Lib.hid hadd
  have HCO := Lib.hid hcols
  have HB := Lib.hid hB
  clear hadd hcols hB
  by_cases hlt : k < m
  ·have hlt' : (k : Int) < m := by omega
   have hkA : (k : Int) < A.length := by have := HL.out; omega
   have hCl := HAD.out.1
   obtain ⟨g, hg, rfl, hrow⟩ := HCO.out.at (k := k) (by omega)
   obtain ⟨hcx, hfx⟩ := hrow k (by omega)
   have hnil : ofN B ≠ [] := fun e => by
    have h1 : (ofN B).length = 0 := by rw [e]; rfl
    rw [ofN_len] at h1; have := HM.out; omega
   obtain ⟨gb, ob, rfl, hcell⟩ := HVB.out.resolve_left hnil
   have hby := hcell k (by rw [ofN_len]; have := HM.out; omega)
   rw [ofN_get] at hby
   have hbx := keptBelow HB.out hby
   have hyb := digB_get HDB.out (j := k) (by have := HM.out; omega)
   have hxa := digB_get HDA.out (j := k) (by omega)
   have hxe := HAD.out.2.2.2 k (Nat.le_refl _)
   have e1 : ((A.getD k 0 : Nat) : Int) + -1 * ((B.getD k 0 : Nat) : Int) = (A.getD k 0 : Nat) - (B.getD k 0 : Nat) := by omega
   have hst := HAD.out.step (by have := HM.out; omega) (by have := HL.out; have := HM.out; omega) (by rw [e1]; omega)
   have hrow2 := hrow.set k (by omega) (((A.getD k 0 : Nat) : Int) + -1 * (B.getD k 0 : Nat))
   have hbel := below_set HB.out hg (i := k) (.int .i64 (((A.getD k 0 : Nat) : Int) + -1 * (B.getD k 0 : Nat)))
   rw [e1] at hst hrow2 hbel
   rw [hxe] at hcx
   have hxa' : ((A.getD k 0 : Nat) : Int) < 10000 := by omega
   have HST := Lib.hid hst
   have HRW := Lib.hid hrow2
   have HBE := Lib.hid hbel
   have hyb' : ((B.getD k 0 : Nat) : Int) < 10000 := by omega
   clear hst hrow hrow2 hbel hcell hnil e1 hby hyb hCl hxa hxe
   generalize A.getD k 0 = x at *
   generalize B.getD k 0 = y at *
   go_wp2_with fail
   go_roundw
   case rel => exact ⟨k + 1, _, by omega, by go_num, HST.out, .inr ⟨g, hg, rfl, HRW.out⟩, HBE.out⟩
   case measure => simp [intOf]; omega
  ·obtain rfl : k = m := by omega
   have hAD := HAD.out
   rw [HM.out] at hAD
   obtain ⟨e1, e2, e3⟩ := minus_end HDA.out hAD HLE.out
   have hcall := carried_any C a1 c1 wr (by have := HAD.out.1; have := HLA.out; omega) (Bnd.mono HAD.out.2.2.1 (by decide)) (by rw [HAD.out.1]; exact HR1.out) HCO.out.cells e1 e2
   rw [HAD.out.1, e3] at hcall
   have HCA := Lib.hid hcall
   clear hAD e1 e2 e3 hcall
   go_wp2_with fail
   refine HCA.out.mono ?_
   rintro e w2 ⟨⟨v2, rfl, hnew⟩, hB2⟩
   have HN := Lib.hid (hnew.mono HB.out.size)
   have HB2 := Lib.hid (belowVia hB2 HB.out)
   obtain ⟨g2, c2, rfl, _⟩ := hnew
   clear hB2
   go_wp2_with fail
   go_ret
   exact ⟨⟨_, rfl, HN.out⟩, HB2.out⟩
set_option maxRecDepth 100000 in
set_option maxHeartbeats 2000000 in
theorem plus_ge (A B : List Nat) (hA : DigB 10000 A) (hB : DigB 10000 B) (hlA : A.length ≤ 30000) (hlen : B.length ≤ A.length) (a b : Option Addr) (ca cb : Nat) (w : World)
  (_hra : Room A.length ca) (hrb : Room B.length cb) (hva : CellsAt w a (ofN A)) (hvb : CellsAt w b (ofN B)) :
  Calls Tryz.prog 140 #[.slice a A.length ca, .slice b B.length cb] w fun e w' => (∃ v, e = .returned v ∧ MagNew w' w.heap.size v (digsL 10000 (leV 10000 A + leV 10000 B))) ∧ Below w.heap.size w w' := by
 have HDA := Lib.hid hA
 have HDB := Lib.hid hB
 have HVA := Lib.hid hva
 have HVB := Lib.hid hvb
 obtain ⟨m, hm⟩ : ∃ m, m = B.length := ⟨_, rfl⟩
 have HL : Hid (m ≤ A.length) := by show _ ≤ _; omega
 have hrb1 := hrb.1
 rw [← hm] at hrb1 ⊢
 have HM := Lib.hid hm
 have hmb : (m : Int) ≤ 30000 := by omega
 have HLA : Hid (A.length ≤ 30000) := hlA
 clear hA hB hva hvb hm hlen hrb
 go_enter Tryz.func140, Tryz.ntmps140
 have hmA : (m : Int) ≤ A.length := by have := HL.out; omega
 go_wp2_with fail
 refine (clone_any A (by omega) a ca w HVA.out).mono ?_
 rintro e w1 ⟨⟨v, rfl, hown⟩, hB1⟩
 obtain ⟨a1, c1, rfl, hr1, hC1⟩ := cols_clone hown
 have hr1' := hr1.1
 have HR1 := Lib.hid hr1
 have HC1 := Lib.hid hC1
 have HB1 := Lib.hid hB1
 clear hown hr1 hC1 hB1
 go_wp2_with fail
 go_loopw [19] (fun i wr => ∃ (k : Nat) (C : List Int), k ≤ m ∧ i = .int .i64 k ∧ Added 20000 1 A B k C ∧ ColsAt wr w.heap.size a1 C ∧ Below w.heap.size w wr) (fun i _ => m - (intOf i).toNat)
 case atStart => exact ⟨0, _, by omega, rfl, Added.start (by decide) HDA.out B, HC1.out, HB1.out⟩
 case round =>
  obtain ⟨k, C, hk, rfl, hadd, hcols, hB⟩ := hrel
  have HAD := Lib.hid hadd
  have HCO := Lib.hid hcols
  have HB := Lib.hid hB
  clear hadd hcols hB
  by_cases hlt : k < m
  ·have hlt' : (k : Int) < m := by omega
   have hkA : (k : Int) < A.length := by have := HL.out; omega
   have hCl := HAD.out.1
   obtain ⟨g, hg, rfl, hrow⟩ := HCO.out.at (k := k) (by omega)
   obtain ⟨hcx, hfx⟩ := hrow k (by omega)
   have hnil : ofN B ≠ [] := fun e => by
    have h1 : (ofN B).length = 0 := by rw [e]; rfl
    rw [ofN_len] at h1; have := HM.out; omega
   obtain ⟨gb, ob, rfl, hcell⟩ := HVB.out.resolve_left hnil
   have hby := hcell k (by rw [ofN_len]; have := HM.out; omega)
   rw [ofN_get] at hby
   have hbx := keptBelow HB.out hby
   have hyb := digB_get HDB.out (j := k) (by have := HM.out; omega)
   have hxa := digB_get HDA.out (j := k) (by omega)
   have hxe := HAD.out.2.2.2 k (Nat.le_refl _)
   have e1 : ((A.getD k 0 : Nat) : Int) + 1 * ((B.getD k 0 : Nat) : Int) = (A.getD k 0 : Nat) + (B.getD k 0 : Nat) := by omega
   have hst := HAD.out.step (by have := HM.out; omega) (by have := HL.out; have := HM.out; omega) (by rw [e1]; omega)
   have hrow2 := hrow.set k (by omega) (((A.getD k 0 : Nat) : Int) + 1 * (B.getD k 0 : Nat))
   have hbel := below_set HB.out hg (i := k) (.int .i64 (((A.getD k 0 : Nat) : Int) + 1 * (B.getD k 0 : Nat)))
   rw [e1] at hst hrow2 hbel
   rw [hxe] at hcx
   have hxa' : ((A.getD k 0 : Nat) : Int) < 10000 := by omega
   have HST := Lib.hid hst
   have HRW := Lib.hid hrow2
   have HBE := Lib.hid hbel
   have hyb' : ((B.getD k 0 : Nat) : Int) < 10000 := by omega
   clear hst hrow hrow2 hbel hcell hnil e1 hby hyb hCl hxa hxe
   generalize A.getD k 0 = x at *
   generalize B.getD k 0 = y at *
   go_wp2_with fail
   go_roundw
   case rel => exact ⟨k + 1, _, by omega, by go_num, HST.out, .inr ⟨g, hg, rfl, HRW.out⟩, HBE.out⟩
   case measure => simp [intOf]; omega
  ·obtain rfl : k = m := by omega
   have hAD := HAD.out
   rw [HM.out] at hAD
   obtain ⟨e1, e2, e3⟩ := plus_end HDA.out HDB.out (by have := HL.out; have := HM.out; omega) hAD
   have hcall := carried_any C a1 c1 wr (by have := HAD.out.1; have := HLA.out; omega) (Bnd.mono HAD.out.2.2.1 (by decide)) (by rw [HAD.out.1]; exact HR1.out) HCO.out.cells e1 e2
   rw [HAD.out.1, e3] at hcall
   have HCA := Lib.hid hcall
   clear hAD e1 e2 e3 hcall
   go_wp2_with fail
   refine HCA.out.mono ?_
   rintro e w2 ⟨⟨v2, rfl, hnew⟩, hB2⟩
   have HN := Lib.hid (hnew.mono HB.out.size)
   have HB2 := Lib.hid (belowVia hB2 HB.out)
   obtain ⟨g2, c2, rfl, _⟩ := hnew
   clear hB2
   go_wp2_with fail
   go_ret
   exact ⟨⟨_, rfl, HN.out⟩, HB2.out⟩
set_option maxRecDepth 100000 in
set_option maxHeartbeats 2000000 in
theorem plus_lt (A B : List Nat) (hA : DigB 10000 A) (hB : DigB 10000 B) (hlA : A.length ≤ 30000) (hlen : B.length < A.length) (a b : Option Addr) (ca cb : Nat) (w : World)
  (_hra : Room A.length ca) (hrb : Room B.length cb) (hva : CellsAt w a (ofN A)) (hvb : CellsAt w b (ofN B)) :
  Calls Tryz.prog 140 #[.slice b B.length cb, .slice a A.length ca] w fun e w' => (∃ v, e = .returned v ∧ MagNew w' w.heap.size v (digsL 10000 (leV 10000 A + leV 10000 B))) ∧ Below w.heap.size w w' := by
 have HDA := Lib.hid hA
 have HDB := Lib.hid hB
 have HVA := Lib.hid hva
 have HVB := Lib.hid hvb
 obtain ⟨m, hm⟩ : ∃ m, m = B.length := ⟨_, rfl⟩
 have HL : Hid (m ≤ A.length) := by show _ ≤ _; omega
 have hmA : (m : Int) < A.length := by omega
 have hrb1 := hrb.1
 rw [← hm] at hrb1 ⊢
 have HM := Lib.hid hm
 have hmb : (m : Int) ≤ 30000 := by omega
 have HLA : Hid (A.length ≤ 30000) := hlA
 clear hA hB hva hvb hm hlen hrb
 go_enter Tryz.func140, Tryz.ntmps140
 go_wp2_with fail
 refine (clone_any A (by omega) a ca w HVA.out).mono ?_
 rintro e w1 ⟨⟨v, rfl, hown⟩, hB1⟩
 obtain ⟨a1, c1, rfl, hr1, hC1⟩ := cols_clone hown
 have hr1' := hr1.1
 have HR1 := Lib.hid hr1
 have HC1 := Lib.hid hC1
 have HB1 := Lib.hid hB1
 clear hown hr1 hC1 hB1
 go_wp2_with fail
 go_loopw [19] (fun i wr => ∃ (k : Nat) (C : List Int), k ≤ m ∧ i = .int .i64 k ∧ Added 20000 1 A B k C ∧ ColsAt wr w.heap.size a1 C ∧ Below w.heap.size w wr) (fun i _ => m - (intOf i).toNat)
 case atStart => exact ⟨0, _, by omega, rfl, Added.start (by decide) HDA.out B, HC1.out, HB1.out⟩
 case round =>
  obtain ⟨k, C, hk, rfl, hadd, hcols, hB⟩ := hrel
  have HAD := Lib.hid hadd
  have HCO := Lib.hid hcols
  have HB := Lib.hid hB
  clear hadd hcols hB
  by_cases hlt : k < m
  ·have hlt' : (k : Int) < m := by omega
   have hkA : (k : Int) < A.length := by have := HL.out; omega
   have hCl := HAD.out.1
   obtain ⟨g, hg, rfl, hrow⟩ := HCO.out.at (k := k) (by omega)
   obtain ⟨hcx, hfx⟩ := hrow k (by omega)
   have hnil : ofN B ≠ [] := fun e => by
    have h1 : (ofN B).length = 0 := by rw [e]; rfl
    rw [ofN_len] at h1; have := HM.out; omega
   obtain ⟨gb, ob, rfl, hcell⟩ := HVB.out.resolve_left hnil
   have hby := hcell k (by rw [ofN_len]; have := HM.out; omega)
   rw [ofN_get] at hby
   have hbx := keptBelow HB.out hby
   have hyb := digB_get HDB.out (j := k) (by have := HM.out; omega)
   have hxa := digB_get HDA.out (j := k) (by omega)
   have hxe := HAD.out.2.2.2 k (Nat.le_refl _)
   have e1 : ((A.getD k 0 : Nat) : Int) + 1 * ((B.getD k 0 : Nat) : Int) = (A.getD k 0 : Nat) + (B.getD k 0 : Nat) := by omega
   have hst := HAD.out.step (by have := HM.out; omega) (by have := HL.out; have := HM.out; omega) (by rw [e1]; omega)
   have hrow2 := hrow.set k (by omega) (((A.getD k 0 : Nat) : Int) + 1 * (B.getD k 0 : Nat))
   have hbel := below_set HB.out hg (i := k) (.int .i64 (((A.getD k 0 : Nat) : Int) + 1 * (B.getD k 0 : Nat)))
   rw [e1] at hst hrow2 hbel
   rw [hxe] at hcx
   have hxa' : ((A.getD k 0 : Nat) : Int) < 10000 := by omega
   have HST := Lib.hid hst
   have HRW := Lib.hid hrow2
   have HBE := Lib.hid hbel
   have hyb' : ((B.getD k 0 : Nat) : Int) < 10000 := by omega
   clear hst hrow hrow2 hbel hcell hnil e1 hby hyb hCl hxa hxe
   generalize A.getD k 0 = x at *
   generalize B.getD k 0 = y at *
   go_wp2_with fail
   go_roundw
   case rel => exact ⟨k + 1, _, by omega, by go_num, HST.out, .inr ⟨g, hg, rfl, HRW.out⟩, HBE.out⟩
   case measure => simp [intOf]; omega
  ·obtain rfl : k = m := by omega
   have hAD := HAD.out
   rw [HM.out] at hAD
   obtain ⟨e1, e2, e3⟩ := plus_end HDA.out HDB.out (by have := HL.out; have := HM.out; omega) hAD
   have hcall := carried_any C a1 c1 wr (by have := HAD.out.1; have := HLA.out; omega) (Bnd.mono HAD.out.2.2.1 (by decide)) (by rw [HAD.out.1]; exact HR1.out) HCO.out.cells e1 e2
   rw [HAD.out.1, e3] at hcall
   have HCA := Lib.hid hcall
   clear hAD e1 e2 e3 hcall
   go_wp2_with fail
   refine HCA.out.mono ?_
   rintro e w2 ⟨⟨v2, rfl, hnew⟩, hB2⟩
   have HN := Lib.hid (hnew.mono HB.out.size)
   have HB2 := Lib.hid (belowVia hB2 HB.out)
   obtain ⟨g2, c2, rfl, _⟩ := hnew
   clear hB2
   go_wp2_with fail
   go_ret
   exact ⟨⟨_, rfl, HN.out⟩, HB2.out⟩
set_option maxRecDepth 100000 in
set_option maxHeartbeats 2000000 in
theorem scaled_any (A : List Nat) (f : Nat) (hA : DigB 10000 A) (hf : f ≤ 10000) (hlA : A.length ≤ 30000) (a : Option Addr) (ca : Nat) (w : World) (hva : CellsAt w a (ofN A)) :
  Calls Tryz.prog 170 #[.slice a A.length ca, .int .i64 f] w fun e w' => (∃ v, e = .returned v ∧ MagNew w' w.heap.size v (digsL 10000 (leV 10000 A * f))) ∧ Below w.heap.size w w' := by
 have HDA := Lib.hid hA
 have HVA := Lib.hid hva
 have hfb : (f : Int) ≤ 10000 := by omega
 have HF : Hid (f ≤ 10000) := hf
 obtain ⟨m, hm⟩ : ∃ m, m = A.length := ⟨_, rfl⟩
 have HM := Lib.hid hm
 have hmb : (m : Int) ≤ 30000 := by omega
 have HLA : Hid (A.length ≤ 30000) := hlA
 have hcl := clone_any A (by omega) a ca w HVA.out
 rw [← hm] at hcl ⊢
 have HCL := Lib.hid hcl
 clear hA hva hm hf hcl hlA
 go_enter Tryz.func170, Tryz.ntmps170
 go_wp2_with fail
 refine HCL.out.mono ?_
 rintro e w1 ⟨⟨v, rfl, hown⟩, hB1⟩
 rw [HM.out] at hown
 obtain ⟨a1, c1, rfl, hr1, hC1⟩ := cols_clone hown
 have hr1' := hr1.1
 have HR1 := Lib.hid hr1
 have HC1 := Lib.hid hC1
 have HB1 := Lib.hid hB1
 rw [← HM.out] at hr1' ⊢
 clear hown hr1 hC1 hB1 HCL
 go_wp2_with fail
 go_loopw [11] (fun i wr => ∃ (k : Nat) (C : List Int), k ≤ m ∧ i = .int .i64 k ∧ Added 100000000 ((f : Int) - 1) A A k C ∧ ColsAt wr w.heap.size a1 C ∧ Below w.heap.size w wr) (fun i _ => m - (intOf i).toNat)
 case atStart => exact ⟨0, _, by omega, rfl, Added.start (by decide) HDA.out A, HC1.out, HB1.out⟩
 case round =>
  obtain ⟨k, C, hk, rfl, hadd, hcols, hB⟩ := hrel
  have HAD := Lib.hid hadd
  have HCO := Lib.hid hcols
  have HB := Lib.hid hB
  clear hadd hcols hB
  by_cases hlt : k < m
  ·have hlt' : (k : Int) < m := by omega
   have hCl := HAD.out.1
   have hmA := HM.out
   obtain ⟨g, hg, rfl, hrow⟩ := HCO.out.at (k := k) (by omega)
   obtain ⟨hcx, hfx⟩ := hrow k (by omega)
   have hxa := digB_get HDA.out (j := k) (by omega)
   have hxe := HAD.out.2.2.2 k (Nat.le_refl _)
   have e1 : ((A.getD k 0 : Nat) : Int) + ((f : Int) - 1) * ((A.getD k 0 : Nat) : Int) = ((A.getD k 0 * f : Nat) : Int) := by rw [Int.natCast_mul, Int.sub_mul, Int.one_mul, Int.mul_comm (f : Int)]; omega
   have hmul : A.getD k 0 * f ≤ 9999 * 10000 := Nat.mul_le_mul (by omega) HF.out
   have hst := HAD.out.step (by omega) (Nat.le_refl _) (by rw [e1]; omega)
   have hrow2 := hrow.set k (by omega) (((A.getD k 0 : Nat) : Int) + ((f : Int) - 1) * ((A.getD k 0 : Nat) : Int))
   have hbel := below_set HB.out hg (i := k) (.int .i64 (((A.getD k 0 : Nat) : Int) + ((f : Int) - 1) * ((A.getD k 0 : Nat) : Int)))
   rw [e1] at hst hrow2 hbel
   rw [hxe] at hcx
   have hxa' : ((A.getD k 0 : Nat) : Int) < 10000 := by omega
   have HST := Lib.hid hst
   have HRW := Lib.hid hrow2
   have HBE := Lib.hid hbel
   obtain ⟨z, hz⟩ : ∃ z, z = A.getD k 0 * f := ⟨_, rfl⟩
   have hzz : ((A.getD k 0 : Nat) : Int) * (f : Int) = (z : Nat) := by rw [hz, Int.natCast_mul]
   have hzb : (z : Int) ≤ 100000000 := by omega
   rw [← hz] at HST HRW HBE
   clear hst hrow hrow2 hbel e1 hCl hxa hxe hmul hz hmA
   generalize A.getD k 0 = x at *
   go_wp2_with fail
   go_roundw
   case rel => exact ⟨k + 1, _, by omega, by go_num, HST.out, .inr ⟨g, hg, rfl, HRW.out⟩, HBE.out⟩
   case measure => simp [intOf]; omega
  ·obtain rfl : k = m := by omega
   have hAD := HAD.out
   rw [HM.out] at hAD
   obtain ⟨e1, e2, e3⟩ := scaled_end HDA.out HF.out hAD
   have hcall := carried_any C a1 c1 wr (by have := HAD.out.1; have := HLA.out; omega) (Bnd.mono HAD.out.2.2.1 (by decide)) (by rw [HAD.out.1]; exact HR1.out) HCO.out.cells e1 e2
   rw [HAD.out.1, e3, ← HM.out] at hcall
   have HCA := Lib.hid hcall
   clear hAD e1 e2 e3 hcall
   go_wp2_with fail
   refine HCA.out.mono ?_
   rintro e w2 ⟨⟨v2, rfl, hnew⟩, hB2⟩
   have HN := Lib.hid (hnew.mono HB.out.size)
   have HB2 := Lib.hid (belowVia hB2 HB.out)
   obtain ⟨g2, c2, rfl, _⟩ := hnew
   clear hB2
   go_wp2_with fail
   go_ret
   exact ⟨⟨_, rfl, HN.out⟩, HB2.out⟩
theorem plus_any (A B : List Nat) (hA : DigB 10000 A) (hB : DigB 10000 B) (hlA : A.length ≤ 30000) (hlB : B.length ≤ 30000) (a b : Option Addr) (ca cb : Nat) (w : World)
  (hra : Room A.length ca) (hrb : Room B.length cb) (hva : CellsAt w a (ofN A)) (hvb : CellsAt w b (ofN B)) :
  Calls Tryz.prog 140 #[.slice a A.length ca, .slice b B.length cb] w fun e w' => (∃ v, e = .returned v ∧ MagNew w' w.heap.size v (digsL 10000 (leV 10000 A + leV 10000 B))) ∧ Below w.heap.size w w' := by
 rcases Nat.lt_or_ge A.length B.length with h | h
 ·have := plus_lt B A hB hA hlB h b a cb ca w hrb hra hvb hva
  rwa [Nat.add_comm] at this
 ·exact plus_ge A B hA hB hlA h a b ca cb w hra hrb hva hvb
end Go.Proofs.YtofmjkgaaphnkaaGreatDoor
/- IntTimes: The contract of the product of magnitudes. -/
namespace Go.Proofs.YtofmjkgaaphnkaaGreatDoor
open Go.RowKit Putlog

theorem take_nat {l : List Nat} {k : Nat} (h : k < l.length) : leV 10000 (l.take (k + 1)) = leV 10000 (l.take k) + 10000 ^ k * l.getD k 0 := by
 have h8 : l.take (k + 1) = l.take k ++ [l.getD k 0] := by rw [List.take_succ_eq_append_getElem h]; simp [List.getD_eq_getElem?_getD, h]
 have h9 : (l.take k).length = k := by simp; omega
 rw [h8, leV_snoc, h9]
/-- The columns of a product under way. -/
def Prods (A B : List Nat) (i j : Nat) (C : List Int) : Prop := C.length = A.length + B.length ∧ colV C = ((leV 10000 (A.take i) * leV 10000 B + 10000 ^ i * A.getD i 0 * leV 10000 (B.take j) : Nat) : Int) ∧ Bnd (((i * B.length + j : Nat) : Int) * 100000000) C
theorem bnd_zeros (n : Nat) (M : Int) (hM : 0 ≤ M) : Bnd M (List.replicate n 0) := fun x hx => by
 obtain ⟨_, rfl⟩ := List.mem_replicate.1 hx
 omega
theorem Prods.start (A B : List Nat) : Prods A B 0 0 (List.replicate (A.length + B.length) 0) := by
 refine ⟨List.length_replicate, ?_, bnd_zeros _ _ (by omega)⟩
 rw [colV_zeros]; simp [leV]
theorem Prods.next {A B : List Nat} {i : Nat} {C : List Int} (h : Prods A B i B.length C) (hi : i < A.length) : Prods A B (i + 1) 0 C := by
 obtain ⟨h1, h2, h3⟩ := h
 refine ⟨h1, ?_, by rw [Nat.add_mul, Nat.one_mul, Nat.add_zero]; exact h3⟩
 rw [h2, take_nat hi, List.take_length]
 simp only [List.take_zero, leV, Nat.mul_zero, Nat.add_zero, Nat.add_mul]
theorem Prods.bound {A B : List Nat} {i j : Nat} {C : List Int} (h : Prods A B i j C) (hA : A.length ≤ 1000) (hB : B.length ≤ 1000) (hi : i ≤ A.length) (hj : j ≤ B.length) : Bnd 101000000000000 C := by
 refine Bnd.mono h.2.2 ?_
 have h1 : i * B.length ≤ 1000 * 1000 := Nat.mul_le_mul (by omega) hB
 omega
theorem Prods.step {A B : List Nat} {i j : Nat} {C : List Int} (h : Prods A B i j C) (hA : DigB 10000 A) (hB : DigB 10000 B) (hi : i < A.length) (hj : j < B.length) : Prods A B i (j + 1) (C.set (i + j) (C.getD (i + j) 0 + (A.getD i 0 * B.getD j 0 : Nat))) := by
 obtain ⟨h1, h2, h3⟩ := h
 have h4 := bnd_get h3 (j := i + j) (by omega)
 have h5 := digB_get hA hi
 have h6 := digB_get hB hj
 have h7 : A.getD i 0 * B.getD j 0 ≤ 9999 * 9999 := Nat.mul_le_mul (by omega) (by omega)
 refine ⟨by rw [List.length_set]; exact h1, ?_, ?_⟩
 ·rw [colV_set C _ _ (by omega), h2, take_nat hj]
  have h8 : C.getD (i + j) 0 + ((A.getD i 0 * B.getD j 0 : Nat) : Int) - C.getD (i + j) 0 = ((A.getD i 0 * B.getD j 0 : Nat) : Int) := by omega
  rw [h8, ← pow_cast, ← Int.natCast_mul, ← Int.natCast_add]
  congr 1
  rw [Nat.mul_add, Nat.pow_add]
  have : 10000 ^ i * 10000 ^ j * (A.getD i 0 * B.getD j 0) = 10000 ^ i * A.getD i 0 * (10000 ^ j * B.getD j 0) := by
   simp only [Nat.mul_assoc, Nat.mul_left_comm]
  omega
 ·refine bnd_set (Bnd.mono h3 (by omega)) _ ?_ ?_ <;> omega
theorem prods_end {A B : List Nat} {C : List Int} (hA : DigB 10000 A) (hB : DigB 10000 B) (h : Prods A B A.length 0 C) : 0 ≤ colV C ∧ colV C < 10000 ^ (C.length + 1) ∧ (colV C).toNat = leV 10000 A * leV 10000 B := by
 obtain ⟨h1, h2, _⟩ := h
 rw [List.take_length] at h2
 simp only [List.take_zero, leV, Nat.mul_zero, Nat.add_zero] at h2
 have h3 := leV_lt hA
 have h6 := leV_lt hB
 have h5 := pow_cast (A.length + B.length)
 have h7 : leV 10000 A * leV 10000 B < 10000 ^ (A.length + B.length) := by rw [Nat.pow_add]; exact Nat.mul_lt_mul_of_lt_of_le h3 (Nat.le_of_lt h6) (Nat.pow_pos (by decide))
 rw [h1, Int.pow_succ]
 omega
theorem cols_made {w w1 : World} {n : Nat} (hown : w1.ownsRow w.heap.size 3 1 (.slice (some ⟨w.heap.size, 0, none⟩) n n) n (madeCells (Value.int .i64 0).cells (n * 1)).toList) : ColsAt w1 w.heap.size (some ⟨w.heap.size, 0, none⟩) (List.replicate n 0) := by
 rw [show (Value.int .i64 0).cells = #[.int .i64 0] from rfl, toList_madeCells_one, Nat.mul_one] at hown
 have h' : w1.ownsRow w.heap.size 3 1 (.slice (some ⟨w.heap.size, 0, none⟩) n n) (List.replicate n (0 : Int)).length (vals (List.replicate n 0)) := by
  rw [List.length_replicate]
  have : vals (List.replicate n 0) = List.replicate n (.int .i64 0) := by simp [vals]
  rw [this]; exact hown
 rcases owns_row h' with ⟨h1, _⟩ | ⟨_, g, c, h1, h2, h3, h4⟩
 ·exact .inl h1
 ·rw [List.length_replicate] at h1
  cases h1
  exact .inr ⟨_, h3, rfl, h4⟩
set_option maxRecDepth 100000 in
set_option maxHeartbeats 4000000 in
theorem times_any (A B : List Nat) (hA : DigB 10000 A) (hB : DigB 10000 B) (hlA : A.length ≤ 1000) (hlB : B.length ≤ 1000) (a b : Option Addr) (ca cb : Nat) (w : World)
  (hra : Room A.length ca) (hrb : Room B.length cb) (hva : CellsAt w a (ofN A)) (hvb : CellsAt w b (ofN B)) :
  Calls Tryz.prog 138 #[.slice a A.length ca, .slice b B.length cb] w fun e w' => (∃ v, e = .returned v ∧ MagNew w' w.heap.size v (digsL 10000 (leV 10000 A * leV 10000 B))) ∧ Below w.heap.size w w' := by
 obtain ⟨i0, hi0, hz0, hz1, hz2⟩ := info_parts info_int
 have HI0 := Lib.hid hi0
 have HZ0 := Lib.hid hz0
 have HZ1 := Lib.hid hz1
 have HZ2 := Lib.hid hz2
 have HDA := Lib.hid hA
 have HDB := Lib.hid hB
 have HVA := Lib.hid hva
 have HVB := Lib.hid hvb
 have hra1 := hra.1
 have hrb1 := hrb.1
 obtain ⟨n, hn⟩ : ∃ n, n = A.length := ⟨_, rfl⟩
 obtain ⟨m, hm⟩ : ∃ m, m = B.length := ⟨_, rfl⟩
 rw [← hn] at hra1 ⊢
 rw [← hm] at hrb1 ⊢
 have HN := Lib.hid hn
 have HM := Lib.hid hm
 have hnb : (n : Int) ≤ 1000 := by omega
 have hmb : (m : Int) ≤ 1000 := by omega
 have HLA : Hid (A.length ≤ 1000) := hlA
 have HLB : Hid (B.length ≤ 1000) := hlB
 clear hi0 hz0 hz1 hz2 hA hB hva hvb hn hm hra hrb hlA hlB
 go_enter Tryz.func138, Tryz.ntmps138
 go_wp2_with (at_make; go_must (refine wpList_make_full _ rfl _ _ 22 rfl w.heap.size 3 i0 (.int .i64 0) 1 Tryz.underlying22 HI0.out HZ0.out HZ1.out .i64 .i64 ((n : Int) + m) ((n : Int) + m) (n + m) rfl rfl (by omega) (by omega) (by rw [HZ2.out]; omega) (by unfold maxLen; omega) (Nat.le_refl _) ?_); intro w1 hown hgrow; have HC1 := Lib.hid (cols_made hown); have HB1 := Lib.hid (belowMade hgrow); clear hown hgrow)
 have HP0 : Hid (Prods A B 0 0 (List.replicate (n + m) 0)) := by show Prods _ _ _ _ _; rw [HN.out, HM.out]; exact Prods.start A B
 go_loopw [18] (fun i wr => ∃ (k : Nat) (C : List Int), k ≤ n ∧ i = .int .i64 k ∧ Prods A B k 0 C ∧ ColsAt wr w.heap.size (some ⟨w.heap.size, 0, none⟩) C ∧ Below w.heap.size w wr) (fun i _ => n - (intOf i).toNat)
 case atStart => exact ⟨0, _, by omega, rfl, HP0.out, HC1.out, HB1.out⟩
 case round =>
  obtain ⟨k, C, hk, rfl, hP, hcols, hB⟩ := hrel
  have HP := Lib.hid hP
  have HCO := Lib.hid hcols
  have HB := Lib.hid hB
  clear hP hcols hB
  by_cases hlt : k < n
  ·have hlt' : (k : Int) < n := by omega
   have hnil : ofN A ≠ [] := fun e => by
    have h1 : (ofN A).length = 0 := by rw [e]; rfl
    rw [ofN_len] at h1; have := HN.out; omega
   obtain ⟨ga, oa, rfl, hcell⟩ := HVA.out.resolve_left hnil
   have hax := hcell k (by rw [ofN_len]; have := HN.out; omega)
   rw [ofN_get] at hax
   have hay := keptBelow HB.out hax
   have hxa := digB_get HDA.out (j := k) (by have := HN.out; omega)
   have hxb : ((A.getD k 0 : Nat) : Int) < 10000 := by omega
   clear hnil hcell hax hxa
   obtain ⟨x, hx⟩ : ∃ x, x = A.getD k 0 := ⟨_, rfl⟩
   rw [← hx] at hay hxb
   have HX := Lib.hid hx
   clear hx
   go_wp2_with fail
   go_loopw [25] (fun i wr => ∃ (j : Nat) (C : List Int), j ≤ m ∧ i = .int .i64 j ∧ Prods A B k j C ∧ ColsAt wr w.heap.size (some ⟨w.heap.size, 0, none⟩) C ∧ Below w.heap.size w wr) (fun i _ => m - (intOf i).toNat)
   case atStart => exact ⟨0, _, by omega, rfl, HP.out, HCO.out, HB.out⟩
   case round =>
    obtain ⟨j, C2, hj, rfl, hP2, hcols2, hB2⟩ := hrel
    have HP2 := Lib.hid hP2
    have HCO2 := Lib.hid hcols2
    have HB2 := Lib.hid hB2
    clear hP2 hcols2 hB2
    by_cases hjt : j < m
    ·have hjt' : (j : Int) < m := by omega
     have hkj : (k : Int) + j < (n : Int) + m := by omega
     have hlen := HP2.out.1
     have hidx : k + j < C2.length := by have := HN.out; have := HM.out; omega
     obtain ⟨g, hg, hge, hrow⟩ := HCO2.out.at hidx
     obtain rfl : w.heap.size = g := by cases hge; rfl
     obtain ⟨hcx, hfx⟩ := hrow (k + j) hidx
     have hnil : ofN B ≠ [] := fun e => by
      have h1 : (ofN B).length = 0 := by rw [e]; rfl
      rw [ofN_len] at h1; have := HM.out; omega
     obtain ⟨gb, ob, rfl, hcell⟩ := HVB.out.resolve_left hnil
     have hbx := hcell j (by rw [ofN_len]; have := HM.out; omega)
     rw [ofN_get] at hbx
     have hby := keptBelow HB2.out hbx
     have hyb := digB_get HDB.out (j := j) (by have := HM.out; omega)
     have hyb' : ((B.getD j 0 : Nat) : Int) < 10000 := by omega
     have hst := HP2.out.step HDA.out HDB.out (by have := HN.out; omega) (by have := HM.out; omega)
     have hcb := bnd_get (HP2.out.bound HLA.out HLB.out (by have := HN.out; omega) (by have := HM.out; omega)) hidx
     rw [← HX.out] at hst
     have hrow2 := hrow.set (k + j) hidx (C2.getD (k + j) 0 + ((x * B.getD j 0 : Nat) : Int))
     have hbel := below_set HB2.out hg (i := k + j) (.int .i64 (C2.getD (k + j) 0 + ((x * B.getD j 0 : Nat) : Int)))
     have hmul : x * B.getD j 0 ≤ 9999 * 9999 := Nat.mul_le_mul (by omega) (by omega)
     have HST := Lib.hid hst
     have HRW := Lib.hid hrow2
     have HBE := Lib.hid hbel
     obtain ⟨z, hz⟩ : ∃ z, z = x * B.getD j 0 := ⟨_, rfl⟩
     have hzz : (x : Int) * ((B.getD j 0 : Nat) : Int) = (z : Nat) := by rw [hz, Int.natCast_mul]
     have hzb : (z : Int) ≤ 100000000 := by omega
     rw [← hz] at HST HRW HBE
     have htn : ((k : Int) + j).toNat = k + j := by omega
     clear hst hrow hrow2 hbel hge hnil hcell hbx hyb hmul hz hlen hidx
     generalize C2.getD (k + j) 0 = c at *
     generalize B.getD j 0 = y at *
     go_wp2_with fail
     go_roundw
     case rel => exact ⟨j + 1, _, by omega, by go_num, HST.out, .inr ⟨_, hg, rfl, HRW.out⟩, HBE.out⟩
     case measure => simp [intOf]; omega
    ·obtain rfl : j = m := by omega
     have hP3 := HP2.out
     rw [HM.out] at hP3
     have HP3 := Lib.hid (hP3.next (by have := HN.out; omega))
     clear hP3
     go_wp2_with fail
     go_roundw
     case rel => exact ⟨k + 1, _, by omega, by go_num, HP3.out, HCO2.out, HB2.out⟩
     case measure => simp [intOf]; omega
  ·obtain rfl : k = n := by omega
   have hAD := HP.out
   rw [HN.out] at hAD
   obtain ⟨e1, e2, e3⟩ := prods_end HDA.out HDB.out hAD
   have hlC : C.length = k + m := by have := HP.out.1; have := HN.out; have := HM.out; omega
   have hcall := carried_any C (some ⟨w.heap.size, 0, none⟩) (k + m) wr (by omega) (Bnd.mono (HP.out.bound HLA.out HLB.out (by have := HN.out; omega) (by omega)) (by decide)) (by rw [hlC]; exact ⟨Nat.le_refl _, by omega⟩) HCO.out.cells e1 e2
   rw [hlC, e3] at hcall
   have HCA := Lib.hid hcall
   clear hAD e1 e2 e3 hcall hlC
   go_wp2_with fail
   refine HCA.out.mono ?_
   rintro e w2 ⟨⟨v2, rfl, hnew⟩, hB2⟩
   have HNW := Lib.hid (hnew.mono HB.out.size)
   have HB2 := Lib.hid (belowVia hB2 HB.out)
   obtain ⟨g2, c2, rfl, _⟩ := hnew
   clear hB2
   go_wp2_with fail
   go_ret
   exact ⟨⟨_, rfl, HNW.out⟩, HB2.out⟩
end Go.Proofs.YtofmjkgaaphnkaaGreatDoor
/- IntApi: What the laws of layer 3 take of the code: a contract for each exported function, in terms of numbers. -/
namespace Go.Proofs.YtofmjkgaaphnkaaGreatDoor
open Go.RowKit Putlog

def okS (z : Int) : ByteArray := if Fits z then intB z else ⟨#[]⟩
def okE (z : Int) : Int := if Fits z then 0 else 30
theorem okS_fits {z : Int} (h : Fits z) : okS z = intB z := if_pos h
theorem okE_fits {z : Int} (h : Fits z) : okE z = 0 := if_pos h
def GivesInt (x : ByteArray) (k : Int) (w : World) (e : Ending) (w' : World) : Prop := e = .returned (.tuple #[.string x, .int .i64 k]) ∧ Below w.heap.size w w'
def cmpI (a b : Int) : Int := if a < b then -1 else if b < a then 1 else 0
theorem intB_zero : intB 0 = ⟨#[48]⟩ := by decide +kernel
theorem intT_size {z : Int} {k : Nat} (h : z.natAbs < 10 ^ k) (hk : 1 ≤ k) : (intB z).size ≤ k + 1 := by
 have h1 := (natT_len z.natAbs k hk).2 h
 show (intT z).toArray.size ≤ k + 1
 rw [List.size_toArray]
 unfold intT
 split
 ·simp; omega
 ·omega
theorem isZero_no {z : Int} (h : z ≠ 0) : ((intB z).toList == [48]) = false := by
 have h1 : (intB 0).toList = [48] := by decide +kernel
 have h2 : (intB z).toList ≠ (intB 0).toList := fun e => h (intT_inj (by simpa [ByteArray.toList_eq, intB] using e))
 rw [h1] at h2
 simpa using h2
end Go.Proofs.YtofmjkgaaphnkaaGreatDoor
/- IntCompare: The contracts of the order of magnitudes, and of what a magnitude has above an index. -/
namespace Go.Proofs.YtofmjkgaaphnkaaGreatDoor
open Go.RowKit Putlog

theorem compareInt_eq (x y : Int) : Lib.compareInt x y = cmpI x y := by unfold Lib.compareInt cmpI; rfl
theorem drop_next {l : List Nat} {k : Nat} (h : k < l.length) : l.drop k = l.getD k 0 :: l.drop (k + 1) := by
 rw [List.drop_eq_getElem_cons h]; simp [List.getD_eq_getElem?_getD, h]
theorem cmp_top {A B : List Nat} {q : Nat} (hA : DigB 10000 A) (hB : DigB 10000 B) (hl : A.length = B.length) (hq : q < A.length) (hd : A.drop (q + 1) = B.drop (q + 1)) (hne : A.getD q 0 ≠ B.getD q 0) : cmpI (leV 10000 A : Nat) (leV 10000 B : Nat) = cmpI (A.getD q 0 : Nat) (B.getD q 0 : Nat) := by
 have eA : A = A.take q ++ A.getD q 0 :: A.drop (q + 1) := by rw [← drop_next hq, List.take_append_drop]
 have eB : B = B.take q ++ B.getD q 0 :: A.drop (q + 1) := by rw [hd, ← drop_next (by omega), List.take_append_drop]
 have hAt : DigB 10000 (A.take q) := fun x hx => hA x (List.mem_of_mem_take hx)
 have hBt : DigB 10000 (B.take q) := fun x hx => hB x (List.mem_of_mem_take hx)
 have hlt : (A.take q).length = (B.take q).length := by simp; omega
 rcases Nat.lt_or_gt_of_ne hne with h | h
 ·have := leV_top (t := A.drop (q + 1)) hAt hlt h
  rw [← eA, ← eB] at this
  unfold cmpI
  rw [if_pos (by omega), if_pos (by omega)]
 ·have := leV_top (t := A.drop (q + 1)) hBt hlt.symm h
  rw [← eA, ← eB] at this
  unfold cmpI
  rw [if_neg (by omega), if_pos (by omega), if_neg (by omega), if_pos (by omega)]
theorem cmp_len {A B : List Nat} (hA : DigB 10000 A) (hB : DigB 10000 B) (nA : Norm A) (nB : Norm B) (hl : A.length ≠ B.length) : cmpI (leV 10000 A : Nat) (leV 10000 B : Nat) = cmpI (A.length : Nat) (B.length : Nat) := by
 rcases Nat.lt_or_gt_of_ne hl with h | h
 ·have := leV_len_lt (by decide) hA nB h
  unfold cmpI
  rw [if_pos (by omega), if_pos (by omega)]
 ·have := leV_len_lt (by decide) hB nA h
  unfold cmpI
  rw [if_neg (by omega), if_pos (by omega), if_neg (by omega), if_pos (by omega)]
theorem cells_get {w : World} {a : Option Addr} {l : List Nat} (h : CellsAt w a (ofN l)) {k : Nat} (hk : k < l.length) : ∃ g o, a = some ⟨g, o, none⟩ ∧ ∀ j, j < l.length → w.cell? ⟨g, o + j, none⟩ = some (.int .i64 (l.getD j 0 : Nat)) := by
 rcases h with h | ⟨g, o, h1, h2⟩
 ·have h3 : (ofN l).length = 0 := by rw [h]; rfl
  rw [ofN_len] at h3; omega
 ·exact ⟨g, o, h1, fun j hj => by rw [← ofN_get]; exact h2 j (by rw [ofN_len]; exact hj)⟩
set_option maxRecDepth 100000 in
set_option maxHeartbeats 4000000 in
theorem compare_any (A B : List Nat) (hA : DigB 10000 A) (hB : DigB 10000 B) (nA : Norm A) (nB : Norm B) (hlA : A.length ≤ 100000) (hlB : B.length ≤ 100000) (a b : Option Addr) (ca cb : Nat) (w : World)
  (hra : Room A.length ca) (hrb : Room B.length cb) (hva : CellsAt w a (ofN A)) (hvb : CellsAt w b (ofN B)) :
  Calls Tryz.prog 141 #[.slice a A.length ca, .slice b B.length cb] w fun e w' => e = .returned (.int .i64 (cmpI (leV 10000 A : Nat) (leV 10000 B : Nat))) ∧ Below w.heap.size w w' := by
 have HDA := Lib.hid hA
 have HDB := Lib.hid hB
 have HVA := Lib.hid hva
 have HVB := Lib.hid hvb
 have hra1 := hra.1
 have hrb1 := hrb.1
 have hlA' : (A.length : Int) ≤ 100000 := by omega
 have hlB' : (B.length : Int) ≤ 100000 := by omega
 by_cases hl : A.length = B.length
 ·obtain ⟨n, hn⟩ : ∃ n, n = A.length := ⟨_, rfl⟩
  rw [← hl] at hrb1 ⊢
  rw [← hn] at hra1 hrb1 hlA' ⊢
  have HN := Lib.hid hn
  have HL := Lib.hid hl
  clear hA hB hva hvb hra hrb hlA hlB hn hl nA nB hlB'
  have hd0 : ((n : Int) != n) = false := by simp
  go_enter Tryz.func141, Tryz.ntmps141
  go_wp2_with fail
  go_loopw [5] (fun i wr => ∃ k : Nat, k ≤ n ∧ i = .int .i64 ((k : Int) - 1) ∧ A.drop k = B.drop k ∧ Below w.heap.size w wr) (fun i _ => (1 + intOf i).toNat)
  case atStart => exact ⟨n, Nat.le_refl _, rfl, by have h1 := HN.out; have h2 := HL.out; rw [List.drop_of_length_le (by omega), List.drop_of_length_le (by omega)], Below.refl _ _⟩
  case round =>
   obtain ⟨k, hk, rfl, hd, hB⟩ := hrel
   have HD := Lib.hid hd
   have HB := Lib.hid hB
   clear hd hB
   rcases Nat.eq_zero_or_pos k with rfl | h0
   ·have HE : Hid (cmpI (leV 10000 A : Nat) (leV 10000 B : Nat) = 0) := by
     show _ = _
     have : A = B := by have := HD.out; simpa using this
     rw [this]; unfold cmpI; simp
    go_wp2_with fail
    go_ret
    rw [HE.out]
    exact ⟨rfl, HB.out⟩
   ·obtain ⟨q, rfl⟩ : ∃ q, k = q + 1 := ⟨k - 1, by omega⟩
    have hqA : q < A.length := by have := HN.out; omega
    have hqB : q < B.length := by have := HL.out; omega
    obtain ⟨ga, oa, rfl, hca⟩ := cells_get HVA.out hqA
    obtain ⟨gb, ob, rfl, hcb⟩ := cells_get HVB.out hqB
    have hcx := keptBelow HB.out (hca q hqA)
    have hcy := keptBelow HB.out (hcb q hqB)
    have hqe : ((q + 1 : Nat) : Int) - 1 = q := by omega
    have hqn : (q : Int) < n := by omega
    rw [hqe]
    by_cases hne : A.getD q 0 = B.getD q 0
    ·have HE : Hid (A.drop q = B.drop q) := by show _ = _; rw [drop_next hqA, drop_next hqB, hne, HD.out]
     have hnb : (((A.getD q 0 : Nat) : Int) != ((B.getD q 0 : Nat) : Int)) = false := by rw [hne]; simp
     clear hca hcb hqA hqB hne
     generalize A.getD q 0 = x at *
     generalize B.getD q 0 = y at *
     go_wp2_with fail
     go_quiet (fail)
     go_wp2_with fail
     go_roundw
     case rel => exact ⟨q, by omega, by go_num, HE.out, below_drewN HB.out _⟩
     case measure => simp [intOf]; omega
    ·have HE := Lib.hid (cmp_top HDA.out HDB.out HL.out hqA HD.out hne)
     have hnb : (((A.getD q 0 : Nat) : Int) != ((B.getD q 0 : Nat) : Int)) = true := by rw [bne_iff_ne]; omega
     clear hca hcb hqA hqB hne
     generalize A.getD q 0 = x at *
     generalize B.getD q 0 = y at *
     go_wp2_with fail
     go_quiet (fail)
     go_wp2_with fail
     have hcx2 : (wr.drewN nq).cell? ⟨ga, oa + q, none⟩ = some (.int .i64 (x : Nat)) := hcx
     have hcy2 : (wr.drewN nq).cell? ⟨gb, ob + q, none⟩ = some (.int .i64 (y : Nat)) := hcy
     have HB2 : Hid (Below w.heap.size w (wr.drewN nq)) := below_drewN HB.out _
     generalize wr.drewN nq = w9 at *
     clear nq hcx hcy
     go_quiet ((go_at_call 158; exact Calls.quiet_of_same (Tryz.cmp_Compare_int _ _ _)))
     go_wp2_with fail
     go_ret
     refine ⟨?_, below_drewN HB2.out _⟩
     rw [HE.out, ← compareInt_eq]; rfl
 ·have HE := Lib.hid (cmp_len hA hB nA nB hl)
  obtain ⟨n, hn⟩ : ∃ n, n = A.length := ⟨_, rfl⟩
  obtain ⟨m, hm⟩ : ∃ m, m = B.length := ⟨_, rfl⟩
  have hnm : ((n : Int) != m) = true := by rw [bne_iff_ne]; omega
  rw [← hn, ← hm] at HE
  rw [← hn] at hra1 hlA' ⊢
  rw [← hm] at hrb1 hlB' ⊢
  clear hA hB hva hvb hra hrb hlA hlB hn hm hl nA nB
  go_enter Tryz.func141, Tryz.ntmps141
  go_wp2_with (go_at_call 158; refine (Tryz.cmp_Compare_int _ _ _).mono ?_; rintro e w1 ⟨rfl, rfl⟩)
  go_ret
  refine ⟨?_, Below.refl _ _⟩
  rw [HE.out, ← compareInt_eq]; rfl
end Go.Proofs.YtofmjkgaaphnkaaGreatDoor
/- IntSearch: The contracts of sort.Search over a function value, and of what a magnitude has above an index. -/
namespace Go.Proofs.YtofmjkgaaphnkaaGreatDoor
open Go.RowKit Putlog

set_option maxRecDepth 100000 in
set_option maxHeartbeats 2000000 in
theorem above_any (l : List Nat) (hd : DigB 10000 l) (cut : Nat) (hl : l.length ≤ cut + 3) (hlb : l.length ≤ 100000) (hcb : cut ≤ 100000) (a : Option Addr) (c : Nat) (w : World) (hr : Room l.length c) (hv : CellsAt w a (ofN l)) :
  Calls Tryz.prog 180 #[.slice a l.length c, .int .i64 cut] w fun e w' => e = .returned (.int .i64 (leV 10000 (l.drop cut) : Nat)) ∧ w' = w := by
 have HD := Lib.hid hd
 have HV := Lib.hid hv
 have hr1 := hr.1
 obtain ⟨n, hn⟩ : ∃ n, n = l.length := ⟨_, rfl⟩
 rw [← hn] at hl hlb hr1 ⊢
 have HN := Lib.hid hn
 have HL : Hid (n ≤ cut + 3) := hl
 have hnb : (n : Int) ≤ 100000 := by omega
 have hcb' : (cut : Int) ≤ 100000 := by omega
 clear hd hv hr hn hl
 go_enter Tryz.func180, Tryz.ntmps180
 go_wp2_with fail
 go_loop [5, 6] (fun v i => ∃ k : Nat, k ≤ n ∧ (cut ≤ k ∨ k = n) ∧ i = .int .i64 ((k : Int) - 1) ∧ v = .int .i64 (leV 10000 (l.drop k) : Nat)) (fun _ i => (1 + intOf i).toNat)
 case atStart => exact ⟨n, Nat.le_refl _, .inr rfl, rfl, by rw [List.drop_of_length_le (by have := HN.out; omega)]; rfl⟩
 case round =>
  obtain ⟨k, hk, hck, rfl, rfl⟩ := hrel
  by_cases hge : cut < k
  ·obtain ⟨q, rfl⟩ : ∃ q, k = q + 1 := ⟨k - 1, by omega⟩
   have hqe : ((q + 1 : Nat) : Int) - 1 = q := by omega
   have hqn : (q : Int) < n := by omega
   have hqc : (cut : Int) ≤ q := by omega
   have hql : q < l.length := by have := HN.out; omega
   obtain ⟨g, o, rfl, hcell⟩ := cells_get HV.out hql
   have hcx := hcell q hql
   have hxb := digB_get HD.out hql
   have hxb' : ((l.getD q 0 : Nat) : Int) < 10000 := by omega
   have hN : leV 10000 (l.drop (q + 1)) < 10000 ^ 3 := by
    have h1 : DigB 10000 (l.drop (q + 1)) := fun x hx => HD.out x (List.mem_of_mem_drop hx)
    have h2 := leV_lt h1
    have h3 : 10000 ^ (l.drop (q + 1)).length ≤ 10000 ^ 3 := Nat.pow_le_pow_right (by decide) (by simp; have := HL.out; have := HN.out; omega)
    omega
   have hnx : leV 10000 (l.drop q) = l.getD q 0 + 10000 * leV 10000 (l.drop (q + 1)) := by rw [drop_next hql, leV]
   rw [hqe]
   generalize leV 10000 (l.drop (q + 1)) = y at *
   generalize l.getD q 0 = x at *
   have hyb : (y : Int) < 1000000000000 := by omega
   have HX : Hid (((leV 10000 (l.drop q) : Nat) : Int) = (y : Int) * 10000 + x) := by show _ = _; omega
   clear hN hnx hcell hxb
   go_wp2_with fail
   go_round
   case rel => exact ⟨q, by omega, .inl (by omega), by go_num, by rw [HX.out]⟩
   case measure => simp [intOf]; omega
  ·have hkc : ((k : Int) - 1) < cut := by omega
   have HE : Hid (leV 10000 (l.drop k) = leV 10000 (l.drop cut)) := by
    show _ = _
    rcases Nat.lt_or_ge k cut with h | h
    ·have h1 : k = n := by omega
     rw [List.drop_of_length_le (by have := HN.out; omega), List.drop_of_length_le (by have := HN.out; omega)]
    ·have : k = cut := by omega
     rw [this]
   rw [HE.out]
   clear hge
   go_wp2_with fail
   go_ret
   exact ⟨rfl, rfl⟩

set_option maxRecDepth 100000 in
set_option maxHeartbeats 2000000 in
/-- sort.Search over a function value that answers p and keeps I. -/
theorem search_any {g : Nat} {lb : Array Value} (eg : ∀ args w, (callFunc g args).run Tryz.prog w = .ok (.enter g args) w) (n : Nat) (hn : n ≤ 100000) (p : Nat → Bool) (I : World → Prop) (w : World) (h0 : I w)
  (hstep : ∀ (h : Nat) (w : World), h < n → I w → Calls Tryz.prog g (#[.int .i64 h] ++ lb) w fun e w' => e = .returned (.bool (p h)) ∧ I w') :
  Calls Tryz.prog 181 #[.int .i64 n, .func (.func g) #[] lb] w fun e w' => ∃ r : Nat, e = .returned (.int .i64 r) ∧ Firsts p n r ∧ I w' := by
 have HS := Lib.hid hstep
 have H0 := Lib.hid h0
 have hnb : (n : Int) ≤ 100000 := by omega
 clear hstep h0
 go_enter Tryz.func181, Tryz.ntmps181
 go_wp2_with fail
 go_loopw [5, 6] (fun a b wr => ∃ i j : Nat, i ≤ j ∧ j ≤ n ∧ a = .int .i64 i ∧ b = .int .i64 j ∧ (i = 0 ∨ p (i - 1) = false) ∧ (j = n ∨ p j = true) ∧ I wr) (fun a b _ => (intOf b - intOf a).toNat)
 case atStart => exact ⟨0, n, by omega, by omega, rfl, rfl, .inl rfl, .inl rfl, H0.out⟩
 case round =>
  obtain ⟨i, j, hij, hjn, rfl, rfl, hi, hj, hI⟩ := hrel
  have HI := Lib.hid hI
  have HP := Lib.hid hi
  have HQ := Lib.hid hj
  clear hI hi hj
  have hjb : (j : Int) ≤ 100000 := by omega
  by_cases hlt : i < j
  ·have hlt' : (i : Int) < j := by omega
   obtain ⟨h, hh⟩ : ∃ h, h = (i + j) / 2 := ⟨_, rfl⟩
   have h1 : i ≤ h := by omega
   have h2 : h < j := by omega
   have hdiv : ((i : Int) + (j : Int)) / 2 = (h : Nat) := by omega
   have hhb : (h : Int) ≤ 100000 := by omega
   have HC := Lib.hid (HS.out h wr (by omega) HI.out)
   clear hh HI
   obtain ⟨bv, hbv⟩ : ∃ bv, bv = p h := ⟨_, rfl⟩
   have HBV := Lib.hid hbv
   rw [← hbv] at HC
   clear hbv
   go_wp2_with fail
   refine HC.out.mono ?_
   rintro e w1 ⟨rfl, hI1⟩
   have HI1 := Lib.hid hI1
   clear hI1 HC
   cases bv with
   | true =>
    go_wp2_with fail
    go_roundw
    case rel => exact ⟨i, h, by omega, by omega, rfl, rfl, HP.out, .inr HBV.out.symm, HI1.out⟩
    case measure => simp [intOf]; omega
   | false =>
    go_wp2_with fail
    go_roundw
    case rel => exact ⟨h + 1, j, by omega, by omega, by go_num, rfl, .inr (by rw [Nat.add_sub_cancel]; exact HBV.out.symm), HQ.out, HI1.out⟩
    case measure => simp [intOf]; omega
  ·obtain rfl : i = j := by omega
   go_wp2_with fail
   go_ret
   exact ⟨i, rfl, ⟨hjn, HP.out, HQ.out⟩, HI.out⟩
end Go.Proofs.YtofmjkgaaphnkaaGreatDoor
/- IntGroup: The contract of a group of a quotient: the binary search with its closure. -/
namespace Go.Proofs.YtofmjkgaaphnkaaGreatDoor
open Go.RowKit Putlog

/-- What the closure of the search has at hand. -/
structure QG (w : World) (bM bL bA : Nat) (a b : Option Addr) (ca cb : Nat) (A B : List Nat) (least : Nat) : Prop where
 hm : w.cell? ⟨bM, 0, none⟩ = some (.func (.func 170) #[.slice b B.length cb] #[])
 hl : w.cell? ⟨bL, 0, none⟩ = some (.int .i64 (least : Nat))
 ha : w.cell? ⟨bA, 0, none⟩ = some (.slice a A.length ca)
 hca : CellsAt w a (ofN A)
 hcb : CellsAt w b (ofN B)
theorem QG.via {w w' : World} {bM bL bA : Nat} {a b : Option Addr} {ca cb : Nat} {A B : List Nat} {least : Nat} (hB : Below w.heap.size w w') (h : QG w bM bL bA a b ca cb A B least) : QG w' bM bL bA a b ca cb A B least :=
 ⟨keptBelow hB h.hm, keptBelow hB h.hl, keptBelow hB h.ha, h.hca.via hB, h.hcb.via hB⟩
theorem cmp_gt (x y : Nat) : decide (0 < cmpI (x : Int) (y : Int)) = decide (y < x) := by
 unfold cmpI
 rcases Nat.lt_trichotomy x y with h | h | h
 ·rw [if_pos (by omega)]; simp; omega
 ·subst h; simp
 ·rw [if_neg (by omega), if_pos (by omega)]; simp; omega
theorem digsL_len_le {v n : Nat} (h : v < 10000 ^ n) : (digsL 10000 v).length ≤ n := (digsL_len (by decide) v n).2 h
theorem scaled_len {B : List Nat} {f : Nat} (hB : DigB 10000 B) (hf : f ≤ 10000) : (digsL 10000 (leV 10000 B * f)).length ≤ B.length + 2 := by
 refine digsL_len_le ?_
 have h1 := leV_lt hB
 have h2 : leV 10000 B * f ≤ 10000 ^ B.length * 10000 := Nat.mul_le_mul (by omega) hf
 have h3 : 0 < 10000 ^ B.length := Nat.pow_pos (by decide)
 rw [Nat.pow_add]; omega
set_option maxRecDepth 100000 in
set_option maxHeartbeats 4000000 in
theorem group1_any (A B : List Nat) (hA : DigB 10000 A) (hB : DigB 10000 B) (nA : Norm A) (hlA : A.length ≤ 20000) (hlB : B.length ≤ 20000) (bM bL bA : Nat) (a b : Option Addr) (ca cb : Nat) (hra : Room A.length ca) (least h : Nat) (hf : least + h + 1 ≤ 10000) (w : World) (hq : QG w bM bL bA a b ca cb A B least) :
  Calls Tryz.prog 182 #[.int .i64 h, .pointer (some ⟨bM, 0, none⟩), .pointer (some ⟨bL, 0, none⟩), .pointer (some ⟨bA, 0, none⟩)] w fun e w' => e = .returned (.bool (decide (leV 10000 A < leV 10000 B * (least + h + 1)))) ∧ Below w.heap.size w w' := by
 have HQ := Lib.hid hq
 have hcM := hq.hm
 have hcL := hq.hl
 have hcA := hq.ha
 have hlb : (least : Int) ≤ 10000 := by omega
 have hhb : (h : Int) ≤ 10000 := by omega
 have HS : Hid (∀ W : World, CellsAt W b (ofN B) → Calls Tryz.prog 170 #[.slice b B.length cb, .int .i64 ((least + h + 1 : Nat) : Int)] W fun e w' => (∃ g c, e = .returned (.slice (some ⟨g, 0, none⟩) (digsL 10000 (leV 10000 B * (least + h + 1))).length c) ∧ Room (digsL 10000 (leV 10000 B * (least + h + 1))).length c ∧ CellsAt w' (some ⟨g, 0, none⟩) (ofN (digsL 10000 (leV 10000 B * (least + h + 1))))) ∧ Below W.heap.size W w') := by
  intro W hc
  have := scaled_any B (least + h + 1) hB hf (by omega) b cb W hc
  refine this.mono ?_
  rintro e w' ⟨⟨v, rfl, hn⟩, hb⟩
  obtain ⟨a', c', h1, h2, h3⟩ := hn.mag
  obtain ⟨g, c, rfl, _⟩ := hn
  cases h1
  exact ⟨⟨g, _, rfl, h2, h3⟩, hb⟩
 have HC : Hid (∀ (W : World) (g c : Nat), CellsAt W a (ofN A) → Room (digsL 10000 (leV 10000 B * (least + h + 1))).length c → CellsAt W (some ⟨g, 0, none⟩) (ofN (digsL 10000 (leV 10000 B * (least + h + 1)))) →
   Calls Tryz.prog 141 #[.slice (some ⟨g, 0, none⟩) (digsL 10000 (leV 10000 B * (least + h + 1))).length c, .slice a A.length ca] W fun e w' => e = .returned (.int .i64 (cmpI ((leV 10000 B * (least + h + 1) : Nat) : Int) (leV 10000 A : Nat))) ∧ Below W.heap.size W w') := by
  intro W g c h1 h2 h3
  have := compare_any (digsL 10000 (leV 10000 B * (least + h + 1))) A (digsL_dig (by decide) _) hA (digsL_norm (by decide) _) nA (by have := scaled_len hB hf; omega) (by omega) _ _ _ _ W h2 hra h3 h1
  rwa [leV_digsL (by decide)] at this
 have hw1 : IntKind.i64.wrap ((least : Int) + h) = ((least + h : Nat) : Int) := by rw [IntKind.wrap_i64]; omega
 have hw2 : IntKind.i64.wrap (((least + h : Nat) : Int) + 1) = ((least + h + 1 : Nat) : Int) := by rw [IntKind.wrap_i64]; omega
 generalize hs1 : least + h = s1 at *
 generalize hs2 : s1 + 1 = s2 at *
 have hgt := cmp_gt (leV 10000 B * s2) (leV 10000 A)
 generalize leV 10000 B * s2 = P at *
 generalize digsL 10000 P = D at *
 generalize cmpI (P : Int) (leV 10000 A : Nat) = cv at *
 generalize decide (leV 10000 A < P) = R at *
 clear hA hB nA hlA hlB hra hf hq hs1 hs2
 go_enter Tryz.func182, Tryz.ntmps182
 go_wp2_with fail
 go_region_held3 (fun w' => w'.cell? ⟨bM, 0, none⟩ = some (.func (.func 170) #[.slice b B.length cb] #[]) ∧ w'.cell? ⟨bL, 0, none⟩ = some (.int .i64 (least : Nat)) ∧ w'.cell? ⟨bA, 0, none⟩ = some (.slice a A.length ca)) (first | exact ⟨hcM, hcL, hcA⟩ | exact ⟨keptBelow hB1 hcM, keptBelow hB1 hcL, keptBelow hB1 hcA⟩ | exact ⟨keptBelow hB2 (keptBelow hB1 hcM), keptBelow hB2 (keptBelow hB1 hcL), keptBelow hB2 (keptBelow hB1 hcA)⟩) (first
  | (go_at_call 170; (with_reducible refine (HS.out _ ?_).mono ?_); exact HQ.out.hcb; rintro e w1 ⟨⟨g1, c1, rfl, hr1, hc1⟩, hB1⟩)
  | (go_at_call 141; (with_reducible refine (HC.out _ _ _ ?_ hr1 ?_).mono ?_); exact CellsAt.via hB1 HQ.out.hca; exact hc1; rintro e w2 ⟨rfl, hB2⟩))
 go_wp2_with fail
 go_ret
 exact ⟨rfl, belowVia hB2 ⟨hB1.os, hB1.tape, hB1.output, hB1.size, hB1.block⟩⟩

theorem leV_drop' {l : List Nat} (hd : DigB 10000 l) (k : Nat) : leV 10000 (l.drop k) = leV 10000 l / 10000 ^ k := by
 rcases Nat.lt_or_ge l.length k with h | h
 ·have h1 := leV_lt hd
  have h2 : 10000 ^ l.length ≤ 10000 ^ k := Nat.pow_le_pow_right (by decide) (by omega)
  rw [List.drop_of_length_le (by omega), Nat.div_eq_of_lt (by omega)]; rfl
 ·exact leV_drop (by decide) hd k h
theorem most_le {A B K : Nat} (hK : 0 < K) (h : A < 10000 * B) (h1 : 1 ≤ B / K) (h2 : K = 1 ∨ 10000 ≤ B / K) : A / K / (B / K) ≤ 10000 := by
 rcases h2 with rfl | h2
 ·rw [Nat.div_one, Nat.div_one]
  have h3 : 0 < B := by rw [Nat.div_one] at h1; exact h1
  exact Nat.le_of_lt ((Nat.div_lt_iff_lt_mul h3).2 h)
 ·have h3 : B < (B / K + 1) * K := by
   have := Nat.lt_div_mul_add hK (a := B); rw [Nat.add_mul]; omega
  have h4 : A / K < 10000 * (B / K + 1) := by
   refine (Nat.div_lt_iff_lt_mul hK).2 ?_
   rw [Nat.mul_assoc]
   exact Nat.lt_trans h ((Nat.mul_lt_mul_left (show 0 < 10000 by decide)).2 h3)
  have h5 : A / K / (B / K) < 10001 := by
   refine (Nat.div_lt_iff_lt_mul (by omega)).2 ?_
   have : 10001 * (B / K) = 10000 * (B / K) + B / K := by rw [show 10001 = 10000 + 1 from rfl, Nat.add_mul, Nat.one_mul]
   omega
  omega
theorem norm_pow {B : List Nat} (nB : Norm B) (h0 : B ≠ []) {k : Nat} (hk : k < B.length) : 10000 ^ (B.length - 1 - k) ≤ leV 10000 B / 10000 ^ k := by
 rcases norm_cases B with h | ⟨r, x, rfl⟩
 ·exact absurd h h0
 ·have h1 := norm_ge (B := 10000) (by decide) nB
  refine (Nat.le_div_iff_mul_le (Nat.pow_pos (by decide))).2 ?_
  rw [← Nat.pow_add]
  simp only [List.length_append, List.length_singleton] at hk ⊢
  rw [show r.length + 1 - 1 - k + k = r.length by omega]
  exact h1
theorem tdiv_nat (a b : Nat) : (a : Int).tdiv (b : Int) = ((a / b : Nat) : Int) := by rw [Int.tdiv_eq_ediv_of_nonneg (by omega)]; simp
theorem cell_box (W : World) (v : Value) (t : TypeId) : (W.alloc (.cells #[v] t)).cell? ⟨W.heap.size, 0, none⟩ = some v := by rw [World.cell?_alloc_new]; rfl
theorem qg_made {w : World} {a b : Option Addr} {ca cb : Nat} {A B : List Nat} {least : Nat} {t1 t2 t3 : TypeId} (hva : CellsAt w a (ofN A)) (hvb : CellsAt w b (ofN B)) :
  QG ((((w.alloc (.cells #[.slice a A.length ca] t1)).alloc (.cells #[.int .i64 (least : Nat)] t2)).alloc (.cells #[.func (.func 170) #[.slice b B.length cb] #[]] t3)).drew) (w.heap.size + 1 + 1) (w.heap.size + 1) w.heap.size a b ca cb A B least ∧
  Below w.heap.size w ((((w.alloc (.cells #[.slice a A.length ca] t1)).alloc (.cells #[.int .i64 (least : Nat)] t2)).alloc (.cells #[.func (.func 170) #[.slice b B.length cb] #[]] t3)).drew) := by
 have b1 : Below w.heap.size w (w.alloc (.cells #[.slice a A.length ca] t1)) := (Below.refl _ _).alloc (Nat.le_refl _) _
 have c1 := cell_box w (.slice a A.length ca) t1
 have z1 : (w.alloc (.cells #[.slice a A.length ca] t1)).heap.size = w.heap.size + 1 := by simp
 generalize w.alloc (.cells #[.slice a A.length ca] t1) = w1 at *
 have b2 : Below w1.heap.size w1 (w1.alloc (.cells #[.int .i64 (least : Nat)] t2)) := (Below.refl _ _).alloc (Nat.le_refl _) _
 have c2 := cell_box w1 (.int .i64 (least : Nat)) t2
 have z2 : (w1.alloc (.cells #[.int .i64 (least : Nat)] t2)).heap.size = w1.heap.size + 1 := by simp
 generalize w1.alloc (.cells #[.int .i64 (least : Nat)] t2) = w2 at *
 have b3 : Below w2.heap.size w2 (w2.alloc (.cells #[.func (.func 170) #[.slice b B.length cb] #[]] t3)) := (Below.refl _ _).alloc (Nat.le_refl _) _
 have c3 := cell_box w2 (.func (.func 170) #[.slice b B.length cb] #[]) t3
 generalize w2.alloc (.cells #[.func (.func 170) #[.slice b B.length cb] #[]] t3) = w3 at *
 have b4 := belowVia b3 (belowVia b2 b1)
 have b5 : Below w2.heap.size w2 w3.drew := ⟨b3.os, b3.tape, b3.output, b3.size, b3.block⟩
 rw [z1] at c2
 rw [z2, z1] at c3
 refine ⟨⟨c3, keptBelow b5 c2, keptBelow b5 (keptBelow b2 c1), hva.via ⟨b4.os, b4.tape, b4.output, b4.size, b4.block⟩, hvb.via ⟨b4.os, b4.tape, b4.output, b4.size, b4.block⟩⟩, ⟨b4.os, b4.tape, b4.output, b4.size, b4.block⟩⟩
set_option maxRecDepth 100000 in
set_option maxHeartbeats 4000000 in
theorem group_any (A B : List Nat) (hA : DigB 10000 A) (hB : DigB 10000 B) (nA : Norm A) (nB : Norm B) (h0 : B ≠ []) (hlB : B.length ≤ 10000) (hlA : A.length ≤ B.length + 1) (hlt : leV 10000 A < 10000 * leV 10000 B) (a b : Option Addr) (ca cb : Nat) (hra : Room A.length ca) (hrb : Room B.length cb) (w : World) (hva : CellsAt w a (ofN A)) (hvb : CellsAt w b (ofN B)) :
  Calls Tryz.prog 169 #[.slice a A.length ca, .slice b B.length cb] w fun e w' => e = .returned (.int .i64 (leV 10000 A / leV 10000 B : Nat)) ∧ Below w.heap.size w w' := by
 have hlen0 : 0 < B.length := List.length_pos_iff.2 h0
 obtain ⟨cut, hcut⟩ : ∃ cut, cut = B.length - 2 := ⟨_, rfl⟩
 have hmax : max (0 : Int) ((B.length : Int) - 2) = (cut : Nat) := by omega
 have hp : 0 < 10000 ^ cut := Nat.pow_pos (by decide)
 have hdv := norm_pow nB h0 (k := cut) (by omega)
 have hd1 : 1 ≤ leV 10000 B / 10000 ^ cut := Nat.le_trans (Nat.pow_pos (by decide)) hdv
 have hd2 : 10000 ^ cut = 1 ∨ 10000 ≤ leV 10000 B / 10000 ^ cut := by
  rcases Nat.lt_or_ge B.length 3 with h | h
  ·have : cut = 0 := by omega
   rw [this]; exact .inl rfl
  ·rw [show B.length - 1 - cut = 1 by omega] at hdv
   exact .inr hdv
 have hmost := most_le hp hlt hd1 hd2
 obtain ⟨hb1, hb2⟩ := group_bounds (A := leV 10000 A) (B := leV 10000 B) hp hd1
 have huA := leV_drop' hA cut
 have huB := leV_drop' hB cut
 have hub : leV 10000 (A.drop cut) < 10000 ^ 3 := by
  have h1 : DigB 10000 (A.drop cut) := fun x hx => hA x (List.mem_of_mem_drop hx)
  have h2 := leV_lt h1
  have h3 : 10000 ^ (A.drop cut).length ≤ 10000 ^ 3 := Nat.pow_le_pow_right (by decide) (by simp; omega)
  omega
 have hvbd : leV 10000 (B.drop cut) < 10000 ^ 3 := by
  have h1 : DigB 10000 (B.drop cut) := fun x hx => hB x (List.mem_of_mem_drop hx)
  have h2 := leV_lt h1
  have h3 : 10000 ^ (B.drop cut).length ≤ 10000 ^ 3 := Nat.pow_le_pow_right (by decide) (by simp; omega)
  omega
 rw [← huA, ← huB] at hb1 hb2 hmost
 rw [← huB] at hd1
 have HBp : 0 < leV 10000 B := leV_pos (by decide) nB h0
 have HUA := Lib.hid (fun W hc => above_any A hA cut (by omega) (by omega) (by omega) a ca W hra hc)
 have HUB := Lib.hid (fun W hc => above_any B hB cut (by omega) (by omega) (by omega) b cb W hrb hc)
 have hbt1 : leV 10000 (A.drop cut) / (leV 10000 (B.drop cut) + 1) ≤ 10000 := by omega
 generalize leV 10000 (A.drop cut) = u at *
 generalize leV 10000 (B.drop cut) = d at *
 obtain ⟨least, hle⟩ : ∃ least, least = u / (d + 1) := ⟨_, rfl⟩
 obtain ⟨most, hmo⟩ : ∃ most, most = u / d := ⟨_, rfl⟩
 rw [← hle] at hb1 hbt1
 rw [← hmo] at hb2 hmost
 have hq1 : IntKind.i64.wrap ((d : Int) + 1) = ((d + 1 : Nat) : Int) := by rw [IntKind.wrap_i64]; omega
 have hq2 : (u : Int).tdiv ((d + 1 : Nat) : Int) = (least : Nat) := by rw [hle]; exact tdiv_nat u (d + 1)
 have hq3 : (u : Int).tdiv (d : Int) = (most : Nat) := by rw [hmo]; exact tdiv_nat u d
 have hq4 : IntKind.i64.wrap ((most : Int) - least) = ((most - least : Nat) : Int) := by rw [IntKind.wrap_i64]; omega
 have hS : Hid (∀ (bM bL bA : Nat) (W0 : World), QG W0 bM bL bA a b ca cb A B least → ∀ W, Below W0.heap.size W0 W → Calls Tryz.prog 181 #[.int .i64 ((most - least : Nat) : Int), .func (.func 182) #[] #[.pointer (some ⟨bM, 0, none⟩), .pointer (some ⟨bL, 0, none⟩), .pointer (some ⟨bA, 0, none⟩)]] W fun e w' => ∃ r : Nat, e = .returned (.int .i64 r) ∧ least + r = leV 10000 A / leV 10000 B ∧ Below W0.heap.size W0 w') := by
  intro bM bL bA W0 hq W hbel
  refine (search_any (g := 182) (enters_of Tryz.func182 (by kernel_rfl) rfl) (most - least) (by omega) (fun m => decide (leV 10000 A < leV 10000 B * (least + m + 1))) (fun W => Below W0.heap.size W0 W) W hbel (fun h W1 hh hI => ?_)).mono ?_
  ·exact (group1_any A B hA hB nA (by omega) (by omega) bM bL bA a b ca cb hra least h (by omega) W1 (hq.via hI)).mono fun e w' ⟨h1, h2⟩ => ⟨h1, belowVia h2 hI⟩
  ·rintro e w' ⟨r, h1, h2, h3⟩
   exact ⟨r, h1, group_found HBp hb1 hb2 h2, h3⟩
 obtain ⟨Q, hQ⟩ : ∃ Q, Q = leV 10000 A / leV 10000 B := ⟨_, rfl⟩
 have hQb : Q ≤ 10000 := by omega
 rw [← hQ] at hS ⊢
 have HVA := Lib.hid hva
 have HVB := Lib.hid hvb
 have hub' : (u : Int) < 1000000000000 := by omega
 have hdb' : (d : Int) < 1000000000000 := by omega
 have hdne : (d : Int) ≠ 0 := by omega
 have hdn2 : ((d : Int) == 0) = false := by simpa using hdne
 have hd1n : ((d + 1 : Nat) : Int) ≠ 0 := by omega
 have hd1e : (((d + 1 : Nat) : Int) == 0) = false := by simpa using hd1n
 have hlBb : (B.length : Int) ≤ 10000 := by omega
 have hcb : (cut : Int) ≤ 10000 := by omega
 have hmb' : (most : Int) ≤ 10000 := by omega
 have hlb' : (least : Int) ≤ 10000 := by omega
 generalize hs1 : d + 1 = d1 at *
 clear hA hB nA nB h0 hlB hlA hlt hra hrb hva hvb hcut hp hdv hd1 hd2 hmost hb1 hb2 huA huB hub hvbd HBp hbt1 hle hmo hlen0 hs1 hQ
 go_enter Tryz.func169, Tryz.ntmps169
 go_wp2_with fail
 refine (HUA.out _ ((HVA.out).via ((Below.refl _ _).alloc (Nat.le_refl _) _))).mono ?_
 rintro e w1 ⟨rfl, rfl⟩
 go_wp2_with fail
 refine (HUB.out _ ((HVB.out).via ((Below.refl _ _).alloc (Nat.le_refl _) _))).mono ?_
 rintro e w1 ⟨rfl, rfl⟩
 go_wp2_with fail
 go_region
 go_wp2_with fail
 have hW := qg_made (ca := ca) (cb := cb) (least := least) (t1 := 135) (t2 := 3) (t3 := 192) HVA.out HVB.out
 generalize World.drew _ = W4 at hW ⊢
 have hcl := hW.1.hl
 have HQG := Lib.hid hW.1
 have HBW := Lib.hid hW.2
 have HSR := Lib.hid (hS.out _ _ _ W4 HQG.out)
 clear hW
 go_region_held3 (fun w' => w'.cell? ⟨w.heap.size + 1, 0, none⟩ = some (.int .i64 (least : Nat))) (first | exact hcl | exact keptBelow hB5 hcl) (first
  | (go_at_call 181; (with_reducible refine (HSR.out _ ?_).mono ?_); exact (Below.refl _ _).drew; rintro e w5 ⟨r, rfl, hr, hB5⟩))
 have hwr : IntKind.i64.wrap ((least : Int) + r) = (Q : Nat) := by rw [IntKind.wrap_i64]; omega
 rw [hwr]
 go_wp2_with fail
 go_ret
 exact ⟨rfl, belowVia hB5 HBW.out⟩
end Go.Proofs.YtofmjkgaaphnkaaGreatDoor
/- IntDivPure: Plain mathematics of the long division, and what a step of it does to memory. -/
namespace Go.Proofs.YtofmjkgaaphnkaaGreatDoor
open Go.RowKit Putlog

/-- The long division before index k - 1. -/
structure DivAt (A B : List Nat) (n k : Nat) (Q R : List Nat) : Prop where
 qlen : Q.length = n
 qdig : DigB 10000 Q
 qz : ∀ j, j < k → Q.getD j 0 = 0
 rdig : DigB 10000 R
 rlen : R.length ≤ A.length
 kr : k ≤ R.length + 1
 val : leV 10000 A = leV 10000 Q * leV 10000 B + leV 10000 R
 lt : leV 10000 R < leV 10000 B * 10000 ^ k
 nrm : k = 0 → Norm R
theorem digB_zeros (n : Nat) : DigB 10000 (List.replicate n 0) := fun x hx => by
 obtain ⟨_, rfl⟩ := List.mem_replicate.1 hx
 decide
theorem DivAt.start {A B : List Nat} (hA : DigB 10000 A) (nB : Norm B) (h0 : B ≠ []) (hl : B.length ≤ A.length) : DivAt A B (A.length - B.length + 1) (A.length - B.length + 1) (List.replicate (A.length - B.length + 1) 0) A := by
 have hlen0 : 0 < B.length := List.length_pos_iff.2 h0
 refine ⟨List.length_replicate, digB_zeros _, fun j hj => by simp [List.getD_eq_getElem?_getD, hj], hA, Nat.le_refl _, by omega, by rw [leV_zeros]; simp, ?_, fun h => by omega⟩
 have h1 := leV_lt hA
 rcases norm_cases B with h | ⟨r, x, rfl⟩
 ·exact absurd h h0
 ·have h2 := norm_ge (B := 10000) (by decide) nB
  simp only [List.length_append, List.length_singleton] at hl ⊢
  have h3 : 10000 ^ A.length = 10000 ^ r.length * 10000 ^ (A.length - (r.length + 1) + 1) := by rw [← Nat.pow_add]; congr 1; omega
  have h4 := Nat.mul_le_mul_right (10000 ^ (A.length - (r.length + 1) + 1)) h2
  omega
theorem DivAt.upper {A B : List Nat} {n i : Nat} {Q R : List Nat} (h : DivAt A B n (i + 1) Q R) : trimL (R.drop i) = digsL 10000 (leV 10000 R / 10000 ^ i) ∧ leV 10000 R / 10000 ^ i < 10000 * leV 10000 B := by
 have h1 : DigB 10000 (R.drop i) := fun x hx => h.rdig x (List.mem_of_mem_drop hx)
 constructor
 ·rw [← leV_drop' h.rdig i, ← trimL_val, digsL_leV (by decide) (trimL_dig h1) (trimL_norm _)]
 ·refine (Nat.div_lt_iff_lt_mul (Nat.pow_pos (by decide))).2 ?_
  have := h.lt
  rw [Nat.pow_succ] at this
  rw [Nat.mul_assoc, Nat.mul_comm 10000, Nat.mul_assoc]; exact this
theorem DivAt.step {A B : List Nat} {n i : Nat} {Q R : List Nat} (h : DivAt A B n (i + 1) Q R) (hb : 0 < leV 10000 B) (hi : i < n) :
  DivAt A B n i (Q.set i (leV 10000 R / 10000 ^ i / leV 10000 B)) (R.take i ++ digsL 10000 (leV 10000 R / 10000 ^ i % leV 10000 B)) := by
 have hp : 0 < 10000 ^ i := Nat.pow_pos (by decide)
 obtain ⟨h1, h2, h3⟩ := long_step hp hb (by have := h.lt; rw [Nat.pow_succ] at this; exact this)
 have hir : i ≤ R.length := by have := h.kr; omega
 have htl : (R.take i).length = i := by simp; omega
 have hv : leV 10000 (R.take i ++ digsL 10000 (leV 10000 R / 10000 ^ i % leV 10000 B)) = leV 10000 R % 10000 ^ i + 10000 ^ i * (leV 10000 R / 10000 ^ i % leV 10000 B) := by
  rw [leV_append, htl, leV_digsL (by decide), leV_take (by decide) h.rdig i hir]
 have hU := leV_drop' h.rdig i
 have hUlt : leV 10000 (R.drop i) < 10000 ^ (R.drop i).length := leV_lt (fun x hx => h.rdig x (List.mem_of_mem_drop hx))
 have hml : (digsL 10000 (leV 10000 R / 10000 ^ i % leV 10000 B)).length ≤ R.length - i := by
  refine digsL_len_le (Nat.lt_of_le_of_lt (Nat.mod_le _ _) ?_)
  rw [← hU]; simpa using hUlt
 refine ⟨by rw [List.length_set]; exact h.qlen, fun x hx => ?_, fun j hj => ?_, ?_, ?_, ?_, ?_, ?_, fun e => ?_⟩
 ·rcases List.mem_or_eq_of_mem_set hx with hx | hx
  ·exact h.qdig x hx
  ·rw [hx]; exact h1
 ·rw [List.getD_eq_getElem?_getD, List.getElem?_set, if_neg (by omega), ← List.getD_eq_getElem?_getD]
  exact h.qz j (by omega)
 ·exact DigB.append (fun x hx => h.rdig x (List.mem_of_mem_take hx)) (digsL_dig (by decide) _)
 ·rw [List.length_append, htl]; have := h.rlen; omega
 ·rw [List.length_append, htl]; omega
 ·rw [hv, leV_set 10000 Q i _ (by rw [h.qlen]; exact hi) (h.qz i (by omega)), Nat.add_mul]
  have := h.val
  omega
 ·rw [hv]; exact h3
 ·subst e
  rw [List.take_zero, List.nil_append]
  exact digsL_norm (by decide) _
theorem DivAt.done {A B : List Nat} {n : Nat} {Q R : List Nat} (h : DivAt A B n 0 Q R) (hb : 0 < leV 10000 B) : trimL Q = digsL 10000 (leV 10000 A / leV 10000 B) ∧ R = digsL 10000 (leV 10000 A % leV 10000 B) := by
 have h1 : leV 10000 R < leV 10000 B := by have := h.lt; simpa using this
 have h2 := h.val
 have h3 : leV 10000 A / leV 10000 B = leV 10000 Q := by
  rw [h2, Nat.add_comm, Nat.add_mul_div_right _ _ hb, Nat.div_eq_of_lt h1, Nat.zero_add]
 have h4 : leV 10000 A % leV 10000 B = leV 10000 R := by
  rw [h2, Nat.add_comm, Nat.add_mul_mod_self_right, Nat.mod_eq_of_lt h1]
 constructor
 ·rw [h3, ← trimL_val 10000 Q, digsL_leV (by decide) (trimL_dig h.qdig) (trimL_norm _)]
 ·rw [h4, digsL_leV (by decide) h.rdig (h.nrm rfl)]

theorem RowAt.grown {w w' : World} {g gr : Nat} {C : List Int} (h : RowAt w g C) (hg : w.grownBy w' (some gr)) (hne : g ≠ gr) : RowAt w' g C := fun j hj => by
 obtain ⟨h1, h2⟩ := h j hj
 have hlt := lt_of_cell h1
 have h3 := hg.block g hlt (fun e => hne (Option.some.inj e))
 exact ⟨by rw [← h1]; simp only [World.cell?, h3], by rw [← h2]; simp only [World.frozen?, h3]⟩
theorem undrew {w w' : World} (h : Below w.drew.heap.size w.drew w') : Below w.heap.size w w' := ⟨h.os, h.tape, h.output, h.size, h.block⟩
theorem owns_take {w : World} {base g c : Nat} {R : List Nat} (h : w.ownsRow base 3 1 (.slice (some ⟨g, 0, none⟩) R.length c) R.length (i64l R)) {k : Nat} (hk : k ≤ R.length) : w.ownsRow base 3 1 (.slice (some ⟨g, 0, none⟩) k c) k (i64l (R.take k)) := by
 obtain ⟨h1, h2⟩ := h
 have hlen : (i64l (R.take k)).length = k * 1 := by rw [i64l_len]; simp; omega
 refine ⟨hlen, ?_⟩
 rcases h2 with ⟨h2, _⟩ | ⟨g', cap, cur, hv, hg, hh, h3, h4, h5, h6⟩
 ·cases h2
 ·cases hv
  refine .inr ⟨g, c, cur, rfl, hg, hh, by omega, h4, h5, ?_⟩
  rw [Nat.mul_one] at h6 ⊢
  have : i64l (R.take k) = (i64l R).take k := by simp [i64l]
  rw [this, ← h6, List.take_take, Nat.min_eq_left hk]
theorem owns_cells {w : World} {base g c : Nat} {R : List Nat} (h : w.ownsRow base 3 1 (.slice (some ⟨g, 0, none⟩) R.length c) R.length (i64l R)) : ∀ j, j < R.length → w.cell? ⟨g, j, none⟩ = some (.int .i64 (R.getD j 0 : Nat)) := fun j hj => by
 obtain ⟨g', c', h1, _, _, h2⟩ := mag_of_owns h (by omega)
 cases h1
 exact h2 j hj
theorem owns_lt {w : World} {base g c : Nat} {R : List Nat} (h : w.ownsRow base 3 1 (.slice (some ⟨g, 0, none⟩) R.length c) R.length (i64l R)) : g < w.heap.size := by
 obtain ⟨_, ⟨h2, _⟩ | ⟨g', cap, cur, hv, hg, hh, _⟩⟩ := h
 ·cases h2
 ·cases hv; exact lt_of_block hh
theorem owns_cap {w : World} {base g c : Nat} {R : List Nat} (h : w.ownsRow base 3 1 (.slice (some ⟨g, 0, none⟩) R.length c) R.length (i64l R)) : Room R.length c ∧ base ≤ g := by
 obtain ⟨_, ⟨h2, _⟩ | ⟨g', cap, cur, hv, hg, hh, h3, h4, _⟩⟩ := h
 ·cases h2
 ·cases hv; exact ⟨⟨h3, by unfold maxLen at h4; omega⟩, hg⟩
/-- append within the capacity, as one step of a region. -/
theorem step_append_fits {P : Program} {ops : Array Oper} {o : Oper} {a : Act} {w : World} {K : Act → World → Prop} {Q : Exit → Act → World → Prop} {E : Prop}
  (hg : o.guard = none) (s x : Operand) (t : TypeId) (hop : o.op = Op.call { callee := Callee.builtin Builtin.append, args := #[s, x], argTypes := #[t, t] })
  (base : Nat) (e : TypeId) (i : TypeInfo) (size : Nat) (h1 : P.underlying t = some (.slice e)) (h2 : P.info? e = some i) (h4 : i.size = size)
  (g k cap : Nat) (xs : List Value) (hs : a.eval s = .slice (some ⟨g, 0, none⟩) k cap) (hown : w.ownsRow base e size (.slice (some ⟨g, 0, none⟩) k cap) k xs) (ad : Addr) (m c : Nat) (news : List Value) (hx : a.eval x = .slice (some ad) m c) (hn : news.length = m * size)
  (hc : ∀ j u, news[j]? = some u → w.cell? (ad.add j) = some u) (h1c : ∀ u ∈ news, u.oneCell' = true) (b1 : k + m ≤ cap)
  (hK : ∀ w', w'.ownsRow base e size (.slice (some ⟨g, 0, none⟩) (k + m) cap) (k + m) (xs ++ news) → w.grownBy w' (some g) → K (a.put o.dst (.slice (some ⟨g, 0, none⟩) (k + m) cap)) w') :
  if Region.wanted o (yielded ops a.tmps) = true then Oper.wp P o a w K Q else E := by
 have hw : Region.wanted o (yielded ops a.tmps) = true := by simp [Region.wanted, hg]
 rw [if_pos hw]
 obtain ⟨w', hrun, r1, r2⟩ := run_append_fits (P := P) w base t o.type e i size h1 h2 h4 g k cap xs hown ad m c news hn hc h1c b1
 unfold Oper.wp
 simp [execOp, hop, resolve, invoke, builtin, hs, hx, hrun, Result.andThen]
 exact hK w' r1 r2
theorem slice_hiI (a : Option Addr) (n c k : Nat) (hk : k ≤ c) (hs : a = none ∧ c = 0 ∨ ∃ g, a = some ⟨g, 0, none⟩) (w : World) :
  (Instr.slice 135 (.slice a n c) none (some (.int .i64 (k : Nat))) none).run Tryz.prog w = .ok (.slice a k c) w := by
 have ht : Tryz.prog.underlying 135 = some (.slice (Tryz.prog.elem 135)) := by kernel_rfl
 have hz : (sizeOf (Tryz.prog.elem 135)).run Tryz.prog w = .ok 1 w := by kernel_rfl
 rw [run_slice_h w 135 a n c ht .i64 k (by omega) (by omega), hz]
 simp only [Result.andThen, sliced, Int.toNat_natCast, Nat.sub_zero]
 rcases hs with ⟨rfl, rfl⟩ | ⟨g, rfl⟩
 ·simp
 ·split <;> simp [Addr.add]
end Go.Proofs.YtofmjkgaaphnkaaGreatDoor
/- IntDiv: The contract of the long division of magnitudes. -/
namespace Go.Proofs.YtofmjkgaaphnkaaGreatDoor
open Go.RowKit Putlog

theorem slice_loI (g n c i : Nat) (hi : i ≤ n) : ∃ a : Option Addr, (c ≠ i → a = some ⟨g, i, none⟩) ∧ ∀ w, (Instr.slice 135 (.slice (some ⟨g, 0, none⟩) n c) (some (.int .i64 (i : Nat))) none none).run Tryz.prog w = .ok (.slice a (n - i) (c - i)) w := by
 refine ⟨if c = i then some ⟨g, 0, none⟩ else some ⟨g, i, none⟩, fun h => if_neg h, fun w => ?_⟩
 have ht : Tryz.prog.underlying 135 = some (.slice (Tryz.prog.elem 135)) := by kernel_rfl
 have hz : (sizeOf (Tryz.prog.elem 135)).run Tryz.prog w = .ok 1 w := by kernel_rfl
 rw [run_slice_l w 135 (some ⟨g, 0, none⟩) n c ht .i64 i (by omega) (by omega), hz]
 simp only [Result.andThen, sliced, Int.toNat_natCast]
 split <;> simp [Addr.add]
 omega
/-- The uppermost groups of the rest. -/
theorem upper_cells {w : World} {base g c i : Nat} {a : Option Addr} {R : List Nat} (h : w.ownsRow base 3 1 (.slice (some ⟨g, 0, none⟩) R.length c) R.length (i64l R)) (hi : i ≤ R.length) (ha : c ≠ i → a = some ⟨g, i, none⟩) : CellsAt w a (ofN (R.drop i)) ∧ Room (R.drop i).length (c - i) := by
 obtain ⟨⟨h1, h2⟩, _⟩ := owns_cap h
 have hl : (R.drop i).length = R.length - i := by simp
 constructor
 ·rcases Nat.lt_or_ge i R.length with h3 | h3
  ·refine .inr ⟨g, i, ha (by omega), fun j hj => ?_⟩
   rw [ofN_len, hl] at hj
   rw [owns_cells h (i + j) (by omega), ofN_get]
   simp [List.getD_eq_getElem?_getD]
  ·refine .inl ?_
   rw [List.drop_of_length_le (by omega)]; rfl
 ·rw [hl]; exact ⟨by omega, by omega⟩
theorem cells_trim {w : World} {a : Option Addr} {l : List Nat} (h : CellsAt w a (ofN l)) : CellsAt w a (ofN (trimL l)) := by
 have h1 := trimL_le l
 rcases Nat.eq_zero_or_pos (trimL l).length with h0 | h0
 ·exact .inl (List.length_eq_zero_iff.1 (by rw [ofN_len]; exact h0))
 ·obtain ⟨g, o, rfl, h2⟩ := cells_get h (k := 0) (by omega)
  refine .inr ⟨g, o, rfl, fun j hj => ?_⟩
  rw [ofN_len] at hj
  rw [h2 j (by omega), ofN_get]
  conv => rhs; rw [trimL_take l, take_getD l hj]
theorem mag_of_owns2 {w : World} {base g c : Nat} {l : List Nat} (h : w.ownsRow base 3 1 (.slice (some ⟨g, 0, none⟩) l.length c) l.length (i64l l)) : ∃ g' c', (.slice (some ⟨g, 0, none⟩) l.length c : Value) = .slice (some ⟨g', 0, none⟩) l.length c' ∧ base ≤ g' ∧ Room l.length c' ∧ CellsAt w (some ⟨g', 0, none⟩) (ofN l) := by
 obtain ⟨h1, h2⟩ := owns_cap h
 refine ⟨g, c, rfl, h2, h1, ?_⟩
 rcases Nat.eq_zero_or_pos l.length with h0 | h0
 ·exact .inl (List.length_eq_zero_iff.1 (by rw [ofN_len]; exact h0))
 ·exact .inr ⟨g, 0, rfl, fun j hj => by rw [Nat.zero_add, ofN_get]; rw [ofN_len] at hj; exact owns_cells h j hj⟩
theorem cells_set_other {w : World} {a : Option Addr} {l : List Int} {gq i : Nat} {v : Value} (h : CellsAt w a l) (hne : l ≠ [] → ∃ g o, a = some ⟨g, o, none⟩ ∧ g ≠ gq) : CellsAt (w.setCell ⟨gq, i, none⟩ v) a l := by
 rcases h with h | ⟨g, o, h1, h2⟩
 ·exact .inl h
 ·by_cases h0 : l = []
  ·exact .inl h0
  ·obtain ⟨g', o', h3, h4⟩ := hne h0
   rw [h1] at h3
   cases h3
   exact .inr ⟨g, o, h1, fun j hj => by rw [World.cell?_setCell_other _ _ _ _ (fun e => h4 (congrArg Addr.block e).symm)]; exact h2 j hj⟩
theorem cell_grown {w w' : World} {g gr i : Nat} {v : Value} (h : w.cell? ⟨g, i, none⟩ = some v) (hg : w.grownBy w' (some gr)) (hne : g ≠ gr) : w'.cell? ⟨g, i, none⟩ = some v := by
 have h3 := hg.block g (lt_of_cell h) (fun e => hne (Option.some.inj e))
 rw [← h]; simp only [World.cell?, h3]
theorem cells_new {w : World} {g : Nat} {l : List Nat} (h : CellsAt w (some ⟨g, 0, none⟩) (ofN l)) : ∀ j u, (i64l l)[j]? = some u → w.cell? ((⟨g, 0, none⟩ : Addr).add j) = some u := by
 intro j u hj
 have hjl : j < l.length := by have := (List.getElem?_eq_some_iff.1 hj).1; simpa [i64l] using this
 obtain ⟨g', o, h1, h2⟩ := cells_get h hjl
 cases h1
 rw [Addr.add_lit, h2 j hjl]
 rw [i64l_get hjl] at hj
 exact hj
theorem row_ofN_set {w : World} {g : Nat} {Q : List Nat} {i q : Nat} (h : RowAt w g (ofN Q)) (hi : i < Q.length) : RowAt (w.setCell ⟨g, i, none⟩ (.int .i64 (q : Nat))) g (ofN (Q.set i q)) := by
 have := h.set i (by rw [ofN_len]; exact hi) (q : Int)
 have e : ofN (Q.set i q) = (ofN Q).set i (q : Int) := by simp [ofN, List.map_set]
 rw [e]; exact this
/-- The contract of a multiple and of a difference, their results by their cells. -/
theorem scaled_at (B : List Nat) (f : Nat) (hB : DigB 10000 B) (hf : f ≤ 10000) (hl : B.length ≤ 20000) (b : Option Addr) (cb : Nat) (W : World) (hv : CellsAt W b (ofN B)) :
  Calls Tryz.prog 170 #[.slice b B.length cb, .int .i64 f] W fun e w' => (∃ g c, e = .returned (.slice (some ⟨g, 0, none⟩) (digsL 10000 (leV 10000 B * f)).length c) ∧ Room (digsL 10000 (leV 10000 B * f)).length c ∧ CellsAt w' (some ⟨g, 0, none⟩) (ofN (digsL 10000 (leV 10000 B * f)))) ∧ Below W.heap.size W w' :=
 (scaled_any B f hB hf (by omega) b cb W hv).mono fun e w' ⟨⟨v, h1, hn⟩, hb⟩ => by
  obtain ⟨a', c', h2, h3, h4⟩ := hn.mag
  obtain ⟨g, c, rfl, _⟩ := hn
  cases h2
  exact ⟨⟨g, _, h1, h3, h4⟩, hb⟩
theorem minus_at (A B : List Nat) (hA : DigB 10000 A) (hB : DigB 10000 B) (hlA : A.length ≤ 30000) (hlen : B.length ≤ A.length) (hle : leV 10000 B ≤ leV 10000 A) (a b : Option Addr) (ca cb : Nat) (W : World)
  (hra : Room A.length ca) (hrb : Room B.length cb) (hva : CellsAt W a (ofN A)) (hvb : CellsAt W b (ofN B)) :
  Calls Tryz.prog 142 #[.slice a A.length ca, .slice b B.length cb] W fun e w' => (∃ g c, e = .returned (.slice (some ⟨g, 0, none⟩) (digsL 10000 (leV 10000 A - leV 10000 B)).length c) ∧ Room (digsL 10000 (leV 10000 A - leV 10000 B)).length c ∧ CellsAt w' (some ⟨g, 0, none⟩) (ofN (digsL 10000 (leV 10000 A - leV 10000 B)))) ∧ Below W.heap.size W w' :=
 (minus_any A B hA hB hlA hlen hle a b ca cb W hra hrb hva hvb).mono fun e w' ⟨⟨v, h1, hn⟩, hb⟩ => by
  obtain ⟨a', c', h2, h3, h4⟩ := hn.mag
  obtain ⟨g, c, rfl, _⟩ := hn
  cases h2
  exact ⟨⟨g, _, h1, h3, h4⟩, hb⟩
set_option maxRecDepth 100000 in
set_option maxHeartbeats 8000000 in
theorem div_ge (A B : List Nat) (hA : DigB 10000 A) (hB : DigB 10000 B) (nA : Norm A) (nB : Norm B) (h0 : B ≠ []) (hlA : A.length ≤ 5000) (hlen : B.length ≤ A.length) (a b : Option Addr) (ca cb : Nat) (w : World)
  (hra : Room A.length ca) (hrb : Room B.length cb) (hva : CellsAt w a (ofN A)) (hvb : CellsAt w b (ofN B)) :
  Calls Tryz.prog 153 #[.slice a A.length ca, .slice b B.length cb] w fun e w' => (∃ v u, e = .returned (.tuple #[v, u]) ∧ MagAt w' v (digsL 10000 (leV 10000 A / leV 10000 B)) ∧ MagAt w' u (digsL 10000 (leV 10000 A % leV 10000 B))) ∧ Below w.heap.size w w' := by
 have hlen0 : 0 < B.length := List.length_pos_iff.2 h0
 obtain ⟨i0, hi0, hz0, hz1, hz2⟩ := info_parts info_int
 have HI0 := Lib.hid hi0
 have HZ0 := Lib.hid hz0
 have HZ1 := Lib.hid hz1
 have HZ2 := Lib.hid hz2
 have HBp := Lib.hid (leV_pos (B := 10000) (by decide) nB h0)
 have HST := Lib.hid (DivAt.start hA nB h0 hlen)
 have HDB := Lib.hid hB
 have HNB := Lib.hid nB
 have HB0 := Lib.hid h0
 have HVB := Lib.hid hvb
 have HRB := Lib.hid hrb
 have hra1 := hra.1
 have hrb1 := hrb.1
 have HCL := Lib.hid (clone_any A (by omega) a ca w hva)
 have hlA' : (A.length : Int) ≤ 5000 := by omega
 have hlen' : (B.length : Int) ≤ A.length := by omega
 have HLB : Hid (B.length ≤ 5000) := by show _ ≤ _; omega
 have HLA : Hid (A.length ≤ 5000) := hlA
 have HLE : Hid (B.length ≤ A.length) := hlen
 have HA0 : Hid (0 < A.length) := by show _ < _; omega
 have HNA := Lib.hid nA
 obtain ⟨n, hn⟩ : ∃ n, n = A.length - B.length + 1 := ⟨_, rfl⟩
 have hmax : max (0 : Int) ((A.length : Int) - B.length + 1) = (n : Nat) := by omega
 have hnb : (n : Int) ≤ 5001 := by omega
 have hni : (A.length : Int) - B.length = (n : Nat) - 1 := by omega
 have hn1 : (1 : Int) ≤ n := by omega
 rw [← hn] at HST
 clear hi0 hz0 hz1 hz2 hA hB nA nB h0 hlA hlen hra hrb hva hvb hlen0 hn
 go_enter Tryz.func153, Tryz.ntmps153
 go_wp2_with fail
 refine HCL.out.mono ?_
 rintro e w1 ⟨⟨v, rfl, hown⟩, hB1⟩
 obtain ⟨gr, cr, rfl, _⟩ := mag_of_owns hown HA0.out
 have hgr := owns_lt hown
 have HO := Lib.hid hown
 have HB1 := Lib.hid hB1
 have HGR := Lib.hid hgr
 clear hown hB1 hgr HCL
 go_wp2_with (at_make; go_must (refine wpList_make_full _ rfl _ _ 135 rfl w1.heap.size 3 i0 (.int .i64 0) 1 Tryz.underlying135 HI0.out HZ0.out HZ1.out .i64 .i64 (n : Int) (n : Int) n rfl rfl rfl rfl (by rw [HZ2.out]; omega) (by unfold maxLen; omega) (Nat.le_refl _) ?_); intro w2 hown2 hgrow2; have HC2 := Lib.hid (cols_made hown2); have HO2 := Lib.hid (ownsRow_below HO.out (belowMade hgrow2)); have HB2 := Lib.hid (belowVia (belowMade hgrow2) HB1.out); clear hown2 hgrow2)
 have hgq : w1.heap.size ≠ gr := by have := HGR.out; omega
 have HGQ := Lib.hid hgq
 have HBS := Lib.hid HB1.out.size
 have HC3 : Hid (RowAt w2 w1.heap.size (ofN (List.replicate n 0))) := by
  show RowAt _ _ _
  obtain ⟨g, _, hge, hrow⟩ := HC2.out.at (k := 0) (by rw [List.length_replicate]; omega)
  cases hge
  simpa [ofN] using hrow
 generalize w1.heap.size = gq at *
 clear hgq HC2 HO HB1 HGR
 go_loopw [6, 8] (fun v i wr => ∃ (k : Nat) (Q R : List Nat), k ≤ n ∧ i = .int .i64 ((k : Int) - 1) ∧ v = .slice (some ⟨gr, 0, none⟩) R.length cr ∧ DivAt A B n k Q R ∧ wr.ownsRow w.heap.size 3 1 (.slice (some ⟨gr, 0, none⟩) R.length cr) R.length (i64l R) ∧ RowAt wr gq (ofN Q) ∧ Below w.heap.size w wr) (fun _ i _ => (1 + intOf i).toNat)
 case atStart => exact ⟨n, _, A, Nat.le_refl _, rfl, rfl, HST.out, HO2.out, HC3.out, HB2.out⟩
 case round =>
  clear HST HO2 HC3 HB2 hmax hni hlA' hlen' HNA HA0
  obtain ⟨k, Q, R, hk, rfl, rfl, hdiv, hown, hrow, hB⟩ := hrel
  have HD := Lib.hid hdiv
  have HO := Lib.hid hown
  have HQ := Lib.hid hrow
  have HB := Lib.hid hB
  clear hdiv hown hrow hB
  rcases Nat.eq_zero_or_pos k with rfl | hk0
  ·have hTR := trimmed_any Q (by rw [HD.out.qlen]; omega) (some ⟨gq, 0, none⟩) n wr (by rw [HD.out.qlen]; exact ⟨Nat.le_refl _, by omega⟩) HQ.out.cells
   rw [HD.out.qlen] at hTR
   obtain ⟨e1, e2⟩ := HD.out.done HBp.out
   have HTR := Lib.hid hTR
   have HE1 := Lib.hid e1
   have HE2 := Lib.hid e2
   clear hTR e1 e2
   go_wp2_with fail
   refine HTR.out.mono ?_
   rintro e w3 ⟨rfl, rfl⟩
   go_wp2_with fail
   go_ret2
   refine ⟨⟨_, _, rfl, ?_, ?_⟩, HB.out⟩
   ·rw [← HE1.out]
    refine ⟨_, _, rfl, ⟨?_, ?_⟩, cells_trim HQ.out.cells⟩
    ·have := trimL_le Q; rw [HD.out.qlen] at this; exact this
    ·omega
   ·rw [← HE2.out]
    obtain ⟨g', c', h1, h2, h3, h4⟩ := mag_of_owns2 HO.out
    exact ⟨_, _, h1, h3, h4⟩
  ·obtain ⟨i, rfl⟩ : ∃ i, k = i + 1 := ⟨k - 1, by omega⟩
   have hqe : ((i + 1 : Nat) : Int) - 1 = i := by omega
   rw [hqe]
   have hin : i < n := by omega
   have hir : i ≤ R.length := by have := HD.out.kr; omega
   have hRl : R.length ≤ 5000 := by have := HD.out.rlen; have := HLA.out; omega
   obtain ⟨hcap, _⟩ := owns_cap HO.out
   obtain ⟨au, hau, hslice⟩ := slice_loI gr R.length cr i hir
   have hslice2 := slice_hiI (some ⟨gr, 0, none⟩) R.length cr i (by have := hcap.1; omega) (.inr ⟨gr, rfl⟩)
   obtain ⟨hcu, hru⟩ := upper_cells HO.out hir hau
   have hlu : (R.drop i).length = R.length - i := by simp
   have hTR := trimmed_any (R.drop i) (by omega) au (cr - i) wr hru hcu
   obtain ⟨hdu, hlt⟩ := HD.out.upper
   have hcu2 := cells_trim hcu
   have hru2 : Room (trimL (R.drop i)).length (cr - i) := ⟨by have := trimL_le (R.drop i); have := hru.1; omega, hru.2⟩
   have hstep := HD.out.step HBp.out hin
   rw [hdu] at hTR hcu2 hru2
   rw [hlu] at hTR
   obtain ⟨U, hU⟩ : ∃ U, U = leV 10000 R / 10000 ^ i := ⟨_, rfl⟩
   rw [← hU] at hTR hcu2 hru2 hlt hstep
   have hBd := leV_lt HDB.out
   have hDl : (digsL 10000 U).length ≤ B.length + 1 := digsL_len_le (by rw [Nat.pow_succ]; omega)
   have hG := group_any (digsL 10000 U) B (digsL_dig (by decide) _) HDB.out (digsL_norm (by decide) _) HNB.out HB0.out (by have := HLB.out; omega) hDl (by rw [leV_digsL (by decide)]; exact hlt) au b (cr - i) cb hru2 HRB.out wr hcu2 (HVB.out.via HB.out)
   rw [leV_digsL (by decide)] at hG
   have hq : U / leV 10000 B < 10000 := (Nat.div_lt_iff_lt_mul HBp.out).2 hlt
   have hSC := fun W hc => scaled_at B (U / leV 10000 B) HDB.out (by omega) (by have := HLB.out; omega) b cb W hc
   have hbq : leV 10000 B * (U / leV 10000 B) ≤ U := Nat.mul_div_le _ _
   have hmod : U - leV 10000 B * (U / leV 10000 B) = U % leV 10000 B := by have := Nat.div_add_mod U (leV 10000 B); omega
   have hMI := fun W g c hva hr hc => minus_at (digsL 10000 U) (digsL 10000 (leV 10000 B * (U / leV 10000 B))) (digsL_dig (by decide) _) (digsL_dig (by decide) _) (by have := HLB.out; omega)
    (digsL_len_le (Nat.lt_of_le_of_lt hbq (by have := leV_lt (digsL_dig (B := 10000) (by decide) U); rwa [leV_digsL (by decide)] at this))) (by rw [leV_digsL (by decide), leV_digsL (by decide)]; exact hbq) au (some ⟨g, 0, none⟩) (cr - i) c W hru2 hr hva hc
   simp only [leV_digsL (B := 10000) (by decide)] at hMI
   rw [hmod] at hMI
   have hml : (digsL 10000 (U % leV 10000 B)).length ≤ R.length - i := by
    have h1 := hstep.rlen
    have h2 : (R.take i).length = i := by simp; omega
    refine digsL_len_le (Nat.lt_of_le_of_lt (Nat.mod_le _ _) ?_)
    have h3 : leV 10000 (R.drop i) < 10000 ^ (R.drop i).length := leV_lt (fun x hx => HD.out.rdig x (List.mem_of_mem_drop hx))
    rw [leV_drop' HD.out.rdig i, ← hU, hlu] at h3
    exact h3
   have hil : (R.take i).length = i := by simp; omega
   have hqQ : i < Q.length := by rw [HD.out.qlen]; exact hin
   have HAU : Hid (ofN (digsL 10000 U) ≠ [] → ∃ g o, au = some ⟨g, o, none⟩ ∧ g ≠ gq) := fun h => ⟨gr, i, hau (fun e => h (by
    have h1 : R.drop i = [] := List.drop_of_length_le (by have := hcap.1; omega)
    rw [h1] at hdu
    rw [hU, ← hdu]; rfl)), fun e => HGQ.out e.symm⟩
   have HTR := Lib.hid hTR
   have HG := Lib.hid hG
   have HSC := Lib.hid hSC
   have HMI := Lib.hid hMI
   have HNX := Lib.hid hstep
   have HML := Lib.hid hml
   have HIL := Lib.hid hil
   have HCP := Lib.hid hcap
   have HCU := Lib.hid hcu2
   have hrow := HQ.out i (by rw [ofN_len]; exact hqQ)
   have HRW : Hid (∀ W q, Below wr.heap.size wr W → RowAt (W.setCell ⟨gq, i, none⟩ (.int .i64 (q : Nat))) gq (ofN (Q.set i q))) := fun W q hb => row_ofN_set (HQ.out.via hb) hqQ
   have HRC : Hid (∀ W, Below wr.heap.size wr W → W.cell? ⟨gq, i, none⟩ = some (.int .i64 ((ofN Q).getD i 0)) ∧ W.frozen? ⟨gq, i, none⟩ = false) := fun W hb => (HQ.out.via hb) i (by rw [ofN_len]; exact hqQ)
   have hin' : (i : Int) < n := by omega
   have hiR : (i : Int) ≤ R.length := by omega
   have hRb : (R.length : Int) ≤ 5000 := by omega
   clear hdu hlt hbq hmod hml hil hcap hqQ hSC hMI hG hTR hstep hDl hBd hru hcu hlu hru2 hcu2 hau hU hrow hqe
   generalize digsL 10000 (leV 10000 B * (U / leV 10000 B)) = S at *
   generalize digsL 10000 (U % leV 10000 B) = M at *
   generalize digsL 10000 U = D at *
   generalize U / leV 10000 B = q at *
   go_wp2_with fail
   refine HTR.out.mono ?_
   rintro e w3 ⟨rfl, rfl⟩
   go_wp2_with fail
   refine HG.out.mono ?_
   rintro e w3 ⟨rfl, hB3⟩
   obtain ⟨hc3, hf3⟩ := HRC.out w3 hB3
   have HR4 := Lib.hid (HRW.out w3 q hB3)
   have HB4 := Lib.hid (below_set (belowVia hB3 HB.out) HBS.out (i := i) (.int .i64 (q : Nat)))
   have HO4 := Lib.hid (ownsRow_setCell_other (ownsRow_below HO.out hB3) (a := ⟨gq, i, none⟩) (fun e => HGQ.out (by cases e; rfl)) (.int .i64 (q : Nat)))
   have HD4 := Lib.hid (cells_set_other (i := i) (v := .int .i64 (q : Nat)) (HCU.out.via hB3) HAU.out)
   have HV4 := Lib.hid (HVB.out.via HB4.out)
   clear hB3
   go_wp2_with fail
   generalize w3.setCell ⟨gq, i, none⟩ (.int .i64 (q : Nat)) = w4 at *
   have hcq : w4.cell? ⟨gq, i, none⟩ = some (.int .i64 (q : Nat)) := by
    have h1 := (HR4.out i (by rw [ofN_len, List.length_set]; have := HD.out.qlen; omega)).1
    rw [ofN_get] at h1
    rw [h1]
    have h2 : i < Q.length := by have := HD.out.qlen; omega
    simp [List.getD_eq_getElem?_getD, h2]
   clear HRW HRC HG HTR hc3 hf3 HCU HAU HO HQ HB
   go_region_held3 (fun w' => w'.cell? ⟨gq, i, none⟩ = some (.int .i64 (q : Nat))) (first | exact hcq | exact keptBelow hB5 hcq | exact keptBelow hB6 (keptBelow hB5 hcq) | exact cell_grown (keptBelow hB6 (keptBelow hB5 hcq)) hg7 HGQ.out) (first
    | (go_at_call 170; (with_reducible refine (HSC.out _ ?_).mono ?_); exact HV4.out; rintro e w5 ⟨⟨g5, c5, rfl, hr5, hc5⟩, hB5⟩)
    | (go_at_call 142; (with_reducible refine (HMI.out _ _ _ ?_ hr5 ?_).mono ?_); exact CellsAt.via hB5 HD4.out; exact hc5; rintro e w6 ⟨⟨g6, c6, rfl, hr6, hc6⟩, hB6⟩)
    | (refine step_append_fits rfl _ _ 135 rfl w.heap.size 3 i0 1 Tryz.underlying135 HI0.out HZ1.out gr i cr (i64l (R.take i)) (by rfl) (ownsRow_below (ownsRow_below (owns_take HO4.out hir) (undrew hB5)) hB6) ⟨g6, 0, none⟩ M.length c6 (i64l M) (by rfl) (by rw [i64l_len, Nat.mul_one]) (cells_new hc6) (i64l_one M) (by have := HML.out; have := HCP.out.1; omega) (fun w7 hown7 hg7 => ?_)))
   have hB7 := belowVia hB6 (belowVia (undrew hB5) HB4.out)
   have HR7 := Lib.hid (((HR4.out.via (undrew hB5)).via hB6).grown hg7 HGQ.out)
   have HB7 := Lib.hid (hB7.grown hg7 hB7.size (fun k e => by cases e; exact (owns_cap HO4.out).2))
   have hlen : (R.take i ++ M).length = i + M.length := by rw [List.length_append, HIL.out]
   have HO7 : Hid (w7.ownsRow w.heap.size 3 1 (.slice (some ⟨gr, 0, none⟩) (R.take i ++ M).length cr) (R.take i ++ M).length (i64l (R.take i ++ M))) := by
    show World.ownsRow _ _ _ _ _ _ _
    rw [hlen, show i64l (R.take i ++ M) = i64l (R.take i) ++ i64l M by simp [i64l]]
    exact hown7
   clear hB7 hB5 hB6 hown7 hg7 HR4 HB4 HO4 HD4 HV4 hc5 hc6
   go_wp2_with fail
   go_roundw
   case rel => exact ⟨i, Q.set i q, R.take i ++ M, by omega, rfl, by rw [hlen], HNX.out, HO7.out, HR7.out, HB7.out⟩
   case measure => simp [intOf]; omega
end Go.Proofs.YtofmjkgaaphnkaaGreatDoor
/- IntQuo: The contract of the division of magnitudes, where the divisor is longer too; of the greatest common divisor. -/
namespace Go.Proofs.YtofmjkgaaphnkaaGreatDoor
open Go.RowKit Putlog

set_option maxRecDepth 100000 in
set_option maxHeartbeats 8000000 in
theorem div_lt (A B : List Nat) (hA : DigB 10000 A) (nA : Norm A) (nB : Norm B) (hlB : B.length ≤ 5000) (hlen : A.length < B.length) (a b : Option Addr) (ca cb : Nat) (w : World)
  (hra : Room A.length ca) (hrb : Room B.length cb) (hva : CellsAt w a (ofN A)) :
  Calls Tryz.prog 153 #[.slice a A.length ca, .slice b B.length cb] w fun e w' => (∃ v u, e = .returned (.tuple #[v, u]) ∧ MagAt w' v (digsL 10000 (leV 10000 A / leV 10000 B)) ∧ MagAt w' u (digsL 10000 (leV 10000 A % leV 10000 B))) ∧ Below w.heap.size w w' := by
 have hlt := leV_len_lt (B := 10000) (by decide) hA nB hlen
 have e1 : digsL 10000 (leV 10000 A / leV 10000 B) = [] := by rw [Nat.div_eq_of_lt hlt, digsL_zero]
 have e2 : digsL 10000 (leV 10000 A % leV 10000 B) = A := by rw [Nat.mod_eq_of_lt hlt, digsL_leV (by decide) hA nA]
 rw [e1, e2]
 obtain ⟨i0, hi0, hz0, hz1, hz2⟩ := info_parts info_int
 have HI0 := Lib.hid hi0
 have HZ0 := Lib.hid hz0
 have HZ1 := Lib.hid hz1
 have HZ2 := Lib.hid hz2
 have hra1 := hra.1
 have hrb1 := hrb.1
 have HCL := Lib.hid (clone_any A (by omega) a ca w hva)
 obtain ⟨n, hn⟩ : ∃ n, n = A.length := ⟨_, rfl⟩
 obtain ⟨m, hm⟩ : ∃ m, m = B.length := ⟨_, rfl⟩
 rw [← hn] at hra1 HCL hlen
 rw [← hm] at hrb1 hlB hlen
 rw [← hn, ← hm]
 have HN := Lib.hid hn
 have hlA' : (n : Int) ≤ 5000 := by omega
 have hlB' : (m : Int) ≤ 5000 := by omega
 have hlen' : (n : Int) < m := by omega
 have hmax : max (0 : Int) ((n : Int) - m + 1) = ((0 : Nat) : Int) := by omega
 obtain ⟨d, hd⟩ : ∃ d : Int, (n : Int) - m = d := ⟨_, rfl⟩
 have hdn : d < 0 := by omega
 have hdn2 : ¬ (0 ≤ d) := by omega
 have hdb : -5000 ≤ d := by omega
 rw [hd] at hmax
 have HTR := Lib.hid (fun (W : World) (a : Option Addr) => trimmed_any [] (by simp) a 0 W Room.zero (.inl rfl))
 clear hi0 hz0 hz1 hz2 hA nA nB hlB hlen hra hrb hva hlt e1 e2 hn hm
 go_enter Tryz.func153, Tryz.ntmps153
 go_wp2_with fail
 refine HCL.out.mono ?_
 rintro e w1 ⟨⟨v, rfl, hown⟩, hB1⟩
 have hown' : w1.ownsRow w.heap.size 3 1 v A.length (i64l A) := by rw [← HN.out]; exact hown
 obtain ⟨a1, c1, rfl, hr1, hc1⟩ := cols_clone hown'
 have HC1 := Lib.hid hc1.cells
 have HR1 := Lib.hid hr1
 have HB1 := Lib.hid hB1
 clear hown hB1 hown' hc1 hr1 HCL
 rw [← HN.out]
 go_wp2_with (at_make; go_must (refine wpList_make_full _ rfl _ _ 135 rfl w1.heap.size 3 i0 (.int .i64 0) 1 Tryz.underlying135 HI0.out HZ0.out HZ1.out .i64 .i64 ((0 : Nat) : Int) ((0 : Nat) : Int) 0 rfl rfl rfl rfl (by rw [HZ2.out]; omega) (by unfold maxLen; omega) (Nat.le_refl _) ?_); intro w2 hown2 hgrow2; have HC2 := Lib.hid (HC1.out.via (belowMade hgrow2)); have HB2 := Lib.hid (belowVia (belowMade hgrow2) HB1.out); clear hown2 hgrow2)
 go_loopw [6, 8] (fun v i wr => v = .slice a1 n c1 ∧ i = .int .i64 d ∧ wr = w2) (fun _ i _ => 0)
 case atStart => exact ⟨rfl, rfl, rfl⟩
 case round =>
  obtain ⟨rfl, rfl, rfl⟩ := hrel
  go_wp2_with fail
  refine (HTR.out _ _).mono ?_
  rintro e w3 ⟨rfl, rfl⟩
  go_wp2_with fail
  go_ret2
  refine ⟨⟨_, _, rfl, ⟨_, _, rfl, ⟨?_, ?_⟩, .inl rfl⟩, ?_⟩, HB2.out⟩
  ·simp
  ·omega
  ·show MagAt w3 (.slice a1 n c1) A
   exact ⟨_, _, by rw [HN.out], HR1.out, HC2.out⟩
theorem div_any (A B : List Nat) (hA : DigB 10000 A) (hB : DigB 10000 B) (nA : Norm A) (nB : Norm B) (h0 : B ≠ []) (hlA : A.length ≤ 5000) (hlB : B.length ≤ 5000) (u v : Value) (w : World) (hu : MagAt w u A) (hv : MagAt w v B) :
  Calls Tryz.prog 153 #[u, v] w fun e w' => (∃ q r, e = .returned (.tuple #[q, r]) ∧ MagAt w' q (digsL 10000 (leV 10000 A / leV 10000 B)) ∧ MagAt w' r (digsL 10000 (leV 10000 A % leV 10000 B))) ∧ Below w.heap.size w w' := by
 obtain ⟨a, ca, rfl, hra, hca⟩ := hu
 obtain ⟨b, cb, rfl, hrb, hcb⟩ := hv
 rcases Nat.lt_or_ge A.length B.length with h | h
 ·exact div_lt A B hA nA nB hlB h a b ca cb w hra hrb hca
 ·exact div_ge A B hA hB nA nB h0 hlA h a b ca cb w hra hrb hca hcb
/-- The number in a slice of groups. -/
def readN (w : World) (g o : Nat) : Nat → Nat
 | 0 => 0
 | n + 1 => (match w.cell? ⟨g, o, none⟩ with | some (.int _ k) => k.toNat | _ => 0) + 10000 * readN w g (o + 1) n
def magV (w : World) : Value → Nat
 | .slice (some ⟨g, o, none⟩) n _ => readN w g o n
 | _ => 0
theorem readN_at {w : World} {g : Nat} : ∀ (l : List Nat) (o : Nat), (∀ j, j < l.length → w.cell? ⟨g, o + j, none⟩ = some (.int .i64 (l.getD j 0 : Nat))) → readN w g o l.length = leV 10000 l
 | [], _, _ => rfl
 | x :: l, o, h => by
  have h0 := h 0 (by simp)
  rw [Nat.add_zero] at h0
  rw [List.length_cons, readN, h0, readN_at l (o + 1) (fun j hj => by have := h (j + 1) (by simp; omega); rw [show o + 1 + j = o + (j + 1) by omega]; simpa using this), leV]
  simp
theorem magV_at {w : World} {v : Value} {l : List Nat} (h : MagAt w v l) : magV w v = leV 10000 l := by
 obtain ⟨a, c, rfl, _, h2⟩ := h
 rcases h2 with h2 | ⟨g, o, rfl, h2⟩
 ·have h3 : (ofN l).length = 0 := by rw [h2]; rfl
  rw [ofN_len] at h3
  obtain rfl := List.length_eq_zero_iff.1 h3
  cases a with
  | none => rfl
  | some ad => obtain ⟨g, o, s⟩ := ad; cases s <;> rfl
 ·exact readN_at l o fun j hj => by rw [h2 j (by rw [ofN_len]; exact hj), ofN_get]
theorem gcd_step (A B : Nat) : Nat.gcd A B = Nat.gcd B (A % B) := by rw [Nat.gcd_comm A B, Nat.gcd_rec, Nat.gcd_comm]
theorem digsL_nil {B : Nat} (h : digsL 10000 B = []) : B = 0 := by have := leV_digsL (B := 10000) (by decide) B; rw [h] at this; exact this.symm
set_option maxRecDepth 100000 in
set_option maxHeartbeats 8000000 in
theorem gcd_any (A B : Nat) (hA : A < 10000 ^ 250) (hB : B < 10000 ^ 250) (u v : Value) (w : World) (hu : MagAt w u (digsL 10000 A)) (hv : MagAt w v (digsL 10000 B)) :
  Calls Tryz.prog 131 #[u, v] w fun e w' => (∃ r, e = .returned r ∧ MagAt w' r (digsL 10000 (Nat.gcd A B))) ∧ Below w.heap.size w w' := by
 have HU := Lib.hid hu
 have HV := Lib.hid hv
 have HA := Lib.hid hA
 have HB := Lib.hid hB
 obtain ⟨G, hG⟩ : ∃ G, G = Nat.gcd A B := ⟨_, rfl⟩
 rw [← hG]
 have HG := Lib.hid hG
 clear hu hv hA hB hG
 go_enter Tryz.func131, Tryz.ntmps131
 go_wp2_with fail
 go_loopw [0, 1] (fun a b wr => ∃ X Y : Nat, MagAt wr a (digsL 10000 X) ∧ MagAt wr b (digsL 10000 Y) ∧ Nat.gcd X Y = G ∧ X < 10000 ^ 250 ∧ Y < 10000 ^ 250 ∧ Below w.heap.size w wr) (fun _ b wr => magV wr b)
 case atStart => exact ⟨A, B, HU.out, HV.out, HG.out.symm, HA.out, HB.out, Below.refl _ _⟩
 case round =>
  clear HU HV HA HB HG
  obtain ⟨X, Y, hX, hY, hg, hXb, hYb, hB⟩ := hrel
  have HX := Lib.hid hX
  have HG := Lib.hid hg
  have HXb := Lib.hid hXb
  have HYb := Lib.hid hYb
  have HB := Lib.hid hB
  obtain ⟨a1, c1, rfl, hr1, _⟩ := hX
  clear hg hXb hYb hB
  rcases Nat.eq_zero_or_pos Y with h0 | h0
  ·subst h0
   rw [digsL_zero] at hY
   obtain ⟨b1, c2, rfl, hr2, _⟩ := hY
   clear hr1 hr2
   go_wp2_with fail
   go_ret
   refine ⟨⟨_, rfl, ?_⟩, HB.out⟩
   rw [← HG.out, Nat.gcd_zero_right]; exact HX.out
  ·have hne : digsL 10000 Y ≠ [] := fun e => by have := digsL_nil e; omega
   have hlen : (0 : Int) < (digsL 10000 Y).length := by have := List.length_pos_iff.2 hne; omega
   have HDV := Lib.hid (div_any (digsL 10000 X) (digsL 10000 Y) (digsL_dig (by decide) _) (digsL_dig (by decide) _) (digsL_norm (by decide) _) (digsL_norm (by decide) _) hne (Nat.le_trans (digsL_len_le HXb.out) (by decide)) (Nat.le_trans (digsL_len_le HYb.out) (by decide)) _ _ wr HX.out hY)
   simp only [leV_digsL (B := 10000) (by decide)] at HDV
   have HMV : Hid (magV wr _ = Y) := (magV_at hY).trans (leV_digsL (by decide) Y)
   have HY := Lib.hid hY
   have HP : Hid (0 < Y) := h0
   obtain ⟨b1, c2, rfl, hr2, _⟩ := hY
   have hl2 : ((digsL 10000 Y).length : Int) ≤ 5000 := by have := digsL_len_le HYb.out; omega
   clear hne hr1 hr2 h0
   go_wp2_with fail
   refine HDV.out.mono ?_
   rintro e w1 ⟨⟨q, r, rfl, hq, hr⟩, hB1⟩
   have HR := Lib.hid hr
   have HM2 : Hid (magV w1 r = X % Y) := (magV_at hr).trans (leV_digsL (by decide) _)
   have HY1 := Lib.hid (HY.out.via hB1)
   have HB1 := Lib.hid (belowVia hB1 HB.out)
   clear hq hr hB1 HDV HY HX
   go_wp2_with fail
   go_roundw
   case rel => exact ⟨Y, X % Y, HY1.out, HR.out, by rw [← HG.out]; exact (gcd_step X Y).symm, HYb.out, Nat.lt_of_le_of_lt (Nat.mod_le _ _) HXb.out, HB1.out⟩
   case measure =>
    rw [HM2.out, HMV.out]
    exact Nat.mod_lt _ HP.out
end Go.Proofs.YtofmjkgaaphnkaaGreatDoor
/- IntText: Plain mathematics of layer 3: groups of four digits and decimal texts. Nothing of the program. -/
namespace Putlog

/-- The four digits of a group, the lowest first. -/
def dig4 (g : Nat) : List Nat := [g % 10, g / 10 % 10, g / 10 / 10 % 10, g / 10 / 10 / 10 % 10]
def dig10 : List Nat → List Nat
 | [] => []
 | g :: l => dig4 g ++ dig10 l
theorem dig10_snoc : ∀ (l : List Nat) (g : Nat), dig10 (l ++ [g]) = dig10 l ++ dig4 g
 | [], g => by simp [dig10]
 | x :: l, g => by simp only [List.cons_append, dig10, dig10_snoc l g, List.append_assoc]
theorem dig10_len : ∀ l : List Nat, (dig10 l).length = 4 * l.length
 | [] => rfl
 | x :: l => by simp only [dig10, List.length_append, dig10_len l, List.length_cons, dig4, List.length_nil]; omega
theorem dig4_dig (g : Nat) : DigB 10 (dig4 g) := fun x hx => by
 simp only [dig4, List.mem_cons, List.not_mem_nil, or_false] at hx
 omega
theorem dig10_dig : ∀ l : List Nat, DigB 10 (dig10 l)
 | [] => DigB.nil _
 | g :: l => (dig4_dig g).append (dig10_dig l)
theorem dig4_val {g : Nat} (h : g < 10000) : leV 10 (dig4 g) = g := by simp only [dig4, leV]; omega
theorem dig10_val : ∀ l : List Nat, DigB 10000 l → leV 10 (dig10 l) = leV 10000 l
 | [], _ => rfl
 | g :: l, h => by
  have h1 := dig4_val (h g (List.mem_cons_self ..))
  have h2 : 10 ^ (dig4 g).length = 10000 := by show 10 ^ 4 = 10000; decide
  rw [dig10, leV_append, h1, dig10_val l h.tail, leV, h2]
theorem dropWhile_map {α β : Type} (f : α → β) (p : β → Bool) (q : α → Bool) : ∀ l : List α, (∀ x ∈ l, p (f x) = q x) → (l.map f).dropWhile p = (l.dropWhile q).map f
 | [], _ => rfl
 | x :: l, h => by
  have hx := h x (List.mem_cons_self ..)
  have ht := dropWhile_map f p q l fun y hy => h y (List.mem_cons_of_mem _ hy)
  simp only [List.map_cons, List.dropWhile_cons, hx]
  split
  ·exact ht
  ·simp
/-- The text of a magnitude: the digits without zeros in front. -/
theorem text_trim {l : List Nat} (hd : DigB 10 l) : ((l.reverse.map chr10).dropWhile (· == 48)) = (trimL l).reverse.map chr10 := by
 rw [dropWhile_map chr10 (· == 48) (· == 0)]
 ·unfold trimL; rw [List.reverse_reverse]
 ·intro x hx
  have h := hd x (List.mem_reverse.1 hx)
  by_cases e : x = 0
  ·subst e; decide
  ·have : chr10 x ≠ 48 := fun h2 => by
    have h3 : (chr10 x).toNat = (48 : UInt8).toNat := by rw [h2]
    rw [chr10_toNat h, show (48 : UInt8).toNat = 48 from rfl] at h3
    omega
   rw [beq_eq_false_iff_ne.2 this, beq_eq_false_iff_ne.2 e]
theorem text_groups {l : List Nat} (hd : DigB 10000 l) (hn : Norm l) (h0 : l ≠ []) : (((dig10 l).reverse.map chr10).dropWhile (· == 48)) = natT (leV 10000 l) := by
 have h1 : trimL (dig10 l) = digsL 10 (leV 10000 l) := by
  rw [← dig10_val l hd, ← trimL_val 10 (dig10 l), digsL_leV (by decide) (trimL_dig (dig10_dig l)) (trimL_norm _)]
 have h2 := leV_pos (B := 10000) (by decide) hn h0
 rw [text_trim (dig10_dig l), h1, natT, if_neg (by omega)]
/-- The groups of digits, the lowest first: the first k of them. -/
def grpL (l : List Nat) (k : Nat) : List Nat := (List.range k).map fun i => leV 10 ((l.drop (4 * i)).take 4)
theorem grpL_len (l : List Nat) (k : Nat) : (grpL l k).length = k := by simp [grpL]
theorem grpL_succ (l : List Nat) (k : Nat) : grpL l (k + 1) = grpL l k ++ [leV 10 ((l.drop (4 * k)).take 4)] := by simp [grpL, List.range_succ]
theorem take4_lt {l : List Nat} (h : DigB 10 l) (k : Nat) : leV 10 ((l.drop k).take 4) < 10000 := by
 have h1 : DigB 10 ((l.drop k).take 4) := fun x hx => h x (List.mem_of_mem_drop (List.mem_of_mem_take hx))
 have h2 := leV_lt h1
 have h3 : 10 ^ ((l.drop k).take 4).length ≤ 10 ^ 4 := Nat.pow_le_pow_right (by decide) (by simp; omega)
 omega
theorem grpL_dig {l : List Nat} (h : DigB 10 l) (k : Nat) : DigB 10000 (grpL l k) := fun x hx => by
 obtain ⟨i, _, rfl⟩ := List.mem_map.1 hx
 exact take4_lt h _
theorem grpL_val {l : List Nat} : ∀ k : Nat, leV 10000 (grpL l k) = leV 10 (l.take (4 * k))
 | 0 => by simp [grpL, leV]
 | k + 1 => by
  rw [grpL_succ, leV_snoc, grpL_len, grpL_val k]
  have e : l.take (4 * (k + 1)) = l.take (4 * k) ++ (l.drop (4 * k)).take 4 := by
   rw [show 4 * (k + 1) = 4 * k + 4 by omega, List.take_add]
  rw [e, leV_append]
  rcases Nat.lt_or_ge l.length (4 * k) with h | h
  ·rw [List.drop_of_length_le (by omega)]; simp [leV]
  ·have : (l.take (4 * k)).length = 4 * k := by simp; omega
   rw [this, Nat.pow_mul]
theorem grpL_all {l : List Nat} {k : Nat} (h : l.length ≤ 4 * k) : leV 10000 (grpL l k) = leV 10 l := by
 rw [grpL_val, List.take_of_length_le h]
theorem grp_trim {l : List Nat} (hd : DigB 10 l) {k : Nat} (h : l.length ≤ 4 * k) : trimL (grpL l k) = digsL 10000 (leV 10 l) := by
 rw [← grpL_all h, ← trimL_val 10000 (grpL l k), digsL_leV (by decide) (trimL_dig (grpL_dig hd k)) (trimL_norm _)]
/-- Digits read one after the other, the highest first. -/
theorem decT_snoc (l : List UInt8) (c : UInt8) : decT (l ++ [c]) = (c.toNat - 48) :: decT l := by simp [decT]
theorem decT_len (l : List UInt8) : (decT l).length = l.length := by simp [decT]
theorem decT_dig {l : List UInt8} (h : ∀ c ∈ l, IsDig c) : DigB 10 (decT l) := fun x hx => by
 obtain ⟨c, hc, rfl⟩ := List.mem_map.1 hx
 have := h c (by simpa using hc)
 unfold IsDig at this; omega
/-- The bytes from index a to b are the digits from n - b to n - a. -/
theorem decT_part (l : List UInt8) {a b : Nat} (hb : b ≤ l.length) : decT ((l.take b).drop a) = ((decT l).drop (l.length - b)).take (b - a) := by
 unfold decT
 rw [← List.map_drop, ← List.map_take]
 congr 1
 rw [List.reverse_drop, List.length_take, Nat.min_eq_left hb, List.reverse_take]
end Putlog
/- IntRead: The contract of readMagnitude: groups of four digits, read from the end. -/
namespace Go.Proofs.YtofmjkgaaphnkaaGreatDoor
open Go.RowKit Putlog

set_option maxRecDepth 100000 in
set_option maxHeartbeats 2000000 in
theorem read1_any (n : Nat) (b : UInt8) (hn : n ≤ 1000) (hb : IsDig b) (w : World) :
  Calls Tryz.prog 184 #[.int .i64 n, .int .u8 (b.toNat : Nat)] w fun e w' => e = .returned (.int .i64 (((b.toNat - 48) + 10 * n : Nat) : Int)) ∧ w' = w := by
 unfold IsDig at hb
 obtain ⟨d, hd⟩ : ∃ d, d = b.toNat - 48 := ⟨_, rfl⟩
 have hw : IntKind.u8.wrap ((b.toNat : Int) - 48) = (d : Nat) := by rw [IntKind.wrap_u8]; omega
 have hdb : (d : Int) ≤ 9 := by omega
 have hnb : (n : Int) ≤ 1000 := by omega
 have HR : Hid (10 * (n : Int) + d = ((d + 10 * n : Nat) : Int)) := by show _ = _; omega
 rw [← hd]
 generalize (b.toNat : Int) = x at *
 clear hd hb
 go_enter Tryz.func184, Tryz.ntmps184
 go_wp2_with fail
 go_ret
 refine ⟨?_, rfl⟩
 rw [← HR.out]; rfl
theorem take_succ_getD (bs : List UInt8) {k : Nat} (h : k < bs.length) : bs.take (k + 1) = bs.take k ++ [bs.getD k 0] := by
 rw [List.take_succ_eq_append_getElem h]; simp [List.getD_eq_getElem?_getD, h]
theorem decT_lt1000 {bs : List UInt8} (hd : ∀ c ∈ bs, IsDig c) (h : bs.length ≤ 3) : leV 10 (decT bs) ≤ 1000 := by
 have h1 := leV_lt (decT_dig hd)
 rw [decT_len] at h1
 have h2 : 10 ^ bs.length ≤ 10 ^ 3 := Nat.pow_le_pow_right (by decide) h
 omega
set_option maxRecDepth 100000 in
set_option maxHeartbeats 2000000 in
theorem fold8_any (bs : List UInt8) (hd : ∀ c ∈ bs, IsDig c) (hl : bs.length ≤ 4) (g c : Nat) (hc : bs.length ≤ c) (w : World) (hcell : ∀ j, j < bs.length → w.cell? ⟨g, j, none⟩ = some (.int .u8 ((bs.getD j 0).toNat : Nat))) :
  Calls Tryz.prog 183 #[.slice (some ⟨g, 0, none⟩) bs.length c, .int .i64 0, .func (.func 184) #[] #[]] w fun e w' => e = .returned (.int .i64 (leV 10 (decT bs) : Nat)) ∧ w' = w := by
 have HD := Lib.hid hd
 have HC := Lib.hid hcell
 obtain ⟨n, hn⟩ : ∃ n, n = bs.length := ⟨_, rfl⟩
 rw [← hn] at hl hc ⊢
 have HN := Lib.hid hn
 have hnb : (n : Int) ≤ 4 := by omega
 clear hd hcell hn
 go_enter Tryz.func183, Tryz.ntmps183
 go_wp2_with fail
 go_loopw [1, 11] (fun v i wr => ∃ k : Nat, k ≤ n ∧ i = .int .i64 k ∧ v = .int .i64 (leV 10 (decT (bs.take k)) : Nat) ∧ wr = w) (fun _ i _ => n - (intOf i).toNat)
 case atStart => exact ⟨0, by omega, rfl, rfl, rfl⟩
 case round =>
  obtain ⟨k, hk, rfl, rfl, rfl⟩ := hrel
  by_cases hlt : k < n
  ·have hlt' : (k : Int) < n := by omega
   have hkb : k < bs.length := by have := HN.out; omega
   have hcx := HC.out k hkb
   have hdx : IsDig (bs.getD k 0) := HD.out _ (by rw [List.getD_eq_getElem?_getD, List.getElem?_eq_getElem hkb, Option.getD_some]; exact List.getElem_mem _)
   have ht := take_succ_getD bs hkb
   have hs : leV 10 (decT (bs.take (k + 1))) = ((bs.getD k 0).toNat - 48) + 10 * leV 10 (decT (bs.take k)) := by rw [ht, decT_snoc, leV]
   have hle := decT_lt1000 (bs := bs.take k) (fun c hc => HD.out c (List.mem_of_mem_take hc)) (by simp; omega)
   have HR1 := Lib.hid (read1_any (leV 10 (decT (bs.take k))) (bs.getD k 0) hle hdx wr)
   rw [← hs] at HR1
   obtain ⟨y2, hy2⟩ : ∃ y2, y2 = leV 10 (decT (bs.take (k + 1))) := ⟨_, rfl⟩; rw [← hy2] at HR1; have HY2 := Lib.hid hy2; clear hy2
   clear hs ht hdx hle hkb
   generalize leV 10 (decT (bs.take k)) = y at *
   go_wp2_with (go_at_call 184; refine HR1.out.mono ?_; rintro e w1 ⟨rfl, rfl⟩)
   exact ⟨⟨k + 1, by omega, by go_num, by rw [HY2.out], trivial⟩, by simp [intOf]; omega⟩
  ·obtain rfl : k = n := by omega
   have ht : bs.take k = bs := by rw [HN.out, List.take_length]
   rw [ht]
   go_wp2_with fail
   go_ret
   exact ⟨rfl, rfl⟩
theorem bytesWorld_below (w : World) (e : TypeId) (s : ByteArray) : Below w.heap.size w (Lib.bytesWorld w e s) :=
 ⟨rfl, rfl, rfl, by rw [Lib.bytesWorld_size]; omega, fun k hk => Lib.bytesWorld_at_old w e s k hk⟩
theorem extract_list (s : ByteArray) (a b : Nat) : (s.extract a b).data.toList = (s.data.toList.take b).drop a := by
 simp [List.extract_eq_take_drop, List.drop_take]
set_option maxRecDepth 100000 in
set_option maxHeartbeats 4000000 in
theorem readM_any (s : ByteArray) (hd : ∀ c ∈ s.data.toList, IsDig c) (hs : s.size ≤ 1000) (w : World) :
  Calls Tryz.prog 171 #[.string s] w fun e w' => (∃ v, e = .returned v ∧ MagAt w' v (digsL 10000 (natV s.data.toList))) ∧ Below w.heap.size w w' := by
 obtain ⟨i0, hi0, hz0, hz1, hz2⟩ := info_parts info_int
 have HI0 := Lib.hid hi0
 have HZ0 := Lib.hid hz0
 have HZ1 := Lib.hid hz1
 have HZ2 := Lib.hid hz2
 have HD := Lib.hid hd
 have HDD := Lib.hid (decT_dig hd)
 have hsz : s.data.toList.length = s.size := by rw [Array.length_toList]; rfl
 have HSZ := Lib.hid hsz
 obtain ⟨D, hD⟩ : ∃ D, D = decT s.data.toList := ⟨_, rfl⟩
 have hDl : D.length = s.size := by rw [hD, decT_len, hsz]
 obtain ⟨n, hn⟩ : ∃ n, n = s.size := ⟨_, rfl⟩
 have HDL : Hid (D.length = n) := hDl.trans hn.symm
 rw [← hD] at HDD
 have HDE := Lib.hid hD
 have HN := Lib.hid hn
 rw [← hn] at hs
 have hnb : (n : Int) ≤ 1000 := by omega
 have hns : (s.size : Int) = n := by omega
 obtain ⟨q, hq⟩ : ∃ q, q = n / 4 := ⟨_, rfl⟩
 have hqd : (n : Int).tdiv 4 = (q : Nat) := by rw [Int.tdiv_eq_ediv_of_nonneg (by omega)]; omega
 have hqb : (q : Int) ≤ 1000 := by omega
 clear hi0 hz0 hz1 hz2 hd hsz hDl hD hn hq
 go_enter Tryz.func171, Tryz.ntmps171
 go_wp2_with (at_make; go_must (refine wpList_make_own _ rfl _ _ 135 rfl w.heap.size 3 i0 (.int .i64 0) 1 Tryz.underlying135 HI0.out HZ0.out HZ1.out .i64 .i64 ((q : Int) + 1) (q + 1) rfl rfl (by omega) (by rw [HZ2.out]; omega) (by unfold maxLen; omega) (Nat.le_refl _) ?_); intro w1 hown hgrow; have HO := Lib.hid hown; have HB := Lib.hid (belowMade hgrow); clear hown hgrow)
 go_loopw [3, 4] (fun v i wr => ∃ k : Nat, 4 * k ≤ n + 3 ∧ i = .int .i64 ((n : Int) - 4 * k) ∧ wr.ownsRow w.heap.size 3 1 v (grpL D k).length (i64l (grpL D k)) ∧ Below w.heap.size w wr) (fun _ i _ => (4 + intOf i).toNat)
 case atStart => exact ⟨0, by omega, by simp, HO.out, HB.out⟩
 case round =>
  obtain ⟨k, hk, rfl, hown, hB⟩ := hrel
  have HO := Lib.hid hown
  have HB := Lib.hid hB
  clear hown hB
  have HGL : Hid ((grpL D k).length ≤ 100000) := by show _ ≤ _; rw [grpL_len]; omega
  by_cases hlt : 4 * k < n
  ·have HLT : Hid (4 * k < n) := hlt
   obtain ⟨hi, hhi⟩ : ∃ hi, hi = n - 4 * k := ⟨_, rfl⟩
   obtain ⟨lo, hlo⟩ : ∃ lo, lo = hi - 4 := ⟨_, rfl⟩
   have hie : (n : Int) - 4 * k = (hi : Nat) := by omega
   have hmax : max (0 : Int) ((hi : Int) - 4) = (lo : Nat) := by omega
   have hmin : (hi : Int) ≤ n := by omega
   have hhi0 : (0 : Int) < hi := by omega
   have hlh : (lo : Int) ≤ hi := by omega
   have hsub : (hi : Int) - 4 = (n : Int) - 4 * ((k + 1 : Nat) : Int) := by omega
   have HSB := Lib.hid hsub
   obtain ⟨L, hL⟩ : ∃ L, L = hi - lo := ⟨_, rfl⟩
   have hxl := extract_list s lo hi
   have hxs : (s.extract lo hi).size = L := by have := HN.out; simp [ByteArray.size_extract]; omega
   have hxn : (s.extract lo hi).data.toList.length = L := by rw [Array.length_toList]; exact hxs
   have hconv := fun w => Lib.run_convert_string_bytes (P := Tryz.prog) w 9 121 5 (s.extract lo hi) Tryz.underlying9 Tryz.underlying121 Tryz.underlying5
   simp only [hxs] at hconv
   have hdx : ∀ c ∈ (s.extract lo hi).data.toList, IsDig c := fun c hc => by
    rw [hxl] at hc
    exact HD.out c (List.mem_of_mem_take (List.mem_of_mem_drop hc))
   have hd : leV 10 (decT (s.extract lo hi).data.toList) = leV 10 ((D.drop (4 * k)).take 4) := by
    rw [hxl, decT_part _ (by rw [HSZ.out]; have := HN.out; omega), ← HDE.out, HSZ.out, ← HN.out, show n - hi = 4 * k by omega]
    rcases Nat.lt_or_ge 4 hi with h | h
    ·rw [show hi - lo = 4 by omega]
    ·rw [show hi - lo = hi by omega, List.take_of_length_le (by simp; have := HDL.out; omega), List.take_of_length_le (by simp; have := HDL.out; omega)]
   have hgs := grpL_succ D k
   rw [← hd] at hgs
   have HF : Hid (∀ (W : World) (g c : Nat), L ≤ c → (∀ j, j < L → W.cell? ⟨g, j, none⟩ = some (.int .u8 (((s.extract lo hi).data.toList.getD j 0).toNat : Nat))) → Calls Tryz.prog 183 #[.slice (some ⟨g, 0, none⟩) L c, .int .i64 0, .func (.func 184) #[] #[]] W fun e w' => e = .returned (.int .i64 (leV 10 (decT (s.extract lo hi).data.toList) : Nat)) ∧ w' = W) := by
    intro W g c hc hcell
    have := fold8_any (s.extract lo hi).data.toList hdx (by omega) g c (by omega) W (by rw [hxn]; exact hcell)
    rwa [hxn] at this
   obtain ⟨d, hdd⟩ : ∃ d, d = leV 10 (decT (s.extract lo hi).data.toList) := ⟨_, rfl⟩
   rw [← hdd] at hgs HF
   have HGS := Lib.hid hgs
   have HXS := Lib.hid hxs
   have hLb : (L : Int) ≤ 4 := by omega
   have hcell5 := fun W => Lib.bytesWorld_cell W 5 (s.extract lo hi)
   have HC5 := Lib.hid hcell5
   rw [hie]
   have hB5 := bytesWorld_below wr 5 (s.extract lo hi)
   have HB5 := Lib.hid hB5
   have hcp := grownCap_ge wr L 0 5
   have HF5 := Lib.hid (HF.out _ wr.heap.size _ hcp (fun j hj => HC5.out wr j (by rw [HXS.out]; exact hj)))
   have hcp2 : (L : Int) ≤ grownCap wr L 0 5 := by omega
   clear hhi hlo hie hsub hL hxl hxs hxn hdx hd hgs hdd hcell5 hB5 hcp HF HC5 hk hlt
   go_wp2_with fail
   refine HF5.out.mono ?_
   rintro e w5 ⟨rfl, rfl⟩
   have HO5 := Lib.hid (ownsRow_below HO.out HB5.out)
   have HB6 := Lib.hid (belowVia HB5.out HB.out)
   clear hcp2 hconv HF5
   generalize Lib.bytesWorld wr 5 (s.extract lo hi) = w5 at *
   generalize grownCap wr L 0 5 = cp at *
   go_wp2_with (at_builtin; refine wpList_append_own _ rfl _ _ 135 rfl w.heap.size 3 i0 (.int .i64 0) 1 8 Tryz.underlying135 HI0.out HZ0.out HZ1.out HZ2.out rfl (by decide) u3 (grpL D k).length (i64l (grpL D k)) (by rfl) (HO5.out.alloc _) ⟨w5.heap.size, 0, none⟩ 1 1 [.int .i64 (d : Nat)] (by rfl) rfl (news_val _ _ _) (one_int _ _) (app_b1 HGL.out) (app_b2 HGL.out (by decide)) (app_b3 HB6.out) ?_; intro v2 w9 hown9 hgrow9 _; have HF9 := Lib.hid (app_i64 (b := d) HO5.out HB6.out hown9 hgrow9); clear hown9 hgrow9)
   exact ⟨⟨k + 1, by have := HLT.out; omega, by rw [HSB.out], by rw [HGS.out]; exact HF9.out.1, HF9.out.2⟩, by simp [intOf]; omega⟩
  ·obtain ⟨j, hj⟩ : ∃ j : Int, (n : Int) - 4 * k = j := ⟨_, rfl⟩
   rw [hj]
   have hj0 : j ≤ 0 := by omega
   have hj1 : -3 ≤ j := by omega
   obtain ⟨a1, c1, rfl, hr1, hc1⟩ := cols_clone HO.out
   have hTR := trimmed_any (grpL D k) HGL.out a1 c1 wr hr1 hc1.cells
   have he : trimL (grpL D k) = digsL 10000 (natV s.data.toList) := by
    rw [grp_trim HDD.out (by have := HDL.out; omega), HDE.out]; rfl
   have hr2 : Room (trimL (grpL D k)).length c1 := ⟨by have := trimL_le (grpL D k); have := hr1.1; omega, hr1.2⟩
   have HC2 := Lib.hid (cells_trim hc1.cells)
   rw [he] at hTR HC2 hr2
   have HTR := Lib.hid hTR
   have HR2 := Lib.hid hr2
   clear hj hr1 hc1 hTR he hr2 hlt
   generalize (grpL D k).length = gl at *
   go_wp2_with fail
   refine HTR.out.mono ?_
   rintro e w2 ⟨rfl, rfl⟩
   go_wp2_with fail
   go_ret
   exact ⟨⟨_, rfl, _, _, rfl, HR2.out, HC2.out⟩, HB.out⟩
end Go.Proofs.YtofmjkgaaphnkaaGreatDoor
/- IntDigits: The contract of digits: the text of a magnitude. -/
namespace Go.Proofs.YtofmjkgaaphnkaaGreatDoor
open Go.RowKit Putlog

/-- A row of bytes that may be written. -/
def ByteRow (w : World) (g : Nat) (C : List Nat) : Prop := ∀ j, j < C.length → w.cell? ⟨g, j, none⟩ = some (.int .u8 (C.getD j 0 : Nat)) ∧ w.frozen? ⟨g, j, none⟩ = false
theorem getD_setN (C : List Nat) (i j : Nat) (x : Nat) (hi : i < C.length) : (C.set i x).getD j 0 = if j = i then x else C.getD j 0 := by
 simp only [List.getD_eq_getElem?_getD, List.getElem?_set]
 by_cases h : i = j
 ·subst h; simp [hi]
 ·rw [if_neg h, if_neg (fun e => h e.symm)]
theorem ByteRow.set {w : World} {g : Nat} {C : List Nat} (h : ByteRow w g C) (i : Nat) (hi : i < C.length) (x : Nat) : ByteRow (w.setCell ⟨g, i, none⟩ (.int .u8 (x : Nat))) g (C.set i x) := fun j hj => by
 rw [List.length_set] at hj
 refine ⟨?_, by rw [World.frozen?_setCell]; exact (h j hj).2⟩
 rw [getD_setN C i j x hi]
 by_cases e : j = i
 ·subst e
  rw [if_pos rfl]
  exact World.cell?_setCell_same' _ _ _ (by rw [(h j hj).1]; rfl)
 ·rw [if_neg e, World.cell?_setCell_other _ _ _ _ (fun h => e (by have := congrArg Addr.off h; simp at this; omega))]
  exact (h j hj).1
theorem bytes_made {w w1 : World} {n : Nat} (hown : w1.ownsRow w.heap.size 5 1 (.slice (some ⟨w.heap.size, 0, none⟩) n n) n (madeCells (Value.int .u8 0).cells (n * 1)).toList) : ByteRow w1 w.heap.size (List.replicate n 0) := by
 rw [show (Value.int .u8 0).cells = #[.int .u8 0] from rfl, toList_madeCells_one, Nat.mul_one] at hown
 obtain ⟨_, ⟨h1, _⟩ | ⟨g, cap, cur, hv, hg, hh, h1, h2, h3, h4⟩⟩ := hown
 ·cases h1
 ·cases hv
  intro j hj
  rw [List.length_replicate] at hj
  refine ⟨?_, by simp [World.frozen?, hh]⟩
  rw [cell_of_row w1 w.heap.size j cur _ (0, 0) hh]
  rw [Nat.mul_one] at h4
  have h5 : (cur.toList.take n)[j]? = (List.replicate n (Value.int .u8 0))[j]? := by rw [h4]
  rw [List.getElem?_take_of_lt hj, Array.getElem?_toList] at h5
  rw [h5]
  simp [hj, List.getD_eq_getElem?_getD]
/-- The bytes after some digits are written from the end. -/
def DigRow (C : List Nat) (N : Nat) (ds : List Nat) : Prop := C.length = N ∧ ds.length ≤ N ∧ C.drop (N - ds.length) = ds.reverse.map (48 + ·)
theorem DigRow.start (N : Nat) : DigRow (List.replicate N 0) N [] := ⟨List.length_replicate, by simp, by simp⟩
theorem DigRow.step {C : List Nat} {N : Nat} {ds : List Nat} (h : DigRow C N ds) (hl : ds.length < N) (x : Nat) : DigRow (C.set (N - (ds.length + 1)) (48 + x)) N (ds ++ [x]) := by
 obtain ⟨h1, h2, h3⟩ := h
 have hi : N - (ds.length + 1) < C.length := by omega
 have hi2 : N - (ds.length + 1) < (C.set (N - (ds.length + 1)) (48 + x)).length := by rw [List.length_set]; exact hi
 refine ⟨by rw [List.length_set]; exact h1, by simp; omega, ?_⟩
 rw [List.length_append, List.length_singleton, List.drop_eq_getElem_cons hi2, List.getElem_set_self, List.drop_set_of_lt (by omega), show N - (ds.length + 1) + 1 = N - ds.length by omega, h3]
 simp
def digs4 (g r : Nat) : List Nat := (List.range r).map fun i => g / 10 ^ i % 10
theorem digs4_succ (g r : Nat) : digs4 g (r + 1) = digs4 g r ++ [g / 10 ^ r % 10] := by simp [digs4, List.range_succ]
theorem digs4_len (g r : Nat) : (digs4 g r).length = r := by simp [digs4]
theorem digs4_four (g : Nat) : digs4 g 4 = dig4 g := by
 have h : List.range 4 = [0, 1, 2, 3] := by decide
 simp [digs4, h, dig4, Nat.div_div_eq_div_mul]
theorem DigRow.bytes {C : List Nat} {N : Nat} {ds : List Nat} (h : DigRow C N ds) (hd : DigB 10 ds) (hl : ds.length = N) {j : Nat} (hj : j < N) : C.getD j 0 = ((ds.reverse.map chr10).getD j 0).toNat := by
 obtain ⟨_, _, h3⟩ := h
 rw [hl, Nat.sub_self, List.drop_zero] at h3
 rw [h3]
 have hj2 : j < ds.reverse.length := by simp; omega
 simp only [List.getD_eq_getElem?_getD, List.getElem?_map, List.getElem?_eq_getElem hj2, Option.map_some, Option.getD_some]
 rw [chr10_toNat (hd _ (List.mem_reverse.1 (List.getElem_mem hj2)))]
set_option maxRecDepth 100000 in
set_option maxHeartbeats 4000000 in
theorem digits_any (A : List Nat) (hA : DigB 10000 A) (nA : Norm A) (hl : A.length ≤ 1000) (v : Value) (w : World) (hv : MagAt w v A) :
  Calls Tryz.prog 155 #[v] w fun e w' => e = .returned (.string ⟨(natT (leV 10000 A)).toArray⟩) ∧ Below w.heap.size w w' := by
 obtain ⟨a, ca, rfl, hra, hca⟩ := hv
 rcases Nat.eq_zero_or_pos A.length with h0 | h0
 ·obtain rfl := List.length_eq_zero_iff.1 h0
  clear h0
  go_enter Tryz.func155, Tryz.ntmps155
  go_wp2_with fail
  go_ret
  exact ⟨rfl, Below.refl _ _⟩
 ·obtain ⟨i0, hi0, hz0, hz1, hz2⟩ := info_parts info_byte
  have HI0 := Lib.hid hi0
  have HZ0 := Lib.hid hz0
  have HZ1 := Lib.hid hz1
  have HZ2 := Lib.hid hz2
  have HDA := Lib.hid hA
  have HNA := Lib.hid nA
  have HCA := Lib.hid hca
  have hra1 := hra.1
  obtain ⟨n, hn⟩ : ∃ n, n = A.length := ⟨_, rfl⟩
  rw [← hn] at hra1 hl h0 ⊢
  have HN := Lib.hid hn
  have hnb : (n : Int) ≤ 1000 := by omega
  have hn0 : (0 : Int) < n := by omega
  have hne : ((n : Int) == 0) = false := by simp; omega
  have hne2 : (n : Int) ≠ 0 := by omega
  obtain ⟨N, hNN⟩ : ∃ N, N = 4 * n := ⟨_, rfl⟩
  have hmul : 4 * (n : Int) = (N : Nat) := by omega
  have hNb : (N : Int) ≤ 4000 := by omega
  have HNN := Lib.hid hNN
  clear hi0 hz0 hz1 hz2 hA nA hca hra hn hNN
  go_enter Tryz.func155, Tryz.ntmps155
  go_wp2_with (at_make; go_must (refine wpList_make_full _ rfl _ _ 121 rfl w.heap.size 5 i0 (.int .u8 0) 1 Tryz.underlying121 HI0.out HZ0.out HZ1.out .i64 .i64 (N : Int) (N : Int) N rfl rfl rfl rfl (by rw [HZ2.out]; omega) (by unfold maxLen; omega) (Nat.le_refl _) ?_); intro w2 hown2 hgrow2; have HR2 := Lib.hid (bytes_made hown2); have HB2 := Lib.hid (belowMade hgrow2); clear hown2 hgrow2)
  go_loopw [4, 18] (fun p i wr => ∃ (k : Nat) (C : List Nat), k ≤ n ∧ i = .int .i64 k ∧ p = .int .i64 ((N : Int) - 4 * k) ∧ DigRow C N (dig10 (A.take k)) ∧ ByteRow wr w.heap.size C ∧ Below w.heap.size w wr) (fun _ i _ => n - (intOf i).toNat)
  case atStart => exact ⟨0, _, by omega, rfl, by simp, DigRow.start N, HR2.out, HB2.out⟩
  case round =>
   clear HR2 HB2
   obtain ⟨k, C, hk, rfl, rfl, hdr, hrow, hB⟩ := hrel
   have HDR := Lib.hid hdr
   have HRW := Lib.hid hrow
   have HB := Lib.hid hB
   clear hdr hrow hB
   by_cases hlt : k < n
   ·have hlt' : (k : Int) < n := by omega
    have hkA : k < A.length := by have := HN.out; omega
    obtain ⟨ga, oa, rfl, hcell⟩ := cells_get HCA.out hkA
    have hcx := keptBelow HB.out (hcell k hkA)
    have hgb := digB_get HDA.out hkA
    have hlen0 : (dig10 (A.take k)).length = 4 * k := by rw [dig10_len]; simp; omega
    have hnx : dig10 (A.take (k + 1)) = dig10 (A.take k) ++ digs4 (A.getD k 0) 4 := by
     rw [digs4_four, ← dig10_snoc]
     congr 1
     rw [List.take_succ_eq_append_getElem hkA]; simp [List.getD_eq_getElem?_getD, hkA]
    have HNX := Lib.hid hnx
    have HL0 := Lib.hid hlen0
    generalize A.getD k 0 = g at *
    have hgb' : (g : Int) < 10000 := by omega
    obtain ⟨at0, hat0⟩ : ∃ at0 : Int, (N : Int) - 4 * k = at0 := ⟨_, rfl⟩
    have HAT0 := Lib.hid hat0
    rw [hat0]
    clear hcell hnx hlen0 hat0 hk
    go_wp2_with fail
    go_loopw [4, 6, 22] (fun p gv i wr => ∃ (r : Nat) (C : List Nat), r ≤ 4 ∧ i = .int .i64 r ∧ p = .int .i64 ((N : Int) - (4 * k + r : Nat)) ∧ gv = .int .i64 (g / 10 ^ r : Nat) ∧ DigRow C N (dig10 (A.take k) ++ digs4 g r) ∧ ByteRow wr w.heap.size C ∧ Below w.heap.size w wr) (fun _ _ i _ => 4 - (intOf i).toNat)
    case atStart => exact ⟨0, C, by omega, rfl, by rw [← HAT0.out]; simp, by simp, by simpa [digs4] using HDR.out, HRW.out, HB.out⟩
    case round =>
     clear HDR HRW HB
     obtain ⟨r, C2, hr, rfl, rfl, rfl, hdr, hrow, hB⟩ := hrel
     have HDR := Lib.hid hdr
     have HRW := Lib.hid hrow
     have HB := Lib.hid hB
     clear hdr hrow hB
     by_cases hr4 : r < 4
     ·have hr' : (r : Int) < 4 := by omega
      have hkN : 4 * k + r < N := by have := HNN.out; omega
      obtain ⟨v, hv⟩ : ∃ v, v = g / 10 ^ r := ⟨_, rfl⟩
      have hvb : v ≤ g := by rw [hv]; exact Nat.div_le_self _ _
      have hvb' : (v : Int) < 10000 := by omega
      obtain ⟨x, hx⟩ : ∃ x, x = v % 10 := ⟨_, rfl⟩
      have hxm : (v : Int).tmod 10 = (x : Nat) := by rw [Int.tmod_eq_emod_of_nonneg (by omega)]; omega
      have hxb : (x : Int) ≤ 9 := by omega
      obtain ⟨y, hy⟩ : ∃ y, y = v / 10 := ⟨_, rfl⟩
      have hyd : (v : Int).tdiv 10 = (y : Nat) := by rw [Int.tdiv_eq_ediv_of_nonneg (by omega)]; omega
      have hyb : (y : Int) < 10000 := by omega
      have hy2 : y = g / 10 ^ (r + 1) := by rw [hy, hv, Nat.div_div_eq_div_mul, Nat.pow_succ]
      obtain ⟨c, hc⟩ : ∃ c, c = 48 + x := ⟨_, rfl⟩
      have hcw : IntKind.u8.wrap (48 + (x : Int)) = (c : Nat) := by rw [IntKind.wrap_u8]; omega
      obtain ⟨z, hz⟩ : ∃ z : Int, (N : Int) - ((4 * k + r : Nat) : Int) = z := ⟨_, rfl⟩
      obtain ⟨p, hp⟩ : ∃ p, p = N - (4 * k + r + 1) := ⟨_, rfl⟩
      have hzp : z - 1 = (p : Nat) := by omega
      have hzb1 : -10 ≤ z := by omega
      have hzb2 : z ≤ 4000 := by omega
      have hpN : (p : Int) < N := by omega
      have HPZ : Hid ((p : Int) = (N : Int) - ((4 * k + (r + 1) : Nat) : Int)) := by show _ = _; omega
      have hdl : (dig10 (A.take k) ++ digs4 g r).length = 4 * k + r := by rw [List.length_append, HL0.out, digs4_len]
      have hst := HDR.out.step (by rw [hdl]; exact hkN) x
      rw [hdl, List.append_assoc, ← hp, ← hc] at hst
      have hds : digs4 g (r + 1) = digs4 g r ++ [x] := by rw [digs4_succ, hx, hv]
      rw [← hds] at hst
      have hpC : p < C2.length := by have := HDR.out.1; omega
      obtain ⟨hcx2, hfx2⟩ := HRW.out p hpC
      have HR3 := Lib.hid (HRW.out.set p hpC c)
      have HB3 := Lib.hid (below_set HB.out (Nat.le_refl _) (i := p) (.int .u8 (c : Nat)))
      have HST := Lib.hid hst
      have HY := Lib.hid hy2
      rw [← hv, hz]
      clear hr hkN hvb hx hy hy2 hc hz hp hdl hst hds hpC HDR HRW HB hv
      generalize C2.getD p 0 = oldb at *
      go_wp2_with fail
      exact ⟨⟨r + 1, _, by omega, by go_num, by rw [HPZ.out], by rw [← HY.out], HST.out, HR3.out, HB3.out⟩, by simp [intOf]; omega⟩
     ·obtain rfl : r = 4 := by omega
      have hds := HDR.out
      rw [← HNX.out] at hds
      have HDR2 := Lib.hid hds
      obtain ⟨z, hz⟩ : ∃ z : Int, (N : Int) - ((4 * k + 4 : Nat) : Int) = z := ⟨_, rfl⟩
      have HZ : Hid (z = (N : Int) - 4 * ((k + 1 : Nat) : Int)) := by show _ = _; omega
      rw [hz]
      generalize g / 10 ^ 4 = g4 at *
      clear hds HDR hz hr hr4
      go_wp2_with fail
      exact ⟨⟨k + 1, _, by omega, by go_num, by rw [HZ.out], HDR2.out, HRW.out, HB.out⟩, by simp [intOf]; omega⟩
   ·obtain rfl : k = n := by omega
    have ht : A.take k = A := by rw [HN.out, List.take_length]
    have hdr := HDR.out
    rw [ht] at hdr
    have hdl : (dig10 A).length = N := by rw [dig10_len, HNN.out, HN.out]
    obtain ⟨bs, hbs⟩ : ∃ bs, bs = (dig10 A).reverse.map chr10 := ⟨_, rfl⟩
    have hbl : bs.length = N := by rw [hbs]; simp [hdl]
    have hcv := convB wr w.heap.size N bs (fun j hj => by
     rw [(HRW.out j (by rw [hdr.1]; omega)).1, hdr.bytes (dig10_dig A) hdl (by omega), hbs])
    rw [hbl] at hcv
    have HTL : Hid ((⟨(Lib.trimLeftB bs 48).toArray⟩ : ByteArray) = ⟨(natT (leV 10000 A)).toArray⟩) := by
     show _ = _
     rw [Lib.trimLeftB, hbs, text_groups HDA.out HNA.out (fun e => by have := HN.out; rw [e] at this; simp at this; omega)]
    have HTR := Lib.hid (Tryz.strings_TrimLeft_one ⟨bs.toArray⟩ 48 (by decide))
    simp only at HTR
    rw [HTL.out] at HTR
    clear ht hdr hdl hbs hbl HDR hk hlt
    go_wp2_with fail
    refine (HTR.out wr).mono ?_
    rintro e w3 ⟨rfl, rfl⟩
    go_wp2_with fail
    go_ret
    exact ⟨rfl, HB.out⟩
end Go.Proofs.YtofmjkgaaphnkaaGreatDoor
/- IntNum: Numbers with a sign: their form in memory, and the contracts of the small functions on them. -/
namespace Go.Proofs.YtofmjkgaaphnkaaGreatDoor
open Go.RowKit Putlog

/-- A number: its sign, and its absolute value. -/
def NumAt (w : World) (v : Value) (z : Int) : Prop := ∃ a c, v = .agg #[.bool (decide (z < 0)), .slice a (digsL 10000 z.natAbs).length c] ∧ Room (digsL 10000 z.natAbs).length c ∧ CellsAt w a (ofN (digsL 10000 z.natAbs))
theorem NumAt.via {w w' : World} {v : Value} {z : Int} (hB : Below w.heap.size w w') (h : NumAt w v z) : NumAt w' v z := by
 obtain ⟨a, c, h1, h2, h3⟩ := h
 exact ⟨a, c, h1, h2, h3.via hB⟩
theorem info_num : (Tryz.prog.info? 137).map (·.size) = some 2 := by kernel_rfl
/-- What a function gives whose results lie in cells. -/
theorem results_n {fn : Func} {p : Tmp} (h : fn.results = #[.cell p 137]) (tmps : Array Value) (w : World) (g : Nat) (x y : Value) {fr : Nat × Nat} (hp : tmps.getD p undef = .pointer (some ⟨g, 0, none⟩)) (hg : w.heap[g]? = some (.cells #[x, y] 137 fr)) :
  (results fn tmps).run Tryz.prog w = .ok (.agg #[x, y]) w :=
 results_cell_row h tmps w g _ _ _ _ hp hg Tryz.underlying137 rfl info_num
theorem load_n {w : World} {g : Nat} {x y : Value} {fr : Nat × Nat} (hg : w.heap[g]? = some (.cells #[x, y] 137 fr)) : (loadVar 137 ⟨g, 0, none⟩).run Tryz.prog w = .ok (.agg #[x, y]) w :=
 run_loadVar_row w g _ _ _ _ _ hg Tryz.underlying137 rfl info_num
theorem results_nt {fn : Func} {p u : Tmp} (h : fn.results = #[.cell p 137, .tmp u]) (tmps : Array Value) (w : World) (g : Nat) (x y : Value) {fr : Nat × Nat} (hp : tmps.getD p undef = .pointer (some ⟨g, 0, none⟩)) (hg : w.heap[g]? = some (.cells #[x, y] 137 fr)) :
  (results fn tmps).run Tryz.prog w = .ok (.tuple #[.agg #[x, y], tmps.getD u undef]) w := by
 have hp' : tmps[p]?.getD undef = .pointer (some ⟨g, 0, none⟩) := by simpa using hp
 simp [results, h, hp', asAddr, load_n hg]
theorem results_nn {fn : Func} {p q : Tmp} (h : fn.results = #[.cell p 137, .cell q 137]) (tmps : Array Value) (w : World) (g g2 : Nat) (x y x2 y2 : Value) {fr fr2 : Nat × Nat} (hp : tmps.getD p undef = .pointer (some ⟨g, 0, none⟩)) (hg : w.heap[g]? = some (.cells #[x, y] 137 fr))
  (hq : tmps.getD q undef = .pointer (some ⟨g2, 0, none⟩)) (hg2 : w.heap[g2]? = some (.cells #[x2, y2] 137 fr2)) :
  (results fn tmps).run Tryz.prog w = .ok (.tuple #[.agg #[x, y], .agg #[x2, y2]]) w := by
 have hp' : tmps[p]?.getD undef = .pointer (some ⟨g, 0, none⟩) := by simpa using hp
 have hq' : tmps[q]?.getD undef = .pointer (some ⟨g2, 0, none⟩) := by simpa using hq
 simp [results, h, hp', hq', asAddr, load_n hg, load_n hg2]
theorem results_nnt {fn : Func} {p q u : Tmp} (h : fn.results = #[.cell p 137, .cell q 137, .tmp u]) (tmps : Array Value) (w : World) (g g2 : Nat) (x y x2 y2 : Value) {fr fr2 : Nat × Nat} (hp : tmps.getD p undef = .pointer (some ⟨g, 0, none⟩)) (hg : w.heap[g]? = some (.cells #[x, y] 137 fr))
  (hq : tmps.getD q undef = .pointer (some ⟨g2, 0, none⟩)) (hg2 : w.heap[g2]? = some (.cells #[x2, y2] 137 fr2)) :
  (results fn tmps).run Tryz.prog w = .ok (.tuple #[.agg #[x, y], .agg #[x2, y2], tmps.getD u undef]) w := by
 have hp' : tmps[p]?.getD undef = .pointer (some ⟨g, 0, none⟩) := by simpa using hp
 have hq' : tmps[q]?.getD undef = .pointer (some ⟨g2, 0, none⟩) := by simpa using hq
 simp [results, h, hp', hq', asAddr, load_n hg, load_n hg2]
set_option maxRecDepth 100000 in
set_option maxHeartbeats 2000000 in
theorem signed_m (neg : Bool) (a : Option Addr) (n c : Nat) (hn : (n : Int) ≤ 100000) (w : World) :
  Calls Tryz.prog 130 #[.bool neg, .slice a n c] w fun e w' => e = .returned (.agg #[.bool (neg && decide (0 < n)), .slice a n c]) ∧ Below w.heap.size w w' := by
 have h0 : (0 : Int) ≤ n := by omega
 cases neg with
 | false =>
  go_enter Tryz.func130, Tryz.ntmps130
  go_wp2_with fail
  refine bodyPost_ret (results_n rfl _ _ w.heap.size _ _ rfl (heap_alloc_new w _)) rfl ?_
  exact ⟨by simp, (Below.refl _ _).alloc (Nat.le_refl _) _⟩
 | true =>
  go_enter Tryz.func130, Tryz.ntmps130
  go_wp2_with fail
  refine bodyPost_ret (results_n rfl _ _ w.heap.size _ _ rfl (heap_alloc_new w _)) rfl ?_
  exact ⟨by simp, (Below.refl _ _).alloc (Nat.le_refl _) _⟩
theorem digsL_pos_len (N : Nat) : decide (0 < (digsL 10000 N).length) = decide (0 < N) := by
 rcases Nat.eq_zero_or_pos N with h | h
 ·subst h; rw [digsL_zero]; rfl
 ·have : digsL 10000 N ≠ [] := fun e => by have := digsL_nil e; omega
  have := List.length_pos_iff.2 this
  simp [h, this]
theorem signed_any (neg : Bool) (N : Nat) (sv : Value) (w : World) (hN : N < 10000 ^ 250) (hv : MagAt w sv (digsL 10000 N)) :
  Calls Tryz.prog 130 #[.bool neg, sv] w fun e w' => (∃ v, e = .returned v ∧ NumAt w' v (sgn neg N)) ∧ Below w.heap.size w w' := by
 obtain ⟨a, c, rfl, h1, h2⟩ := hv
 refine (signed_m neg a _ c (by have := digsL_len_le hN; omega) w).mono ?_
 rintro e w' ⟨rfl, hB⟩
 have e1 : (sgn neg N).natAbs = N := by unfold sgn; split <;> omega
 refine ⟨⟨_, rfl, a, c, ?_, ?_, ?_⟩, hB⟩
 ·rw [e1]
  congr 3
  rw [digsL_pos_len]
  unfold sgn
  cases neg <;> simp
 ·rw [e1]; exact h1
 ·rw [e1]; exact h2.via hB
/-- The contracts of the magnitudes' functions, by values. -/
theorem big_len {X : Nat} (h : X < 10000 ^ 250) : (digsL 10000 X).length ≤ 250 := digsL_len_le h
theorem mplus (X Y : Nat) (hX : X < 10000 ^ 250) (hY : Y < 10000 ^ 250) (u v : Value) (w : World) (hu : MagAt w u (digsL 10000 X)) (hv : MagAt w v (digsL 10000 Y)) :
  Calls Tryz.prog 140 #[u, v] w fun e w' => (∃ r, e = .returned r ∧ MagAt w' r (digsL 10000 (X + Y))) ∧ Below w.heap.size w w' := by
 obtain ⟨a, ca, rfl, hra, hca⟩ := hu
 obtain ⟨b, cb, rfl, hrb, hcb⟩ := hv
 have := plus_any (digsL 10000 X) (digsL 10000 Y) (digsL_dig (by decide) _) (digsL_dig (by decide) _) (by have := big_len hX; omega) (by have := big_len hY; omega) a b ca cb w hra hrb hca hcb
 rw [leV_digsL (by decide), leV_digsL (by decide)] at this
 exact this.mono fun e w' ⟨⟨v, h1, h2⟩, h3⟩ => ⟨⟨v, h1, h2.mag⟩, h3⟩
theorem mminus (X Y : Nat) (hX : X < 10000 ^ 250) (hle : Y ≤ X) (u v : Value) (w : World) (hu : MagAt w u (digsL 10000 X)) (hv : MagAt w v (digsL 10000 Y)) :
  Calls Tryz.prog 142 #[u, v] w fun e w' => (∃ r, e = .returned r ∧ MagAt w' r (digsL 10000 (X - Y))) ∧ Below w.heap.size w w' := by
 obtain ⟨a, ca, rfl, hra, hca⟩ := hu
 obtain ⟨b, cb, rfl, hrb, hcb⟩ := hv
 have hlen : (digsL 10000 Y).length ≤ (digsL 10000 X).length := digsL_len_le (Nat.lt_of_le_of_lt hle (by have := leV_lt (digsL_dig (B := 10000) (by decide) X); rwa [leV_digsL (by decide)] at this))
 have := minus_any (digsL 10000 X) (digsL 10000 Y) (digsL_dig (by decide) _) (digsL_dig (by decide) _) (by have := big_len hX; omega) hlen (by rw [leV_digsL (by decide), leV_digsL (by decide)]; exact hle) a b ca cb w hra hrb hca hcb
 rw [leV_digsL (by decide), leV_digsL (by decide)] at this
 exact this.mono fun e w' ⟨⟨v, h1, h2⟩, h3⟩ => ⟨⟨v, h1, h2.mag⟩, h3⟩
theorem mtimes (X Y : Nat) (hX : X < 10000 ^ 250) (hY : Y < 10000 ^ 250) (u v : Value) (w : World) (hu : MagAt w u (digsL 10000 X)) (hv : MagAt w v (digsL 10000 Y)) :
  Calls Tryz.prog 138 #[u, v] w fun e w' => (∃ r, e = .returned r ∧ MagAt w' r (digsL 10000 (X * Y))) ∧ Below w.heap.size w w' := by
 obtain ⟨a, ca, rfl, hra, hca⟩ := hu
 obtain ⟨b, cb, rfl, hrb, hcb⟩ := hv
 have := times_any (digsL 10000 X) (digsL 10000 Y) (digsL_dig (by decide) _) (digsL_dig (by decide) _) (by have := big_len hX; omega) (by have := big_len hY; omega) a b ca cb w hra hrb hca hcb
 rw [leV_digsL (by decide), leV_digsL (by decide)] at this
 exact this.mono fun e w' ⟨⟨v, h1, h2⟩, h3⟩ => ⟨⟨v, h1, h2.mag⟩, h3⟩
theorem mcmp (X Y : Nat) (hX : X < 10000 ^ 250) (hY : Y < 10000 ^ 250) (u v : Value) (w : World) (hu : MagAt w u (digsL 10000 X)) (hv : MagAt w v (digsL 10000 Y)) :
  Calls Tryz.prog 141 #[u, v] w fun e w' => e = .returned (.int .i64 (cmpI (X : Nat) (Y : Nat))) ∧ Below w.heap.size w w' := by
 obtain ⟨a, ca, rfl, hra, hca⟩ := hu
 obtain ⟨b, cb, rfl, hrb, hcb⟩ := hv
 have := compare_any (digsL 10000 X) (digsL 10000 Y) (digsL_dig (by decide) _) (digsL_dig (by decide) _) (digsL_norm (by decide) _) (digsL_norm (by decide) _) (by have := big_len hX; omega) (by have := big_len hY; omega) a b ca cb w hra hrb hca hcb
 rwa [leV_digsL (by decide), leV_digsL (by decide)] at this
theorem mdiv (X Y : Nat) (hX : X < 10000 ^ 250) (hY : Y < 10000 ^ 250) (h0 : 0 < Y) (u v : Value) (w : World) (hu : MagAt w u (digsL 10000 X)) (hv : MagAt w v (digsL 10000 Y)) :
  Calls Tryz.prog 153 #[u, v] w fun e w' => (∃ q r, e = .returned (.tuple #[q, r]) ∧ MagAt w' q (digsL 10000 (X / Y)) ∧ MagAt w' r (digsL 10000 (X % Y))) ∧ Below w.heap.size w w' := by
 have := div_any (digsL 10000 X) (digsL 10000 Y) (digsL_dig (by decide) _) (digsL_dig (by decide) _) (digsL_norm (by decide) _) (digsL_norm (by decide) _) (fun e => by have := digsL_nil e; omega) (by have := big_len hX; omega) (by have := big_len hY; omega) u v w hu hv
 rwa [leV_digsL (by decide), leV_digsL (by decide)] at this
theorem mdigits (X : Nat) (hX : X < 10000 ^ 250) (v : Value) (w : World) (hv : MagAt w v (digsL 10000 X)) :
  Calls Tryz.prog 155 #[v] w fun e w' => e = .returned (.string ⟨(natT X).toArray⟩) ∧ Below w.heap.size w w' := by
 have := digits_any (digsL 10000 X) (digsL_dig (by decide) _) (digsL_norm (by decide) _) (by have := big_len hX; omega) v w hv
 rwa [leV_digsL (by decide)] at this

/-- Two numbers in boxes, and the box of the result. -/
structure Box3 (w W : World) (x1 x2 y1 y2 : Value) : Prop where
 a1 : W.cell? ⟨w.heap.size, 0, none⟩ = some x1
 a2 : W.cell? ⟨w.heap.size, 1, none⟩ = some x2
 b1 : W.cell? ⟨w.heap.size + 1, 0, none⟩ = some y1
 b2 : W.cell? ⟨w.heap.size + 1, 1, none⟩ = some y2
 r : W.heap[w.heap.size + 1 + 1]? = some (.cells #[.bool false, .slice none 0 0] 137 (0, 0))
 bel : Below w.heap.size w W
theorem alloc_below (w : World) (o : Obj) : Below w.heap.size w (w.alloc o) := (Below.refl _ _).alloc (Nat.le_refl _) _
theorem alloc_size (w : World) (o : Obj) : (w.alloc o).heap.size = w.heap.size + 1 := by simp
theorem box3_made (w : World) (x1 x2 y1 y2 : Value) : Box3 w (((w.alloc (.cells #[x1, x2] 137)).alloc (.cells #[y1, y2] 137)).alloc (.cells #[.bool false, .slice none 0 0] 137)) x1 x2 y1 y2 := by
 have h1 := heap_alloc_new w (.cells #[x1, x2] 137)
 have b1 := alloc_below w (.cells #[x1, x2] 137)
 have s1 := alloc_size w (.cells #[x1, x2] 137)
 generalize w.alloc (.cells #[x1, x2] 137) = w1 at *
 have h2 := heap_alloc_new w1 (.cells #[y1, y2] 137)
 have b2 := alloc_below w1 (.cells #[y1, y2] 137)
 have s2 := alloc_size w1 (.cells #[y1, y2] 137)
 generalize w1.alloc (.cells #[y1, y2] 137) = w2 at *
 have h3 := heap_alloc_new w2 (.cells #[.bool false, .slice none 0 0] 137)
 have b3 := alloc_below w2 (.cells #[.bool false, .slice none 0 0] 137)
 generalize w2.alloc (.cells #[.bool false, .slice none 0 0] 137) = w3 at *
 rw [s1] at h2
 rw [s2, s1] at h3
 exact ⟨keptBelow b3 (keptBelow b2 ((cell_of_row w1 _ 0 _ _ _ h1).trans rfl)), keptBelow b3 (keptBelow b2 ((cell_of_row w1 _ 1 _ _ _ h1).trans rfl)), keptBelow b3 ((cell_of_row w2 _ 0 _ _ _ h2).trans rfl), keptBelow b3 ((cell_of_row w2 _ 1 _ _ _ h2).trans rfl), h3, belowVia b3 (belowVia b2 b1)⟩
theorem heap_below {w w' : World} {g : Nat} {o : Obj} (hB : Below w.heap.size w w') (h : w.heap[g]? = some o) : w'.heap[g]? = some o := (hB.block g (Array.getElem?_eq_some_iff.1 h).1).trans h
theorem Box3.via {w W W' : World} {x1 x2 y1 y2 : Value} (hB : Below W.heap.size W W') (h : Box3 w W x1 x2 y1 y2) : Box3 w W' x1 x2 y1 y2 :=
 ⟨keptBelow hB h.a1, keptBelow hB h.a2, keptBelow hB h.b1, keptBelow hB h.b2, heap_below hB h.r, belowVia hB h.bel⟩
/-- What a store to the box of the result leaves. -/
theorem Box3.res {w W : World} {x1 x2 y1 y2 r1 r2 : Value} (h : Box3 w W x1 x2 y1 y2) : ((W.setCell ⟨w.heap.size + 1 + 1, 0, none⟩ r1).setCell ⟨w.heap.size + 1 + 1, 1, none⟩ r2).heap[w.heap.size + 1 + 1]? = some (.cells #[r1, r2] 137 (0, 0)) := by
 have h1 := heap_setCell_same W _ 0 _ _ r1 h.r
 exact heap_setCell_same _ _ 1 _ _ r2 h1
theorem cell_o {w : World} {g b i j : Nat} {v x : Value} (h : w.cell? ⟨b, j, none⟩ = some x) (hne : g ≠ b) : (w.setCell ⟨g, i, none⟩ v).cell? ⟨b, j, none⟩ = some x := by
 rw [World.cell?_setCell_other _ _ _ _ (fun e => hne (congrArg Addr.block e))]; exact h
theorem cell_o2 {w : World} {b j p : Nat} {v v2 x : Value} (h : w.cell? ⟨b, j, none⟩ = some x) (hne : b < p) : ((w.setCell ⟨p, 0, none⟩ v).setCell ⟨p, 1, none⟩ v2).cell? ⟨b, j, none⟩ = some x := cell_o (cell_o h (by omega)) (by omega)
theorem cells_res {w : World} {a : Option Addr} {l : List Int} {p : Nat} {b : Bool} {x : Option Addr} {n c : Nat} {t : TypeId} {v v2 : Value} (h : CellsAt w a l) (hp : w.heap[p]? = some (.cells #[.bool b, .slice x n c] t (0, 0))) : CellsAt ((w.setCell ⟨p, 0, none⟩ v).setCell ⟨p, 1, none⟩ v2) a l := by
 rcases h with h | ⟨g, o, h1, h2⟩
 ·exact .inl h
 ·refine .inr ⟨g, o, h1, fun j hj => ?_⟩
  have h3 := h2 j hj
  have hne : p ≠ g := by
   rintro rfl
   rw [cell_of_row w p (o + j) _ _ _ hp] at h3
   rcases Nat.lt_or_ge (o + j) 2 with h4 | h4
   ·rcases (show o + j = 0 ∨ o + j = 1 by omega) with h5 | h5 <;> rw [h5] at h3 <;> simp at h3
   ·rw [Array.getElem?_eq_none (by simpa using h4)] at h3; cases h3
  exact cell_o (cell_o h3 hne) hne
theorem below_res {B : Nat} {a w : World} (h : Below B a w) {p : Nat} (hp : B ≤ p) (v v2 : Value) : Below B a ((w.setCell ⟨p, 0, none⟩ v).setCell ⟨p, 1, none⟩ v2) := (h.setCell (p := ⟨p, 0, none⟩) hp v).setCell (p := ⟨p, 1, none⟩) hp v2
theorem mag_of_num {w : World} {a : Option Addr} {c N : Nat} (h1 : Room (digsL 10000 N).length c) (h2 : CellsAt w a (ofN (digsL 10000 N))) : MagAt w (.slice a (digsL 10000 N).length c) (digsL 10000 N) := ⟨a, c, rfl, h1, h2⟩
set_option maxRecDepth 100000 in
set_option maxHeartbeats 4000000 in
theorem plus_same (x y : Int) (hx : x.natAbs < 10000 ^ 120) (hy : y.natAbs < 10000 ^ 120) (hs : (x < 0) ↔ (y < 0)) (u v : Value) (w : World) (hu : NumAt w u x) (hv : NumAt w v y)  :
  Calls Tryz.prog 114 #[u, v] w fun e w' => (∃ r, e = .returned r ∧ NumAt w' r (x + y)) ∧ Below w.heap.size w w' := by
 obtain ⟨a, ca, rfl, hra, hca⟩ := hu
 obtain ⟨b, cb, rfl, hrb, hcb⟩ := hv
 obtain ⟨sx, hsx⟩ : ∃ sx, sx = decide (x < 0) := ⟨_, rfl⟩
 have hsy : decide (y < 0) = sx := by rw [hsx]; simp [hs]
 have hu := mag_of_num hra hca
 have hv := mag_of_num hrb hcb
 have up : ∀ {n : Nat}, n < 10000 ^ 120 → n < 10000 ^ 250 := fun h => Nat.lt_of_lt_of_le h (Nat.pow_le_pow_right (by decide) (by decide))
 have HP := Lib.hid (fun W hu hv => mplus x.natAbs y.natAbs (up hx) (up hy) _ _ W (MagAt.via hu (mag_of_num hra hca)) (MagAt.via hv (mag_of_num hrb hcb)))
 have hN : x.natAbs + y.natAbs < 10000 ^ 250 := Nat.lt_of_lt_of_le (show _ < 10000 ^ 121 by rw [Nat.pow_succ]; omega) (Nat.pow_le_pow_right (by decide) (by decide))
 have HS := Lib.hid (fun sv W hm => signed_any sx (x.natAbs + y.natAbs) sv W hN hm)
 have hz : sgn sx (x.natAbs + y.natAbs) = x + y := by
  unfold sgn
  rw [hsx]
  by_cases h : x < 0
  ·have := hs.1 h; simp [h]; omega
  ·have : ¬ y < 0 := fun k => h (hs.2 k)
   simp [h]; omega
 rw [hz] at HS
 rw [← hsx, hsy]
 clear hsx hsy hu hv hN hz hs
 generalize (digsL 10000 x.natAbs).length = n at *
 generalize (digsL 10000 y.natAbs).length = m at *
 go_enter Tryz.func114, Tryz.ntmps114
 go_wp2_with fail
 have hbx := box3_made w (.bool sx) (.slice a n ca) (.bool sx) (.slice b m cb)
 generalize World.alloc (World.alloc _ _) _ = W at hbx ⊢
 have ha1 := hbx.a1
 have ha2 := hbx.a2
 have hb2 := hbx.b2
 have HBX := Lib.hid hbx
 clear hbx
 go_region_held3 (fun w' => w'.cell? ⟨w.heap.size, 0, none⟩ = some (.bool sx) ∧ w'.cell? ⟨w.heap.size, 1, none⟩ = some (.slice a n ca) ∧ w'.cell? ⟨w.heap.size + 1, 1, none⟩ = some (.slice b m cb)) (first | exact ⟨ha1, ha2, hb2⟩ | exact ⟨keptBelow hB1 ha1, keptBelow hB1 ha2, keptBelow hB1 hb2⟩ | exact ⟨keptBelow hB2 (keptBelow hB1 ha1), keptBelow hB2 (keptBelow hB1 ha2), keptBelow hB2 (keptBelow hB1 hb2)⟩ | exact ⟨cell_o2 hbx2.a1 (by omega), cell_o2 hbx2.a2 (by omega), cell_o2 hbx2.b2 (by omega)⟩) (first
  | (go_at_call 140; (with_reducible refine (HP.out _ ?_ ?_).mono ?_); exact HBX.out.bel.drew; exact HBX.out.bel.drew; rintro e w1 ⟨⟨r1, rfl, hm1⟩, hB1⟩)
  | (go_at_call 130; (with_reducible refine (HS.out _ _ ?_).mono ?_); exact hm1; rintro e w2 ⟨⟨r2, rfl, hn2⟩, hB2⟩; obtain ⟨a9, c9, rfl, hr9, hc9⟩ := hn2; have hB3 := HBX.out.via (undrew hB1); have hbx2 := hB3.via hB2; have hq1 := (cell_of_row w2 _ 0 _ _ _ hbx2.r).trans rfl; have hq2 := (cell_of_row w2 _ 1 _ _ _ hbx2.r).trans rfl; have hf1 := frozen_of_row w2 _ 0 _ _ hbx2.r; have hf2 := frozen_of_row w2 _ 1 _ _ hbx2.r))
 go_wp2_with fail
 refine bodyPost_ret (results_n rfl _ _ (w.heap.size + 1 + 1) _ _ rfl hbx2.res) rfl ?_
 exact ⟨⟨_, rfl, a9, c9, rfl, hr9, cells_res hc9 hbx2.r⟩, below_res hbx2.bel (by omega) _ _⟩
end Go.Proofs.YtofmjkgaaphnkaaGreatDoor
/- IntPlus: The contract of the sum of numbers with a sign. -/
namespace Go.Proofs.YtofmjkgaaphnkaaGreatDoor
open Go.RowKit Putlog

set_option maxRecDepth 100000 in
set_option maxHeartbeats 4000000 in
theorem plus_ge2 (x y : Int) (hx : x.natAbs < 10000 ^ 120) (hy : y.natAbs < 10000 ^ 120) (hs : (x < 0) ↔ ¬ (y < 0)) (hle : y.natAbs ≤ x.natAbs) (u v : Value) (w : World) (hu : NumAt w u x) (hv : NumAt w v y)  :
  Calls Tryz.prog 114 #[u, v] w fun e w' => (∃ r, e = .returned r ∧ NumAt w' r (x + y)) ∧ Below w.heap.size w w' := by
 obtain ⟨a, ca, rfl, hra, hca⟩ := hu
 obtain ⟨b, cb, rfl, hrb, hcb⟩ := hv
 obtain ⟨sx, hsx⟩ : ∃ sx, sx = decide (x < 0) := ⟨_, rfl⟩
 obtain ⟨sy, hsy⟩ : ∃ sy, sy = decide (y < 0) := ⟨_, rfl⟩
 have hne : (sx == sy) = false := by rw [hsx, hsy]; by_cases h : x < 0 <;> by_cases k : y < 0 <;> simp [h, k] <;> omega
 have up : ∀ {n : Nat}, n < 10000 ^ 120 → n < 10000 ^ 250 := fun h => Nat.lt_of_lt_of_le h (Nat.pow_le_pow_right (by decide) (by decide))
 have HP := Lib.hid (fun W hu hv => mminus x.natAbs y.natAbs (up hx) hle _ _ W (MagAt.via hu (mag_of_num hra hca)) (MagAt.via hv (mag_of_num hrb hcb)))
 have hN : x.natAbs - y.natAbs < 10000 ^ 250 := up (Nat.lt_of_le_of_lt (Nat.sub_le _ _) hx)
 have HS := Lib.hid (fun sv W hm => signed_any sx (x.natAbs - y.natAbs) sv W hN hm)
 have hz : sgn sx (x.natAbs - y.natAbs) = x + y := by
  unfold sgn
  rw [hsx]
  by_cases h : x < 0 <;> by_cases k : y < 0 <;> simp [h] <;> omega
 rw [hz] at HS
 have hcm := fun W hu hv => mcmp x.natAbs y.natAbs (up hx) (up hy) _ _ W (MagAt.via hu (mag_of_num hra hca)) (MagAt.via hv (mag_of_num hrb hcb))
 obtain ⟨k, hk0⟩ : ∃ k, k = cmpI (x.natAbs : Nat) (y.natAbs : Nat) := ⟨_, rfl⟩
 have hkk : 0 ≤ k := by rw [hk0]; unfold cmpI; split <;> (try split) <;> omega
 have hkb : -1 ≤ k ∧ k ≤ 1 := by rw [hk0]; unfold cmpI; split <;> (try split) <;> omega
 rw [← hk0] at hcm
 have HC := Lib.hid hcm
 rw [← hsx, ← hsy]
 clear hsx hsy hN hz hs hcm hk0 hle
 generalize (digsL 10000 x.natAbs).length = n at *
 generalize (digsL 10000 y.natAbs).length = m at *
 go_enter Tryz.func114, Tryz.ntmps114
 go_wp2_with fail
 have hbx := box3_made w (.bool sx) (.slice a n ca) (.bool sy) (.slice b m cb)
 generalize World.alloc (World.alloc _ _) _ = W0 at hbx ⊢
 refine (HC.out W0 hbx.bel hbx.bel).mono ?_
 rintro e W ⟨rfl, hB0⟩
 have hbx := hbx.via hB0
 have ha1 := hbx.a1
 have ha2 := hbx.a2
 have hb1 := hbx.b1
 have hb2 := hbx.b2
 have HBX := Lib.hid hbx
 clear hbx hB0
 go_wp2_with fail
 go_region_held3 (fun w' => w'.cell? ⟨w.heap.size, 0, none⟩ = some (.bool sx) ∧ w'.cell? ⟨w.heap.size, 1, none⟩ = some (.slice a n ca) ∧ w'.cell? ⟨w.heap.size + 1, 1, none⟩ = some (.slice b m cb)) (first | exact ⟨ha1, ha2, hb2⟩ | exact ⟨keptBelow hB1 ha1, keptBelow hB1 ha2, keptBelow hB1 hb2⟩ | exact ⟨keptBelow hB2 (keptBelow hB1 ha1), keptBelow hB2 (keptBelow hB1 ha2), keptBelow hB2 (keptBelow hB1 hb2)⟩ | exact ⟨cell_o2 hbx2.a1 (by omega), cell_o2 hbx2.a2 (by omega), cell_o2 hbx2.b2 (by omega)⟩) (first
  | (go_at_call 142; (with_reducible refine (HP.out _ ?_ ?_).mono ?_); exact HBX.out.bel.drew; exact HBX.out.bel.drew; rintro e w1 ⟨⟨r1, rfl, hm1⟩, hB1⟩)
  | (go_at_call 130; (with_reducible refine (HS.out _ _ ?_).mono ?_); exact hm1; rintro e w2 ⟨⟨r2, rfl, hn2⟩, hB2⟩; obtain ⟨a9, c9, rfl, hr9, hc9⟩ := hn2; have hB3 := HBX.out.via (undrew hB1); have hbx2 := hB3.via hB2; have hq1 := (cell_of_row w2 _ 0 _ _ _ hbx2.r).trans rfl; have hq2 := (cell_of_row w2 _ 1 _ _ _ hbx2.r).trans rfl; have hf1 := frozen_of_row w2 _ 0 _ _ hbx2.r; have hf2 := frozen_of_row w2 _ 1 _ _ hbx2.r))
 go_wp2_with fail
 refine bodyPost_ret (results_n rfl _ _ (w.heap.size + 1 + 1) _ _ rfl hbx2.res) rfl ?_
 exact ⟨⟨_, rfl, a9, c9, rfl, hr9, cells_res hc9 hbx2.r⟩, below_res hbx2.bel (by omega) _ _⟩
set_option maxRecDepth 100000 in
set_option maxHeartbeats 4000000 in
theorem plus_lt2 (x y : Int) (hx : x.natAbs < 10000 ^ 120) (hy : y.natAbs < 10000 ^ 120) (hs : (x < 0) ↔ ¬ (y < 0)) (hle : x.natAbs < y.natAbs) (u v : Value) (w : World) (hu : NumAt w u x) (hv : NumAt w v y)  :
  Calls Tryz.prog 114 #[u, v] w fun e w' => (∃ r, e = .returned r ∧ NumAt w' r (x + y)) ∧ Below w.heap.size w w' := by
 obtain ⟨a, ca, rfl, hra, hca⟩ := hu
 obtain ⟨b, cb, rfl, hrb, hcb⟩ := hv
 obtain ⟨sx, hsx⟩ : ∃ sx, sx = decide (x < 0) := ⟨_, rfl⟩
 obtain ⟨sy, hsy⟩ : ∃ sy, sy = decide (y < 0) := ⟨_, rfl⟩
 have hne : (sx == sy) = false := by rw [hsx, hsy]; by_cases h : x < 0 <;> by_cases k : y < 0 <;> simp [h, k] <;> omega
 have up : ∀ {n : Nat}, n < 10000 ^ 120 → n < 10000 ^ 250 := fun h => Nat.lt_of_lt_of_le h (Nat.pow_le_pow_right (by decide) (by decide))
 have HP := Lib.hid (fun W hu hv => mminus y.natAbs x.natAbs (up hy) (Nat.le_of_lt hle) _ _ W (MagAt.via hu (mag_of_num hrb hcb)) (MagAt.via hv (mag_of_num hra hca)))
 have hN : y.natAbs - x.natAbs < 10000 ^ 250 := up (Nat.lt_of_le_of_lt (Nat.sub_le _ _) hy)
 have HS := Lib.hid (fun sv W hm => signed_any sy (y.natAbs - x.natAbs) sv W hN hm)
 have hz : sgn sy (y.natAbs - x.natAbs) = x + y := by
  unfold sgn
  rw [hsy]
  by_cases h : x < 0 <;> by_cases k : y < 0 <;> simp [k] <;> omega
 rw [hz] at HS
 have hcm := fun W hu hv => mcmp x.natAbs y.natAbs (up hx) (up hy) _ _ W (MagAt.via hu (mag_of_num hra hca)) (MagAt.via hv (mag_of_num hrb hcb))
 have hk0 : cmpI (x.natAbs : Nat) (y.natAbs : Nat) = -1 := by unfold cmpI; rw [if_pos (by omega)]
 rw [hk0] at hcm
 have HC := Lib.hid hcm
 rw [← hsx, ← hsy]
 clear hsx hsy hN hz hs hcm hk0 hle
 generalize (digsL 10000 x.natAbs).length = n at *
 generalize (digsL 10000 y.natAbs).length = m at *
 go_enter Tryz.func114, Tryz.ntmps114
 go_wp2_with fail
 have hbx := box3_made w (.bool sx) (.slice a n ca) (.bool sy) (.slice b m cb)
 generalize World.alloc (World.alloc _ _) _ = W0 at hbx ⊢
 refine (HC.out W0 hbx.bel hbx.bel).mono ?_
 rintro e W ⟨rfl, hB0⟩
 have hbx := hbx.via hB0
 have ha1 := hbx.a1
 have ha2 := hbx.a2
 have hb1 := hbx.b1
 have hb2 := hbx.b2
 have HBX := Lib.hid hbx
 clear hbx hB0
 go_wp2_with fail
 go_region_held3 (fun w' => w'.cell? ⟨w.heap.size + 1, 0, none⟩ = some (.bool sy) ∧ w'.cell? ⟨w.heap.size + 1, 1, none⟩ = some (.slice b m cb) ∧ w'.cell? ⟨w.heap.size, 1, none⟩ = some (.slice a n ca)) (first | exact ⟨hb1, hb2, ha2⟩ | exact ⟨keptBelow hB1 hb1, keptBelow hB1 hb2, keptBelow hB1 ha2⟩ | exact ⟨keptBelow hB2 (keptBelow hB1 hb1), keptBelow hB2 (keptBelow hB1 hb2), keptBelow hB2 (keptBelow hB1 ha2)⟩ | exact ⟨cell_o2 hbx2.b1 (by omega), cell_o2 hbx2.b2 (by omega), cell_o2 hbx2.a2 (by omega)⟩) (first
  | (go_at_call 142; (with_reducible refine (HP.out _ ?_ ?_).mono ?_); exact HBX.out.bel.drew; exact HBX.out.bel.drew; rintro e w1 ⟨⟨r1, rfl, hm1⟩, hB1⟩)
  | (go_at_call 130; (with_reducible refine (HS.out _ _ ?_).mono ?_); exact hm1; rintro e w2 ⟨⟨r2, rfl, hn2⟩, hB2⟩; obtain ⟨a9, c9, rfl, hr9, hc9⟩ := hn2; have hB3 := HBX.out.via (undrew hB1); have hbx2 := hB3.via hB2; have hq1 := (cell_of_row w2 _ 0 _ _ _ hbx2.r).trans rfl; have hq2 := (cell_of_row w2 _ 1 _ _ _ hbx2.r).trans rfl; have hf1 := frozen_of_row w2 _ 0 _ _ hbx2.r; have hf2 := frozen_of_row w2 _ 1 _ _ hbx2.r))
 go_wp2_with fail
 refine bodyPost_ret (results_n rfl _ _ (w.heap.size + 1 + 1) _ _ rfl hbx2.res) rfl ?_
 exact ⟨⟨_, rfl, a9, c9, rfl, hr9, cells_res hc9 hbx2.r⟩, below_res hbx2.bel (by omega) _ _⟩
theorem nplus (x y : Int) (hx : x.natAbs < 10000 ^ 120) (hy : y.natAbs < 10000 ^ 120) (u v : Value) (w : World) (hu : NumAt w u x) (hv : NumAt w v y)  :
  Calls Tryz.prog 114 #[u, v] w fun e w' => (∃ r, e = .returned r ∧ NumAt w' r (x + y)) ∧ Below w.heap.size w w' := by
 by_cases hs : (x < 0) ↔ (y < 0)
 ·exact plus_same x y hx hy hs u v w hu hv
 ·have hs2 : (x < 0) ↔ ¬ (y < 0) := by
   by_cases h : x < 0 <;> by_cases k : y < 0 <;> simp [h, k] at hs ⊢
  rcases Nat.lt_or_ge x.natAbs y.natAbs with h | h
  ·exact plus_lt2 x y hx hy hs2 h u v w hu hv
  ·exact plus_ge2 x y hx hy hs2 h u v w hu hv
end Go.Proofs.YtofmjkgaaphnkaaGreatDoor
/- IntNum2: The contracts of the other functions on numbers with a sign: negation, difference, product, order, text. -/
namespace Go.Proofs.YtofmjkgaaphnkaaGreatDoor
open Go.RowKit Putlog

theorem up250 {n : Nat} (h : n < 10000 ^ 120) : n < 10000 ^ 250 := Nat.lt_of_lt_of_le h (Nat.pow_le_pow_right (by decide) (by decide))
/-- A number in a box, and the box of the result. -/
structure Box2 (w W : World) (x1 x2 : Value) : Prop where
 a1 : W.cell? ⟨w.heap.size, 0, none⟩ = some x1
 a2 : W.cell? ⟨w.heap.size, 1, none⟩ = some x2
 r : W.heap[w.heap.size + 1]? = some (.cells #[.bool false, .slice none 0 0] 137 (0, 0))
 bel : Below w.heap.size w W
theorem box2_made (w : World) (x1 x2 : Value) : Box2 w ((w.alloc (.cells #[x1, x2] 137)).alloc (.cells #[.bool false, .slice none 0 0] 137)) x1 x2 := by
 have h1 := heap_alloc_new w (.cells #[x1, x2] 137)
 have b1 := alloc_below w (.cells #[x1, x2] 137)
 have s1 := alloc_size w (.cells #[x1, x2] 137)
 generalize w.alloc (.cells #[x1, x2] 137) = w1 at *
 have h3 := heap_alloc_new w1 (.cells #[.bool false, .slice none 0 0] 137)
 have b3 := alloc_below w1 (.cells #[.bool false, .slice none 0 0] 137)
 generalize w1.alloc (.cells #[.bool false, .slice none 0 0] 137) = w3 at *
 rw [s1] at h3
 exact ⟨keptBelow b3 ((cell_of_row w1 _ 0 _ _ _ h1).trans rfl), keptBelow b3 ((cell_of_row w1 _ 1 _ _ _ h1).trans rfl), h3, belowVia b3 b1⟩
theorem Box2.via {w W W' : World} {x1 x2 : Value} (hB : Below W.heap.size W W') (h : Box2 w W x1 x2) : Box2 w W' x1 x2 :=
 ⟨keptBelow hB h.a1, keptBelow hB h.a2, heap_below hB h.r, belowVia hB h.bel⟩
theorem Box2.res {w W : World} {x1 x2 r1 r2 : Value} (h : Box2 w W x1 x2) : ((W.setCell ⟨w.heap.size + 1, 0, none⟩ r1).setCell ⟨w.heap.size + 1, 1, none⟩ r2).heap[w.heap.size + 1]? = some (.cells #[r1, r2] 137 (0, 0)) := by
 have h1 := heap_setCell_same W _ 0 _ _ r1 h.r
 exact heap_setCell_same _ _ 1 _ _ r2 h1
theorem prod_lt {X Y : Nat} (hX : X < 10000 ^ 120) (hY : Y < 10000 ^ 120) : X * Y < 10000 ^ 250 := Nat.lt_of_lt_of_le (by rw [show (240 : Nat) = 120 + 120 from rfl, Nat.pow_add]; exact Nat.mul_lt_mul_of_lt_of_le hX (Nat.le_of_lt hY) (Nat.pow_pos (by decide)) : X * Y < 10000 ^ 240) (Nat.pow_le_pow_right (by decide) (by decide))
theorem sgn_mul (x y : Int) : sgn (decide (x < 0) != decide (y < 0)) (x.natAbs * y.natAbs) = x * y := by
 have h := Int.natAbs_mul x y
 rw [← h]
 unfold sgn
 by_cases hx : x < 0 <;> by_cases hy : y < 0
 ·have : 0 < x * y := Int.mul_pos_of_neg_of_neg hx hy
  simp [hx, hy]; omega
 ·have : x * y ≤ 0 := Int.mul_nonpos_of_nonpos_of_nonneg (by omega) (by omega)
  simp [hx, hy]; omega
 ·have : x * y ≤ 0 := Int.mul_nonpos_of_nonneg_of_nonpos (by omega) (by omega)
  simp [hx, hy]; omega
 ·have : 0 ≤ x * y := Int.mul_nonneg (by omega) (by omega)
  simp [hx, hy]; omega
set_option maxRecDepth 100000 in
set_option maxHeartbeats 4000000 in
theorem ntimes (x y : Int) (hx : x.natAbs < 10000 ^ 120) (hy : y.natAbs < 10000 ^ 120) (u v : Value) (w : World) (hu : NumAt w u x) (hv : NumAt w v y)  :
  Calls Tryz.prog 111 #[u, v] w fun e w' => (∃ r, e = .returned r ∧ NumAt w' r (x * y)) ∧ Below w.heap.size w w' := by
 obtain ⟨a, ca, rfl, hra, hca⟩ := hu
 obtain ⟨b, cb, rfl, hrb, hcb⟩ := hv
 have HP := Lib.hid (fun W hu hv => mtimes x.natAbs y.natAbs (up250 hx) (up250 hy) _ _ W (MagAt.via hu (mag_of_num hra hca)) (MagAt.via hv (mag_of_num hrb hcb)))
 have HS := Lib.hid (fun sv W hm => signed_any (decide (x < 0) != decide (y < 0)) (x.natAbs * y.natAbs) sv W (prod_lt hx hy) hm)
 rw [sgn_mul x y] at HS
 obtain ⟨z, hzz⟩ : ∃ z, z = x * y := ⟨_, rfl⟩
 rw [← hzz] at HS ⊢
 clear hzz
 generalize (digsL 10000 x.natAbs).length = n at *
 generalize (digsL 10000 y.natAbs).length = m at *
 generalize decide (x < 0) = sx at *
 generalize decide (y < 0) = sy at *
 obtain ⟨t, ht⟩ : ∃ t, (sx != sy) = t := ⟨_, rfl⟩
 rw [ht] at HS
 have ht2 : (!(sx == sy)) = t := ht
 clear hx hy ht
 go_enter Tryz.func111, Tryz.ntmps111
 go_wp2_with fail
 have hbx := box3_made w (.bool sx) (.slice a n ca) (.bool sy) (.slice b m cb)
 generalize World.alloc (World.alloc _ _) _ = W at hbx ⊢
 have ha1 := hbx.a1
 have ha2 := hbx.a2
 have hb1 := hbx.b1
 have hb2 := hbx.b2
 have HBX := Lib.hid hbx
 clear hbx
 go_region_held3 (fun w' => w'.cell? ⟨w.heap.size, 0, none⟩ = some (.bool sx) ∧ w'.cell? ⟨w.heap.size, 1, none⟩ = some (.slice a n ca) ∧ w'.cell? ⟨w.heap.size + 1, 0, none⟩ = some (.bool sy) ∧ w'.cell? ⟨w.heap.size + 1, 1, none⟩ = some (.slice b m cb)) (first | exact ⟨ha1, ha2, hb1, hb2⟩ | exact ⟨keptBelow hB1 ha1, keptBelow hB1 ha2, keptBelow hB1 hb1, keptBelow hB1 hb2⟩ | exact ⟨keptBelow hB2 (keptBelow hB1 ha1), keptBelow hB2 (keptBelow hB1 ha2), keptBelow hB2 (keptBelow hB1 hb1), keptBelow hB2 (keptBelow hB1 hb2)⟩ | exact ⟨cell_o2 hbx2.a1 (by omega), cell_o2 hbx2.a2 (by omega), cell_o2 hbx2.b1 (by omega), cell_o2 hbx2.b2 (by omega)⟩) (first
  | (go_at_call 138; (with_reducible refine (HP.out _ ?_ ?_).mono ?_); exact HBX.out.bel.drew; exact HBX.out.bel.drew; rintro e w1 ⟨⟨r1, rfl, hm1⟩, hB1⟩)
  | (go_at_call 130; (with_reducible refine (HS.out _ _ ?_).mono ?_); exact hm1; rintro e w2 ⟨⟨r2, rfl, hn2⟩, hB2⟩; obtain ⟨a9, c9, rfl, hr9, hc9⟩ := hn2; have hB3 := HBX.out.via (undrew hB1); have hbx2 := hB3.via hB2; have hq1 := (cell_of_row w2 _ 0 _ _ _ hbx2.r).trans rfl; have hq2 := (cell_of_row w2 _ 1 _ _ _ hbx2.r).trans rfl; have hf1 := frozen_of_row w2 _ 0 _ _ hbx2.r; have hf2 := frozen_of_row w2 _ 1 _ _ hbx2.r))
 go_wp2_with fail
 refine bodyPost_ret (results_n rfl _ _ (w.heap.size + 1 + 1) _ _ rfl hbx2.res) rfl ?_
 exact ⟨⟨_, rfl, a9, c9, rfl, hr9, cells_res hc9 hbx2.r⟩, below_res hbx2.bel (by omega) _ _⟩
end Go.Proofs.YtofmjkgaaphnkaaGreatDoor
/- IntNum3: The contracts of the order, the text and the division of numbers with a sign. -/
namespace Go.Proofs.YtofmjkgaaphnkaaGreatDoor
open Go.RowKit Putlog

theorem ba_cons (c : UInt8) (l : List UInt8) : (⟨#[c]⟩ : ByteArray) ++ (⟨l.toArray⟩ : ByteArray) = ⟨(c :: l).toArray⟩ := by
 apply ByteArray.ext
 simp [ByteArray.data_append]
set_option maxRecDepth 100000 in
set_option maxHeartbeats 4000000 in
theorem ntext (x : Int) (hx : x.natAbs < 10000 ^ 250) (u : Value) (w : World) (hu : NumAt w u x) :
  Calls Tryz.prog 135 #[u] w fun e w' => e = .returned (.string (intB x)) ∧ Below w.heap.size w w' := by
 obtain ⟨a, ca, rfl, hra, hca⟩ := hu
 have HD := Lib.hid (fun W hm => mdigits x.natAbs hx _ W (MagAt.via hm (mag_of_num hra hca)))
 have hlen := (natT_len x.natAbs (4 * 250) (by decide)).2 (by rw [show (10000 : Nat) = 10 ^ 4 from rfl, ← Nat.pow_mul] at hx; exact hx)
 obtain ⟨d, hd⟩ : ∃ d : ByteArray, d = ⟨(natT x.natAbs).toArray⟩ := ⟨_, rfl⟩
 have hds : (d.size : Int) ≤ 1000 := by rw [hd]; show ((natT x.natAbs).toArray.size : Int) ≤ 1000; rw [List.size_toArray]; omega
 have HI : Hid (intB x = if x < 0 then (⟨#[45]⟩ : ByteArray) ++ d else d) := by
  show _ = _
  unfold intB intT
  rw [hd]
  split
  ·rw [ba_cons]
  ·rfl
 rw [← hd] at HD
 generalize (digsL 10000 x.natAbs).length = n at *
 by_cases h : x < 0
 ·have e1 : decide (x < 0) = true := by simp [h]
  rw [e1]
  rw [if_pos h] at HI
  rw [HI.out]
  clear hx hlen hd h e1 HI
  go_enter Tryz.func135, Tryz.ntmps135
  go_wp2_with fail
  refine (HD.out _ (alloc_below _ _)).mono ?_
  rintro e w1 ⟨rfl, hB1⟩
  go_wp2_with fail
  go_ret
  exact ⟨rfl, belowVia hB1 (alloc_below _ _)⟩
 ·have e1 : decide (x < 0) = false := by simp; omega
  rw [e1]
  rw [if_neg h] at HI
  rw [HI.out]
  clear hx hlen hd h e1 HI
  go_enter Tryz.func135, Tryz.ntmps135
  go_wp2_with fail
  refine (HD.out _ (alloc_below _ _)).mono ?_
  rintro e w1 ⟨rfl, hB1⟩
  go_wp2_with fail
  go_ret
  exact ⟨rfl, belowVia hB1 (alloc_below _ _)⟩
set_option maxRecDepth 100000 in
set_option maxHeartbeats 4000000 in
theorem nzero (x : Int) (hx : x.natAbs < 10000 ^ 250) (u : Value) (w : World) (hu : NumAt w u x) :
  Calls Tryz.prog 133 #[u] w fun e w' => e = .returned (.bool (decide (x = 0))) ∧ Below w.heap.size w w' := by
 obtain ⟨a, ca, rfl, hra, hca⟩ := hu
 have hl := big_len hx
 have he : ((digsL 10000 x.natAbs).length = 0) ↔ x = 0 := by
  have := digsL_pos_len x.natAbs
  constructor
  ·intro h
   have h2 := digsL_nil (List.length_eq_zero_iff.1 h); omega
  ·intro h; subst h; show (digsL 10000 0).length = 0; rw [digsL_zero]; rfl
 obtain ⟨n, hn⟩ : ∃ n, n = (digsL 10000 x.natAbs).length := ⟨_, rfl⟩
 rw [← hn] at hl he ⊢
 have hlb : (n : Int) ≤ 250 := by omega
 have hdd : ((n : Int) == 0) = decide (x = 0) := by
  by_cases h : x = 0
  ·have := he.2 h; simp [h, this]
  ·have : n ≠ 0 := fun k => h (he.1 k)
   simp [h, this]
 generalize decide (x = 0) = t at *
 generalize decide (x < 0) = s at *
 clear hx hl he hn hra hca
 go_enter Tryz.func133, Tryz.ntmps133
 go_wp2_with fail
 go_ret
 exact ⟨rfl, alloc_below _ _⟩
end Go.Proofs.YtofmjkgaaphnkaaGreatDoor
