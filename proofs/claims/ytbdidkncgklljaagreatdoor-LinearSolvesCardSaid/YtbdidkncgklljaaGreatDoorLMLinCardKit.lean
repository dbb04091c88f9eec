/- What the cards of layer 6 share: the library's tables; opening slices of integers, and the numbers that determine a system. -/
import Derived.Test.YtbdidkncgklljaaGreatDoorCards
import Derived.Test.YtbdidkncgklljaaGreatDoorTie
import Derived.Test.YtbdidkncgklljaaGreatDoorLMLawKit
import Derived.Lay
import Derived.Stop.LaidErr
import Derived.Deep.Slices
import Derived.Deep.Fields
import Derived.ChangeSame
import Derived.ChangeSlices
import Derived.Lib.SmallJoins
import Derived.Test.YtbdidkncgklljaaGreatDoorLM8
namespace Go.Proofs.YtbdidkncgklljaaGreatDoor
open Go.ChangeShapes Go.WideShapes Go.ChangeAt Go.RowKit Go.Deep

theorem gPowType : (Tryz.prog.globals[3]?).map (·.type) = some 183 := by kernel_rfl
theorem cellsPow : Tryz.prog.cellsOf 183 = 20 := by kernel_rfl
theorem cellsU64 : Tryz.prog.cellsOf 79 = 1 := by kernel_rfl
theorem pow_eq {H : Type} : (Rows.laid_internal_strconv_uint64pow10 : DataW H) = Lib.tabData .u64 Lib.pow10Tab := rfl
theorem gBru : Tryz.prog.globalNamed "math/bits.deBruijn64tab" = some 2 := by kernel_rfl
theorem gBruType : (Tryz.prog.globals[2]?).map (·.type) = some 175 := by kernel_rfl
theorem cellsBru : Tryz.prog.cellsOf 175 = 64 := by kernel_rfl
theorem cellsU8 : Tryz.prog.cellsOf 5 = 1 := by kernel_rfl
def bruZ : List Int := Lib.deBruijn64tab.map fun n : Nat => (n : Int)
theorem bruZ_get (j : Nat) : bruZ.getD j 0 = ((Lib.deBruijn64tab.getD j 0 : Nat) : Int) := by
  unfold bruZ
  rw [List.getD_eq_getElem?_getD, List.getD_eq_getElem?_getD, List.getElem?_map]
  cases Lib.deBruijn64tab[j]? <;> rfl
theorem bru_eq {H : Type} : (Rows.laid_math_bits_deBruijn64tab : DataW H) = Lib.tabData .u8 bruZ := rfl
theorem tab_of_laid {W : World} (h : laidMetH Tryz.prog [("math/bits.deBruijn32tab", Rows.laid_math_bits_deBruijn32tab), ("math/bits.deBruijn64tab", Rows.laid_math_bits_deBruijn64tab), ("internal/strconv.uint64pow10", Rows.laid_internal_strconv_uint64pow10), ("unicode/utf8.acceptRanges", Rows.laid_unicode_utf8_acceptRanges), ("unicode/utf8.first", Rows.laid_unicode_utf8_first)] W) : TabP W ∧ TabB W := by
  have h1 : laidMet Tryz.prog [("math/bits.deBruijn32tab", Rows.laid_math_bits_deBruijn32tab), ("math/bits.deBruijn64tab", Rows.laid_math_bits_deBruijn64tab), ("internal/strconv.uint64pow10", Rows.laid_internal_strconv_uint64pow10), ("unicode/utf8.acceptRanges", Rows.laid_unicode_utf8_acceptRanges), ("unicode/utf8.first", Rows.laid_unicode_utf8_first)] W := h
  have h3 := h1.tail
  have h2 := h1.tail.tail
  rw [pow_eq] at h2
  rw [bru_eq] at h3
  have ht := Lib.tabIs_of_head gPow gPowType Tryz.underlying183 Tryz.underlying79 cellsU64 cellsPow h2
  have hb := Lib.tabIs_of_head gBru gBruType Tryz.underlying175 Tryz.underlying5 cellsU8 cellsBru h3
  exact ⟨⟨ht, lt_of_cell (ht.cell gPow 0 (by decide))⟩, ⟨fun j hj => by have := hb.cell gBru j hj; rw [bruZ_get] at this; exact this, lt_of_cell (hb.cell gBru 0 (by decide))⟩⟩
theorem plain_addr {w : World} {a : Addr} {v : Value} (h : w.cell? (a.add 0) = some v) : ∃ b o, a = ⟨b, o, none⟩ := by
  have h1 := World.cell?_spot h
  obtain ⟨b, o, s⟩ := a
  simp [Addr.add] at h1
  subst h1
  exact ⟨b, o, rfl⟩
theorem plain_add (b o i : Nat) : (⟨b, o, none⟩ : Addr).add i = ⟨b, o + i, none⟩ := by unfold Addr.add; split <;> simp_all
theorem i64_of {n : Int} (h : (Lit.int .i64 n).wf = true) : I64 n := bounds_i64 h
theorem cellsI : Tryz.prog.cellsOf 3 = 1 := by kernel_rfl
theorem cellsIs : Tryz.prog.cellsOf 22 = 1 := by kernel_rfl
/-- A slice of integers. -/
theorem open_intsF {H : Type} {enc : TypeId × Value → H} {w : World} {base : Nat} {held : Bool} {v : Value} {d : DataW H} {ps : List MemPlace} (hv : ∃ x n c, v = .slice x n c)
    (h : DataW.Trod enc Tryz.prog w base (fun _ => true) held 22 v d ps) : ∃ a l c, v = .slice a l.length c ∧ IntsFrom w a l ∧ l.length ≤ c ∧ (c : Int) ≤ 9223372036854775807 ∧ ∀ x ∈ l, I64 x := by
  obtain ⟨x1, len1, cap1, rfl⟩ := hv
  obtain ⟨fuel, hf⟩ := h
  rcases open_ints Tryz.underlying22 Tryz.underlying3 cellsI hf with ⟨hcs, _⟩ | ⟨a, len, cap, zs, hcs, _, hl, hm, hz, _, hcell, hwf⟩
  · simp [Value.cells] at hcs
    obtain ⟨rfl, rfl, rfl⟩ := hcs
    exact ⟨none, [], 0, rfl, .inl rfl, Nat.le_refl _, by omega, fun x hx => by simp at hx⟩
  · simp [Value.cells] at hcs
    obtain ⟨rfl, rfl, rfl⟩ := hcs
    rw [if_pos rfl] at hz
    unfold maxLen at hm
    have hlen : (zs.take len1).length = len1 := by rw [List.length_take]; omega
    refine ⟨some a, zs.take len1, cap1, by rw [hlen], ?_, by omega, by omega, fun x hx => i64_of (hwf x (List.mem_of_mem_take hx))⟩
    rcases Nat.eq_zero_or_pos len1 with h0 | h0
    · left; exact List.eq_nil_of_length_eq_zero (by omega)
    · obtain ⟨b, o, rfl⟩ := plain_addr (hcell 0 (by omega))
      refine .inr ⟨b, o, rfl, fun j hj => ?_⟩
      have h := hcell j (by omega)
      rw [plain_add] at h
      rw [h, List.getD_eq_getElem?_getD, List.getD_eq_getElem?_getD, List.getElem?_take_of_lt (by omega)]
set_option maxRecDepth 100000 in
theorem open_intsL {H : Type} {enc : TypeId × Value → H} {w : World} {b0 : Nat} {r : Reach} {base : Nat} {held : Bool} {v : Value} {d : DataW H} {ps : List MemPlace} (hval : Value.okWide Tryz.prog w r b0 22 v)
    (h : DataW.Trod enc Tryz.prog w base (fun _ => true) held 22 v d ps) : ∃ a l c, v = .slice a l.length c ∧ IntsFrom w a l ∧ l.length ≤ c ∧ (c : Int) ≤ 9223372036854775807 ∧ ∀ x ∈ l, I64 x := by
  obtain ⟨a, l, c, h1, h2, h3, h4, h5⟩ := open_intsF (okWide_slice Tryz.underlying22 hval) h
  exact ⟨a, l, c, h1, h2, h3, h4, h5⟩
set_option maxRecDepth 100000 in
/-- The numbers that determine a system. -/
theorem open_numbers {H : Type} {enc : TypeId × Value → H} {w : World} {b0 : Nat} {r : Reach} {base : Nat} {held : Bool} {v : Value} {d : DataW H} {ps : List MemPlace} (hval : Value.okWide Tryz.prog w r b0 24 v)
    (h : DataW.Trod enc Tryz.prog w base (fun _ => true) held 24 v d ps) : ∃ (x : NumX) (a b : Option Addr) (c d : Nat), v = .agg #[.int .i64 x.cols, .int .i64 x.rows, .slice a x.coefs.length c, .slice b x.hidden.length d, .int .i64 x.miss] ∧ NumM w x a b c d := by
  obtain ⟨cs, rfl, hsz⟩ := okWide_struct Tryz.underlying24 hval
  rw [show Tryz.prog.cellsOf 24 = 5 by kernel_rfl] at hsz
  obtain ⟨fuel, hf⟩ := h
  obtain ⟨xs, m, _, _, _, hn, hel⟩ := DataW.trod_struct Tryz.underlying24 hf
  obtain ⟨cs⟩ := cs
  match cs, hsz, xs, hn with
  | [c0, c1, c2, c3, c4], _, [y0, y1, y2, y3, y4], _ =>
    have e0 : DataW.trod enc Tryz.prog w base (fun _ => true) held m 3 (((Value.agg #[c0, c1, c2, c3, c4]).cells.toList.drop 0).take (Tryz.prog.cellsOf 3)) = some y0 := hel 0 _ rfl
    have e1 : DataW.trod enc Tryz.prog w base (fun _ => true) held m 3 (((Value.agg #[c0, c1, c2, c3, c4]).cells.toList.drop 1).take (Tryz.prog.cellsOf 3)) = some y1 := hel 1 _ rfl
    have e2 : DataW.trod enc Tryz.prog w base (fun _ => true) held m 22 (((Value.agg #[c0, c1, c2, c3, c4]).cells.toList.drop 2).take (Tryz.prog.cellsOf 22)) = some y2 := hel 2 _ rfl
    have e3 : DataW.trod enc Tryz.prog w base (fun _ => true) held m 22 (((Value.agg #[c0, c1, c2, c3, c4]).cells.toList.drop 3).take (Tryz.prog.cellsOf 22)) = some y3 := hel 3 _ rfl
    have e4 : DataW.trod enc Tryz.prog w base (fun _ => true) held m 3 (((Value.agg #[c0, c1, c2, c3, c4]).cells.toList.drop 4).take (Tryz.prog.cellsOf 3)) = some y4 := hel 4 _ rfl
    rw [cellsI] at e0 e1 e4
    rw [cellsIs] at e2 e3
    replace e2 : DataW.trod enc Tryz.prog w base (fun _ => true) held m 22 [c2] = some y2 := e2
    replace e3 : DataW.trod enc Tryz.prog w base (fun _ => true) held m 22 [c3] = some y3 := e3
    obtain ⟨z0, h0, _, w0⟩ := DataW.trod_int Tryz.underlying3 e0
    obtain ⟨z1, h1, _, w1⟩ := DataW.trod_int Tryz.underlying3 e1
    obtain ⟨z4, h4, _, w4⟩ := DataW.trod_int Tryz.underlying3 e4
    simp [Value.cells] at h0 h1 h4
    obtain ⟨x2, l2, k2, hx2⟩ := Go.Joins.slice_form Tryz.underlying22 e2
    obtain ⟨x3, l3, k3, hx3⟩ := Go.Joins.slice_form Tryz.underlying22 e3
    have hv2 : c2 = .slice x2 l2 k2 := by simpa using hx2
    have hv3 : c3 = .slice x3 l3 k3 := by simpa using hx3
    obtain ⟨a, la, ca, ha, p1, p2, p3, p4⟩ := open_intsF ⟨x2, l2, k2, hv2⟩ (show DataW.Trod enc Tryz.prog w base (fun _ => true) held 22 c2 y2.1 y2.2 from ⟨m, by rw [hv2] at e2 ⊢; exact e2⟩)
    obtain ⟨b, lb, cb, hb, q1, q2, q3, q4⟩ := open_intsF ⟨x3, l3, k3, hv3⟩ (show DataW.Trod enc Tryz.prog w base (fun _ => true) held 22 c3 y3.1 y3.2 from ⟨m, by rw [hv3] at e3 ⊢; exact e3⟩)
    exact ⟨⟨z0, z1, la, lb, z4⟩, a, b, ca, cb, by rw [h0, h1, ha, hb, h4], i64_of w0, i64_of w1, i64_of w4, p1, p2, p3, p4, q1, q2, q3, q4⟩
end Go.Proofs.YtbdidkncgklljaaGreatDoor
