/- Opening the arguments of layer 7: slices of pairs of integers. -/
import Derived.Deep.Slices
import Derived.Deep.Fields
import Derived.ChangeSame
import Derived.ChangeSlices
import Derived.Lib.SmallJoins
import Derived.Test.YtliligehofjegaaPlnLawKit
import Derived.Test.YtliligehofjegaaPlnKit
namespace Go.Proofs.Ytliligehofjegaa
open Go.ChangeShapes Go.WideShapes Go.ChangeAt Go.RowKit Go.Deep Pln

theorem plain_addr {w : World} {a : Addr} {v : Value} (h : w.cell? (a.add 0) = some v) : ∃ b o, a = ⟨b, o, none⟩ := by
  have h1 := World.cell?_spot h
  obtain ⟨b, o, s⟩ := a
  simp [Addr.add] at h1
  subst h1
  exact ⟨b, o, rfl⟩
theorem plain_add (b o i : Nat) : (⟨b, o, none⟩ : Addr).add i = ⟨b, o + i, none⟩ := by unfold Addr.add; split <;> simp_all
theorem i64_of {n : Int} (h : (Lit.int .i64 n).wf = true) : I64 n := bounds_i64 h
theorem cellsI : Try.prog.cellsOf 3 = 1 := by kernel_rfl
/-- A slice of elements of two integers. -/
theorem open_pairs {H : Type} {enc : TypeId × Value → H} {w : World} {b0 : Nat} {r : Reach} {base : Nat} {held : Bool} {v : Value} {d : DataW H} {ps : List MemPlace} {t e : TypeId} (ht : Try.prog.underlying t = some (.slice e)) (hC : Try.prog.cellsOf e = 2)
    (hE : ∀ (n : Nat) (cs : List Value) (y : DataW H × List MemPlace), cs.length = 2 → DataW.trod enc Try.prog w base (fun _ => true) held n e cs = some y → ∃ q : Pt, cs = [.int .i64 q.1, .int .i64 q.2] ∧ I64 q.1 ∧ I64 q.2)
    (hval : Value.okWide Try.prog w r b0 t v) (h : DataW.Trod enc Try.prog w base (fun _ => true) held t v d ps) : ∃ l, PtsAt w v l := by
  obtain ⟨x1, len1, cap1, rfl⟩ := okWide_slice ht hval
  obtain ⟨fuel, hf⟩ := h
  rcases open_slice ht hf with ⟨hcs, _⟩ | ⟨a, len, cap, m, n, D, Pl, hcs, _, hl, hm, hmm, _, hi⟩
  · simp [Value.cells] at hcs
    obtain ⟨rfl, rfl, rfl⟩ := hcs
    exact ⟨[], ⟨⟨none, 0, rfl, Nat.le_refl _, by omega, .inl rfl⟩, fun x hx => by simp at hx⟩⟩
  · simp [Value.cells] at hcs
    obtain ⟨rfl, rfl, rfl⟩ := hcs
    rw [if_pos rfl] at hmm
    unfold maxLen at hm
    have hq : ∀ i, ∃ q : Pt, i < m → (w.cell? ((a.add (i * 2)).add 0) = some (.int .i64 q.1) ∧ w.cell? ((a.add (i * 2)).add 1) = some (.int .i64 q.2)) ∧ I64 q.1 ∧ I64 q.2 := fun i => by
      by_cases him : i < m
      · obtain ⟨cs', hc, htr⟩ := hi i him
        rw [hC] at hc
        obtain ⟨_, hl2x, hat⟩ := World.cells?_some hc
        obtain ⟨q, rfl, hok⟩ := hE n cs' _ hl2x htr
        exact ⟨q, fun _ => ⟨⟨hat 0 (by decide), hat 1 (by decide)⟩, hok⟩⟩
      · exact ⟨default, fun h => absurd h him⟩
    obtain ⟨f, hf2⟩ := Classical.axiomOfChoice hq
    have hlen : ((List.range len1).map f).length = len1 := by simp
    refine ⟨(List.range len1).map f, ⟨⟨some a, cap1, by rw [hlen], by omega, by omega, ?_⟩, fun q hq => ?_⟩⟩
    · rcases Nat.eq_zero_or_pos len1 with h0 | h0
      · left; exact List.eq_nil_of_length_eq_zero (by omega)
      · have h00 := (hf2 0 (by omega)).1.1
        rw [Nat.zero_mul] at h00
        obtain ⟨b, o, rfl⟩ : ∃ b o, a = ⟨b, o, none⟩ := by
          have h1 := World.cell?_spot h00
          obtain ⟨b, o, s⟩ := a
          simp [Addr.add] at h1
          subst h1
          exact ⟨b, o, rfl⟩
        refine .inr ⟨b, o, rfl, fun j hj => ?_⟩
        obtain ⟨h1, h2⟩ := (hf2 j (by omega)).1
        rw [plain_add, plain_add] at h1 h2
        have hg : vx ((List.range len1).map f) j = f j := by
          unfold vx; rw [List.getD_eq_getElem?_getD, List.getElem?_map, List.getElem?_range (by omega)]; rfl
        rw [hg]
        exact ⟨h1, h2⟩
    · obtain ⟨i, hi2, rfl⟩ := List.mem_map.1 hq
      exact (hf2 i (by have := List.mem_range.1 hi2; omega)).2
theorem cells2 : Try.prog.cellsOf 62 = 2 := by kernel_rfl
theorem open_xy {H : Type} {enc : TypeId × Value → H} {w : World} {b0 : Nat} {r : Reach} {base : Nat} {held : Bool} {v : Value} {d : DataW H} {ps : List MemPlace}
    (hval : Value.okWide Try.prog w r b0 22 v) (h : DataW.Trod enc Try.prog w base (fun _ => true) held 22 v d ps) : ∃ l, PtsAt w v l ∧ (l.length : Int) ≤ 9223372036854775807 := by
  suffices h : ∃ l, PtsAt w v l by
    obtain ⟨l, h⟩ := h
    obtain ⟨a, c, _, h1, h2, _⟩ := h.at_
    exact ⟨l, h, by omega⟩
  refine open_pairs Try.underlying22 cells2 (fun n cs y hl htr => ?_) hval h
  obtain ⟨xs, m, _, _, _, hn, hel⟩ := DataW.trod_array Try.underlying62 htr
  rw [cellsI] at hel
  match cs, hl, xs, hn with
  | [c0, c1], _, [y0, y1], _ =>
    obtain ⟨a, ha, _, wa⟩ := DataW.trod_int Try.underlying3 (hel 0 (by decide))
    obtain ⟨b, hb, _, wb⟩ := DataW.trod_int Try.underlying3 (hel 1 (by decide))
    simp at ha hb
    exact ⟨(a, b), by rw [ha, hb], i64_of wa, i64_of wb⟩
end Go.Proofs.Ytliligehofjegaa
