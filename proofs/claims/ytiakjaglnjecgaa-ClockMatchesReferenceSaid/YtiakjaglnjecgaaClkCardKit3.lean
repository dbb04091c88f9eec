/- Opening an argument that is a clock. -/
import Derived.Test.YtiakjaglnjecgaaClkCardKit
namespace Go.Proofs.Ytiakjaglnjecgaa
open Go.ChangeShapes Go.WideShapes Go.ChangeAt Go.RowKit Go.Deep Putlog

/-- A slice of elements of three integers. -/
theorem open_triplesF {H : Type} {enc : TypeId × Value → H} {w : World} {base : Nat} {held : Bool} {v : Value} {d : DataW H} {ps : List MemPlace} {t e : TypeId} (ht : Try.prog.underlying t = some (.slice e)) (hC : Try.prog.cellsOf e = 3)
    (hE : ∀ (n : Nat) (cs : List Value) (y : DataW H × List MemPlace), cs.length = 3 → DataW.trod enc Try.prog w base (fun _ => true) held n e cs = some y → ∃ q : Rd, cs = [.int .i64 q.1, .int .i64 q.2.1, .int .i64 q.2.2] ∧ I64 q.1 ∧ I64 q.2.1 ∧ I64 q.2.2)
    (hval : ∃ x1 len1 cap1, v = .slice x1 len1 cap1) (h : DataW.Trod enc Try.prog w base (fun _ => true) held t v d ps) : ∃ l, RdsAt w v l := by
  obtain ⟨x1, len1, cap1, rfl⟩ := hval
  obtain ⟨fuel, hf⟩ := h
  rcases open_slice ht hf with ⟨hcs, _⟩ | ⟨a, len, cap, m, n, D, Pl, hcs, _, hl, hm, hmm, _, hi⟩
  · simp [Value.cells] at hcs
    obtain ⟨rfl, rfl, rfl⟩ := hcs
    exact ⟨[], ⟨⟨none, 0, rfl, Nat.le_refl _, by omega, .inl rfl⟩, fun x hx => by simp at hx⟩⟩
  · simp [Value.cells] at hcs
    obtain ⟨rfl, rfl, rfl⟩ := hcs
    rw [if_pos rfl] at hmm
    unfold maxLen at hm
    have hq : ∀ i, ∃ q : Rd, i < m → (w.cell? ((a.add (i * 3)).add 0) = some (.int .i64 q.1) ∧ w.cell? ((a.add (i * 3)).add 1) = some (.int .i64 q.2.1) ∧ w.cell? ((a.add (i * 3)).add 2) = some (.int .i64 q.2.2)) ∧ I64 q.1 ∧ I64 q.2.1 ∧ I64 q.2.2 := fun i => by
      by_cases him : i < m
      · obtain ⟨cs', hc, htr⟩ := hi i him
        rw [hC] at hc
        obtain ⟨_, hl3, hat⟩ := World.cells?_some hc
        obtain ⟨q, rfl, hok⟩ := hE n cs' _ hl3 htr
        exact ⟨q, fun _ => ⟨⟨hat 0 (by decide), hat 1 (by decide), hat 2 (by decide)⟩, hok⟩⟩
      · exact ⟨default, fun h => absurd h him⟩
    obtain ⟨f, hf2⟩ := Classical.axiomOfChoice hq
    have hlen : ((List.range len1).map f).length = len1 := by simp
    refine ⟨(List.range len1).map f, ⟨⟨some a, cap1, by rw [hlen], by omega, by omega, ?_⟩, fun q hq => ?_⟩⟩
    · rcases Nat.eq_zero_or_pos len1 with h0 | h0
      · left; exact List.eq_nil_of_length_eq_zero (by omega)
      · have h00 := (hf2 0 (by omega)).1.1
        rw [Nat.zero_mul] at h00
        obtain ⟨b, o, rfl⟩ : ∃ b o, a = ⟨b, o, none⟩ := by
          have h1 := World.cell?_spot h00
          obtain ⟨b, o, s⟩ := a
          simp [Addr.add] at h1
          subst h1
          exact ⟨b, o, rfl⟩
        refine .inr ⟨b, o, rfl, fun j hj => ?_⟩
        obtain ⟨h1, h2, h3⟩ := (hf2 j (by omega)).1
        rw [plain_add, plain_add] at h1 h2 h3
        have hg : ((List.range len1).map f).getD j default = f j := by
          rw [List.getD_eq_getElem?_getD, List.getElem?_map, List.getElem?_range (by omega)]; rfl
        rw [hg]
        exact ⟨h1, h2, h3⟩
    · obtain ⟨i, hi2, rfl⟩ := List.mem_map.1 hq
      exact (hf2 i (by have := List.mem_range.1 hi2; omega)).2
theorem open_readsF {H : Type} {enc : TypeId × Value → H} {w : World} {base : Nat} {held : Bool} {v : Value} {d : DataW H} {ps : List MemPlace}
    (hval : ∃ x1 len1 cap1, v = .slice x1 len1 cap1) (h : DataW.Trod enc Try.prog w base (fun _ => true) held 22 v d ps) : ∃ l, RdsAt w v l := by
  refine open_triplesF Try.underlying22 cellsRd (fun n cs y hl htr => ?_) hval h
  obtain ⟨xs, m, _, _, _, hn, hel⟩ := DataW.trod_struct Try.underlying46 htr
  have e0 : DataW.trod enc Try.prog w base (fun _ => true) held m 3 ((cs.drop 0).take (Try.prog.cellsOf 3)) = xs[0]? := hel 0 _ rfl
  have e1 : DataW.trod enc Try.prog w base (fun _ => true) held m 3 ((cs.drop 1).take (Try.prog.cellsOf 3)) = xs[1]? := hel 1 _ rfl
  have e2 : DataW.trod enc Try.prog w base (fun _ => true) held m 3 ((cs.drop 2).take (Try.prog.cellsOf 3)) = xs[2]? := hel 2 _ rfl
  rw [cellsI] at e0 e1 e2
  match cs, hl, xs, hn with
  | [c0, c1, c2], _, [y0, y1, y2], _ =>
    obtain ⟨a, ha, _, wa⟩ := DataW.trod_int Try.underlying3 e0
    obtain ⟨b, hb, _, wb⟩ := DataW.trod_int Try.underlying3 e1
    obtain ⟨c, hc, _, wc⟩ := DataW.trod_int Try.underlying3 e2
    simp at ha hb hc
    exact ⟨(a, b, c), by rw [ha, hb, hc], i64_of wa, i64_of wb, i64_of wc⟩
theorem open_clock {H : Type} {enc : TypeId × Value → H} {w : World} {b0 : Nat} {r : Reach} {base : Nat} {held : Bool} {v : Value} {d : DataW H} {ps : List MemPlace}
    (hval : Value.okWide Try.prog w r b0 24 v) (h : DataW.Trod enc Try.prog w base (fun _ => true) held 24 v d ps) :
    ∃ (c : Int) (x : Value) (l : List Rd), v = .agg #[.int .i64 c, x] ∧ I64 c ∧ RdsAt w x l := by
  obtain ⟨v0, v1, y0, y1, n, rfl, _, _, h0, h1⟩ := Go.Joins.open_agg2 Try.underlying24 (by kernel_rfl) cellsCl hval h
  obtain ⟨a, ha, _, wa⟩ := DataW.trod_int Try.underlying3 h0
  simp at ha
  subst ha
  obtain ⟨x1, l1, c1, hx⟩ := Go.Joins.slice_form Try.underlying22 h1
  have hv1 : v1 = .slice x1 l1 c1 := by simpa using hx
  obtain ⟨l, hl⟩ := open_readsF ⟨x1, l1, c1, hv1⟩ (show DataW.Trod enc Try.prog w base (fun _ => true) held 22 v1 y1.1 y1.2 from ⟨n, by rw [hv1] at h1 ⊢; exact h1⟩)
  exact ⟨a, v1, l, rfl, i64_of wa, hl⟩
end Go.Proofs.Ytiakjaglnjecgaa
