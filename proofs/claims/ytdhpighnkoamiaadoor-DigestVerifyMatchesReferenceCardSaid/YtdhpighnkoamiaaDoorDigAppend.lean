/- append of a slice of strings to a row of the call's own; ends and beginnings of slices; what a wrong length answers. -/
import Derived.Test.YtdhpighnkoamiaaDoorDigSaneW
import Derived.Test.YtdhpighnkoamiaaDoorDigLeft
namespace Putlog

theorem value_len (ss ps : Nat → ByteArray) (s : ByteArray) (k : Nat) : ∀ (n i o m : Nat), n ≤ k → (valueS ps s n i m).2 = decide (m = (besideS ss o n i).length) := by
  induction k with
  | zero =>
    intro n i o m h
    rw [valueS_one (by omega), besideS_one (by omega)]
    cases m <;> rfl
  | succ k ih =>
    intro n i o m h
    rcases Nat.lt_or_ge n 2 with h2 | h2
    · rw [valueS_one (by omega), besideS_one (by omega)]
      cases m <;> rfl
    · have h3 := half_pos n
      have h4 := half_lt h2
      rcases Nat.lt_or_ge i (half n) with h5 | h5
      · rw [besideS_left h2 h5, List.length_append, List.length_singleton]
        cases m with
        | zero => rw [valueS_nil h2]; simp
        | succ m =>
          rw [valueS_left h2 h5]
          show (valueS ps s (half n) i m).2 = _
          rw [ih (half n) i o m (by omega)]
          simp
      · rw [besideS_right h2 h5, List.length_append, List.length_singleton]
        cases m with
        | zero => rw [valueS_nil h2]; simp
        | succ m =>
          rw [valueS_right h2 h5]
          show (valueS ps s (n - half n) (i - half n) m).2 = _
          rw [ih (n - half n) (i - half n) (o + half n) m (by omega)]
          simp
theorem rootS_congr {ss ts : Nat → ByteArray} (k : Nat) : ∀ (n o : Nat), n ≤ k → (∀ j, o ≤ j → j < o + n → ss j = ts j) → rootS ss o n = rootS ts o n := by
  induction k with
  | zero => intro n o h _; obtain rfl : n = 0 := by omega
            rw [rootS_zero, rootS_zero]
  | succ k ih =>
    intro n o h hj
    rcases Nat.lt_or_ge n 2 with h2 | h2
    · rcases Nat.eq_zero_or_pos n with rfl | h0
      · rw [rootS_zero, rootS_zero]
      · obtain rfl : n = 1 := by omega
        rw [rootS_one, rootS_one, hj o (Nat.le_refl _) (by omega)]
    · have h3 := half_pos n
      have h4 := half_lt h2
      rw [rootS_more h2, rootS_more h2, ih (half n) o (by omega) (fun j h6 h7 => hj j h6 (by omega)), ih (n - half n) (o + half n) (by omega) (fun j h6 h7 => hj j (by omega) (by omega))]
end Putlog
namespace Go.Proofs.YtdhpighnkoamiaaDoor
open Go.RowKit Putlog

theorem slice_to (a : Option Addr) (n c k : Nat) (hk : k ≤ n) (hnc : n ≤ c) (hs : (a = none ∧ c = 0) ∨ ∃ g, a = some ⟨g, 0, none⟩) (w : World) :
    (Instr.slice 26 (.slice a n c) none (some (.int .i64 (k : Nat))) none).run Tryd.prog w = .ok (.slice a k c) w := by
  have ht : Tryd.prog.underlying 26 = some (.slice (Tryd.prog.elem 26)) := by kernel_rfl
  have hz : (sizeOf (Tryd.prog.elem 26)).run Tryd.prog w = .ok 1 w := by kernel_rfl
  rw [run_slice_h w 26 a n c ht .i64 k (by omega) (by omega), hz]
  simp only [Result.andThen, sliced, Int.toNat_natCast, Nat.sub_zero]
  rcases hs with ⟨rfl, rfl⟩ | ⟨g, rfl⟩
  · simp
  · split <;> simp [Addr.add]
theorem SliceAt.upto {w : World} {a : Option Addr} {f : Nat → ByteArray} {n k : Nat} (h : SliceAt w a f n) (hk : k ≤ n) : SliceAt w a f k := fun h0 => by
  obtain ⟨b, o, h1, h2⟩ := h (by omega)
  exact ⟨b, o, h1, fun j hj => h2 j (by omega)⟩
theorem SliceAt.congr {w : World} {a : Option Addr} {f g : Nat → ByteArray} {n : Nat} (h : SliceAt w a f n) (hfg : ∀ j, j < n → f j = g j) : SliceAt w a g n := fun h0 => by
  obtain ⟨b, o, h1, h2⟩ := h h0
  exact ⟨b, o, h1, fun j hj => by rw [← hfg j hj]; exact h2 j hj⟩
theorem few_sz (f : Nat → ByteArray) (k j : Nat) : (getB (fewL f k) j).size ≤ 140737488355327 := by
  have := fewL_mem (f := f) (k := k) j
  unfold getB; omega

theorem getB_map (ys : List ByteArray) {j : Nat} {u : Value} (h : (ys.map Value.string)[j]? = some u) : j < ys.length ∧ u = .string (getB ys j) := by
  rw [List.getElem?_map, Option.map_eq_some_iff] at h
  obtain ⟨x, h1, h2⟩ := h
  refine ⟨(List.getElem?_eq_some_iff.1 h1).1, ?_⟩
  rw [← h2]
  simp [getB, List.getD_eq_getElem?_getD, h1]
/-- append of a whole slice to a slice that is nil or the call's own, as one step of a region. -/
theorem step_append_sl {P : Program} {ops : Array Oper} {o : Oper} {a : Act} {w : World} {K : Act → World → Prop} {Q : Exit → Act → World → Prop} {E : Prop}
    (hg : o.guard = none) (s x : Operand) (t : TypeId) (hop : o.op = Op.call { callee := Callee.builtin Builtin.append, args := #[s, x], argTypes := #[t, t] })
    (base : Nat) (e : TypeId) (i : TypeInfo) (z : Value) (bytes : Nat) (h1 : P.underlying t = some (.slice e)) (h2 : P.info? e = some i) (h3 : i.zero = some z) (h4 : i.size = 1) (h5 : i.bytes = bytes) (h6 : z.cells.size = 1)
    (v : Value) (k : Nat) (xs : List Value) (hs : a.eval s = v) (hown : w.ownsRow base e 1 v k xs) (ad : Option Addr) (c : Nat) (ys : List ByteArray) (hx : a.eval x = .slice ad ys.length c)
    (hS : SliceAt w ad (getB ys) ys.length) (b1 : k + ys.length ≤ maxLen) (b2 : (k + ys.length) * bytes ≤ 140737488355328) (b3 : base ≤ w.heap.size)
    (hK : ∀ v' w', w'.ownsRow base e 1 v' (k + ys.length) (xs ++ ys.map Value.string) → w.grownBy w' v.ownBlock → K (a.put o.dst v') w') :
    if Region.wanted o (yielded ops a.tmps) = true then Oper.wp P o a w K Q else E := by
  have hcell : ∀ ad' : Addr, ad = some ad' → ∀ (j : Nat) (u : Value), (ys.map Value.string)[j]? = some u → w.cell? (ad'.add j) = some u := by
    intro ad' he j u hu
    obtain ⟨hj, rfl⟩ := getB_map ys hu
    obtain ⟨b, p, h7, h8⟩ := hS (by omega)
    rw [he] at h7
    obtain rfl := Option.some.inj h7
    have h9 := h8 j hj
    unfold Addr.add
    split
    · rename_i h10; subst h10; exact h9
    · exact h9
  have hone : ∀ u ∈ ys.map Value.string, u.oneCell' = true := by
    intro u hu
    obtain ⟨x, _, rfl⟩ := List.mem_map.1 hu
    rfl
  cases ad with
  | some ad => exact step_append_own hg s x t hop base e i z 1 bytes h1 h2 h3 h4 h5 h6 (by decide) v k xs hs hown ad ys.length c (ys.map Value.string) hx (by simp) (hcell ad rfl) hone b1 b2 b3 hK
  | none =>
    have h0 : ys = [] := by
      rcases Nat.eq_zero_or_pos ys.length with h0 | h0
      · exact List.length_eq_zero_iff.1 h0
      · obtain ⟨b, p, h7, _⟩ := hS h0
        cases h7
    subst h0
    have hw : Region.wanted o (yielded ops a.tmps) = true := by simp [Region.wanted, hg]
    rw [if_pos hw]
    have hrun : (Builtin.append_ #[t, t] o.type #[v, .slice none 0 c]).run P w = .ok v w := by
      rcases hown.2 with ⟨rfl, rfl⟩ | ⟨g, cap, cur, rfl, _, _, hnc, _⟩
      · simp [Builtin.append_, run_underlying h1, sizeOf, typeInfo, h2, Builtin.lenOf, Builtin.firstCells]
      · simp [Builtin.append_, run_underlying h1, sizeOf, typeInfo, h2, Builtin.lenOf, Builtin.firstCells, hnc, storeCells]
    unfold Oper.wp
    simp [execOp, hop, resolve, invoke, builtin, hs, hx, hrun, Result.andThen]
    refine hK v w ?_ (World.grownBy.refl _ _)
    simpa using hown
/-- .. and for the walk of a region in its order. -/
theorem wpList_append_sl {P : Program} {ops : Array Oper} {rest : List Oper} {o : Oper} {a : Act} {w : World} {Q : Exit → Act → World → Prop}
    (hg : o.guard = none) (s x : Operand) (t : TypeId) (hop : o.op = Op.call { callee := Callee.builtin Builtin.append, args := #[s, x], argTypes := #[t, t] })
    (base : Nat) (e : TypeId) (i : TypeInfo) (z : Value) (bytes : Nat) (h1 : P.underlying t = some (.slice e)) (h2 : P.info? e = some i) (h3 : i.zero = some z) (h4 : i.size = 1) (h5 : i.bytes = bytes) (h6 : z.cells.size = 1)
    (v : Value) (k : Nat) (xs : List Value) (hs : a.eval s = v) (hown : w.ownsRow base e 1 v k xs) (ad : Option Addr) (c : Nat) (ys : List ByteArray) (hx : a.eval x = .slice ad ys.length c)
    (hS : SliceAt w ad (getB ys) ys.length) (b1 : k + ys.length ≤ maxLen) (b2 : (k + ys.length) * bytes ≤ 140737488355328) (b3 : base ≤ w.heap.size)
    (h : ∀ v' w', w'.ownsRow base e 1 v' (k + ys.length) (xs ++ ys.map Value.string) → w.grownBy w' v.ownBlock → wpList P ops Q rest (a.put o.dst v') w') : wpList P ops Q (o :: rest) a w :=
  wpList_plain hg fun K hK => by
    have := step_append_sl (ops := ops) (K := K) (Q := Q) (E := False) hg s x t hop base e i z bytes h1 h2 h3 h4 h5 h6 v k xs hs hown ad c ys hx hS b1 b2 b3 (fun v' w' h7 h8 => hK _ _ (h v' w' h7 h8))
    rwa [if_pos (by simp [Region.wanted, hg])] at this
theorem slice_from (b o n c k : Nat) (hk : k ≤ n) (w : World) :
    (Instr.slice 26 (.slice (some ⟨b, o, none⟩) n c) (some (.int .i64 (k : Nat))) none none).run Tryd.prog w = .ok (.slice (some ⟨b, if c = k then o else o + k, none⟩) (n - k) (c - k)) w := by
  have ht : Tryd.prog.underlying 26 = some (.slice (Tryd.prog.elem 26)) := by kernel_rfl
  have hz : (sizeOf (Tryd.prog.elem 26)).run Tryd.prog w = .ok 1 w := by kernel_rfl
  rw [run_slice_l w 26 (some ⟨b, o, none⟩) n c ht .i64 k (by omega) (by omega), hz]
  simp only [Result.andThen, sliced, Int.toNat_natCast]
  split
  · rfl
  · rename_i h
    by_cases h0 : k = 0
    · subst h0; simp [Addr.add]
    · simp [Addr.add, h0]
theorem SliceAt.tail {w : World} {b o n c k : Nat} {f : Nat → ByteArray} (h : SliceAt w (some ⟨b, o, none⟩) f n) (hnc : n ≤ c) : SliceAt w (some ⟨b, if c = k then o else o + k, none⟩) (fun j => f (k + j)) (n - k) := fun h0 => by
  obtain ⟨b', o', h1, h2⟩ := h (by omega)
  obtain ⟨rfl, rfl⟩ : b' = b ∧ o' = o := by simpa [eq_comm] using h1
  rw [if_neg (by omega)]
  exact ⟨_, _, rfl, fun j hj => by rw [Nat.add_assoc]; exact h2 (k + j) (by omega)⟩
theorem keptBelow {w w' : World} {b i : Nat} {v : Value} (h : Below w.heap.size w w') (hc : w.cell? ⟨b, i, none⟩ = some v) : w'.cell? ⟨b, i, none⟩ = some v := (h.cell (p := ⟨b, i, none⟩) (lt_of_cell hc)).trans hc
theorem belowAlloc {w w1 : World} (o : Obj) (h : Below w.heap.size w w1) : Below w.heap.size w (w1.alloc o).drew := (h.alloc h.size o).drew
theorem belowGrown {w w1 w2 : World} {v : Value} {e size n : Nat} {xs : List Value} (h : Below w.heap.size w w1) (hO : w1.ownsRow w.heap.size e size v n xs) (hg : w1.grownBy w2 v.ownBlock) : Below w.heap.size w w2 :=
  h.grown hg h.size fun k e => (hO.lt k e).1
theorem ownsRow_snoc {w : World} {B : Nat} {t : TypeId} {v : Value} {ys zs : List ByteArray} {r : ByteArray} (hz : zs = ys ++ [r]) (h : w.ownsRow B t 1 v (0 + ys.length + 1) (([] ++ ys.map Value.string) ++ [.string r])) : w.ownsRow B t 1 v zs.length (zs.map Value.string) := by
  subst hz
  rw [Nat.zero_add, List.nil_append] at h
  rw [List.length_append, List.map_append]
  exact h
theorem news_late (W : World) (r : ByteArray) (t : TypeId) (cs : Array Value) {w5 : World} (hg : ((W.alloc (.cells cs t)).alloc (.cells #[.string r] t)).drew.grownBy w5 (some W.heap.size)) :
    ∀ j u, [Value.string r][j]? = some u → w5.cell? ((⟨W.heap.size + 1, 0, none⟩ : Addr).add j) = some u
  | 0, u, h => hg.cell (a := ⟨W.heap.size + 1, 0, none⟩) (by
      have h1 := news_one (W.alloc (.cells cs t)) r t 0 u h
      have h2 : (W.alloc (.cells cs t)).heap.size = W.heap.size + 1 := by simp
      rw [h2] at h1
      exact h1) (by simp)
  | j + 1, u, h => by simp at h
theorem news_early (W : World) (r : ByteArray) (t : TypeId) (cs : Array Value) {w5 : World} (hg : ((W.alloc (.cells #[.string r] t)).drew.alloc (.cells cs t)).grownBy w5 (some (W.heap.size + 1))) :
    ∀ j u, [Value.string r][j]? = some u → w5.cell? ((⟨W.heap.size, 0, none⟩ : Addr).add j) = some u
  | 0, u, h => hg.cell (a := ⟨W.heap.size, 0, none⟩) (keptBelow ((Below.refl _ _).alloc (Nat.le_refl _) _) (show (W.alloc (.cells #[.string r] t)).drew.cell? ⟨W.heap.size, 0, none⟩ = some u from news_one W r t 0 u h)) (by simp)
  | j + 1, u, h => by simp at h
theorem lit_late (W : World) (r : ByteArray) (t : TypeId) : ((W.alloc (.cells #[.string r] t)).drew.alloc (.cells #[] t)).ownsRow W.heap.size t 1 (.slice (some ⟨W.heap.size + 1, 0, none⟩) 0 0) 0 [] := by
  have h := World.ownsRow_lit (base := W.heap.size) (e := t) (size := 1) (W.alloc (.cells #[.string r] t)).drew #[] 0 (by simp) (by decide) rfl
  have h2 : (W.alloc (.cells #[.string r] t)).drew.heap.size = W.heap.size + 1 := by simp
  rw [h2] at h
  exact h
theorem SliceAt.via {w w' : World} {a : Option Addr} {f : Nat → ByteArray} {n : Nat} (hB : Below w.heap.size w w') (h : SliceAt w a f n) : SliceAt w' a f n := h.below hB
theorem tabVia {w w' : World} (hB : Below w.heap.size w w') (h : TabAt w) : TabAt w' := h.below hB h.size
theorem belowVia {a b c : World} (k : Below b.heap.size b c) (h : Below a.heap.size a b) : Below a.heap.size a c := h.trans (k.mono h.size)
theorem belowDrewN {B : Nat} {a w : World} (h : Below B a w) (n : Nat) : Below B a (w.drewN n) := ⟨h.os, h.tape, h.output, h.size, h.block⟩
end Go.Proofs.YtdhpighnkoamiaaDoor
