/- Several texts of layers 3 and 4, one behind the other: IntDivPure, IntDiv, IntQuo, IntText, IntRead, IntDigits, IntNum, IntPlus, IntNum2, IntNum3, IntNum4, IntValid, IntRead2, IntBoth. -/
import Derived.Lib.ConvBytes
import Derived.Test.YtelckldddflmmaaGreatDoorRM1
/- IntDivPure: Plain mathematics of the long division, and what a step of it does to memory. -/
namespace Go.Proofs.YtelckldddflmmaaGreatDoor
open Go.RowKit Putlog

/-- The long division before index k - 1. -/
structure DivAt (A B : List Nat) (n k : Nat) (Q R : List Nat) : Prop where
  qlen : Q.length = n
  qdig : DigB 10000 Q
  qz : ∀ j, j < k → Q.getD j 0 = 0
  rdig : DigB 10000 R
  rlen : R.length ≤ A.length
  kr : k ≤ R.length + 1
  val : leV 10000 A = leV 10000 Q * leV 10000 B + leV 10000 R
  lt : leV 10000 R < leV 10000 B * 10000 ^ k
  nrm : k = 0 → Norm R
theorem digB_zeros (n : Nat) : DigB 10000 (List.replicate n 0) := fun x hx => by
  obtain ⟨_, rfl⟩ := List.mem_replicate.1 hx
  decide
theorem DivAt.start {A B : List Nat} (hA : DigB 10000 A) (nB : Norm B) (h0 : B ≠ []) (hl : B.length ≤ A.length) : DivAt A B (A.length - B.length + 1) (A.length - B.length + 1) (List.replicate (A.length - B.length + 1) 0) A := by
  have hlen0 : 0 < B.length := List.length_pos_iff.2 h0
  refine ⟨List.length_replicate, digB_zeros _, fun j hj => by simp [List.getD_eq_getElem?_getD, hj], hA, Nat.le_refl _, by omega, by rw [leV_zeros]; simp, ?_, fun h => by omega⟩
  have h1 := leV_lt hA
  rcases norm_cases B with h | ⟨r, x, rfl⟩
  · exact absurd h h0
  · have h2 := norm_ge (B := 10000) (by decide) nB
    simp only [List.length_append, List.length_singleton] at hl ⊢
    have h3 : 10000 ^ A.length = 10000 ^ r.length * 10000 ^ (A.length - (r.length + 1) + 1) := by rw [← Nat.pow_add]; congr 1; omega
    have h4 := Nat.mul_le_mul_right (10000 ^ (A.length - (r.length + 1) + 1)) h2
    omega
theorem DivAt.upper {A B : List Nat} {n i : Nat} {Q R : List Nat} (h : DivAt A B n (i + 1) Q R) : trimL (R.drop i) = digsL 10000 (leV 10000 R / 10000 ^ i) ∧ leV 10000 R / 10000 ^ i < 10000 * leV 10000 B := by
  have h1 : DigB 10000 (R.drop i) := fun x hx => h.rdig x (List.mem_of_mem_drop hx)
  constructor
  · rw [← leV_drop' h.rdig i, ← trimL_val, digsL_leV (by decide) (trimL_dig h1) (trimL_norm _)]
  · refine (Nat.div_lt_iff_lt_mul (Nat.pow_pos (by decide))).2 ?_
    have := h.lt
    rw [Nat.pow_succ] at this
    rw [Nat.mul_assoc, Nat.mul_comm 10000, Nat.mul_assoc]; exact this
theorem DivAt.step {A B : List Nat} {n i : Nat} {Q R : List Nat} (h : DivAt A B n (i + 1) Q R) (hb : 0 < leV 10000 B) (hi : i < n) :
    DivAt A B n i (Q.set i (leV 10000 R / 10000 ^ i / leV 10000 B)) (R.take i ++ digsL 10000 (leV 10000 R / 10000 ^ i % leV 10000 B)) := by
  have hp : 0 < 10000 ^ i := Nat.pow_pos (by decide)
  obtain ⟨h1, h2, h3⟩ := long_step hp hb (by have := h.lt; rw [Nat.pow_succ] at this; exact this)
  have hir : i ≤ R.length := by have := h.kr; omega
  have htl : (R.take i).length = i := by simp; omega
  have hv : leV 10000 (R.take i ++ digsL 10000 (leV 10000 R / 10000 ^ i % leV 10000 B)) = leV 10000 R % 10000 ^ i + 10000 ^ i * (leV 10000 R / 10000 ^ i % leV 10000 B) := by
    rw [leV_append, htl, leV_digsL (by decide), leV_take (by decide) h.rdig i hir]
  have hU := leV_drop' h.rdig i
  have hUlt : leV 10000 (R.drop i) < 10000 ^ (R.drop i).length := leV_lt (fun x hx => h.rdig x (List.mem_of_mem_drop hx))
  have hml : (digsL 10000 (leV 10000 R / 10000 ^ i % leV 10000 B)).length ≤ R.length - i := by
    refine digsL_len_le (Nat.lt_of_le_of_lt (Nat.mod_le _ _) ?_)
    rw [← hU]; simpa using hUlt
  refine ⟨by rw [List.length_set]; exact h.qlen, fun x hx => ?_, fun j hj => ?_, ?_, ?_, ?_, ?_, ?_, fun e => ?_⟩
  · rcases List.mem_or_eq_of_mem_set hx with hx | hx
    · exact h.qdig x hx
    · rw [hx]; exact h1
  · rw [List.getD_eq_getElem?_getD, List.getElem?_set, if_neg (by omega), ← List.getD_eq_getElem?_getD]
    exact h.qz j (by omega)
  · exact DigB.append (fun x hx => h.rdig x (List.mem_of_mem_take hx)) (digsL_dig (by decide) _)
  · rw [List.length_append, htl]; have := h.rlen; omega
  · rw [List.length_append, htl]; omega
  · rw [hv, leV_set 10000 Q i _ (by rw [h.qlen]; exact hi) (h.qz i (by omega)), Nat.add_mul]
    have := h.val
    omega
  · rw [hv]; exact h3
  · subst e
    rw [List.take_zero, List.nil_append]
    exact digsL_norm (by decide) _
theorem DivAt.done {A B : List Nat} {n : Nat} {Q R : List Nat} (h : DivAt A B n 0 Q R) (hb : 0 < leV 10000 B) : trimL Q = digsL 10000 (leV 10000 A / leV 10000 B) ∧ R = digsL 10000 (leV 10000 A % leV 10000 B) := by
  have h1 : leV 10000 R < leV 10000 B := by have := h.lt; simpa using this
  have h2 := h.val
  have h3 : leV 10000 A / leV 10000 B = leV 10000 Q := by
    rw [h2, Nat.add_comm, Nat.add_mul_div_right _ _ hb, Nat.div_eq_of_lt h1, Nat.zero_add]
  have h4 : leV 10000 A % leV 10000 B = leV 10000 R := by
    rw [h2, Nat.add_comm, Nat.add_mul_mod_self_right, Nat.mod_eq_of_lt h1]
  constructor
  · rw [h3, ← trimL_val 10000 Q, digsL_leV (by decide) (trimL_dig h.qdig) (trimL_norm _)]
  · rw [h4, digsL_leV (by decide) h.rdig (h.nrm rfl)]

theorem RowAt.grown {w w' : World} {g gr : Nat} {C : List Int} (h : RowAt w g C) (hg : w.grownBy w' (some gr)) (hne : g ≠ gr) : RowAt w' g C := fun j hj => by
  obtain ⟨h1, h2⟩ := h j hj
  have hlt := lt_of_cell h1
  have h3 := hg.block g hlt (fun e => hne (Option.some.inj e))
  exact ⟨by rw [← h1]; simp only [World.cell?, h3], by rw [← h2]; simp only [World.frozen?, h3]⟩
theorem undrew {w w' : World} (h : Below w.drew.heap.size w.drew w') : Below w.heap.size w w' := ⟨h.os, h.tape, h.output, h.size, h.block⟩
theorem owns_take {w : World} {base g c : Nat} {R : List Nat} (h : w.ownsRow base 3 1 (.slice (some ⟨g, 0, none⟩) R.length c) R.length (i64l R)) {k : Nat} (hk : k ≤ R.length) : w.ownsRow base 3 1 (.slice (some ⟨g, 0, none⟩) k c) k (i64l (R.take k)) := by
  obtain ⟨h1, h2⟩ := h
  have hlen : (i64l (R.take k)).length = k * 1 := by rw [i64l_len]; simp; omega
  refine ⟨hlen, ?_⟩
  rcases h2 with ⟨h2, _⟩ | ⟨g', cap, cur, hv, hg, hh, h3, h4, h5, h6⟩
  · cases h2
  · cases hv
    refine .inr ⟨g, c, cur, rfl, hg, hh, by omega, h4, h5, ?_⟩
    rw [Nat.mul_one] at h6 ⊢
    have : i64l (R.take k) = (i64l R).take k := by simp [i64l]
    rw [this, ← h6, List.take_take, Nat.min_eq_left hk]
theorem owns_cells {w : World} {base g c : Nat} {R : List Nat} (h : w.ownsRow base 3 1 (.slice (some ⟨g, 0, none⟩) R.length c) R.length (i64l R)) : ∀ j, j < R.length → w.cell? ⟨g, j, none⟩ = some (.int .i64 (R.getD j 0 : Nat)) := fun j hj => by
  obtain ⟨g', c', h1, _, _, h2⟩ := mag_of_owns h (by omega)
  cases h1
  exact h2 j hj
theorem owns_lt {w : World} {base g c : Nat} {R : List Nat} (h : w.ownsRow base 3 1 (.slice (some ⟨g, 0, none⟩) R.length c) R.length (i64l R)) : g < w.heap.size := by
  obtain ⟨_, ⟨h2, _⟩ | ⟨g', cap, cur, hv, hg, hh, _⟩⟩ := h
  · cases h2
  · cases hv; exact lt_of_block hh
theorem owns_cap {w : World} {base g c : Nat} {R : List Nat} (h : w.ownsRow base 3 1 (.slice (some ⟨g, 0, none⟩) R.length c) R.length (i64l R)) : Room R.length c ∧ base ≤ g := by
  obtain ⟨_, ⟨h2, _⟩ | ⟨g', cap, cur, hv, hg, hh, h3, h4, _⟩⟩ := h
  · cases h2
  · cases hv; exact ⟨⟨h3, by unfold maxLen at h4; omega⟩, hg⟩
/-- append within the capacity, as one step of a region. -/
theorem step_append_fits {P : Program} {ops : Array Oper} {o : Oper} {a : Act} {w : World} {K : Act → World → Prop} {Q : Exit → Act → World → Prop} {E : Prop}
    (hg : o.guard = none) (s x : Operand) (t : TypeId) (hop : o.op = Op.call { callee := Callee.builtin Builtin.append, args := #[s, x], argTypes := #[t, t] })
    (base : Nat) (e : TypeId) (i : TypeInfo) (size : Nat) (h1 : P.underlying t = some (.slice e)) (h2 : P.info? e = some i) (h4 : i.size = size)
    (g k cap : Nat) (xs : List Value) (hs : a.eval s = .slice (some ⟨g, 0, none⟩) k cap) (hown : w.ownsRow base e size (.slice (some ⟨g, 0, none⟩) k cap) k xs) (ad : Addr) (m c : Nat) (news : List Value) (hx : a.eval x = .slice (some ad) m c) (hn : news.length = m * size)
    (hc : ∀ j u, news[j]? = some u → w.cell? (ad.add j) = some u) (h1c : ∀ u ∈ news, u.oneCell' = true) (b1 : k + m ≤ cap)
    (hK : ∀ w', w'.ownsRow base e size (.slice (some ⟨g, 0, none⟩) (k + m) cap) (k + m) (xs ++ news) → w.grownBy w' (some g) → K (a.put o.dst (.slice (some ⟨g, 0, none⟩) (k + m) cap)) w') :
    if Region.wanted o (yielded ops a.tmps) = true then Oper.wp P o a w K Q else E := by
  have hw : Region.wanted o (yielded ops a.tmps) = true := by simp [Region.wanted, hg]
  rw [if_pos hw]
  obtain ⟨w', hrun, r1, r2⟩ := run_append_fits (P := P) w base t o.type e i size h1 h2 h4 g k cap xs hown ad m c news hn hc h1c b1
  unfold Oper.wp
  simp [execOp, hop, resolve, invoke, builtin, hs, hx, hrun, Result.andThen]
  exact hK w' r1 r2
theorem slice_hiI (a : Option Addr) (n c k : Nat) (hk : k ≤ c) (hs : a = none ∧ c = 0 ∨ ∃ g, a = some ⟨g, 0, none⟩) (w : World) :
    (Instr.slice 80 (.slice a n c) none (some (.int .i64 (k : Nat))) none).run Tryz.prog w = .ok (.slice a k c) w := by
  have ht : Tryz.prog.underlying 80 = some (.slice (Tryz.prog.elem 80)) := by kernel_rfl
  have hz : (sizeOf (Tryz.prog.elem 80)).run Tryz.prog w = .ok 1 w := by kernel_rfl
  rw [run_slice_h w 80 a n c ht .i64 k (by omega) (by omega), hz]
  simp only [Result.andThen, sliced, Int.toNat_natCast, Nat.sub_zero]
  rcases hs with ⟨rfl, rfl⟩ | ⟨g, rfl⟩
  · simp
  · split <;> simp [Addr.add]
end Go.Proofs.YtelckldddflmmaaGreatDoor
/- IntDiv: The contract of the long division of magnitudes. -/
namespace Go.Proofs.YtelckldddflmmaaGreatDoor
open Go.RowKit Putlog

theorem slice_loI (g n c i : Nat) (hi : i ≤ n) : ∃ a : Option Addr, (c ≠ i → a = some ⟨g, i, none⟩) ∧ ∀ w, (Instr.slice 80 (.slice (some ⟨g, 0, none⟩) n c) (some (.int .i64 (i : Nat))) none none).run Tryz.prog w = .ok (.slice a (n - i) (c - i)) w := by
  refine ⟨if c = i then some ⟨g, 0, none⟩ else some ⟨g, i, none⟩, fun h => if_neg h, fun w => ?_⟩
  have ht : Tryz.prog.underlying 80 = some (.slice (Tryz.prog.elem 80)) := by kernel_rfl
  have hz : (sizeOf (Tryz.prog.elem 80)).run Tryz.prog w = .ok 1 w := by kernel_rfl
  rw [run_slice_l w 80 (some ⟨g, 0, none⟩) n c ht .i64 i (by omega) (by omega), hz]
  simp only [Result.andThen, sliced, Int.toNat_natCast]
  split <;> simp [Addr.add]
  omega
/-- The uppermost groups of the rest. -/
theorem upper_cells {w : World} {base g c i : Nat} {a : Option Addr} {R : List Nat} (h : w.ownsRow base 3 1 (.slice (some ⟨g, 0, none⟩) R.length c) R.length (i64l R)) (hi : i ≤ R.length) (ha : c ≠ i → a = some ⟨g, i, none⟩) : CellsAt w a (ofN (R.drop i)) ∧ Room (R.drop i).length (c - i) := by
  obtain ⟨⟨h1, h2⟩, _⟩ := owns_cap h
  have hl : (R.drop i).length = R.length - i := by simp
  constructor
  · rcases Nat.lt_or_ge i R.length with h3 | h3
    · refine .inr ⟨g, i, ha (by omega), fun j hj => ?_⟩
      rw [ofN_len, hl] at hj
      rw [owns_cells h (i + j) (by omega), ofN_get]
      simp [List.getD_eq_getElem?_getD]
    · refine .inl ?_
      rw [List.drop_of_length_le (by omega)]; rfl
  · rw [hl]; exact ⟨by omega, by omega⟩
theorem cells_trim {w : World} {a : Option Addr} {l : List Nat} (h : CellsAt w a (ofN l)) : CellsAt w a (ofN (trimL l)) := by
  have h1 := trimL_le l
  rcases Nat.eq_zero_or_pos (trimL l).length with h0 | h0
  · exact .inl (List.length_eq_zero_iff.1 (by rw [ofN_len]; exact h0))
  · obtain ⟨g, o, rfl, h2⟩ := cells_get h (k := 0) (by omega)
    refine .inr ⟨g, o, rfl, fun j hj => ?_⟩
    rw [ofN_len] at hj
    rw [h2 j (by omega), ofN_get]
    conv => rhs; rw [trimL_take l, take_getD l hj]
theorem mag_of_owns2 {w : World} {base g c : Nat} {l : List Nat} (h : w.ownsRow base 3 1 (.slice (some ⟨g, 0, none⟩) l.length c) l.length (i64l l)) : ∃ g' c', (.slice (some ⟨g, 0, none⟩) l.length c : Value) = .slice (some ⟨g', 0, none⟩) l.length c' ∧ base ≤ g' ∧ Room l.length c' ∧ CellsAt w (some ⟨g', 0, none⟩) (ofN l) := by
  obtain ⟨h1, h2⟩ := owns_cap h
  refine ⟨g, c, rfl, h2, h1, ?_⟩
  rcases Nat.eq_zero_or_pos l.length with h0 | h0
  · exact .inl (List.length_eq_zero_iff.1 (by rw [ofN_len]; exact h0))
  · exact .inr ⟨g, 0, rfl, fun j hj => by rw [Nat.zero_add, ofN_get]; rw [ofN_len] at hj; exact owns_cells h j hj⟩
theorem cells_set_other {w : World} {a : Option Addr} {l : List Int} {gq i : Nat} {v : Value} (h : CellsAt w a l) (hne : l ≠ [] → ∃ g o, a = some ⟨g, o, none⟩ ∧ g ≠ gq) : CellsAt (w.setCell ⟨gq, i, none⟩ v) a l := by
  rcases h with h | ⟨g, o, h1, h2⟩
  · exact .inl h
  · by_cases h0 : l = []
    · exact .inl h0
    · obtain ⟨g', o', h3, h4⟩ := hne h0
      rw [h1] at h3
      cases h3
      exact .inr ⟨g, o, h1, fun j hj => by rw [World.cell?_setCell_other _ _ _ _ (fun e => h4 (congrArg Addr.block e).symm)]; exact h2 j hj⟩
theorem cell_grown {w w' : World} {g gr i : Nat} {v : Value} (h : w.cell? ⟨g, i, none⟩ = some v) (hg : w.grownBy w' (some gr)) (hne : g ≠ gr) : w'.cell? ⟨g, i, none⟩ = some v := by
  have h3 := hg.block g (lt_of_cell h) (fun e => hne (Option.some.inj e))
  rw [← h]; simp only [World.cell?, h3]
theorem cells_new {w : World} {g : Nat} {l : List Nat} (h : CellsAt w (some ⟨g, 0, none⟩) (ofN l)) : ∀ j u, (i64l l)[j]? = some u → w.cell? ((⟨g, 0, none⟩ : Addr).add j) = some u := by
  intro j u hj
  have hjl : j < l.length := by have := (List.getElem?_eq_some_iff.1 hj).1; simpa [i64l] using this
  obtain ⟨g', o, h1, h2⟩ := cells_get h hjl
  cases h1
  rw [Addr.add_lit, h2 j hjl]
  rw [i64l_get hjl] at hj
  exact hj
theorem row_ofN_set {w : World} {g : Nat} {Q : List Nat} {i q : Nat} (h : RowAt w g (ofN Q)) (hi : i < Q.length) : RowAt (w.setCell ⟨g, i, none⟩ (.int .i64 (q : Nat))) g (ofN (Q.set i q)) := by
  have := h.set i (by rw [ofN_len]; exact hi) (q : Int)
  have e : ofN (Q.set i q) = (ofN Q).set i (q : Int) := by simp [ofN, List.map_set]
  rw [e]; exact this
/-- The contract of a multiple and of a difference, their results by their cells. -/
theorem scaled_at (B : List Nat) (f : Nat) (hB : DigB 10000 B) (hf : f ≤ 10000) (hl : B.length ≤ 20000) (b : Option Addr) (cb : Nat) (W : World) (hv : CellsAt W b (ofN B)) :
    Calls Tryz.prog 121 #[.slice b B.length cb, .int .i64 f] W fun e w' => (∃ g c, e = .returned (.slice (some ⟨g, 0, none⟩) (digsL 10000 (leV 10000 B * f)).length c) ∧ Room (digsL 10000 (leV 10000 B * f)).length c ∧ CellsAt w' (some ⟨g, 0, none⟩) (ofN (digsL 10000 (leV 10000 B * f)))) ∧ Below W.heap.size W w' :=
  (scaled_any B f hB hf (by omega) b cb W hv).mono fun e w' ⟨⟨v, h1, hn⟩, hb⟩ => by
    obtain ⟨a', c', h2, h3, h4⟩ := hn.mag
    obtain ⟨g, c, rfl, _⟩ := hn
    cases h2
    exact ⟨⟨g, _, h1, h3, h4⟩, hb⟩
theorem minus_at (A B : List Nat) (hA : DigB 10000 A) (hB : DigB 10000 B) (hlA : A.length ≤ 30000) (hlen : B.length ≤ A.length) (hle : leV 10000 B ≤ leV 10000 A) (a b : Option Addr) (ca cb : Nat) (W : World)
    (hra : Room A.length ca) (hrb : Room B.length cb) (hva : CellsAt W a (ofN A)) (hvb : CellsAt W b (ofN B)) :
    Calls Tryz.prog 99 #[.slice a A.length ca, .slice b B.length cb] W fun e w' => (∃ g c, e = .returned (.slice (some ⟨g, 0, none⟩) (digsL 10000 (leV 10000 A - leV 10000 B)).length c) ∧ Room (digsL 10000 (leV 10000 A - leV 10000 B)).length c ∧ CellsAt w' (some ⟨g, 0, none⟩) (ofN (digsL 10000 (leV 10000 A - leV 10000 B)))) ∧ Below W.heap.size W w' :=
  (minus_any A B hA hB hlA hlen hle a b ca cb W hra hrb hva hvb).mono fun e w' ⟨⟨v, h1, hn⟩, hb⟩ => by
    obtain ⟨a', c', h2, h3, h4⟩ := hn.mag
    obtain ⟨g, c, rfl, _⟩ := hn
    cases h2
    exact ⟨⟨g, _, h1, h3, h4⟩, hb⟩
set_option maxRecDepth 100000 in
set_option maxHeartbeats 8000000 in
theorem div_ge (A B : List Nat) (hA : DigB 10000 A) (hB : DigB 10000 B) (nA : Norm A) (nB : Norm B) (h0 : B ≠ []) (hlA : A.length ≤ 5000) (hlen : B.length ≤ A.length) (a b : Option Addr) (ca cb : Nat) (w : World)
    (hra : Room A.length ca) (hrb : Room B.length cb) (hva : CellsAt w a (ofN A)) (hvb : CellsAt w b (ofN B)) :
    Calls Tryz.prog 97 #[.slice a A.length ca, .slice b B.length cb] w fun e w' => (∃ v u, e = .returned (.tuple #[v, u]) ∧ MagAt w' v (digsL 10000 (leV 10000 A / leV 10000 B)) ∧ MagAt w' u (digsL 10000 (leV 10000 A % leV 10000 B))) ∧ Below w.heap.size w w' := by
  have hlen0 : 0 < B.length := List.length_pos_iff.2 h0
  obtain ⟨i0, hi0, hz0, hz1, hz2⟩ := info_parts info_int
  have HI0 := Lib.hid hi0
  have HZ0 := Lib.hid hz0
  have HZ1 := Lib.hid hz1
  have HZ2 := Lib.hid hz2
  have HBp := Lib.hid (leV_pos (B := 10000) (by decide) nB h0)
  have HST := Lib.hid (DivAt.start hA nB h0 hlen)
  have HDB := Lib.hid hB
  have HNB := Lib.hid nB
  have HB0 := Lib.hid h0
  have HVB := Lib.hid hvb
  have HRB := Lib.hid hrb
  have hra1 := hra.1
  have hrb1 := hrb.1
  have HCL := Lib.hid (clone_any A (by omega) a ca w hva)
  have hlA' : (A.length : Int) ≤ 5000 := by omega
  have hlen' : (B.length : Int) ≤ A.length := by omega
  have HLB : Hid (B.length ≤ 5000) := by show _ ≤ _; omega
  have HLA : Hid (A.length ≤ 5000) := hlA
  have HLE : Hid (B.length ≤ A.length) := hlen
  have HA0 : Hid (0 < A.length) := by show _ < _; omega
  have HNA := Lib.hid nA
  obtain ⟨n, hn⟩ : ∃ n, n = A.length - B.length + 1 := ⟨_, rfl⟩
  have hmax : max (0 : Int) ((A.length : Int) - B.length + 1) = (n : Nat) := by omega
  have hnb : (n : Int) ≤ 5001 := by omega
  have hni : (A.length : Int) - B.length = (n : Nat) - 1 := by omega
  have hn1 : (1 : Int) ≤ n := by omega
  rw [← hn] at HST
  clear hi0 hz0 hz1 hz2 hA hB nA nB h0 hlA hlen hra hrb hva hvb hlen0 hn
  go_enter Tryz.func97, Tryz.ntmps97
  go_wp2_with fail
  refine HCL.out.mono ?_
  rintro e w1 ⟨⟨v, rfl, hown⟩, hB1⟩
  obtain ⟨gr, cr, rfl, _⟩ := mag_of_owns hown HA0.out
  have hgr := owns_lt hown
  have HO := Lib.hid hown
  have HB1 := Lib.hid hB1
  have HGR := Lib.hid hgr
  clear hown hB1 hgr HCL
  go_wp2_with (at_make; go_must (refine wpList_make_full _ rfl _ _ 80 rfl w1.heap.size 3 i0 (.int .i64 0) 1 Tryz.underlying80 HI0.out HZ0.out HZ1.out .i64 .i64 (n : Int) (n : Int) n rfl rfl rfl rfl (by rw [HZ2.out]; omega) (by unfold maxLen; omega) (Nat.le_refl _) ?_); intro w2 hown2 hgrow2; have HC2 := Lib.hid (cols_made hown2); have HO2 := Lib.hid (ownsRow_below HO.out (belowMade hgrow2)); have HB2 := Lib.hid (belowVia (belowMade hgrow2) HB1.out); clear hown2 hgrow2)
  have hgq : w1.heap.size ≠ gr := by have := HGR.out; omega
  have HGQ := Lib.hid hgq
  have HBS := Lib.hid HB1.out.size
  have HC3 : Hid (RowAt w2 w1.heap.size (ofN (List.replicate n 0))) := by
    show RowAt _ _ _
    obtain ⟨g, _, hge, hrow⟩ := HC2.out.at (k := 0) (by rw [List.length_replicate]; omega)
    cases hge
    simpa [ofN] using hrow
  generalize w1.heap.size = gq at *
  clear hgq HC2 HO HB1 HGR
  go_loopw [6, 8] (fun v i wr => ∃ (k : Nat) (Q R : List Nat), k ≤ n ∧ i = .int .i64 ((k : Int) - 1) ∧ v = .slice (some ⟨gr, 0, none⟩) R.length cr ∧ DivAt A B n k Q R ∧ wr.ownsRow w.heap.size 3 1 (.slice (some ⟨gr, 0, none⟩) R.length cr) R.length (i64l R) ∧ RowAt wr gq (ofN Q) ∧ Below w.heap.size w wr) (fun _ i _ => (1 + intOf i).toNat)
  case atStart => exact ⟨n, _, A, Nat.le_refl _, rfl, rfl, HST.out, HO2.out, HC3.out, HB2.out⟩
  case round =>
    clear HST HO2 HC3 HB2 hmax hni hlA' hlen' HNA HA0
    obtain ⟨k, Q, R, hk, rfl, rfl, hdiv, hown, hrow, hB⟩ := hrel
    have HD := Lib.hid hdiv
    have HO := Lib.hid hown
    have HQ := Lib.hid hrow
    have HB := Lib.hid hB
    clear hdiv hown hrow hB
    rcases Nat.eq_zero_or_pos k with rfl | hk0
    · have hTR := trimmed_any Q (by rw [HD.out.qlen]; omega) (some ⟨gq, 0, none⟩) n wr (by rw [HD.out.qlen]; exact ⟨Nat.le_refl _, by omega⟩) HQ.out.cells
      rw [HD.out.qlen] at hTR
      obtain ⟨e1, e2⟩ := HD.out.done HBp.out
      have HTR := Lib.hid hTR
      have HE1 := Lib.hid e1
      have HE2 := Lib.hid e2
      clear hTR e1 e2
      go_wp2_with fail
      refine HTR.out.mono ?_
      rintro e w3 ⟨rfl, rfl⟩
      go_wp2_with fail
      go_ret2
      refine ⟨⟨_, _, rfl, ?_, ?_⟩, HB.out⟩
      · rw [← HE1.out]
        refine ⟨_, _, rfl, ⟨?_, ?_⟩, cells_trim HQ.out.cells⟩
        · have := trimL_le Q; rw [HD.out.qlen] at this; exact this
        · omega
      · rw [← HE2.out]
        obtain ⟨g', c', h1, h2, h3, h4⟩ := mag_of_owns2 HO.out
        exact ⟨_, _, h1, h3, h4⟩
    · obtain ⟨i, rfl⟩ : ∃ i, k = i + 1 := ⟨k - 1, by omega⟩
      have hqe : ((i + 1 : Nat) : Int) - 1 = i := by omega
      rw [hqe]
      have hin : i < n := by omega
      have hir : i ≤ R.length := by have := HD.out.kr; omega
      have hRl : R.length ≤ 5000 := by have := HD.out.rlen; have := HLA.out; omega
      obtain ⟨hcap, _⟩ := owns_cap HO.out
      obtain ⟨au, hau, hslice⟩ := slice_loI gr R.length cr i hir
      have hslice2 := slice_hiI (some ⟨gr, 0, none⟩) R.length cr i (by have := hcap.1; omega) (.inr ⟨gr, rfl⟩)
      obtain ⟨hcu, hru⟩ := upper_cells HO.out hir hau
      have hlu : (R.drop i).length = R.length - i := by simp
      have hTR := trimmed_any (R.drop i) (by omega) au (cr - i) wr hru hcu
      obtain ⟨hdu, hlt⟩ := HD.out.upper
      have hcu2 := cells_trim hcu
      have hru2 : Room (trimL (R.drop i)).length (cr - i) := ⟨by have := trimL_le (R.drop i); have := hru.1; omega, hru.2⟩
      have hstep := HD.out.step HBp.out hin
      rw [hdu] at hTR hcu2 hru2
      rw [hlu] at hTR
      obtain ⟨U, hU⟩ : ∃ U, U = leV 10000 R / 10000 ^ i := ⟨_, rfl⟩
      rw [← hU] at hTR hcu2 hru2 hlt hstep
      have hBd := leV_lt HDB.out
      have hDl : (digsL 10000 U).length ≤ B.length + 1 := digsL_len_le (by rw [Nat.pow_succ]; omega)
      have hG := group_any (digsL 10000 U) B (digsL_dig (by decide) _) HDB.out (digsL_norm (by decide) _) HNB.out HB0.out (by have := HLB.out; omega) hDl (by rw [leV_digsL (by decide)]; exact hlt) au b (cr - i) cb hru2 HRB.out wr hcu2 (HVB.out.via HB.out)
      rw [leV_digsL (by decide)] at hG
      have hq : U / leV 10000 B < 10000 := (Nat.div_lt_iff_lt_mul HBp.out).2 hlt
      have hSC := fun W hc => scaled_at B (U / leV 10000 B) HDB.out (by omega) (by have := HLB.out; omega) b cb W hc
      have hbq : leV 10000 B * (U / leV 10000 B) ≤ U := Nat.mul_div_le _ _
      have hmod : U - leV 10000 B * (U / leV 10000 B) = U % leV 10000 B := by have := Nat.div_add_mod U (leV 10000 B); omega
      have hMI := fun W g c hva hr hc => minus_at (digsL 10000 U) (digsL 10000 (leV 10000 B * (U / leV 10000 B))) (digsL_dig (by decide) _) (digsL_dig (by decide) _) (by have := HLB.out; omega)
        (digsL_len_le (Nat.lt_of_le_of_lt hbq (by have := leV_lt (digsL_dig (B := 10000) (by decide) U); rwa [leV_digsL (by decide)] at this))) (by rw [leV_digsL (by decide), leV_digsL (by decide)]; exact hbq) au (some ⟨g, 0, none⟩) (cr - i) c W hru2 hr hva hc
      simp only [leV_digsL (B := 10000) (by decide)] at hMI
      rw [hmod] at hMI
      have hml : (digsL 10000 (U % leV 10000 B)).length ≤ R.length - i := by
        have h1 := hstep.rlen
        have h2 : (R.take i).length = i := by simp; omega
        refine digsL_len_le (Nat.lt_of_le_of_lt (Nat.mod_le _ _) ?_)
        have h3 : leV 10000 (R.drop i) < 10000 ^ (R.drop i).length := leV_lt (fun x hx => HD.out.rdig x (List.mem_of_mem_drop hx))
        rw [leV_drop' HD.out.rdig i, ← hU, hlu] at h3
        exact h3
      have hil : (R.take i).length = i := by simp; omega
      have hqQ : i < Q.length := by rw [HD.out.qlen]; exact hin
      have HAU : Hid (ofN (digsL 10000 U) ≠ [] → ∃ g o, au = some ⟨g, o, none⟩ ∧ g ≠ gq) := fun h => ⟨gr, i, hau (fun e => h (by
        have h1 : R.drop i = [] := List.drop_of_length_le (by have := hcap.1; omega)
        rw [h1] at hdu
        rw [hU, ← hdu]; rfl)), fun e => HGQ.out e.symm⟩
      have HTR := Lib.hid hTR
      have HG := Lib.hid hG
      have HSC := Lib.hid hSC
      have HMI := Lib.hid hMI
      have HNX := Lib.hid hstep
      have HML := Lib.hid hml
      have HIL := Lib.hid hil
      have HCP := Lib.hid hcap
      have HCU := Lib.hid hcu2
      have hrow := HQ.out i (by rw [ofN_len]; exact hqQ)
      have HRW : Hid (∀ W q, Below wr.heap.size wr W → RowAt (W.setCell ⟨gq, i, none⟩ (.int .i64 (q : Nat))) gq (ofN (Q.set i q))) := fun W q hb => row_ofN_set (HQ.out.via hb) hqQ
      have HRC : Hid (∀ W, Below wr.heap.size wr W → W.cell? ⟨gq, i, none⟩ = some (.int .i64 ((ofN Q).getD i 0)) ∧ W.frozen? ⟨gq, i, none⟩ = false) := fun W hb => (HQ.out.via hb) i (by rw [ofN_len]; exact hqQ)
      have hin' : (i : Int) < n := by omega
      have hiR : (i : Int) ≤ R.length := by omega
      have hRb : (R.length : Int) ≤ 5000 := by omega
      clear hdu hlt hbq hmod hml hil hcap hqQ hSC hMI hG hTR hstep hDl hBd hru hcu hlu hru2 hcu2 hau hU hrow hqe
      generalize digsL 10000 (leV 10000 B * (U / leV 10000 B)) = S at *
      generalize digsL 10000 (U % leV 10000 B) = M at *
      generalize digsL 10000 U = D at *
      generalize U / leV 10000 B = q at *
      go_wp2_with fail
      refine HTR.out.mono ?_
      rintro e w3 ⟨rfl, rfl⟩
      go_wp2_with fail
      refine HG.out.mono ?_
      rintro e w3 ⟨rfl, hB3⟩
      obtain ⟨hc3, hf3⟩ := HRC.out w3 hB3
      have HR4 := Lib.hid (HRW.out w3 q hB3)
      have HB4 := Lib.hid (below_set (belowVia hB3 HB.out) HBS.out (i := i) (.int .i64 (q : Nat)))
      have HO4 := Lib.hid (ownsRow_setCell_other (ownsRow_below HO.out hB3) (a := ⟨gq, i, none⟩) (fun e => HGQ.out (by cases e; rfl)) (.int .i64 (q : Nat)))
      have HD4 := Lib.hid (cells_set_other (i := i) (v := .int .i64 (q : Nat)) (HCU.out.via hB3) HAU.out)
      have HV4 := Lib.hid (HVB.out.via HB4.out)
      clear hB3
      go_wp2_with fail
      generalize w3.setCell ⟨gq, i, none⟩ (.int .i64 (q : Nat)) = w4 at *
      have hcq : w4.cell? ⟨gq, i, none⟩ = some (.int .i64 (q : Nat)) := by
        have h1 := (HR4.out i (by rw [ofN_len, List.length_set]; have := HD.out.qlen; omega)).1
        rw [ofN_get] at h1
        rw [h1]
        have h2 : i < Q.length := by have := HD.out.qlen; omega
        simp [List.getD_eq_getElem?_getD, h2]
      clear HRW HRC HG HTR hc3 hf3 HCU HAU HO HQ HB
      go_region_held3 (fun w' => w'.cell? ⟨gq, i, none⟩ = some (.int .i64 (q : Nat))) (first | exact hcq | exact keptBelow hB5 hcq | exact keptBelow hB6 (keptBelow hB5 hcq) | exact cell_grown (keptBelow hB6 (keptBelow hB5 hcq)) hg7 HGQ.out) (first
        | (go_at_call 121; (with_reducible refine (HSC.out _ ?_).mono ?_); exact HV4.out; rintro e w5 ⟨⟨g5, c5, rfl, hr5, hc5⟩, hB5⟩)
        | (go_at_call 99; (with_reducible refine (HMI.out _ _ _ ?_ hr5 ?_).mono ?_); exact CellsAt.via hB5 HD4.out; exact hc5; rintro e w6 ⟨⟨g6, c6, rfl, hr6, hc6⟩, hB6⟩)
        | (refine step_append_fits rfl _ _ 80 rfl w.heap.size 3 i0 1 Tryz.underlying80 HI0.out HZ1.out gr i cr (i64l (R.take i)) (by rfl) (ownsRow_below (ownsRow_below (owns_take HO4.out hir) (undrew hB5)) hB6) ⟨g6, 0, none⟩ M.length c6 (i64l M) (by rfl) (by rw [i64l_len, Nat.mul_one]) (cells_new hc6) (i64l_one M) (by have := HML.out; have := HCP.out.1; omega) (fun w7 hown7 hg7 => ?_)))
      have hB7 := belowVia hB6 (belowVia (undrew hB5) HB4.out)
      have HR7 := Lib.hid (((HR4.out.via (undrew hB5)).via hB6).grown hg7 HGQ.out)
      have HB7 := Lib.hid (hB7.grown hg7 hB7.size (fun k e => by cases e; exact (owns_cap HO4.out).2))
      have hlen : (R.take i ++ M).length = i + M.length := by rw [List.length_append, HIL.out]
      have HO7 : Hid (w7.ownsRow w.heap.size 3 1 (.slice (some ⟨gr, 0, none⟩) (R.take i ++ M).length cr) (R.take i ++ M).length (i64l (R.take i ++ M))) := by
        show World.ownsRow _ _ _ _ _ _ _
        rw [hlen, show i64l (R.take i ++ M) = i64l (R.take i) ++ i64l M by simp [i64l]]
        exact hown7
      clear hB7 hB5 hB6 hown7 hg7 HR4 HB4 HO4 HD4 HV4 hc5 hc6
      go_wp2_with fail
      go_roundw
      case rel => exact ⟨i, Q.set i q, R.take i ++ M, by omega, rfl, by rw [hlen], HNX.out, HO7.out, HR7.out, HB7.out⟩
      case measure => simp [intOf]; omega
end Go.Proofs.YtelckldddflmmaaGreatDoor
/- IntQuo: The contract of the division of magnitudes, where the divisor is longer too; of the greatest common divisor. -/
namespace Go.Proofs.YtelckldddflmmaaGreatDoor
open Go.RowKit Putlog

set_option maxRecDepth 100000 in
set_option maxHeartbeats 8000000 in
theorem div_lt (A B : List Nat) (hA : DigB 10000 A) (nA : Norm A) (nB : Norm B) (hlB : B.length ≤ 5000) (hlen : A.length < B.length) (a b : Option Addr) (ca cb : Nat) (w : World)
    (hra : Room A.length ca) (hrb : Room B.length cb) (hva : CellsAt w a (ofN A)) :
    Calls Tryz.prog 97 #[.slice a A.length ca, .slice b B.length cb] w fun e w' => (∃ v u, e = .returned (.tuple #[v, u]) ∧ MagAt w' v (digsL 10000 (leV 10000 A / leV 10000 B)) ∧ MagAt w' u (digsL 10000 (leV 10000 A % leV 10000 B))) ∧ Below w.heap.size w w' := by
  have hlt := leV_len_lt (B := 10000) (by decide) hA nB hlen
  have e1 : digsL 10000 (leV 10000 A / leV 10000 B) = [] := by rw [Nat.div_eq_of_lt hlt, digsL_zero]
  have e2 : digsL 10000 (leV 10000 A % leV 10000 B) = A := by rw [Nat.mod_eq_of_lt hlt, digsL_leV (by decide) hA nA]
  rw [e1, e2]
  obtain ⟨i0, hi0, hz0, hz1, hz2⟩ := info_parts info_int
  have HI0 := Lib.hid hi0
  have HZ0 := Lib.hid hz0
  have HZ1 := Lib.hid hz1
  have HZ2 := Lib.hid hz2
  have hra1 := hra.1
  have hrb1 := hrb.1
  have HCL := Lib.hid (clone_any A (by omega) a ca w hva)
  obtain ⟨n, hn⟩ : ∃ n, n = A.length := ⟨_, rfl⟩
  obtain ⟨m, hm⟩ : ∃ m, m = B.length := ⟨_, rfl⟩
  rw [← hn] at hra1 HCL hlen
  rw [← hm] at hrb1 hlB hlen
  rw [← hn, ← hm]
  have HN := Lib.hid hn
  have hlA' : (n : Int) ≤ 5000 := by omega
  have hlB' : (m : Int) ≤ 5000 := by omega
  have hlen' : (n : Int) < m := by omega
  have hmax : max (0 : Int) ((n : Int) - m + 1) = ((0 : Nat) : Int) := by omega
  obtain ⟨d, hd⟩ : ∃ d : Int, (n : Int) - m = d := ⟨_, rfl⟩
  have hdn : d < 0 := by omega
  have hdn2 : ¬ (0 ≤ d) := by omega
  have hdb : -5000 ≤ d := by omega
  rw [hd] at hmax
  have HTR := Lib.hid (fun (W : World) (a : Option Addr) => trimmed_any [] (by simp) a 0 W Room.zero (.inl rfl))
  clear hi0 hz0 hz1 hz2 hA nA nB hlB hlen hra hrb hva hlt e1 e2 hn hm
  go_enter Tryz.func97, Tryz.ntmps97
  go_wp2_with fail
  refine HCL.out.mono ?_
  rintro e w1 ⟨⟨v, rfl, hown⟩, hB1⟩
  have hown' : w1.ownsRow w.heap.size 3 1 v A.length (i64l A) := by rw [← HN.out]; exact hown
  obtain ⟨a1, c1, rfl, hr1, hc1⟩ := cols_clone hown'
  have HC1 := Lib.hid hc1.cells
  have HR1 := Lib.hid hr1
  have HB1 := Lib.hid hB1
  clear hown hB1 hown' hc1 hr1 HCL
  rw [← HN.out]
  go_wp2_with (at_make; go_must (refine wpList_make_full _ rfl _ _ 80 rfl w1.heap.size 3 i0 (.int .i64 0) 1 Tryz.underlying80 HI0.out HZ0.out HZ1.out .i64 .i64 ((0 : Nat) : Int) ((0 : Nat) : Int) 0 rfl rfl rfl rfl (by rw [HZ2.out]; omega) (by unfold maxLen; omega) (Nat.le_refl _) ?_); intro w2 hown2 hgrow2; have HC2 := Lib.hid (HC1.out.via (belowMade hgrow2)); have HB2 := Lib.hid (belowVia (belowMade hgrow2) HB1.out); clear hown2 hgrow2)
  go_loopw [6, 8] (fun v i wr => v = .slice a1 n c1 ∧ i = .int .i64 d ∧ wr = w2) (fun _ i _ => 0)
  case atStart => exact ⟨rfl, rfl, rfl⟩
  case round =>
    obtain ⟨rfl, rfl, rfl⟩ := hrel
    go_wp2_with fail
    refine (HTR.out _ _).mono ?_
    rintro e w3 ⟨rfl, rfl⟩
    go_wp2_with fail
    go_ret2
    refine ⟨⟨_, _, rfl, ⟨_, _, rfl, ⟨?_, ?_⟩, .inl rfl⟩, ?_⟩, HB2.out⟩
    · simp
    · omega
    · show MagAt w3 (.slice a1 n c1) A
      exact ⟨_, _, by rw [HN.out], HR1.out, HC2.out⟩
theorem div_any (A B : List Nat) (hA : DigB 10000 A) (hB : DigB 10000 B) (nA : Norm A) (nB : Norm B) (h0 : B ≠ []) (hlA : A.length ≤ 5000) (hlB : B.length ≤ 5000) (u v : Value) (w : World) (hu : MagAt w u A) (hv : MagAt w v B) :
    Calls Tryz.prog 97 #[u, v] w fun e w' => (∃ q r, e = .returned (.tuple #[q, r]) ∧ MagAt w' q (digsL 10000 (leV 10000 A / leV 10000 B)) ∧ MagAt w' r (digsL 10000 (leV 10000 A % leV 10000 B))) ∧ Below w.heap.size w w' := by
  obtain ⟨a, ca, rfl, hra, hca⟩ := hu
  obtain ⟨b, cb, rfl, hrb, hcb⟩ := hv
  rcases Nat.lt_or_ge A.length B.length with h | h
  · exact div_lt A B hA nA nB hlB h a b ca cb w hra hrb hca
  · exact div_ge A B hA hB nA nB h0 hlA h a b ca cb w hra hrb hca hcb
/-- The number in a slice of groups. -/
def readN (w : World) (g o : Nat) : Nat → Nat
  | 0 => 0
  | n + 1 => (match w.cell? ⟨g, o, none⟩ with | some (.int _ k) => k.toNat | _ => 0) + 10000 * readN w g (o + 1) n
def magV (w : World) : Value → Nat
  | .slice (some ⟨g, o, none⟩) n _ => readN w g o n
  | _ => 0
theorem readN_at {w : World} {g : Nat} : ∀ (l : List Nat) (o : Nat), (∀ j, j < l.length → w.cell? ⟨g, o + j, none⟩ = some (.int .i64 (l.getD j 0 : Nat))) → readN w g o l.length = leV 10000 l
  | [], _, _ => rfl
  | x :: l, o, h => by
    have h0 := h 0 (by simp)
    rw [Nat.add_zero] at h0
    rw [List.length_cons, readN, h0, readN_at l (o + 1) (fun j hj => by have := h (j + 1) (by simp; omega); rw [show o + 1 + j = o + (j + 1) by omega]; simpa using this), leV]
    simp
theorem magV_at {w : World} {v : Value} {l : List Nat} (h : MagAt w v l) : magV w v = leV 10000 l := by
  obtain ⟨a, c, rfl, _, h2⟩ := h
  rcases h2 with h2 | ⟨g, o, rfl, h2⟩
  · have h3 : (ofN l).length = 0 := by rw [h2]; rfl
    rw [ofN_len] at h3
    obtain rfl := List.length_eq_zero_iff.1 h3
    cases a with
    | none => rfl
    | some ad => obtain ⟨g, o, s⟩ := ad; cases s <;> rfl
  · exact readN_at l o fun j hj => by rw [h2 j (by rw [ofN_len]; exact hj), ofN_get]
theorem gcd_step (A B : Nat) : Nat.gcd A B = Nat.gcd B (A % B) := by rw [Nat.gcd_comm A B, Nat.gcd_rec, Nat.gcd_comm]
theorem digsL_ne {B : Nat} (h : digsL 10000 B ≠ []) : B ≠ 0 := fun e => h (by rw [e, digsL_zero])
theorem digsL_nil {B : Nat} (h : digsL 10000 B = []) : B = 0 := by have := leV_digsL (B := 10000) (by decide) B; rw [h] at this; exact this.symm
set_option maxRecDepth 100000 in
set_option maxHeartbeats 8000000 in
theorem gcd_any (A B : Nat) (hA : A < 10000 ^ 250) (hB : B < 10000 ^ 250) (u v : Value) (w : World) (hu : MagAt w u (digsL 10000 A)) (hv : MagAt w v (digsL 10000 B)) :
    Calls Tryz.prog 88 #[u, v] w fun e w' => (∃ r, e = .returned r ∧ MagAt w' r (digsL 10000 (Nat.gcd A B))) ∧ Below w.heap.size w w' := by
  have HU := Lib.hid hu
  have HV := Lib.hid hv
  have HA := Lib.hid hA
  have HB := Lib.hid hB
  obtain ⟨G, hG⟩ : ∃ G, G = Nat.gcd A B := ⟨_, rfl⟩
  rw [← hG]
  have HG := Lib.hid hG
  clear hu hv hA hB hG
  go_enter Tryz.func88, Tryz.ntmps88
  go_wp2_with fail
  go_loopw [0, 1] (fun a b wr => ∃ X Y : Nat, MagAt wr a (digsL 10000 X) ∧ MagAt wr b (digsL 10000 Y) ∧ Nat.gcd X Y = G ∧ X < 10000 ^ 250 ∧ Y < 10000 ^ 250 ∧ Below w.heap.size w wr) (fun _ b wr => magV wr b)
  case atStart => exact ⟨A, B, HU.out, HV.out, HG.out.symm, HA.out, HB.out, Below.refl _ _⟩
  case round =>
    clear HU HV HA HB HG
    obtain ⟨X, Y, hX, hY, hg, hXb, hYb, hB⟩ := hrel
    have HX := Lib.hid hX
    have HG := Lib.hid hg
    have HXb := Lib.hid hXb
    have HYb := Lib.hid hYb
    have HB := Lib.hid hB
    obtain ⟨a1, c1, rfl, hr1, _⟩ := hX
    clear hg hXb hYb hB
    rcases Nat.eq_zero_or_pos Y with h0 | h0
    · subst h0
      rw [digsL_zero] at hY
      obtain ⟨b1, c2, rfl, hr2, _⟩ := hY
      clear hr1 hr2
      go_wp2_with fail
      go_ret
      refine ⟨⟨_, rfl, ?_⟩, HB.out⟩
      rw [← HG.out, Nat.gcd_zero_right]; exact HX.out
    · have hne : digsL 10000 Y ≠ [] := fun e => by have := digsL_nil e; omega
      have hlen : (0 : Int) < (digsL 10000 Y).length := by have := List.length_pos_iff.2 hne; omega
      have HDV := Lib.hid (div_any (digsL 10000 X) (digsL 10000 Y) (digsL_dig (by decide) _) (digsL_dig (by decide) _) (digsL_norm (by decide) _) (digsL_norm (by decide) _) hne (Nat.le_trans (digsL_len_le HXb.out) (by decide)) (Nat.le_trans (digsL_len_le HYb.out) (by decide)) _ _ wr HX.out hY)
      simp only [leV_digsL (B := 10000) (by decide)] at HDV
      have HMV : Hid (magV wr _ = Y) := (magV_at hY).trans (leV_digsL (by decide) Y)
      have HY := Lib.hid hY
      have HP : Hid (0 < Y) := h0
      obtain ⟨b1, c2, rfl, hr2, _⟩ := hY
      have hl2 : ((digsL 10000 Y).length : Int) ≤ 5000 := by have := digsL_len_le HYb.out; omega
      clear hne hr1 hr2 h0
      go_wp2_with fail
      refine HDV.out.mono ?_
      rintro e w1 ⟨⟨q, r, rfl, hq, hr⟩, hB1⟩
      have HR := Lib.hid hr
      have HM2 : Hid (magV w1 r = X % Y) := (magV_at hr).trans (leV_digsL (by decide) _)
      have HY1 := Lib.hid (HY.out.via hB1)
      have HB1 := Lib.hid (belowVia hB1 HB.out)
      clear hq hr hB1 HDV HY HX
      go_wp2_with fail
      go_roundw
      case rel => exact ⟨Y, X % Y, HY1.out, HR.out, by rw [← HG.out]; exact (gcd_step X Y).symm, HYb.out, Nat.lt_of_le_of_lt (Nat.mod_le _ _) HXb.out, HB1.out⟩
      case measure =>
        rw [HM2.out, HMV.out]
        exact Nat.mod_lt _ HP.out
end Go.Proofs.YtelckldddflmmaaGreatDoor
/- IntText: Plain mathematics of layer 3: groups of four digits and decimal texts. Nothing of the program. -/
namespace Putlog

/-- The four digits of a group, the lowest first. -/
def dig4 (g : Nat) : List Nat := [g % 10, g / 10 % 10, g / 10 / 10 % 10, g / 10 / 10 / 10 % 10]
def dig10 : List Nat → List Nat
  | [] => []
  | g :: l => dig4 g ++ dig10 l
theorem dig10_snoc : ∀ (l : List Nat) (g : Nat), dig10 (l ++ [g]) = dig10 l ++ dig4 g
  | [], g => by simp [dig10]
  | x :: l, g => by simp only [List.cons_append, dig10, dig10_snoc l g, List.append_assoc]
theorem dig10_len : ∀ l : List Nat, (dig10 l).length = 4 * l.length
  | [] => rfl
  | x :: l => by simp only [dig10, List.length_append, dig10_len l, List.length_cons, dig4, List.length_nil]; omega
theorem dig4_dig (g : Nat) : DigB 10 (dig4 g) := fun x hx => by
  simp only [dig4, List.mem_cons, List.not_mem_nil, or_false] at hx
  omega
theorem dig10_dig : ∀ l : List Nat, DigB 10 (dig10 l)
  | [] => DigB.nil _
  | g :: l => (dig4_dig g).append (dig10_dig l)
theorem dig4_val {g : Nat} (h : g < 10000) : leV 10 (dig4 g) = g := by simp only [dig4, leV]; omega
theorem dig10_val : ∀ l : List Nat, DigB 10000 l → leV 10 (dig10 l) = leV 10000 l
  | [], _ => rfl
  | g :: l, h => by
    have h1 := dig4_val (h g (List.mem_cons_self ..))
    have h2 : 10 ^ (dig4 g).length = 10000 := by show 10 ^ 4 = 10000; decide
    rw [dig10, leV_append, h1, dig10_val l h.tail, leV, h2]
theorem dropWhile_map {α β : Type} (f : α → β) (p : β → Bool) (q : α → Bool) : ∀ l : List α, (∀ x ∈ l, p (f x) = q x) → (l.map f).dropWhile p = (l.dropWhile q).map f
  | [], _ => rfl
  | x :: l, h => by
    have hx := h x (List.mem_cons_self ..)
    have ht := dropWhile_map f p q l fun y hy => h y (List.mem_cons_of_mem _ hy)
    simp only [List.map_cons, List.dropWhile_cons, hx]
    split
    · exact ht
    · simp
/-- The text of a magnitude: the digits without zeros in front. -/
theorem text_trim {l : List Nat} (hd : DigB 10 l) : ((l.reverse.map chr10).dropWhile (· == 48)) = (trimL l).reverse.map chr10 := by
  rw [dropWhile_map chr10 (· == 48) (· == 0)]
  · unfold trimL; rw [List.reverse_reverse]
  · intro x hx
    have h := hd x (List.mem_reverse.1 hx)
    by_cases e : x = 0
    · subst e; decide
    · have : chr10 x ≠ 48 := fun h2 => by
        have h3 : (chr10 x).toNat = (48 : UInt8).toNat := by rw [h2]
        rw [chr10_toNat h, show (48 : UInt8).toNat = 48 from rfl] at h3
        omega
      rw [beq_eq_false_iff_ne.2 this, beq_eq_false_iff_ne.2 e]
theorem text_groups {l : List Nat} (hd : DigB 10000 l) (hn : Norm l) (h0 : l ≠ []) : (((dig10 l).reverse.map chr10).dropWhile (· == 48)) = natT (leV 10000 l) := by
  have h1 : trimL (dig10 l) = digsL 10 (leV 10000 l) := by
    rw [← dig10_val l hd, ← trimL_val 10 (dig10 l), digsL_leV (by decide) (trimL_dig (dig10_dig l)) (trimL_norm _)]
  have h2 := leV_pos (B := 10000) (by decide) hn h0
  rw [text_trim (dig10_dig l), h1, natT, if_neg (by omega)]
/-- The groups of digits, the lowest first: the first k of them. -/
def grpL (l : List Nat) (k : Nat) : List Nat := (List.range k).map fun i => leV 10 ((l.drop (4 * i)).take 4)
theorem grpL_len (l : List Nat) (k : Nat) : (grpL l k).length = k := by simp [grpL]
theorem grpL_succ (l : List Nat) (k : Nat) : grpL l (k + 1) = grpL l k ++ [leV 10 ((l.drop (4 * k)).take 4)] := by simp [grpL, List.range_succ]
theorem take4_lt {l : List Nat} (h : DigB 10 l) (k : Nat) : leV 10 ((l.drop k).take 4) < 10000 := by
  have h1 : DigB 10 ((l.drop k).take 4) := fun x hx => h x (List.mem_of_mem_drop (List.mem_of_mem_take hx))
  have h2 := leV_lt h1
  have h3 : 10 ^ ((l.drop k).take 4).length ≤ 10 ^ 4 := Nat.pow_le_pow_right (by decide) (by simp; omega)
  omega
theorem grpL_dig {l : List Nat} (h : DigB 10 l) (k : Nat) : DigB 10000 (grpL l k) := fun x hx => by
  obtain ⟨i, _, rfl⟩ := List.mem_map.1 hx
  exact take4_lt h _
theorem grpL_val {l : List Nat} : ∀ k : Nat, leV 10000 (grpL l k) = leV 10 (l.take (4 * k))
  | 0 => by simp [grpL, leV]
  | k + 1 => by
    rw [grpL_succ, leV_snoc, grpL_len, grpL_val k]
    have e : l.take (4 * (k + 1)) = l.take (4 * k) ++ (l.drop (4 * k)).take 4 := by
      rw [show 4 * (k + 1) = 4 * k + 4 by omega, List.take_add]
    rw [e, leV_append]
    rcases Nat.lt_or_ge l.length (4 * k) with h | h
    · rw [List.drop_of_length_le (by omega)]; simp [leV]
    · have : (l.take (4 * k)).length = 4 * k := by simp; omega
      rw [this, Nat.pow_mul]
theorem grpL_all {l : List Nat} {k : Nat} (h : l.length ≤ 4 * k) : leV 10000 (grpL l k) = leV 10 l := by
  rw [grpL_val, List.take_of_length_le h]
theorem grp_trim {l : List Nat} (hd : DigB 10 l) {k : Nat} (h : l.length ≤ 4 * k) : trimL (grpL l k) = digsL 10000 (leV 10 l) := by
  rw [← grpL_all h, ← trimL_val 10000 (grpL l k), digsL_leV (by decide) (trimL_dig (grpL_dig hd k)) (trimL_norm _)]
/-- Digits read one after the other, the highest first. -/
theorem decT_snoc (l : List UInt8) (c : UInt8) : decT (l ++ [c]) = (c.toNat - 48) :: decT l := by simp [decT]
theorem decT_len (l : List UInt8) : (decT l).length = l.length := by simp [decT]
theorem decT_dig {l : List UInt8} (h : ∀ c ∈ l, IsDig c) : DigB 10 (decT l) := fun x hx => by
  obtain ⟨c, hc, rfl⟩ := List.mem_map.1 hx
  have := h c (by simpa using hc)
  unfold IsDig at this; omega
/-- The bytes from index a to b are the digits from n - b to n - a. -/
theorem decT_part (l : List UInt8) {a b : Nat} (hb : b ≤ l.length) : decT ((l.take b).drop a) = ((decT l).drop (l.length - b)).take (b - a) := by
  unfold decT
  rw [← List.map_drop, ← List.map_take]
  congr 1
  rw [List.reverse_drop, List.length_take, Nat.min_eq_left hb, List.reverse_take]
theorem natV_lt {l : List UInt8} (h : ∀ c ∈ l, IsDig c) : natV l < 10 ^ l.length := by
  have := leV_lt (decT_dig h)
  rwa [decT_len] at this
/-- What the number of a text of digits is. -/
theorem natV_natT (n : Nat) : leV 10 (decT (natT n)) = n := natT_val n
theorem digsL_len4 {n : Nat} (h : n < 10 ^ 200) : (digsL 10000 n).length ≤ 50 := (digsL_len (by decide) n 50).2 (by rw [show (10000 : Nat) = 10 ^ 4 from rfl, ← Nat.pow_mul]; exact h)
/-- The greatest number whose square is at most n: the groups of the root. -/
theorem root_len {r A n : Nat} (h : r * r ≤ A) (hA : A < 10000 ^ n) : r < 10000 ^ ((n + 1) / 2) := by
  refine Nat.lt_of_not_le fun h1 => ?_
  have h2 : 10000 ^ ((n + 1) / 2) * 10000 ^ ((n + 1) / 2) ≤ r * r := Nat.mul_le_mul h1 h1
  rw [← Nat.pow_add] at h2
  have h3 : 10000 ^ n ≤ 10000 ^ ((n + 1) / 2 + (n + 1) / 2) := Nat.pow_le_pow_right (by decide) (by omega)
  omega
theorem root_norm {R : List Nat} {A : List Nat} (hd : DigB 10000 R) (_hA : DigB 10000 A) (nA : Norm A) (hl : R.length = (A.length + 1) / 2) (h : leV 10000 A < (leV 10000 R + 1) * (leV 10000 R + 1)) : Norm R := by
  rcases norm_cases R with rfl | ⟨r, x, rfl⟩
  · exact Norm.nil
  · by_cases hx : x = 0
    · exfalso
      subst hx
      rcases norm_cases A with rfl | ⟨a, y, rfl⟩
      · simp at hl
      · have h1 := norm_ge (B := 10000) (by decide) nA
        rw [leV_snoc 10000 r 0, Nat.mul_zero, Nat.add_zero] at h
        have h2 : DigB 10000 r := hd.left
        have h3 := leV_lt h2
        simp only [List.length_append, List.length_singleton] at hl
        have h4 : (leV 10000 r + 1) * (leV 10000 r + 1) ≤ 10000 ^ r.length * 10000 ^ r.length := Nat.mul_le_mul (by omega) (by omega)
        rw [← Nat.pow_add] at h4
        have h5 : 10000 ^ (r.length + r.length) ≤ 10000 ^ a.length := Nat.pow_le_pow_right (by decide) (by omega)
        omega
    · exact Norm.snoc hx
end Putlog
/- IntRead: The contract of readMagnitude: groups of four digits, read from the end. -/
namespace Go.Proofs.YtelckldddflmmaaGreatDoor
open Go.RowKit Putlog

set_option maxRecDepth 100000 in
set_option maxHeartbeats 2000000 in
theorem read1_any (n : Nat) (b : UInt8) (hn : n ≤ 1000) (hb : IsDig b) (w : World) :
    Calls Tryz.prog 138 #[.int .i64 n, .int .u8 (b.toNat : Nat)] w fun e w' => e = .returned (.int .i64 (((b.toNat - 48) + 10 * n : Nat) : Int)) ∧ w' = w := by
  unfold IsDig at hb
  obtain ⟨d, hd⟩ : ∃ d, d = b.toNat - 48 := ⟨_, rfl⟩
  have hw : IntKind.u8.wrap ((b.toNat : Int) - 48) = (d : Nat) := by rw [IntKind.wrap_u8]; omega
  have hdb : (d : Int) ≤ 9 := by omega
  have hnb : (n : Int) ≤ 1000 := by omega
  have HR : Hid (10 * (n : Int) + d = ((d + 10 * n : Nat) : Int)) := by show _ = _; omega
  rw [← hd]
  generalize (b.toNat : Int) = x at *
  clear hd hb
  go_enter Tryz.func138, Tryz.ntmps138
  go_wp2_with fail
  go_ret
  refine ⟨?_, rfl⟩
  rw [← HR.out]; rfl
theorem take_succ_getD (bs : List UInt8) {k : Nat} (h : k < bs.length) : bs.take (k + 1) = bs.take k ++ [bs.getD k 0] := by
  rw [List.take_succ_eq_append_getElem h]; simp [List.getD_eq_getElem?_getD, h]
theorem decT_lt1000 {bs : List UInt8} (hd : ∀ c ∈ bs, IsDig c) (h : bs.length ≤ 3) : leV 10 (decT bs) ≤ 1000 := by
  have h1 := leV_lt (decT_dig hd)
  rw [decT_len] at h1
  have h2 : 10 ^ bs.length ≤ 10 ^ 3 := Nat.pow_le_pow_right (by decide) h
  omega
set_option maxRecDepth 100000 in
set_option maxHeartbeats 2000000 in
theorem fold8_any (bs : List UInt8) (hd : ∀ c ∈ bs, IsDig c) (hl : bs.length ≤ 4) (g c : Nat) (hc : bs.length ≤ c) (w : World) (hcell : ∀ j, j < bs.length → w.cell? ⟨g, j, none⟩ = some (.int .u8 ((bs.getD j 0).toNat : Nat))) :
    Calls Tryz.prog 137 #[.slice (some ⟨g, 0, none⟩) bs.length c, .int .i64 0, .func (.func 138) #[] #[]] w fun e w' => e = .returned (.int .i64 (leV 10 (decT bs) : Nat)) ∧ w' = w := by
  have HD := Lib.hid hd
  have HC := Lib.hid hcell
  obtain ⟨n, hn⟩ : ∃ n, n = bs.length := ⟨_, rfl⟩
  rw [← hn] at hl hc ⊢
  have HN := Lib.hid hn
  have hnb : (n : Int) ≤ 4 := by omega
  clear hd hcell hn
  go_enter Tryz.func137, Tryz.ntmps137
  go_wp2_with fail
  go_loopw [1, 11] (fun v i wr => ∃ k : Nat, k ≤ n ∧ i = .int .i64 k ∧ v = .int .i64 (leV 10 (decT (bs.take k)) : Nat) ∧ wr = w) (fun _ i _ => n - (intOf i).toNat)
  case atStart => exact ⟨0, by omega, rfl, rfl, rfl⟩
  case round =>
    obtain ⟨k, hk, rfl, rfl, rfl⟩ := hrel
    by_cases hlt : k < n
    · have hlt' : (k : Int) < n := by omega
      have hkb : k < bs.length := by have := HN.out; omega
      have hcx := HC.out k hkb
      have hdx : IsDig (bs.getD k 0) := HD.out _ (by rw [List.getD_eq_getElem?_getD, List.getElem?_eq_getElem hkb, Option.getD_some]; exact List.getElem_mem _)
      have ht := take_succ_getD bs hkb
      have hs : leV 10 (decT (bs.take (k + 1))) = ((bs.getD k 0).toNat - 48) + 10 * leV 10 (decT (bs.take k)) := by rw [ht, decT_snoc, leV]
      have hle := decT_lt1000 (bs := bs.take k) (fun c hc => HD.out c (List.mem_of_mem_take hc)) (by simp; omega)
      have HR1 := Lib.hid (read1_any (leV 10 (decT (bs.take k))) (bs.getD k 0) hle hdx wr)
      rw [← hs] at HR1
      obtain ⟨y2, hy2⟩ : ∃ y2, y2 = leV 10 (decT (bs.take (k + 1))) := ⟨_, rfl⟩; rw [← hy2] at HR1; have HY2 := Lib.hid hy2; clear hy2
      clear hs ht hdx hle hkb
      generalize leV 10 (decT (bs.take k)) = y at *
      go_wp2_with (go_at_call 138; refine HR1.out.mono ?_; rintro e w1 ⟨rfl, rfl⟩)
      exact ⟨⟨k + 1, by omega, by go_num, by rw [HY2.out], trivial⟩, by simp [intOf]; omega⟩
    · obtain rfl : k = n := by omega
      have ht : bs.take k = bs := by rw [HN.out, List.take_length]
      rw [ht]
      go_wp2_with fail
      go_ret
      exact ⟨rfl, rfl⟩
theorem bytesWorld_below (w : World) (e : TypeId) (s : ByteArray) : Below w.heap.size w (Lib.bytesWorld w e s) :=
  ⟨rfl, rfl, rfl, by rw [Lib.bytesWorld_size]; omega, fun k hk => Lib.bytesWorld_at_old w e s k hk⟩
theorem extract_list (s : ByteArray) (a b : Nat) : (s.extract a b).data.toList = (s.data.toList.take b).drop a := by
  simp [List.extract_eq_take_drop, List.drop_take]
set_option maxRecDepth 100000 in
set_option maxHeartbeats 4000000 in
theorem readM_any (s : ByteArray) (hd : ∀ c ∈ s.data.toList, IsDig c) (hs : s.size ≤ 1000) (w : World) :
    Calls Tryz.prog 117 #[.string s] w fun e w' => (∃ v, e = .returned v ∧ MagAt w' v (digsL 10000 (natV s.data.toList))) ∧ Below w.heap.size w w' := by
  obtain ⟨i0, hi0, hz0, hz1, hz2⟩ := info_parts info_int
  have HI0 := Lib.hid hi0
  have HZ0 := Lib.hid hz0
  have HZ1 := Lib.hid hz1
  have HZ2 := Lib.hid hz2
  have HD := Lib.hid hd
  have HDD := Lib.hid (decT_dig hd)
  have hsz : s.data.toList.length = s.size := by rw [Array.length_toList]; rfl
  have HSZ := Lib.hid hsz
  obtain ⟨D, hD⟩ : ∃ D, D = decT s.data.toList := ⟨_, rfl⟩
  have hDl : D.length = s.size := by rw [hD, decT_len, hsz]
  obtain ⟨n, hn⟩ : ∃ n, n = s.size := ⟨_, rfl⟩
  have HDL : Hid (D.length = n) := hDl.trans hn.symm
  rw [← hD] at HDD
  have HDE := Lib.hid hD
  have HN := Lib.hid hn
  rw [← hn] at hs
  have hnb : (n : Int) ≤ 1000 := by omega
  have hns : (s.size : Int) = n := by omega
  obtain ⟨q, hq⟩ : ∃ q, q = n / 4 := ⟨_, rfl⟩
  have hqd : (n : Int).tdiv 4 = (q : Nat) := by rw [Int.tdiv_eq_ediv_of_nonneg (by omega)]; omega
  have hqb : (q : Int) ≤ 1000 := by omega
  clear hi0 hz0 hz1 hz2 hd hsz hDl hD hn hq
  go_enter Tryz.func117, Tryz.ntmps117
  go_wp2_with (at_make; go_must (refine wpList_make_own _ rfl _ _ 80 rfl w.heap.size 3 i0 (.int .i64 0) 1 Tryz.underlying80 HI0.out HZ0.out HZ1.out .i64 .i64 ((q : Int) + 1) (q + 1) rfl rfl (by omega) (by rw [HZ2.out]; omega) (by unfold maxLen; omega) (Nat.le_refl _) ?_); intro w1 hown hgrow; have HO := Lib.hid hown; have HB := Lib.hid (belowMade hgrow); clear hown hgrow)
  go_loopw [3, 4] (fun v i wr => ∃ k : Nat, 4 * k ≤ n + 3 ∧ i = .int .i64 ((n : Int) - 4 * k) ∧ wr.ownsRow w.heap.size 3 1 v (grpL D k).length (i64l (grpL D k)) ∧ Below w.heap.size w wr) (fun _ i _ => (4 + intOf i).toNat)
  case atStart => exact ⟨0, by omega, by simp, HO.out, HB.out⟩
  case round =>
    obtain ⟨k, hk, rfl, hown, hB⟩ := hrel
    have HO := Lib.hid hown
    have HB := Lib.hid hB
    clear hown hB
    have HGL : Hid ((grpL D k).length ≤ 100000) := by show _ ≤ _; rw [grpL_len]; omega
    by_cases hlt : 4 * k < n
    · have HLT : Hid (4 * k < n) := hlt
      obtain ⟨hi, hhi⟩ : ∃ hi, hi = n - 4 * k := ⟨_, rfl⟩
      obtain ⟨lo, hlo⟩ : ∃ lo, lo = hi - 4 := ⟨_, rfl⟩
      have hie : (n : Int) - 4 * k = (hi : Nat) := by omega
      have hmax : max (0 : Int) ((hi : Int) - 4) = (lo : Nat) := by omega
      have hmin : (hi : Int) ≤ n := by omega
      have hhi0 : (0 : Int) < hi := by omega
      have hlh : (lo : Int) ≤ hi := by omega
      have hsub : (hi : Int) - 4 = (n : Int) - 4 * ((k + 1 : Nat) : Int) := by omega
      have HSB := Lib.hid hsub
      obtain ⟨L, hL⟩ : ∃ L, L = hi - lo := ⟨_, rfl⟩
      have hxl := extract_list s lo hi
      have hxs : (s.extract lo hi).size = L := by have := HN.out; simp [ByteArray.size_extract]; omega
      have hxn : (s.extract lo hi).data.toList.length = L := by rw [Array.length_toList]; exact hxs
      have hconv := fun w => Lib.run_convert_string_bytes (P := Tryz.prog) w 9 48 5 (s.extract lo hi) Tryz.underlying9 Tryz.underlying48 Tryz.underlying5
      simp only [hxs] at hconv
      have hdx : ∀ c ∈ (s.extract lo hi).data.toList, IsDig c := fun c hc => by
        rw [hxl] at hc
        exact HD.out c (List.mem_of_mem_take (List.mem_of_mem_drop hc))
      have hd : leV 10 (decT (s.extract lo hi).data.toList) = leV 10 ((D.drop (4 * k)).take 4) := by
        rw [hxl, decT_part _ (by rw [HSZ.out]; have := HN.out; omega), ← HDE.out, HSZ.out, ← HN.out, show n - hi = 4 * k by omega]
        rcases Nat.lt_or_ge 4 hi with h | h
        · rw [show hi - lo = 4 by omega]
        · rw [show hi - lo = hi by omega, List.take_of_length_le (by simp; have := HDL.out; omega), List.take_of_length_le (by simp; have := HDL.out; omega)]
      have hgs := grpL_succ D k
      rw [← hd] at hgs
      have HF : Hid (∀ (W : World) (g c : Nat), L ≤ c → (∀ j, j < L → W.cell? ⟨g, j, none⟩ = some (.int .u8 (((s.extract lo hi).data.toList.getD j 0).toNat : Nat))) → Calls Tryz.prog 137 #[.slice (some ⟨g, 0, none⟩) L c, .int .i64 0, .func (.func 138) #[] #[]] W fun e w' => e = .returned (.int .i64 (leV 10 (decT (s.extract lo hi).data.toList) : Nat)) ∧ w' = W) := by
        intro W g c hc hcell
        have := fold8_any (s.extract lo hi).data.toList hdx (by omega) g c (by omega) W (by rw [hxn]; exact hcell)
        rwa [hxn] at this
      obtain ⟨d, hdd⟩ : ∃ d, d = leV 10 (decT (s.extract lo hi).data.toList) := ⟨_, rfl⟩
      rw [← hdd] at hgs HF
      have HGS := Lib.hid hgs
      have HXS := Lib.hid hxs
      have hLb : (L : Int) ≤ 4 := by omega
      have hcell5 := fun W => Lib.bytesWorld_cell W 5 (s.extract lo hi)
      have HC5 := Lib.hid hcell5
      rw [hie]
      have hB5 := bytesWorld_below wr 5 (s.extract lo hi)
      have HB5 := Lib.hid hB5
      have hcp := grownCap_ge wr L 0 5
      have HF5 := Lib.hid (HF.out _ wr.heap.size _ hcp (fun j hj => HC5.out wr j (by rw [HXS.out]; exact hj)))
      have hcp2 : (L : Int) ≤ grownCap wr L 0 5 := by omega
      clear hhi hlo hie hsub hL hxl hxs hxn hdx hd hgs hdd hcell5 hB5 hcp HF HC5 hk hlt
      go_wp2_with fail
      refine HF5.out.mono ?_
      rintro e w5 ⟨rfl, rfl⟩
      have HO5 := Lib.hid (ownsRow_below HO.out HB5.out)
      have HB6 := Lib.hid (belowVia HB5.out HB.out)
      clear hcp2 hconv HF5
      generalize Lib.bytesWorld wr 5 (s.extract lo hi) = w5 at *
      generalize grownCap wr L 0 5 = cp at *
      go_wp2_with (at_builtin; refine wpList_append_own _ rfl _ _ 80 rfl w.heap.size 3 i0 (.int .i64 0) 1 8 Tryz.underlying80 HI0.out HZ0.out HZ1.out HZ2.out rfl (by decide) u3 (grpL D k).length (i64l (grpL D k)) (by rfl) (HO5.out.alloc _) ⟨w5.heap.size, 0, none⟩ 1 1 [.int .i64 (d : Nat)] (by rfl) rfl (news_val _ _ _) (one_int _ _) (app_b1 HGL.out) (app_b2 HGL.out (by decide)) (app_b3 HB6.out) ?_; intro v2 w9 hown9 hgrow9 _; have HF9 := Lib.hid (app_i64 (b := d) HO5.out HB6.out hown9 hgrow9); clear hown9 hgrow9)
      exact ⟨⟨k + 1, by have := HLT.out; omega, by rw [HSB.out], by rw [HGS.out]; exact HF9.out.1, HF9.out.2⟩, by simp [intOf]; omega⟩
    · obtain ⟨j, hj⟩ : ∃ j : Int, (n : Int) - 4 * k = j := ⟨_, rfl⟩
      rw [hj]
      have hj0 : j ≤ 0 := by omega
      have hj1 : -3 ≤ j := by omega
      obtain ⟨a1, c1, rfl, hr1, hc1⟩ := cols_clone HO.out
      have hTR := trimmed_any (grpL D k) HGL.out a1 c1 wr hr1 hc1.cells
      have he : trimL (grpL D k) = digsL 10000 (natV s.data.toList) := by
        rw [grp_trim HDD.out (by have := HDL.out; omega), HDE.out]; rfl
      have hr2 : Room (trimL (grpL D k)).length c1 := ⟨by have := trimL_le (grpL D k); have := hr1.1; omega, hr1.2⟩
      have HC2 := Lib.hid (cells_trim hc1.cells)
      rw [he] at hTR HC2 hr2
      have HTR := Lib.hid hTR
      have HR2 := Lib.hid hr2
      clear hj hr1 hc1 hTR he hr2 hlt
      generalize (grpL D k).length = gl at *
      go_wp2_with fail
      refine HTR.out.mono ?_
      rintro e w2 ⟨rfl, rfl⟩
      go_wp2_with fail
      go_ret
      exact ⟨⟨_, rfl, _, _, rfl, HR2.out, HC2.out⟩, HB.out⟩
end Go.Proofs.YtelckldddflmmaaGreatDoor
/- IntDigits: The contract of digits: the text of a magnitude. -/
namespace Go.Proofs.YtelckldddflmmaaGreatDoor
open Go.RowKit Putlog

/-- Bytes under way. -/
def u8v (l : List Nat) : List Value := l.map fun x : Nat => .int .u8 (x : Int)
theorem u8v_get {l : List Nat} {j : Nat} (h : j < l.length) : (u8v l)[j]? = some (.int .u8 (l.getD j 0 : Nat)) := by simp [u8v, List.getD_eq_getElem?_getD, h]
/-- A row of bytes that may be written. -/
def ByteRow (w : World) (g : Nat) (C : List Nat) : Prop := ∀ j, j < C.length → w.cell? ⟨g, j, none⟩ = some (.int .u8 (C.getD j 0 : Nat)) ∧ w.frozen? ⟨g, j, none⟩ = false
theorem getD_setN (C : List Nat) (i j : Nat) (x : Nat) (hi : i < C.length) : (C.set i x).getD j 0 = if j = i then x else C.getD j 0 := by
  simp only [List.getD_eq_getElem?_getD, List.getElem?_set]
  by_cases h : i = j
  · subst h; simp [hi]
  · rw [if_neg h, if_neg (fun e => h e.symm)]
theorem ByteRow.set {w : World} {g : Nat} {C : List Nat} (h : ByteRow w g C) (i : Nat) (hi : i < C.length) (x : Nat) : ByteRow (w.setCell ⟨g, i, none⟩ (.int .u8 (x : Nat))) g (C.set i x) := fun j hj => by
  rw [List.length_set] at hj
  refine ⟨?_, by rw [World.frozen?_setCell]; exact (h j hj).2⟩
  rw [getD_setN C i j x hi]
  by_cases e : j = i
  · subst e
    rw [if_pos rfl]
    exact World.cell?_setCell_same' _ _ _ (by rw [(h j hj).1]; rfl)
  · rw [if_neg e, World.cell?_setCell_other _ _ _ _ (fun h => e (by have := congrArg Addr.off h; simp at this; omega))]
    exact (h j hj).1
theorem bytes_made {w w1 : World} {n : Nat} (hown : w1.ownsRow w.heap.size 5 1 (.slice (some ⟨w.heap.size, 0, none⟩) n n) n (madeCells (Value.int .u8 0).cells (n * 1)).toList) : ByteRow w1 w.heap.size (List.replicate n 0) := by
  rw [show (Value.int .u8 0).cells = #[.int .u8 0] from rfl, toList_madeCells_one, Nat.mul_one] at hown
  obtain ⟨_, ⟨h1, _⟩ | ⟨g, cap, cur, hv, hg, hh, h1, h2, h3, h4⟩⟩ := hown
  · cases h1
  · cases hv
    intro j hj
    rw [List.length_replicate] at hj
    refine ⟨?_, by simp [World.frozen?, hh]⟩
    rw [cell_of_row w1 w.heap.size j cur _ (0, 0) hh]
    rw [Nat.mul_one] at h4
    have h5 : (cur.toList.take n)[j]? = (List.replicate n (Value.int .u8 0))[j]? := by rw [h4]
    rw [List.getElem?_take_of_lt hj, Array.getElem?_toList] at h5
    rw [h5]
    simp [hj, List.getD_eq_getElem?_getD]
/-- The bytes after some digits are written from the end. -/
def DigRow (C : List Nat) (N : Nat) (ds : List Nat) : Prop := C.length = N ∧ ds.length ≤ N ∧ C.drop (N - ds.length) = ds.reverse.map (48 + ·)
theorem DigRow.start (N : Nat) : DigRow (List.replicate N 0) N [] := ⟨List.length_replicate, by simp, by simp⟩
theorem DigRow.step {C : List Nat} {N : Nat} {ds : List Nat} (h : DigRow C N ds) (hl : ds.length < N) (x : Nat) : DigRow (C.set (N - (ds.length + 1)) (48 + x)) N (ds ++ [x]) := by
  obtain ⟨h1, h2, h3⟩ := h
  have hi : N - (ds.length + 1) < C.length := by omega
  have hi2 : N - (ds.length + 1) < (C.set (N - (ds.length + 1)) (48 + x)).length := by rw [List.length_set]; exact hi
  refine ⟨by rw [List.length_set]; exact h1, by simp; omega, ?_⟩
  rw [List.length_append, List.length_singleton, List.drop_eq_getElem_cons hi2, List.getElem_set_self, List.drop_set_of_lt (by omega), show N - (ds.length + 1) + 1 = N - ds.length by omega, h3]
  simp
def digs4 (g r : Nat) : List Nat := (List.range r).map fun i => g / 10 ^ i % 10
theorem digs4_succ (g r : Nat) : digs4 g (r + 1) = digs4 g r ++ [g / 10 ^ r % 10] := by simp [digs4, List.range_succ]
theorem digs4_len (g r : Nat) : (digs4 g r).length = r := by simp [digs4]
theorem digs4_four (g : Nat) : digs4 g 4 = dig4 g := by
  have h : List.range 4 = [0, 1, 2, 3] := by decide
  simp [digs4, h, dig4, Nat.div_div_eq_div_mul]
theorem DigRow.bytes {C : List Nat} {N : Nat} {ds : List Nat} (h : DigRow C N ds) (hd : DigB 10 ds) (hl : ds.length = N) {j : Nat} (hj : j < N) : C.getD j 0 = ((ds.reverse.map chr10).getD j 0).toNat := by
  obtain ⟨_, _, h3⟩ := h
  rw [hl, Nat.sub_self, List.drop_zero] at h3
  rw [h3]
  have hj2 : j < ds.reverse.length := by simp; omega
  simp only [List.getD_eq_getElem?_getD, List.getElem?_map, List.getElem?_eq_getElem hj2, Option.map_some, Option.getD_some]
  rw [chr10_toNat (hd _ (List.mem_reverse.1 (List.getElem_mem hj2)))]
set_option maxRecDepth 100000 in
set_option maxHeartbeats 4000000 in
theorem digits_any (A : List Nat) (hA : DigB 10000 A) (nA : Norm A) (hl : A.length ≤ 1000) (v : Value) (w : World) (hv : MagAt w v A) :
    Calls Tryz.prog 100 #[v] w fun e w' => e = .returned (.string ⟨(natT (leV 10000 A)).toArray⟩) ∧ Below w.heap.size w w' := by
  obtain ⟨a, ca, rfl, hra, hca⟩ := hv
  rcases Nat.eq_zero_or_pos A.length with h0 | h0
  · obtain rfl := List.length_eq_zero_iff.1 h0
    clear h0
    go_enter Tryz.func100, Tryz.ntmps100
    go_wp2_with fail
    go_ret
    exact ⟨rfl, Below.refl _ _⟩
  · obtain ⟨i0, hi0, hz0, hz1, hz2⟩ := info_parts info_byte
    have HI0 := Lib.hid hi0
    have HZ0 := Lib.hid hz0
    have HZ1 := Lib.hid hz1
    have HZ2 := Lib.hid hz2
    have HDA := Lib.hid hA
    have HNA := Lib.hid nA
    have HCA := Lib.hid hca
    have hra1 := hra.1
    obtain ⟨n, hn⟩ : ∃ n, n = A.length := ⟨_, rfl⟩
    rw [← hn] at hra1 hl h0 ⊢
    have HN := Lib.hid hn
    have hnb : (n : Int) ≤ 1000 := by omega
    have hn0 : (0 : Int) < n := by omega
    have hne : ((n : Int) == 0) = false := by simp; omega
    have hne2 : (n : Int) ≠ 0 := by omega
    obtain ⟨N, hNN⟩ : ∃ N, N = 4 * n := ⟨_, rfl⟩
    have hmul : 4 * (n : Int) = (N : Nat) := by omega
    have hNb : (N : Int) ≤ 4000 := by omega
    have HNN := Lib.hid hNN
    clear hi0 hz0 hz1 hz2 hA nA hca hra hn hNN
    go_enter Tryz.func100, Tryz.ntmps100
    go_wp2_with (at_make; go_must (refine wpList_make_full _ rfl _ _ 48 rfl w.heap.size 5 i0 (.int .u8 0) 1 Tryz.underlying48 HI0.out HZ0.out HZ1.out .i64 .i64 (N : Int) (N : Int) N rfl rfl rfl rfl (by rw [HZ2.out]; omega) (by unfold maxLen; omega) (Nat.le_refl _) ?_); intro w2 hown2 hgrow2; have HR2 := Lib.hid (bytes_made hown2); have HB2 := Lib.hid (belowMade hgrow2); clear hown2 hgrow2)
    go_loopw [4, 18] (fun p i wr => ∃ (k : Nat) (C : List Nat), k ≤ n ∧ i = .int .i64 k ∧ p = .int .i64 ((N : Int) - 4 * k) ∧ DigRow C N (dig10 (A.take k)) ∧ ByteRow wr w.heap.size C ∧ Below w.heap.size w wr) (fun _ i _ => n - (intOf i).toNat)
    case atStart => exact ⟨0, _, by omega, rfl, by simp, DigRow.start N, HR2.out, HB2.out⟩
    case round =>
      clear HR2 HB2
      obtain ⟨k, C, hk, rfl, rfl, hdr, hrow, hB⟩ := hrel
      have HDR := Lib.hid hdr
      have HRW := Lib.hid hrow
      have HB := Lib.hid hB
      clear hdr hrow hB
      by_cases hlt : k < n
      · have hlt' : (k : Int) < n := by omega
        have hkA : k < A.length := by have := HN.out; omega
        obtain ⟨ga, oa, rfl, hcell⟩ := cells_get HCA.out hkA
        have hcx := keptBelow HB.out (hcell k hkA)
        have hgb := digB_get HDA.out hkA
        have hlen0 : (dig10 (A.take k)).length = 4 * k := by rw [dig10_len]; simp; omega
        have hnx : dig10 (A.take (k + 1)) = dig10 (A.take k) ++ digs4 (A.getD k 0) 4 := by
          rw [digs4_four, ← dig10_snoc]
          congr 1
          rw [List.take_succ_eq_append_getElem hkA]; simp [List.getD_eq_getElem?_getD, hkA]
        have HNX := Lib.hid hnx
        have HL0 := Lib.hid hlen0
        generalize A.getD k 0 = g at *
        have hgb' : (g : Int) < 10000 := by omega
        obtain ⟨at0, hat0⟩ : ∃ at0 : Int, (N : Int) - 4 * k = at0 := ⟨_, rfl⟩
        have HAT0 := Lib.hid hat0
        rw [hat0]
        clear hcell hnx hlen0 hat0 hk
        go_wp2_with fail
        go_loopw [4, 6, 22] (fun p gv i wr => ∃ (r : Nat) (C : List Nat), r ≤ 4 ∧ i = .int .i64 r ∧ p = .int .i64 ((N : Int) - (4 * k + r : Nat)) ∧ gv = .int .i64 (g / 10 ^ r : Nat) ∧ DigRow C N (dig10 (A.take k) ++ digs4 g r) ∧ ByteRow wr w.heap.size C ∧ Below w.heap.size w wr) (fun _ _ i _ => 4 - (intOf i).toNat)
        case atStart => exact ⟨0, C, by omega, rfl, by rw [← HAT0.out]; simp, by simp, by simpa [digs4] using HDR.out, HRW.out, HB.out⟩
        case round =>
          clear HDR HRW HB
          obtain ⟨r, C2, hr, rfl, rfl, rfl, hdr, hrow, hB⟩ := hrel
          have HDR := Lib.hid hdr
          have HRW := Lib.hid hrow
          have HB := Lib.hid hB
          clear hdr hrow hB
          by_cases hr4 : r < 4
          · have hr' : (r : Int) < 4 := by omega
            have hkN : 4 * k + r < N := by have := HNN.out; omega
            obtain ⟨v, hv⟩ : ∃ v, v = g / 10 ^ r := ⟨_, rfl⟩
            have hvb : v ≤ g := by rw [hv]; exact Nat.div_le_self _ _
            have hvb' : (v : Int) < 10000 := by omega
            obtain ⟨x, hx⟩ : ∃ x, x = v % 10 := ⟨_, rfl⟩
            have hxm : (v : Int).tmod 10 = (x : Nat) := by rw [Int.tmod_eq_emod_of_nonneg (by omega)]; omega
            have hxb : (x : Int) ≤ 9 := by omega
            obtain ⟨y, hy⟩ : ∃ y, y = v / 10 := ⟨_, rfl⟩
            have hyd : (v : Int).tdiv 10 = (y : Nat) := by rw [Int.tdiv_eq_ediv_of_nonneg (by omega)]; omega
            have hyb : (y : Int) < 10000 := by omega
            have hy2 : y = g / 10 ^ (r + 1) := by rw [hy, hv, Nat.div_div_eq_div_mul, Nat.pow_succ]
            obtain ⟨c, hc⟩ : ∃ c, c = 48 + x := ⟨_, rfl⟩
            have hcw : IntKind.u8.wrap (48 + (x : Int)) = (c : Nat) := by rw [IntKind.wrap_u8]; omega
            obtain ⟨z, hz⟩ : ∃ z : Int, (N : Int) - ((4 * k + r : Nat) : Int) = z := ⟨_, rfl⟩
            obtain ⟨p, hp⟩ : ∃ p, p = N - (4 * k + r + 1) := ⟨_, rfl⟩
            have hzp : z - 1 = (p : Nat) := by omega
            have hzb1 : -10 ≤ z := by omega
            have hzb2 : z ≤ 4000 := by omega
            have hpN : (p : Int) < N := by omega
            have HPZ : Hid ((p : Int) = (N : Int) - ((4 * k + (r + 1) : Nat) : Int)) := by show _ = _; omega
            have hdl : (dig10 (A.take k) ++ digs4 g r).length = 4 * k + r := by rw [List.length_append, HL0.out, digs4_len]
            have hst := HDR.out.step (by rw [hdl]; exact hkN) x
            rw [hdl, List.append_assoc, ← hp, ← hc] at hst
            have hds : digs4 g (r + 1) = digs4 g r ++ [x] := by rw [digs4_succ, hx, hv]
            rw [← hds] at hst
            have hpC : p < C2.length := by have := HDR.out.1; omega
            obtain ⟨hcx2, hfx2⟩ := HRW.out p hpC
            have HR3 := Lib.hid (HRW.out.set p hpC c)
            have HB3 := Lib.hid (below_set HB.out (Nat.le_refl _) (i := p) (.int .u8 (c : Nat)))
            have HST := Lib.hid hst
            have HY := Lib.hid hy2
            rw [← hv, hz]
            clear hr hkN hvb hx hy hy2 hc hz hp hdl hst hds hpC HDR HRW HB hv
            generalize C2.getD p 0 = oldb at *
            go_wp2_with fail
            exact ⟨⟨r + 1, _, by omega, by go_num, by rw [HPZ.out], by rw [← HY.out], HST.out, HR3.out, HB3.out⟩, by simp [intOf]; omega⟩
          · obtain rfl : r = 4 := by omega
            have hds := HDR.out
            rw [← HNX.out] at hds
            have HDR2 := Lib.hid hds
            obtain ⟨z, hz⟩ : ∃ z : Int, (N : Int) - ((4 * k + 4 : Nat) : Int) = z := ⟨_, rfl⟩
            have HZ : Hid (z = (N : Int) - 4 * ((k + 1 : Nat) : Int)) := by show _ = _; omega
            rw [hz]
            generalize g / 10 ^ 4 = g4 at *
            clear hds HDR hz hr hr4
            go_wp2_with fail
            exact ⟨⟨k + 1, _, by omega, by go_num, by rw [HZ.out], HDR2.out, HRW.out, HB.out⟩, by simp [intOf]; omega⟩
      · obtain rfl : k = n := by omega
        have ht : A.take k = A := by rw [HN.out, List.take_length]
        have hdr := HDR.out
        rw [ht] at hdr
        have hdl : (dig10 A).length = N := by rw [dig10_len, HNN.out, HN.out]
        obtain ⟨bs, hbs⟩ : ∃ bs, bs = (dig10 A).reverse.map chr10 := ⟨_, rfl⟩
        have hbl : bs.length = N := by rw [hbs]; simp [hdl]
        have hcv := convB wr w.heap.size N bs (fun j hj => by
          rw [(HRW.out j (by rw [hdr.1]; omega)).1, hdr.bytes (dig10_dig A) hdl (by omega), hbs])
        rw [hbl] at hcv
        have HTL : Hid ((⟨(Lib.trimLeftB bs 48).toArray⟩ : ByteArray) = ⟨(natT (leV 10000 A)).toArray⟩) := by
          show _ = _
          rw [Lib.trimLeftB, hbs, text_groups HDA.out HNA.out (fun e => by have := HN.out; rw [e] at this; simp at this; omega)]
        have HTR := Lib.hid (Tryz.strings_TrimLeft_one ⟨bs.toArray⟩ 48 (by decide))
        simp only at HTR
        rw [HTL.out] at HTR
        clear ht hdr hdl hbs hbl HDR hk hlt
        go_wp2_with fail
        refine (HTR.out wr).mono ?_
        rintro e w3 ⟨rfl, rfl⟩
        go_wp2_with fail
        go_ret
        exact ⟨rfl, HB.out⟩
end Go.Proofs.YtelckldddflmmaaGreatDoor
/- IntNum: Numbers with a sign: their form in memory, and the contracts of the small functions on them. -/
namespace Go.Proofs.YtelckldddflmmaaGreatDoor
open Go.RowKit Putlog

/-- A number: its sign, and its absolute value. -/
def NumAt (w : World) (v : Value) (z : Int) : Prop := ∃ a c, v = .agg #[.bool (decide (z < 0)), .slice a (digsL 10000 z.natAbs).length c] ∧ Room (digsL 10000 z.natAbs).length c ∧ CellsAt w a (ofN (digsL 10000 z.natAbs))
theorem NumAt.via {w w' : World} {v : Value} {z : Int} (hB : Below w.heap.size w w') (h : NumAt w v z) : NumAt w' v z := by
  obtain ⟨a, c, h1, h2, h3⟩ := h
  exact ⟨a, c, h1, h2, h3.via hB⟩
theorem info_num : (Tryz.prog.info? 82).map (·.size) = some 2 := by kernel_rfl
/-- What a function gives whose results lie in cells. -/
theorem results_n {fn : Func} {p : Tmp} (h : fn.results = #[.cell p 82]) (tmps : Array Value) (w : World) (g : Nat) (x y : Value) {fr : Nat × Nat} (hp : tmps.getD p undef = .pointer (some ⟨g, 0, none⟩)) (hg : w.heap[g]? = some (.cells #[x, y] 82 fr)) :
    (results fn tmps).run Tryz.prog w = .ok (.agg #[x, y]) w :=
  results_cell_row h tmps w g _ _ _ _ hp hg Tryz.underlying82 rfl info_num
theorem load_n {w : World} {g : Nat} {x y : Value} {fr : Nat × Nat} (hg : w.heap[g]? = some (.cells #[x, y] 82 fr)) : (loadVar 82 ⟨g, 0, none⟩).run Tryz.prog w = .ok (.agg #[x, y]) w :=
  run_loadVar_row w g _ _ _ _ _ hg Tryz.underlying82 rfl info_num
theorem results_nt {fn : Func} {p u : Tmp} (h : fn.results = #[.cell p 82, .tmp u]) (tmps : Array Value) (w : World) (g : Nat) (x y : Value) {fr : Nat × Nat} (hp : tmps.getD p undef = .pointer (some ⟨g, 0, none⟩)) (hg : w.heap[g]? = some (.cells #[x, y] 82 fr)) :
    (results fn tmps).run Tryz.prog w = .ok (.tuple #[.agg #[x, y], tmps.getD u undef]) w := by
  have hp' : tmps[p]?.getD undef = .pointer (some ⟨g, 0, none⟩) := by simpa using hp
  simp [results, h, hp', asAddr, load_n hg]
theorem results_nn {fn : Func} {p q : Tmp} (h : fn.results = #[.cell p 82, .cell q 82]) (tmps : Array Value) (w : World) (g g2 : Nat) (x y x2 y2 : Value) {fr fr2 : Nat × Nat} (hp : tmps.getD p undef = .pointer (some ⟨g, 0, none⟩)) (hg : w.heap[g]? = some (.cells #[x, y] 82 fr))
    (hq : tmps.getD q undef = .pointer (some ⟨g2, 0, none⟩)) (hg2 : w.heap[g2]? = some (.cells #[x2, y2] 82 fr2)) :
    (results fn tmps).run Tryz.prog w = .ok (.tuple #[.agg #[x, y], .agg #[x2, y2]]) w := by
  have hp' : tmps[p]?.getD undef = .pointer (some ⟨g, 0, none⟩) := by simpa using hp
  have hq' : tmps[q]?.getD undef = .pointer (some ⟨g2, 0, none⟩) := by simpa using hq
  simp [results, h, hp', hq', asAddr, load_n hg, load_n hg2]
theorem results_nnt {fn : Func} {p q u : Tmp} (h : fn.results = #[.cell p 82, .cell q 82, .tmp u]) (tmps : Array Value) (w : World) (g g2 : Nat) (x y x2 y2 : Value) {fr fr2 : Nat × Nat} (hp : tmps.getD p undef = .pointer (some ⟨g, 0, none⟩)) (hg : w.heap[g]? = some (.cells #[x, y] 82 fr))
    (hq : tmps.getD q undef = .pointer (some ⟨g2, 0, none⟩)) (hg2 : w.heap[g2]? = some (.cells #[x2, y2] 82 fr2)) :
    (results fn tmps).run Tryz.prog w = .ok (.tuple #[.agg #[x, y], .agg #[x2, y2], tmps.getD u undef]) w := by
  have hp' : tmps[p]?.getD undef = .pointer (some ⟨g, 0, none⟩) := by simpa using hp
  have hq' : tmps[q]?.getD undef = .pointer (some ⟨g2, 0, none⟩) := by simpa using hq
  simp [results, h, hp', hq', asAddr, load_n hg, load_n hg2]
set_option maxRecDepth 100000 in
set_option maxHeartbeats 2000000 in
theorem signed_m (neg : Bool) (a : Option Addr) (n c : Nat) (hn : (n : Int) ≤ 100000) (w : World) :
    Calls Tryz.prog 87 #[.bool neg, .slice a n c] w fun e w' => e = .returned (.agg #[.bool (neg && decide (0 < n)), .slice a n c]) ∧ Below w.heap.size w w' := by
  have h0 : (0 : Int) ≤ n := by omega
  cases neg with
  | false =>
    go_enter Tryz.func87, Tryz.ntmps87
    go_wp2_with fail
    refine bodyPost_ret (results_n rfl _ _ w.heap.size _ _ rfl (heap_alloc_new w _)) rfl ?_
    exact ⟨by simp, (Below.refl _ _).alloc (Nat.le_refl _) _⟩
  | true =>
    go_enter Tryz.func87, Tryz.ntmps87
    go_wp2_with fail
    refine bodyPost_ret (results_n rfl _ _ w.heap.size _ _ rfl (heap_alloc_new w _)) rfl ?_
    exact ⟨by simp, (Below.refl _ _).alloc (Nat.le_refl _) _⟩
theorem digsL_pos_len (N : Nat) : decide (0 < (digsL 10000 N).length) = decide (0 < N) := by
  rcases Nat.eq_zero_or_pos N with h | h
  · subst h; rw [digsL_zero]; rfl
  · have : digsL 10000 N ≠ [] := fun e => by have := digsL_nil e; omega
    have := List.length_pos_iff.2 this
    simp [h, this]
theorem signed_any (neg : Bool) (N : Nat) (sv : Value) (w : World) (hN : N < 10000 ^ 250) (hv : MagAt w sv (digsL 10000 N)) :
    Calls Tryz.prog 87 #[.bool neg, sv] w fun e w' => (∃ v, e = .returned v ∧ NumAt w' v (sgn neg N)) ∧ Below w.heap.size w w' := by
  obtain ⟨a, c, rfl, h1, h2⟩ := hv
  refine (signed_m neg a _ c (by have := digsL_len_le hN; omega) w).mono ?_
  rintro e w' ⟨rfl, hB⟩
  have e1 : (sgn neg N).natAbs = N := by unfold sgn; split <;> omega
  refine ⟨⟨_, rfl, a, c, ?_, ?_, ?_⟩, hB⟩
  · rw [e1]
    congr 3
    rw [digsL_pos_len]
    unfold sgn
    cases neg <;> simp
  · rw [e1]; exact h1
  · rw [e1]; exact h2.via hB
/-- The contracts of the magnitudes' functions, by values. -/
theorem big_len {X : Nat} (h : X < 10000 ^ 250) : (digsL 10000 X).length ≤ 250 := digsL_len_le h
theorem mplus (X Y : Nat) (hX : X < 10000 ^ 250) (hY : Y < 10000 ^ 250) (u v : Value) (w : World) (hu : MagAt w u (digsL 10000 X)) (hv : MagAt w v (digsL 10000 Y)) :
    Calls Tryz.prog 98 #[u, v] w fun e w' => (∃ r, e = .returned r ∧ MagAt w' r (digsL 10000 (X + Y))) ∧ Below w.heap.size w w' := by
  obtain ⟨a, ca, rfl, hra, hca⟩ := hu
  obtain ⟨b, cb, rfl, hrb, hcb⟩ := hv
  have := plus_any (digsL 10000 X) (digsL 10000 Y) (digsL_dig (by decide) _) (digsL_dig (by decide) _) (by have := big_len hX; omega) (by have := big_len hY; omega) a b ca cb w hra hrb hca hcb
  rw [leV_digsL (by decide), leV_digsL (by decide)] at this
  exact this.mono fun e w' ⟨⟨v, h1, h2⟩, h3⟩ => ⟨⟨v, h1, h2.mag⟩, h3⟩
theorem mminus (X Y : Nat) (hX : X < 10000 ^ 250) (hle : Y ≤ X) (u v : Value) (w : World) (hu : MagAt w u (digsL 10000 X)) (hv : MagAt w v (digsL 10000 Y)) :
    Calls Tryz.prog 99 #[u, v] w fun e w' => (∃ r, e = .returned r ∧ MagAt w' r (digsL 10000 (X - Y))) ∧ Below w.heap.size w w' := by
  obtain ⟨a, ca, rfl, hra, hca⟩ := hu
  obtain ⟨b, cb, rfl, hrb, hcb⟩ := hv
  have hlen : (digsL 10000 Y).length ≤ (digsL 10000 X).length := digsL_len_le (Nat.lt_of_le_of_lt hle (by have := leV_lt (digsL_dig (B := 10000) (by decide) X); rwa [leV_digsL (by decide)] at this))
  have := minus_any (digsL 10000 X) (digsL 10000 Y) (digsL_dig (by decide) _) (digsL_dig (by decide) _) (by have := big_len hX; omega) hlen (by rw [leV_digsL (by decide), leV_digsL (by decide)]; exact hle) a b ca cb w hra hrb hca hcb
  rw [leV_digsL (by decide), leV_digsL (by decide)] at this
  exact this.mono fun e w' ⟨⟨v, h1, h2⟩, h3⟩ => ⟨⟨v, h1, h2.mag⟩, h3⟩
theorem mtimes (X Y : Nat) (hX : X < 10000 ^ 250) (hY : Y < 10000 ^ 250) (u v : Value) (w : World) (hu : MagAt w u (digsL 10000 X)) (hv : MagAt w v (digsL 10000 Y)) :
    Calls Tryz.prog 114 #[u, v] w fun e w' => (∃ r, e = .returned r ∧ MagAt w' r (digsL 10000 (X * Y))) ∧ Below w.heap.size w w' := by
  obtain ⟨a, ca, rfl, hra, hca⟩ := hu
  obtain ⟨b, cb, rfl, hrb, hcb⟩ := hv
  have := times_any (digsL 10000 X) (digsL 10000 Y) (digsL_dig (by decide) _) (digsL_dig (by decide) _) (by have := big_len hX; omega) (by have := big_len hY; omega) a b ca cb w hra hrb hca hcb
  rw [leV_digsL (by decide), leV_digsL (by decide)] at this
  exact this.mono fun e w' ⟨⟨v, h1, h2⟩, h3⟩ => ⟨⟨v, h1, h2.mag⟩, h3⟩
theorem mcmp (X Y : Nat) (hX : X < 10000 ^ 250) (hY : Y < 10000 ^ 250) (u v : Value) (w : World) (hu : MagAt w u (digsL 10000 X)) (hv : MagAt w v (digsL 10000 Y)) :
    Calls Tryz.prog 101 #[u, v] w fun e w' => e = .returned (.int .i64 (cmpI (X : Nat) (Y : Nat))) ∧ Below w.heap.size w w' := by
  obtain ⟨a, ca, rfl, hra, hca⟩ := hu
  obtain ⟨b, cb, rfl, hrb, hcb⟩ := hv
  have := compare_any (digsL 10000 X) (digsL 10000 Y) (digsL_dig (by decide) _) (digsL_dig (by decide) _) (digsL_norm (by decide) _) (digsL_norm (by decide) _) (by have := big_len hX; omega) (by have := big_len hY; omega) a b ca cb w hra hrb hca hcb
  rwa [leV_digsL (by decide), leV_digsL (by decide)] at this
theorem mdiv (X Y : Nat) (hX : X < 10000 ^ 250) (hY : Y < 10000 ^ 250) (h0 : 0 < Y) (u v : Value) (w : World) (hu : MagAt w u (digsL 10000 X)) (hv : MagAt w v (digsL 10000 Y)) :
    Calls Tryz.prog 97 #[u, v] w fun e w' => (∃ q r, e = .returned (.tuple #[q, r]) ∧ MagAt w' q (digsL 10000 (X / Y)) ∧ MagAt w' r (digsL 10000 (X % Y))) ∧ Below w.heap.size w w' := by
  have := div_any (digsL 10000 X) (digsL 10000 Y) (digsL_dig (by decide) _) (digsL_dig (by decide) _) (digsL_norm (by decide) _) (digsL_norm (by decide) _) (fun e => by have := digsL_nil e; omega) (by have := big_len hX; omega) (by have := big_len hY; omega) u v w hu hv
  rwa [leV_digsL (by decide), leV_digsL (by decide)] at this
theorem mdigits (X : Nat) (hX : X < 10000 ^ 250) (v : Value) (w : World) (hv : MagAt w v (digsL 10000 X)) :
    Calls Tryz.prog 100 #[v] w fun e w' => e = .returned (.string ⟨(natT X).toArray⟩) ∧ Below w.heap.size w w' := by
  have := digits_any (digsL 10000 X) (digsL_dig (by decide) _) (digsL_norm (by decide) _) (by have := big_len hX; omega) v w hv
  rwa [leV_digsL (by decide)] at this

/-- Two numbers in boxes, and the box of the result. -/
structure Box3 (w W : World) (x1 x2 y1 y2 : Value) : Prop where
  a1 : W.cell? ⟨w.heap.size, 0, none⟩ = some x1
  a2 : W.cell? ⟨w.heap.size, 1, none⟩ = some x2
  b1 : W.cell? ⟨w.heap.size + 1, 0, none⟩ = some y1
  b2 : W.cell? ⟨w.heap.size + 1, 1, none⟩ = some y2
  r : W.heap[w.heap.size + 1 + 1]? = some (.cells #[.bool false, .slice none 0 0] 82 (0, 0))
  bel : Below w.heap.size w W
theorem alloc_below (w : World) (o : Obj) : Below w.heap.size w (w.alloc o) := (Below.refl _ _).alloc (Nat.le_refl _) _
theorem alloc_size (w : World) (o : Obj) : (w.alloc o).heap.size = w.heap.size + 1 := by simp
theorem box3_made (w : World) (x1 x2 y1 y2 : Value) : Box3 w (((w.alloc (.cells #[x1, x2] 82)).alloc (.cells #[y1, y2] 82)).alloc (.cells #[.bool false, .slice none 0 0] 82)) x1 x2 y1 y2 := by
  have h1 := heap_alloc_new w (.cells #[x1, x2] 82)
  have b1 := alloc_below w (.cells #[x1, x2] 82)
  have s1 := alloc_size w (.cells #[x1, x2] 82)
  generalize w.alloc (.cells #[x1, x2] 82) = w1 at *
  have h2 := heap_alloc_new w1 (.cells #[y1, y2] 82)
  have b2 := alloc_below w1 (.cells #[y1, y2] 82)
  have s2 := alloc_size w1 (.cells #[y1, y2] 82)
  generalize w1.alloc (.cells #[y1, y2] 82) = w2 at *
  have h3 := heap_alloc_new w2 (.cells #[.bool false, .slice none 0 0] 82)
  have b3 := alloc_below w2 (.cells #[.bool false, .slice none 0 0] 82)
  generalize w2.alloc (.cells #[.bool false, .slice none 0 0] 82) = w3 at *
  rw [s1] at h2
  rw [s2, s1] at h3
  exact ⟨keptBelow b3 (keptBelow b2 ((cell_of_row w1 _ 0 _ _ _ h1).trans rfl)), keptBelow b3 (keptBelow b2 ((cell_of_row w1 _ 1 _ _ _ h1).trans rfl)), keptBelow b3 ((cell_of_row w2 _ 0 _ _ _ h2).trans rfl), keptBelow b3 ((cell_of_row w2 _ 1 _ _ _ h2).trans rfl), h3, belowVia b3 (belowVia b2 b1)⟩
theorem heap_below {w w' : World} {g : Nat} {o : Obj} (hB : Below w.heap.size w w') (h : w.heap[g]? = some o) : w'.heap[g]? = some o := (hB.block g (Array.getElem?_eq_some_iff.1 h).1).trans h
theorem Box3.via {w W W' : World} {x1 x2 y1 y2 : Value} (hB : Below W.heap.size W W') (h : Box3 w W x1 x2 y1 y2) : Box3 w W' x1 x2 y1 y2 :=
  ⟨keptBelow hB h.a1, keptBelow hB h.a2, keptBelow hB h.b1, keptBelow hB h.b2, heap_below hB h.r, belowVia hB h.bel⟩
/-- What a store to the box of the result leaves. -/
theorem Box3.res {w W : World} {x1 x2 y1 y2 r1 r2 : Value} (h : Box3 w W x1 x2 y1 y2) : ((W.setCell ⟨w.heap.size + 1 + 1, 0, none⟩ r1).setCell ⟨w.heap.size + 1 + 1, 1, none⟩ r2).heap[w.heap.size + 1 + 1]? = some (.cells #[r1, r2] 82 (0, 0)) := by
  have h1 := heap_setCell_same W _ 0 _ _ r1 h.r
  exact heap_setCell_same _ _ 1 _ _ r2 h1
theorem cell_o {w : World} {g b i j : Nat} {v x : Value} (h : w.cell? ⟨b, j, none⟩ = some x) (hne : g ≠ b) : (w.setCell ⟨g, i, none⟩ v).cell? ⟨b, j, none⟩ = some x := by
  rw [World.cell?_setCell_other _ _ _ _ (fun e => hne (congrArg Addr.block e))]; exact h
theorem cell_o2 {w : World} {b j p : Nat} {v v2 x : Value} (h : w.cell? ⟨b, j, none⟩ = some x) (hne : b < p) : ((w.setCell ⟨p, 0, none⟩ v).setCell ⟨p, 1, none⟩ v2).cell? ⟨b, j, none⟩ = some x := cell_o (cell_o h (by omega)) (by omega)
theorem cells_res {w : World} {a : Option Addr} {l : List Int} {p : Nat} {b : Bool} {x : Option Addr} {n c : Nat} {t : TypeId} {v v2 : Value} (h : CellsAt w a l) (hp : w.heap[p]? = some (.cells #[.bool b, .slice x n c] t (0, 0))) : CellsAt ((w.setCell ⟨p, 0, none⟩ v).setCell ⟨p, 1, none⟩ v2) a l := by
  rcases h with h | ⟨g, o, h1, h2⟩
  · exact .inl h
  · refine .inr ⟨g, o, h1, fun j hj => ?_⟩
    have h3 := h2 j hj
    have hne : p ≠ g := by
      rintro rfl
      rw [cell_of_row w p (o + j) _ _ _ hp] at h3
      rcases Nat.lt_or_ge (o + j) 2 with h4 | h4
      · rcases (show o + j = 0 ∨ o + j = 1 by omega) with h5 | h5 <;> rw [h5] at h3 <;> simp at h3
      · rw [Array.getElem?_eq_none (by simpa using h4)] at h3; cases h3
    exact cell_o (cell_o h3 hne) hne
theorem below_res {B : Nat} {a w : World} (h : Below B a w) {p : Nat} (hp : B ≤ p) (v v2 : Value) : Below B a ((w.setCell ⟨p, 0, none⟩ v).setCell ⟨p, 1, none⟩ v2) := (h.setCell (p := ⟨p, 0, none⟩) hp v).setCell (p := ⟨p, 1, none⟩) hp v2
theorem mag_of_num {w : World} {a : Option Addr} {c N : Nat} (h1 : Room (digsL 10000 N).length c) (h2 : CellsAt w a (ofN (digsL 10000 N))) : MagAt w (.slice a (digsL 10000 N).length c) (digsL 10000 N) := ⟨a, c, rfl, h1, h2⟩
set_option maxRecDepth 100000 in
set_option maxHeartbeats 4000000 in
theorem plus_same (x y : Int) (hx : x.natAbs < 10000 ^ 120) (hy : y.natAbs < 10000 ^ 120) (hs : (x < 0) ↔ (y < 0)) (u v : Value) (w : World) (hu : NumAt w u x) (hv : NumAt w v y)  :
    Calls Tryz.prog 82 #[u, v] w fun e w' => (∃ r, e = .returned r ∧ NumAt w' r (x + y)) ∧ Below w.heap.size w w' := by
  obtain ⟨a, ca, rfl, hra, hca⟩ := hu
  obtain ⟨b, cb, rfl, hrb, hcb⟩ := hv
  obtain ⟨sx, hsx⟩ : ∃ sx, sx = decide (x < 0) := ⟨_, rfl⟩
  have hsy : decide (y < 0) = sx := by rw [hsx]; simp [hs]
  have hu := mag_of_num hra hca
  have hv := mag_of_num hrb hcb
  have up : ∀ {n : Nat}, n < 10000 ^ 120 → n < 10000 ^ 250 := fun h => Nat.lt_of_lt_of_le h (Nat.pow_le_pow_right (by decide) (by decide))
  have HP := Lib.hid (fun W hu hv => mplus x.natAbs y.natAbs (up hx) (up hy) _ _ W (MagAt.via hu (mag_of_num hra hca)) (MagAt.via hv (mag_of_num hrb hcb)))
  have hN : x.natAbs + y.natAbs < 10000 ^ 250 := Nat.lt_of_lt_of_le (show _ < 10000 ^ 121 by rw [Nat.pow_succ]; omega) (Nat.pow_le_pow_right (by decide) (by decide))
  have HS := Lib.hid (fun sv W hm => signed_any sx (x.natAbs + y.natAbs) sv W hN hm)
  have hz : sgn sx (x.natAbs + y.natAbs) = x + y := by
    unfold sgn
    rw [hsx]
    by_cases h : x < 0
    · have := hs.1 h; simp [h]; omega
    · have : ¬ y < 0 := fun k => h (hs.2 k)
      simp [h]; omega
  rw [hz] at HS
  rw [← hsx, hsy]
  clear hsx hsy hu hv hN hz hs
  generalize (digsL 10000 x.natAbs).length = n at *
  generalize (digsL 10000 y.natAbs).length = m at *
  go_enter Tryz.func82, Tryz.ntmps82
  go_wp2_with fail
  have hbx := box3_made w (.bool sx) (.slice a n ca) (.bool sx) (.slice b m cb)
  generalize World.alloc (World.alloc _ _) _ = W at hbx ⊢
  have ha1 := hbx.a1
  have ha2 := hbx.a2
  have hb2 := hbx.b2
  have HBX := Lib.hid hbx
  clear hbx
  go_region_held3 (fun w' => w'.cell? ⟨w.heap.size, 0, none⟩ = some (.bool sx) ∧ w'.cell? ⟨w.heap.size, 1, none⟩ = some (.slice a n ca) ∧ w'.cell? ⟨w.heap.size + 1, 1, none⟩ = some (.slice b m cb)) (first | exact ⟨ha1, ha2, hb2⟩ | exact ⟨keptBelow hB1 ha1, keptBelow hB1 ha2, keptBelow hB1 hb2⟩ | exact ⟨keptBelow hB2 (keptBelow hB1 ha1), keptBelow hB2 (keptBelow hB1 ha2), keptBelow hB2 (keptBelow hB1 hb2)⟩ | exact ⟨cell_o2 hbx2.a1 (by omega), cell_o2 hbx2.a2 (by omega), cell_o2 hbx2.b2 (by omega)⟩) (first
    | (go_at_call 98; (with_reducible refine (HP.out _ ?_ ?_).mono ?_); exact HBX.out.bel.drew; exact HBX.out.bel.drew; rintro e w1 ⟨⟨r1, rfl, hm1⟩, hB1⟩)
    | (go_at_call 87; (with_reducible refine (HS.out _ _ ?_).mono ?_); exact hm1; rintro e w2 ⟨⟨r2, rfl, hn2⟩, hB2⟩; obtain ⟨a9, c9, rfl, hr9, hc9⟩ := hn2; have hB3 := HBX.out.via (undrew hB1); have hbx2 := hB3.via hB2; have hq1 := (cell_of_row w2 _ 0 _ _ _ hbx2.r).trans rfl; have hq2 := (cell_of_row w2 _ 1 _ _ _ hbx2.r).trans rfl; have hf1 := frozen_of_row w2 _ 0 _ _ hbx2.r; have hf2 := frozen_of_row w2 _ 1 _ _ hbx2.r))
  go_wp2_with fail
  refine bodyPost_ret (results_n rfl _ _ (w.heap.size + 1 + 1) _ _ rfl hbx2.res) rfl ?_
  exact ⟨⟨_, rfl, a9, c9, rfl, hr9, cells_res hc9 hbx2.r⟩, below_res hbx2.bel (by omega) _ _⟩
end Go.Proofs.YtelckldddflmmaaGreatDoor
/- IntPlus: The contract of the sum of numbers with a sign. -/
namespace Go.Proofs.YtelckldddflmmaaGreatDoor
open Go.RowKit Putlog

set_option maxRecDepth 100000 in
set_option maxHeartbeats 4000000 in
theorem plus_ge2 (x y : Int) (hx : x.natAbs < 10000 ^ 120) (hy : y.natAbs < 10000 ^ 120) (hs : (x < 0) ↔ ¬ (y < 0)) (hle : y.natAbs ≤ x.natAbs) (u v : Value) (w : World) (hu : NumAt w u x) (hv : NumAt w v y)  :
    Calls Tryz.prog 82 #[u, v] w fun e w' => (∃ r, e = .returned r ∧ NumAt w' r (x + y)) ∧ Below w.heap.size w w' := by
  obtain ⟨a, ca, rfl, hra, hca⟩ := hu
  obtain ⟨b, cb, rfl, hrb, hcb⟩ := hv
  obtain ⟨sx, hsx⟩ : ∃ sx, sx = decide (x < 0) := ⟨_, rfl⟩
  obtain ⟨sy, hsy⟩ : ∃ sy, sy = decide (y < 0) := ⟨_, rfl⟩
  have hne : (sx == sy) = false := by rw [hsx, hsy]; by_cases h : x < 0 <;> by_cases k : y < 0 <;> simp [h, k] <;> omega
  have up : ∀ {n : Nat}, n < 10000 ^ 120 → n < 10000 ^ 250 := fun h => Nat.lt_of_lt_of_le h (Nat.pow_le_pow_right (by decide) (by decide))
  have HP := Lib.hid (fun W hu hv => mminus x.natAbs y.natAbs (up hx) hle _ _ W (MagAt.via hu (mag_of_num hra hca)) (MagAt.via hv (mag_of_num hrb hcb)))
  have hN : x.natAbs - y.natAbs < 10000 ^ 250 := up (Nat.lt_of_le_of_lt (Nat.sub_le _ _) hx)
  have HS := Lib.hid (fun sv W hm => signed_any sx (x.natAbs - y.natAbs) sv W hN hm)
  have hz : sgn sx (x.natAbs - y.natAbs) = x + y := by
    unfold sgn
    rw [hsx]
    by_cases h : x < 0 <;> by_cases k : y < 0 <;> simp [h] <;> omega
  rw [hz] at HS
  have hcm := fun W hu hv => mcmp x.natAbs y.natAbs (up hx) (up hy) _ _ W (MagAt.via hu (mag_of_num hra hca)) (MagAt.via hv (mag_of_num hrb hcb))
  obtain ⟨k, hk0⟩ : ∃ k, k = cmpI (x.natAbs : Nat) (y.natAbs : Nat) := ⟨_, rfl⟩
  have hkk : 0 ≤ k := by rw [hk0]; unfold cmpI; split <;> (try split) <;> omega
  have hkb : -1 ≤ k ∧ k ≤ 1 := by rw [hk0]; unfold cmpI; split <;> (try split) <;> omega
  rw [← hk0] at hcm
  have HC := Lib.hid hcm
  rw [← hsx, ← hsy]
  clear hsx hsy hN hz hs hcm hk0 hle
  generalize (digsL 10000 x.natAbs).length = n at *
  generalize (digsL 10000 y.natAbs).length = m at *
  go_enter Tryz.func82, Tryz.ntmps82
  go_wp2_with fail
  have hbx := box3_made w (.bool sx) (.slice a n ca) (.bool sy) (.slice b m cb)
  generalize World.alloc (World.alloc _ _) _ = W0 at hbx ⊢
  refine (HC.out W0 hbx.bel hbx.bel).mono ?_
  rintro e W ⟨rfl, hB0⟩
  have hbx := hbx.via hB0
  have ha1 := hbx.a1
  have ha2 := hbx.a2
  have hb1 := hbx.b1
  have hb2 := hbx.b2
  have HBX := Lib.hid hbx
  clear hbx hB0
  go_wp2_with fail
  go_region_held3 (fun w' => w'.cell? ⟨w.heap.size, 0, none⟩ = some (.bool sx) ∧ w'.cell? ⟨w.heap.size, 1, none⟩ = some (.slice a n ca) ∧ w'.cell? ⟨w.heap.size + 1, 1, none⟩ = some (.slice b m cb)) (first | exact ⟨ha1, ha2, hb2⟩ | exact ⟨keptBelow hB1 ha1, keptBelow hB1 ha2, keptBelow hB1 hb2⟩ | exact ⟨keptBelow hB2 (keptBelow hB1 ha1), keptBelow hB2 (keptBelow hB1 ha2), keptBelow hB2 (keptBelow hB1 hb2)⟩ | exact ⟨cell_o2 hbx2.a1 (by omega), cell_o2 hbx2.a2 (by omega), cell_o2 hbx2.b2 (by omega)⟩) (first
    | (go_at_call 99; (with_reducible refine (HP.out _ ?_ ?_).mono ?_); exact HBX.out.bel.drew; exact HBX.out.bel.drew; rintro e w1 ⟨⟨r1, rfl, hm1⟩, hB1⟩)
    | (go_at_call 87; (with_reducible refine (HS.out _ _ ?_).mono ?_); exact hm1; rintro e w2 ⟨⟨r2, rfl, hn2⟩, hB2⟩; obtain ⟨a9, c9, rfl, hr9, hc9⟩ := hn2; have hB3 := HBX.out.via (undrew hB1); have hbx2 := hB3.via hB2; have hq1 := (cell_of_row w2 _ 0 _ _ _ hbx2.r).trans rfl; have hq2 := (cell_of_row w2 _ 1 _ _ _ hbx2.r).trans rfl; have hf1 := frozen_of_row w2 _ 0 _ _ hbx2.r; have hf2 := frozen_of_row w2 _ 1 _ _ hbx2.r))
  go_wp2_with fail
  refine bodyPost_ret (results_n rfl _ _ (w.heap.size + 1 + 1) _ _ rfl hbx2.res) rfl ?_
  exact ⟨⟨_, rfl, a9, c9, rfl, hr9, cells_res hc9 hbx2.r⟩, below_res hbx2.bel (by omega) _ _⟩
set_option maxRecDepth 100000 in
set_option maxHeartbeats 4000000 in
theorem plus_lt2 (x y : Int) (hx : x.natAbs < 10000 ^ 120) (hy : y.natAbs < 10000 ^ 120) (hs : (x < 0) ↔ ¬ (y < 0)) (hle : x.natAbs < y.natAbs) (u v : Value) (w : World) (hu : NumAt w u x) (hv : NumAt w v y)  :
    Calls Tryz.prog 82 #[u, v] w fun e w' => (∃ r, e = .returned r ∧ NumAt w' r (x + y)) ∧ Below w.heap.size w w' := by
  obtain ⟨a, ca, rfl, hra, hca⟩ := hu
  obtain ⟨b, cb, rfl, hrb, hcb⟩ := hv
  obtain ⟨sx, hsx⟩ : ∃ sx, sx = decide (x < 0) := ⟨_, rfl⟩
  obtain ⟨sy, hsy⟩ : ∃ sy, sy = decide (y < 0) := ⟨_, rfl⟩
  have hne : (sx == sy) = false := by rw [hsx, hsy]; by_cases h : x < 0 <;> by_cases k : y < 0 <;> simp [h, k] <;> omega
  have up : ∀ {n : Nat}, n < 10000 ^ 120 → n < 10000 ^ 250 := fun h => Nat.lt_of_lt_of_le h (Nat.pow_le_pow_right (by decide) (by decide))
  have HP := Lib.hid (fun W hu hv => mminus y.natAbs x.natAbs (up hy) (Nat.le_of_lt hle) _ _ W (MagAt.via hu (mag_of_num hrb hcb)) (MagAt.via hv (mag_of_num hra hca)))
  have hN : y.natAbs - x.natAbs < 10000 ^ 250 := up (Nat.lt_of_le_of_lt (Nat.sub_le _ _) hy)
  have HS := Lib.hid (fun sv W hm => signed_any sy (y.natAbs - x.natAbs) sv W hN hm)
  have hz : sgn sy (y.natAbs - x.natAbs) = x + y := by
    unfold sgn
    rw [hsy]
    by_cases h : x < 0 <;> by_cases k : y < 0 <;> simp [k] <;> omega
  rw [hz] at HS
  have hcm := fun W hu hv => mcmp x.natAbs y.natAbs (up hx) (up hy) _ _ W (MagAt.via hu (mag_of_num hra hca)) (MagAt.via hv (mag_of_num hrb hcb))
  have hk0 : cmpI (x.natAbs : Nat) (y.natAbs : Nat) = -1 := by unfold cmpI; rw [if_pos (by omega)]
  rw [hk0] at hcm
  have HC := Lib.hid hcm
  rw [← hsx, ← hsy]
  clear hsx hsy hN hz hs hcm hk0 hle
  generalize (digsL 10000 x.natAbs).length = n at *
  generalize (digsL 10000 y.natAbs).length = m at *
  go_enter Tryz.func82, Tryz.ntmps82
  go_wp2_with fail
  have hbx := box3_made w (.bool sx) (.slice a n ca) (.bool sy) (.slice b m cb)
  generalize World.alloc (World.alloc _ _) _ = W0 at hbx ⊢
  refine (HC.out W0 hbx.bel hbx.bel).mono ?_
  rintro e W ⟨rfl, hB0⟩
  have hbx := hbx.via hB0
  have ha1 := hbx.a1
  have ha2 := hbx.a2
  have hb1 := hbx.b1
  have hb2 := hbx.b2
  have HBX := Lib.hid hbx
  clear hbx hB0
  go_wp2_with fail
  go_region_held3 (fun w' => w'.cell? ⟨w.heap.size + 1, 0, none⟩ = some (.bool sy) ∧ w'.cell? ⟨w.heap.size + 1, 1, none⟩ = some (.slice b m cb) ∧ w'.cell? ⟨w.heap.size, 1, none⟩ = some (.slice a n ca)) (first | exact ⟨hb1, hb2, ha2⟩ | exact ⟨keptBelow hB1 hb1, keptBelow hB1 hb2, keptBelow hB1 ha2⟩ | exact ⟨keptBelow hB2 (keptBelow hB1 hb1), keptBelow hB2 (keptBelow hB1 hb2), keptBelow hB2 (keptBelow hB1 ha2)⟩ | exact ⟨cell_o2 hbx2.b1 (by omega), cell_o2 hbx2.b2 (by omega), cell_o2 hbx2.a2 (by omega)⟩) (first
    | (go_at_call 99; (with_reducible refine (HP.out _ ?_ ?_).mono ?_); exact HBX.out.bel.drew; exact HBX.out.bel.drew; rintro e w1 ⟨⟨r1, rfl, hm1⟩, hB1⟩)
    | (go_at_call 87; (with_reducible refine (HS.out _ _ ?_).mono ?_); exact hm1; rintro e w2 ⟨⟨r2, rfl, hn2⟩, hB2⟩; obtain ⟨a9, c9, rfl, hr9, hc9⟩ := hn2; have hB3 := HBX.out.via (undrew hB1); have hbx2 := hB3.via hB2; have hq1 := (cell_of_row w2 _ 0 _ _ _ hbx2.r).trans rfl; have hq2 := (cell_of_row w2 _ 1 _ _ _ hbx2.r).trans rfl; have hf1 := frozen_of_row w2 _ 0 _ _ hbx2.r; have hf2 := frozen_of_row w2 _ 1 _ _ hbx2.r))
  go_wp2_with fail
  refine bodyPost_ret (results_n rfl _ _ (w.heap.size + 1 + 1) _ _ rfl hbx2.res) rfl ?_
  exact ⟨⟨_, rfl, a9, c9, rfl, hr9, cells_res hc9 hbx2.r⟩, below_res hbx2.bel (by omega) _ _⟩
theorem nplus (x y : Int) (hx : x.natAbs < 10000 ^ 120) (hy : y.natAbs < 10000 ^ 120) (u v : Value) (w : World) (hu : NumAt w u x) (hv : NumAt w v y)  :
    Calls Tryz.prog 82 #[u, v] w fun e w' => (∃ r, e = .returned r ∧ NumAt w' r (x + y)) ∧ Below w.heap.size w w' := by
  by_cases hs : (x < 0) ↔ (y < 0)
  · exact plus_same x y hx hy hs u v w hu hv
  · have hs2 : (x < 0) ↔ ¬ (y < 0) := by
      by_cases h : x < 0 <;> by_cases k : y < 0 <;> simp [h, k] at hs ⊢
    rcases Nat.lt_or_ge x.natAbs y.natAbs with h | h
    · exact plus_lt2 x y hx hy hs2 h u v w hu hv
    · exact plus_ge2 x y hx hy hs2 h u v w hu hv
end Go.Proofs.YtelckldddflmmaaGreatDoor
/- IntNum2: The contracts of the other functions on numbers with a sign: negation, difference, product, order, text. -/
namespace Go.Proofs.YtelckldddflmmaaGreatDoor
open Go.RowKit Putlog

theorem up250 {n : Nat} (h : n < 10000 ^ 120) : n < 10000 ^ 250 := Nat.lt_of_lt_of_le h (Nat.pow_le_pow_right (by decide) (by decide))
/-- A number in a box, and the box of the result. -/
structure Box2 (w W : World) (x1 x2 : Value) : Prop where
  a1 : W.cell? ⟨w.heap.size, 0, none⟩ = some x1
  a2 : W.cell? ⟨w.heap.size, 1, none⟩ = some x2
  r : W.heap[w.heap.size + 1]? = some (.cells #[.bool false, .slice none 0 0] 82 (0, 0))
  bel : Below w.heap.size w W
theorem box2_made (w : World) (x1 x2 : Value) : Box2 w ((w.alloc (.cells #[x1, x2] 82)).alloc (.cells #[.bool false, .slice none 0 0] 82)) x1 x2 := by
  have h1 := heap_alloc_new w (.cells #[x1, x2] 82)
  have b1 := alloc_below w (.cells #[x1, x2] 82)
  have s1 := alloc_size w (.cells #[x1, x2] 82)
  generalize w.alloc (.cells #[x1, x2] 82) = w1 at *
  have h3 := heap_alloc_new w1 (.cells #[.bool false, .slice none 0 0] 82)
  have b3 := alloc_below w1 (.cells #[.bool false, .slice none 0 0] 82)
  generalize w1.alloc (.cells #[.bool false, .slice none 0 0] 82) = w3 at *
  rw [s1] at h3
  exact ⟨keptBelow b3 ((cell_of_row w1 _ 0 _ _ _ h1).trans rfl), keptBelow b3 ((cell_of_row w1 _ 1 _ _ _ h1).trans rfl), h3, belowVia b3 b1⟩
theorem Box2.via {w W W' : World} {x1 x2 : Value} (hB : Below W.heap.size W W') (h : Box2 w W x1 x2) : Box2 w W' x1 x2 :=
  ⟨keptBelow hB h.a1, keptBelow hB h.a2, heap_below hB h.r, belowVia hB h.bel⟩
theorem Box2.res {w W : World} {x1 x2 r1 r2 : Value} (h : Box2 w W x1 x2) : ((W.setCell ⟨w.heap.size + 1, 0, none⟩ r1).setCell ⟨w.heap.size + 1, 1, none⟩ r2).heap[w.heap.size + 1]? = some (.cells #[r1, r2] 82 (0, 0)) := by
  have h1 := heap_setCell_same W _ 0 _ _ r1 h.r
  exact heap_setCell_same _ _ 1 _ _ r2 h1
set_option maxRecDepth 100000 in
set_option maxHeartbeats 4000000 in
theorem nneg (x : Int) (hx : x.natAbs < 10000 ^ 250) (u : Value) (w : World) (hu : NumAt w u x) :
    Calls Tryz.prog 115 #[u] w fun e w' => (∃ r, e = .returned r ∧ NumAt w' r (-x)) ∧ Below w.heap.size w w' := by
  obtain ⟨a, ca, rfl, hra, hca⟩ := hu
  obtain ⟨sx, hsx⟩ : ∃ sx, sx = decide (x < 0) := ⟨_, rfl⟩
  have HS := Lib.hid (fun W hm => signed_any (!sx) x.natAbs _ W hx (MagAt.via hm (mag_of_num hra hca)))
  have hz : sgn (!sx) x.natAbs = -x := by
    unfold sgn
    rw [hsx]
    by_cases h : x < 0 <;> simp [h] <;> omega
  obtain ⟨z, hzz⟩ : ∃ z, z = -x := ⟨_, rfl⟩
  rw [hz, ← hzz] at HS
  rw [← hsx, ← hzz]
  clear hsx hz hx hzz
  generalize (digsL 10000 x.natAbs).length = n at *
  go_enter Tryz.func115, Tryz.ntmps115
  go_wp2_with fail
  have hbx := box2_made w (.bool sx) (.slice a n ca)
  generalize World.alloc (World.alloc _ _) _ = W at hbx ⊢
  refine (HS.out W hbx.bel).mono ?_
  rintro e w2 ⟨⟨r2, rfl, hn2⟩, hB2⟩
  obtain ⟨a9, c9, rfl, hr9, hc9⟩ := hn2
  have hbx2 := hbx.via hB2
  have hq1 := (cell_of_row w2 _ 0 _ _ _ hbx2.r).trans rfl
  have hq2 := (cell_of_row w2 _ 1 _ _ _ hbx2.r).trans rfl
  have hf1 := frozen_of_row w2 _ 0 _ _ hbx2.r
  have hf2 := frozen_of_row w2 _ 1 _ _ hbx2.r
  clear hbx hB2
  go_wp2_with fail
  refine bodyPost_ret (results_n rfl _ _ (w.heap.size + 1) _ _ rfl hbx2.res) rfl ?_
  exact ⟨⟨_, rfl, a9, c9, rfl, hr9, cells_res hc9 hbx2.r⟩, below_res hbx2.bel (by omega) _ _⟩
set_option maxRecDepth 100000 in
set_option maxHeartbeats 4000000 in
theorem nminus (x y : Int) (hx : x.natAbs < 10000 ^ 120) (hy : y.natAbs < 10000 ^ 120) (u v : Value) (w : World) (hu : NumAt w u x) (hv : NumAt w v y)  :
    Calls Tryz.prog 94 #[u, v] w fun e w' => (∃ r, e = .returned r ∧ NumAt w' r (x - y)) ∧ Below w.heap.size w w' := by
  have HNG := Lib.hid (fun W hm => nneg y (up250 hy) _ W (NumAt.via hm hv))
  have HPL := Lib.hid (fun W v hm hv => nplus x (-y) hx (by rw [Int.natAbs_neg]; exact hy) _ v W (NumAt.via hm hu) hv)
  rw [← Int.sub_eq_add_neg] at HPL
  obtain ⟨z, hzz⟩ : ∃ z, z = x - y := ⟨_, rfl⟩
  rw [← hzz] at HPL ⊢
  clear hzz
  obtain ⟨a, ca, rfl, _, _⟩ := hu
  obtain ⟨b, cb, rfl, _, _⟩ := hv
  generalize (digsL 10000 x.natAbs).length = n at *
  generalize (digsL 10000 y.natAbs).length = m at *
  generalize decide (x < 0) = sx at *
  generalize decide (y < 0) = sy at *
  clear hx hy
  go_enter Tryz.func94, Tryz.ntmps94
  go_wp2_with fail
  have hbx := box3_made w (.bool sx) (.slice a n ca) (.bool sy) (.slice b m cb)
  generalize World.alloc (World.alloc _ _) _ = W at hbx ⊢
  have ha1 := hbx.a1
  have ha2 := hbx.a2
  have hb1 := hbx.b1
  have hb2 := hbx.b2
  have HBX := Lib.hid hbx
  clear hbx
  go_region_held3 (fun w' => w'.cell? ⟨w.heap.size, 0, none⟩ = some (.bool sx) ∧ w'.cell? ⟨w.heap.size, 1, none⟩ = some (.slice a n ca) ∧ w'.cell? ⟨w.heap.size + 1, 0, none⟩ = some (.bool sy) ∧ w'.cell? ⟨w.heap.size + 1, 1, none⟩ = some (.slice b m cb)) (first | exact ⟨ha1, ha2, hb1, hb2⟩ | exact ⟨keptBelow hB1 ha1, keptBelow hB1 ha2, keptBelow hB1 hb1, keptBelow hB1 hb2⟩ | exact ⟨keptBelow hB2 (keptBelow hB1 ha1), keptBelow hB2 (keptBelow hB1 ha2), keptBelow hB2 (keptBelow hB1 hb1), keptBelow hB2 (keptBelow hB1 hb2)⟩ | exact ⟨cell_o2 hbx2.a1 (by omega), cell_o2 hbx2.a2 (by omega), cell_o2 hbx2.b1 (by omega), cell_o2 hbx2.b2 (by omega)⟩) (first
    | (go_at_call 115; (with_reducible refine (HNG.out _ ?_).mono ?_); exact HBX.out.bel.drew; rintro e w1 ⟨⟨r1, rfl, hm1⟩, hB1⟩)
    | (go_at_call 82; (with_reducible refine (HPL.out _ _ ?_ hm1).mono ?_); exact belowVia hB1 HBX.out.bel.drew; rintro e w2 ⟨⟨r2, rfl, hn2⟩, hB2⟩; obtain ⟨a9, c9, rfl, hr9, hc9⟩ := hn2; have hB3 := HBX.out.via (undrew hB1); have hbx2 := hB3.via hB2; have hq1 := (cell_of_row w2 _ 0 _ _ _ hbx2.r).trans rfl; have hq2 := (cell_of_row w2 _ 1 _ _ _ hbx2.r).trans rfl; have hf1 := frozen_of_row w2 _ 0 _ _ hbx2.r; have hf2 := frozen_of_row w2 _ 1 _ _ hbx2.r))
  go_wp2_with fail
  refine bodyPost_ret (results_n rfl _ _ (w.heap.size + 1 + 1) _ _ rfl hbx2.res) rfl ?_
  exact ⟨⟨_, rfl, a9, c9, rfl, hr9, cells_res hc9 hbx2.r⟩, below_res hbx2.bel (by omega) _ _⟩
theorem prod_lt {X Y : Nat} (hX : X < 10000 ^ 120) (hY : Y < 10000 ^ 120) : X * Y < 10000 ^ 250 := Nat.lt_of_lt_of_le (by rw [show (240 : Nat) = 120 + 120 from rfl, Nat.pow_add]; exact Nat.mul_lt_mul_of_lt_of_le hX (Nat.le_of_lt hY) (Nat.pow_pos (by decide)) : X * Y < 10000 ^ 240) (Nat.pow_le_pow_right (by decide) (by decide))
theorem sgn_mul (x y : Int) : sgn (decide (x < 0) != decide (y < 0)) (x.natAbs * y.natAbs) = x * y := by
  have h := Int.natAbs_mul x y
  rw [← h]
  unfold sgn
  by_cases hx : x < 0 <;> by_cases hy : y < 0
  · have : 0 < x * y := Int.mul_pos_of_neg_of_neg hx hy
    simp [hx, hy]; omega
  · have : x * y ≤ 0 := Int.mul_nonpos_of_nonpos_of_nonneg (by omega) (by omega)
    simp [hx, hy]; omega
  · have : x * y ≤ 0 := Int.mul_nonpos_of_nonneg_of_nonpos (by omega) (by omega)
    simp [hx, hy]; omega
  · have : 0 ≤ x * y := Int.mul_nonneg (by omega) (by omega)
    simp [hx, hy]; omega
set_option maxRecDepth 100000 in
set_option maxHeartbeats 4000000 in
theorem ntimes (x y : Int) (hx : x.natAbs < 10000 ^ 120) (hy : y.natAbs < 10000 ^ 120) (u v : Value) (w : World) (hu : NumAt w u x) (hv : NumAt w v y)  :
    Calls Tryz.prog 93 #[u, v] w fun e w' => (∃ r, e = .returned r ∧ NumAt w' r (x * y)) ∧ Below w.heap.size w w' := by
  obtain ⟨a, ca, rfl, hra, hca⟩ := hu
  obtain ⟨b, cb, rfl, hrb, hcb⟩ := hv
  have HP := Lib.hid (fun W hu hv => mtimes x.natAbs y.natAbs (up250 hx) (up250 hy) _ _ W (MagAt.via hu (mag_of_num hra hca)) (MagAt.via hv (mag_of_num hrb hcb)))
  have HS := Lib.hid (fun sv W hm => signed_any (decide (x < 0) != decide (y < 0)) (x.natAbs * y.natAbs) sv W (prod_lt hx hy) hm)
  rw [sgn_mul x y] at HS
  obtain ⟨z, hzz⟩ : ∃ z, z = x * y := ⟨_, rfl⟩
  rw [← hzz] at HS ⊢
  clear hzz
  generalize (digsL 10000 x.natAbs).length = n at *
  generalize (digsL 10000 y.natAbs).length = m at *
  generalize decide (x < 0) = sx at *
  generalize decide (y < 0) = sy at *
  obtain ⟨t, ht⟩ : ∃ t, (sx != sy) = t := ⟨_, rfl⟩
  rw [ht] at HS
  have ht2 : (!(sx == sy)) = t := ht
  clear hx hy ht
  go_enter Tryz.func93, Tryz.ntmps93
  go_wp2_with fail
  have hbx := box3_made w (.bool sx) (.slice a n ca) (.bool sy) (.slice b m cb)
  generalize World.alloc (World.alloc _ _) _ = W at hbx ⊢
  have ha1 := hbx.a1
  have ha2 := hbx.a2
  have hb1 := hbx.b1
  have hb2 := hbx.b2
  have HBX := Lib.hid hbx
  clear hbx
  go_region_held3 (fun w' => w'.cell? ⟨w.heap.size, 0, none⟩ = some (.bool sx) ∧ w'.cell? ⟨w.heap.size, 1, none⟩ = some (.slice a n ca) ∧ w'.cell? ⟨w.heap.size + 1, 0, none⟩ = some (.bool sy) ∧ w'.cell? ⟨w.heap.size + 1, 1, none⟩ = some (.slice b m cb)) (first | exact ⟨ha1, ha2, hb1, hb2⟩ | exact ⟨keptBelow hB1 ha1, keptBelow hB1 ha2, keptBelow hB1 hb1, keptBelow hB1 hb2⟩ | exact ⟨keptBelow hB2 (keptBelow hB1 ha1), keptBelow hB2 (keptBelow hB1 ha2), keptBelow hB2 (keptBelow hB1 hb1), keptBelow hB2 (keptBelow hB1 hb2)⟩ | exact ⟨cell_o2 hbx2.a1 (by omega), cell_o2 hbx2.a2 (by omega), cell_o2 hbx2.b1 (by omega), cell_o2 hbx2.b2 (by omega)⟩) (first
    | (go_at_call 114; (with_reducible refine (HP.out _ ?_ ?_).mono ?_); exact HBX.out.bel.drew; exact HBX.out.bel.drew; rintro e w1 ⟨⟨r1, rfl, hm1⟩, hB1⟩)
    | (go_at_call 87; (with_reducible refine (HS.out _ _ ?_).mono ?_); exact hm1; rintro e w2 ⟨⟨r2, rfl, hn2⟩, hB2⟩; obtain ⟨a9, c9, rfl, hr9, hc9⟩ := hn2; have hB3 := HBX.out.via (undrew hB1); have hbx2 := hB3.via hB2; have hq1 := (cell_of_row w2 _ 0 _ _ _ hbx2.r).trans rfl; have hq2 := (cell_of_row w2 _ 1 _ _ _ hbx2.r).trans rfl; have hf1 := frozen_of_row w2 _ 0 _ _ hbx2.r; have hf2 := frozen_of_row w2 _ 1 _ _ hbx2.r))
  go_wp2_with fail
  refine bodyPost_ret (results_n rfl _ _ (w.heap.size + 1 + 1) _ _ rfl hbx2.res) rfl ?_
  exact ⟨⟨_, rfl, a9, c9, rfl, hr9, cells_res hc9 hbx2.r⟩, below_res hbx2.bel (by omega) _ _⟩
end Go.Proofs.YtelckldddflmmaaGreatDoor
/- IntNum3: The contracts of the order, the text and the division of numbers with a sign. -/
namespace Go.Proofs.YtelckldddflmmaaGreatDoor
open Go.RowKit Putlog

theorem cmp_both {x y : Int} (hx : x < 0) (hy : y < 0) : cmpI (y.natAbs : Nat) (x.natAbs : Nat) = cmpI x y := by
  unfold cmpI
  split <;> split <;> (try split) <;> (try split) <;> omega
theorem cmp_none {x y : Int} (hx : ¬ x < 0) (hy : ¬ y < 0) : cmpI (x.natAbs : Nat) (y.natAbs : Nat) = cmpI x y := by
  unfold cmpI
  split <;> split <;> (try split) <;> (try split) <;> omega
set_option maxRecDepth 100000 in
set_option maxHeartbeats 4000000 in
theorem ncmp (x y : Int) (hx : x.natAbs < 10000 ^ 250) (hy : y.natAbs < 10000 ^ 250) (u v : Value) (w : World) (hu : NumAt w u x) (hv : NumAt w v y)  :
    Calls Tryz.prog 72 #[u, v] w fun e w' => e = .returned (.int .i64 (cmpI x y)) ∧ Below w.heap.size w w' := by
  obtain ⟨a, ca, rfl, hra, hca⟩ := hu
  obtain ⟨b, cb, rfl, hrb, hcb⟩ := hv
  have HB : Hid (∀ o p : Obj, Below w.heap.size w ((w.alloc o).alloc p)) := fun o p => belowVia (alloc_below _ _) (alloc_below _ _)
  have HP := Lib.hid (fun W hu hv => mcmp x.natAbs y.natAbs hx hy _ _ W (MagAt.via hu (mag_of_num hra hca)) (MagAt.via hv (mag_of_num hrb hcb)))
  have HQ := Lib.hid (fun W hu hv => mcmp y.natAbs x.natAbs hy hx _ _ W (MagAt.via hu (mag_of_num hrb hcb)) (MagAt.via hv (mag_of_num hra hca)))
  clear hx hy
  by_cases h : x < 0 <;> by_cases k : y < 0
  · rw [cmp_both h k] at HQ
    have e1 : decide (x < 0) = true := by simp [h]
    have e2 : decide (y < 0) = true := by simp [k]
    rw [e1, e2]
    generalize (digsL 10000 x.natAbs).length = n at *
    generalize (digsL 10000 y.natAbs).length = m at *
    generalize cmpI x y = r at *
    clear h k e1 e2
    go_enter Tryz.func72, Tryz.ntmps72
    go_wp2_with fail
    refine (HQ.out _ (HB.out _ _) (HB.out _ _)).mono ?_
    rintro e w1 ⟨rfl, hB1⟩
    go_wp2_with fail
    go_ret
    exact ⟨rfl, belowVia hB1 (HB.out _ _)⟩
  · have e0 : cmpI x y = -1 := by unfold cmpI; rw [if_pos (by omega)]
    have e1 : decide (x < 0) = true := by simp [h]
    have e2 : decide (y < 0) = false := by simp; omega
    rw [e1, e2, e0]
    generalize (digsL 10000 x.natAbs).length = n at *
    generalize (digsL 10000 y.natAbs).length = m at *
    clear h k e1 e2 e0
    go_enter Tryz.func72, Tryz.ntmps72
    go_wp2_with fail
    go_ret
    exact ⟨rfl, HB.out _ _⟩
  · have e0 : cmpI x y = 1 := by unfold cmpI; rw [if_neg (by omega), if_pos (by omega)]
    have e1 : decide (x < 0) = false := by simp; omega
    have e2 : decide (y < 0) = true := by simp [k]
    rw [e1, e2, e0]
    generalize (digsL 10000 x.natAbs).length = n at *
    generalize (digsL 10000 y.natAbs).length = m at *
    clear h k e1 e2 e0
    go_enter Tryz.func72, Tryz.ntmps72
    go_wp2_with fail
    go_ret
    exact ⟨rfl, HB.out _ _⟩
  · rw [cmp_none h k] at HP
    have e1 : decide (x < 0) = false := by simp; omega
    have e2 : decide (y < 0) = false := by simp; omega
    rw [e1, e2]
    generalize (digsL 10000 x.natAbs).length = n at *
    generalize (digsL 10000 y.natAbs).length = m at *
    generalize cmpI x y = r at *
    clear h k e1 e2
    go_enter Tryz.func72, Tryz.ntmps72
    go_wp2_with fail
    refine (HP.out _ (HB.out _ _) (HB.out _ _)).mono ?_
    rintro e w1 ⟨rfl, hB1⟩
    go_wp2_with fail
    go_ret
    exact ⟨rfl, belowVia hB1 (HB.out _ _)⟩
theorem ba_cons (c : UInt8) (l : List UInt8) : (⟨#[c]⟩ : ByteArray) ++ (⟨l.toArray⟩ : ByteArray) = ⟨(c :: l).toArray⟩ := by
  apply ByteArray.ext
  simp [ByteArray.data_append]
set_option maxRecDepth 100000 in
set_option maxHeartbeats 4000000 in
theorem ntext (x : Int) (hx : x.natAbs < 10000 ^ 250) (u : Value) (w : World) (hu : NumAt w u x) :
    Calls Tryz.prog 71 #[u] w fun e w' => e = .returned (.string (intB x)) ∧ Below w.heap.size w w' := by
  obtain ⟨a, ca, rfl, hra, hca⟩ := hu
  have HD := Lib.hid (fun W hm => mdigits x.natAbs hx _ W (MagAt.via hm (mag_of_num hra hca)))
  have hlen := (natT_len x.natAbs (4 * 250) (by decide)).2 (by rw [show (10000 : Nat) = 10 ^ 4 from rfl, ← Nat.pow_mul] at hx; exact hx)
  obtain ⟨d, hd⟩ : ∃ d : ByteArray, d = ⟨(natT x.natAbs).toArray⟩ := ⟨_, rfl⟩
  have hds : (d.size : Int) ≤ 1000 := by rw [hd]; show ((natT x.natAbs).toArray.size : Int) ≤ 1000; rw [List.size_toArray]; omega
  have HI : Hid (intB x = if x < 0 then (⟨#[45]⟩ : ByteArray) ++ d else d) := by
    show _ = _
    unfold intB intT
    rw [hd]
    split
    · rw [ba_cons]
    · rfl
  rw [← hd] at HD
  generalize (digsL 10000 x.natAbs).length = n at *
  by_cases h : x < 0
  · have e1 : decide (x < 0) = true := by simp [h]
    rw [e1]
    rw [if_pos h] at HI
    rw [HI.out]
    clear hx hlen hd h e1 HI
    go_enter Tryz.func71, Tryz.ntmps71
    go_wp2_with fail
    refine (HD.out _ (alloc_below _ _)).mono ?_
    rintro e w1 ⟨rfl, hB1⟩
    go_wp2_with fail
    go_ret
    exact ⟨rfl, belowVia hB1 (alloc_below _ _)⟩
  · have e1 : decide (x < 0) = false := by simp; omega
    rw [e1]
    rw [if_neg h] at HI
    rw [HI.out]
    clear hx hlen hd h e1 HI
    go_enter Tryz.func71, Tryz.ntmps71
    go_wp2_with fail
    refine (HD.out _ (alloc_below _ _)).mono ?_
    rintro e w1 ⟨rfl, hB1⟩
    go_wp2_with fail
    go_ret
    exact ⟨rfl, belowVia hB1 (alloc_below _ _)⟩
set_option maxRecDepth 100000 in
set_option maxHeartbeats 4000000 in
theorem nzero (x : Int) (hx : x.natAbs < 10000 ^ 250) (u : Value) (w : World) (hu : NumAt w u x) :
    Calls Tryz.prog 69 #[u] w fun e w' => e = .returned (.bool (decide (x = 0))) ∧ Below w.heap.size w w' := by
  obtain ⟨a, ca, rfl, hra, hca⟩ := hu
  have hl := big_len hx
  have he : ((digsL 10000 x.natAbs).length = 0) ↔ x = 0 := by
    have := digsL_pos_len x.natAbs
    constructor
    · intro h
      have h2 := digsL_nil (List.length_eq_zero_iff.1 h); omega
    · intro h; subst h; show (digsL 10000 0).length = 0; rw [digsL_zero]; rfl
  obtain ⟨n, hn⟩ : ∃ n, n = (digsL 10000 x.natAbs).length := ⟨_, rfl⟩
  rw [← hn] at hl he ⊢
  have hlb : (n : Int) ≤ 250 := by omega
  have hdd : ((n : Int) == 0) = decide (x = 0) := by
    by_cases h : x = 0
    · have := he.2 h; simp [h, this]
    · have : n ≠ 0 := fun k => h (he.1 k)
      simp [h, this]
  generalize decide (x = 0) = t at *
  generalize decide (x < 0) = s at *
  clear hx hl he hn hra hca
  go_enter Tryz.func69, Tryz.ntmps69
  go_wp2_with fail
  go_ret
  exact ⟨rfl, alloc_below _ _⟩
end Go.Proofs.YtelckldddflmmaaGreatDoor
/- IntNum4: The contract of the division of numbers with a sign. -/
namespace Go.Proofs.YtelckldddflmmaaGreatDoor
open Go.RowKit Putlog

theorem sgn_mul_y (s : Bool) (Q : Nat) (y : Int) : sgn s Q * y = sgn (s != decide (y < 0)) (Q * y.natAbs) := by
  rcases (show y < 0 ∨ 0 ≤ y by omega) with h | h
  · have e : y = -(y.natAbs : Int) := by omega
    have e2 : decide (y < 0) = true := by simp [h]
    rw [e2]
    generalize y.natAbs = Y at e
    subst e
    cases s <;> simp [sgn, Int.neg_mul, Int.mul_neg]
  · have e : y = (y.natAbs : Int) := by omega
    have e2 : decide (y < 0) = false := by simp; omega
    rw [e2]
    generalize y.natAbs = Y at e
    subst e
    cases s <;> simp [sgn, Int.neg_mul]
theorem nd_pure {x y : Int} (hy : y ≠ 0) {Q R : Nat} (hR : R < y.natAbs) (h1 : x < 0 → x.natAbs + R = Q * y.natAbs) (h2 : ¬ x < 0 → x.natAbs = Q * y.natAbs + R) :
    sgn (decide (x < 0) != decide (y < 0)) Q = x / y ∧ (R : Int) = x % y := by
  refine ediv_unique hy ?_ (by omega) (by omega)
  rw [sgn_mul_y]
  have e : ((decide (x < 0) != decide (y < 0)) != decide (y < 0)) = decide (x < 0) := by cases decide (x < 0) <;> cases decide (y < 0) <;> rfl
  rw [e]
  unfold sgn
  by_cases h : x < 0
  · have := h1 h; simp only [h, decide_true, if_true]; omega
  · have := h2 h; simp only [h, decide_false, Bool.false_eq_true, if_false]; omega
/-- Two numbers in boxes, and the boxes of two results. -/
structure Box4 (w W : World) (x1 x2 y1 y2 : Value) : Prop where
  a1 : W.cell? ⟨w.heap.size, 0, none⟩ = some x1
  a2 : W.cell? ⟨w.heap.size, 1, none⟩ = some x2
  b1 : W.cell? ⟨w.heap.size + 1, 0, none⟩ = some y1
  b2 : W.cell? ⟨w.heap.size + 1, 1, none⟩ = some y2
  r : W.heap[w.heap.size + 1 + 1]? = some (.cells #[.bool false, .slice none 0 0] 82 (0, 0))
  s : W.heap[w.heap.size + 1 + 1 + 1]? = some (.cells #[.bool false, .slice none 0 0] 82 (0, 0))
  bel : Below w.heap.size w W
theorem box4_made (w : World) (x1 x2 y1 y2 : Value) : Box4 w ((((w.alloc (.cells #[x1, x2] 82)).alloc (.cells #[y1, y2] 82)).alloc (.cells #[.bool false, .slice none 0 0] 82)).alloc (.cells #[.bool false, .slice none 0 0] 82)) x1 x2 y1 y2 := by
  have h := box3_made w x1 x2 y1 y2
  have hs : (((w.alloc (.cells #[x1, x2] 82)).alloc (.cells #[y1, y2] 82)).alloc (.cells #[.bool false, .slice none 0 0] 82)).heap.size = w.heap.size + 1 + 1 + 1 := by simp
  generalize ((w.alloc (.cells #[x1, x2] 82)).alloc (.cells #[y1, y2] 82)).alloc (.cells #[.bool false, .slice none 0 0] 82) = W at *
  have hb := alloc_below W (.cells #[.bool false, .slice none 0 0] 82)
  have hn := heap_alloc_new W (.cells #[.bool false, .slice none 0 0] 82)
  rw [hs] at hn
  have h := h.via hb
  exact ⟨h.a1, h.a2, h.b1, h.b2, h.r, hn, h.bel⟩
theorem Box4.via {w W W' : World} {x1 x2 y1 y2 : Value} (hB : Below W.heap.size W W') (h : Box4 w W x1 x2 y1 y2) : Box4 w W' x1 x2 y1 y2 :=
  ⟨keptBelow hB h.a1, keptBelow hB h.a2, keptBelow hB h.b1, keptBelow hB h.b2, heap_below hB h.r, heap_below hB h.s, belowVia hB h.bel⟩
def Fin4 (W : World) (p q : Nat) (r1 r2 s1 s2 : Value) : World := ((((W.setCell ⟨p, 0, none⟩ r1).setCell ⟨p, 1, none⟩ r2).setCell ⟨q, 0, none⟩ s1).setCell ⟨q, 1, none⟩ s2)
theorem Box4.res {w W : World} {x1 x2 y1 y2 r1 r2 s1 s2 : Value} (h : Box4 w W x1 x2 y1 y2) :
    (Fin4 W (w.heap.size + 1 + 1) (w.heap.size + 1 + 1 + 1) r1 r2 s1 s2).heap[w.heap.size + 1 + 1]? = some (.cells #[r1, r2] 82 (0, 0)) ∧
    (Fin4 W (w.heap.size + 1 + 1) (w.heap.size + 1 + 1 + 1) r1 r2 s1 s2).heap[w.heap.size + 1 + 1 + 1]? = some (.cells #[s1, s2] 82 (0, 0)) := by
  have h1 := heap_setCell_same W _ 0 _ _ r1 h.r
  have h2 := heap_setCell_same _ _ 1 _ _ r2 h1
  constructor
  · unfold Fin4
    rw [heap_setCell_other _ _ _ _ (show w.heap.size + 1 + 1 ≠ w.heap.size + 1 + 1 + 1 by omega), heap_setCell_other _ _ _ _ (show w.heap.size + 1 + 1 ≠ w.heap.size + 1 + 1 + 1 by omega)]
    exact h2
  · have h3 : ((W.setCell ⟨w.heap.size + 1 + 1, 0, none⟩ r1).setCell ⟨w.heap.size + 1 + 1, 1, none⟩ r2).heap[w.heap.size + 1 + 1 + 1]? = some (.cells #[.bool false, .slice none 0 0] 82 (0, 0)) := by
      rw [heap_setCell_other _ _ _ _ (show w.heap.size + 1 + 1 + 1 ≠ w.heap.size + 1 + 1 by omega), heap_setCell_other _ _ _ _ (show w.heap.size + 1 + 1 + 1 ≠ w.heap.size + 1 + 1 by omega)]
      exact h.s
    have h4 := heap_setCell_same _ _ 0 _ _ s1 h3
    exact heap_setCell_same _ _ 1 _ _ s2 h4
theorem Box4.cells {w W : World} {x1 x2 y1 y2 r1 r2 s1 s2 : Value} {a : Option Addr} {l : List Int} (h : Box4 w W x1 x2 y1 y2) (hc : CellsAt W a l) : CellsAt (Fin4 W (w.heap.size + 1 + 1) (w.heap.size + 1 + 1 + 1) r1 r2 s1 s2) a l := by
  have h1 := cells_res (v := r1) (v2 := r2) hc h.r
  have h3 : ((W.setCell ⟨w.heap.size + 1 + 1, 0, none⟩ r1).setCell ⟨w.heap.size + 1 + 1, 1, none⟩ r2).heap[w.heap.size + 1 + 1 + 1]? = some (.cells #[.bool false, .slice none 0 0] 82 (0, 0)) := by
    rw [heap_setCell_other _ _ _ _ (show w.heap.size + 1 + 1 + 1 ≠ w.heap.size + 1 + 1 by omega), heap_setCell_other _ _ _ _ (show w.heap.size + 1 + 1 + 1 ≠ w.heap.size + 1 + 1 by omega)]
    exact h.s
  exact cells_res h1 h3
theorem Box4.fin {w W : World} {x1 x2 y1 y2 r1 r2 s1 s2 : Value} (h : Box4 w W x1 x2 y1 y2) : Below w.heap.size w (Fin4 W (w.heap.size + 1 + 1) (w.heap.size + 1 + 1 + 1) r1 r2 s1 s2) := below_res (below_res h.bel (by omega) _ _) (by omega) _ _
set_option maxRecDepth 100000 in
set_option maxHeartbeats 4000000 in
theorem ndiv0 (x y : Int) (hx : x.natAbs < 10000 ^ 120) (hy : y.natAbs < 10000 ^ 120) (h0 : y ≠ 0) (hc : ¬ (x < 0 ∧ 0 < x.natAbs % y.natAbs)) (u v : Value) (w : World) (hu : NumAt w u x) (hv : NumAt w v y)  :
    Calls Tryz.prog 70 #[u, v] w fun e w' => (∃ q r, e = .returned (.tuple #[q, r]) ∧ NumAt w' q (x / y) ∧ NumAt w' r (x % y)) ∧ Below w.heap.size w w' := by
  obtain ⟨a, ca, rfl, hra, hca⟩ := hu
  obtain ⟨b, cb, rfl, hrb, hcb⟩ := hv
  have hYp : 0 < y.natAbs := by omega
  have hmod := Nat.mod_lt x.natAbs hYp
  have hdm := Nat.div_add_mod x.natAbs y.natAbs
  have hdm2 : x.natAbs / y.natAbs * y.natAbs = y.natAbs * (x.natAbs / y.natAbs) := Nat.mul_comm _ _
  have hz0 : x < 0 → x.natAbs % y.natAbs = 0 := fun h => Nat.eq_zero_of_not_pos fun k => hc ⟨h, k⟩
  obtain ⟨e1, e2⟩ := nd_pure (x := x) h0 hmod (Q := x.natAbs / y.natAbs) (fun h => by have := hz0 h; omega) (fun h => by omega)
  have HD := Lib.hid (fun W hm => mdiv x.natAbs y.natAbs (up250 hx) (up250 hy) hYp _ _ W (MagAt.via hm (mag_of_num hra hca)) (MagAt.via hm (mag_of_num hrb hcb)))
  have HS1 := Lib.hid (fun sv W hm => signed_any (decide (x < 0) != decide (y < 0)) (x.natAbs / y.natAbs) sv W (Nat.lt_of_le_of_lt (Nat.div_le_self _ _) (up250 hx)) hm)
  have HS2 := Lib.hid (fun sv W hm => signed_any false (x.natAbs % y.natAbs) sv W (Nat.lt_of_le_of_lt (Nat.mod_le _ _) (up250 hx)) hm)
  have e3 : sgn false (x.natAbs % y.natAbs) = x % y := by rw [← e2]; rfl
  rw [e1] at HS1
  rw [e3] at HS2
  have hcond : decide (x < 0) = false ∨ (digsL 10000 (x.natAbs % y.natAbs)).length = 0 := by
    by_cases h : x < 0
    · right
      rw [hz0 h, digsL_zero]; rfl
    · left; simp; omega
  have hlen : ((digsL 10000 (x.natAbs % y.natAbs)).length : Int) ≤ 250 := by have := big_len (Nat.lt_of_le_of_lt (Nat.mod_le x.natAbs y.natAbs) (up250 hx)); omega
  generalize (digsL 10000 x.natAbs).length = n at *
  generalize (digsL 10000 y.natAbs).length = m at *
  generalize digsL 10000 (x.natAbs / y.natAbs) = QL at *
  generalize digsL 10000 (x.natAbs % y.natAbs) = RL at *
  generalize x / y = qz at *
  generalize x % y = rz at *
  generalize decide (x < 0) = sx at *
  generalize decide (y < 0) = sy at *
  clear hz0 hx hy h0 hc hYp hmod hdm hdm2 e1 e2 e3
  by_cases hsx : sx = false
  · subst hsx
    rw [Bool.false_bne] at HS1
    clear hcond
    go_enter Tryz.func70, Tryz.ntmps70
    go_wp2_with fail
    have hbx := box4_made w (.bool false) (.slice a n ca) (.bool sy) (.slice b m cb)
    generalize World.alloc (World.alloc _ _) _ = W at hbx ⊢
    refine (HD.out W hbx.bel).mono ?_
    rintro e w1 ⟨⟨q, r, rfl, hq, hr⟩, hB1⟩
    obtain ⟨aq, cq, rfl, hrq, hcq⟩ := hq
    obtain ⟨ar, cr, rfl, hrr, hcr⟩ := hr
    have hbx := hbx.via hB1
    have ha1 := hbx.a1
    have ha2 := hbx.a2
    have hb1 := hbx.b1
    have hb2 := hbx.b2
    have HBX := Lib.hid hbx
    clear hbx hB1
    go_wp2_with fail
    refine (HS1.out _ _ ⟨aq, cq, rfl, hrq, hcq⟩).mono ?_
    rintro e w3 ⟨⟨v1, rfl, hn1⟩, hB3⟩
    obtain ⟨a8, c8, rfl, hr8, hc8⟩ := hn1
    go_wp2_with fail
    refine (HS2.out _ _ ⟨ar, cr, rfl, hrr, hcr.via hB3⟩).mono ?_
    rintro e w4 ⟨⟨v2, rfl, hn2⟩, hB4⟩
    obtain ⟨a9, c9, rfl, hr9, hc9⟩ := hn2
    have hbx4 := (HBX.out.via hB3).via hB4
    have HC8 := Lib.hid (hc8.via hB4)
    have HC9 := Lib.hid hc9
    have hq1 := (cell_of_row w4 _ 0 _ _ _ hbx4.r).trans rfl
    have hq2 := (cell_of_row w4 _ 1 _ _ _ hbx4.r).trans rfl
    have hf1 := frozen_of_row w4 _ 0 _ _ hbx4.r
    have hf2 := frozen_of_row w4 _ 1 _ _ hbx4.r
    have hq3 := (cell_of_row w4 _ 0 _ _ _ hbx4.s).trans rfl
    have hq4 := (cell_of_row w4 _ 1 _ _ _ hbx4.s).trans rfl
    have hf3 := frozen_of_row w4 _ 0 _ _ hbx4.s
    have hf4 := frozen_of_row w4 _ 1 _ _ hbx4.s
    have HBX4 := Lib.hid hbx4
    clear ha1 ha2 hb1 hb2 HBX hB3 hB4 hc8 hc9 hbx4
    go_wp2_with fail
    refine bodyPost_ret (results_nn rfl _ _ (w.heap.size + 1 + 1) (w.heap.size + 1 + 1 + 1) _ _ _ _ rfl HBX4.out.res.1 rfl HBX4.out.res.2) rfl ?_
    exact ⟨⟨_, _, rfl, ⟨a8, c8, rfl, hr8, HBX4.out.cells HC8.out⟩, ⟨a9, c9, rfl, hr9, HBX4.out.cells HC9.out⟩⟩, HBX4.out.fin⟩
  · obtain rfl : sx = true := by simpa using hsx
    rw [Bool.true_bne] at HS1
    obtain rfl : RL = [] := List.length_eq_zero_iff.1 (hcond.resolve_left hsx)
    clear hcond hlen
    go_enter Tryz.func70, Tryz.ntmps70
    go_wp2_with fail
    have hbx := box4_made w (.bool true) (.slice a n ca) (.bool sy) (.slice b m cb)
    generalize World.alloc (World.alloc _ _) _ = W at hbx ⊢
    refine (HD.out W hbx.bel).mono ?_
    rintro e w1 ⟨⟨q, r, rfl, hq, hr⟩, hB1⟩
    obtain ⟨aq, cq, rfl, hrq, hcq⟩ := hq
    obtain ⟨ar, cr, rfl, hrr, hcr⟩ := hr
    have hbx := hbx.via hB1
    have ha1 := hbx.a1
    have ha2 := hbx.a2
    have hb1 := hbx.b1
    have hb2 := hbx.b2
    have HBX := Lib.hid hbx
    clear hbx hB1
    go_wp2_with fail
    refine (HS1.out _ _ ⟨aq, cq, rfl, hrq, hcq⟩).mono ?_
    rintro e w3 ⟨⟨v1, rfl, hn1⟩, hB3⟩
    obtain ⟨a8, c8, rfl, hr8, hc8⟩ := hn1
    go_wp2_with fail
    refine (HS2.out _ _ ⟨ar, cr, rfl, hrr, hcr.via hB3⟩).mono ?_
    rintro e w4 ⟨⟨v2, rfl, hn2⟩, hB4⟩
    obtain ⟨a9, c9, rfl, hr9, hc9⟩ := hn2
    have hbx4 := (HBX.out.via hB3).via hB4
    have HC8 := Lib.hid (hc8.via hB4)
    have HC9 := Lib.hid hc9
    have hq1 := (cell_of_row w4 _ 0 _ _ _ hbx4.r).trans rfl
    have hq2 := (cell_of_row w4 _ 1 _ _ _ hbx4.r).trans rfl
    have hf1 := frozen_of_row w4 _ 0 _ _ hbx4.r
    have hf2 := frozen_of_row w4 _ 1 _ _ hbx4.r
    have hq3 := (cell_of_row w4 _ 0 _ _ _ hbx4.s).trans rfl
    have hq4 := (cell_of_row w4 _ 1 _ _ _ hbx4.s).trans rfl
    have hf3 := frozen_of_row w4 _ 0 _ _ hbx4.s
    have hf4 := frozen_of_row w4 _ 1 _ _ hbx4.s
    have HBX4 := Lib.hid hbx4
    clear ha1 ha2 hb1 hb2 HBX hB3 hB4 hc8 hc9 hbx4
    go_wp2_with fail
    refine bodyPost_ret (results_nn rfl _ _ (w.heap.size + 1 + 1) (w.heap.size + 1 + 1 + 1) _ _ _ _ rfl HBX4.out.res.1 rfl HBX4.out.res.2) rfl ?_
    exact ⟨⟨_, _, rfl, ⟨a8, c8, rfl, hr8, HBX4.out.cells HC8.out⟩, ⟨a9, c9, rfl, hr9, HBX4.out.cells HC9.out⟩⟩, HBX4.out.fin⟩
theorem digsL_one : digsL 10000 1 = [1] := by rw [digsL_pos (by decide) (by decide), show 1 / 10000 = 0 from rfl, digsL_zero]
theorem one_at (W : World) : MagAt (W.alloc (.cells #[.int .i64 1] 3)) (.slice (some ⟨W.heap.size, 0, none⟩) 1 1) (digsL 10000 1) := by
  rw [digsL_one]
  refine ⟨_, 1, rfl, ⟨Nat.le_refl _, by omega⟩, .inr ⟨W.heap.size, 0, rfl, fun j hj => ?_⟩⟩
  have : j = 0 := by simp [ofN] at hj; exact hj
  subst this
  exact cell_box W (.int .i64 1) _
set_option maxRecDepth 100000 in
set_option maxHeartbeats 4000000 in
theorem ndiv1 (x y : Int) (hx : x.natAbs < 10000 ^ 120) (hy : y.natAbs < 10000 ^ 120) (h0 : y ≠ 0) (hc : x < 0 ∧ 0 < x.natAbs % y.natAbs) (u v : Value) (w : World) (hu : NumAt w u x) (hv : NumAt w v y)  :
    Calls Tryz.prog 70 #[u, v] w fun e w' => (∃ q r, e = .returned (.tuple #[q, r]) ∧ NumAt w' q (x / y) ∧ NumAt w' r (x % y)) ∧ Below w.heap.size w w' := by
  obtain ⟨a, ca, rfl, hra, hca⟩ := hu
  obtain ⟨b, cb, rfl, hrb, hcb⟩ := hv
  have hYp : 0 < y.natAbs := by omega
  have hmod := Nat.mod_lt x.natAbs hYp
  have hdm := Nat.div_add_mod x.natAbs y.natAbs
  have hdm2 : (x.natAbs / y.natAbs + 1) * y.natAbs = y.natAbs * (x.natAbs / y.natAbs) + y.natAbs := by rw [Nat.add_mul, Nat.mul_comm, Nat.one_mul]
  obtain ⟨e1, e2⟩ := nd_pure (x := x) (R := y.natAbs - x.natAbs % y.natAbs) h0 (by omega) (Q := x.natAbs / y.natAbs + 1) (fun h => by omega) (fun h => absurd hc.1 h)
  have hXY : x.natAbs / y.natAbs < 10000 ^ 120 := Nat.lt_of_le_of_lt (Nat.div_le_self _ _) hx
  have hX1 : x.natAbs / y.natAbs + 1 < 10000 ^ 250 := Nat.lt_of_lt_of_le (show _ < 10000 ^ 121 by rw [Nat.pow_succ]; omega) (Nat.pow_le_pow_right (by decide) (by decide))
  have h1b : (1 : Nat) < 10000 ^ 250 := Nat.lt_of_lt_of_le (show 1 < 10000 ^ 1 by decide) (Nat.pow_le_pow_right (by decide) (by decide))
  have HD := Lib.hid (fun W hm => mdiv x.natAbs y.natAbs (up250 hx) (up250 hy) hYp _ _ W (MagAt.via hm (mag_of_num hra hca)) (MagAt.via hm (mag_of_num hrb hcb)))
  have HP := Lib.hid (fun u v W hu hv => mplus (x.natAbs / y.natAbs) 1 (up250 hXY) h1b u v W hu hv)
  have HM := Lib.hid (fun v W hm hv => mminus y.natAbs (x.natAbs % y.natAbs) (up250 hy) (Nat.le_of_lt hmod) _ v W (MagAt.via hm (mag_of_num hrb hcb)) hv)
  have HS1 := Lib.hid (fun sv W hm => signed_any (decide (x < 0) != decide (y < 0)) (x.natAbs / y.natAbs + 1) sv W hX1 hm)
  have HS2 := Lib.hid (fun sv W hm => signed_any false (y.natAbs - x.natAbs % y.natAbs) sv W (Nat.lt_of_le_of_lt (Nat.sub_le _ _) (up250 hy)) hm)
  have e3 : sgn false (y.natAbs - x.natAbs % y.natAbs) = x % y := by rw [← e2]; rfl
  rw [e1] at HS1
  rw [e3] at HS2
  have hlen : ((digsL 10000 (x.natAbs % y.natAbs)).length : Int) ≤ 250 := by have := big_len (Nat.lt_of_le_of_lt (Nat.mod_le x.natAbs y.natAbs) (up250 hx)); omega
  have hlp : (0 : Int) < (digsL 10000 (x.natAbs % y.natAbs)).length := by
    have h1 : digsL 10000 (x.natAbs % y.natAbs) ≠ [] := fun e => by have := digsL_nil e; omega
    have := List.length_pos_iff.2 h1; omega
  have e4 : decide (x < 0) = true := by simp [hc.1]
  rw [e4] at HS1 ⊢
  rw [Bool.true_bne] at HS1
  generalize (digsL 10000 x.natAbs).length = n at *
  generalize (digsL 10000 y.natAbs).length = m at *
  generalize digsL 10000 (x.natAbs / y.natAbs + 1) = Q1 at *
  generalize digsL 10000 (y.natAbs - x.natAbs % y.natAbs) = R1 at *
  generalize digsL 10000 (x.natAbs / y.natAbs) = QL at *
  generalize digsL 10000 (x.natAbs % y.natAbs) = RL at *
  generalize x / y = qz at *
  generalize x % y = rz at *
  generalize decide (y < 0) = sy at *
  clear hx hy h0 hc hYp hmod hdm hdm2 e1 e2 e3 e4 hXY hX1 h1b
  go_enter Tryz.func70, Tryz.ntmps70
  go_wp2_with fail
  have hbx := box4_made w (.bool true) (.slice a n ca) (.bool sy) (.slice b m cb)
  generalize World.alloc (World.alloc _ _) _ = W at hbx ⊢
  refine (HD.out W hbx.bel).mono ?_
  rintro e w1 ⟨⟨q, r, rfl, hq, hr⟩, hB1⟩
  have HQ := Lib.hid hq
  have HR := Lib.hid hr
  obtain ⟨aq, cq, rfl, _, _⟩ := hq
  obtain ⟨ar, cr, rfl, _, _⟩ := hr
  have hbx := hbx.via hB1
  have ha1 := hbx.a1
  have ha2 := hbx.a2
  have hb1 := hbx.b1
  have hb2 := hbx.b2
  have HBX := Lib.hid hbx
  clear hbx hB1
  go_wp2_with fail
  go_region_held3 (fun w' => w'.cell? ⟨w.heap.size + 1, 1, none⟩ = some (.slice b m cb)) (first | exact hb2 | exact cellA _ hb2 | exact keptBelow hC2 (cellA _ hb2) | exact keptBelow hC3 (keptBelow hC2 (cellA _ hb2))) (first
    | (go_at_call 98; (with_reducible refine (HP.out _ _ _ ?_ ?_).mono ?_); exact MagAt.via (undrew (alloc_below _ _)) HQ.out; exact one_at _; rintro e w2 ⟨⟨r1, rfl, hm1⟩, hC2⟩)
    | (go_at_call 99; (with_reducible refine (HM.out _ _ ?_ ?_).mono ?_); exact belowVia hC2 (belowVia (undrew (alloc_below _ _)) HBX.out.bel); exact MagAt.via hC2 (MagAt.via (undrew (alloc_below _ _)) HR.out); rintro e w2b ⟨⟨r2, rfl, hm2⟩, hC3⟩))
  have hbx3 := ((HBX.out.via (undrew (alloc_below _ _))).via hC2).via hC3
  have HBX2 := Lib.hid hbx3
  have HM1 := Lib.hid (hm1.via hC3)
  have HM2 := Lib.hid hm2
  clear hbx3 hm1 hm2 hC2 hC3 ha1 ha2 hb1 hb2 HBX HQ HR HD HP HM
  have ha1 := HBX2.out.a1
  have hb1 := HBX2.out.b1
  go_wp2_with fail
  refine (HS1.out _ _ HM1.out).mono ?_
  rintro e w3 ⟨⟨v1, rfl, hn1⟩, hB3⟩
  obtain ⟨a8, c8, rfl, hr8, hc8⟩ := hn1
  go_wp2_with fail
  refine (HS2.out _ _ (HM2.out.via hB3)).mono ?_
  rintro e w4 ⟨⟨v2, rfl, hn2⟩, hB4⟩
  obtain ⟨a9, c9, rfl, hr9, hc9⟩ := hn2
  have hbx4 := (HBX2.out.via hB3).via hB4
  have HC8 := Lib.hid (hc8.via hB4)
  have HC9 := Lib.hid hc9
  have hq1 := (cell_of_row w4 _ 0 _ _ _ hbx4.r).trans rfl
  have hq2 := (cell_of_row w4 _ 1 _ _ _ hbx4.r).trans rfl
  have hf1 := frozen_of_row w4 _ 0 _ _ hbx4.r
  have hf2 := frozen_of_row w4 _ 1 _ _ hbx4.r
  have hq3 := (cell_of_row w4 _ 0 _ _ _ hbx4.s).trans rfl
  have hq4 := (cell_of_row w4 _ 1 _ _ _ hbx4.s).trans rfl
  have hf3 := frozen_of_row w4 _ 0 _ _ hbx4.s
  have hf4 := frozen_of_row w4 _ 1 _ _ hbx4.s
  have HBX4 := Lib.hid hbx4
  clear ha1 hb1 HBX2 hB3 hB4 hc8 hc9 hbx4
  go_wp2_with fail
  refine bodyPost_ret (results_nn rfl _ _ (w.heap.size + 1 + 1) (w.heap.size + 1 + 1 + 1) _ _ _ _ rfl HBX4.out.res.1 rfl HBX4.out.res.2) rfl ?_
  exact ⟨⟨_, _, rfl, ⟨a8, c8, rfl, hr8, HBX4.out.cells HC8.out⟩, ⟨a9, c9, rfl, hr9, HBX4.out.cells HC9.out⟩⟩, HBX4.out.fin⟩
theorem ndiv (x y : Int) (hx : x.natAbs < 10000 ^ 120) (hy : y.natAbs < 10000 ^ 120) (h0 : y ≠ 0) (u v : Value) (w : World) (hu : NumAt w u x) (hv : NumAt w v y)  :
    Calls Tryz.prog 70 #[u, v] w fun e w' => (∃ q r, e = .returned (.tuple #[q, r]) ∧ NumAt w' q (x / y) ∧ NumAt w' r (x % y)) ∧ Below w.heap.size w w' := by
  by_cases hc : x < 0 ∧ 0 < x.natAbs % y.natAbs
  · exact ndiv1 x y hx hy h0 hc u v w hu hv
  · exact ndiv0 x y hx hy h0 hc u v w hu hv
end Go.Proofs.YtelckldddflmmaaGreatDoor
/- IntValid: The contract of Valid. -/
namespace Go.Proofs.YtelckldddflmmaaGreatDoor
open Go.RowKit Putlog

theorem trim_minus (l : List UInt8) : Lib.trimPrefix l [45] = if l.head? = some 45 then l.tail else l := by
  cases l with
  | nil => rfl
  | cons c t =>
    by_cases h : c = 45
    · subst h; simp [Lib.trimPrefix, Lib.hasPrefix]
    · simp [Lib.trimPrefix, Lib.hasPrefix, h]
      intro h2; exact absurd h2.symm h
theorem validT_form (l : List UInt8) (h0 : l ≠ [48]) : validT l = ((Lib.trimPrefix l [45]).all isDigB && !(Lib.trimPrefix l [45]).isEmpty && decide ((Lib.trimPrefix l [45]).length ≤ 200) && !((Lib.trimPrefix l [45]).head? == some 48)) := by
  rw [trim_minus]
  unfold validT
  split
  · rfl
  · have : (l == [48]) = false := by simpa using h0
    rw [this, Bool.false_or]
theorem hasPrefix_minus (l : List UInt8) : Lib.hasPrefix l [45] = decide (l.head? = some 45) := by
  cases l with
  | nil => rfl
  | cons c t =>
    by_cases h : c = 45
    · subst h; simp [Lib.hasPrefix]
    · have : ((45 : UInt8) == c) = false := by rw [beq_eq_false_iff_ne]; exact fun e => h e.symm
      simp [Lib.hasPrefix, List.isPrefixOf, this, h]
theorem not_dig {l : List UInt8} {k : Nat} (h : k < l.length) (hd : ¬ IsDig l[k]) : l.all isDigB = false := by
  rw [Bool.eq_false_iff]
  intro h2
  exact hd ((all_isDigB l).1 h2 _ (List.getElem_mem h))
set_option maxRecDepth 100000 in
set_option maxHeartbeats 4000000 in
theorem valid_any (s : ByteArray) (hs : (s.size : Int) ≤ 9223372036854775807) (w : World) :
    Calls Tryz.prog 108 #[.string s] w fun e w' => e = .returned (.bool (validT s.data.toList)) ∧ w' = w := by
  by_cases h0 : s.data.toList = [48]
  · have e1 : (s.toList == [48]) = true := by rw [ByteArray.toList_eq, h0]; rfl
    have e2 : validT s.data.toList = true := by rw [h0]; decide
    rw [e2]
    clear h0 e2
    go_enter Tryz.func108, Tryz.ntmps108
    go_wp2_with fail
    go_ret
    exact ⟨rfl, rfl⟩
  · have e1 : (s.toList == [48]) = false := by rw [ByteArray.toList_eq]; simpa using h0
    have HV := Lib.hid (validT_form s.data.toList h0)
    have hT := Tryz.strings_TrimPrefix s ⟨#[45]⟩
    simp only at hT
    obtain ⟨d, hd⟩ : ∃ d : ByteArray, d = ⟨(Lib.trimPrefix s.data.toList [45]).toArray⟩ := ⟨_, rfl⟩
    have hdl : d.data.toList = Lib.trimPrefix s.data.toList [45] := by rw [hd]
    rw [← hd] at hT
    rw [← hdl] at HV
    have hds : (d.size : Int) ≤ 9223372036854775807 := by
      have h1 : d.size = d.data.toList.length := by rw [Array.length_toList]; rfl
      have h2 : s.size = s.data.toList.length := by rw [Array.length_toList]; rfl
      have h3 : d.data.toList.length ≤ s.data.toList.length := by
        rw [hdl, trim_minus]; split
        · simp
        · exact Nat.le_refl _
      omega
    have HT := Lib.hid hT
    have hsz : d.data.toList.length = d.size := by rw [Array.length_toList]; rfl
    rw [HV.out]
    clear h0 hT hd hdl HV
    by_cases c0 : d.data.toList = []
    · have e2 : (d.toList == []) = true := by rw [ByteArray.toList_eq, c0]; rfl
      have e3 : (d.data.toList.all isDigB && !d.data.toList.isEmpty && decide (d.data.toList.length ≤ 200) && !(d.data.toList.head? == some 48)) = false := by rw [c0]; rfl
      rw [e3]
      clear e3 c0 hsz
      go_enter Tryz.func108, Tryz.ntmps108
      go_wp2_with fail
      refine (HT.out w).mono ?_
      rintro e w1 ⟨rfl, rfl⟩
      go_wp2_with fail
      go_ret
      exact ⟨rfl, rfl⟩
    · have e2 : (d.toList == []) = false := by rw [ByteArray.toList_eq]; simpa using c0
      have hpos : 0 < d.size := by have := List.length_pos_iff.2 c0; omega
      by_cases c1 : 200 < d.size
      · have e3 : (d.data.toList.all isDigB && !d.data.toList.isEmpty && decide (d.data.toList.length ≤ 200) && !(d.data.toList.head? == some 48)) = false := by
          rw [hsz]; simp; intros; omega
        rw [e3]
        have c1' : (200 : Int) < d.size := by omega
        clear e3 c0 hsz c1
        go_enter Tryz.func108, Tryz.ntmps108
        go_wp2_with fail
        refine (HT.out w).mono ?_
        rintro e w1 ⟨rfl, rfl⟩
        go_wp2_with fail
        go_ret
        exact ⟨rfl, rfl⟩
      · have c1' : ¬ (200 : Int) < d.size := by omega
        have hgd : ∀ k (h : k < d.size), ∃ h2 : k < d.data.toList.length, d[k] = d.data.toList[k]'h2 := fun k h => ⟨by omega, by simp [ByteArray.getElem_eq_getElem_data]⟩
        have hh : d.data.toList.head? = some d[0] := by
          obtain ⟨h2, h3⟩ := hgd 0 hpos
          rw [h3, List.head?_eq_getElem?, List.getElem?_eq_getElem h2]
        have hp' : (0 : Int) < d.size := by omega
        by_cases c2 : d[0] = 48
        · have e3 : (d.data.toList.all isDigB && !d.data.toList.isEmpty && decide (d.data.toList.length ≤ 200) && !(d.data.toList.head? == some 48)) = false := by
            rw [hh, c2]; simp
          rw [e3]
          have e4 : (((d[0]).toNat : Int) == 48) = true := by rw [c2]; rfl
          clear e3 c0 hsz c1 hh hgd c2
          go_enter Tryz.func108, Tryz.ntmps108
          go_wp2_with fail
          refine (HT.out w).mono ?_
          rintro e w1 ⟨rfl, rfl⟩
          go_wp2_with fail
          go_ret
          exact ⟨rfl, rfl⟩
        · have e4 : (((d[0]).toNat : Int) == 48) = false := by
            simp
            intro h
            exact c2 (UInt8.toNat_inj.1 (by rw [show (48 : UInt8).toNat = 48 from rfl]; omega))
          have e3 : (d.data.toList.all isDigB && !d.data.toList.isEmpty && decide (d.data.toList.length ≤ 200) && !(d.data.toList.head? == some 48)) = d.data.toList.all isDigB := by
            have h1 : (d.data.toList.head? == some 48) = false := by rw [hh]; simpa using c2
            have h2 : d.data.toList.isEmpty = false := by simpa using c0
            rw [h1, h2, hsz]; simp; omega
          rw [e3]
          obtain ⟨bb, hbb⟩ : ∃ bb, bb = d.data.toList.all isDigB := ⟨_, rfl⟩
          rw [← hbb]
          have HBB := Lib.hid hbb
          have HG := Lib.hid hgd
          have HZ := Lib.hid hsz
          clear hbb
          clear e3 c0 hsz c1 hh hgd c2
          go_enter Tryz.func108, Tryz.ntmps108
          go_wp2_with fail
          refine (HT.out w).mono ?_
          rintro e w1 ⟨rfl, rfl⟩
          go_wp2_with fail
          go_loopw [23] (fun i wr => ∃ k : Nat, k ≤ d.size ∧ i = .int .i64 k ∧ wr = w1 ∧ ∀ j (h : j < d.data.toList.length), j < k → IsDig (d.data.toList[j]'h)) (fun i _ => d.size - (intOf i).toNat)
          case atStart => exact ⟨0, by omega, rfl, rfl, fun j _ h => by omega⟩
          case round =>
            obtain ⟨k, hk, rfl, rfl, hdig⟩ := hrel
            have HDG := Lib.hid hdig
            clear hdig
            by_cases hlt : k < d.size
            · have hlt' : (k : Int) < d.size := by omega
              obtain ⟨h2, h3⟩ := HG.out k hlt
              by_cases hdx : IsDig d[k]
              · have b1 : (48 : Int) ≤ (d[k]).toNat := by have := hdx.1; omega
                have b2 : ((d[k]).toNat : Int) ≤ 57 := by have := hdx.2; omega
                have HN : Hid (∀ j (h : j < d.data.toList.length), j < k + 1 → IsDig (d.data.toList[j]'h)) := fun j h hj => by
                  rcases Nat.lt_or_ge j k with h4 | h4
                  · exact HDG.out j h h4
                  · have : j = k := by omega
                    subst this
                    rw [← h3]; exact hdx
                clear hdx h3
                go_wp2_with fail
                exact ⟨⟨k + 1, by omega, by go_num, trivial, HN.out⟩, by simp [intOf]; omega⟩
              · have HF := Lib.hid (HBB.out.trans (not_dig h2 (by rw [← h3]; exact hdx)))
                have hor : ((d[k]).toNat : Int) < 48 ∨ (57 : Int) < (d[k]).toNat := by unfold IsDig at hdx; omega
                rcases hor with hor | hor
                · clear hdx h3
                  go_wp2_with fail
                  go_ret
                  exact ⟨congrArg (fun b => Ending.returned (Value.bool b)) HF.out.symm, rfl⟩
                · have b3 : ¬ ((d[k]).toNat : Int) < 48 := by omega
                  clear hdx h3
                  go_wp2_with fail
                  go_ret
                  exact ⟨congrArg (fun b => Ending.returned (Value.bool b)) HF.out.symm, rfl⟩
            · obtain rfl : k = d.size := by omega
              have hall : d.data.toList.all isDigB = true := (all_isDigB _).2 fun c hc => by
                obtain ⟨j, hj, rfl⟩ := List.mem_iff_getElem.1 hc
                exact HDG.out j hj (by rw [← HZ.out]; exact hj)
              have HF := Lib.hid (HBB.out.trans hall)
              clear hall
              go_wp2_with fail
              go_ret
              exact ⟨congrArg (fun b => Ending.returned (Value.bool b)) HF.out.symm, rfl⟩
end Go.Proofs.YtelckldddflmmaaGreatDoor
/- IntRead2: The contracts of read and readBoth. -/
namespace Go.Proofs.YtelckldddflmmaaGreatDoor
open Go.RowKit Putlog

theorem fits_big {z : Int} (h : Fits z) : z.natAbs < 10000 ^ 50 := by
  have : (10000 : Nat) ^ 50 = 10 ^ 200 := by rw [show (10000 : Nat) = 10 ^ 4 from rfl, ← Nat.pow_mul]
  rw [this]; exact h
theorem fits120 {z : Int} (h : Fits z) : z.natAbs < 10000 ^ 120 := Nat.lt_of_lt_of_le (fits_big h) (Nat.pow_le_pow_right (by decide) (by decide))
theorem fits250 {z : Int} (h : Fits z) : z.natAbs < 10000 ^ 250 := up250 (fits120 h)
theorem intT_trim (z : Int) : Lib.trimPrefix (intT z) [45] = natT z.natAbs := by
  rw [trim_minus]
  unfold intT
  by_cases h : z < 0
  · rw [if_pos h]; rfl
  · rw [if_neg h, if_neg (natT_head_dig _)]
theorem intT_has (z : Int) : Lib.hasPrefix (intT z) [45] = decide (z < 0) := by
  rw [hasPrefix_minus]
  unfold intT
  by_cases h : z < 0
  · rw [if_pos h]; simp [h]
  · rw [if_neg h]; simp [h, natT_head_dig]
theorem sgn_self (z : Int) : sgn (decide (z < 0)) z.natAbs = z := by
  unfold sgn
  by_cases h : z < 0
  · simp [h]; omega
  · simp [h]; omega
theorem intB_list (z : Int) : (intB z).data.toList = intT z := by simp [intB]
/-- The box of a result alone. -/
structure Box1 (w W : World) : Prop where
  r : W.heap[w.heap.size]? = some (.cells #[.bool false, .slice none 0 0] 82 (0, 0))
  bel : Below w.heap.size w W
theorem box1_made (w : World) : Box1 w (w.alloc (.cells #[.bool false, .slice none 0 0] 82)) := ⟨heap_alloc_new w _, alloc_below w _⟩
theorem Box1.via {w W W' : World} (hB : Below W.heap.size W W') (h : Box1 w W) : Box1 w W' := ⟨heap_below hB h.r, belowVia hB h.bel⟩
theorem Box1.res {w W : World} {r1 r2 : Value} (h : Box1 w W) : ((W.setCell ⟨w.heap.size, 0, none⟩ r1).setCell ⟨w.heap.size, 1, none⟩ r2).heap[w.heap.size]? = some (.cells #[r1, r2] 82 (0, 0)) := by
  have h1 := heap_setCell_same W _ 0 _ _ r1 h.r
  exact heap_setCell_same _ _ 1 _ _ r2 h1
set_option maxRecDepth 100000 in
set_option maxHeartbeats 4000000 in
theorem read_ok (z : Int) (hz : Fits z) (w : World) :
    Calls Tryz.prog 96 #[.string (intB z)] w fun e w' => (∃ v, e = .returned (.tuple #[v, .bool true]) ∧ NumAt w' v z) ∧ Below w.heap.size w w' := by
  have hsz := intT_size hz (by decide)
  have hV := valid_any (intB z) (by omega)
  have hv1 : validT (intB z).data.toList = true := by rw [intB_list]; exact (validT_int z).2 hz
  rw [hv1] at hV
  have hC := Tryz.strings_CutPrefix (intB z) ⟨#[45]⟩
  rw [intB_list] at hC
  simp only [intT_trim, intT_has] at hC
  obtain ⟨d, hd⟩ : ∃ d : ByteArray, d = ⟨(natT z.natAbs).toArray⟩ := ⟨_, rfl⟩
  have hdl : d.data.toList = natT z.natAbs := by rw [hd]
  rw [← hd] at hC
  have hR := fun W => readM_any d (by rw [hdl]; exact natT_dig _) (by
    rw [hd]; show (natT z.natAbs).toArray.size ≤ 1000
    rw [List.size_toArray]
    have := (natT_len z.natAbs 200 (by decide)).2 hz
    omega) W
  rw [hdl, natT_val] at hR
  have hS := fun sv W hm => signed_any (decide (z < 0)) z.natAbs sv W (fits250 hz) hm
  rw [sgn_self] at hS
  have HV := Lib.hid hV
  have HC := Lib.hid hC
  have HR := Lib.hid hR
  have HS := Lib.hid hS
  generalize decide (z < 0) = sz at *
  generalize intB z = s at *
  clear hz hsz hV hv1 hC hd hdl hR hS
  go_enter Tryz.func96, Tryz.ntmps96
  go_wp2_with fail
  have hbx := box1_made w
  generalize World.alloc _ _ = W at hbx ⊢
  refine (HV.out W).mono ?_
  rintro e w1 ⟨rfl, rfl⟩
  go_wp2_with fail
  refine (HC.out w1).mono ?_
  rintro e w2 ⟨rfl, rfl⟩
  go_wp2_with fail
  refine (HR.out w2).mono ?_
  rintro e w3 ⟨⟨v3, rfl, hm3⟩, hB3⟩
  go_wp2_with fail
  refine (HS.out _ _ hm3).mono ?_
  rintro e w4 ⟨⟨v4, rfl, hn4⟩, hB4⟩
  obtain ⟨a9, c9, rfl, hr9, hc9⟩ := hn4
  have hbx2 := (hbx.via hB3).via hB4
  have hq1 := (cell_of_row w4 _ 0 _ _ _ hbx2.r).trans rfl
  have hq2 := (cell_of_row w4 _ 1 _ _ _ hbx2.r).trans rfl
  have hf1 := frozen_of_row w4 _ 0 _ _ hbx2.r
  have hf2 := frozen_of_row w4 _ 1 _ _ hbx2.r
  clear hbx hB3 hB4 hm3
  go_wp2_with fail
  refine bodyPost_ret (results_nt rfl _ _ (w.heap.size) _ _ rfl hbx2.res) rfl ?_
  exact ⟨⟨_, rfl, a9, c9, rfl, hr9, cells_res hc9 hbx2.r⟩, below_res hbx2.bel (by omega) _ _⟩
set_option maxRecDepth 100000 in
set_option maxHeartbeats 4000000 in
theorem read_no (s : ByteArray) (hs : (s.size : Int) ≤ 9223372036854775807) (hv : validT s.data.toList = false) (w : World) :
    Calls Tryz.prog 96 #[.string s] w fun e w' => e = .returned (.tuple #[.agg #[.bool false, .slice none 0 0], .bool false]) ∧ Below w.heap.size w w' := by
  have hV := valid_any s hs
  rw [hv] at hV
  have HV := Lib.hid hV
  clear hV hv
  go_enter Tryz.func96, Tryz.ntmps96
  go_wp2_with fail
  have hbx := box1_made w
  generalize World.alloc _ _ = W at hbx ⊢
  refine (HV.out W).mono ?_
  rintro e w4 ⟨rfl, rfl⟩
  have hq1 := (cell_of_row w4 _ 0 _ _ _ hbx.r).trans rfl
  have hq2 := (cell_of_row w4 _ 1 _ _ _ hbx.r).trans rfl
  have hf1 := frozen_of_row w4 _ 0 _ _ hbx.r
  have hf2 := frozen_of_row w4 _ 1 _ _ hbx.r
  go_wp2_with fail
  refine bodyPost_ret (results_nt rfl _ _ (w.heap.size) _ _ rfl hbx.res) rfl ?_
  exact ⟨rfl, below_res hbx.bel (by omega) _ _⟩
end Go.Proofs.YtelckldddflmmaaGreatDoor
/- IntBoth: The contract of readBoth. -/
namespace Go.Proofs.YtelckldddflmmaaGreatDoor
open Go.RowKit Putlog

/-- The boxes of two results. -/
structure BoxR (w W : World) : Prop where
  r : W.heap[w.heap.size]? = some (.cells #[.bool false, .slice none 0 0] 82 (0, 0))
  s : W.heap[w.heap.size + 1]? = some (.cells #[.bool false, .slice none 0 0] 82 (0, 0))
  bel : Below w.heap.size w W
theorem boxR_made (w : World) : BoxR w ((w.alloc (.cells #[.bool false, .slice none 0 0] 82)).alloc (.cells #[.bool false, .slice none 0 0] 82)) := by
  have h := box2_made w (.bool false) (.slice none 0 0)
  have h1 := heap_alloc_new w (.cells #[.bool false, .slice none 0 0] 82)
  exact ⟨heap_below (alloc_below _ _) h1, h.r, h.bel⟩
theorem BoxR.via {w W W' : World} (hB : Below W.heap.size W W') (h : BoxR w W) : BoxR w W' := ⟨heap_below hB h.r, heap_below hB h.s, belowVia hB h.bel⟩
theorem BoxR.res {w W : World} {r1 r2 s1 s2 : Value} (h : BoxR w W) :
    (Fin4 W w.heap.size (w.heap.size + 1) r1 r2 s1 s2).heap[w.heap.size]? = some (.cells #[r1, r2] 82 (0, 0)) ∧
    (Fin4 W w.heap.size (w.heap.size + 1) r1 r2 s1 s2).heap[w.heap.size + 1]? = some (.cells #[s1, s2] 82 (0, 0)) := by
  have h1 := heap_setCell_same W _ 0 _ _ r1 h.r
  have h2 := heap_setCell_same _ _ 1 _ _ r2 h1
  constructor
  · unfold Fin4
    rw [heap_setCell_other _ _ _ _ (show w.heap.size ≠ w.heap.size + 1 by omega), heap_setCell_other _ _ _ _ (show w.heap.size ≠ w.heap.size + 1 by omega)]
    exact h2
  · have h3 : ((W.setCell ⟨w.heap.size, 0, none⟩ r1).setCell ⟨w.heap.size, 1, none⟩ r2).heap[w.heap.size + 1]? = some (.cells #[.bool false, .slice none 0 0] 82 (0, 0)) := by
      rw [heap_setCell_other _ _ _ _ (show w.heap.size + 1 ≠ w.heap.size by omega), heap_setCell_other _ _ _ _ (show w.heap.size + 1 ≠ w.heap.size by omega)]
      exact h.s
    have h4 := heap_setCell_same _ _ 0 _ _ s1 h3
    exact heap_setCell_same _ _ 1 _ _ s2 h4
theorem BoxR.cells {w W : World} {r1 r2 s1 s2 : Value} {a : Option Addr} {l : List Int} (h : BoxR w W) (hc : CellsAt W a l) : CellsAt (Fin4 W w.heap.size (w.heap.size + 1) r1 r2 s1 s2) a l := by
  have h1 := cells_res (v := r1) (v2 := r2) hc h.r
  have h3 : ((W.setCell ⟨w.heap.size, 0, none⟩ r1).setCell ⟨w.heap.size, 1, none⟩ r2).heap[w.heap.size + 1]? = some (.cells #[.bool false, .slice none 0 0] 82 (0, 0)) := by
    rw [heap_setCell_other _ _ _ _ (show w.heap.size + 1 ≠ w.heap.size by omega), heap_setCell_other _ _ _ _ (show w.heap.size + 1 ≠ w.heap.size by omega)]
    exact h.s
  exact cells_res h1 h3
theorem BoxR.fin {w W : World} {r1 r2 s1 s2 : Value} (h : BoxR w W) : Below w.heap.size w (Fin4 W w.heap.size (w.heap.size + 1) r1 r2 s1 s2) := below_res (below_res h.bel (Nat.le_refl _) _ _) (by omega) _ _
theorem heap_cells {W : World} {p : Nat} {x y : Value} (h : W.heap[p]? = some (.cells #[x, y] 82 (0, 0))) : W.cell? ⟨p, 0, none⟩ = some x ∧ W.cell? ⟨p, 1, none⟩ = some y ∧ W.frozen? ⟨p, 0, none⟩ = false ∧ W.frozen? ⟨p, 1, none⟩ = false :=
  ⟨(cell_of_row W p 0 _ _ _ h).trans rfl, (cell_of_row W p 1 _ _ _ h).trans rfl, frozen_of_row W p 0 _ _ h, frozen_of_row W p 1 _ _ h⟩
set_option maxRecDepth 100000 in
set_option maxHeartbeats 4000000 in
theorem both_ok (x y : Int) (hx : Fits x) (hy : Fits y) (w : World) :
    Calls Tryz.prog 68 #[.string (intB x), .string (intB y)] w fun e w' => (∃ u v, e = .returned (.tuple #[u, v, .bool true]) ∧ NumAt w' u x ∧ NumAt w' v y) ∧ Below w.heap.size w w' := by
  have HX := Lib.hid (read_ok x hx)
  have HY := Lib.hid (read_ok y hy)
  generalize intB x = s at *
  generalize intB y = t at *
  clear hx hy
  go_enter Tryz.func68, Tryz.ntmps68
  go_wp2_with fail
  have hbx := boxR_made w
  generalize World.alloc (World.alloc _ _) _ = W at hbx ⊢
  refine (HX.out W).mono ?_
  rintro e w1 ⟨⟨v1, rfl, hn1⟩, hB1⟩
  obtain ⟨a8, c8, rfl, hr8, hc8⟩ := hn1
  have hbx := hbx.via hB1
  have hbx1 := hbx
  go_wp2_with fail
  have h7 := heap_alloc_new w1 (.cells #[.bool (decide (x < 0)), .slice a8 (digsL 10000 x.natAbs).length c8] 82)
  have b7 := alloc_below w1 (.cells #[.bool (decide (x < 0)), .slice a8 (digsL 10000 x.natAbs).length c8] 82)
  generalize w1.alloc (.cells #[.bool (decide (x < 0)), .slice a8 (digsL 10000 x.natAbs).length c8] 82) = w2 at *
  have hbx := hbx.via b7
  have hc8 := hc8.via b7
  have h7' := h7
  refine (HY.out w2).mono ?_
  rintro e w3 ⟨⟨v3, rfl, hn3⟩, hB3⟩
  obtain ⟨a9, c9, rfl, hr9, hc9⟩ := hn3
  have hbx := hbx.via hB3
  have hc8 := hc8.via hB3
  have h7 := heap_below hB3 h7
  go_wp2_with fail
  have h9 := heap_alloc_new w3 (.cells #[.bool (decide (y < 0)), .slice a9 (digsL 10000 y.natAbs).length c9] 82)
  have b9 := alloc_below w3 (.cells #[.bool (decide (y < 0)), .slice a9 (digsL 10000 y.natAbs).length c9] 82)
  generalize w3.alloc (.cells #[.bool (decide (y < 0)), .slice a9 (digsL 10000 y.natAbs).length c9] 82) = w4 at *
  have hbx := hbx.via b9
  have hc8 := hc8.via b9
  have hc9 := hc9.via b9
  have h7 := heap_below b9 h7
  have s1 : w.heap.size + 1 < w1.heap.size := by
    have := (Array.getElem?_eq_some_iff.1 hbx1.s).1; omega
  have s3 : w1.heap.size < w3.heap.size := by have := hB3.size; have := b7.size; have := lt_of_cell (heap_cells h7').1; omega
  obtain ⟨k1, k2, _, _⟩ := heap_cells h7
  obtain ⟨k3, k4, _, _⟩ := heap_cells h9
  obtain ⟨q1, q2, f1, f2⟩ := heap_cells hbx.r
  obtain ⟨q3, q4, f3, f4⟩ := heap_cells hbx.s
  have HBX := Lib.hid hbx
  have HC8 := Lib.hid hc8
  have HC9 := Lib.hid hc9
  have n1 : w1.heap.size ≠ w.heap.size := by omega
  have n2 : w1.heap.size ≠ w.heap.size + 1 := by omega
  have n3 : w3.heap.size ≠ w.heap.size := by omega
  have n4 : w3.heap.size ≠ w.heap.size + 1 := by omega
  generalize w1.heap.size = p7 at *
  generalize w3.heap.size = p9 at *
  clear hbx hc8 hc9 h7 h9 b9 b7 hB1 hB3 s1 s3 h7' hbx1
  go_region
  go_wp2_with fail
  refine bodyPost_ret (results_nnt rfl _ _ w.heap.size (w.heap.size + 1) _ _ _ _ rfl HBX.out.res.1 rfl HBX.out.res.2) rfl ?_
  exact ⟨⟨_, _, rfl, ⟨a8, c8, rfl, hr8, (HBX.out.cells HC8.out).via (Below.refl _ _).drew⟩, ⟨a9, c9, rfl, hr9, (HBX.out.cells HC9.out).via (Below.refl _ _).drew⟩⟩, HBX.out.fin.drew⟩
set_option maxRecDepth 100000 in
set_option maxHeartbeats 4000000 in
theorem both_no1 (s t : ByteArray) (hs : (s.size : Int) ≤ 9223372036854775807) (hv : validT s.data.toList = false) (w : World) :
    Calls Tryz.prog 68 #[.string s, .string t] w fun e w' => e = .returned (.tuple #[.agg #[.bool false, .slice none 0 0], .agg #[.bool false, .slice none 0 0], .bool false]) ∧ Below w.heap.size w w' := by
  have HX := Lib.hid (read_no s hs hv)
  clear hv
  go_enter Tryz.func68, Tryz.ntmps68
  go_wp2_with fail
  have hbx := boxR_made w
  generalize World.alloc (World.alloc _ _) _ = W at hbx ⊢
  refine (HX.out W).mono ?_
  rintro e w1 ⟨rfl, hB1⟩
  have hbx := hbx.via hB1
  have hbx := hbx.via (alloc_below w1 (.cells #[.bool false, .slice none 0 0] 82))
  obtain ⟨q1, q2, f1, f2⟩ := heap_cells hbx.r
  obtain ⟨q3, q4, f3, f4⟩ := heap_cells hbx.s
  have HBX := Lib.hid hbx
  clear hbx hB1
  go_wp2_with fail
  refine bodyPost_ret (results_nnt rfl _ _ w.heap.size (w.heap.size + 1) _ _ _ _ rfl HBX.out.res.1 rfl HBX.out.res.2) rfl ?_
  exact ⟨rfl, HBX.out.fin⟩
set_option maxRecDepth 100000 in
set_option maxHeartbeats 4000000 in
theorem both_no2 (x : Int) (t : ByteArray) (hx : Fits x) (ht : (t.size : Int) ≤ 9223372036854775807) (hv : validT t.data.toList = false) (w : World) :
    Calls Tryz.prog 68 #[.string (intB x), .string t] w fun e w' => e = .returned (.tuple #[.agg #[.bool false, .slice none 0 0], .agg #[.bool false, .slice none 0 0], .bool false]) ∧ Below w.heap.size w w' := by
  have HX := Lib.hid (read_ok x hx)
  have HY := Lib.hid (read_no t ht hv)
  generalize intB x = s at *
  clear hx hv
  go_enter Tryz.func68, Tryz.ntmps68
  go_wp2_with fail
  have hbx := boxR_made w
  generalize World.alloc (World.alloc _ _) _ = W at hbx ⊢
  refine (HX.out W).mono ?_
  rintro e w1 ⟨⟨v1, rfl, hn1⟩, hB1⟩
  obtain ⟨a8, c8, rfl, hr8, hc8⟩ := hn1
  have hbx := hbx.via hB1
  go_wp2_with fail
  have b7 := alloc_below w1 (.cells #[.bool (decide (x < 0)), .slice a8 (digsL 10000 x.natAbs).length c8] 82)
  generalize w1.alloc (.cells #[.bool (decide (x < 0)), .slice a8 (digsL 10000 x.natAbs).length c8] 82) = w2 at *
  have hbx := hbx.via b7
  refine (HY.out w2).mono ?_
  rintro e w3 ⟨rfl, hB3⟩
  have hbx := hbx.via hB3
  have hbx := hbx.via (alloc_below w3 (.cells #[.bool false, .slice none 0 0] 82))
  obtain ⟨q1, q2, f1, f2⟩ := heap_cells hbx.r
  obtain ⟨q3, q4, f3, f4⟩ := heap_cells hbx.s
  have HBX := Lib.hid hbx
  clear hbx hB1 hB3 b7 hc8 hr8
  go_wp2_with fail
  refine bodyPost_ret (results_nnt rfl _ _ w.heap.size (w.heap.size + 1) _ _ _ _ rfl HBX.out.res.1 rfl HBX.out.res.2) rfl ?_
  exact ⟨rfl, HBX.out.fin⟩
end Go.Proofs.YtelckldddflmmaaGreatDoor
