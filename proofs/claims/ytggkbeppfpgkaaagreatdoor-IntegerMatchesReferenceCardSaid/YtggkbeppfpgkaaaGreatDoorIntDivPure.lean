/- Plain mathematics of the long division, and what a step of it does to memory. -/
import Derived.Test.YtggkbeppfpgkaaaGreatDoorIntGroup
namespace Go.Proofs.YtggkbeppfpgkaaaGreatDoor
open Go.RowKit Putlog

/-- The long division before index k - 1. -/
structure DivAt (A B : List Nat) (n k : Nat) (Q R : List Nat) : Prop where
  qlen : Q.length = n
  qdig : DigB 10000 Q
  qz : ∀ j, j < k → Q.getD j 0 = 0
  rdig : DigB 10000 R
  rlen : R.length ≤ A.length
  kr : k ≤ R.length + 1
  val : leV 10000 A = leV 10000 Q * leV 10000 B + leV 10000 R
  lt : leV 10000 R < leV 10000 B * 10000 ^ k
  nrm : k = 0 → Norm R
theorem digB_zeros (n : Nat) : DigB 10000 (List.replicate n 0) := fun x hx => by
  obtain ⟨_, rfl⟩ := List.mem_replicate.1 hx
  decide
theorem DivAt.start {A B : List Nat} (hA : DigB 10000 A) (nB : Norm B) (h0 : B ≠ []) (hl : B.length ≤ A.length) : DivAt A B (A.length - B.length + 1) (A.length - B.length + 1) (List.replicate (A.length - B.length + 1) 0) A := by
  have hlen0 : 0 < B.length := List.length_pos_iff.2 h0
  refine ⟨List.length_replicate, digB_zeros _, fun j hj => by simp [List.getD_eq_getElem?_getD, hj], hA, Nat.le_refl _, by omega, by rw [leV_zeros]; simp, ?_, fun h => by omega⟩
  have h1 := leV_lt hA
  rcases norm_cases B with h | ⟨r, x, rfl⟩
  · exact absurd h h0
  · have h2 := norm_ge (B := 10000) (by decide) nB
    simp only [List.length_append, List.length_singleton] at hl ⊢
    have h3 : 10000 ^ A.length = 10000 ^ r.length * 10000 ^ (A.length - (r.length + 1) + 1) := by rw [← Nat.pow_add]; congr 1; omega
    have h4 := Nat.mul_le_mul_right (10000 ^ (A.length - (r.length + 1) + 1)) h2
    omega
theorem DivAt.upper {A B : List Nat} {n i : Nat} {Q R : List Nat} (h : DivAt A B n (i + 1) Q R) : trimL (R.drop i) = digsL 10000 (leV 10000 R / 10000 ^ i) ∧ leV 10000 R / 10000 ^ i < 10000 * leV 10000 B := by
  have h1 : DigB 10000 (R.drop i) := fun x hx => h.rdig x (List.mem_of_mem_drop hx)
  constructor
  · rw [← leV_drop' h.rdig i, ← trimL_val, digsL_leV (by decide) (trimL_dig h1) (trimL_norm _)]
  · refine (Nat.div_lt_iff_lt_mul (Nat.pow_pos (by decide))).2 ?_
    have := h.lt
    rw [Nat.pow_succ] at this
    rw [Nat.mul_assoc, Nat.mul_comm 10000, Nat.mul_assoc]; exact this
theorem DivAt.step {A B : List Nat} {n i : Nat} {Q R : List Nat} (h : DivAt A B n (i + 1) Q R) (hb : 0 < leV 10000 B) (hi : i < n) :
    DivAt A B n i (Q.set i (leV 10000 R / 10000 ^ i / leV 10000 B)) (R.take i ++ digsL 10000 (leV 10000 R / 10000 ^ i % leV 10000 B)) := by
  have hp : 0 < 10000 ^ i := Nat.pow_pos (by decide)
  obtain ⟨h1, h2, h3⟩ := long_step hp hb (by have := h.lt; rw [Nat.pow_succ] at this; exact this)
  have hir : i ≤ R.length := by have := h.kr; omega
  have htl : (R.take i).length = i := by simp; omega
  have hv : leV 10000 (R.take i ++ digsL 10000 (leV 10000 R / 10000 ^ i % leV 10000 B)) = leV 10000 R % 10000 ^ i + 10000 ^ i * (leV 10000 R / 10000 ^ i % leV 10000 B) := by
    rw [leV_append, htl, leV_digsL (by decide), leV_take (by decide) h.rdig i hir]
  have hU := leV_drop' h.rdig i
  have hUlt : leV 10000 (R.drop i) < 10000 ^ (R.drop i).length := leV_lt (fun x hx => h.rdig x (List.mem_of_mem_drop hx))
  have hml : (digsL 10000 (leV 10000 R / 10000 ^ i % leV 10000 B)).length ≤ R.length - i := by
    refine digsL_len_le (Nat.lt_of_le_of_lt (Nat.mod_le _ _) ?_)
    rw [← hU]; simpa using hUlt
  refine ⟨by rw [List.length_set]; exact h.qlen, fun x hx => ?_, fun j hj => ?_, ?_, ?_, ?_, ?_, ?_, fun e => ?_⟩
  · rcases List.mem_or_eq_of_mem_set hx with hx | hx
    · exact h.qdig x hx
    · rw [hx]; exact h1
  · rw [List.getD_eq_getElem?_getD, List.getElem?_set, if_neg (by omega), ← List.getD_eq_getElem?_getD]
    exact h.qz j (by omega)
  · exact DigB.append (fun x hx => h.rdig x (List.mem_of_mem_take hx)) (digsL_dig (by decide) _)
  · rw [List.length_append, htl]; have := h.rlen; omega
  · rw [List.length_append, htl]; omega
  · rw [hv, leV_set 10000 Q i _ (by rw [h.qlen]; exact hi) (h.qz i (by omega)), Nat.add_mul]
    have := h.val
    omega
  · rw [hv]; exact h3
  · subst e
    rw [List.take_zero, List.nil_append]
    exact digsL_norm (by decide) _
theorem DivAt.done {A B : List Nat} {n : Nat} {Q R : List Nat} (h : DivAt A B n 0 Q R) (hb : 0 < leV 10000 B) : trimL Q = digsL 10000 (leV 10000 A / leV 10000 B) ∧ R = digsL 10000 (leV 10000 A % leV 10000 B) := by
  have h1 : leV 10000 R < leV 10000 B := by have := h.lt; simpa using this
  have h2 := h.val
  have h3 : leV 10000 A / leV 10000 B = leV 10000 Q := by
    rw [h2, Nat.add_comm, Nat.add_mul_div_right _ _ hb, Nat.div_eq_of_lt h1, Nat.zero_add]
  have h4 : leV 10000 A % leV 10000 B = leV 10000 R := by
    rw [h2, Nat.add_comm, Nat.add_mul_mod_self_right, Nat.mod_eq_of_lt h1]
  constructor
  · rw [h3, ← trimL_val 10000 Q, digsL_leV (by decide) (trimL_dig h.qdig) (trimL_norm _)]
  · rw [h4, digsL_leV (by decide) h.rdig (h.nrm rfl)]

theorem RowAt.grown {w w' : World} {g gr : Nat} {C : List Int} (h : RowAt w g C) (hg : w.grownBy w' (some gr)) (hne : g ≠ gr) : RowAt w' g C := fun j hj => by
  obtain ⟨h1, h2⟩ := h j hj
  have hlt := lt_of_cell h1
  have h3 := hg.block g hlt (fun e => hne (Option.some.inj e))
  exact ⟨by rw [← h1]; simp only [World.cell?, h3], by rw [← h2]; simp only [World.frozen?, h3]⟩
theorem undrew {w w' : World} (h : Below w.drew.heap.size w.drew w') : Below w.heap.size w w' := ⟨h.os, h.tape, h.output, h.size, h.block⟩
theorem owns_take {w : World} {base g c : Nat} {R : List Nat} (h : w.ownsRow base 3 1 (.slice (some ⟨g, 0, none⟩) R.length c) R.length (i64l R)) {k : Nat} (hk : k ≤ R.length) : w.ownsRow base 3 1 (.slice (some ⟨g, 0, none⟩) k c) k (i64l (R.take k)) := by
  obtain ⟨h1, h2⟩ := h
  have hlen : (i64l (R.take k)).length = k * 1 := by rw [i64l_len]; simp; omega
  refine ⟨hlen, ?_⟩
  rcases h2 with ⟨h2, _⟩ | ⟨g', cap, cur, hv, hg, hh, h3, h4, h5, h6⟩
  · cases h2
  · cases hv
    refine .inr ⟨g, c, cur, rfl, hg, hh, by omega, h4, h5, ?_⟩
    rw [Nat.mul_one] at h6 ⊢
    have : i64l (R.take k) = (i64l R).take k := by simp [i64l]
    rw [this, ← h6, List.take_take, Nat.min_eq_left hk]
theorem owns_cells {w : World} {base g c : Nat} {R : List Nat} (h : w.ownsRow base 3 1 (.slice (some ⟨g, 0, none⟩) R.length c) R.length (i64l R)) : ∀ j, j < R.length → w.cell? ⟨g, j, none⟩ = some (.int .i64 (R.getD j 0 : Nat)) := fun j hj => by
  obtain ⟨g', c', h1, _, _, h2⟩ := mag_of_owns h (by omega)
  cases h1
  exact h2 j hj
theorem owns_lt {w : World} {base g c : Nat} {R : List Nat} (h : w.ownsRow base 3 1 (.slice (some ⟨g, 0, none⟩) R.length c) R.length (i64l R)) : g < w.heap.size := by
  obtain ⟨_, ⟨h2, _⟩ | ⟨g', cap, cur, hv, hg, hh, _⟩⟩ := h
  · cases h2
  · cases hv; exact lt_of_block hh
theorem owns_cap {w : World} {base g c : Nat} {R : List Nat} (h : w.ownsRow base 3 1 (.slice (some ⟨g, 0, none⟩) R.length c) R.length (i64l R)) : Room R.length c ∧ base ≤ g := by
  obtain ⟨_, ⟨h2, _⟩ | ⟨g', cap, cur, hv, hg, hh, h3, h4, _⟩⟩ := h
  · cases h2
  · cases hv; exact ⟨⟨h3, by unfold maxLen at h4; omega⟩, hg⟩
/-- append within the capacity, as one step of a region. -/
theorem step_append_fits {P : Program} {ops : Array Oper} {o : Oper} {a : Act} {w : World} {K : Act → World → Prop} {Q : Exit → Act → World → Prop} {E : Prop}
    (hg : o.guard = none) (s x : Operand) (t : TypeId) (hop : o.op = Op.call { callee := Callee.builtin Builtin.append, args := #[s, x], argTypes := #[t, t] })
    (base : Nat) (e : TypeId) (i : TypeInfo) (size : Nat) (h1 : P.underlying t = some (.slice e)) (h2 : P.info? e = some i) (h4 : i.size = size)
    (g k cap : Nat) (xs : List Value) (hs : a.eval s = .slice (some ⟨g, 0, none⟩) k cap) (hown : w.ownsRow base e size (.slice (some ⟨g, 0, none⟩) k cap) k xs) (ad : Addr) (m c : Nat) (news : List Value) (hx : a.eval x = .slice (some ad) m c) (hn : news.length = m * size)
    (hc : ∀ j u, news[j]? = some u → w.cell? (ad.add j) = some u) (h1c : ∀ u ∈ news, u.oneCell' = true) (b1 : k + m ≤ cap)
    (hK : ∀ w', w'.ownsRow base e size (.slice (some ⟨g, 0, none⟩) (k + m) cap) (k + m) (xs ++ news) → w.grownBy w' (some g) → K (a.put o.dst (.slice (some ⟨g, 0, none⟩) (k + m) cap)) w') :
    if Region.wanted o (yielded ops a.tmps) = true then Oper.wp P o a w K Q else E := by
  have hw : Region.wanted o (yielded ops a.tmps) = true := by simp [Region.wanted, hg]
  rw [if_pos hw]
  obtain ⟨w', hrun, r1, r2⟩ := run_append_fits (P := P) w base t o.type e i size h1 h2 h4 g k cap xs hown ad m c news hn hc h1c b1
  unfold Oper.wp
  simp [execOp, hop, resolve, invoke, builtin, hs, hx, hrun, Result.andThen]
  exact hK w' r1 r2
theorem slice_hiI (a : Option Addr) (n c k : Nat) (hk : k ≤ c) (hs : a = none ∧ c = 0 ∨ ∃ g, a = some ⟨g, 0, none⟩) (w : World) :
    (Instr.slice 45 (.slice a n c) none (some (.int .i64 (k : Nat))) none).run Tryz.prog w = .ok (.slice a k c) w := by
  have ht : Tryz.prog.underlying 45 = some (.slice (Tryz.prog.elem 45)) := by kernel_rfl
  have hz : (sizeOf (Tryz.prog.elem 45)).run Tryz.prog w = .ok 1 w := by kernel_rfl
  rw [run_slice_h w 45 a n c ht .i64 k (by omega) (by omega), hz]
  simp only [Result.andThen, sliced, Int.toNat_natCast, Nat.sub_zero]
  rcases hs with ⟨rfl, rfl⟩ | ⟨g, rfl⟩
  · simp
  · split <;> simp [Addr.add]
end Go.Proofs.YtggkbeppfpgkaaaGreatDoor
