/- What the walks of layer 3 share: lists of numbers and bytes that lie in blocks, or that a call owns. -/
import Derived.Test.YtggkbeppfpgkaaaGreatDoorRows
import Derived.WalkKit
import Derived.WalkSpells
import Derived.WalkLawsBesides
import Derived.Lib.Hide
import Derived.Laws.Rows
import Derived.Laws.CopyOwn
import Derived.Laws.BytesArg
import Derived.Laws.BitsAllLaws
import Derived.IntWalk
import Derived.BigQuiet
import Derived.Deep.QuietTactic
import Derived.Deep.RegionHeld3
import Derived.Deep.RegionLawGrows
import Derived.Test.YtggkbeppfpgkaaaGreatDoorIntSpec
namespace Go.Proofs.YtggkbeppfpgkaaaGreatDoor
open Go.RowKit Putlog

theorem lt_of_cell {W : World} {B i : Nat} {v : Value} (h : W.cell? ⟨B, i, none⟩ = some v) : B < W.heap.size := by
  rcases Nat.lt_or_ge B W.heap.size with h' | h'
  · exact h'
  · simp [World.cell?, Array.getElem?_eq_none h'] at h
theorem keptBelow {w w' : World} {b i : Nat} {v : Value} (h : Below w.heap.size w w') (hc : w.cell? ⟨b, i, none⟩ = some v) : w'.cell? ⟨b, i, none⟩ = some v := (h.cell (p := ⟨b, i, none⟩) (lt_of_cell hc)).trans hc
theorem cellA {W : World} {b i : Nat} {v : Value} (o : Obj) (h : W.cell? ⟨b, i, none⟩ = some v) : (W.alloc o).cell? ⟨b, i, none⟩ = some v := keptBelow ((Below.refl _ _).alloc (Nat.le_refl _) _) h
theorem belowVia {a b c : World} (k : Below b.heap.size b c) (h : Below a.heap.size a b) : Below a.heap.size a c := h.trans (k.mono h.size)
theorem below_drewN {B : Nat} {a w : World} (h : Below B a w) (n : Nat) : Below B a (w.drewN n) := ⟨h.os, h.tape, h.output, h.size, h.block⟩
theorem belowGrown {w w1 w2 : World} {v : Value} {e size n : Nat} {xs : List Value} (h : Below w.heap.size w w1) (hO : w1.ownsRow w.heap.size e size v n xs) (hg : w1.grownBy w2 v.ownBlock) : Below w.heap.size w w2 :=
  h.grown hg h.size fun k e => (hO.lt k e).1
/-- append to a slice that is nil or the call's own, as one step of a region. -/
theorem step_append_own {P : Program} {ops : Array Oper} {o : Oper} {a : Act} {w : World} {K : Act → World → Prop} {Q : Exit → Act → World → Prop} {E : Prop}
    (hg : o.guard = none) (s x : Operand) (t : TypeId) (hop : o.op = Op.call { callee := Callee.builtin Builtin.append, args := #[s, x], argTypes := #[t, t] })
    (base : Nat) (e : TypeId) (i : TypeInfo) (z : Value) (size bytes : Nat) (h1 : P.underlying t = some (.slice e)) (h2 : P.info? e = some i) (h3 : i.zero = some z) (h4 : i.size = size) (h5 : i.bytes = bytes) (h6 : z.cells.size = size) (h7 : 0 < size)
    (v : Value) (k : Nat) (xs : List Value) (hs : a.eval s = v) (hown : w.ownsRow base e size v k xs) (ad : Addr) (m c : Nat) (news : List Value) (hx : a.eval x = .slice (some ad) m c) (hn : news.length = m * size)
    (hc : ∀ j u, news[j]? = some u → w.cell? (ad.add j) = some u) (h1c : ∀ u ∈ news, u.oneCell' = true) (b1 : k + m ≤ maxLen) (b2 : (k + m) * bytes ≤ 140737488355328) (b3 : base ≤ w.heap.size)
    (hK : ∀ v' w', w'.ownsRow base e size v' (k + m) (xs ++ news) → w.grownBy w' v.ownBlock → K (a.put o.dst v') w') :
    if Region.wanted o (yielded ops a.tmps) = true then Oper.wp P o a w K Q else E := by
  have hw : Region.wanted o (yielded ops a.tmps) = true := by simp [Region.wanted, hg]
  rw [if_pos hw]
  obtain ⟨v', w', hrun, r1, r2, _⟩ := run_append_own (P := P) w base t o.type e i z size bytes h1 h2 h3 h4 h5 h6 h7 v k xs hown ad m c news hn hc h1c b1 b2 b3
  unfold Oper.wp
  simp [execOp, hop, resolve, invoke, builtin, hs, hx, hrun, Result.andThen]
  exact hK v' w' r1 r2
theorem ownsRow_below {w w' : World} {base e size n : Nat} {v : Value} {xs : List Value} (h : w.ownsRow base e size v n xs) (hB : Below w.heap.size w w') : w'.ownsRow base e size v n xs := by
  obtain ⟨h1, h2⟩ := h
  refine ⟨h1, ?_⟩
  rcases h2 with h2 | ⟨g, cap, cur, hv, hg, hh, r⟩
  · exact .inl h2
  · exact .inr ⟨g, cap, cur, hv, hg, (hB.block g (Array.getElem?_eq_some_iff.1 hh).1).trans hh, r⟩
theorem ownsRow_base {w : World} {B B' n : Nat} {t : TypeId} {v : Value} {xs : List Value} (h : w.ownsRow B' t 1 v n xs) (hb : B ≤ B') : w.ownsRow B t 1 v n xs := by
  obtain ⟨h1, h2⟩ := h
  refine ⟨h1, ?_⟩
  rcases h2 with h2 | ⟨g, cap, cur, hv, hg, r⟩
  · exact .inl h2
  · exact .inr ⟨g, cap, cur, hv, Nat.le_trans hb hg, r⟩
theorem ownsRow_form {w : World} {B n : Nat} {t : TypeId} {v : Value} {xs : List Value} (h : w.ownsRow B t 1 v n xs) : ∃ a c, v = .slice a n c ∧ n ≤ c ∧ (c : Int) ≤ 9223372036854775807 ∧ ((a = none ∧ c = 0) ∨ ∃ g, B ≤ g ∧ a = some ⟨g, 0, none⟩) ∧ ∀ j u, xs[j]? = some u → ∀ g, a = some ⟨g, 0, none⟩ → w.cell? ⟨g, j, none⟩ = some u := by
  obtain ⟨h0, hv | ⟨g, cap, cur, hv, hg, hh, h1, h2, h3, h4⟩⟩ := h
  · obtain ⟨h1, rfl⟩ := hv
    rw [h1]
    exact ⟨none, 0, rfl, Nat.le_refl _, by omega, .inl ⟨rfl, rfl⟩, fun j u hj => by simp at h0; subst h0; simp at hj⟩
  · refine ⟨some ⟨g, 0, none⟩, cap, hv, h1, by unfold maxLen at h2; omega, .inr ⟨g, hg, rfl⟩, fun j u hj g' e => ?_⟩
    obtain rfl : g = g' := by cases e; rfl
    rw [cell_of_row w g j cur _ (0, 0) hh]
    rw [Nat.mul_one] at h4 h0
    have hjn : j < n := by have := (List.getElem?_eq_some_iff.1 hj).1; omega
    have h5 : (cur.toList.take n)[j]? = xs[j]? := by rw [h4]
    rw [List.getElem?_take_of_lt hjn, Array.getElem?_toList] at h5
    rw [h5, hj]
theorem news_val (W : World) (v : Value) (t : TypeId) : ∀ j u, [v][j]? = some u → (W.alloc (.cells #[v] t)).cell? ((⟨W.heap.size, 0, none⟩ : Addr).add j) = some u
  | 0, u, h => by
    simp at h; subst h
    exact (cell_of_row (W.alloc (.cells #[v] t)) W.heap.size 0 #[v] t (0, 0) (heap_alloc_new W _)).trans rfl
  | j + 1, u, h => by simp at h
theorem one_int (k : IntKind) (r : Int) : ∀ u ∈ [Value.int k r], u.oneCell' = true := by intro u hu; simp at hu; subst hu; rfl
theorem app_b1 {n : Nat} (h : n ≤ 100000) : n + 1 ≤ maxLen := by unfold maxLen; omega
theorem app_b2 {n k : Nat} (h : n ≤ 100000) (hk : k ≤ 16) : (n + 1) * k ≤ 140737488355328 := by
  have : (n + 1) * k ≤ 100001 * 16 := Nat.mul_le_mul (by omega) hk
  omega
theorem app_b3 {w0 w1 : World} {t : TypeId} {cs : Array Value} (h1 : Below w0.heap.size w0 w1) : w0.heap.size ≤ (w1.alloc (.cells cs t)).heap.size := by
  have := h1.size; simp; omega

def slen : Value → Nat
  | .slice _ n _ => n
  | _ => 0
/-- Numbers, bytes, as values. -/
def i64l (l : List Nat) : List Value := l.map fun n : Nat => .int .i64 (n : Int)
def u8l (l : List UInt8) : List Value := l.map fun b => .int .u8 (b.toNat : Nat)
theorem i64l_snoc (l : List Nat) (b : Nat) : i64l (l ++ [b]) = i64l l ++ [.int .i64 (b : Nat)] := by simp [i64l]
theorem u8l_snoc (l : List UInt8) (b : UInt8) : u8l (l ++ [b]) = u8l l ++ [.int .u8 (b.toNat : Nat)] := by simp [u8l]
theorem i64l_get {l : List Nat} {j : Nat} (h : j < l.length) : (i64l l)[j]? = some (.int .i64 (l.getD j 0 : Nat)) := by simp [i64l, List.getD_eq_getElem?_getD, h]
theorem u8l_get {l : List UInt8} {j : Nat} (h : j < l.length) : (u8l l)[j]? = some (.int .u8 ((l.getD j 0).toNat : Nat)) := by simp [u8l, List.getD_eq_getElem?_getD, h]
/-- A slice of numbers: nil or a row at the head of a block. -/
def NumsAt (w : World) (v : Value) (l : List Nat) : Prop := ∃ a c, v = .slice a l.length c ∧ l.length ≤ c ∧ (c : Int) ≤ 9223372036854775807 ∧ ((a = none ∧ c = 0) ∨ ∃ g, a = some ⟨g, 0, none⟩ ∧ ∀ j, j < l.length → w.cell? ⟨g, j, none⟩ = some (.int .i64 (l.getD j 0 : Nat)))
theorem NumsAt.via {w w' : World} {v : Value} {l : List Nat} (hB : Below w.heap.size w w') (h : NumsAt w v l) : NumsAt w' v l := by
  obtain ⟨a, c, h1, h2, h3, h4⟩ := h
  refine ⟨a, c, h1, h2, h3, ?_⟩
  rcases h4 with h4 | ⟨g, h5, h6⟩
  · exact .inl h4
  · exact .inr ⟨g, h5, fun j hj => keptBelow hB (h6 j hj)⟩
theorem NumsAt.of_owns {w : World} {B : Nat} {t : TypeId} {v : Value} {l : List Nat} (h : w.ownsRow B t 1 v l.length (i64l l)) : NumsAt w v l := by
  obtain ⟨a, c, h1, h2, h3, h4, h5⟩ := ownsRow_form h
  refine ⟨a, c, h1, h2, h3, ?_⟩
  rcases h4 with h4 | ⟨g, _, h6⟩
  · exact .inl h4
  · exact .inr ⟨g, h6, fun j hj => h5 j _ (i64l_get hj) g h6⟩
theorem app_i64 {w wr w3 : World} {t : TypeId} {l : List Nat} {b : Nat} {v v' : Value} {o : Obj} (hO : wr.ownsRow w.heap.size t 1 v l.length (i64l l)) (hB : Below w.heap.size w wr)
    (hown : w3.ownsRow w.heap.size t 1 v' (l.length + 1) (i64l l ++ [.int .i64 (b : Nat)])) (hg : (wr.alloc o).grownBy w3 v.ownBlock) :
    w3.ownsRow w.heap.size t 1 v' (l ++ [b]).length (i64l (l ++ [b])) ∧ Below w.heap.size w w3 := by
  refine ⟨?_, belowGrown (hB.alloc hB.size o) (hO.alloc o) hg⟩
  rw [i64l_snoc, List.length_append]
  exact hown
theorem app_u8 {w wr w3 : World} {t : TypeId} {l : List UInt8} {b : UInt8} {v v' : Value} {o : Obj} (hO : wr.ownsRow w.heap.size t 1 v l.length (u8l l)) (hB : Below w.heap.size w wr)
    (hown : w3.ownsRow w.heap.size t 1 v' (l.length + 1) (u8l l ++ [.int .u8 (b.toNat : Nat)])) (hg : (wr.alloc o).grownBy w3 v.ownBlock) :
    w3.ownsRow w.heap.size t 1 v' (l ++ [b]).length (u8l (l ++ [b])) ∧ Below w.heap.size w w3 := by
  refine ⟨?_, belowGrown (hB.alloc hB.size o) (hO.alloc o) hg⟩
  rw [u8l_snoc, List.length_append]
  exact hown
theorem info_int : (Tryz.prog.info? 3).map (fun i => (i.zero, i.size, i.bytes)) = some (some (.int .i64 0), 1, 8) := by kernel_rfl
theorem info_byte : (Tryz.prog.info? 5).map (fun i => (i.zero, i.size, i.bytes)) = some (some (.int .u8 0), 1, 1) := by kernel_rfl
set_option maxRecDepth 100000 in
theorem convB (w : World) (g c : Nat) (bs : List UInt8) (hc : ∀ j, j < bs.length → w.cell? ⟨g, j, none⟩ = some (.int .u8 ((bs.getD j 0).toNat : Nat))) :
    (convert 72 9 (.slice (some ⟨g, 0, none⟩) bs.length c)).run Tryz.prog w = .ok (.string ⟨bs.toArray⟩) w := by
  have h := run_convert_bytes_arg (P := Tryz.prog) w 72 5 Tryz.underlying72 Tryz.underlying5 g 0 bs.length c (bs.map fun b => (b.toNat : Int)) (by simp) (fun i hi => by
    rw [Nat.zero_add, hc i hi]; simp [List.getD_eq_getElem?_getD, hi]) 9 Tryz.underlying9
  have hstr : strOfNums (bs.map fun b => (b.toNat : Int)) = ⟨bs.toArray⟩ := by
    unfold strOfNums
    rw [List.map_map]
    congr 2
    conv => rhs; rw [← List.map_id bs]
    apply List.map_congr_left
    intro x _
    simp
  rw [hstr] at h
  exact h
theorem owns_u8 {w : World} {B : Nat} {t : TypeId} {v : Value} {l : List UInt8} (h : w.ownsRow B t 1 v l.length (u8l l)) (h0 : 0 < l.length) : ∃ g c, v = .slice (some ⟨g, 0, none⟩) l.length c ∧ ∀ j, j < l.length → w.cell? ⟨g, j, none⟩ = some (.int .u8 ((l.getD j 0).toNat : Nat)) := by
  obtain ⟨a, c, h1, h2, h3, h4, h5⟩ := ownsRow_form h
  rcases h4 with ⟨_, h4⟩ | ⟨g, _, h6⟩
  · omega
  · exact ⟨g, c, by rw [h1, h6], fun j hj => h5 j _ (u8l_get hj) g h6⟩
end Go.Proofs.YtggkbeppfpgkaaaGreatDoor
