/- Several texts of layers 7 and 8, one behind the other: UntStdP. -/
import Derived.Test.YtcamncipkofgkaaDoorUM10
import Derived.Test.YtcamncipkofgkaaDoorUV1
/- UntStdP: Plain mathematics of UnitStands. -/
namespace Unt
open Pln
/-- How many of the first k corners are such. -/
def cnt (f : Pt → Bool) (l : List Pt) (k : Nat) : Nat := ((l.take k).filter f).length
theorem cnt_zero (f : Pt → Bool) (l : List Pt) : cnt f l 0 = 0 := rfl
theorem cnt_succ (f : Pt → Bool) {l : List Pt} {k : Nat} (h : k < l.length) : cnt f l (k + 1) = cnt f l k + if f (vx l k) = true then 1 else 0 := by
  unfold cnt
  rw [List.take_add_one, List.getElem?_eq_getElem h, vx_eq h, List.filter_append, List.length_append]
  congr 1
  cases hf : f l[k] <;> simp [hf]
theorem cnt_le (f : Pt → Bool) (l : List Pt) (k : Nat) : cnt f l k ≤ k := by
  unfold cnt
  have := List.length_filter_le f (l.take k)
  rw [List.length_take] at this
  omega
theorem cnt_all (f : Pt → Bool) (l : List Pt) : cnt f l l.length = (l.filter f).length := by
  unfold cnt; rw [List.take_length]
theorem nodup_inj {α : Type} : ∀ {l : List α} {i j : Nat} {hi : i < l.length} {hj : j < l.length}, l.Nodup → l[i] = l[j] → i = j
  | x :: l, 0, 0, _, _, _, _ => rfl
  | x :: l, 0, j + 1, _, hj, hn, e => absurd (by simp at e; rw [e]; exact List.getElem_mem _) (List.nodup_cons.1 hn).1
  | x :: l, i + 1, 0, hi, _, hn, e => absurd (by simp at e; rw [← e]; exact List.getElem_mem _) (List.nodup_cons.1 hn).1
  | x :: l, i + 1, j + 1, _, _, hn, e => congrArg (· + 1) (nodup_inj (List.nodup_cons.1 hn).2 (by simpa using e))
def zeroY (p : Pt) : Bool := decide (p.2 = 0)
def endB (P Q : Pt) (p : Pt) : Bool := decide (p = P) || decide (p = Q)
theorem nodup_val {l : List Pt} (v : Val l) : l.Nodup := nodup_of fun i hi j hj e => v.inj hi hj e
theorem low_mem {l : List Pt} {p : Pt} : p ∈ lowP l ↔ p ∈ l ∧ p.2 = 0 := by
  unfold lowP; rw [List.mem_filter, decide_eq_true_eq]
theorem low_two {l : List Pt} (v : Val l) : (lowP l).length ≤ 2 := by
  rcases Nat.lt_or_ge 2 (lowP l).length with h | h
  · exfalso
    have hn : (lowP l).Nodup := (nodup_val v).filter _
    have m : ∀ i, i < 3 → ∃ j, j < l.length ∧ vx l j = vx (lowP l) i ∧ (vx l j).2 = 0 := fun i hi => by
      have := low_mem.1 (vx_mem (l := lowP l) (i := i) (by omega))
      obtain ⟨j, hj, e⟩ := mem_vx this.1
      exact ⟨j, hj, e, by rw [e]; exact this.2⟩
    have d : ∀ i j, i < 3 → j < 3 → i ≠ j → vx (lowP l) i ≠ vx (lowP l) j := fun i j hi hj hne e => by
      rw [vx_eq (by omega : i < (lowP l).length), vx_eq (by omega : j < (lowP l).length)] at e
      exact hne (nodup_inj hn e)
    obtain ⟨a, ha, ea, ya⟩ := m 0 (by omega)
    obtain ⟨b, hb, eb, yb⟩ := m 1 (by omega)
    obtain ⟨c, hc, ec, yc⟩ := m 2 (by omega)
    have n1 : a ≠ b := fun e => d 0 1 (by omega) (by omega) (by omega) (by rw [← ea, ← eb, e])
    have n2 : a ≠ c := fun e => d 0 2 (by omega) (by omega) (by omega) (by rw [← ea, ← ec, e])
    have n3 : b ≠ c := fun e => d 1 2 (by omega) (by omega) (by omega) (by rw [← eb, ← ec, e])
    rcases Nat.lt_or_ge a b with h1 | h1 <;> rcases Nat.lt_or_ge b c with h2 | h2 <;> rcases Nat.lt_or_ge a c with h3 | h3
    · exact no_three v h1 h2 hc 0 ya yb yc
    · omega
    · exact no_three v h3 (by omega) hb 0 ya yc yb
    · exact no_three v (by omega : c < a) h1 hb 0 yc ya yb
    · exact no_three v (by omega : b < a) h3 hc 0 yb ya yc
    · exact no_three v h2 (by omega : c < a) ha 0 yb yc ya
    · omega
    · exact no_three v (by omega : c < b) (by omega : b < a) ha 0 yc yb ya
  · exact h
structure EndF (l : List Pt) (P Q : Pt) : Prop where
  p0 : P.2 = 0
  q0 : Q.2 = 0
  lt : P.1 < Q.1
  two : (l.filter (endB P Q)).length = 2
theorem std_two {u : U} (v : ValU u) (h : (lowP u.shape).length = 2) : ∃ P Q, stdU u = some (P, Q) ∧ EndF u.shape P Q := by
  have hn : (lowP u.shape).Nodup := (nodup_val v.v).filter _
  match hl : lowP u.shape, h with
  | [a, b], _ =>
    have ma := (low_mem (l := u.shape) (p := a)).1 (by rw [hl]; simp)
    have mb := (low_mem (l := u.shape) (p := b)).1 (by rw [hl]; simp)
    have hne : a ≠ b := by rw [hl] at hn; simpa using hn
    have hx : a.1 ≠ b.1 := fun e => hne (Prod.ext e (by rw [ma.2, mb.2]))
    have hs : stdU u = some (ordP a b) := by
      unfold stdU
      rw [if_pos ((valU_iff u).2 v), hl, if_neg (by simp)]
      rfl
    have ha : ∀ p ∈ u.shape, zeroY p = endB a b p := fun p hp => by
      have h1 : p ∈ lowP u.shape ↔ p.2 = 0 := by rw [low_mem]; exact ⟨fun h => h.2, fun h => ⟨hp, h⟩⟩
      rw [hl] at h1
      simp only [List.mem_cons, List.not_mem_nil, or_false] at h1
      unfold zeroY endB
      by_cases e : p.2 = 0
      · rw [decide_eq_true e]
        rcases h1.2 e with rfl | rfl <;> simp
      · rw [decide_eq_false e, decide_eq_false (fun e' => e (h1.1 (.inl e'))), decide_eq_false (fun e' => e (h1.1 (.inr e')))]
        rfl
    have h2 : (u.shape.filter (endB a b)).length = 2 := by
      rw [← List.filter_congr ha]
      show (lowP u.shape).length = 2
      rw [hl]; rfl
    unfold ordP at hs
    by_cases hg : a.1 > b.1
    · rw [if_pos hg] at hs
      refine ⟨b, a, hs, mb.2, ma.2, hg, ?_⟩
      rw [← h2]
      congr 2
      funext p
      unfold endB; rw [Bool.or_comm]
    · rw [if_neg hg] at hs
      exact ⟨a, b, hs, ma.2, mb.2, by omega, h2⟩
theorem std_less {u : U} (h : (lowP u.shape).length < 2) : stdU u = none := by
  unfold stdU
  by_cases hv : valU u = true
  · rw [if_pos hv, if_pos h]
  · rw [if_neg hv]
theorem std_up {u : U} {K : Int} (v : ValU u) (hK : 1 ≤ K) : stdU (mvU u 0 K) = none := by
  refine std_less ?_
  have : lowP (mvU u 0 K).shape = [] := by
    apply List.eq_nil_iff_forall_not_mem.2
    intro p hp
    obtain ⟨h1, h2⟩ := low_mem.1 hp
    obtain ⟨i, hi, rfl⟩ := mem_vx h1
    have hi' : i < u.shape.length := by
      have : (mvU u 0 K).shape.length = u.shape.length := shf_len _ _ _
      omega
    have e : vx (mvU u 0 K).shape i = mv 0 K (vx u.shape i) := shf_vx hi'
    rw [e] at h2
    have := (v.v.on i hi').y0
    unfold mv at h2
    dsimp only at h2
    omega
  rw [this]
  exact Nat.zero_lt_two
/-- The ground under a unit: it can be moved down to it. -/
theorem mov_down {u : U} {L : Int} (v : ValU u) (h0 : 0 ≤ L) (hL : ∀ i, i < u.shape.length → L ≤ (vx u.shape i).2) : movU u 0 (-L) = some (mvU u 0 (-L)) := by
  unfold movU
  rw [if_pos ((valU_iff u).2 v), move_eq v.v]
  have : offB u.shape 0 (-L) u.shape.length = false := (offB_iff _ _ _ _).2 fun i hi => by
    have ho := v.v.on i hi
    have := hL i hi
    have := ho.x0; have := ho.x1; have := ho.y0; have := ho.y1
    exact (onB_iff _).2 ⟨by simp [mv]; omega, by simp [mv]; omega, by simp [mv]; omega, by simp [mv]; omega⟩
  rw [this]
  rfl
end Unt
namespace Go.Proofs.YtcamncipkofgkaaDoor
open Go.RowKit Go.Shelf Pln Unt
/-- What Move returned of a unit with the head of u: nothing, or the unit g, moved up. -/
def MvG (u g : U) (K : Int) (w : World) (i kd m : Int) (a : Option Addr) (n k : Nat) (bk f er : Int) : Prop :=
  (i = 0 ∧ kd = 0 ∧ m = 0 ∧ a = none ∧ n = 0 ∧ k = 0 ∧ bk = 0 ∧ f = 0 ∧ er = 80) ∨
  (i = u.id ∧ kd = u.kind ∧ m = u.mat ∧ n = u.shape.length ∧ bk = u.back ∧ f = u.front ∧ er = 0 ∧ UAt w (.slice a n k) (mvU g 0 K))
theorem MvG.via {u g : U} {K : Int} {w w' : World} {i kd m : Int} {a : Option Addr} {n k : Nat} {bk f er : Int} (h : MvG u g K w i kd m a n k bk f er) (hB : Below w.heap.size w w') : MvG u g K w' i kd m a n k bk f er := by
  rcases h with h | ⟨h1, h2, h3, h4, h5, h6, h7, h8⟩
  · exact .inl h
  · exact .inr ⟨h1, h2, h3, h4, h5, h6, h7, h8.via hB⟩
theorem MvG.sets {u g : U} {K : Int} {w : World} {i kd m : Int} {a : Option Addr} {n k : Nat} {bk f er : Int} (h : MvG u g K w i kd m a n k bk f er) (hl : 3 ≤ (mvU g 0 K).shape.length) {b : Nat} {x0 x1 x2 x4 x5 y0 y1 y2 y3 y4 y5 : Value} {a' : Option Addr} {n' c' : Nat} {t : TypeId} {fr : Nat × Nat} (hb : w.heap[b]? = some (.cells #[x0, x1, x2, .slice a' n' c', x4, x5] t fr)) :
    MvG u g K (((((((w.setCell ⟨b, 0, none⟩ (y0)).setCell ⟨b, 1, none⟩ (y1)).setCell ⟨b, 2, none⟩ (y2)).setCell ⟨b, 3, none⟩ (y3)).setCell ⟨b, 4, none⟩ (y4)).setCell ⟨b, 5, none⟩ (y5))) i kd m a n k bk f er := by
  rcases h with h | ⟨h1, h2, h3, h4, h5, h6, h7, h8⟩
  · exact .inl h
  · refine .inr ⟨h1, h2, h3, h4, h5, h6, h7, h8.ok, ?_⟩
    have hp := h8.at_
    obtain ⟨⟨a0, c0, he, _, _, hin⟩, _⟩ := h8.at_
    rcases hin with hin | ⟨g', o, rfl, _⟩
    · rw [hin] at hl; simp at hl
    · cases he
      exact pts_sets hp (fun j hj => by cases hj; exact pts_apart hp hl hb)
theorem moveG {u : U} {L K : Int} (vg : ValU (mvU u 0 (-L))) (hx : I64 K) (s : Value) (w : World) (h1 : UAt w s (mvU u 0 (-L))) :
    Calls Tryd.prog 30 #[uv (mvU u 0 (-L)) s, .int .i64 0, .int .i64 K] w fun e w' => ∃ i kd m a n k bk f er, e = .returned (.tuple #[.agg #[.int .i64 i, .int .i64 kd, .int .i64 m, .slice a n k, .int .i64 bk, .int .i64 f], .int .i64 er]) ∧ MvG u (mvU u 0 (-L)) K w' i kd m a n k bk f er ∧ Below w.heap.size w w' := by
  have hlen : (mvU u 0 (-L)).shape.length = u.shape.length := shf_len _ _ _
  rcases hm : movU (mvU u 0 (-L)) 0 K with _ | c
  · refine (moveU_w _ s 0 K ⟨by omega, by omega⟩ hx w h1).mono ?_
    rintro e w' (⟨m, r, h', _⟩ | ⟨_, rfl, hB⟩)
    · rw [hm] at h'; cases h'
    · exact ⟨0, 0, 0, none, 0, 0, 0, 0, 80, rfl, .inl ⟨rfl, rfl, rfl, rfl, rfl, rfl, rfl, rfl, rfl⟩, hB⟩
  · obtain ⟨rfl, vc⟩ := mov_some vg hm
    refine (moveU_w _ s 0 K ⟨by omega, by omega⟩ hx w h1).mono ?_
    rintro e w' (⟨m, r, h', rfl, hp, hB⟩ | ⟨h', _⟩)
    · rw [hm] at h'
      cases h'
      obtain ⟨a, k, rfl⟩ : ∃ a k, r = .slice a u.shape.length k := by
        obtain ⟨⟨a, k, h, _⟩, _⟩ := hp
        refine ⟨a, k, ?_⟩
        rw [h]
        show Value.slice a (shf (mvU u 0 (-L)).shape 0 K).length k = _
        rw [shf_len, hlen]
      exact ⟨u.id, u.kind, u.mat, a, u.shape.length, k, u.back, u.front, 0, rfl, .inr ⟨rfl, rfl, rfl, rfl, rfl, rfl, rfl, valU_ok vc, hp⟩, hB⟩
    · rw [hm] at h'; cases h'
theorem stands_none {u : U} {s : Value} {w : World} (h : UAt w s u) (hs : stdU u = none) : Calls Tryd.prog 15 #[uv u s] w fun e w' => e = .returned (.tuple #[.agg #[.int .i64 0, .int .i64 0, .int .i64 0, .int .i64 0, .int .i64 0, .int .i64 0, .int .i64 0, .int .i64 0], .bool false]) ∧ Below w.heap.size w w' := by
  have hc := stands_w u s w h
  have : stdV u = .tuple #[.agg #[.int .i64 0, .int .i64 0, .int .i64 0, .int .i64 0, .int .i64 0, .int .i64 0, .int .i64 0, .int .i64 0], .bool false] := by unfold stdV; rw [hs]; rfl
  rwa [this] at hc
theorem stands_some {u : U} {s : Value} {w : World} {P1 P2 Q1 Q2 : Int} (h : UAt w s u) (hs : stdU u = some ((P1, P2), (Q1, Q2))) : Calls Tryd.prog 15 #[uv u s] w fun e w' => e = .returned (.tuple #[.agg #[.int .i64 u.id, .int .i64 (-1), .int .i64 P1, .int .i64 P2, .int .i64 Q1, .int .i64 Q2, .int .i64 u.back, .int .i64 u.front], .bool true]) ∧ Below w.heap.size w w' := by
  have hc := stands_w u s w h
  have : stdV u = .tuple #[.agg #[.int .i64 u.id, .int .i64 (-1), .int .i64 P1, .int .i64 P2, .int .i64 Q1, .int .i64 Q2, .int .i64 u.back, .int .i64 u.front], .bool true] := by unfold stdV; rw [hs]; rfl
  rwa [this] at hc
set_option maxRecDepth 100000 in
/-- Stands of what Move returned. -/
theorem stands_moved {u g : U} {K : Int} {w : World} {i kd m : Int} {a : Option Addr} {n k : Nat} {bk f er : Int} (vg : ValU g) (hK : 1 ≤ K) (h : MvG u g K w i kd m a n k bk f er) (hid : g.id = u.id) (hkd : g.kind = u.kind) (hmt : g.mat = u.mat) (hbk : g.back = u.back) (hf : g.front = u.front) :
    Calls Tryd.prog 15 #[.agg #[.int .i64 i, .int .i64 kd, .int .i64 m, .slice a n k, .int .i64 bk, .int .i64 f]] w fun e w' => e = .returned (.tuple #[.agg #[.int .i64 0, .int .i64 0, .int .i64 0, .int .i64 0, .int .i64 0, .int .i64 0, .int .i64 0, .int .i64 0], .bool false]) ∧ Below w.heap.size w w' := by
  rcases h with ⟨rfl, rfl, rfl, rfl, rfl, rfl, rfl, rfl, rfl⟩ | ⟨rfl, rfl, rfl, rfl, rfl, rfl, rfl, h⟩
  · have hz : UAt w (.slice none 0 0) ⟨0, 0, 0, [], 0, 0⟩ := ⟨⟨⟨by decide, by decide⟩, ⟨by decide, by decide⟩, ⟨by decide, by decide⟩, ⟨by decide, by decide⟩, ⟨by decide, by decide⟩, by unfold Len; simp⟩, ⟨⟨none, 0, rfl, Nat.le_refl _, by omega, .inl rfl⟩, fun r hr => by cases hr⟩⟩
    have := stands_none hz (std_less (by show (0 : Nat) < 2; omega))
    unfold uv at this
    dsimp only at this
    exact this
  · have := stands_none h (std_up vg hK)
    unfold uv at this
    have e : (mvU g 0 K).id = u.id := hid
    have e2 : (mvU g 0 K).kind = u.kind := hkd
    have e3 : (mvU g 0 K).mat = u.mat := hmt
    have e4 : (mvU g 0 K).back = u.back := hbk
    have e5 : (mvU g 0 K).front = u.front := hf
    rw [e, e2, e3, e4, e5] at this
    exact this
end Go.Proofs.YtcamncipkofgkaaDoor
namespace Go.Proofs.YtcamncipkofgkaaDoor
open Go.RowKit Go.Shelf Pln Unt
theorem stands_g {u : U} {L : Int} {s : Value} {w : World} {P1 P2 Q1 Q2 : Int} (h : UAt w s (mvU u 0 (-L))) (hs : stdU (mvU u 0 (-L)) = some ((P1, P2), (Q1, Q2))) : Calls Tryd.prog 15 #[uv (mvU u 0 (-L)) s] w fun e w' => e = .returned (.tuple #[.agg #[.int .i64 u.id, .int .i64 (-1), .int .i64 P1, .int .i64 P2, .int .i64 Q1, .int .i64 Q2, .int .i64 u.back, .int .i64 u.front], .bool true]) ∧ Below w.heap.size w w' := stands_some h hs
end Go.Proofs.YtcamncipkofgkaaDoor
