/- Several texts of layers 3 and 4, one behind the other: LinMoreC, LinMoreK, RegionW, IntTen, IntRefKit, IntRefPlus, IntRefDiv, IntRefRead, IntRefOps, IntRefInts, LinMore. -/
import Derived.Deep.DeepCutAuto
import Derived.Test.YtofmjkgaaphnkaaGreatDoorLP7
/- LinMoreC: The calls of LinearMore, on the systems that it makes. -/
namespace Go.Proofs.YtofmjkgaaphnkaaGreatDoor
open Go.RowKit Putlog

theorem answers_T {x : NumX} {row : List Int} {v : Int} (hv : -50 ≤ v ∧ v ≤ 50) (a : Option Addr) (ca : Nat) (W : World) (hs : SysM W (moreT x row v) a ca) (hT : TabP W ∧ TabB W) :
  Calls Tryz.prog 14 #[.agg #[.int .i64 (x.n : Nat), .slice a (x.m + 1) ca]] W fun e w' => (∃ v', e = .returned (.tuple #[v', .int .i64 0]) ∧ AnsP (moreT x row v) W.heap.size w' v') ∧ Below W.heap.size W w' := by
 have h := solve_c (moreT x row v) a ca W hs (moreT_valid x row hv) (by rw [moreT_len]; have := x.m_bounds; omega) hT.1 hT.2
 rw [moreT_len] at h
 exact h
theorem answers_U {x : NumX} {col : List Int} (a : Option Addr) (ca : Nat) (W : World) (hs : SysM W (moreU x col) a ca) (hT : TabP W ∧ TabB W) :
  Calls Tryz.prog 14 #[.agg #[.int .i64 (((x.n : Nat) : Int) + 1), .slice a x.m ca]] W fun e w' => (∃ v', e = .returned (.tuple #[v', .int .i64 0]) ∧ AnsP (moreU x col) W.heap.size w' v') ∧ Below W.heap.size W w' := by
 have h := solve_c (moreU x col) a ca W hs (moreU_valid x col) (by rw [moreU_len]; have := x.m_bounds; omega) hT.1 hT.2
 rw [moreU_len] at h
 exact h
/-- Check of s and a solution of t. -/
theorem check_T {x : NumX} {row : List Int} {v : Int} {a : Option Addr} {ca q cb : Nat} {l : List Int} {d : Int} (W : World) (hs : SysM W (madeS x) a ca) (hb : BlkB 9 q (strV (l.map intB ++ [intB d])) W) (hl : ∀ z ∈ l, z.natAbs < L100) (hd : d.natAbs < L100) (h : SolP (moreT x row v) l d) (hcb : x.n ≤ cb ∧ cb ≤ 1000) :
  Calls Tryz.prog 19 #[.agg #[.int .i64 (x.n : Nat), .slice a x.m ca], .agg #[.slice (some ⟨q, 0, none⟩) x.n cb, .string (intB d)]] W fun e w' => e = .returned (.bool true) ∧ Below W.heap.size W w' := by
 have hlen : l.length = x.n := by have h1 := h.len; have h2 : (moreT x row v).cols = (x.n : Nat) := rfl; omega
 have hck : checkS (madeS x) ⟨l.map intB, intB d⟩ = true := check_iff.2 ⟨made_valid x, l, d, rfl, hl, hd, moreT_sol h⟩
 have h := check_c (madeS x) a ca ⟨l.map intB, intB d⟩ (some ⟨q, 0, none⟩) cb W hs (vec_blk hb (by rw [List.length_map]; omega) (by omega) (sized_fits (fits_100 hd)) (sized_ints hl))
 rw [hck, made_rows] at h
 have e1 : (⟨l.map intB, intB d⟩ : VecP).nums.length = x.n := by show (l.map intB).length = x.n; rw [List.length_map]; exact hlen
 rw [e1] at h
 exact h
/-- Refutes of s and what refutes u. -/
theorem refutes_U {x : NumX} {col : List Int} {a : Option Addr} {ca q : Nat} {l : List Int} (W : World) (hs : SysM W (madeS x) a ca) (hb : BlkB 9 q (strV (l.map intB)) W) (hl : ∀ z ∈ l, z.natAbs < L100) (h : RefP (moreU x col) l) :
  Calls Tryz.prog 28 #[.agg #[.int .i64 (x.n : Nat), .slice a x.m ca], .slice (some ⟨q, 0, none⟩) x.m x.m] W fun e w' => e = .returned (.bool true) ∧ Below W.heap.size W w' := by
 have hlen : l.length = x.m := by have h1 := h.len; rw [moreU_len] at h1; exact h1
 have hck : refS (madeS x) (l.map intB) = true := ref_iff.2 ⟨made_valid x, l, rfl, hl, moreU_ref h⟩
 have h := refutes_c (madeS x) a ca (l.map intB) (some ⟨q, 0, none⟩) x.m W hs (wts_blk hb (by rw [List.length_map]; omega) (by have := x.m_bounds; omega) (sized_ints hl))
 rw [hck, made_rows] at h
 have e1 : (l.map intB).length = x.m := by rw [List.length_map]; exact hlen
 rw [e1] at h
 exact h
theorem own_t {B n : Nat} {w : World} {L : List RowX} {a : Option Addr} {c : Nat} (h : SysO B w L (.slice a n c)) (_hl : L.length = n) : SysO B w L (.slice a n c) := h
theorem strV_lenM (l : List Int) : (strV (l.map intB)).length = l.length := by simp [strV]
theorem strs_news {w : World} {g : Nat} {l : List Value} {t : TypeId} (h : BlkB t g l w) : ∀ j u, l[j]? = some u → w.cell? ((⟨g, 0, none⟩ : Addr).add j) = some u := fun j u hu => by
 rw [add_plain, Nat.zero_add]; exact h.cell hu
theorem strs_newsL {w : World} {g : Nat} {l m : List ByteArray} {t : TypeId} (h : BlkB t g (strV (l ++ m)) w) : ∀ j u, (strV l)[j]? = some u → w.cell? ((⟨g, 0, none⟩ : Addr).add j) = some u := fun j u hu => by
 rw [add_plain, Nat.zero_add]
 refine h.cell ?_
 have e : strV (l ++ m) = strV l ++ strV m := by simp [strV]
 rw [e, List.getElem?_append_left (List.getElem?_eq_some_iff.1 hu).1, hu]
theorem str_ne_vec : (9 : TypeId) ≠ 30 := by decide
theorem there_two {w : World} {p : Nat} {u z : Value} {t : TypeId} (h : BlkB t p [u, z] w) : w.there p 0 2 := fun j hj => by
 rw [Nat.zero_add]
 exact ⟨by rw [h.cell (i := j) (List.getElem?_eq_getElem (by simpa using hj))]; rfl, h.froz j⟩
theorem one_vec (a : Option Addr) (n c : Nat) (s : ByteArray) : ∀ u ∈ [Value.slice a n c, .string s], u.oneCell' = true := by intro u hu; simp at hu; rcases hu with rfl | rfl <;> rfl
theorem setCells_two (w : World) (p : Nat) (x y : Value) : w.setCells p 0 [x, y] = (w.setCell ⟨p, 0, none⟩ x).setCell ⟨p, 1, none⟩ y := rfl
theorem blk_one (w : World) (x : Value) (t : TypeId) : BlkB t w.heap.size [x] (w.alloc (.cells #[x] t)) := heap_alloc_new w _
theorem one_strV (l : List ByteArray) : ∀ u ∈ strV l, u.oneCell' = true := fun u hu => by
 obtain ⟨z, _, rfl⟩ := List.mem_map.1 hu
 rfl
theorem news_strC (w : World) (z : ByteArray) : ∀ j u, [Value.string z][j]? = some u → (w.alloc (.cells #[.string z] 9)).cell? ((⟨w.heap.size, 0, none⟩ : Addr).add j) = some u := news_val w (.string z) 9
theorem intB_0 : intB 0 = ⟨#[48]⟩ := intB_zero
theorem own_strs {w : World} {B n : Nat} {t : TypeId} {a : Option Addr} {c : Nat} {l : List ByteArray} (h : w.ownsRow B t 1 (.slice a n c) n (strV l)) : StrsFrom w a l ∧ n ≤ c ∧ (c : Int) ≤ 9223372036854775807 := by
 obtain ⟨a', c', hv, h1, h2, h3⟩ := own_cells h
 cases hv
 refine ⟨?_, h1, h2⟩
 rcases h3 with h3 | ⟨g, e, _, _, hc⟩
 ·left; simpa [strV] using h3
 ·refine .inr ⟨g, 0, e, fun j hj => ?_⟩
  rw [Nat.zero_add]
  refine hc j _ ?_
  unfold strV
  rw [List.getElem?_map, List.getElem?_eq_getElem hj, List.getD_eq_getElem?_getD, List.getElem?_eq_getElem hj]; rfl
theorem zero_100 {l : List Int} (h : ∀ z ∈ l, z.natAbs < L100) : ∀ z ∈ l ++ [0], z.natAbs < L100 := fun z hz => by
 rcases List.mem_append.1 hz with hz | hz
 ·exact h z hz
 ·rw [List.mem_singleton] at hz; subst hz; decide
/-- Refutes of t and the weights of s with a further 0. -/
theorem refutes_T {x : NumX} {row : List Int} {v : Int} (hv : -50 ≤ v ∧ v ≤ 50) {a b : Option Addr} {ca cb B : Nat} {l : List Int} (W : World) (hs : SysM W (moreT x row v) a ca) (hb : W.ownsRow B 9 1 (.slice b (x.m + 1) cb) (x.m + 1) (strV (l.map intB) ++ [.string ⟨#[48]⟩])) (hl : ∀ z ∈ l, z.natAbs < L100) (h : RefP (madeS x) l) :
  Calls Tryz.prog 28 #[.agg #[.int .i64 (x.n : Nat), .slice a (x.m + 1) ca], .slice b (x.m + 1) cb] W fun e w' => e = .returned (.bool true) ∧ Below W.heap.size W w' := by
 have hlen : l.length = x.m := by have h1 := h.len; rw [made_rows] at h1; exact h1
 have hck : refS (moreT x row v) ((l ++ [0]).map intB) = true := ref_iff.2 ⟨moreT_valid x row hv, l ++ [0], rfl, zero_100 hl, moreT_ref h⟩
 have hb' : W.ownsRow B 9 1 (.slice b (x.m + 1) cb) (x.m + 1) (strV ((l ++ [0]).map intB)) := by
  have e : strV ((l ++ [0]).map intB) = strV (l.map intB) ++ [.string ⟨#[48]⟩] := by rw [← intB_0]; simp [strV]
  rw [e]; exact hb
 obtain ⟨k1, k2, k3⟩ := own_strs hb'
 have hll : ((l ++ [0]).map intB).length = x.m + 1 := by simp [hlen]
 have h := refutes_c (moreT x row v) a ca ((l ++ [0]).map intB) b cb W hs ⟨k1, by rw [hll]; exact k2, k3, sized_ints (zero_100 hl)⟩
 rw [hck, moreT_len, hll] at h
 exact h
/-- Check of u and the solution of s with a further 0. -/
theorem check_U {x : NumX} {col : List Int} {a b : Option Addr} {ca cb B : Nat} {l : List Int} {d : Int} (W : World) (hs : SysM W (moreU x col) a ca) (hb : W.ownsRow B 9 1 (.slice b (x.n + 1) cb) (x.n + 1) (strV (l.map intB) ++ [.string ⟨#[48]⟩])) (hl : ∀ z ∈ l, z.natAbs < L100) (hd : d.natAbs < L100) (h : SolP (madeS x) l d) :
  Calls Tryz.prog 19 #[.agg #[.int .i64 (((x.n : Nat) : Int) + 1), .slice a x.m ca], .agg #[.slice b (x.n + 1) cb, .string (intB d)]] W fun e w' => e = .returned (.bool true) ∧ Below W.heap.size W w' := by
 have hlen : l.length = x.n := by have h1 := h.len; have h2 : (madeS x).cols = (x.n : Nat) := rfl; omega
 have hck : checkS (moreU x col) ⟨(l ++ [0]).map intB, intB d⟩ = true := check_iff.2 ⟨moreU_valid x col, l ++ [0], d, rfl, zero_100 hl, hd, moreU_sol h⟩
 have hb' : W.ownsRow B 9 1 (.slice b (x.n + 1) cb) (x.n + 1) (strV ((l ++ [0]).map intB)) := by
  have e : strV ((l ++ [0]).map intB) = strV (l.map intB) ++ [.string ⟨#[48]⟩] := by rw [← intB_0]; simp [strV]
  rw [e]; exact hb
 obtain ⟨k1, k2, k3⟩ := own_strs hb'
 have hll : ((l ++ [0]).map intB).length = x.n + 1 := by simp [hlen]
 have h := check_c (moreU x col) a ca ⟨(l ++ [0]).map intB, intB d⟩ b cb W hs ⟨k1, by show ((l ++ [0]).map intB).length ≤ cb; rw [hll]; exact k2, k3, sized_fits (fits_100 hd), sized_ints (zero_100 hl)⟩
 have e1 : (⟨(l ++ [0]).map intB, intB d⟩ : VecP).nums.length = x.n + 1 := hll
 rw [hck, moreU_len, e1] at h
 exact h
end Go.Proofs.YtofmjkgaaphnkaaGreatDoor
/- LinMoreK: LinearMore's longer vector: what stands while it is made (a region that draws its order). -/
namespace Go.Proofs.YtofmjkgaaphnkaaGreatDoor
open Go.RowKit Putlog
/-- W: the world at the law's start, N: the world ahead of the region, w: the world under way; pa: the answer's box, q: the block of its numbers. -/
structure VecW (W N : World) (pa q : Nat) (u1 u2 : Value) (cs : List Value) (w : World) : Prop where
 k : KeepN N.heap.size N w
 b : Below W.heap.size W w
 z : N.heap.size ≤ w.heap.size
 s : w.cell? ⟨pa, 1, none⟩ = some u1 ∧ w.cell? ⟨pa, 2, none⟩ = some u2
 bq : BlkB 9 q cs w
 pn : pa < N.heap.size
 qn : q < N.heap.size
 wz : W.heap.size ≤ N.heap.size
section
variable {W N w w' : World} {pa q : Nat} {u1 u2 : Value} {cs : List Value}
theorem VecW.start (h1 : N.cell? ⟨pa, 1, none⟩ = some u1) (h2 : N.cell? ⟨pa, 2, none⟩ = some u2) (hb : BlkB 9 q cs N) (hW : Below W.heap.size W N) : VecW W N pa q u1 u2 cs N.drew :=
 have hD : Below N.heap.size N N.drew := (Below.refl N.heap.size N).drew
 ⟨KeepN.below hD (Nat.le_refl _), belowVia hD hW, hD.size, ⟨keptBelow hD h1, keptBelow hD h2⟩, hb.via hD, lt_of_cell h1, hb.lt, hW.size⟩
theorem VecW.below (h : VecW W N pa q u1 u2 cs w) (hB : Below w.heap.size w w') : VecW W N pa q u1 u2 cs w' :=
 ⟨h.k.trans (KeepN.below hB h.z), belowVia hB h.b, Nat.le_trans h.z hB.size, ⟨keptBelow hB h.s.1, keptBelow hB h.s.2⟩, h.bq.via hB, h.pn, h.qn, h.wz⟩
theorem VecW.grown (h : VecW W N pa q u1 u2 cs w) {v : Value} {t : TypeId} {sz n : Nat} {xs : List Value} (ho : w.ownsRow N.heap.size t sz v n xs) (hg : w.grownBy w' v.ownBlock) : VecW W N pa q u1 u2 cs w' :=
 have hk : KeepN N.heap.size w w' := KeepN.grown hg h.z (fun p e => (own_lt ho p e).1)
 ⟨h.k.trans hk, h.b.grown hg h.b.size (fun p e => Nat.le_trans h.wz (own_lt ho p e).1), Nat.le_trans h.z hg.size, ⟨cell_keepN hk h.s.1 h.pn, cell_keepN hk h.s.2 h.pn⟩, hk.blk h.bq h.qn, h.pn, h.qn, h.wz⟩
theorem VecW.stored (h : VecW W N pa q u1 u2 cs w) {v6 s6 a b : Value} {n p : Nat} {xs : List Value} (ho : w.ownsRow N.heap.size 9 1 v6 n xs) (hb : BlkB 30 p [a, b] w) (hp : N.heap.size ≤ p) :
  BlkB 30 p [v6, s6] ((w.setCell ⟨p, 0, none⟩ v6).setCell ⟨p, 1, none⟩ s6) ∧ ((w.setCell ⟨p, 0, none⟩ v6).setCell ⟨p, 1, none⟩ s6).ownsRow N.heap.size 9 1 v6 n xs ∧ KeepN N.heap.size N ((w.setCell ⟨p, 0, none⟩ v6).setCell ⟨p, 1, none⟩ s6) ∧ Below W.heap.size W ((w.setCell ⟨p, 0, none⟩ v6).setCell ⟨p, 1, none⟩ s6) ∧ N.heap.size ≤ ((w.setCell ⟨p, 0, none⟩ v6).setCell ⟨p, 1, none⟩ s6).heap.size := by
 have hne : ∀ k, v6.ownBlock = some k → p ≠ k := fun k e e2 => own_box ho hb str_ne_vec k e e2.symm
 have hwp : W.heap.size ≤ p := Nat.le_trans h.wz hp
 exact ⟨(hb.set 0 v6).set 1 s6, own_set (own_set ho hne) hne, h.k.trans ((KeepN.set w hp 0 v6).trans (KeepN.set _ hp 1 s6)), (h.b.setCell (p := ⟨p, 0, none⟩) hwp v6).setCell (p := ⟨p, 1, none⟩) hwp s6, by rw [World.size_setCell, World.size_setCell]; exact h.z⟩
end
end Go.Proofs.YtofmjkgaaphnkaaGreatDoor
/- RegionW: A region that draws its order: a wanted append; three operations of which each may come up. Of no program. -/
namespace Putlog
open Go

section
variable {P : Program} {ops : Array Oper} {Q : Exit → Act → World → Prop} {md : Region.Mode} {S : World → Prop}
/-- An append that is wanted. -/
theorem wpS_appendW {i : Nat} {oi : Oper} {fuel : Nat} {listed : Array Bool} {a : Act} {w : World} {dt : Tmp} (hr : Region.ready md ops listed = [i]) (hi : ops[i]? = some oi) (hg : Region.wanted oi (yielded ops a.tmps) = true) (hd : oi.dst = some dt)
  (s x : Operand) (t : TypeId) (ho : oi.op = .call { callee := .builtin .append, args := #[s, x], argTypes := #[t, t] })
  (base : Nat) (e : TypeId) (ti : TypeInfo) (z : Value) (size bytes : Nat) (ht : P.underlying t = some (.slice e)) (hti : P.info? e = some ti) (hz : ti.zero = some z)
  (hsize : ti.size = size) (hby : ti.bytes = bytes) (hzs : z.cells.size = size) (hsz : 0 < size)
  (v : Value) (n : Nat) (xs : List Value) (hs : a.eval s = v) (hown : w.ownsRow base e size v n xs)
  (ad : Addr) (m c : Nat) (news : List Value) (hx : a.eval x = .slice (some ad) m c) (hl : news.length = m * size) (hnews : ∀ j u, news[j]? = some u → w.cell? (ad.add j) = some u) (h1 : ∀ u ∈ news, u.oneCell' = true)
  (hm : 0 < m) (h63 : n + m ≤ maxLen) (hbytes : (n + m) * bytes ≤ 140737488355328) (hbase : base ≤ w.heap.size)
  (h : ∀ g cap w', w'.ownsRow base e size (.slice (some ⟨g, 0, none⟩) (n + m) cap) (n + m) (xs ++ news) → w.grownBy w' v.ownBlock → (v.ownBlock = some g ∨ g = w.heap.size) → g < w'.heap.size →
   S w' ∧ wpS P md ops Q S fuel (listed.setIfInBounds i true) (a.put (some dt) (.slice (some ⟨g, 0, none⟩) (n + m) cap)) w') : wpS P md ops Q S (fuel + 1) listed a w :=
 wpS_want hr hi hg (wp_append_lies w s x t ho base e ti z size bytes ht hti hz hsize hby hzs hsz v n xs hs hown ad m c news hx hl hnews h1 hm h63 hbytes hbase _ rfl (fun g cap w' h2 h3 h4 h5 => by rw [hd]; exact h g cap w' h2 h3 h4 h5))
variable {k : Nat}
/-- Three operations may come up. -/
theorem wpK_three {i j l : Nat} {fuel : Nat} {listed : Array Bool} {a : Act} {w : World} (hr : Region.ready md ops listed = [i, j, l])
  (h1 : wpOp P ops Q i (fun a' w' => ((listed.setIfInBounds i true).getD k true = false → S w') ∧ wpK P md ops Q S k fuel (listed.setIfInBounds i true) a' w') a w)
  (h2 : wpOp P ops Q j (fun a' w' => ((listed.setIfInBounds j true).getD k true = false → S w') ∧ wpK P md ops Q S k fuel (listed.setIfInBounds j true) a' w') a w)
  (h3 : wpOp P ops Q l (fun a' w' => ((listed.setIfInBounds l true).getD k true = false → S w') ∧ wpK P md ops Q S k fuel (listed.setIfInBounds l true) a' w') a w) : wpK P md ops Q S k (fuel + 1) listed a w := by
 refine ⟨fun h0 => (by rw [hr] at h0; cases h0), fun q hq => ?_⟩
 rw [hr] at hq
 rcases List.mem_cons.1 hq with rfl | hq
 ·exact h1
 ·rcases List.mem_cons.1 hq with rfl | hq
  ·exact h2
  ·obtain rfl : q = l := by simpa using hq
   exact h3
end
end Putlog
/- IntTen: Plain mathematics of layer 3: sums, differences, products, quotients and roots digit by digit, as one learns them. Nothing of the program. -/
namespace Putlog

theorem getD_far {l : List Nat} {k : Nat} (h : l.length ≤ k) : l.getD k 0 = 0 := by
 simp [List.getD_eq_getElem?_getD, List.getElem?_eq_none h]
theorem dig_getD {B : Nat} (hB : 0 < B) {l : List Nat} (h : DigB B l) (k : Nat) : l.getD k 0 < B := by
 rcases Nat.lt_or_ge k l.length with hk | hk
 ·rw [List.getD_eq_getElem?_getD, List.getElem?_eq_getElem hk, Option.getD_some]; exact h _ (List.getElem_mem _)
 ·rw [getD_far hk]; exact hB
theorem ten_take (l : List Nat) (k : Nat) : leV 10 (l.take (k + 1)) = leV 10 (l.take k) + 10 ^ k * l.getD k 0 := by
 rcases Nat.lt_or_ge k l.length with hk | hk
 ·have h8 : l.take (k + 1) = l.take k ++ [l.getD k 0] := by rw [List.take_succ_eq_append_getElem hk]; simp [List.getD_eq_getElem?_getD, hk]
  have h9 : (l.take k).length = k := by simp; omega
  rw [h8, leV_snoc, h9]
 ·rw [getD_far hk, List.take_of_length_le (by omega), List.take_of_length_le (by omega)]; simp
theorem ten_drop {l : List Nat} {k : Nat} (hk : k < l.length) : leV 10 (l.drop k) = l.getD k 0 + 10 * leV 10 (l.drop (k + 1)) := by
 rw [List.drop_eq_getElem_cons hk, leV]; simp [List.getD_eq_getElem?_getD, hk]
theorem ten_part (l : List Nat) (k : Nat) : leV 10 (l.take k) ≤ leV 10 l := by
 have h := leV_append 10 (l.take k) (l.drop k)
 rw [List.take_append_drop] at h; omega
theorem ten_top {l : List Nat} (hn : Norm l) {k : Nat} (hk : k < l.length) : 10 ^ k ≤ leV 10 l := by
 rcases norm_cases l with rfl | ⟨r, x, rfl⟩
 ·simp at hk
 ·have h1 := norm_ge (B := 10) (by decide) hn
  have h2 : 10 ^ k ≤ 10 ^ r.length := Nat.pow_le_pow_right (by decide) (by simp at hk; omega)
  omega
theorem ten_set : ∀ (l : List Nat) (i v : Nat), i < l.length → leV 10 (l.set i v) + 10 ^ i * l.getD i 0 = leV 10 l + 10 ^ i * v
 | [], _, _, h => by simp at h
 | x :: l, 0, v, _ => by simp [leV]; omega
 | x :: l, i + 1, v, h => by
  have := ten_set l i v (by simpa using h)
  simp only [List.set_cons_succ, leV, List.getD_cons_succ, Nat.pow_succ]
  rw [Nat.mul_comm (10 ^ i) 10, Nat.mul_assoc, Nat.mul_assoc]; omega
theorem ten_digset {B : Nat} {l : List Nat} (h : DigB B l) (i : Nat) {v : Nat} (hv : v < B) : DigB B (l.set i v) := fun y hy => by
 rcases List.mem_or_eq_of_mem_set hy with hy | hy
 ·exact h y hy
 ·subst hy; exact hv
theorem setN_get (l : List Nat) (i j v : Nat) (hi : i < l.length) : (l.set i v).getD j 0 = if j = i then v else l.getD j 0 := by
 simp only [List.getD_eq_getElem?_getD, List.getElem?_set]
 by_cases h : i = j
 ·subst h; simp [hi]
 ·rw [if_neg h, if_neg (fun e => h e.symm)]
theorem digs_of {l : List Nat} {n : Nat} (hd : DigB 10 l) (hn : Norm l) (hv : leV 10 l = n) : l = digsL 10 n := by
 rw [← hv, digsL_leV (by decide) hd hn]
theorem digs_trim {l : List Nat} {n : Nat} (hd : DigB 10 l) (hv : leV 10 l = n) : trimL l = digsL 10 n :=
 digs_of (trimL_dig hd) (trimL_norm l) (by rw [trimL_val]; exact hv)
theorem norm_of_ge {l : List Nat} (hd : DigB 10 l) (h : l = [] ∨ 10 ^ (l.length - 1) ≤ leV 10 l) : Norm l := by
 rcases norm_cases l with rfl | ⟨r, x, rfl⟩
 ·exact Norm.nil
 ·rcases h with h | h
  ·simp at h
  ·refine Norm.snoc fun hx => ?_
   subst hx
   rw [leV_snoc] at h
   have := leV_lt hd.left
   simp at h; omega

/-- A sum under way: k digits, and a carry. -/
def PlusT (A B : List Nat) (k : Nat) (out : List Nat) (c : Nat) : Prop :=
 out.length = k ∧ DigB 10 out ∧ leV 10 out + 10 ^ k * c = leV 10 (A.take k) + leV 10 (B.take k) ∧ c ≤ 1 ∧ (k = 0 ∨ 10 ^ (k - 1) ≤ leV 10 A + leV 10 B) ∧ (k ≤ A.length + B.length ∨ (k = A.length + B.length + 1 ∧ c = 0))
theorem PlusT.start (A B : List Nat) : PlusT A B 0 [] 0 := ⟨rfl, DigB.nil _, by simp [leV], by omega, .inl rfl, .inl (by omega)⟩
theorem PlusT.step {A B : List Nat} {k : Nat} {out : List Nat} {c : Nat} (h : PlusT A B k out c) (hA : DigB 10 A) (hB : DigB 10 B) (nA : Norm A) (nB : Norm B) (hgo : k < A.length ∨ k < B.length ∨ 0 < c) :
  PlusT A B (k + 1) (out ++ [(c + A.getD k 0 + B.getD k 0) % 10]) ((c + A.getD k 0 + B.getD k 0) / 10) := by
 obtain ⟨h1, h2, h3, h4, h5, h6⟩ := h
 have ha := dig_getD (by decide) hA k
 have hb := dig_getD (by decide) hB k
 refine ⟨by simp [h1], h2.append (DigB.cons (Nat.mod_lt _ (by decide)) (DigB.nil _)), ?_, by omega, .inr ?_, ?_⟩
 ·rw [leV_snoc, h1, ten_take, ten_take, Nat.pow_succ, Nat.mul_assoc]
  have h7 := Nat.mod_add_div (c + A.getD k 0 + B.getD k 0) 10
  have h8 : 10 ^ k * ((c + A.getD k 0 + B.getD k 0) % 10) + 10 ^ k * (10 * ((c + A.getD k 0 + B.getD k 0) / 10)) = 10 ^ k * c + 10 ^ k * A.getD k 0 + 10 ^ k * B.getD k 0 := by
   rw [← Nat.mul_add, h7, Nat.mul_add, Nat.mul_add]
  omega
 ·rw [Nat.add_sub_cancel]
  rcases hgo with hgo | hgo | hgo
  ·have := ten_top nA hgo; omega
  ·have := ten_top nB hgo; omega
  ·have h7 := ten_part A k
   have h8 := ten_part B k
   have h9 : 10 ^ k * 1 ≤ 10 ^ k * c := Nat.mul_le_mul_left _ hgo
   omega
 ·rcases h6 with h6 | ⟨h6, h7⟩
  ·rcases Nat.lt_or_ge k (A.length + B.length) with h8 | h8
   ·exact .inl (by omega)
   ·have e1 := getD_far (l := A) (k := k) (by omega)
    have e2 := getD_far (l := B) (k := k) (by omega)
    refine .inr ⟨by omega, by rw [e1, e2]; omega⟩
  ·omega
theorem PlusT.done {A B : List Nat} {k : Nat} {out : List Nat} (h : PlusT A B k out 0) (hA : A.length ≤ k) (hB : B.length ≤ k) : out = digsL 10 (leV 10 A + leV 10 B) := by
 obtain ⟨h1, h2, h3, _, h5, _⟩ := h
 rw [List.take_of_length_le hA, List.take_of_length_le hB] at h3
 refine digs_of h2 (norm_of_ge h2 ?_) (by omega)
 rcases h5 with h5 | h5
 ·subst h5; exact .inl (List.length_eq_zero_iff.1 h1)
 ·rw [h1]; exact .inr (by omega)
theorem PlusT.small {A B : List Nat} {k : Nat} {out : List Nat} {c : Nat} (h : PlusT A B k out c) (hgo : k < A.length ∨ k < B.length ∨ 0 < c) : k ≤ A.length + B.length := by
 obtain ⟨_, _, _, _, _, h6⟩ := h
 omega

/-- A difference under way. -/
def MinusT (A B : List Nat) (k : Nat) (out : List Nat) (c : Nat) : Prop :=
 out.length = k ∧ DigB 10 out ∧ leV 10 (A.take k) + 10 ^ k * c = leV 10 out + leV 10 (B.take k) ∧ c ≤ 1
theorem MinusT.start (A B : List Nat) : MinusT A B 0 [] 0 := ⟨rfl, DigB.nil _, by simp [leV], by omega⟩
theorem MinusT.low {A B : List Nat} {k : Nat} {out : List Nat} {c : Nat} (h : MinusT A B k out c) (hA : DigB 10 A) (hlt : A.getD k 0 < c + B.getD k 0) :
  MinusT A B (k + 1) (out ++ [A.getD k 0 + 10 - (c + B.getD k 0)]) 1 ∨ 10 ≤ B.getD k 0 := by
 rcases Nat.lt_or_ge (B.getD k 0) 10 with hb | hb
 ·left
  obtain ⟨h1, h2, h3, h4⟩ := h
  have ha := dig_getD (by decide) hA k
  obtain ⟨d, hd⟩ : ∃ d, d = A.getD k 0 + 10 - (c + B.getD k 0) := ⟨_, rfl⟩
  have hd2 : d + c + B.getD k 0 = A.getD k 0 + 10 := by omega
  rw [← hd]
  refine ⟨by simp [h1], h2.append (DigB.cons (by omega) (DigB.nil _)), ?_, by omega⟩
  rw [leV_snoc, h1, ten_take, ten_take, Nat.pow_succ]
  have h8 : 10 ^ k * d + 10 ^ k * c + 10 ^ k * B.getD k 0 = 10 ^ k * A.getD k 0 + 10 ^ k * 10 := by
   rw [← Nat.mul_add, ← Nat.mul_add, ← Nat.mul_add, hd2]
  omega
 ·exact .inr hb
theorem MinusT.done {A B : List Nat} {out : List Nat} {c : Nat} (h : MinusT A B A.length out c) (hA : DigB 10 A) (nB : Norm B) (hle : leV 10 B ≤ leV 10 A) : trimL out = digsL 10 (leV 10 A - leV 10 B) := by
 obtain ⟨h1, h2, h3, h4⟩ := h
 have hl : B.length ≤ A.length := by
  rcases Nat.lt_or_ge A.length B.length with hl | hl
  ·have := leV_len_lt (by decide) hA nB hl; omega
  ·exact hl
 rw [List.take_of_length_le (Nat.le_refl _), List.take_of_length_le hl] at h3
 have h5 := leV_lt h2
 rw [h1] at h5
 have hc : c = 0 := by
  rcases Nat.eq_zero_or_pos c with h6 | h6
  ·exact h6
  ·have h7 : 10 ^ A.length * 1 ≤ 10 ^ A.length * c := Nat.mul_le_mul_left _ h6
   omega
 subst hc
 exact digs_trim h2 (by omega)

/-- A product under way. -/
def TimesT (A B : List Nat) (i k : Nat) (C : List Nat) (c : Nat) : Prop :=
 C.length = A.length + B.length ∧ DigB 10 C ∧ leV 10 C + 10 ^ (i + k) * c = leV 10 (A.take i) * leV 10 B + 10 ^ i * A.getD i 0 * leV 10 (B.take k) ∧ c ≤ 9
theorem TimesT.start (A B : List Nat) : TimesT A B 0 0 (List.replicate (A.length + B.length) 0) 0 := by
 refine ⟨List.length_replicate, fun x hx => ?_, by simp [leV_zeros, leV], by omega⟩
 obtain ⟨_, rfl⟩ := List.mem_replicate.1 hx; decide
theorem TimesT.place {A B : List Nat} {i k : Nat} {C : List Nat} {c : Nat} (h : TimesT A B i k C c) (hA : DigB 10 A) (hB : DigB 10 B) (hi : i < A.length) (hgo : k < B.length ∨ 0 < c) : i + k < A.length + B.length := by
 rcases hgo with hgo | hgo
 ·omega
 ·obtain ⟨h1, h2, h3, _⟩ := h
  refine Nat.not_le.1 fun hk => ?_
  have e1 : 10 ^ (i + k) * 1 ≤ 10 ^ (i + k) * c := Nat.mul_le_mul_left _ hgo
  have e2 : 10 ^ (A.length + B.length) ≤ 10 ^ (i + k) := Nat.pow_le_pow_right (by decide) hk
  have e3 := ten_part B k
  have e4 := leV_lt hB
  have e5 : leV 10 (A.take (i + 1)) < 10 ^ A.length := Nat.lt_of_le_of_lt (ten_part A _) (leV_lt hA)
  rw [ten_take] at e5
  have e6 : 10 ^ i * A.getD i 0 * leV 10 (B.take k) ≤ 10 ^ i * A.getD i 0 * leV 10 B := Nat.mul_le_mul_left _ e3
  have e7 : (leV 10 (A.take i) + 10 ^ i * A.getD i 0) * leV 10 B < 10 ^ A.length * 10 ^ B.length := Nat.mul_lt_mul_of_lt_of_le e5 (Nat.le_of_lt e4) (Nat.pow_pos (by decide))
  rw [Nat.add_mul, ← Nat.pow_add] at e7
  omega
theorem TimesT.step {A B : List Nat} {i k : Nat} {C : List Nat} {c : Nat} (h : TimesT A B i k C c) (hA : DigB 10 A) (hB : DigB 10 B) (hi : i + k < A.length + B.length) :
  TimesT A B i (k + 1) (C.set (i + k) ((C.getD (i + k) 0 + c + A.getD i 0 * B.getD k 0) % 10)) ((C.getD (i + k) 0 + c + A.getD i 0 * B.getD k 0) / 10) := by
 obtain ⟨h1, h2, h3, h4⟩ := h
 have hs := ten_set C (i + k) ((C.getD (i + k) 0 + c + A.getD i 0 * B.getD k 0) % 10) (by omega)
 have hc := dig_getD (by decide) h2 (i + k)
 have ha := dig_getD (by decide) hA i
 have hb := dig_getD (by decide) hB k
 have hm : A.getD i 0 * B.getD k 0 ≤ 9 * 9 := Nat.mul_le_mul (by omega) (by omega)
 refine ⟨by rw [List.length_set]; exact h1, ten_digset h2 _ (Nat.mod_lt _ (by decide)), ?_, by omega⟩
 rw [ten_take, Nat.mul_add]
 have e1 : 10 ^ i * A.getD i 0 * (10 ^ k * B.getD k 0) = 10 ^ (i + k) * (A.getD i 0 * B.getD k 0) := by
  rw [Nat.pow_add]; simp only [Nat.mul_assoc, Nat.mul_left_comm]
 have e2 : 10 ^ (i + (k + 1)) = 10 ^ (i + k) * 10 := by rw [← Nat.add_assoc, Nat.pow_succ]
 rw [e1, e2, Nat.mul_assoc]
 generalize A.getD i 0 * B.getD k 0 = p at *
 generalize C.getD (i + k) 0 = x at *
 have e3 := Nat.mod_add_div (x + c + p) 10
 have e4 : 10 ^ (i + k) * ((x + c + p) % 10) + 10 ^ (i + k) * (10 * ((x + c + p) / 10)) = 10 ^ (i + k) * x + 10 ^ (i + k) * c + 10 ^ (i + k) * p := by
  rw [← Nat.mul_add, e3, Nat.mul_add, Nat.mul_add]
 omega
theorem TimesT.next {A B : List Nat} {i k : Nat} {C : List Nat} (h : TimesT A B i k C 0) (hk : B.length ≤ k) : TimesT A B (i + 1) 0 C 0 := by
 obtain ⟨h1, h2, h3, h4⟩ := h
 refine ⟨h1, h2, ?_, h4⟩
 rw [List.take_of_length_le hk] at h3
 rw [ten_take, Nat.add_mul]
 simp only [List.take_zero, leV, Nat.mul_zero, Nat.add_zero] at h3 ⊢
 omega
theorem TimesT.done {A B : List Nat} {i : Nat} {C : List Nat} (h : TimesT A B i 0 C 0) (hi : A.length ≤ i) : trimL C = digsL 10 (leV 10 A * leV 10 B) := by
 obtain ⟨h1, h2, h3, _⟩ := h
 rw [List.take_of_length_le hi] at h3
 simp only [List.take_zero, leV, Nat.mul_zero, Nat.add_zero] at h3
 exact digs_trim h2 h3

/-- A quotient under way: the digits from i up are found. -/
def DivT (A : List Nat) (y i : Nat) (Q : List Nat) (R : Nat) : Prop :=
 Q.length = A.length ∧ DigB 10 Q ∧ (∀ j, j < i → Q.getD j 0 = 0) ∧ leV 10 (A.drop i) * 10 ^ i = leV 10 Q * y + 10 ^ i * R ∧ R < y
theorem DivT.start (A : List Nat) {y : Nat} (hy : 0 < y) : DivT A y A.length (List.replicate A.length 0) 0 := by
 refine ⟨List.length_replicate, fun x hx => ?_, fun j hj => by simp [List.getD_eq_getElem?_getD, hj], by simp [leV_zeros, leV], hy⟩
 obtain ⟨_, rfl⟩ := List.mem_replicate.1 hx; decide
/-- One digit under way. -/
def DivI (A : List Nat) (y i : Nat) (Q : List Nat) (R : Nat) : Prop :=
 Q.length = A.length ∧ DigB 10 Q ∧ (∀ j, j < i → Q.getD j 0 = 0) ∧ leV 10 (A.drop i) * 10 ^ i = leV 10 Q * y + 10 ^ i * R ∧ Q.getD i 0 * y + R < 10 * y
theorem DivT.open {A : List Nat} {y i : Nat} {Q : List Nat} {R : Nat} (h : DivT A y (i + 1) Q R) (hA : DigB 10 A) (hi : i < A.length) : DivI A y i Q (A.getD i 0 + 10 * R) := by
 obtain ⟨h1, h2, h3, h4, h5⟩ := h
 refine ⟨h1, h2, fun j hj => h3 j (by omega), ?_, ?_⟩
 ·rw [ten_drop hi, Nat.add_mul]
  rw [Nat.pow_succ] at h4
  have e1 : leV 10 (A.drop (i + 1)) * (10 ^ i * 10) = 10 * leV 10 (A.drop (i + 1)) * 10 ^ i := by rw [← Nat.mul_assoc, Nat.mul_comm _ 10, Nat.mul_assoc]
  have e2 : 10 ^ i * 10 * R = 10 ^ i * (10 * R) := Nat.mul_assoc _ _ _
  rw [Nat.mul_add, Nat.mul_comm (A.getD i 0) (10 ^ i)]
  omega
 ·rw [h3 i (by omega)]
  have := dig_getD (by decide) hA i
  omega
theorem DivI.digit {A : List Nat} {y i : Nat} {Q : List Nat} {R : Nat} (h : DivI A y i Q R) (hR : y ≤ R) : Q.getD i 0 < 9 := by
 obtain ⟨_, _, _, _, h5⟩ := h
 refine Nat.not_le.1 fun hk => ?_
 have : 9 * y ≤ Q.getD i 0 * y := Nat.mul_le_mul_right _ hk
 omega
theorem DivI.step {A : List Nat} {y i : Nat} {Q : List Nat} {R : Nat} (h : DivI A y i Q R) (hi : i < A.length) (hR : y ≤ R) : DivI A y i (Q.set i (Q.getD i 0 + 1)) (R - y) := by
 have h9 := h.digit hR
 obtain ⟨h1, h2, h3, h4, h5⟩ := h
 have hs := ten_set Q i (Q.getD i 0 + 1) (by omega)
 refine ⟨by rw [List.length_set]; exact h1, ten_digset h2 _ (by omega), fun j hj => ?_, ?_, ?_⟩
 ·rw [setN_get Q i j _ (by omega), if_neg (by omega)]; exact h3 j hj
 ·have e1 : leV 10 (Q.set i (Q.getD i 0 + 1)) = leV 10 Q + 10 ^ i := by rw [Nat.mul_add, Nat.mul_one] at hs; omega
  rw [e1, Nat.add_mul, h4]
  have e2 : 10 ^ i * R = 10 ^ i * y + 10 ^ i * (R - y) := by rw [← Nat.mul_add]; congr 1; omega
  omega
 ·rw [setN_get Q i i _ (by omega), if_pos rfl, Nat.add_mul, Nat.one_mul]; omega
theorem DivI.close {A : List Nat} {y i : Nat} {Q : List Nat} {R : Nat} (h : DivI A y i Q R) (hR : R < y) : DivT A y i Q R := by
 obtain ⟨h1, h2, h3, h4, _⟩ := h
 exact ⟨h1, h2, h3, h4, hR⟩
theorem DivT.done {A : List Nat} {y : Nat} {Q : List Nat} {R : Nat} (h : DivT A y 0 Q R) : trimL Q = digsL 10 (leV 10 A / y) ∧ R = leV 10 A % y := by
 obtain ⟨h1, h2, _, h4, h5⟩ := h
 simp only [List.drop_zero, Nat.pow_zero, Nat.mul_one, Nat.one_mul] at h4
 have e1 : leV 10 A / y = leV 10 Q := by
  rw [h4, Nat.mul_comm, Nat.mul_add_div (by omega), Nat.div_eq_of_lt h5]; omega
 have e2 : leV 10 A % y = R := by rw [h4, Nat.mul_comm, Nat.mul_add_mod, Nat.mod_eq_of_lt h5]
 exact ⟨by rw [e1]; exact digs_trim h2 rfl, e2.symm⟩

/-- A root under way: the digits from i up are found. -/
def RootT (n h i : Nat) (O : List Nat) : Prop :=
 O.length = h ∧ DigB 10 O ∧ (∀ j, j < i → O.getD j 0 = 0) ∧ leV 10 O * leV 10 O ≤ n ∧ n < (leV 10 O + 10 ^ i) * (leV 10 O + 10 ^ i)
theorem RootT.start {n L : Nat} (hn : n < 10 ^ L) {h : Nat} (hh : L ≤ 2 * h) : RootT n h h (List.replicate h 0) := by
 refine ⟨List.length_replicate, fun x hx => ?_, fun j hj => by simp [List.getD_eq_getElem?_getD, hj], by rw [leV_zeros]; omega, ?_⟩
 ·obtain ⟨_, rfl⟩ := List.mem_replicate.1 hx; decide
 ·rw [leV_zeros, Nat.zero_add, ← Nat.pow_add]
  have : 10 ^ L ≤ 10 ^ (h + h) := Nat.pow_le_pow_right (by decide) (by omega)
  omega
/-- One digit under way: d is tried. -/
def RootI (n h i : Nat) (d : Nat) (O : List Nat) : Prop :=
 O.length = h ∧ DigB 10 O ∧ (∀ j, j < i → O.getD j 0 = 0) ∧ O.getD i 0 = d ∧ 10 ^ i * d ≤ leV 10 O ∧ (leV 10 O - 10 ^ i * d) * (leV 10 O - 10 ^ i * d) ≤ n ∧ n < (leV 10 O + 10 ^ i) * (leV 10 O + 10 ^ i)
theorem RootT.open {n h i : Nat} {O : List Nat} (H : RootT n h (i + 1) O) (hi : i < h) : RootI n h i 9 (O.set i 9) := by
 obtain ⟨h1, h2, h3, h4, h5⟩ := H
 have hs := ten_set O i 9 (by omega)
 rw [h3 i (by omega), Nat.mul_zero, Nat.add_zero] at hs
 refine ⟨by rw [List.length_set]; exact h1, ten_digset h2 _ (by decide), fun j hj => ?_, ?_, by omega, ?_, ?_⟩
 ·rw [setN_get O i j _ (by omega), if_neg (by omega)]; exact h3 j (by omega)
 ·rw [setN_get O i i _ (by omega), if_pos rfl]
 ·rw [hs, Nat.add_sub_cancel]; exact h4
 ·rw [hs]
  have : leV 10 O + 10 ^ i * 9 + 10 ^ i = leV 10 O + 10 ^ (i + 1) := by rw [Nat.pow_succ]; omega
  rw [this]; exact h5
theorem RootI.step {n h i d : Nat} {O : List Nat} (H : RootI n h i d O) (hi : i < h) (hd : 0 < d) (hgt : n < leV 10 O * leV 10 O) : RootI n h i (d - 1) (O.set i (d - 1)) := by
 obtain ⟨h1, h2, h3, h4, h5, h6, h7⟩ := H
 have hs := ten_set O i (d - 1) (by omega)
 rw [h4] at hs
 have hd9 := dig_getD (by decide) h2 i
 obtain ⟨e, rfl⟩ : ∃ e, d = e + 1 := ⟨d - 1, by omega⟩
 rw [Nat.add_sub_cancel] at hs ⊢
 have e1 : 10 ^ i * (e + 1) = 10 ^ i * e + 10 ^ i := by rw [Nat.mul_add, Nat.mul_one]
 rw [e1] at hs h5 h6
 refine ⟨by rw [List.length_set]; exact h1, ten_digset h2 _ (by omega), fun j hj => ?_, ?_, by omega, ?_, ?_⟩
 ·rw [setN_get O i j _ (by omega), if_neg (by omega)]; exact h3 j (by omega)
 ·rw [setN_get O i i _ (by omega), if_pos rfl]
 ·have : leV 10 (O.set i e) - 10 ^ i * e = leV 10 O - (10 ^ i * e + 10 ^ i) := by omega
  rw [this]; exact h6
 ·have : leV 10 (O.set i e) + 10 ^ i = leV 10 O := by omega
  rw [this]; exact hgt
theorem RootI.close {n h i d : Nat} {O : List Nat} (H : RootI n h i d O) (hle : d = 0 ∨ leV 10 O * leV 10 O ≤ n) : RootT n h i O := by
 obtain ⟨h1, h2, h3, h4, h5, h6, h7⟩ := H
 refine ⟨h1, h2, h3, ?_, h7⟩
 rcases hle with rfl | hle
 ·simpa using h6
 ·exact hle
theorem RootT.done {n h : Nat} {O : List Nat} (H : RootT n h 0 O) : trimL O = digsL 10 (sqrtN n) := by
 obtain ⟨_, h2, _, h4, h5⟩ := H
 exact digs_trim h2 (sqrtN_unique h4 h5)
end Putlog
/- IntRefKit: What the contracts of the reference share; its order of two lists of digits. -/
namespace Go.Proofs.YtofmjkgaaphnkaaGreatDoor
open Go.RowKit Putlog

theorem nums_form {w : World} {v : Value} {l : List Nat} (h : NumsAt w v l) : ∃ a c, v = .slice a l.length c ∧ NumsAt w (.slice a l.length c) l := by
 obtain ⟨a, c, e, r⟩ := h
 exact ⟨a, c, e, a, c, rfl, r⟩
/-- A list of numbers in a block that is not one of the first. -/
def NumsNew (w : World) (base : Nat) (v : Value) (l : List Nat) : Prop := NumsAt w v l ∧ ∀ ad n c, v = .slice (some ad) n c → base ≤ ad.block
theorem NumsNew.set {w : World} {base b i : Nat} {v x : Value} {l : List Nat} (h : NumsNew w base v l) (hb : b < base) : NumsAt (w.setCell ⟨b, i, none⟩ x) v l := by
 obtain ⟨⟨a, c, rfl, h2, h3, h4⟩, h5⟩ := h
 refine ⟨a, c, rfl, h2, h3, ?_⟩
 rcases h4 with h4 | ⟨g, rfl, h6⟩
 ·exact .inl h4
 ·have hg := h5 _ _ _ rfl
  refine .inr ⟨g, rfl, fun j hj => ?_⟩
  rw [World.cell?_setCell_other _ _ _ _ (fun h => by have := congrArg Addr.block h; simp at this hg; omega)]
  exact h6 j hj
end Go.Proofs.YtofmjkgaaphnkaaGreatDoor
/- IntRefPlus: The reference's sum, difference and product of two lists of digits. -/
namespace Go.Proofs.YtofmjkgaaphnkaaGreatDoor
open Go.RowKit Putlog

end Go.Proofs.YtofmjkgaaphnkaaGreatDoor
/- IntRefDiv: The reference's quotient of two lists of digits, and the copy without zeros in front. -/
namespace Go.Proofs.YtofmjkgaaphnkaaGreatDoor
open Go.RowKit Putlog

theorem dlen_lt {x k : Nat} (h : x < 10 ^ k) : (digsL 10 x).length ≤ k := (digsL_len (by decide) x k).2 h
theorem ColsAt.via {w w' : World} {base : Nat} {a : Option Addr} {C : List Int} (h : ColsAt w base a C) (hB : Below w.heap.size w w') : ColsAt w' base a C := by
 rcases h with h | ⟨g, h1, h2, h3⟩
 ·exact .inl h
 ·exact .inr ⟨g, h1, h2, h3.via hB⟩
end Go.Proofs.YtofmjkgaaphnkaaGreatDoor
/- IntRefRead: The reference's Valid, and the digits of a valid integer. -/
namespace Go.Proofs.YtofmjkgaaphnkaaGreatDoor
open Go.RowKit Putlog

end Go.Proofs.YtofmjkgaaphnkaaGreatDoor
/- IntRefOps: The reference's Add, Sub, Mul, Compare, Div and Gcd, on valid integers and on other texts. -/
namespace Go.Proofs.YtofmjkgaaphnkaaGreatDoor
open Go.RowKit Putlog

end Go.Proofs.YtofmjkgaaphnkaaGreatDoor
/- IntRefInts: The reference's FromInt and ToInt. -/
namespace Go.Proofs.YtofmjkgaaphnkaaGreatDoor
open Go.RowKit Putlog

/-- The digits of a number under way: those that are found, and the rest. -/
def FromT (N : Nat) (l : List Nat) (M : Nat) : Prop := DigB 10 l ∧ leV 10 l + 10 ^ l.length * M = N ∧ (l = [] ∨ 10 ^ (l.length - 1) ≤ N)
theorem FromT.start (N : Nat) : FromT N [] N := ⟨DigB.nil _, by simp [leV], .inl rfl⟩
theorem FromT.step {N : Nat} {l : List Nat} {M : Nat} (h : FromT N l M) (hM : 0 < M) : FromT N (l ++ [M % 10]) (M / 10) := by
 obtain ⟨h1, h2, h3⟩ := h
 refine ⟨h1.append (DigB.cons (Nat.mod_lt _ (by decide)) (DigB.nil _)), ?_, .inr ?_⟩
 ·rw [leV_snoc, List.length_append, List.length_cons, List.length_nil, Nat.zero_add, Nat.pow_succ, Nat.mul_assoc, Nat.add_assoc, ← Nat.mul_add, Nat.mod_add_div]
  exact h2
 ·have e : (l ++ [M % 10]).length - 1 = l.length := by simp
  rw [e]
  have h4 : 10 ^ l.length * 1 ≤ 10 ^ l.length * M := Nat.mul_le_mul_left _ hM
  omega
theorem FromT.done {N : Nat} {l : List Nat} (h : FromT N l 0) : l = digsL 10 N := by
 obtain ⟨h1, h2, h3⟩ := h
 have hv : leV 10 l = N := by omega
 refine digs_of h1 (norm_of_ge h1 ?_) hv
 rcases h3 with h3 | h3
 ·exact .inl h3
 ·exact .inr (by omega)
theorem FromT.small {N : Nat} {l : List Nat} {M : Nat} (h : FromT N l M) (hN : N < 10 ^ 20) : l.length ≤ 20 := by
 obtain ⟨_, _, h3⟩ := h
 rcases h3 with rfl | h3
 ·decide
 ·refine Nat.not_lt.1 fun hl => ?_
  have : 10 ^ 20 ≤ 10 ^ (l.length - 1) := Nat.pow_le_pow_right (by decide) (by omega)
  omega

set_option maxRecDepth 100000 in
set_option maxHeartbeats 4000000 in
theorem rfrom_pos (n : Int) (h0 : -9223372036854775808 ≤ n) (h1 : n ≤ 9223372036854775807) (hs : ¬ n < 0) (w : World) :
  Calls Tryz.prog 33 #[.int .i64 n] w fun e w' => e = .returned (.string (intB n)) ∧ Below w.heap.size w w' := by
 obtain ⟨i0, hi0, hz0, hz1, hz2⟩ := info_parts info_int
 have HI0 := Lib.hid hi0
 have HZ0 := Lib.hid hz0
 have HZ1 := Lib.hid hz1
 have HZ2 := Lib.hid hz2
 obtain ⟨N, hN⟩ : ∃ N, N = n.natAbs := ⟨_, rfl⟩
 have HNB : Hid (N < 10 ^ 20) := by show _ < _; omega
 have hn : n = (N : Int) := by omega
 have hT := fun v W h => rtext_any false (digsL 10 N) (by have : (digsL 10 N).length ≤ 20 := dlen_lt HNB.out; omega) (digsL_dig (by decide) _) (digsL_norm (by decide) _) v W h
 rw [leV_digsL (by decide), show sgn false N = n by rw [hn]; rfl] at hT
 have HT := Lib.hid hT
 have hNb : (N : Int) ≤ 9223372036854775808 := by omega
 have hNb2 : (N : Int) ≤ 9223372036854775807 := by omega
 generalize intB n = s at *
 clear hi0 hz0 hz1 hz2 hT hN
 subst hn
 go_enter Tryz.func33, Tryz.ntmps33
 go_wp2_with fail
 go_loopw [3, 4] (fun v m wr => ∃ (M : Nat) (l : List Nat), m = .int .i64 ((M : Nat) : Int) ∧ M ≤ N ∧ FromT N l M ∧ wr.ownsRow w.heap.size 3 1 v l.length (i64l l) ∧ Below w.heap.size w wr) (fun _ m _ => (intOf m).natAbs)
 case atStart => exact ⟨N, [], rfl, Nat.le_refl _, FromT.start N, World.ownsRow_nil _ _ _ _, Below.refl _ _⟩
 case round =>
  obtain ⟨M, y, rfl, hM, hF, hown, hB⟩ := hrel
  have HF := Lib.hid hF
  have HO := Lib.hid hown
  have HB := Lib.hid hB
  have hyl := hF.small HNB.out
  have HK : Hid (y.length ≤ 100000) := by show _ ≤ _; omega
  have hMb : (M : Int) ≤ 9223372036854775808 := by omega
  have hMb2 : (M : Int) ≤ 9223372036854775807 := by omega
  clear hF hown hB hyl
  rcases Nat.eq_zero_or_pos M with rfl | hM0
  ·have hE := HF.out.done
   have hnums := NumsAt.of_owns HO.out
   rw [hE] at hnums
   have HNU := Lib.hid hnums
   obtain ⟨_, _, rfl, _⟩ := nums_form hnums
   clear hE hnums HO
   go_wp2_with fail
   refine (HT.out _ _ HNU.out).mono ?_
   rintro e w5 ⟨rfl, hB5⟩
   have HB5 := Lib.hid (belowVia hB5 HB.out)
   clear hB5
   go_wp2_with fail
   go_ret
   exact ⟨rfl, HB5.out⟩
  ·have HST := Lib.hid (HF.out.step hM0)
   have hne : (((M : Nat) : Int) != 0) = true := by rw [bne_iff_ne]; omega
   have hmm : ((M : Nat) : Int).tmod 10 = ((M % 10 : Nat) : Int) := by rw [Int.tmod_eq_emod_of_nonneg (by omega)]; omega
   have hmq : ((M : Nat) : Int).tdiv 10 = ((M / 10 : Nat) : Int) := by rw [Int.tdiv_eq_ediv_of_nonneg (by omega)]; omega
   have hd9 : ((M % 10 : Nat) : Int) ≤ 9 := by omega
   have hq9 : ((M / 10 : Nat) : Int) ≤ 922337203685477580 := by omega
   have HQM : Hid (M / 10 < M ∧ M / 10 ≤ N) := by show _ ∧ _; omega
   generalize M % 10 = d at *
   generalize M / 10 = q at *
   go_wp2_with (at_builtin; refine wpList_append_own _ rfl _ _ 22 rfl w.heap.size 3 i0 (.int .i64 0) 1 8 Tryz.underlying22 HI0.out HZ0.out HZ1.out HZ2.out rfl (by decide) u3 y.length (i64l y) (by rfl) (HO.out.alloc _) ⟨wr.heap.size, 0, none⟩ 1 1 [.int .i64 (d : Nat)] (by rfl) rfl (news_val _ _ _) (one_int _ _) (app_b1 HK.out) (app_b2 HK.out (by decide)) (app_b3 HB.out) ?_; intro v2 w9 hown9 hgrow9 _)
   have HFF := Lib.hid (app_i64 (b := d) HO.out HB.out hown9 hgrow9)
   clear hown9 hgrow9
   go_wp2_with fail
   go_roundw
   case rel => exact ⟨q, _, by go_num, HQM.out.2, HST.out, HFF.out.1, HFF.out.2⟩
   case measure => have := HQM.out; simp [intOf]; omega
set_option maxRecDepth 100000 in
set_option maxHeartbeats 4000000 in
theorem rfrom_neg (n : Int) (h0 : -9223372036854775808 ≤ n) (h1 : n ≤ 9223372036854775807) (hs : n < 0) (w : World) :
  Calls Tryz.prog 33 #[.int .i64 n] w fun e w' => e = .returned (.string (intB n)) ∧ Below w.heap.size w w' := by
 obtain ⟨i0, hi0, hz0, hz1, hz2⟩ := info_parts info_int
 have HI0 := Lib.hid hi0
 have HZ0 := Lib.hid hz0
 have HZ1 := Lib.hid hz1
 have HZ2 := Lib.hid hz2
 obtain ⟨N, hN⟩ : ∃ N, N = n.natAbs := ⟨_, rfl⟩
 have HNB : Hid (N < 10 ^ 20) := by show _ < _; omega
 have hn : n = -(N : Int) := by omega
 have hT := fun v W h => rtext_any true (digsL 10 N) (by have : (digsL 10 N).length ≤ 20 := dlen_lt HNB.out; omega) (digsL_dig (by decide) _) (digsL_norm (by decide) _) v W h
 rw [leV_digsL (by decide), show sgn true N = n by rw [hn]; rfl] at hT
 have HT := Lib.hid hT
 have hNb : (N : Int) ≤ 9223372036854775808 := by omega
 have hNp : 0 < N := by omega
 generalize intB n = s at *
 clear hi0 hz0 hz1 hz2 hT hN
 subst hn
 go_enter Tryz.func33, Tryz.ntmps33
 go_wp2_with fail
 go_loopw [3, 4] (fun v m wr => ∃ (M : Nat) (l : List Nat), m = .int .i64 (-(M : Int)) ∧ M ≤ N ∧ FromT N l M ∧ wr.ownsRow w.heap.size 3 1 v l.length (i64l l) ∧ Below w.heap.size w wr) (fun _ m _ => (intOf m).natAbs)
 case atStart => exact ⟨N, [], rfl, Nat.le_refl _, FromT.start N, World.ownsRow_nil _ _ _ _, Below.refl _ _⟩
 case round =>
  obtain ⟨M, y, rfl, hM, hF, hown, hB⟩ := hrel
  have HF := Lib.hid hF
  have HO := Lib.hid hown
  have HB := Lib.hid hB
  have hyl := hF.small HNB.out
  have HK : Hid (y.length ≤ 100000) := by show _ ≤ _; omega
  have hMb : (M : Int) ≤ 9223372036854775808 := by omega
  clear hF hown hB hyl
  rcases Nat.eq_zero_or_pos M with rfl | hM0
  ·have hE := HF.out.done
   have hnums := NumsAt.of_owns HO.out
   rw [hE] at hnums
   have HNU := Lib.hid hnums
   obtain ⟨_, _, rfl, _⟩ := nums_form hnums
   have hnl : -(N : Int) < 0 := by omega
   clear hE hnums HO
   go_wp2_with fail
   refine (HT.out _ _ HNU.out).mono ?_
   rintro e w5 ⟨rfl, hB5⟩
   have HB5 := Lib.hid (belowVia hB5 HB.out)
   clear hB5
   go_wp2_with fail
   go_ret
   exact ⟨rfl, HB5.out⟩
  ·have HST := Lib.hid (HF.out.step hM0)
   have hne : ((-(M : Int)) != 0) = true := by rw [bne_iff_ne]; omega
   have hmm : (-(M : Int)).tmod 10 = -((M % 10 : Nat) : Int) := by rw [Int.neg_tmod, Int.tmod_eq_emod_of_nonneg (by omega)]; omega
   have hmq : (-(M : Int)).tdiv 10 = -((M / 10 : Nat) : Int) := by rw [Int.neg_tdiv, Int.tdiv_eq_ediv_of_nonneg (by omega)]; omega
   have hd9 : ((M % 10 : Nat) : Int) ≤ 9 := by omega
   have hq9 : ((M / 10 : Nat) : Int) ≤ 922337203685477580 := by omega
   have HQM : Hid (M / 10 < M ∧ M / 10 ≤ N) := by show _ ∧ _; omega
   generalize M % 10 = d at *
   generalize M / 10 = q at *
   rcases Nat.eq_zero_or_pos d with rfl | hd0
   ·skip
    go_wp2_with (at_builtin; refine wpList_append_own _ rfl _ _ 22 rfl w.heap.size 3 i0 (.int .i64 0) 1 8 Tryz.underlying22 HI0.out HZ0.out HZ1.out HZ2.out rfl (by decide) u3 y.length (i64l y) (by rfl) (HO.out.alloc _) ⟨wr.heap.size, 0, none⟩ 1 1 [.int .i64 ((0 : Nat) : Nat)] (by rfl) rfl (news_val _ _ _) (one_int _ _) (app_b1 HK.out) (app_b2 HK.out (by decide)) (app_b3 HB.out) ?_; intro v2 w9 hown9 hgrow9 _)
    have HFF := Lib.hid (app_i64 (b := 0) HO.out HB.out hown9 hgrow9)
    clear hown9 hgrow9
    go_wp2_with fail
    go_roundw
    case rel => exact ⟨q, _, by go_num, HQM.out.2, HST.out, HFF.out.1, HFF.out.2⟩
    case measure => have := HQM.out; simp [intOf]; omega
   ·have hdn : -(d : Int) < 0 := by omega
    go_wp2_with (at_builtin; refine wpList_append_own _ rfl _ _ 22 rfl w.heap.size 3 i0 (.int .i64 0) 1 8 Tryz.underlying22 HI0.out HZ0.out HZ1.out HZ2.out rfl (by decide) u3 y.length (i64l y) (by rfl) (HO.out.alloc _) ⟨wr.heap.size, 0, none⟩ 1 1 [.int .i64 (d : Nat)] (by rfl) rfl (news_val _ _ _) (one_int _ _) (app_b1 HK.out) (app_b2 HK.out (by decide)) (app_b3 HB.out) ?_; intro v2 w9 hown9 hgrow9 _)
    have HFF := Lib.hid (app_i64 (b := d) HO.out HB.out hown9 hgrow9)
    clear hown9 hgrow9
    go_wp2_with fail
    go_roundw
    case rel => exact ⟨q, _, by go_num, HQM.out.2, HST.out, HFF.out.1, HFF.out.2⟩
    case measure => have := HQM.out; simp [intOf]; omega
theorem rfrom_any (n : Int) (h0 : -9223372036854775808 ≤ n) (h1 : n ≤ 9223372036854775807) (w : World) :
  Calls Tryz.prog 33 #[.int .i64 n] w fun e w' => e = .returned (.string (intB n)) ∧ Below w.heap.size w w' := by
 by_cases h : n < 0
 ·exact rfrom_neg n h0 h1 h w
 ·exact rfrom_pos n h0 h1 h w
end Go.Proofs.YtofmjkgaaphnkaaGreatDoor
/- LinMore: LinearMore: what the law's body answers. -/
namespace Go.Proofs.YtofmjkgaaphnkaaGreatDoor
open Go.RowKit Putlog

theorem copy_made (x : NumX) (a : Option Addr) (ca : Nat) (W : World) (hs : SysM W (madeS x) a ca) :
  Calls Tryz.prog 32 #[.agg #[.int .i64 (x.n : Nat), .slice a x.m ca]] W fun e w' => (∃ L a' c', e = .returned (.agg #[.int .i64 (x.n : Nat), .slice a' x.m c']) ∧ L.map RowX.p = (madeS x).rows ∧ SysO W.heap.size w' L (.slice a' x.m c')) ∧ Below W.heap.size W w' := by
 have h := copy_c (madeS x) a ca W hs (made_len9 x) (fun r hr => by
  obtain ⟨i, _, rfl⟩ := made_mem hr
  have := x.n_bounds
  rw [rowX_len]; omega)
 rw [made_rows] at h
 exact h
theorem ext_snoc (l : List Int) (k : Nat) : intsV (extL l (k + 1)) = intsV (extL l k) ++ [.int .i64 (extX l k)] := by unfold extL intsV; rw [List.range_succ, List.map_append, List.map_append]; rfl
theorem ext_yes {l : List Int} {k : Nat} (h : k < l.length) : extX l k = pkN (l.getD k 0) 19 - 9 := if_pos h
theorem ext_no {l : List Int} {k : Nat} (h : ¬ k < l.length) : extX l k = 0 := if_neg h
theorem ext_wrap (z : Int) : ∃ q, q = pkN z 19 - 9 ∧ wrap64 (pkN z 19 - 9) = q ∧ IntKind.i64.wrap (pkN z 19 - 9) = q := by
 have := pkN_bounds z (n := 19) (by decide)
 exact ⟨_, rfl, by unfold wrap64; omega, by rw [IntKind.wrap_i64]; omega⟩
theorem val_wrap (z : Int) : ∃ q, wrap64 (pkN z 101 - 50) = q ∧ IntKind.i64.wrap (pkN z 101 - 50) = q ∧ -50 ≤ q ∧ q ≤ 50 := by
 have := pkN_bounds z (n := 101) (by decide)
 exact ⟨pkN z 101 - 50, by unfold wrap64; omega, by rw [IntKind.wrap_i64]; omega, by omega, by omega⟩
theorem IntsFrom.getZ {w : World} {a : Option Addr} {l : List Int} (h : IntsFrom w a l) {k : Nat} (hk : k < l.length) : ∃ g o, a = some ⟨g, o, none⟩ ∧ w.cell? ⟨g, o + k, none⟩ = some (.int .i64 (l.getD k 0)) := by
 rcases h with h | ⟨g, o, h1, h2⟩
 ·rw [h] at hk; simp at hk
 ·exact ⟨g, o, h1, h2 k hk⟩
theorem getD_ok {l : List Int} (h : ∀ z ∈ l, I64 z) (k : Nat) : I64 (l.getD k 0) := by
 rw [List.getD_eq_getElem?_getD]
 cases e : l[k]? with
 | none => show I64 0; unfold I64; omega
 | some z => exact h z (List.mem_of_getElem? e)
/-- An answer of either kind, in one shape. -/
theorem ans_gen {s : SysP} {B n m : Nat} {w : World} {v : Value} (hn : s.cols.toNat = n) (hm : s.rows.length = m) (h : AnsP s B w v) : ∃ (fb : Bool) (p1 : Option Addr) (l1 k1 : Nat) (t2 : ByteArray) (p3 : Option Addr) (l3 k3 : Nat), v = .agg #[.bool fb, .slice p1 l1 k1, .string t2, .slice p3 l3 k3] ∧
  ((fb = true ∧ ∃ (q : Nat) (l : List Int) (d : Int), p1 = some ⟨q, 0, none⟩ ∧ l1 = n ∧ k1 = n + 1 ∧ t2 = intB d ∧ BlkB 9 q (strV (l.map intB ++ [intB d])) w ∧ (∀ z ∈ l, z.natAbs < L100) ∧ d.natAbs < L100 ∧ SolP s l d) ∨
   (fb = false ∧ ∃ (q : Nat) (l : List Int), p3 = some ⟨q, 0, none⟩ ∧ l3 = m ∧ k3 = m ∧ BlkB 9 q (strV (l.map intB)) w ∧ (∀ z ∈ l, z.natAbs < L100) ∧ RefP s l)) := by
 subst hn hm
 rcases h with ⟨q, l, d, rfl, _, hb, hl, hd, hs⟩ | ⟨q, l, rfl, _, hb, hl, hr⟩
 ·exact ⟨_, _, _, _, _, _, _, _, rfl, .inl ⟨rfl, q, l, d, rfl, rfl, rfl, rfl, hb, hl, hd, hs⟩⟩
 ·exact ⟨_, _, _, _, _, _, _, _, rfl, .inr ⟨rfl, q, l, rfl, rfl, rfl, hb, hl, hr⟩⟩
set_option maxRecDepth 100000 in
set_option maxHeartbeats 8000000 in
theorem More_calls (x : NumX) (a b : Option Addr) (c d : Nat) (row col : List Int) (ra qa : Option Addr) (rc qc : Nat) (value : Int) (W : World) (h : NumM W x a b c d) (hr : IntsFrom W ra row) (hrl : row.length ≤ rc) (hrc : (rc : Int) ≤ 9223372036854775807) (hro : ∀ z ∈ row, I64 z)
  (hq : IntsFrom W qa col) (hql : col.length ≤ qc) (hqc : (qc : Int) ≤ 9223372036854775807) (hqo : ∀ z ∈ col, I64 z) (hv : I64 value) (hT : TabP W) (hTB : TabB W) :
  Calls Tryz.prog 8 #[.agg #[.int .i64 x.cols, .int .i64 x.rows, .slice a x.coefs.length c, .slice b x.hidden.length d, .int .i64 x.miss], .slice ra row.length rc, .int .i64 value, .slice qa col.length qc] W fun e w' => e = .returned (.bool true) ∧ Below W.heap.size W w' := by
 have HT := Lib.hid hT
 have HTB := Lib.hid hTB
 have HT0 := Lib.hid hT
 have HTB0 := Lib.hid hTB
 have HMD := Lib.hid (fun w h => made_c x a b c d w h)
 have HROW := Lib.hid hr
 have HCOL := Lib.hid hq
 have HRO := Lib.hid hro
 have HQO := Lib.hid hqo
 obtain ⟨v1, vw1, vw2, vb1, vb2⟩ := val_wrap value
 have HVB := Lib.hid (And.intro vb1 vb2)
 have HPV := Lib.hid (fun w => pick_any value 101 hv.1 hv.2 (by decide) (by decide) w)
 generalize pkN value 101 = pv at *
 obtain ⟨lr, hlr⟩ : ∃ lr, lr = row.length := ⟨_, rfl⟩
 obtain ⟨lq, hlq⟩ : ∃ lq, lq = col.length := ⟨_, rfl⟩
 have HLR := Lib.hid hlr
 have HLQ := Lib.hid hlq
 rw [← hlr] at hrl ⊢
 rw [← hlq] at hql ⊢
 have hrli : (lr : Int) ≤ rc := by omega
 have hqli : (lq : Int) ≤ qc := by omega
 have hbx := alloc_belowL W (.cells #[.int .i64 x.cols, .int .i64 x.rows, .slice a x.coefs.length c, .slice b x.hidden.length d, .int .i64 x.miss] 24)
 have bx : BlkB 24 W.heap.size [.int .i64 x.cols, .int .i64 x.rows, .slice a x.coefs.length c, .slice b x.hidden.length d, .int .i64 x.miss] (W.alloc (.cells #[.int .i64 x.cols, .int .i64 x.rows, .slice a x.coefs.length c, .slice b x.hidden.length d, .int .i64 x.miss] 24)) := heap_alloc_new W _
 have HBX := Lib.hid bx
 have HW := Lib.hid hbx
 have HT := Lib.hid (TabP.via hbx HT.out)
 have HTB := Lib.hid (TabB.via hbx HTB.out)
 have HNM := Lib.hid (h.via hbx)
 have HNB := Lib.hid x.n_bounds
 have HMB := Lib.hid x.m_bounds
 clear h hT hTB hbx bx hr hq hro hqo hv hrl hql hlr hlq
 generalize hn1 : x.coefs.length = n1 at *
 generalize hn2 : x.hidden.length = n2 at *
 generalize hx1 : x.cols = xc at *
 generalize hx2 : x.rows = xr at *
 generalize hx3 : x.miss = xm at *
 clear hn1 hn2 hx1 hx2 hx3
 go_enter Tryz.func8, Tryz.ntmps8
 go_upto_region 1 with fail
 generalize W.alloc (.cells #[.int .i64 xc, .int .i64 xr, .slice a n1 c, .slice b n2 d, .int .i64 xm] 24) = w0 at *
 go_wp2_with fail
 refine (sane_c w0 HT.out HTB.out).mono ?_
 rintro e w1 ⟨rfl, hB⟩
 have HBX := Lib.hid (HBX.out.via hB)
 have HW := Lib.hid (belowVia hB HW.out)
 have HT := Lib.hid (TabP.via hB HT.out)
 have HTB := Lib.hid (TabB.via hB HTB.out)
 have HNM := Lib.hid (HNM.out.via hB)
 clear hB
 have c0 := HBX.out.cell (i := 0) rfl
 have c1 := HBX.out.cell (i := 1) rfl
 have c2 := HBX.out.cell (i := 2) rfl
 have c3 := HBX.out.cell (i := 3) rfl
 have c4 := HBX.out.cell (i := 4) rfl
 go_wp2_with fail
 refine (HMD.out _ HNM.out).mono ?_
 rintro e w2 ⟨⟨Ls, sa, sc, rfl, hLs, hSO, hs⟩, hB⟩
 have HLS := Lib.hid hLs
 have HW := Lib.hid (belowVia hB HW.out)
 have HT := Lib.hid (TabP.via hB HT.out)
 have HTB := Lib.hid (TabB.via hB HTB.out)
 have HPW : Hid (W.heap.size ≤ w2.heap.size) := Lib.hid HW.out.size
 clear hB c0 c1 c2 c3 c4 HMD HBX HNM hLs
 -- the box of s
 have hB := alloc_belowL w2 (.cells #[.int .i64 (x.n : Nat), .slice sa x.m sc] 27)
 have hsb : BlkB 27 w2.heap.size [.int .i64 (x.n : Nat), .slice sa x.m sc] (w2.alloc (.cells #[.int .i64 (x.n : Nat), .slice sa x.m sc] 27)) := heap_alloc_new w2 _
 have hz1 : (w2.alloc (.cells #[.int .i64 (x.n : Nat), .slice sa x.m sc] 27)).heap.size = w2.heap.size + 1 := alloc_sizeL w2 _
 have hsl := hSO.lt
 have hSO := hSO.via hB
 have hs := hs.via hB
 have HW := Lib.hid (belowVia hB HW.out)
 have HT := Lib.hid (TabP.via hB HT.out)
 have HTB := Lib.hid (TabB.via hB HTB.out)
 clear hB
 go_wp2_with fail
 generalize hw3 : w2.alloc (.cells #[.int .i64 (x.n : Nat), .slice sa x.m sc] 27) = w3 at *
 generalize hps : w2.heap.size = ps at *
 clear hw3 hps
 refine (copy_made x sa sc w3 hs).mono ?_
 rintro e w4 ⟨⟨Lt, ta, tc, rfl, hLt, hTO⟩, hB⟩
 have HLT := Lib.hid hLt
 have hTl := hTO.lt
 have hSO := hSO.via hB
 have hsb := hsb.via hB
 have hz4 : ps + 1 ≤ w4.heap.size := by have := hB.size; omega
 have HW := Lib.hid (belowVia hB HW.out)
 have HT := Lib.hid (TabP.via hB HT.out)
 have HTB := Lib.hid (TabB.via hB HTB.out)
 clear hB hs hLt
 rw [hz1] at hTO
 clear hz1
 -- the boxes of t and of the further row
 have hB := alloc_belowL w4 (.cells #[.int .i64 (x.n : Nat), .slice ta x.m tc] 27)
 have htb : BlkB 27 w4.heap.size [.int .i64 (x.n : Nat), .slice ta x.m tc] (w4.alloc (.cells #[.int .i64 (x.n : Nat), .slice ta x.m tc] 27)) := heap_alloc_new w4 _
 have hz5 : (w4.alloc (.cells #[.int .i64 (x.n : Nat), .slice ta x.m tc] 27)).heap.size = w4.heap.size + 1 := alloc_sizeL w4 _
 have hSO := hSO.via hB
 have hsb := hsb.via hB
 have hTO := hTO.via hB
 have HW := Lib.hid (belowVia hB HW.out)
 have HT := Lib.hid (TabP.via hB HT.out)
 have HTB := Lib.hid (TabB.via hB HTB.out)
 clear hB
 go_wp2_with fail
 generalize hw5 : w4.alloc (.cells #[.int .i64 (x.n : Nat), .slice ta x.m tc] 27) = w5 at *
 generalize hpt : w4.heap.size = pt at *
 clear hw5 hpt
 refine (HPV.out _).mono ?_
 rintro e w6 ⟨rfl, rfl⟩

 have hB := alloc_belowL w5 (.cells #[.slice none 0 0, .int .i64 v1] 60)
 have hrb : BlkB 60 (pt + 1) [.slice none 0 0, .int .i64 v1] (w5.alloc (.cells #[.slice none 0 0, .int .i64 v1] 60)) := by rw [← hz5]; exact heap_alloc_new w5 _
 have hz6 : (w5.alloc (.cells #[.slice none 0 0, .int .i64 v1] 60)).heap.size = pt + 1 + 1 := by rw [alloc_sizeL, hz5]
 have H2 : Hid (TwoO (pt + 1) w1.heap.size (ps + 1) Ls Lt (.slice sa x.m sc) (.slice ta x.m tc) (x.n : Nat) (x.n : Nat) ps pt (w5.alloc (.cells #[.slice none 0 0, .int .i64 v1] 60))) := Lib.hid ⟨hSO.via hB, hsl.mono (by omega), hsb.via hB, hTO.via hB, hTl.mono (by omega), htb.via hB, by omega, by omega⟩
 have HSL : Hid (LtN (ps + 1) Ls (.slice sa x.m sc)) := Lib.hid (hsl.mono (by omega))
 have HPP : Hid (ps + 1 ≤ pt ∧ W.heap.size ≤ ps) := Lib.hid ⟨by omega, HPW.out⟩
 have HW := Lib.hid (belowVia hB HW.out)
 have HT := Lib.hid (TabP.via hB HT.out)
 have HTB := Lib.hid (TabB.via hB HTB.out)
 have HRB := Lib.hid hrb
 have HZ : Hid (pt + 1 + 1 ≤ (w5.alloc (.cells #[.slice none 0 0, .int .i64 v1] 60)).heap.size) := Lib.hid (Nat.le_of_eq hz6.symm)
 clear hB hrb hz6 hSO hsl hsb hTO hTl htb hz4 HPV vb1 vb2
 go_wp2_with fail
 clear hz5 vw1 vw2
 generalize w5.alloc (.cells #[.slice none 0 0, .int .i64 v1] 60) = w6 at *

 obtain ⟨j0, hj0, hy0, hy1, hy2⟩ := info_ex inf_int
 obtain ⟨i0, hi0, hz0, hz1, hz2⟩ := info_ex inf_eqn
 have HJ0 := Lib.hid hj0
 have HY0 := Lib.hid hy0
 have HY1 := Lib.hid hy1
 have HY2 := Lib.hid hy2
 have HI0 := Lib.hid hi0
 have HZ0 := Lib.hid hz0
 have HZ1 := Lib.hid hz1
 have HZ2 := Lib.hid hz2
 have HTT := Lib.hid HT.out
 have HTW : Hid (∀ w, Below W.heap.size W w → TabP w ∧ TabB w) := Lib.hid (fun w hB => ⟨TabP.via hB HT0.out, TabB.via hB HTB0.out⟩)
 clear hj0 hy0 hy1 hy2 hi0 hz0 hz1 hz2 HT HTB HTT
 go_loopw [12] (fun i wr => ∃ (k : Nat) (v : Value), k ≤ x.n ∧ i = .int .i64 k ∧ BlkB 60 (pt + 1) [v, .int .i64 v1] wr ∧ wr.ownsRow (pt + 1 + 1) 3 1 v k (intsV (extL row k)) ∧ TwoO (pt + 1) w1.heap.size (ps + 1) Ls Lt (.slice sa x.m sc) (.slice ta x.m tc) (x.n : Nat) (x.n : Nat) ps pt wr ∧ Below W.heap.size W wr ∧ pt + 1 + 1 ≤ wr.heap.size) (fun i _ => x.n - (intOf i).toNat)
 case atStart => exact ⟨0, .slice none 0 0, Nat.zero_le _, rfl, HRB.out, World.ownsRow_nil _ _ _ _, H2.out, HW.out, HZ.out⟩
 case round =>
  clear HRB H2 HW HZ
  obtain ⟨k, v, hk, rfl, hrb, hown, h2, hW, hz⟩ := hrel
  have HRB := Lib.hid hrb
  have HO := Lib.hid hown
  have H2 := Lib.hid h2
  have HW := Lib.hid hW
  have HZ := Lib.hid hz
  have s0 := h2.sb.cell (i := 0) rfl
  have r0 := hrb.cell (i := 0) rfl
  have r1 := hrb.cell (i := 1) rfl
  have rf0 := hrb.froz 0
  clear hrb hown h2 hW hz
  by_cases hlt : k < x.n
  ·as_aux_lemma =>
    have hlt' : (k : Int) < (x.n : Nat) := by omega
    by_cases hkr : k < lr
    ·as_aux_lemma =>
      have hkr' : (k : Int) < lr := by omega
      obtain ⟨g, o, rfl, e0⟩ := (HROW.out.via HW.out).getZ (show k < row.length by have := HLR.out; omega)
      have HEX := ext_yes (show k < row.length by have := HLR.out; omega)
      have HPK := Lib.hid (fun w => pick_any (row.getD k 0) 19 (getD_ok HRO.out k).1 (getD_ok HRO.out k).2 (by decide) (by decide) w)
      obtain ⟨xk, hxk, ew1, ew2⟩ := ext_wrap (row.getD k 0)
      rw [← hxk] at HEX
      generalize row.getD k 0 = rk at *
      generalize pkN rk 19 = pk at *
      clear hxk
      go_wp2_with fail
      refine (HPK.out _).mono ?_
      rintro e w7 ⟨rfl, rfl⟩
      clear HPK e0
      have HN1 : Hid (extX row k = xk) := Lib.hid HEX
      have HR1 : Hid (k + 1 ≤ maxLen) := Lib.hid (by have := HNB.out.2; unfold maxLen; omega)
      have HR2 : Hid ((k + 1) * 8 ≤ 140737488355328) := Lib.hid (by have := HNB.out.2; omega)
      have HLT1 : Hid (∀ g, v.ownBlock = some g → pt + 1 + 1 ≤ g) := Lib.hid (fun g hg => (own_lt HO.out g hg).1)
      go_wp2_with (go_loud (at_builtin; refine wpList_append_own _ rfl _ _ 22 rfl (pt + 1 + 1) 3 j0 (.int .i64 0) 1 8 Tryz.underlying22 HJ0.out HY0.out HY1.out HY2.out rfl (by decide) v k (intsV (extL row k)) (by rfl) (HO.out.alloc _) ⟨wr.heap.size, 0, none⟩ 1 1 [.int .i64 (xk)] (by rfl) rfl (news_intC _ _ _ rfl) (one_intC _) HR1.out HR2.out (Nat.le_trans HZ.out (alloc_belowL wr (.cells #[.int .i64 (xk)] 3)).size) ?_; intro v2 w9 hown9 hgrow9 _; have HO9 := Lib.hid hown9; have H29 := Lib.hid ((H2.out.keep (KeepN.below (alloc_belowL wr (.cells #[.int .i64 (xk)] 3)) (by have := HZ.out; omega))).keep (KeepN.grown hgrow9 (by have := HZ.out; have := (alloc_belowL wr (.cells #[.int .i64 (xk)] 3)).size; omega) (fun g e => by have := HLT1.out g e; omega))); have HW9 := Lib.hid ((belowVia (alloc_belowL wr (.cells #[.int .i64 (xk)] 3)) HW.out).grown hgrow9 (Nat.le_trans HW.out.size (alloc_belowL wr (.cells #[.int .i64 (xk)] 3)).size) (fun g e => by have := HLT1.out g e; have := HPP.out; omega)); have HY9 := Lib.hid (kept_blk hgrow9 (HRB.out.via (alloc_belowL wr (.cells #[.int .i64 (xk)] 3))) (fun g e => by have := HLT1.out g e; omega)); have HZ9 : Hid (pt + 1 + 1 ≤ w9.heap.size) := Lib.hid (Nat.le_trans HZ.out (Nat.le_trans (alloc_belowL wr (.cells #[.int .i64 (xk)] 3)).size hgrow9.size)); clear hown9 hgrow9; have q0 := HY9.out.cell (i := 0) rfl; have qf := HY9.out.froz 0; obtain ⟨a2, c2, rfl, _⟩ := own_cells HO9.out))
      go_roundw
      case rel =>
       refine ⟨k + 1, _, by omega, by go_num, HY9.out.set 0 _, ?_, H29.out.keep (KeepN.set w9 (Nat.le_refl _) 0 _), HW9.out.setCell (p := ⟨pt + 1, 0, none⟩) (by have := HPP.out; show W.heap.size ≤ pt + 1; omega) _, by rw [World.size_setCell]; exact HZ9.out⟩
       rw [ext_snoc, HN1.out]
       exact own_set HO9.out (fun g hg => by have := (own_lt HO9.out g hg).1; omega)
      case measure => simp [intOf]; omega
    ·as_aux_lemma =>
      have hkr' : (lr : Int) ≤ k := by omega
      have HEX := ext_no (show ¬ k < row.length by have := HLR.out; omega)
      have HN1 : Hid (extX row k = 0) := Lib.hid HEX
      have HR1 : Hid (k + 1 ≤ maxLen) := Lib.hid (by have := HNB.out.2; unfold maxLen; omega)
      have HR2 : Hid ((k + 1) * 8 ≤ 140737488355328) := Lib.hid (by have := HNB.out.2; omega)
      have HLT1 : Hid (∀ g, v.ownBlock = some g → pt + 1 + 1 ≤ g) := Lib.hid (fun g hg => (own_lt HO.out g hg).1)
      go_wp2_with (go_loud (at_builtin; refine wpList_append_own _ rfl _ _ 22 rfl (pt + 1 + 1) 3 j0 (.int .i64 0) 1 8 Tryz.underlying22 HJ0.out HY0.out HY1.out HY2.out rfl (by decide) v k (intsV (extL row k)) (by rfl) (HO.out.alloc _) ⟨wr.heap.size, 0, none⟩ 1 1 [.int .i64 (0)] (by rfl) rfl (news_intC _ _ _ rfl) (one_intC _) HR1.out HR2.out (Nat.le_trans HZ.out (alloc_belowL wr (.cells #[.int .i64 (0)] 3)).size) ?_; intro v2 w9 hown9 hgrow9 _; have HO9 := Lib.hid hown9; have H29 := Lib.hid ((H2.out.keep (KeepN.below (alloc_belowL wr (.cells #[.int .i64 (0)] 3)) (by have := HZ.out; omega))).keep (KeepN.grown hgrow9 (by have := HZ.out; have := (alloc_belowL wr (.cells #[.int .i64 (0)] 3)).size; omega) (fun g e => by have := HLT1.out g e; omega))); have HW9 := Lib.hid ((belowVia (alloc_belowL wr (.cells #[.int .i64 (0)] 3)) HW.out).grown hgrow9 (Nat.le_trans HW.out.size (alloc_belowL wr (.cells #[.int .i64 (0)] 3)).size) (fun g e => by have := HLT1.out g e; have := HPP.out; omega)); have HY9 := Lib.hid (kept_blk hgrow9 (HRB.out.via (alloc_belowL wr (.cells #[.int .i64 (0)] 3))) (fun g e => by have := HLT1.out g e; omega)); have HZ9 : Hid (pt + 1 + 1 ≤ w9.heap.size) := Lib.hid (Nat.le_trans HZ.out (Nat.le_trans (alloc_belowL wr (.cells #[.int .i64 (0)] 3)).size hgrow9.size)); clear hown9 hgrow9; have q0 := HY9.out.cell (i := 0) rfl; have qf := HY9.out.froz 0; obtain ⟨a2, c2, rfl, _⟩ := own_cells HO9.out))
      go_roundw
      case rel =>
       refine ⟨k + 1, _, by omega, by go_num, HY9.out.set 0 _, ?_, H29.out.keep (KeepN.set w9 (Nat.le_refl _) 0 _), HW9.out.setCell (p := ⟨pt + 1, 0, none⟩) (by have := HPP.out; show W.heap.size ≤ pt + 1; omega) _, by rw [World.size_setCell]; exact HZ9.out⟩
       rw [ext_snoc, HN1.out]
       exact own_set HO9.out (fun g hg => by have := (own_lt HO9.out g hg).1; omega)
      case measure => simp [intOf]; omega
  ·as_aux_lemma =>
    obtain rfl : k = x.n := by omega
    have t0 := H2.out.tb.cell (i := 0) rfl
    have t1 := H2.out.tb.cell (i := 1) rfl
    have tf1 := H2.out.tb.froz 1
    obtain ⟨va, vc, rfl, _⟩ := own_cells HO.out

    have hlt0 : Lt.length = x.m := by have := congrArg List.length HLT.out; rw [List.length_map, made_rows] at this; exact this
    have HTO : Hid (wr.ownsRow (ps + 1) 60 2 (.slice ta x.m tc) x.m (rowsU Lt)) := Lib.hid (by have := H2.out.t.top; rw [hlt0] at this; exact this)
    have HL0 := Lib.hid hlt0
    have HR1 : Hid (x.m + 1 ≤ maxLen) := Lib.hid (by have := HMB.out.2; unfold maxLen; omega)
    have HR2 : Hid ((x.m + 1) * 32 ≤ 140737488355328) := Lib.hid (by have := HMB.out.2; omega)
    have HTP : Hid (∀ g, (Value.slice ta x.m tc).ownBlock = some g → ps + 1 ≤ g ∧ pt ≠ g) := Lib.hid (fun g e => ⟨(own_lt H2.out.t.top g e).1, fun e2 => own_box H2.out.t.top H2.out.tb eq_ne_sys g e e2.symm⟩)
    have HR3 : Hid (ps + 1 ≤ (wr.alloc (.cells #[.slice va x.n vc, .int .i64 v1] 60)).heap.size) := Lib.hid (by have := HZ.out; have := HPP.out; have := (alloc_belowL wr (.cells #[.slice va x.n vc, .int .i64 v1] 60)).size; omega)
    clear hlt0 hlt hk
    go_wp2_with (go_loud (at_builtin; refine wpList_append_own _ rfl _ _ 25 rfl (ps + 1) 60 i0 (.agg #[.slice none 0 0, .int .i64 0]) 2 32 Tryz.underlying25 HI0.out HZ0.out HZ1.out HZ2.out rfl (by decide) (.slice ta x.m tc) x.m (rowsU Lt) (by rfl) (HTO.out.alloc _) ⟨wr.heap.size, 0, none⟩ 1 1 [.slice va x.n vc, .int .i64 v1] (by rfl) rfl (news_two wr _ _ _) (one_two _ _ _ _) HR1.out HR2.out HR3.out ?_; intro v2 w9 hown9 hgrow9 _; have HO9 := Lib.hid hown9; have HG9 := Lib.hid hgrow9; have HS9 := Lib.hid (kept_blk hgrow9 (H2.out.tb.via (alloc_belowL wr (.cells #[.slice va x.n vc, .int .i64 v1] 60))) (fun g e => (HTP.out g e).2)); clear hown9 hgrow9; have q1 := HS9.out.cell (i := 1) rfl; have qf := HS9.out.froz 1; obtain ⟨a2, c2, rfl, _⟩ := own_cells HO9.out; have s0n : (w9.setCell ⟨pt, 1, none⟩ (.slice a2 (x.m + 1) c2)).cell? ⟨ps, 0, none⟩ = some (.int .i64 (x.n : Nat)) := sbox_kept H2.out.sb HG9.out HTP.out HPP.out.1 (Nat.lt_of_lt_of_le H2.out.sp (by have := HZ.out; omega)) 0 rfl; have s1n : (w9.setCell ⟨pt, 1, none⟩ (.slice a2 (x.m + 1) c2)).cell? ⟨ps, 1, none⟩ = some (.slice sa x.m sc) := sbox_kept H2.out.sb HG9.out HTP.out HPP.out.1 (Nat.lt_of_lt_of_le H2.out.sp (by have := HZ.out; omega)) 1 rfl))
    have hal := alloc_belowL wr (.cells #[.slice va x.n vc, .int .i64 v1] 60)
    have hks : KeepN (ps + 1) wr (w9.setCell ⟨pt, 1, none⟩ (.slice a2 (x.m + 1) c2)) := ((KeepN.below hal (by have := HZ.out; have := HPP.out; omega)).trans (KeepN.grown HG9.out HR3.out (fun g e => (HTP.out g e).1))).trans (KeepN.set w9 (by have := HPP.out; omega) 1 _)
    obtain ⟨rt, hrt⟩ : ∃ rt : RowX, rt = ⟨extL row x.n, v1, va, vc⟩ := ⟨_, rfl⟩
    have hrl : rt.coef.length = x.n := by rw [hrt]; simp [extL]
    have hrv : rt.v = .slice va x.n vc := by unfold RowX.v; rw [hrl, hrt]
    have hro : (wr.alloc (.cells #[.slice va x.n vc, .int .i64 v1] 60)).ownsRow (pt + 1 + 1) 3 1 rt.v rt.coef.length (intsV rt.coef) := by rw [hrv, hrl, hrt]; exact HO.out.alloc _
    have hTn := (H2.out.t.via hal).push (r := rt) (own_base hro (by have := HPP.out; omega)) (fun q hq g e1 e2 => by
     have := H2.out.tl.2 q hq g e1
     have := (own_lt hro g e2).1
     omega) (by rw [HL0.out]; show w9.ownsRow _ _ _ _ _ (rowsU Lt ++ [rt.v, .int .i64 rt.val]); rw [hrv, hrt]; exact HO9.out) HG9.out
    have hTs := hTn.setBox (i := 1) (u := .slice a2 (x.m + 1) c2) HS9.out
    have htb := HS9.out.set 1 (.slice a2 (x.m + 1) c2)
    have hW9 : Below W.heap.size W (w9.setCell ⟨pt, 1, none⟩ (.slice a2 (x.m + 1) c2)) := ((belowVia hal HW.out).grown HG9.out (by have := HPP.out; have := HR3.out; omega) (fun g e => by have := (HTP.out g e).1; have := HPP.out; omega)).setCell (p := ⟨pt, 1, none⟩) (by have := HPP.out; show W.heap.size ≤ pt; omega) _
    have hsS := H2.out.s.keepN HSL.out hks
    have hsb := hks.blk H2.out.sb (by omega)
    have hptl : pt < (w9.setCell ⟨pt, 1, none⟩ (.slice a2 (x.m + 1) c2)).heap.size := htb.lt
    have hpsl := hsb.lt
    have hmapT : (Lt ++ [rt]).map RowX.p = (moreT x row v1).rows := by rw [List.map_append, HLT.out, hrt]; rfl
    have HTT := Lib.hid hmapT
    have H3 : Hid (TwoO (w9.setCell ⟨pt, 1, none⟩ (.slice a2 (x.m + 1) c2)).heap.size w1.heap.size (ps + 1) Ls (Lt ++ [rt]) (.slice sa x.m sc) (.slice a2 (x.m + 1) c2) (x.n : Nat) (x.n : Nat) ps pt (w9.setCell ⟨pt, 1, none⟩ (.slice a2 (x.m + 1) c2))) := Lib.hid ⟨hsS, HSL.out.mono hpsl, hsb, hTs, hTs.lt, htb, hpsl, hptl⟩
    have HW := Lib.hid hW9
    clear hal hks hrl hrv hro hTn hTs htb hW9 hsS hsb hptl hpsl hmapT HS9 HG9 HO9 HR1 HR2 HR3 HTP HTO H2 HRB HO HZ s0 s0n s1n q1 qf r0 r1 rf0 t0 t1 tf1 hrt
    generalize w9.setCell ⟨pt, 1, none⟩ (.slice a2 (x.m + 1) c2) = w10 at *
    refine (copy_made x sa sc w10 (sys_of H3.out.s HLS.out)).mono ?_
    rintro e w11 ⟨⟨Lu, ua, uc, rfl, hLu, hUO⟩, hB⟩
    have HLU := Lib.hid hLu
    have h3 := H3.out.keep (KeepN.below hB (Nat.le_refl _))
    have HW := Lib.hid (belowVia hB HW.out)
    have hbu : w10.heap.size ≤ w11.heap.size := hB.size
    clear hB hLu H3
    generalize hbn : w10.heap.size = bu at *
    clear hbn
    -- the box of u
    have hB := alloc_belowL w11 (.cells #[.int .i64 (x.n : Nat), .slice ua x.m uc] 27)
    have hub : BlkB 27 w11.heap.size [.int .i64 (x.n : Nat), .slice ua x.m uc] (w11.alloc (.cells #[.int .i64 (x.n : Nat), .slice ua x.m uc] 27)) := heap_alloc_new w11 _
    have hz := alloc_sizeL w11 (.cells #[.int .i64 (x.n : Nat), .slice ua x.m uc] 27)
    have h3q := h3
    have hUOq := hUO
    have HWq := Lib.hid HW.out
    have h3 := h3.keep (KeepN.below hB hbu)
    have hn1 : wrap64 (((x.n : Nat) : Int) + 1) = ((x.n + 1 : Nat) : Int) := by have := HNB.out.2; unfold wrap64; omega
    have s0 := h3.sb.cell (i := 0) rfl
    have u0 := hub.cell (i := 0) rfl
    have uf := hub.froz 0
    clear hB
    go_wp2_with fail
    clear s0 u0 uf hn1 hub
    have hB := alloc_belowL w11 (.cells #[.int .i64 (((x.n : Nat) : Int) + 1), .slice ua x.m uc] 27)
    have hub : BlkB 27 w11.heap.size [.int .i64 (((x.n : Nat) : Int) + 1), .slice ua x.m uc] (w11.alloc (.cells #[.int .i64 (((x.n : Nat) : Int) + 1), .slice ua x.m uc] 27)) := heap_alloc_new w11 _
    have h3 := h3q.keep (KeepN.below hB hbu)
    have hUO := hUOq.via hB
    have HPU : Hid (bu ≤ w11.heap.size ∧ W.heap.size ≤ bu) := Lib.hid ⟨hbu, by have := h3.sp; have := HPP.out; omega⟩
    have HW := Lib.hid (belowVia hB HWq.out)
    have hzu : bu ≤ (w11.alloc (.cells #[.int .i64 (((x.n : Nat) : Int) + 1), .slice ua x.m uc] 27)).heap.size := Nat.le_trans hbu hB.size
    clear hB hz h3q hUOq HWq
    generalize hw12 : w11.alloc (.cells #[.int .i64 (((x.n : Nat) : Int) + 1), .slice ua x.m uc] 27) = w13 at *
    generalize hpu : w11.heap.size = pu at *
    clear hw12 hpu
    have HUB : Hid (BlkB 27 pu [.int .i64 (((x.n : Nat) : Int) + 1), .slice ua x.m uc] w13) := Lib.hid hub
    have H3 := Lib.hid h3
    have HU : Hid (∃ L : List RowX, L.map RowX.p = (List.range x.m).map (moreW x col 0) ∧ SysO bu w13 L (.slice ua x.m uc)) := Lib.hid ⟨Lu, by rw [moreW_zero]; exact HLU.out, hUO⟩
    have HZ := Lib.hid hzu
    obtain ⟨ug, hua⟩ : ∃ ug, ua = some ⟨ug, 0, none⟩ := by
     obtain ⟨a', c', hv', _, _, hx⟩ := own_cells hUO.top
     injection hv' with q1 q2 q3
     rw [q1]
     rcases hx with hx | ⟨g, e, _⟩
     ·have h1 := congrArg List.length hx
      rw [rowsU_len] at h1
      have h2 := congrArg List.length HLU.out
      rw [List.length_map, made_rows] at h2
      have := HMB.out.1
      simp at h1; omega
     ·exact ⟨g, e⟩
    subst hua
    have hucap : (x.m : Int) ≤ uc := by
     obtain ⟨a', c', hv', hc', _, _⟩ := own_cells hUO.top
     injection hv' with q1 q2 q3
     have h2 := congrArg List.length HLU.out
     rw [List.length_map, made_rows] at h2
     omega
    have hmi : ((x.m : Nat) : Int) ≤ 5 := by have := HMB.out.2; omega
    have hni : ((x.n : Nat) : Int) ≤ 8 := by have := HNB.out.2; omega
    clear hUO hub h3 hzu hbu HLU
    go_loopw [15] (fun i wr => ∃ k : Nat, k ≤ x.m ∧ i = .int .i64 k ∧ (∃ L : List RowX, L.map RowX.p = (List.range x.m).map (moreW x col k) ∧ SysO bu wr L (.slice (some ⟨ug, 0, none⟩) x.m uc)) ∧ BlkB 27 pu [.int .i64 (((x.n : Nat) : Int) + 1), .slice (some ⟨ug, 0, none⟩) x.m uc] wr ∧ TwoO bu w1.heap.size (ps + 1) Ls (Lt ++ [rt]) (.slice sa x.m sc) (.slice a2 (x.m + 1) c2) (x.n : Nat) (x.n : Nat) ps pt wr ∧ Below W.heap.size W wr ∧ bu ≤ wr.heap.size) (fun i _ => x.m - (intOf i).toNat)
    case atStart => exact ⟨0, Nat.zero_le _, rfl, HU.out, HUB.out, H3.out, HW.out, HZ.out⟩
    case round =>
     clear HU HUB H3 HW HZ
     obtain ⟨k, hk, rfl, ⟨L, hL, hUO⟩, hub, h3, hW, hz⟩ := hrel
     have HW := Lib.hid hW
     have HZ := Lib.hid hz
     have d0 := hub.cell (i := 1) rfl
     have hll : L.length = x.m := by have := congrArg List.length hL; simpa using this
     by_cases hlt : k < x.m
     ·as_aux_lemma =>
       have hlt' : (k : Int) < (x.m : Nat) := by omega
       have hkL : k < L.length := by omega
       obtain ⟨q, hq⟩ : ∃ q, q = L[k] := ⟨_, rfl⟩
       have hqp : q.p = rowX x k := by
        have h1 : (L.map RowX.p)[k]? = some q.p := by rw [List.getElem?_map, List.getElem?_eq_getElem hkL, hq]; rfl
        rw [hL, List.getElem?_map, List.getElem?_range hlt] at h1
        have h2 := Option.some.inj h1
        rw [← h2]; unfold moreW; rw [if_neg (by omega)]
       have hqc : q.coef = (rowX x k).1 := by rw [← hqp]; rfl
       have hqv : q.val = (rowX x k).2 := by rw [← hqp]; rfl
       have hqn : q.coef.length = x.n := by rw [hqc, rowX_len]
       have hqm : q ∈ L := by rw [hq]; exact List.getElem_mem hkL
       have hqo := hUO.rows q hqm
       rw [hqn] at hqo
       obtain ⟨qa2, qc2, hqv2, hqcap, hqmx, _⟩ := own_cells hqo
       have d1 : wr.cell? ⟨ug, k * 2, none⟩ = some (.slice qa2 x.n qc2) := by
        obtain ⟨a', c', hv', _, _, hx⟩ := own_cells hUO.top
        injection hv' with q1 q2 q3
        rcases hx with hx | ⟨g, e, _, _, hc⟩
        ·have h1 := congrArg List.length hx
         rw [rowsU_len] at h1
         simp at h1; omega
        ·rw [← q1] at e
         cases e
         rw [hc _ _ (rowsU_get hkL).1, ← hq, hqv2]
       have hqcapi : ((x.n : Nat) : Int) ≤ qc2 := by omega
       have hqmxi : (qc2 : Int) ≤ 9223372036854775807 := hqmx
       have HQ : Hid (q = L[k] ∧ q.val = (rowX x k).2 ∧ q.coef = (rowX x k).1) := Lib.hid ⟨hq, hqv, hqc⟩
       have HQM : Hid (q ∈ L) := Lib.hid hqm
       have HQN : Hid (q.coef.length = x.n) := Lib.hid hqn
       have HKL : Hid (k < L.length) := Lib.hid hkL
       have HQV : Hid (q.v = .slice qa2 x.n qc2) := Lib.hid hqv2
       have HLM := Lib.hid hL
       have HLL := Lib.hid hll
       clear hqp hqc hqv hqn hqm hqcap hqmx hq hqv2 hL hll
       by_cases hkr : k < lq
       ·as_aux_lemma =>
         have hkr' : (k : Int) < lq := by omega
         obtain ⟨g, o, rfl, e0⟩ := (HCOL.out.via HW.out).getZ (show k < col.length by have := HLQ.out; omega)
         have HEX := ext_yes (show k < col.length by have := HLQ.out; omega)
         have HPK := Lib.hid (fun w => pick_any (col.getD k 0) 19 (getD_ok HQO.out k).1 (getD_ok HQO.out k).2 (by decide) (by decide) w)
         obtain ⟨xk, hxk, ew1, ew2⟩ := ext_wrap (col.getD k 0)
         rw [← hxk] at HEX
         generalize col.getD k 0 = rk at *
         generalize pkN rk 19 = pk at *
         clear hxk
         go_wp2_with fail
         refine (HPK.out _).mono ?_
         rintro e w14 ⟨rfl, rfl⟩
         clear HPK e0
         go_wp2_with fail
         clear ew1 ew2

         refine wp_region_K (fun w' => w'.cell? ⟨pu, 1, none⟩ = some (.slice (some ⟨ug, 0, none⟩) x.m uc) ∧ w'.cell? ⟨ug, k * 2, none⟩ = some (.slice qa2 x.n qc2)) 14 (by kernel_rfl) ?_
         have hWW := HW.out
         have hD : Below wr.heap.size wr wr.drew := (Below.refl wr.heap.size wr).drew
         have d0 := keptBelow hD d0
         have d1 := keptBelow hD d1
         have hub := hub.via hD
         have hUO := hUO.via hD
         have h3 := h3.keep (KeepN.below hD hz)
         have hqo := owns_belowR hqo hD
         have hWW := belowVia hD hWW
         have hz : bu ≤ wr.drew.heap.size := Nat.le_trans hz hD.size
         generalize wr.drew = wd at *
         clear hD
         refine wpK_tk (i := 0) (d := some 85) (v := ?_) rfl rfl (.inl ⟨by rfl, fun w hw => ?_⟩) ⟨d0, d1⟩ ?_
         rotate_left
         ·clear hw; go_simp; with_reducible rfl
         try simp only [Act.put, tA, tB, tC]
         refine wpK_tk (i := 1) (d := some 86) (v := ?_) rfl rfl (.inl ⟨by rfl, fun w hw => ?_⟩) ⟨d0, d1⟩ ?_
         rotate_left
         ·(obtain ⟨_, _⟩ := hw); go_simp; with_reducible rfl
         try simp only [Act.put, tA, tB, tC]
         refine wpK_tk (i := 2) (d := some 87) (v := ?_) rfl rfl (.inl ⟨by rfl, fun w hw => ?_⟩) ⟨d0, d1⟩ ?_
         rotate_left
         ·clear hw; go_simp; with_reducible rfl
         try simp only [Act.put, tA, tB, tC]
         refine wpK_tk (i := 3) (d := some 88) (v := ?_) rfl rfl (.inl ⟨by rfl, fun w hw => ?_⟩) ⟨d0, d1⟩ ?_
         rotate_left
         ·clear hw; go_simp; with_reducible rfl
         try simp only [Act.put, tA, tB, tC]
         refine wpK_tk (i := 4) (d := some 89) (v := ?_) rfl rfl (.inl ⟨by rfl, fun w hw => ?_⟩) ⟨d0, d1⟩ ?_
         rotate_left
         ·(obtain ⟨_, _⟩ := hw); go_simp; with_reducible rfl
         try simp only [Act.put, tA, tB, tC]
         refine wpK_tk (i := 5) (d := some 90) (v := ?_) rfl rfl (.inl ⟨by rfl, fun w hw => ?_⟩) ⟨d0, d1⟩ ?_
         rotate_left
         ·clear hw; go_simp; with_reducible rfl
         try simp only [Act.put, tA, tB, tC]
         refine wpK_tk (i := 6) (d := some 91) (v := ?_) rfl rfl (.inl ⟨by rfl, fun w hw => ?_⟩) ⟨d0, d1⟩ ?_
         rotate_left
         ·clear hw; go_simp; with_reducible rfl
         try simp only [Act.put, tA, tB, tC]
         refine wpK_tk (i := 7) (d := some 92) (v := ?_) rfl rfl (.inl ⟨by rfl, fun w hw => ?_⟩) ⟨d0, d1⟩ ?_
         rotate_left
         ·clear hw; go_simp; with_reducible rfl
         try simp only [Act.put, tA, tB, tC]
         refine wpK_tk (i := 8) (d := some 93) (v := ?_) rfl rfl (.inl ⟨by rfl, fun w hw => ?_⟩) ⟨d0, d1⟩ ?_
         rotate_left
         ·(obtain ⟨_, _⟩ := hw); go_simp; with_reducible rfl
         try simp only [Act.put, tA, tB, tC]
         refine wpK_tk (i := 9) (d := some 94) (v := ?_) rfl rfl (.inl ⟨by rfl, fun w hw => ?_⟩) ⟨d0, d1⟩ ?_
         rotate_left
         ·clear hw; go_simp; with_reducible rfl
         try simp only [Act.put, tA, tB, tC]
         refine wpK_one (i := 10) (by kernel_rfl) rfl rfl ?_
         go_simp
         have hBx := alloc_belowL wd (.cells #[.int .i64 (xk)] 3)
         have d0 := keptBelow hBx d0
         have d1 := keptBelow hBx d1
         have hub := hub.via hBx
         have hUO := hUO.via hBx
         have h3 := h3.keep (KeepN.below hBx hz)
         have hqo := owns_belowR hqo hBx
         have hWW := belowVia hBx hWW
         have hz : bu ≤ (wd.alloc (.cells #[.int .i64 (xk)] 3)).heap.size := Nat.le_trans hz hBx.size
         have hnw := news_intC wd (xk) 3 (b := wd.heap.size) rfl
         clear hBx
         generalize wd.heap.size = p10 at *
         generalize wd.alloc (.cells #[.int .i64 (xk)] 3) = wf at *
         refine ⟨⟨d0, d1⟩, ?_⟩
         try simp only [Act.put, tA, tB, tC]
         refine wpK_append (i := 11) (dt := 96) (by kernel_rfl) rfl rfl rfl _ _ _ rfl bu 3 j0 (.int .i64 0) 1 8 Tryz.underlying22 HJ0.out HY0.out HY1.out HY2.out rfl (by decide) (.slice qa2 x.n qc2) x.n (intsV q.coef) rfl (by rw [← HQV.out]; exact hqo) ⟨p10, 0, none⟩ 1 1 [.int .i64 (xk)] rfl rfl hnw (one_intC _) (by decide) (by have := HNB.out.2; unfold maxLen; omega) (by have := HNB.out.2; omega) hz ?_
         intro g' c' wg hown' hgr hat hlt9
         have hqol := own_lt hqo
         rw [HQV.out] at hqol
         have hkb : KeepN bu wf wg := KeepN.grown hgr hz (fun p e => (hqol p e).1)
         have hub0 : ∀ p, (Value.slice qa2 x.n qc2).ownBlock = some p → pu ≠ p := fun p e e2 => by
          rw [← HQV.out] at e
          exact own_box hqo hub int_ne_sys p e e2.symm
         have hug0 : ∀ p, (Value.slice qa2 x.n qc2).ownBlock = some p → ug ≠ p := fun p e e2 => by
          rw [← HQV.out] at e
          subst e2
          exact hUO.free HQM.out ug e rfl
         have d0 := kept_own hgr d0 hub0
         have d1 := kept_own hgr d1 hug0
         have hub := kept_blk hgr hub hub0
         have h3 := h3.keep hkb
         have hWW := hWW.grown hgr (by have := HPU.out; omega) (fun p e => by have := (hqol p e).1; have := HPU.out; omega)
         have hzg : bu ≤ wg.heap.size := Nat.le_trans hz hgr.size
         have htopg : wg.ownsRow bu 60 2 (.slice (some ⟨ug, 0, none⟩) x.m uc) L.length (rowsU L) := own_keep hUO.top (fun p e => hgr.block p (own_lt hUO.top p e).2 (fun e2 => by cases e; exact hug0 ug e2.symm rfl))
         have hfz : wg.frozen? ⟨ug, k * 2, none⟩ = false := by
          have h9 := htopg
          rw [HLL.out] at h9
          exact own_frozen h9 (k * 2)
         have hcl : ((q.coef ++ [xk]).length : Nat) = x.n + 1 := by rw [List.length_append, HQN.out]; rfl
         have hrv : RowX.v ⟨q.coef ++ [xk], q.val, some ⟨g', 0, none⟩, c'⟩ = .slice (some ⟨g', 0, none⟩) (x.n + 1) c' := by unfold RowX.v; rw [hcl]
         have hset := hUO.setRow (k := k) (r := ⟨q.coef ++ [xk], q.val, some ⟨g', 0, none⟩, c'⟩) (q := q) (w' := wg) HKL.out HLL.out.symm (by rw [List.getD_eq_getElem?_getD, List.getElem?_eq_getElem HKL.out]; exact HQ.out.1) rfl (by rw [hrv, hcl]; show wg.ownsRow _ _ _ _ _ (intsV (q.coef ++ [xk])); rw [show intsV (q.coef ++ [xk]) = intsV q.coef ++ [.int .i64 (xk)] by simp [intsV]]; exact hown') (by rw [HQV.out]; exact hgr) (by rw [hrv, HQV.out]; rcases hat with h | h; exact .inl h.symm; exact .inr (by show some g' = _; rw [h]))
         rw [hrv] at hset
         refine ⟨(fun _ => ⟨d0, d1⟩), ?_⟩
         try simp only [Act.put, tA, tB, tC]
         refine wpK_takeP (i := 12) (d := some 97) (v := ?_) rfl (by kernel_rfl) (by kernel_rfl) (by kernel_rfl) (by kernel_rfl) rfl (fun _ _ _ h => h) (.inl ⟨by rfl, fun w hw => ?_⟩) (fun h => ⟨d0, d1⟩) ?_
         rotate_left
         ·clear hw; go_simp; with_reducible rfl
         try simp only [Act.put, tA, tB, tC]
         refine wpK_tk (i := 13) (d := some 98) (v := ?_) rfl rfl (.inl ⟨by rfl, fun w hw => ?_⟩) ⟨d0, d1⟩ ?_
         rotate_left
         ·clear hw; go_simp; with_reducible rfl
         try simp only [Act.put, tA, tB, tC]
         refine wpK_store1 (i := 14) (by kernel_rfl) rfl rfl rfl (by kernel_rfl) (by kernel_rfl) _ _ _ rfl ug (k * 2) (.slice (some ⟨g', 0, none⟩) (x.n + 1) c') rfl rfl rfl (by rw [d1]; rfl) hfz (by kernel_rfl) rfl ?_
         have hugb : bu ≤ ug := (own_lt htopg ug rfl).1
         have HS1 := Lib.hid hset
         have HS2 : Hid (BlkB 27 pu [.int .i64 (((x.n : Nat) : Int) + 1), .slice (some ⟨ug, 0, none⟩) x.m uc] (wg.setCell ⟨ug, k * 2, none⟩ (.slice (some ⟨g', 0, none⟩) (x.n + 1) c'))) := Lib.hid (hub.other (fun e => own_box htopg hub eq_ne_sys ug rfl e.symm))
         have HS3 := Lib.hid (h3.keep (KeepN.set wg hugb (k * 2) (.slice (some ⟨g', 0, none⟩) (x.n + 1) c')))
         have HS4 := Lib.hid (hWW.setCell (p := ⟨ug, k * 2, none⟩) (by have := HPU.out; show W.heap.size ≤ ug; omega) (.slice (some ⟨g', 0, none⟩) (x.n + 1) c'))
         have HS5 : Hid (bu ≤ (wg.setCell ⟨ug, k * 2, none⟩ (.slice (some ⟨g', 0, none⟩) (x.n + 1) c')).heap.size) := Lib.hid (by rw [World.size_setCell]; exact hzg)
         have HS6 : Hid ((L.set k ⟨q.coef ++ [xk], q.val, some ⟨g', 0, none⟩, c'⟩).map RowX.p = (List.range x.m).map (moreW x col (k + 1))) := Lib.hid (by
          rw [List.map_set, HLM.out, ← moreW_set]
          congr 1
          show (q.coef ++ [xk], q.val) = moreR x col k
          unfold moreR
          rw [HEX, HQ.out.2.1, HQ.out.2.2])
         clear hset hub h3 hWW hzg htopg hfz hcl hrv hkb hqol hub0 hug0 hown' hgr hat hlt9 hnw d0 d1 hqo hUO hz
         generalize wg.setCell ⟨ug, k * 2, none⟩ (.slice (some ⟨g', 0, none⟩) (x.n + 1) c') = wz at *
         go_wp2_with fail
         go_roundw
         case rel => exact ⟨k + 1, by omega, by go_num, ⟨_, HS6.out, HS1.out⟩, HS2.out, HS3.out, HS4.out, HS5.out⟩
         case measure => simp [intOf]; omega
       ·as_aux_lemma =>
         have hkr' : (lq : Int) ≤ k := by omega
         have HEX := ext_no (show ¬ k < col.length by have := HLQ.out; omega)
         go_wp2_with fail

         refine wp_region_K (fun w' => w'.cell? ⟨pu, 1, none⟩ = some (.slice (some ⟨ug, 0, none⟩) x.m uc) ∧ w'.cell? ⟨ug, k * 2, none⟩ = some (.slice qa2 x.n qc2)) 14 (by kernel_rfl) ?_
         have hWW := HW.out
         have hD : Below wr.heap.size wr wr.drew := (Below.refl wr.heap.size wr).drew
         have d0 := keptBelow hD d0
         have d1 := keptBelow hD d1
         have hub := hub.via hD
         have hUO := hUO.via hD
         have h3 := h3.keep (KeepN.below hD hz)
         have hqo := owns_belowR hqo hD
         have hWW := belowVia hD hWW
         have hz : bu ≤ wr.drew.heap.size := Nat.le_trans hz hD.size
         generalize wr.drew = wd at *
         clear hD
         refine wpK_tk (i := 0) (d := some 85) (v := ?_) rfl rfl (.inl ⟨by rfl, fun w hw => ?_⟩) ⟨d0, d1⟩ ?_
         rotate_left
         ·clear hw; go_simp; with_reducible rfl
         try simp only [Act.put, tA, tB, tC]
         refine wpK_tk (i := 1) (d := some 86) (v := ?_) rfl rfl (.inl ⟨by rfl, fun w hw => ?_⟩) ⟨d0, d1⟩ ?_
         rotate_left
         ·(obtain ⟨_, _⟩ := hw); go_simp; with_reducible rfl
         try simp only [Act.put, tA, tB, tC]
         refine wpK_tk (i := 2) (d := some 87) (v := ?_) rfl rfl (.inl ⟨by rfl, fun w hw => ?_⟩) ⟨d0, d1⟩ ?_
         rotate_left
         ·clear hw; go_simp; with_reducible rfl
         try simp only [Act.put, tA, tB, tC]
         refine wpK_tk (i := 3) (d := some 88) (v := ?_) rfl rfl (.inl ⟨by rfl, fun w hw => ?_⟩) ⟨d0, d1⟩ ?_
         rotate_left
         ·clear hw; go_simp; with_reducible rfl
         try simp only [Act.put, tA, tB, tC]
         refine wpK_tk (i := 4) (d := some 89) (v := ?_) rfl rfl (.inl ⟨by rfl, fun w hw => ?_⟩) ⟨d0, d1⟩ ?_
         rotate_left
         ·(obtain ⟨_, _⟩ := hw); go_simp; with_reducible rfl
         try simp only [Act.put, tA, tB, tC]
         refine wpK_tk (i := 5) (d := some 90) (v := ?_) rfl rfl (.inl ⟨by rfl, fun w hw => ?_⟩) ⟨d0, d1⟩ ?_
         rotate_left
         ·clear hw; go_simp; with_reducible rfl
         try simp only [Act.put, tA, tB, tC]
         refine wpK_tk (i := 6) (d := some 91) (v := ?_) rfl rfl (.inl ⟨by rfl, fun w hw => ?_⟩) ⟨d0, d1⟩ ?_
         rotate_left
         ·clear hw; go_simp; with_reducible rfl
         try simp only [Act.put, tA, tB, tC]
         refine wpK_tk (i := 7) (d := some 92) (v := ?_) rfl rfl (.inl ⟨by rfl, fun w hw => ?_⟩) ⟨d0, d1⟩ ?_
         rotate_left
         ·clear hw; go_simp; with_reducible rfl
         try simp only [Act.put, tA, tB, tC]
         refine wpK_tk (i := 8) (d := some 93) (v := ?_) rfl rfl (.inl ⟨by rfl, fun w hw => ?_⟩) ⟨d0, d1⟩ ?_
         rotate_left
         ·(obtain ⟨_, _⟩ := hw); go_simp; with_reducible rfl
         try simp only [Act.put, tA, tB, tC]
         refine wpK_tk (i := 9) (d := some 94) (v := ?_) rfl rfl (.inl ⟨by rfl, fun w hw => ?_⟩) ⟨d0, d1⟩ ?_
         rotate_left
         ·clear hw; go_simp; with_reducible rfl
         try simp only [Act.put, tA, tB, tC]
         refine wpK_one (i := 10) (by kernel_rfl) rfl rfl ?_
         go_simp
         have hBx := alloc_belowL wd (.cells #[.int .i64 (0)] 3)
         have d0 := keptBelow hBx d0
         have d1 := keptBelow hBx d1
         have hub := hub.via hBx
         have hUO := hUO.via hBx
         have h3 := h3.keep (KeepN.below hBx hz)
         have hqo := owns_belowR hqo hBx
         have hWW := belowVia hBx hWW
         have hz : bu ≤ (wd.alloc (.cells #[.int .i64 (0)] 3)).heap.size := Nat.le_trans hz hBx.size
         have hnw := news_intC wd (0) 3 (b := wd.heap.size) rfl
         clear hBx
         generalize wd.heap.size = p10 at *
         generalize wd.alloc (.cells #[.int .i64 (0)] 3) = wf at *
         refine ⟨⟨d0, d1⟩, ?_⟩
         try simp only [Act.put, tA, tB, tC]
         refine wpK_append (i := 11) (dt := 96) (by kernel_rfl) rfl rfl rfl _ _ _ rfl bu 3 j0 (.int .i64 0) 1 8 Tryz.underlying22 HJ0.out HY0.out HY1.out HY2.out rfl (by decide) (.slice qa2 x.n qc2) x.n (intsV q.coef) rfl (by rw [← HQV.out]; exact hqo) ⟨p10, 0, none⟩ 1 1 [.int .i64 (0)] rfl rfl hnw (one_intC _) (by decide) (by have := HNB.out.2; unfold maxLen; omega) (by have := HNB.out.2; omega) hz ?_
         intro g' c' wg hown' hgr hat hlt9
         have hqol := own_lt hqo
         rw [HQV.out] at hqol
         have hkb : KeepN bu wf wg := KeepN.grown hgr hz (fun p e => (hqol p e).1)
         have hub0 : ∀ p, (Value.slice qa2 x.n qc2).ownBlock = some p → pu ≠ p := fun p e e2 => by
          rw [← HQV.out] at e
          exact own_box hqo hub int_ne_sys p e e2.symm
         have hug0 : ∀ p, (Value.slice qa2 x.n qc2).ownBlock = some p → ug ≠ p := fun p e e2 => by
          rw [← HQV.out] at e
          subst e2
          exact hUO.free HQM.out ug e rfl
         have d0 := kept_own hgr d0 hub0
         have d1 := kept_own hgr d1 hug0
         have hub := kept_blk hgr hub hub0
         have h3 := h3.keep hkb
         have hWW := hWW.grown hgr (by have := HPU.out; omega) (fun p e => by have := (hqol p e).1; have := HPU.out; omega)
         have hzg : bu ≤ wg.heap.size := Nat.le_trans hz hgr.size
         have htopg : wg.ownsRow bu 60 2 (.slice (some ⟨ug, 0, none⟩) x.m uc) L.length (rowsU L) := own_keep hUO.top (fun p e => hgr.block p (own_lt hUO.top p e).2 (fun e2 => by cases e; exact hug0 ug e2.symm rfl))
         have hfz : wg.frozen? ⟨ug, k * 2, none⟩ = false := by
          have h9 := htopg
          rw [HLL.out] at h9
          exact own_frozen h9 (k * 2)
         have hcl : ((q.coef ++ [0]).length : Nat) = x.n + 1 := by rw [List.length_append, HQN.out]; rfl
         have hrv : RowX.v ⟨q.coef ++ [0], q.val, some ⟨g', 0, none⟩, c'⟩ = .slice (some ⟨g', 0, none⟩) (x.n + 1) c' := by unfold RowX.v; rw [hcl]
         have hset := hUO.setRow (k := k) (r := ⟨q.coef ++ [0], q.val, some ⟨g', 0, none⟩, c'⟩) (q := q) (w' := wg) HKL.out HLL.out.symm (by rw [List.getD_eq_getElem?_getD, List.getElem?_eq_getElem HKL.out]; exact HQ.out.1) rfl (by rw [hrv, hcl]; show wg.ownsRow _ _ _ _ _ (intsV (q.coef ++ [0])); rw [show intsV (q.coef ++ [0]) = intsV q.coef ++ [.int .i64 (0)] by simp [intsV]]; exact hown') (by rw [HQV.out]; exact hgr) (by rw [hrv, HQV.out]; rcases hat with h | h; exact .inl h.symm; exact .inr (by show some g' = _; rw [h]))
         rw [hrv] at hset
         refine ⟨(fun _ => ⟨d0, d1⟩), ?_⟩
         try simp only [Act.put, tA, tB, tC]
         refine wpK_takeP (i := 12) (d := some 97) (v := ?_) rfl (by kernel_rfl) (by kernel_rfl) (by kernel_rfl) (by kernel_rfl) rfl (fun _ _ _ h => h) (.inl ⟨by rfl, fun w hw => ?_⟩) (fun h => ⟨d0, d1⟩) ?_
         rotate_left
         ·clear hw; go_simp; with_reducible rfl
         try simp only [Act.put, tA, tB, tC]
         refine wpK_tk (i := 13) (d := some 98) (v := ?_) rfl rfl (.inl ⟨by rfl, fun w hw => ?_⟩) ⟨d0, d1⟩ ?_
         rotate_left
         ·clear hw; go_simp; with_reducible rfl
         try simp only [Act.put, tA, tB, tC]
         refine wpK_store1 (i := 14) (by kernel_rfl) rfl rfl rfl (by kernel_rfl) (by kernel_rfl) _ _ _ rfl ug (k * 2) (.slice (some ⟨g', 0, none⟩) (x.n + 1) c') rfl rfl rfl (by rw [d1]; rfl) hfz (by kernel_rfl) rfl ?_
         have hugb : bu ≤ ug := (own_lt htopg ug rfl).1
         have HS1 := Lib.hid hset
         have HS2 : Hid (BlkB 27 pu [.int .i64 (((x.n : Nat) : Int) + 1), .slice (some ⟨ug, 0, none⟩) x.m uc] (wg.setCell ⟨ug, k * 2, none⟩ (.slice (some ⟨g', 0, none⟩) (x.n + 1) c'))) := Lib.hid (hub.other (fun e => own_box htopg hub eq_ne_sys ug rfl e.symm))
         have HS3 := Lib.hid (h3.keep (KeepN.set wg hugb (k * 2) (.slice (some ⟨g', 0, none⟩) (x.n + 1) c')))
         have HS4 := Lib.hid (hWW.setCell (p := ⟨ug, k * 2, none⟩) (by have := HPU.out; show W.heap.size ≤ ug; omega) (.slice (some ⟨g', 0, none⟩) (x.n + 1) c'))
         have HS5 : Hid (bu ≤ (wg.setCell ⟨ug, k * 2, none⟩ (.slice (some ⟨g', 0, none⟩) (x.n + 1) c')).heap.size) := Lib.hid (by rw [World.size_setCell]; exact hzg)
         have HS6 : Hid ((L.set k ⟨q.coef ++ [0], q.val, some ⟨g', 0, none⟩, c'⟩).map RowX.p = (List.range x.m).map (moreW x col (k + 1))) := Lib.hid (by
          rw [List.map_set, HLM.out, ← moreW_set]
          congr 1
          show (q.coef ++ [0], q.val) = moreR x col k
          unfold moreR
          rw [HEX, HQ.out.2.1, HQ.out.2.2])
         clear hset hub h3 hWW hzg htopg hfz hcl hrv hkb hqol hub0 hug0 hown' hgr hat hlt9 hnw d0 d1 hqo hUO hz
         generalize wg.setCell ⟨ug, k * 2, none⟩ (.slice (some ⟨g', 0, none⟩) (x.n + 1) c') = wz at *
         go_wp2_with fail
         go_roundw
         case rel => exact ⟨k + 1, by omega, by go_num, ⟨_, HS6.out, HS1.out⟩, HS2.out, HS3.out, HS4.out, HS5.out⟩
         case measure => simp [intOf]; omega
     ·as_aux_lemma =>
       obtain rfl : k = x.m := by omega
       have HUO := Lib.hid hUO
       have HLM := Lib.hid hL
       have HUB := Lib.hid hub
       have H3 := Lib.hid h3

       have HLU2 : Hid (L.map RowX.p = (moreU x col).rows) := Lib.hid (by rw [HLM.out, moreW_all])
       have HLL2 : Hid ((Lt ++ [rt]).length = x.m + 1) := Lib.hid (by have := congrArg List.length HTT.out; rw [List.length_map, moreT_len] at this; exact this)
       clear hL hUO hub h3 hW hz hlt hll
       have s0 := H3.out.sb.cell (i := 0) rfl
       have s1 := H3.out.sb.cell (i := 1) rfl
       have hTT := HTW.out _ HW.out
       go_wp2_with fail
       refine (answers_made x sa sc wr (sys_of H3.out.s HLS.out) hTT.1 hTT.2).mono ?_
       rintro e w19 ⟨⟨va, rfl, hA⟩, hB⟩
       replace HUO := Lib.hid (HUO.out.via hB)
       replace HUB := Lib.hid (HUB.out.via hB)
       replace H3 := Lib.hid (H3.out.keep (KeepN.below hB HZ.out))
       replace HZ := Lib.hid (Nat.le_trans HZ.out hB.size)
       replace HW := Lib.hid (belowVia hB HW.out)
       clear hB
       clear s0 s1
       clear hTT d0
       rcases hA with ⟨qa1, la, da, rfl, _, hba, hla, hda, hsa⟩ | ⟨qa1, la, rfl, _, hba, hla, hra⟩
       ·as_aux_lemma =>
         rw [cols_n]
         have HlenA : Hid (la.length = x.n) := Lib.hid (by have h1 := hsa.len; have h2 : (madeS x).cols = (x.n : Nat) := rfl; omega)
         have HbA := Lib.hid hba
         have HlA := Lib.hid hla
         have HdA := Lib.hid hda
         have HSA := Lib.hid hsa
         clear hba hla hda hsa
         have hB := alloc_belowL w19 (.cells #[.bool true, .slice (some ⟨qa1, 0, none⟩) x.n (x.n + 1), .string (intB da), .slice none 0 0] 38)
         have HA : BlkB 38 w19.heap.size [.bool true, .slice (some ⟨qa1, 0, none⟩) x.n (x.n + 1), .string (intB da), .slice none 0 0] (w19.alloc (.cells #[.bool true, .slice (some ⟨qa1, 0, none⟩) x.n (x.n + 1), .string (intB da), .slice none 0 0] 38)) := heap_alloc_new w19 _
         replace HUO := Lib.hid (HUO.out.via hB)
         replace HUB := Lib.hid (HUB.out.via hB)
         replace HbA := Lib.hid (HbA.out.via hB)
         replace H3 := Lib.hid (H3.out.keep (KeepN.below hB HZ.out))
         replace HZ := Lib.hid (Nat.le_trans HZ.out hB.size)
         replace HW := Lib.hid (belowVia hB HW.out)
         replace HA := Lib.hid HA
         clear hB
         have t0 := H3.out.tb.cell (i := 0) rfl
         have t1 := H3.out.tb.cell (i := 1) rfl
         have hTT := HTW.out _ HW.out
         go_wp2_with fail
         generalize w19.alloc (.cells #[.bool true, .slice (some ⟨qa1, 0, none⟩) x.n (x.n + 1), .string (intB da), .slice none 0 0] 38) = w20 at *
         generalize w19.heap.size = pa at *
         refine (answers_T HVB.out a2 c2 w20 (sys_ofT HVB.out (own_t H3.out.t HLL2.out) HTT.out) hTT).mono ?_
         rintro e w21 ⟨⟨va, rfl, hA⟩, hB⟩
         replace HUO := Lib.hid (HUO.out.via hB)
         replace HUB := Lib.hid (HUB.out.via hB)
         replace HbA := Lib.hid (HbA.out.via hB)
         replace HA := Lib.hid (HA.out.via hB)
         replace H3 := Lib.hid (H3.out.keep (KeepN.below hB HZ.out))
         replace HZ := Lib.hid (Nat.le_trans HZ.out hB.size)
         replace HW := Lib.hid (belowVia hB HW.out)
         clear hB
         clear t0 t1
         clear hTT
         obtain ⟨fb, p1, l1, k1, t2, p3, l3, k3, rfl, hD⟩ := ans_gen (colsT x row v1) (moreT_len x row v1) hA
         have HDB := Lib.hid hD
         have HV : Hid (∀ q c, BlkB 9 q c w21 → BlkB 9 q c w21) := Lib.hid (fun _ _ h => h)
         clear hD hA
         have hB := alloc_belowL w21 (.cells #[.bool fb, .slice p1 l1 k1, .string t2, .slice p3 l3 k3] 38)
         have HB : BlkB 38 w21.heap.size [.bool fb, .slice p1 l1 k1, .string t2, .slice p3 l3 k3] (w21.alloc (.cells #[.bool fb, .slice p1 l1 k1, .string t2, .slice p3 l3 k3] 38)) := heap_alloc_new w21 _
         replace HUO := Lib.hid (HUO.out.via hB)
         replace HUB := Lib.hid (HUB.out.via hB)
         replace HbA := Lib.hid (HbA.out.via hB)
         replace HA := Lib.hid (HA.out.via hB)
         replace HV := Lib.hid (fun q c h => (HV.out q c h).via hB)
         replace H3 := Lib.hid (H3.out.keep (KeepN.below hB HZ.out))
         replace HZ := Lib.hid (Nat.le_trans HZ.out hB.size)
         replace HW := Lib.hid (belowVia hB HW.out)
         replace HB := Lib.hid HB
         clear hB
         have u0 := HUB.out.cell (i := 0) rfl
         have u1 := HUB.out.cell (i := 1) rfl
         have hTT := HTW.out _ HW.out
         go_wp2_with fail
         generalize w21.alloc (.cells #[.bool fb, .slice p1 l1 k1, .string t2, .slice p3 l3 k3] 38) = w22 at *
         generalize w21.heap.size = pb at *
         refine (answers_U (some ⟨ug, 0, none⟩) uc w22 (sys_ofU HUO.out HLU2.out) hTT).mono ?_
         rintro e w23 ⟨⟨va, rfl, hA⟩, hB⟩
         replace HUO := Lib.hid (HUO.out.via hB)
         replace HUB := Lib.hid (HUB.out.via hB)
         replace HbA := Lib.hid (HbA.out.via hB)
         replace HA := Lib.hid (HA.out.via hB)
         replace HV := Lib.hid (fun q c h => (HV.out q c h).via hB)
         replace HB := Lib.hid (HB.out.via hB)
         replace H3 := Lib.hid (H3.out.keep (KeepN.below hB HZ.out))
         replace HZ := Lib.hid (Nat.le_trans HZ.out hB.size)
         replace HW := Lib.hid (belowVia hB HW.out)
         clear hB
         clear u0 u1
         clear hTT
         rcases hA with ⟨qc, lc, dc, rfl, _, hbc, hlc, hdc, hsc⟩ | ⟨qc, lc, rfl, _, hbc, hlc, hrc⟩
         case inr => exact absurd hrc (fun h => (moreU_sol (col := col) HSA.out).not_ref h)
         rw [colsU]
         have HbC := Lib.hid hbc
         clear hbc hlc hdc hsc
         have hB := alloc_belowL w23 (.cells #[.bool true, .slice (some ⟨qc, 0, none⟩) (x.n + 1) ((x.n + 1) + 1), .string (intB dc), .slice none 0 0] 38)
         have HC : BlkB 38 w23.heap.size [.bool true, .slice (some ⟨qc, 0, none⟩) (x.n + 1) ((x.n + 1) + 1), .string (intB dc), .slice none 0 0] (w23.alloc (.cells #[.bool true, .slice (some ⟨qc, 0, none⟩) (x.n + 1) ((x.n + 1) + 1), .string (intB dc), .slice none 0 0] 38)) := heap_alloc_new w23 _
         replace HUO := Lib.hid (HUO.out.via hB)
         replace HUB := Lib.hid (HUB.out.via hB)
         replace HbA := Lib.hid (HbA.out.via hB)
         replace HA := Lib.hid (HA.out.via hB)
         replace HV := Lib.hid (fun q c h => (HV.out q c h).via hB)
         replace HB := Lib.hid (HB.out.via hB)
         replace HbC := Lib.hid (HbC.out.via hB)
         replace H3 := Lib.hid (H3.out.keep (KeepN.below hB HZ.out))
         replace HZ := Lib.hid (Nat.le_trans HZ.out hB.size)
         replace HW := Lib.hid (belowVia hB HW.out)
         replace HC := Lib.hid HC
         clear hB
         have s0 := H3.out.sb.cell (i := 0) rfl
         have s1 := H3.out.sb.cell (i := 1) rfl
         have t0 := H3.out.tb.cell (i := 0) rfl
         have t1 := H3.out.tb.cell (i := 1) rfl
         have u0 := HUB.out.cell (i := 0) rfl
         have u1 := HUB.out.cell (i := 1) rfl
         have ya0 := HA.out.cell (i := 0) rfl
         have ya1 := HA.out.cell (i := 1) rfl
         have ya2 := HA.out.cell (i := 2) rfl
         have ya3 := HA.out.cell (i := 3) rfl
         have yb0 := HB.out.cell (i := 0) rfl
         have yb1 := HB.out.cell (i := 1) rfl
         have yb2 := HB.out.cell (i := 2) rfl
         have yb3 := HB.out.cell (i := 3) rfl
         have yc0 := HC.out.cell (i := 0) rfl
         have yc1 := HC.out.cell (i := 1) rfl
         have yc2 := HC.out.cell (i := 2) rfl
         have yc3 := HC.out.cell (i := 3) rfl
         go_upto_region 28 with fail
         generalize w23.alloc (.cells #[.bool true, .slice (some ⟨qc, 0, none⟩) (x.n + 1) ((x.n + 1) + 1), .string (intB dc), .slice none 0 0] 38) = w24 at *
         generalize w23.heap.size = pc at *
         go_cut [144] (fun sx wx => sx = .bool false ∧ Below w24.heap.size w24 wx)
         case first =>
          as_aux_lemma =>
           rcases HDB.out with ⟨rfl, q, l, d, rfl, rfl, rfl, rfl, hb, hl, hd, hs⟩ | ⟨rfl, _⟩
           ·have HCK := Lib.hid (check_T (row := row) (v := v1) w24 (sys_of H3.out.s HLS.out) (HV.out _ _ hb) hl hd hs ⟨Nat.le_succ _, by have := HNB.out.2; omega⟩)
            clear hb hl hd hs
            go_wp2_with fail
            refine HCK.out.mono ?_
            rintro e w25 ⟨rfl, hB⟩
            replace yc0 := keptBelow hB yc0
            go_wp2_with fail
            go_meet
            case rel => exact ⟨rfl, hB⟩
           ·go_wp2_with fail
            go_meet
            case rel => exact ⟨rfl, Below.refl _ _⟩
         case rest =>
          as_aux_lemma =>
           obtain ⟨rfl, hB⟩ := hcut
           replace HUO := Lib.hid (HUO.out.via hB)
           replace HUB := Lib.hid (HUB.out.via hB)
           replace HbA := Lib.hid (HbA.out.via hB)
           replace HA := Lib.hid (HA.out.via hB)
           replace HV := Lib.hid (fun q c h => (HV.out q c h).via hB)
           replace HB := Lib.hid (HB.out.via hB)
           replace HbC := Lib.hid (HbC.out.via hB)
           replace HC := Lib.hid (HC.out.via hB)
           replace H3 := Lib.hid (H3.out.keep (KeepN.below hB HZ.out))
           replace HZ := Lib.hid (Nat.le_trans HZ.out hB.size)
           replace HW := Lib.hid (belowVia hB HW.out)
           clear hB HDB HV
           clear s0 s1
           clear t0 t1
           clear u0 u1
           clear ya0 ya1 ya2 ya3
           clear yb0 yb1 yb2 yb3
           clear yc0 yc1 yc2 yc3
           have s0 := H3.out.sb.cell (i := 0) rfl
           have s1 := H3.out.sb.cell (i := 1) rfl
           have t0 := H3.out.tb.cell (i := 0) rfl
           have t1 := H3.out.tb.cell (i := 1) rfl
           have u0 := HUB.out.cell (i := 0) rfl
           have u1 := HUB.out.cell (i := 1) rfl
           have ya0 := HA.out.cell (i := 0) rfl
           have ya1 := HA.out.cell (i := 1) rfl
           have ya2 := HA.out.cell (i := 2) rfl
           have ya3 := HA.out.cell (i := 3) rfl
           have yb0 := HB.out.cell (i := 0) rfl
           have yb1 := HB.out.cell (i := 1) rfl
           have yb2 := HB.out.cell (i := 2) rfl
           have yb3 := HB.out.cell (i := 3) rfl
           have yc0 := HC.out.cell (i := 0) rfl
           have yc1 := HC.out.cell (i := 1) rfl
           have yc2 := HC.out.cell (i := 2) rfl
           have yc3 := HC.out.cell (i := 3) rfl
           generalize wc = w25 at *
           go_wp2_with fail
           go_cut [23] (fun s23 wx => ∃ p g cp : Nat, s23 = .pointer (some ⟨p, 0, none⟩) ∧ BlkB 30 p [.slice (some ⟨g, 0, none⟩) (x.n + 1) cp, .string (intB da)] wx ∧ wx.ownsRow w25.heap.size 9 1 (.slice (some ⟨g, 0, none⟩) (x.n + 1) cp) (x.n + 1) (strV (la.map intB) ++ [.string ⟨#[48]⟩]) ∧ KeepN w25.heap.size w25 wx ∧ Below W.heap.size W wx ∧ w25.heap.size ≤ wx.heap.size)
           case first =>
            as_aux_lemma =>
             obtain ⟨l0, hl0, hl1, hl2, hl3⟩ := info_ex inf_str
             have hk := VecW.start ya1 ya2 HbA.out HW.out
             refine wp_region_K (fun w' => w'.cell? ⟨pa, 1, none⟩ = some (.slice (some ⟨qa1, 0, none⟩) x.n (x.n + 1)) ∧ w'.cell? ⟨pa, 2, none⟩ = some (.string (intB da))) 12 (by kernel_rfl) ?_
             clear ya1 ya2
             generalize w25.drew = v0 at *
             refine wpK_tk (i := 1) (d := some 148) (v := ?_) rfl rfl (.inl ⟨by rfl, fun w hw => ?_⟩) hk.s ?_
             rotate_left
             ·clear hw; go_simp; with_reducible rfl
             try simp only [Act.put, tA, tB, tC]
             refine wpK_tk (i := 2) (d := some 149) (v := ?_) rfl rfl (.inl ⟨by rfl, fun w hw => ?_⟩) hk.s ?_
             rotate_left
             ·clear hw; go_simp; with_reducible rfl
             try simp only [Act.put, tA, tB, tC]
             refine wpK_tk (i := 3) (d := some 150) (v := ?_) rfl rfl (.inl ⟨by rfl, fun w hw => ?_⟩) hk.s ?_
             rotate_left
             ·(obtain ⟨_, _⟩ := hw); go_simp; with_reducible rfl
             try simp only [Act.put, tA, tB, tC]
             refine wpK_tk (i := 7) (d := some 154) (v := ?_) rfl rfl (.inl ⟨by rfl, fun w hw => ?_⟩) hk.s ?_
             rotate_left
             ·clear hw; go_simp; with_reducible rfl
             try simp only [Act.put, tA, tB, tC]
             refine wpK_tk (i := 8) (d := some 155) (v := ?_) rfl rfl (.inl ⟨by rfl, fun w hw => ?_⟩) hk.s ?_
             rotate_left
             ·clear hw; go_simp; with_reducible rfl
             try simp only [Act.put, tA, tB, tC]
             refine wpK_tk (i := 9) (d := some 156) (v := ?_) rfl rfl (.inl ⟨by rfl, fun w hw => ?_⟩) hk.s ?_
             rotate_left
             ·(obtain ⟨_, _⟩ := hw); go_simp; with_reducible rfl
             try simp only [Act.put, tA, tB, tC]
             refine wpK_three (i := 0) (j := 5) (l := 11) (by kernel_rfl) ?_ ?_ ?_
             ·as_aux_lemma =>
               skip
               refine wpOp_one (i := 0) rfl rfl ?_
               go_simp
               have hx := own_base (own_empty v0 9) hk.z
               have hBx := alloc_belowL v0 (.cells #[] 9)
               have hk := hk.below hBx
               have he := hx
               clear hBx hx
               generalize v0.heap.size = pe at *
               generalize v0.alloc (.cells #[] 9) = vt1 at *
               first | refine ⟨hk.s, ?_⟩ | refine ⟨(fun _ => hk.s), ?_⟩
               try simp only [Act.put, tA, tB, tC]
               refine wpK_three (i := 4) (j := 5) (l := 11) (by kernel_rfl) ?_ ?_ ?_
               ·as_aux_lemma =>
                 skip
                 refine wpOp_append (i := 4) (dt := 151) rfl rfl rfl _ _ _ rfl w25.heap.size 9 l0 (.string ⟨#[]⟩) 1 16 Tryz.underlying28 hl0 hl1 hl2 hl3 rfl (by decide) (.slice (some ⟨pe, 0, none⟩) 0 0) 0 [] rfl he ⟨qa1, 0, none⟩ x.n (x.n + 1) (strV (la.map intB)) rfl (by rw [strV_lenM, HlenA.out]; omega) (strs_newsL hk.bq) (one_strV _) (by have := HNB.out; omega) (by have := HNB.out; unfold maxLen; omega) (by have := HNB.out; omega) hk.z ?_
                 intro g4 c4 vt2 h4 hgr hat4 hlt4
                 simp only [Nat.zero_add, List.nil_append] at h4 ⊢
                 have hk := hk.grown he hgr
                 clear hgr hat4 he
                 refine ⟨(fun _ => hk.s), ?_⟩
                 try simp only [Act.put, tA, tB, tC]
                 refine wpK_two (i := 5) (j := 11) (by kernel_rfl) ?_ ?_
                 ·as_aux_lemma =>
                   skip
                   refine wpOp_one (i := 5) rfl rfl ?_
                   go_simp
                   have hBx := alloc_belowL vt2 (.cells #[.string ⟨#[48]⟩] 9)
                   have hk := hk.below hBx
                   have h4 := owns_belowR h4 hBx
                   have n5 := (blk_one vt2 (.string ⟨#[48]⟩) 9).cell (i := 0) rfl
                   clear hBx
                   generalize vt2.heap.size = p5 at *
                   generalize vt2.alloc (.cells #[.string ⟨#[48]⟩] 9) = vt3 at *
                   first | refine ⟨hk.s, ?_⟩ | refine ⟨(fun _ => hk.s), ?_⟩
                   try simp only [Act.put, tA, tB, tC]
                   refine wpK_two (i := 6) (j := 11) (by kernel_rfl) ?_ ?_
                   ·as_aux_lemma =>
                     skip
                     refine wpOp_append (i := 6) (dt := 153) rfl rfl rfl _ _ _ rfl w25.heap.size 9 l0 (.string ⟨#[]⟩) 1 16 Tryz.underlying28 hl0 hl1 hl2 hl3 rfl (by decide) (.slice (some ⟨g4, 0, none⟩) x.n c4) x.n (strV (la.map intB)) rfl h4 ⟨p5, 0, none⟩ 1 1 [.string ⟨#[48]⟩] rfl rfl (news_of_cell n5) (one_strC _) (by decide) (by have := HNB.out; unfold maxLen; omega) (by have := HNB.out; omega) hk.z ?_
                     intro g6 c6 vt4 h6 hgr hat6 hlt6
                     have hk := hk.grown h4 hgr
                     clear hgr hat6 h4 n5
                     refine ⟨(fun _ => hk.s), ?_⟩
                     try simp only [Act.put, tA, tB, tC]
                     refine wpK_tk (i := 10) (d := some 157) (v := ?_) rfl rfl (.inl ⟨by rfl, fun w hw => ?_⟩) hk.s ?_
                     rotate_left
                     ·clear hw; go_simp; with_reducible rfl
                     try simp only [Act.put, tA, tB, tC]
                     refine wpK_one (i := 11) (by kernel_rfl) rfl rfl ?_
                     go_simp
                     have hp11 := hk.z
                     have hBx := alloc_belowL vt4 (.cells #[.slice none 0 0, .string ⟨#[]⟩] 30)
                     have hk := hk.below hBx
                     have h6 := owns_belowR h6 hBx
                     have b11 := blk_new2 vt4 (.slice none 0 0) (.string ⟨#[]⟩) 30
                     clear hBx
                     generalize vt4.heap.size = p11 at *
                     generalize vt4.alloc (.cells #[.slice none 0 0, .string ⟨#[]⟩] 30) = vt5 at *
                     first | refine ⟨hk.s, ?_⟩ | refine ⟨(fun _ => hk.s), ?_⟩
                     try simp only [Act.put, tA, tB, tC]
                     refine wpK_store (i := 12) (by kernel_rfl) rfl rfl rfl (by kernel_rfl) (by kernel_rfl) _ _ _ rfl p11 0 [.slice (some ⟨g6, 0, none⟩) (x.n + 1) c6, .string (intB da)] rfl rfl (there_two b11) (by rw [info_vec]; rfl) (one_vec _ _ _ _) ?_
                     rw [setCells_two]
                     have hf := hk.stored (s6 := .string (intB da)) h6 b11 hp11
                     clear hk b11 h6
                     go_wp2_with fail
                     go_meet
                     case rel => exact ⟨_, _, _, rfl, hf⟩
                   ·as_aux_lemma =>
                     skip
                     refine wpOp_one (i := 11) rfl rfl ?_
                     go_simp
                     have hp11 := hk.z
                     have hBx := alloc_belowL vt3 (.cells #[.slice none 0 0, .string ⟨#[]⟩] 30)
                     have hk := hk.below hBx
                     have h4 := owns_belowR h4 hBx
                     have n5 := keptBelow hBx n5
                     have b11 := blk_new2 vt3 (.slice none 0 0) (.string ⟨#[]⟩) 30
                     clear hBx
                     generalize vt3.heap.size = p11 at *
                     generalize vt3.alloc (.cells #[.slice none 0 0, .string ⟨#[]⟩] 30) = vt6 at *
                     first | refine ⟨hk.s, ?_⟩ | refine ⟨(fun _ => hk.s), ?_⟩
                     try simp only [Act.put, tA, tB, tC]
                     refine wpK_append (i := 6) (dt := 153) (by kernel_rfl) rfl rfl rfl _ _ _ rfl w25.heap.size 9 l0 (.string ⟨#[]⟩) 1 16 Tryz.underlying28 hl0 hl1 hl2 hl3 rfl (by decide) (.slice (some ⟨g4, 0, none⟩) x.n c4) x.n (strV (la.map intB)) rfl h4 ⟨p5, 0, none⟩ 1 1 [.string ⟨#[48]⟩] rfl rfl (news_of_cell n5) (one_strC _) (by decide) (by have := HNB.out; unfold maxLen; omega) (by have := HNB.out; omega) hk.z ?_
                     intro g6 c6 vt7 h6 hgr hat6 hlt6
                     have hk := hk.grown h4 hgr
                     have b11 := kept_blk hgr b11 (fun p e e2 => own_box h4 b11 str_ne_vec p e e2.symm)
                     clear hgr hat6 h4 n5
                     refine ⟨(fun _ => hk.s), ?_⟩
                     try simp only [Act.put, tA, tB, tC]
                     refine wpK_tk (i := 10) (d := some 157) (v := ?_) rfl rfl (.inl ⟨by rfl, fun w hw => ?_⟩) hk.s ?_
                     rotate_left
                     ·clear hw; go_simp; with_reducible rfl
                     try simp only [Act.put, tA, tB, tC]
                     refine wpK_store (i := 12) (by kernel_rfl) rfl rfl rfl (by kernel_rfl) (by kernel_rfl) _ _ _ rfl p11 0 [.slice (some ⟨g6, 0, none⟩) (x.n + 1) c6, .string (intB da)] rfl rfl (there_two b11) (by rw [info_vec]; rfl) (one_vec _ _ _ _) ?_
                     rw [setCells_two]
                     have hf := hk.stored (s6 := .string (intB da)) h6 b11 hp11
                     clear hk b11 h6
                     go_wp2_with fail
                     go_meet
                     case rel => exact ⟨_, _, _, rfl, hf⟩
                 ·as_aux_lemma =>
                   skip
                   refine wpOp_one (i := 11) rfl rfl ?_
                   go_simp
                   have hp11 := hk.z
                   have hBx := alloc_belowL vt2 (.cells #[.slice none 0 0, .string ⟨#[]⟩] 30)
                   have hk := hk.below hBx
                   have h4 := owns_belowR h4 hBx
                   have b11 := blk_new2 vt2 (.slice none 0 0) (.string ⟨#[]⟩) 30
                   clear hBx
                   generalize vt2.heap.size = p11 at *
                   generalize vt2.alloc (.cells #[.slice none 0 0, .string ⟨#[]⟩] 30) = vt8 at *
                   first | refine ⟨hk.s, ?_⟩ | refine ⟨(fun _ => hk.s), ?_⟩
                   try simp only [Act.put, tA, tB, tC]
                   refine wpK_one (i := 5) (by kernel_rfl) rfl rfl ?_
                   go_simp
                   have hBx := alloc_belowL vt8 (.cells #[.string ⟨#[48]⟩] 9)
                   have hk := hk.below hBx
                   have b11 := b11.via hBx
                   have h4 := owns_belowR h4 hBx
                   have n5 := (blk_one vt8 (.string ⟨#[48]⟩) 9).cell (i := 0) rfl
                   clear hBx
                   generalize vt8.heap.size = p5 at *
                   generalize vt8.alloc (.cells #[.string ⟨#[48]⟩] 9) = vt9 at *
                   first | refine ⟨hk.s, ?_⟩ | refine ⟨(fun _ => hk.s), ?_⟩
                   try simp only [Act.put, tA, tB, tC]
                   refine wpK_append (i := 6) (dt := 153) (by kernel_rfl) rfl rfl rfl _ _ _ rfl w25.heap.size 9 l0 (.string ⟨#[]⟩) 1 16 Tryz.underlying28 hl0 hl1 hl2 hl3 rfl (by decide) (.slice (some ⟨g4, 0, none⟩) x.n c4) x.n (strV (la.map intB)) rfl h4 ⟨p5, 0, none⟩ 1 1 [.string ⟨#[48]⟩] rfl rfl (news_of_cell n5) (one_strC _) (by decide) (by have := HNB.out; unfold maxLen; omega) (by have := HNB.out; omega) hk.z ?_
                   intro g6 c6 vt10 h6 hgr hat6 hlt6
                   have hk := hk.grown h4 hgr
                   have b11 := kept_blk hgr b11 (fun p e e2 => own_box h4 b11 str_ne_vec p e e2.symm)
                   clear hgr hat6 h4 n5
                   refine ⟨(fun _ => hk.s), ?_⟩
                   try simp only [Act.put, tA, tB, tC]
                   refine wpK_tk (i := 10) (d := some 157) (v := ?_) rfl rfl (.inl ⟨by rfl, fun w hw => ?_⟩) hk.s ?_
                   rotate_left
                   ·clear hw; go_simp; with_reducible rfl
                   try simp only [Act.put, tA, tB, tC]
                   refine wpK_store (i := 12) (by kernel_rfl) rfl rfl rfl (by kernel_rfl) (by kernel_rfl) _ _ _ rfl p11 0 [.slice (some ⟨g6, 0, none⟩) (x.n + 1) c6, .string (intB da)] rfl rfl (there_two b11) (by rw [info_vec]; rfl) (one_vec _ _ _ _) ?_
                   rw [setCells_two]
                   have hf := hk.stored (s6 := .string (intB da)) h6 b11 hp11
                   clear hk b11 h6
                   go_wp2_with fail
                   go_meet
                   case rel => exact ⟨_, _, _, rfl, hf⟩
               ·as_aux_lemma =>
                 skip
                 refine wpOp_one (i := 5) rfl rfl ?_
                 go_simp
                 have hne5 : pe ≠ vt1.heap.size := Nat.ne_of_lt (own_lt he pe rfl).2
                 have hBx := alloc_belowL vt1 (.cells #[.string ⟨#[48]⟩] 9)
                 have hk := hk.below hBx
                 have he := owns_belowR he hBx
                 have n5 := (blk_one vt1 (.string ⟨#[48]⟩) 9).cell (i := 0) rfl
                 clear hBx
                 generalize vt1.heap.size = p5 at *
                 generalize vt1.alloc (.cells #[.string ⟨#[48]⟩] 9) = vt11 at *
                 first | refine ⟨hk.s, ?_⟩ | refine ⟨(fun _ => hk.s), ?_⟩
                 try simp only [Act.put, tA, tB, tC]
                 refine wpK_two (i := 4) (j := 11) (by kernel_rfl) ?_ ?_
                 ·as_aux_lemma =>
                   skip
                   refine wpOp_append (i := 4) (dt := 151) rfl rfl rfl _ _ _ rfl w25.heap.size 9 l0 (.string ⟨#[]⟩) 1 16 Tryz.underlying28 hl0 hl1 hl2 hl3 rfl (by decide) (.slice (some ⟨pe, 0, none⟩) 0 0) 0 [] rfl he ⟨qa1, 0, none⟩ x.n (x.n + 1) (strV (la.map intB)) rfl (by rw [strV_lenM, HlenA.out]; omega) (strs_newsL hk.bq) (one_strV _) (by have := HNB.out; omega) (by have := HNB.out; unfold maxLen; omega) (by have := HNB.out; omega) hk.z ?_
                   intro g4 c4 vt12 h4 hgr hat4 hlt4
                   simp only [Nat.zero_add, List.nil_append] at h4 ⊢
                   have n5 := kept_own hgr n5 (fun p e => by cases e; exact fun e2 => hne5 e2.symm)
                   have hk := hk.grown he hgr
                   clear hgr hat4 he
                   refine ⟨(fun _ => hk.s), ?_⟩
                   try simp only [Act.put, tA, tB, tC]
                   refine wpK_two (i := 6) (j := 11) (by kernel_rfl) ?_ ?_
                   ·as_aux_lemma =>
                     skip
                     refine wpOp_append (i := 6) (dt := 153) rfl rfl rfl _ _ _ rfl w25.heap.size 9 l0 (.string ⟨#[]⟩) 1 16 Tryz.underlying28 hl0 hl1 hl2 hl3 rfl (by decide) (.slice (some ⟨g4, 0, none⟩) x.n c4) x.n (strV (la.map intB)) rfl h4 ⟨p5, 0, none⟩ 1 1 [.string ⟨#[48]⟩] rfl rfl (news_of_cell n5) (one_strC _) (by decide) (by have := HNB.out; unfold maxLen; omega) (by have := HNB.out; omega) hk.z ?_
                     intro g6 c6 vt13 h6 hgr hat6 hlt6
                     have hk := hk.grown h4 hgr
                     clear hgr hat6 h4 n5
                     refine ⟨(fun _ => hk.s), ?_⟩
                     try simp only [Act.put, tA, tB, tC]
                     refine wpK_tk (i := 10) (d := some 157) (v := ?_) rfl rfl (.inl ⟨by rfl, fun w hw => ?_⟩) hk.s ?_
                     rotate_left
                     ·clear hw; go_simp; with_reducible rfl
                     try simp only [Act.put, tA, tB, tC]
                     refine wpK_one (i := 11) (by kernel_rfl) rfl rfl ?_
                     go_simp
                     have hp11 := hk.z
                     have hBx := alloc_belowL vt13 (.cells #[.slice none 0 0, .string ⟨#[]⟩] 30)
                     have hk := hk.below hBx
                     have h6 := owns_belowR h6 hBx
                     have b11 := blk_new2 vt13 (.slice none 0 0) (.string ⟨#[]⟩) 30
                     clear hBx
                     generalize vt13.heap.size = p11 at *
                     generalize vt13.alloc (.cells #[.slice none 0 0, .string ⟨#[]⟩] 30) = vt14 at *
                     first | refine ⟨hk.s, ?_⟩ | refine ⟨(fun _ => hk.s), ?_⟩
                     try simp only [Act.put, tA, tB, tC]
                     refine wpK_store (i := 12) (by kernel_rfl) rfl rfl rfl (by kernel_rfl) (by kernel_rfl) _ _ _ rfl p11 0 [.slice (some ⟨g6, 0, none⟩) (x.n + 1) c6, .string (intB da)] rfl rfl (there_two b11) (by rw [info_vec]; rfl) (one_vec _ _ _ _) ?_
                     rw [setCells_two]
                     have hf := hk.stored (s6 := .string (intB da)) h6 b11 hp11
                     clear hk b11 h6
                     go_wp2_with fail
                     go_meet
                     case rel => exact ⟨_, _, _, rfl, hf⟩
                   ·as_aux_lemma =>
                     skip
                     refine wpOp_one (i := 11) rfl rfl ?_
                     go_simp
                     have hp11 := hk.z
                     have hBx := alloc_belowL vt12 (.cells #[.slice none 0 0, .string ⟨#[]⟩] 30)
                     have hk := hk.below hBx
                     have h4 := owns_belowR h4 hBx
                     have n5 := keptBelow hBx n5
                     have b11 := blk_new2 vt12 (.slice none 0 0) (.string ⟨#[]⟩) 30
                     clear hBx
                     generalize vt12.heap.size = p11 at *
                     generalize vt12.alloc (.cells #[.slice none 0 0, .string ⟨#[]⟩] 30) = vt15 at *
                     first | refine ⟨hk.s, ?_⟩ | refine ⟨(fun _ => hk.s), ?_⟩
                     try simp only [Act.put, tA, tB, tC]
                     refine wpK_append (i := 6) (dt := 153) (by kernel_rfl) rfl rfl rfl _ _ _ rfl w25.heap.size 9 l0 (.string ⟨#[]⟩) 1 16 Tryz.underlying28 hl0 hl1 hl2 hl3 rfl (by decide) (.slice (some ⟨g4, 0, none⟩) x.n c4) x.n (strV (la.map intB)) rfl h4 ⟨p5, 0, none⟩ 1 1 [.string ⟨#[48]⟩] rfl rfl (news_of_cell n5) (one_strC _) (by decide) (by have := HNB.out; unfold maxLen; omega) (by have := HNB.out; omega) hk.z ?_
                     intro g6 c6 vt16 h6 hgr hat6 hlt6
                     have hk := hk.grown h4 hgr
                     have b11 := kept_blk hgr b11 (fun p e e2 => own_box h4 b11 str_ne_vec p e e2.symm)
                     clear hgr hat6 h4 n5
                     refine ⟨(fun _ => hk.s), ?_⟩
                     try simp only [Act.put, tA, tB, tC]
                     refine wpK_tk (i := 10) (d := some 157) (v := ?_) rfl rfl (.inl ⟨by rfl, fun w hw => ?_⟩) hk.s ?_
                     rotate_left
                     ·clear hw; go_simp; with_reducible rfl
                     try simp only [Act.put, tA, tB, tC]
                     refine wpK_store (i := 12) (by kernel_rfl) rfl rfl rfl (by kernel_rfl) (by kernel_rfl) _ _ _ rfl p11 0 [.slice (some ⟨g6, 0, none⟩) (x.n + 1) c6, .string (intB da)] rfl rfl (there_two b11) (by rw [info_vec]; rfl) (one_vec _ _ _ _) ?_
                     rw [setCells_two]
                     have hf := hk.stored (s6 := .string (intB da)) h6 b11 hp11
                     clear hk b11 h6
                     go_wp2_with fail
                     go_meet
                     case rel => exact ⟨_, _, _, rfl, hf⟩
                 ·as_aux_lemma =>
                   skip
                   refine wpOp_one (i := 11) rfl rfl ?_
                   go_simp
                   have hp11 := hk.z
                   have hBx := alloc_belowL vt11 (.cells #[.slice none 0 0, .string ⟨#[]⟩] 30)
                   have hk := hk.below hBx
                   have he := owns_belowR he hBx
                   have n5 := keptBelow hBx n5
                   have b11 := blk_new2 vt11 (.slice none 0 0) (.string ⟨#[]⟩) 30
                   clear hBx
                   generalize vt11.heap.size = p11 at *
                   generalize vt11.alloc (.cells #[.slice none 0 0, .string ⟨#[]⟩] 30) = vt17 at *
                   first | refine ⟨hk.s, ?_⟩ | refine ⟨(fun _ => hk.s), ?_⟩
                   try simp only [Act.put, tA, tB, tC]
                   refine wpK_append (i := 4) (dt := 151) (by kernel_rfl) rfl rfl rfl _ _ _ rfl w25.heap.size 9 l0 (.string ⟨#[]⟩) 1 16 Tryz.underlying28 hl0 hl1 hl2 hl3 rfl (by decide) (.slice (some ⟨pe, 0, none⟩) 0 0) 0 [] rfl he ⟨qa1, 0, none⟩ x.n (x.n + 1) (strV (la.map intB)) rfl (by rw [strV_lenM, HlenA.out]; omega) (strs_newsL hk.bq) (one_strV _) (by have := HNB.out; omega) (by have := HNB.out; unfold maxLen; omega) (by have := HNB.out; omega) hk.z ?_
                   intro g4 c4 vt18 h4 hgr hat4 hlt4
                   simp only [Nat.zero_add, List.nil_append] at h4 ⊢
                   have n5 := kept_own hgr n5 (fun p e => by cases e; exact fun e2 => hne5 e2.symm)
                   have hk := hk.grown he hgr
                   have b11 := kept_blk hgr b11 (fun p e e2 => own_box he b11 str_ne_vec p e e2.symm)
                   clear hgr hat4 he
                   refine ⟨(fun _ => hk.s), ?_⟩
                   try simp only [Act.put, tA, tB, tC]
                   refine wpK_append (i := 6) (dt := 153) (by kernel_rfl) rfl rfl rfl _ _ _ rfl w25.heap.size 9 l0 (.string ⟨#[]⟩) 1 16 Tryz.underlying28 hl0 hl1 hl2 hl3 rfl (by decide) (.slice (some ⟨g4, 0, none⟩) x.n c4) x.n (strV (la.map intB)) rfl h4 ⟨p5, 0, none⟩ 1 1 [.string ⟨#[48]⟩] rfl rfl (news_of_cell n5) (one_strC _) (by decide) (by have := HNB.out; unfold maxLen; omega) (by have := HNB.out; omega) hk.z ?_
                   intro g6 c6 vt19 h6 hgr hat6 hlt6
                   have hk := hk.grown h4 hgr
                   have b11 := kept_blk hgr b11 (fun p e e2 => own_box h4 b11 str_ne_vec p e e2.symm)
                   clear hgr hat6 h4 n5
                   refine ⟨(fun _ => hk.s), ?_⟩
                   try simp only [Act.put, tA, tB, tC]
                   refine wpK_tk (i := 10) (d := some 157) (v := ?_) rfl rfl (.inl ⟨by rfl, fun w hw => ?_⟩) hk.s ?_
                   rotate_left
                   ·clear hw; go_simp; with_reducible rfl
                   try simp only [Act.put, tA, tB, tC]
                   refine wpK_store (i := 12) (by kernel_rfl) rfl rfl rfl (by kernel_rfl) (by kernel_rfl) _ _ _ rfl p11 0 [.slice (some ⟨g6, 0, none⟩) (x.n + 1) c6, .string (intB da)] rfl rfl (there_two b11) (by rw [info_vec]; rfl) (one_vec _ _ _ _) ?_
                   rw [setCells_two]
                   have hf := hk.stored (s6 := .string (intB da)) h6 b11 hp11
                   clear hk b11 h6
                   go_wp2_with fail
                   go_meet
                   case rel => exact ⟨_, _, _, rfl, hf⟩
               ·as_aux_lemma =>
                 skip
                 refine wpOp_one (i := 11) rfl rfl ?_
                 go_simp
                 have hp11 := hk.z
                 have hBx := alloc_belowL vt1 (.cells #[.slice none 0 0, .string ⟨#[]⟩] 30)
                 have hk := hk.below hBx
                 have he := owns_belowR he hBx
                 have b11 := blk_new2 vt1 (.slice none 0 0) (.string ⟨#[]⟩) 30
                 clear hBx
                 generalize vt1.heap.size = p11 at *
                 generalize vt1.alloc (.cells #[.slice none 0 0, .string ⟨#[]⟩] 30) = vt20 at *
                 first | refine ⟨hk.s, ?_⟩ | refine ⟨(fun _ => hk.s), ?_⟩
                 try simp only [Act.put, tA, tB, tC]
                 refine wpK_two (i := 4) (j := 5) (by kernel_rfl) ?_ ?_
                 ·as_aux_lemma =>
                   skip
                   refine wpOp_append (i := 4) (dt := 151) rfl rfl rfl _ _ _ rfl w25.heap.size 9 l0 (.string ⟨#[]⟩) 1 16 Tryz.underlying28 hl0 hl1 hl2 hl3 rfl (by decide) (.slice (some ⟨pe, 0, none⟩) 0 0) 0 [] rfl he ⟨qa1, 0, none⟩ x.n (x.n + 1) (strV (la.map intB)) rfl (by rw [strV_lenM, HlenA.out]; omega) (strs_newsL hk.bq) (one_strV _) (by have := HNB.out; omega) (by have := HNB.out; unfold maxLen; omega) (by have := HNB.out; omega) hk.z ?_
                   intro g4 c4 vt21 h4 hgr hat4 hlt4
                   simp only [Nat.zero_add, List.nil_append] at h4 ⊢
                   have hk := hk.grown he hgr
                   have b11 := kept_blk hgr b11 (fun p e e2 => own_box he b11 str_ne_vec p e e2.symm)
                   clear hgr hat4 he
                   refine ⟨(fun _ => hk.s), ?_⟩
                   try simp only [Act.put, tA, tB, tC]
                   refine wpK_one (i := 5) (by kernel_rfl) rfl rfl ?_
                   go_simp
                   have hBx := alloc_belowL vt21 (.cells #[.string ⟨#[48]⟩] 9)
                   have hk := hk.below hBx
                   have b11 := b11.via hBx
                   have h4 := owns_belowR h4 hBx
                   have n5 := (blk_one vt21 (.string ⟨#[48]⟩) 9).cell (i := 0) rfl
                   clear hBx
                   generalize vt21.heap.size = p5 at *
                   generalize vt21.alloc (.cells #[.string ⟨#[48]⟩] 9) = vt22 at *
                   first | refine ⟨hk.s, ?_⟩ | refine ⟨(fun _ => hk.s), ?_⟩
                   try simp only [Act.put, tA, tB, tC]
                   refine wpK_append (i := 6) (dt := 153) (by kernel_rfl) rfl rfl rfl _ _ _ rfl w25.heap.size 9 l0 (.string ⟨#[]⟩) 1 16 Tryz.underlying28 hl0 hl1 hl2 hl3 rfl (by decide) (.slice (some ⟨g4, 0, none⟩) x.n c4) x.n (strV (la.map intB)) rfl h4 ⟨p5, 0, none⟩ 1 1 [.string ⟨#[48]⟩] rfl rfl (news_of_cell n5) (one_strC _) (by decide) (by have := HNB.out; unfold maxLen; omega) (by have := HNB.out; omega) hk.z ?_
                   intro g6 c6 vt23 h6 hgr hat6 hlt6
                   have hk := hk.grown h4 hgr
                   have b11 := kept_blk hgr b11 (fun p e e2 => own_box h4 b11 str_ne_vec p e e2.symm)
                   clear hgr hat6 h4 n5
                   refine ⟨(fun _ => hk.s), ?_⟩
                   try simp only [Act.put, tA, tB, tC]
                   refine wpK_tk (i := 10) (d := some 157) (v := ?_) rfl rfl (.inl ⟨by rfl, fun w hw => ?_⟩) hk.s ?_
                   rotate_left
                   ·clear hw; go_simp; with_reducible rfl
                   try simp only [Act.put, tA, tB, tC]
                   refine wpK_store (i := 12) (by kernel_rfl) rfl rfl rfl (by kernel_rfl) (by kernel_rfl) _ _ _ rfl p11 0 [.slice (some ⟨g6, 0, none⟩) (x.n + 1) c6, .string (intB da)] rfl rfl (there_two b11) (by rw [info_vec]; rfl) (one_vec _ _ _ _) ?_
                   rw [setCells_two]
                   have hf := hk.stored (s6 := .string (intB da)) h6 b11 hp11
                   clear hk b11 h6
                   go_wp2_with fail
                   go_meet
                   case rel => exact ⟨_, _, _, rfl, hf⟩
                 ·as_aux_lemma =>
                   skip
                   refine wpOp_one (i := 5) rfl rfl ?_
                   go_simp
                   have hne5 : pe ≠ vt20.heap.size := Nat.ne_of_lt (own_lt he pe rfl).2
                   have hBx := alloc_belowL vt20 (.cells #[.string ⟨#[48]⟩] 9)
                   have hk := hk.below hBx
                   have b11 := b11.via hBx
                   have he := owns_belowR he hBx
                   have n5 := (blk_one vt20 (.string ⟨#[48]⟩) 9).cell (i := 0) rfl
                   clear hBx
                   generalize vt20.heap.size = p5 at *
                   generalize vt20.alloc (.cells #[.string ⟨#[48]⟩] 9) = vt24 at *
                   first | refine ⟨hk.s, ?_⟩ | refine ⟨(fun _ => hk.s), ?_⟩
                   try simp only [Act.put, tA, tB, tC]
                   refine wpK_append (i := 4) (dt := 151) (by kernel_rfl) rfl rfl rfl _ _ _ rfl w25.heap.size 9 l0 (.string ⟨#[]⟩) 1 16 Tryz.underlying28 hl0 hl1 hl2 hl3 rfl (by decide) (.slice (some ⟨pe, 0, none⟩) 0 0) 0 [] rfl he ⟨qa1, 0, none⟩ x.n (x.n + 1) (strV (la.map intB)) rfl (by rw [strV_lenM, HlenA.out]; omega) (strs_newsL hk.bq) (one_strV _) (by have := HNB.out; omega) (by have := HNB.out; unfold maxLen; omega) (by have := HNB.out; omega) hk.z ?_
                   intro g4 c4 vt25 h4 hgr hat4 hlt4
                   simp only [Nat.zero_add, List.nil_append] at h4 ⊢
                   have n5 := kept_own hgr n5 (fun p e => by cases e; exact fun e2 => hne5 e2.symm)
                   have hk := hk.grown he hgr
                   have b11 := kept_blk hgr b11 (fun p e e2 => own_box he b11 str_ne_vec p e e2.symm)
                   clear hgr hat4 he
                   refine ⟨(fun _ => hk.s), ?_⟩
                   try simp only [Act.put, tA, tB, tC]
                   refine wpK_append (i := 6) (dt := 153) (by kernel_rfl) rfl rfl rfl _ _ _ rfl w25.heap.size 9 l0 (.string ⟨#[]⟩) 1 16 Tryz.underlying28 hl0 hl1 hl2 hl3 rfl (by decide) (.slice (some ⟨g4, 0, none⟩) x.n c4) x.n (strV (la.map intB)) rfl h4 ⟨p5, 0, none⟩ 1 1 [.string ⟨#[48]⟩] rfl rfl (news_of_cell n5) (one_strC _) (by decide) (by have := HNB.out; unfold maxLen; omega) (by have := HNB.out; omega) hk.z ?_
                   intro g6 c6 vt26 h6 hgr hat6 hlt6
                   have hk := hk.grown h4 hgr
                   have b11 := kept_blk hgr b11 (fun p e e2 => own_box h4 b11 str_ne_vec p e e2.symm)
                   clear hgr hat6 h4 n5
                   refine ⟨(fun _ => hk.s), ?_⟩
                   try simp only [Act.put, tA, tB, tC]
                   refine wpK_tk (i := 10) (d := some 157) (v := ?_) rfl rfl (.inl ⟨by rfl, fun w hw => ?_⟩) hk.s ?_
                   rotate_left
                   ·clear hw; go_simp; with_reducible rfl
                   try simp only [Act.put, tA, tB, tC]
                   refine wpK_store (i := 12) (by kernel_rfl) rfl rfl rfl (by kernel_rfl) (by kernel_rfl) _ _ _ rfl p11 0 [.slice (some ⟨g6, 0, none⟩) (x.n + 1) c6, .string (intB da)] rfl rfl (there_two b11) (by rw [info_vec]; rfl) (one_vec _ _ _ _) ?_
                   rw [setCells_two]
                   have hf := hk.stored (s6 := .string (intB da)) h6 b11 hp11
                   clear hk b11 h6
                   go_wp2_with fail
                   go_meet
                   case rel => exact ⟨_, _, _, rfl, hf⟩
             ·as_aux_lemma =>
               skip
               refine wpOp_one (i := 5) rfl rfl ?_
               go_simp
               have hBx := alloc_belowL v0 (.cells #[.string ⟨#[48]⟩] 9)
               have hk := hk.below hBx
               have n5 := (blk_one v0 (.string ⟨#[48]⟩) 9).cell (i := 0) rfl
               clear hBx
               generalize v0.heap.size = p5 at *
               generalize v0.alloc (.cells #[.string ⟨#[48]⟩] 9) = vt27 at *
               first | refine ⟨hk.s, ?_⟩ | refine ⟨(fun _ => hk.s), ?_⟩
               try simp only [Act.put, tA, tB, tC]
               refine wpK_two (i := 0) (j := 11) (by kernel_rfl) ?_ ?_
               ·as_aux_lemma =>
                 skip
                 refine wpOp_one (i := 0) rfl rfl ?_
                 go_simp
                 have hne5 : vt27.heap.size ≠ p5 := Nat.ne_of_gt (lt_of_cell n5)
                 have hx := own_base (own_empty vt27 9) hk.z
                 have hBx := alloc_belowL vt27 (.cells #[] 9)
                 have hk := hk.below hBx
                 have n5 := keptBelow hBx n5
                 have he := hx
                 clear hBx hx
                 generalize vt27.heap.size = pe at *
                 generalize vt27.alloc (.cells #[] 9) = vt28 at *
                 first | refine ⟨hk.s, ?_⟩ | refine ⟨(fun _ => hk.s), ?_⟩
                 try simp only [Act.put, tA, tB, tC]
                 refine wpK_two (i := 4) (j := 11) (by kernel_rfl) ?_ ?_
                 ·as_aux_lemma =>
                   skip
                   refine wpOp_append (i := 4) (dt := 151) rfl rfl rfl _ _ _ rfl w25.heap.size 9 l0 (.string ⟨#[]⟩) 1 16 Tryz.underlying28 hl0 hl1 hl2 hl3 rfl (by decide) (.slice (some ⟨pe, 0, none⟩) 0 0) 0 [] rfl he ⟨qa1, 0, none⟩ x.n (x.n + 1) (strV (la.map intB)) rfl (by rw [strV_lenM, HlenA.out]; omega) (strs_newsL hk.bq) (one_strV _) (by have := HNB.out; omega) (by have := HNB.out; unfold maxLen; omega) (by have := HNB.out; omega) hk.z ?_
                   intro g4 c4 vt29 h4 hgr hat4 hlt4
                   simp only [Nat.zero_add, List.nil_append] at h4 ⊢
                   have n5 := kept_own hgr n5 (fun p e => by cases e; exact fun e2 => hne5 e2.symm)
                   have hk := hk.grown he hgr
                   clear hgr hat4 he
                   refine ⟨(fun _ => hk.s), ?_⟩
                   try simp only [Act.put, tA, tB, tC]
                   refine wpK_two (i := 6) (j := 11) (by kernel_rfl) ?_ ?_
                   ·as_aux_lemma =>
                     skip
                     refine wpOp_append (i := 6) (dt := 153) rfl rfl rfl _ _ _ rfl w25.heap.size 9 l0 (.string ⟨#[]⟩) 1 16 Tryz.underlying28 hl0 hl1 hl2 hl3 rfl (by decide) (.slice (some ⟨g4, 0, none⟩) x.n c4) x.n (strV (la.map intB)) rfl h4 ⟨p5, 0, none⟩ 1 1 [.string ⟨#[48]⟩] rfl rfl (news_of_cell n5) (one_strC _) (by decide) (by have := HNB.out; unfold maxLen; omega) (by have := HNB.out; omega) hk.z ?_
                     intro g6 c6 vt30 h6 hgr hat6 hlt6
                     have hk := hk.grown h4 hgr
                     clear hgr hat6 h4 n5
                     refine ⟨(fun _ => hk.s), ?_⟩
                     try simp only [Act.put, tA, tB, tC]
                     refine wpK_tk (i := 10) (d := some 157) (v := ?_) rfl rfl (.inl ⟨by rfl, fun w hw => ?_⟩) hk.s ?_
                     rotate_left
                     ·clear hw; go_simp; with_reducible rfl
                     try simp only [Act.put, tA, tB, tC]
                     refine wpK_one (i := 11) (by kernel_rfl) rfl rfl ?_
                     go_simp
                     have hp11 := hk.z
                     have hBx := alloc_belowL vt30 (.cells #[.slice none 0 0, .string ⟨#[]⟩] 30)
                     have hk := hk.below hBx
                     have h6 := owns_belowR h6 hBx
                     have b11 := blk_new2 vt30 (.slice none 0 0) (.string ⟨#[]⟩) 30
                     clear hBx
                     generalize vt30.heap.size = p11 at *
                     generalize vt30.alloc (.cells #[.slice none 0 0, .string ⟨#[]⟩] 30) = vt31 at *
                     first | refine ⟨hk.s, ?_⟩ | refine ⟨(fun _ => hk.s), ?_⟩
                     try simp only [Act.put, tA, tB, tC]
                     refine wpK_store (i := 12) (by kernel_rfl) rfl rfl rfl (by kernel_rfl) (by kernel_rfl) _ _ _ rfl p11 0 [.slice (some ⟨g6, 0, none⟩) (x.n + 1) c6, .string (intB da)] rfl rfl (there_two b11) (by rw [info_vec]; rfl) (one_vec _ _ _ _) ?_
                     rw [setCells_two]
                     have hf := hk.stored (s6 := .string (intB da)) h6 b11 hp11
                     clear hk b11 h6
                     go_wp2_with fail
                     go_meet
                     case rel => exact ⟨_, _, _, rfl, hf⟩
                   ·as_aux_lemma =>
                     skip
                     refine wpOp_one (i := 11) rfl rfl ?_
                     go_simp
                     have hp11 := hk.z
                     have hBx := alloc_belowL vt29 (.cells #[.slice none 0 0, .string ⟨#[]⟩] 30)
                     have hk := hk.below hBx
                     have h4 := owns_belowR h4 hBx
                     have n5 := keptBelow hBx n5
                     have b11 := blk_new2 vt29 (.slice none 0 0) (.string ⟨#[]⟩) 30
                     clear hBx
                     generalize vt29.heap.size = p11 at *
                     generalize vt29.alloc (.cells #[.slice none 0 0, .string ⟨#[]⟩] 30) = vt32 at *
                     first | refine ⟨hk.s, ?_⟩ | refine ⟨(fun _ => hk.s), ?_⟩
                     try simp only [Act.put, tA, tB, tC]
                     refine wpK_append (i := 6) (dt := 153) (by kernel_rfl) rfl rfl rfl _ _ _ rfl w25.heap.size 9 l0 (.string ⟨#[]⟩) 1 16 Tryz.underlying28 hl0 hl1 hl2 hl3 rfl (by decide) (.slice (some ⟨g4, 0, none⟩) x.n c4) x.n (strV (la.map intB)) rfl h4 ⟨p5, 0, none⟩ 1 1 [.string ⟨#[48]⟩] rfl rfl (news_of_cell n5) (one_strC _) (by decide) (by have := HNB.out; unfold maxLen; omega) (by have := HNB.out; omega) hk.z ?_
                     intro g6 c6 vt33 h6 hgr hat6 hlt6
                     have hk := hk.grown h4 hgr
                     have b11 := kept_blk hgr b11 (fun p e e2 => own_box h4 b11 str_ne_vec p e e2.symm)
                     clear hgr hat6 h4 n5
                     refine ⟨(fun _ => hk.s), ?_⟩
                     try simp only [Act.put, tA, tB, tC]
                     refine wpK_tk (i := 10) (d := some 157) (v := ?_) rfl rfl (.inl ⟨by rfl, fun w hw => ?_⟩) hk.s ?_
                     rotate_left
                     ·clear hw; go_simp; with_reducible rfl
                     try simp only [Act.put, tA, tB, tC]
                     refine wpK_store (i := 12) (by kernel_rfl) rfl rfl rfl (by kernel_rfl) (by kernel_rfl) _ _ _ rfl p11 0 [.slice (some ⟨g6, 0, none⟩) (x.n + 1) c6, .string (intB da)] rfl rfl (there_two b11) (by rw [info_vec]; rfl) (one_vec _ _ _ _) ?_
                     rw [setCells_two]
                     have hf := hk.stored (s6 := .string (intB da)) h6 b11 hp11
                     clear hk b11 h6
                     go_wp2_with fail
                     go_meet
                     case rel => exact ⟨_, _, _, rfl, hf⟩
                 ·as_aux_lemma =>
                   skip
                   refine wpOp_one (i := 11) rfl rfl ?_
                   go_simp
                   have hp11 := hk.z
                   have hBx := alloc_belowL vt28 (.cells #[.slice none 0 0, .string ⟨#[]⟩] 30)
                   have hk := hk.below hBx
                   have he := owns_belowR he hBx
                   have n5 := keptBelow hBx n5
                   have b11 := blk_new2 vt28 (.slice none 0 0) (.string ⟨#[]⟩) 30
                   clear hBx
                   generalize vt28.heap.size = p11 at *
                   generalize vt28.alloc (.cells #[.slice none 0 0, .string ⟨#[]⟩] 30) = vt34 at *
                   first | refine ⟨hk.s, ?_⟩ | refine ⟨(fun _ => hk.s), ?_⟩
                   try simp only [Act.put, tA, tB, tC]
                   refine wpK_append (i := 4) (dt := 151) (by kernel_rfl) rfl rfl rfl _ _ _ rfl w25.heap.size 9 l0 (.string ⟨#[]⟩) 1 16 Tryz.underlying28 hl0 hl1 hl2 hl3 rfl (by decide) (.slice (some ⟨pe, 0, none⟩) 0 0) 0 [] rfl he ⟨qa1, 0, none⟩ x.n (x.n + 1) (strV (la.map intB)) rfl (by rw [strV_lenM, HlenA.out]; omega) (strs_newsL hk.bq) (one_strV _) (by have := HNB.out; omega) (by have := HNB.out; unfold maxLen; omega) (by have := HNB.out; omega) hk.z ?_
                   intro g4 c4 vt35 h4 hgr hat4 hlt4
                   simp only [Nat.zero_add, List.nil_append] at h4 ⊢
                   have n5 := kept_own hgr n5 (fun p e => by cases e; exact fun e2 => hne5 e2.symm)
                   have hk := hk.grown he hgr
                   have b11 := kept_blk hgr b11 (fun p e e2 => own_box he b11 str_ne_vec p e e2.symm)
                   clear hgr hat4 he
                   refine ⟨(fun _ => hk.s), ?_⟩
                   try simp only [Act.put, tA, tB, tC]
                   refine wpK_append (i := 6) (dt := 153) (by kernel_rfl) rfl rfl rfl _ _ _ rfl w25.heap.size 9 l0 (.string ⟨#[]⟩) 1 16 Tryz.underlying28 hl0 hl1 hl2 hl3 rfl (by decide) (.slice (some ⟨g4, 0, none⟩) x.n c4) x.n (strV (la.map intB)) rfl h4 ⟨p5, 0, none⟩ 1 1 [.string ⟨#[48]⟩] rfl rfl (news_of_cell n5) (one_strC _) (by decide) (by have := HNB.out; unfold maxLen; omega) (by have := HNB.out; omega) hk.z ?_
                   intro g6 c6 vt36 h6 hgr hat6 hlt6
                   have hk := hk.grown h4 hgr
                   have b11 := kept_blk hgr b11 (fun p e e2 => own_box h4 b11 str_ne_vec p e e2.symm)
                   clear hgr hat6 h4 n5
                   refine ⟨(fun _ => hk.s), ?_⟩
                   try simp only [Act.put, tA, tB, tC]
                   refine wpK_tk (i := 10) (d := some 157) (v := ?_) rfl rfl (.inl ⟨by rfl, fun w hw => ?_⟩) hk.s ?_
                   rotate_left
                   ·clear hw; go_simp; with_reducible rfl
                   try simp only [Act.put, tA, tB, tC]
                   refine wpK_store (i := 12) (by kernel_rfl) rfl rfl rfl (by kernel_rfl) (by kernel_rfl) _ _ _ rfl p11 0 [.slice (some ⟨g6, 0, none⟩) (x.n + 1) c6, .string (intB da)] rfl rfl (there_two b11) (by rw [info_vec]; rfl) (one_vec _ _ _ _) ?_
                   rw [setCells_two]
                   have hf := hk.stored (s6 := .string (intB da)) h6 b11 hp11
                   clear hk b11 h6
                   go_wp2_with fail
                   go_meet
                   case rel => exact ⟨_, _, _, rfl, hf⟩
               ·as_aux_lemma =>
                 skip
                 refine wpOp_one (i := 11) rfl rfl ?_
                 go_simp
                 have hp11 := hk.z
                 have hBx := alloc_belowL vt27 (.cells #[.slice none 0 0, .string ⟨#[]⟩] 30)
                 have hk := hk.below hBx
                 have n5 := keptBelow hBx n5
                 have b11 := blk_new2 vt27 (.slice none 0 0) (.string ⟨#[]⟩) 30
                 clear hBx
                 generalize vt27.heap.size = p11 at *
                 generalize vt27.alloc (.cells #[.slice none 0 0, .string ⟨#[]⟩] 30) = vt37 at *
                 first | refine ⟨hk.s, ?_⟩ | refine ⟨(fun _ => hk.s), ?_⟩
                 try simp only [Act.put, tA, tB, tC]
                 refine wpK_one (i := 0) (by kernel_rfl) rfl rfl ?_
                 go_simp
                 have hne5 : vt37.heap.size ≠ p5 := Nat.ne_of_gt (lt_of_cell n5)
                 have hx := own_base (own_empty vt37 9) hk.z
                 have hBx := alloc_belowL vt37 (.cells #[] 9)
                 have hk := hk.below hBx
                 have b11 := b11.via hBx
                 have n5 := keptBelow hBx n5
                 have he := hx
                 clear hBx hx
                 generalize vt37.heap.size = pe at *
                 generalize vt37.alloc (.cells #[] 9) = vt38 at *
                 first | refine ⟨hk.s, ?_⟩ | refine ⟨(fun _ => hk.s), ?_⟩
                 try simp only [Act.put, tA, tB, tC]
                 refine wpK_append (i := 4) (dt := 151) (by kernel_rfl) rfl rfl rfl _ _ _ rfl w25.heap.size 9 l0 (.string ⟨#[]⟩) 1 16 Tryz.underlying28 hl0 hl1 hl2 hl3 rfl (by decide) (.slice (some ⟨pe, 0, none⟩) 0 0) 0 [] rfl he ⟨qa1, 0, none⟩ x.n (x.n + 1) (strV (la.map intB)) rfl (by rw [strV_lenM, HlenA.out]; omega) (strs_newsL hk.bq) (one_strV _) (by have := HNB.out; omega) (by have := HNB.out; unfold maxLen; omega) (by have := HNB.out; omega) hk.z ?_
                 intro g4 c4 vt39 h4 hgr hat4 hlt4
                 simp only [Nat.zero_add, List.nil_append] at h4 ⊢
                 have n5 := kept_own hgr n5 (fun p e => by cases e; exact fun e2 => hne5 e2.symm)
                 have hk := hk.grown he hgr
                 have b11 := kept_blk hgr b11 (fun p e e2 => own_box he b11 str_ne_vec p e e2.symm)
                 clear hgr hat4 he
                 refine ⟨(fun _ => hk.s), ?_⟩
                 try simp only [Act.put, tA, tB, tC]
                 refine wpK_append (i := 6) (dt := 153) (by kernel_rfl) rfl rfl rfl _ _ _ rfl w25.heap.size 9 l0 (.string ⟨#[]⟩) 1 16 Tryz.underlying28 hl0 hl1 hl2 hl3 rfl (by decide) (.slice (some ⟨g4, 0, none⟩) x.n c4) x.n (strV (la.map intB)) rfl h4 ⟨p5, 0, none⟩ 1 1 [.string ⟨#[48]⟩] rfl rfl (news_of_cell n5) (one_strC _) (by decide) (by have := HNB.out; unfold maxLen; omega) (by have := HNB.out; omega) hk.z ?_
                 intro g6 c6 vt40 h6 hgr hat6 hlt6
                 have hk := hk.grown h4 hgr
                 have b11 := kept_blk hgr b11 (fun p e e2 => own_box h4 b11 str_ne_vec p e e2.symm)
                 clear hgr hat6 h4 n5
                 refine ⟨(fun _ => hk.s), ?_⟩
                 try simp only [Act.put, tA, tB, tC]
                 refine wpK_tk (i := 10) (d := some 157) (v := ?_) rfl rfl (.inl ⟨by rfl, fun w hw => ?_⟩) hk.s ?_
                 rotate_left
                 ·clear hw; go_simp; with_reducible rfl
                 try simp only [Act.put, tA, tB, tC]
                 refine wpK_store (i := 12) (by kernel_rfl) rfl rfl rfl (by kernel_rfl) (by kernel_rfl) _ _ _ rfl p11 0 [.slice (some ⟨g6, 0, none⟩) (x.n + 1) c6, .string (intB da)] rfl rfl (there_two b11) (by rw [info_vec]; rfl) (one_vec _ _ _ _) ?_
                 rw [setCells_two]
                 have hf := hk.stored (s6 := .string (intB da)) h6 b11 hp11
                 clear hk b11 h6
                 go_wp2_with fail
                 go_meet
                 case rel => exact ⟨_, _, _, rfl, hf⟩
             ·as_aux_lemma =>
               skip
               refine wpOp_one (i := 11) rfl rfl ?_
               go_simp
               have hp11 := hk.z
               have hBx := alloc_belowL v0 (.cells #[.slice none 0 0, .string ⟨#[]⟩] 30)
               have hk := hk.below hBx
               have b11 := blk_new2 v0 (.slice none 0 0) (.string ⟨#[]⟩) 30
               clear hBx
               generalize v0.heap.size = p11 at *
               generalize v0.alloc (.cells #[.slice none 0 0, .string ⟨#[]⟩] 30) = vt41 at *
               first | refine ⟨hk.s, ?_⟩ | refine ⟨(fun _ => hk.s), ?_⟩
               try simp only [Act.put, tA, tB, tC]
               refine wpK_two (i := 0) (j := 5) (by kernel_rfl) ?_ ?_
               ·as_aux_lemma =>
                 skip
                 refine wpOp_one (i := 0) rfl rfl ?_
                 go_simp
                 have hx := own_base (own_empty vt41 9) hk.z
                 have hBx := alloc_belowL vt41 (.cells #[] 9)
                 have hk := hk.below hBx
                 have b11 := b11.via hBx
                 have he := hx
                 clear hBx hx
                 generalize vt41.heap.size = pe at *
                 generalize vt41.alloc (.cells #[] 9) = vt42 at *
                 first | refine ⟨hk.s, ?_⟩ | refine ⟨(fun _ => hk.s), ?_⟩
                 try simp only [Act.put, tA, tB, tC]
                 refine wpK_two (i := 4) (j := 5) (by kernel_rfl) ?_ ?_
                 ·as_aux_lemma =>
                   skip
                   refine wpOp_append (i := 4) (dt := 151) rfl rfl rfl _ _ _ rfl w25.heap.size 9 l0 (.string ⟨#[]⟩) 1 16 Tryz.underlying28 hl0 hl1 hl2 hl3 rfl (by decide) (.slice (some ⟨pe, 0, none⟩) 0 0) 0 [] rfl he ⟨qa1, 0, none⟩ x.n (x.n + 1) (strV (la.map intB)) rfl (by rw [strV_lenM, HlenA.out]; omega) (strs_newsL hk.bq) (one_strV _) (by have := HNB.out; omega) (by have := HNB.out; unfold maxLen; omega) (by have := HNB.out; omega) hk.z ?_
                   intro g4 c4 vt43 h4 hgr hat4 hlt4
                   simp only [Nat.zero_add, List.nil_append] at h4 ⊢
                   have hk := hk.grown he hgr
                   have b11 := kept_blk hgr b11 (fun p e e2 => own_box he b11 str_ne_vec p e e2.symm)
                   clear hgr hat4 he
                   refine ⟨(fun _ => hk.s), ?_⟩
                   try simp only [Act.put, tA, tB, tC]
                   refine wpK_one (i := 5) (by kernel_rfl) rfl rfl ?_
                   go_simp
                   have hBx := alloc_belowL vt43 (.cells #[.string ⟨#[48]⟩] 9)
                   have hk := hk.below hBx
                   have b11 := b11.via hBx
                   have h4 := owns_belowR h4 hBx
                   have n5 := (blk_one vt43 (.string ⟨#[48]⟩) 9).cell (i := 0) rfl
                   clear hBx
                   generalize vt43.heap.size = p5 at *
                   generalize vt43.alloc (.cells #[.string ⟨#[48]⟩] 9) = vt44 at *
                   first | refine ⟨hk.s, ?_⟩ | refine ⟨(fun _ => hk.s), ?_⟩
                   try simp only [Act.put, tA, tB, tC]
                   refine wpK_append (i := 6) (dt := 153) (by kernel_rfl) rfl rfl rfl _ _ _ rfl w25.heap.size 9 l0 (.string ⟨#[]⟩) 1 16 Tryz.underlying28 hl0 hl1 hl2 hl3 rfl (by decide) (.slice (some ⟨g4, 0, none⟩) x.n c4) x.n (strV (la.map intB)) rfl h4 ⟨p5, 0, none⟩ 1 1 [.string ⟨#[48]⟩] rfl rfl (news_of_cell n5) (one_strC _) (by decide) (by have := HNB.out; unfold maxLen; omega) (by have := HNB.out; omega) hk.z ?_
                   intro g6 c6 vt45 h6 hgr hat6 hlt6
                   have hk := hk.grown h4 hgr
                   have b11 := kept_blk hgr b11 (fun p e e2 => own_box h4 b11 str_ne_vec p e e2.symm)
                   clear hgr hat6 h4 n5
                   refine ⟨(fun _ => hk.s), ?_⟩
                   try simp only [Act.put, tA, tB, tC]
                   refine wpK_tk (i := 10) (d := some 157) (v := ?_) rfl rfl (.inl ⟨by rfl, fun w hw => ?_⟩) hk.s ?_
                   rotate_left
                   ·clear hw; go_simp; with_reducible rfl
                   try simp only [Act.put, tA, tB, tC]
                   refine wpK_store (i := 12) (by kernel_rfl) rfl rfl rfl (by kernel_rfl) (by kernel_rfl) _ _ _ rfl p11 0 [.slice (some ⟨g6, 0, none⟩) (x.n + 1) c6, .string (intB da)] rfl rfl (there_two b11) (by rw [info_vec]; rfl) (one_vec _ _ _ _) ?_
                   rw [setCells_two]
                   have hf := hk.stored (s6 := .string (intB da)) h6 b11 hp11
                   clear hk b11 h6
                   go_wp2_with fail
                   go_meet
                   case rel => exact ⟨_, _, _, rfl, hf⟩
                 ·as_aux_lemma =>
                   skip
                   refine wpOp_one (i := 5) rfl rfl ?_
                   go_simp
                   have hne5 : pe ≠ vt42.heap.size := Nat.ne_of_lt (own_lt he pe rfl).2
                   have hBx := alloc_belowL vt42 (.cells #[.string ⟨#[48]⟩] 9)
                   have hk := hk.below hBx
                   have b11 := b11.via hBx
                   have he := owns_belowR he hBx
                   have n5 := (blk_one vt42 (.string ⟨#[48]⟩) 9).cell (i := 0) rfl
                   clear hBx
                   generalize vt42.heap.size = p5 at *
                   generalize vt42.alloc (.cells #[.string ⟨#[48]⟩] 9) = vt46 at *
                   first | refine ⟨hk.s, ?_⟩ | refine ⟨(fun _ => hk.s), ?_⟩
                   try simp only [Act.put, tA, tB, tC]
                   refine wpK_append (i := 4) (dt := 151) (by kernel_rfl) rfl rfl rfl _ _ _ rfl w25.heap.size 9 l0 (.string ⟨#[]⟩) 1 16 Tryz.underlying28 hl0 hl1 hl2 hl3 rfl (by decide) (.slice (some ⟨pe, 0, none⟩) 0 0) 0 [] rfl he ⟨qa1, 0, none⟩ x.n (x.n + 1) (strV (la.map intB)) rfl (by rw [strV_lenM, HlenA.out]; omega) (strs_newsL hk.bq) (one_strV _) (by have := HNB.out; omega) (by have := HNB.out; unfold maxLen; omega) (by have := HNB.out; omega) hk.z ?_
                   intro g4 c4 vt47 h4 hgr hat4 hlt4
                   simp only [Nat.zero_add, List.nil_append] at h4 ⊢
                   have n5 := kept_own hgr n5 (fun p e => by cases e; exact fun e2 => hne5 e2.symm)
                   have hk := hk.grown he hgr
                   have b11 := kept_blk hgr b11 (fun p e e2 => own_box he b11 str_ne_vec p e e2.symm)
                   clear hgr hat4 he
                   refine ⟨(fun _ => hk.s), ?_⟩
                   try simp only [Act.put, tA, tB, tC]
                   refine wpK_append (i := 6) (dt := 153) (by kernel_rfl) rfl rfl rfl _ _ _ rfl w25.heap.size 9 l0 (.string ⟨#[]⟩) 1 16 Tryz.underlying28 hl0 hl1 hl2 hl3 rfl (by decide) (.slice (some ⟨g4, 0, none⟩) x.n c4) x.n (strV (la.map intB)) rfl h4 ⟨p5, 0, none⟩ 1 1 [.string ⟨#[48]⟩] rfl rfl (news_of_cell n5) (one_strC _) (by decide) (by have := HNB.out; unfold maxLen; omega) (by have := HNB.out; omega) hk.z ?_
                   intro g6 c6 vt48 h6 hgr hat6 hlt6
                   have hk := hk.grown h4 hgr
                   have b11 := kept_blk hgr b11 (fun p e e2 => own_box h4 b11 str_ne_vec p e e2.symm)
                   clear hgr hat6 h4 n5
                   refine ⟨(fun _ => hk.s), ?_⟩
                   try simp only [Act.put, tA, tB, tC]
                   refine wpK_tk (i := 10) (d := some 157) (v := ?_) rfl rfl (.inl ⟨by rfl, fun w hw => ?_⟩) hk.s ?_
                   rotate_left
                   ·clear hw; go_simp; with_reducible rfl
                   try simp only [Act.put, tA, tB, tC]
                   refine wpK_store (i := 12) (by kernel_rfl) rfl rfl rfl (by kernel_rfl) (by kernel_rfl) _ _ _ rfl p11 0 [.slice (some ⟨g6, 0, none⟩) (x.n + 1) c6, .string (intB da)] rfl rfl (there_two b11) (by rw [info_vec]; rfl) (one_vec _ _ _ _) ?_
                   rw [setCells_two]
                   have hf := hk.stored (s6 := .string (intB da)) h6 b11 hp11
                   clear hk b11 h6
                   go_wp2_with fail
                   go_meet
                   case rel => exact ⟨_, _, _, rfl, hf⟩
               ·as_aux_lemma =>
                 skip
                 refine wpOp_one (i := 5) rfl rfl ?_
                 go_simp
                 have hBx := alloc_belowL vt41 (.cells #[.string ⟨#[48]⟩] 9)
                 have hk := hk.below hBx
                 have b11 := b11.via hBx
                 have n5 := (blk_one vt41 (.string ⟨#[48]⟩) 9).cell (i := 0) rfl
                 clear hBx
                 generalize vt41.heap.size = p5 at *
                 generalize vt41.alloc (.cells #[.string ⟨#[48]⟩] 9) = vt49 at *
                 first | refine ⟨hk.s, ?_⟩ | refine ⟨(fun _ => hk.s), ?_⟩
                 try simp only [Act.put, tA, tB, tC]
                 refine wpK_one (i := 0) (by kernel_rfl) rfl rfl ?_
                 go_simp
                 have hne5 : vt49.heap.size ≠ p5 := Nat.ne_of_gt (lt_of_cell n5)
                 have hx := own_base (own_empty vt49 9) hk.z
                 have hBx := alloc_belowL vt49 (.cells #[] 9)
                 have hk := hk.below hBx
                 have b11 := b11.via hBx
                 have n5 := keptBelow hBx n5
                 have he := hx
                 clear hBx hx
                 generalize vt49.heap.size = pe at *
                 generalize vt49.alloc (.cells #[] 9) = vt50 at *
                 first | refine ⟨hk.s, ?_⟩ | refine ⟨(fun _ => hk.s), ?_⟩
                 try simp only [Act.put, tA, tB, tC]
                 refine wpK_append (i := 4) (dt := 151) (by kernel_rfl) rfl rfl rfl _ _ _ rfl w25.heap.size 9 l0 (.string ⟨#[]⟩) 1 16 Tryz.underlying28 hl0 hl1 hl2 hl3 rfl (by decide) (.slice (some ⟨pe, 0, none⟩) 0 0) 0 [] rfl he ⟨qa1, 0, none⟩ x.n (x.n + 1) (strV (la.map intB)) rfl (by rw [strV_lenM, HlenA.out]; omega) (strs_newsL hk.bq) (one_strV _) (by have := HNB.out; omega) (by have := HNB.out; unfold maxLen; omega) (by have := HNB.out; omega) hk.z ?_
                 intro g4 c4 vt51 h4 hgr hat4 hlt4
                 simp only [Nat.zero_add, List.nil_append] at h4 ⊢
                 have n5 := kept_own hgr n5 (fun p e => by cases e; exact fun e2 => hne5 e2.symm)
                 have hk := hk.grown he hgr
                 have b11 := kept_blk hgr b11 (fun p e e2 => own_box he b11 str_ne_vec p e e2.symm)
                 clear hgr hat4 he
                 refine ⟨(fun _ => hk.s), ?_⟩
                 try simp only [Act.put, tA, tB, tC]
                 refine wpK_append (i := 6) (dt := 153) (by kernel_rfl) rfl rfl rfl _ _ _ rfl w25.heap.size 9 l0 (.string ⟨#[]⟩) 1 16 Tryz.underlying28 hl0 hl1 hl2 hl3 rfl (by decide) (.slice (some ⟨g4, 0, none⟩) x.n c4) x.n (strV (la.map intB)) rfl h4 ⟨p5, 0, none⟩ 1 1 [.string ⟨#[48]⟩] rfl rfl (news_of_cell n5) (one_strC _) (by decide) (by have := HNB.out; unfold maxLen; omega) (by have := HNB.out; omega) hk.z ?_
                 intro g6 c6 vt52 h6 hgr hat6 hlt6
                 have hk := hk.grown h4 hgr
                 have b11 := kept_blk hgr b11 (fun p e e2 => own_box h4 b11 str_ne_vec p e e2.symm)
                 clear hgr hat6 h4 n5
                 refine ⟨(fun _ => hk.s), ?_⟩
                 try simp only [Act.put, tA, tB, tC]
                 refine wpK_tk (i := 10) (d := some 157) (v := ?_) rfl rfl (.inl ⟨by rfl, fun w hw => ?_⟩) hk.s ?_
                 rotate_left
                 ·clear hw; go_simp; with_reducible rfl
                 try simp only [Act.put, tA, tB, tC]
                 refine wpK_store (i := 12) (by kernel_rfl) rfl rfl rfl (by kernel_rfl) (by kernel_rfl) _ _ _ rfl p11 0 [.slice (some ⟨g6, 0, none⟩) (x.n + 1) c6, .string (intB da)] rfl rfl (there_two b11) (by rw [info_vec]; rfl) (one_vec _ _ _ _) ?_
                 rw [setCells_two]
                 have hf := hk.stored (s6 := .string (intB da)) h6 b11 hp11
                 clear hk b11 h6
                 go_wp2_with fail
                 go_meet
                 case rel => exact ⟨_, _, _, rfl, hf⟩
           case rest =>
            as_aux_lemma =>
             obtain ⟨pv2, gv, cv, rfl, hb, h6, hkk, hWW, hsz⟩ := hcut
             have hUO := HUO.out.keepN HUO.out.lt hkk
             have hub := hkk.blk HUB.out HUB.out.lt
             have hcc := hkk.blk HC.out HC.out.lt
             have HFI := Lib.hid hWW
             clear s0 s1 t0 t1 u0 u1 ya0 ya1 ya2 ya3 yb0 yb1 yb2 yb3 yc0 yc1 yc2 yc3
             have u0 := hub.cell (i := 0) rfl
             have u1 := hub.cell (i := 1) rfl
             have yc0 := hcc.cell (i := 0) rfl
             have yc1 := hcc.cell (i := 1) rfl
             have yc2 := hcc.cell (i := 2) rfl
             have yc3 := hcc.cell (i := 3) rfl
             have v0 := hb.cell (i := 0) rfl
             have v1c := hb.cell (i := 1) rfl
             have HS6 := Lib.hid h6
             have HUS := Lib.hid (sys_ofU hUO HLU2.out)
             clear hb h6 hkk hWW hsz hUO hub hcc
             go_wp2_with fail
             refine (check_U (col := col) _ HUS.out HS6.out HlA.out HdA.out HSA.out).mono ?_
             rintro e wl ⟨rfl, hB⟩
             have HFI := Lib.hid (belowVia hB HFI.out)
             clear hB u0 u1 yc0 yc1 yc2 yc3 v0 v1c
             go_wp2_with fail
             go_ret
             exact ⟨rfl, HFI.out⟩
       ·as_aux_lemma =>
         rw [made_rows]
         have HbA := Lib.hid hba
         have HlA := Lib.hid hla
         have HRA := Lib.hid hra
         have HlenA : Hid (la.length = x.m) := Lib.hid (by have h1 := hra.len; rw [made_rows] at h1; exact h1)
         clear hba hla hra
         have hB := alloc_belowL w19 (.cells #[.bool false, .slice none 0 0, .string ⟨#[]⟩, .slice (some ⟨qa1, 0, none⟩) x.m x.m] 38)
         have HA : BlkB 38 w19.heap.size [.bool false, .slice none 0 0, .string ⟨#[]⟩, .slice (some ⟨qa1, 0, none⟩) x.m x.m] (w19.alloc (.cells #[.bool false, .slice none 0 0, .string ⟨#[]⟩, .slice (some ⟨qa1, 0, none⟩) x.m x.m] 38)) := heap_alloc_new w19 _
         replace HUO := Lib.hid (HUO.out.via hB)
         replace HUB := Lib.hid (HUB.out.via hB)
         replace HbA := Lib.hid (HbA.out.via hB)
         replace H3 := Lib.hid (H3.out.keep (KeepN.below hB HZ.out))
         replace HZ := Lib.hid (Nat.le_trans HZ.out hB.size)
         replace HW := Lib.hid (belowVia hB HW.out)
         replace HA := Lib.hid HA
         clear hB
         have t0 := H3.out.tb.cell (i := 0) rfl
         have t1 := H3.out.tb.cell (i := 1) rfl
         have hTT := HTW.out _ HW.out
         go_wp2_with fail
         generalize w19.alloc (.cells #[.bool false, .slice none 0 0, .string ⟨#[]⟩, .slice (some ⟨qa1, 0, none⟩) x.m x.m] 38) = w20 at *
         generalize w19.heap.size = pa at *
         refine (answers_T HVB.out a2 c2 w20 (sys_ofT HVB.out (own_t H3.out.t HLL2.out) HTT.out) hTT).mono ?_
         rintro e w21 ⟨⟨va, rfl, hA⟩, hB⟩
         replace HUO := Lib.hid (HUO.out.via hB)
         replace HUB := Lib.hid (HUB.out.via hB)
         replace HbA := Lib.hid (HbA.out.via hB)
         replace HA := Lib.hid (HA.out.via hB)
         replace H3 := Lib.hid (H3.out.keep (KeepN.below hB HZ.out))
         replace HZ := Lib.hid (Nat.le_trans HZ.out hB.size)
         replace HW := Lib.hid (belowVia hB HW.out)
         clear hB
         clear t0 t1
         clear hTT
         rcases hA with ⟨qb, lb, db, rfl, _, hbb, hlb, hdb, hsb⟩ | ⟨qb, lb, rfl, _, hbb, hlb, hrb⟩
         case inl => exact absurd HRA.out (fun h => (moreT_sol hsb).not_ref h)
         rw [moreT_len]
         have HbB := Lib.hid hbb
         clear hbb hlb hrb
         have hB := alloc_belowL w21 (.cells #[.bool false, .slice none 0 0, .string ⟨#[]⟩, .slice (some ⟨qb, 0, none⟩) (x.m + 1) (x.m + 1)] 38)
         have HB : BlkB 38 w21.heap.size [.bool false, .slice none 0 0, .string ⟨#[]⟩, .slice (some ⟨qb, 0, none⟩) (x.m + 1) (x.m + 1)] (w21.alloc (.cells #[.bool false, .slice none 0 0, .string ⟨#[]⟩, .slice (some ⟨qb, 0, none⟩) (x.m + 1) (x.m + 1)] 38)) := heap_alloc_new w21 _
         replace HUO := Lib.hid (HUO.out.via hB)
         replace HUB := Lib.hid (HUB.out.via hB)
         replace HbA := Lib.hid (HbA.out.via hB)
         replace HA := Lib.hid (HA.out.via hB)
         replace HbB := Lib.hid (HbB.out.via hB)
         replace H3 := Lib.hid (H3.out.keep (KeepN.below hB HZ.out))
         replace HZ := Lib.hid (Nat.le_trans HZ.out hB.size)
         replace HW := Lib.hid (belowVia hB HW.out)
         replace HB := Lib.hid HB
         clear hB
         have u0 := HUB.out.cell (i := 0) rfl
         have u1 := HUB.out.cell (i := 1) rfl
         have hTT := HTW.out _ HW.out
         go_wp2_with fail
         generalize w21.alloc (.cells #[.bool false, .slice none 0 0, .string ⟨#[]⟩, .slice (some ⟨qb, 0, none⟩) (x.m + 1) (x.m + 1)] 38) = w22 at *
         generalize w21.heap.size = pb at *
         refine (answers_U (some ⟨ug, 0, none⟩) uc w22 (sys_ofU HUO.out HLU2.out) hTT).mono ?_
         rintro e w23 ⟨⟨va, rfl, hA⟩, hB⟩
         replace HUO := Lib.hid (HUO.out.via hB)
         replace HUB := Lib.hid (HUB.out.via hB)
         replace HbA := Lib.hid (HbA.out.via hB)
         replace HA := Lib.hid (HA.out.via hB)
         replace HbB := Lib.hid (HbB.out.via hB)
         replace HB := Lib.hid (HB.out.via hB)
         replace H3 := Lib.hid (H3.out.keep (KeepN.below hB HZ.out))
         replace HZ := Lib.hid (Nat.le_trans HZ.out hB.size)
         replace HW := Lib.hid (belowVia hB HW.out)
         clear hB
         clear u0 u1
         clear hTT
         obtain ⟨fb, p1, l1, k1, t2, p3, l3, k3, rfl, hD⟩ := ans_gen (colsU x col) (moreU_len x col) hA
         have HDB := Lib.hid hD
         have HV : Hid (∀ q c, BlkB 9 q c w23 → BlkB 9 q c w23) := Lib.hid (fun _ _ h => h)
         clear hD hA
         have hB := alloc_belowL w23 (.cells #[.bool fb, .slice p1 l1 k1, .string t2, .slice p3 l3 k3] 38)
         have HC : BlkB 38 w23.heap.size [.bool fb, .slice p1 l1 k1, .string t2, .slice p3 l3 k3] (w23.alloc (.cells #[.bool fb, .slice p1 l1 k1, .string t2, .slice p3 l3 k3] 38)) := heap_alloc_new w23 _
         replace HUO := Lib.hid (HUO.out.via hB)
         replace HUB := Lib.hid (HUB.out.via hB)
         replace HbA := Lib.hid (HbA.out.via hB)
         replace HA := Lib.hid (HA.out.via hB)
         replace HbB := Lib.hid (HbB.out.via hB)
         replace HB := Lib.hid (HB.out.via hB)
         replace HV := Lib.hid (fun q c h => (HV.out q c h).via hB)
         replace H3 := Lib.hid (H3.out.keep (KeepN.below hB HZ.out))
         replace HZ := Lib.hid (Nat.le_trans HZ.out hB.size)
         replace HW := Lib.hid (belowVia hB HW.out)
         replace HC := Lib.hid HC
         clear hB
         have s0 := H3.out.sb.cell (i := 0) rfl
         have s1 := H3.out.sb.cell (i := 1) rfl
         have t0 := H3.out.tb.cell (i := 0) rfl
         have t1 := H3.out.tb.cell (i := 1) rfl
         have u0 := HUB.out.cell (i := 0) rfl
         have u1 := HUB.out.cell (i := 1) rfl
         have ya0 := HA.out.cell (i := 0) rfl
         have ya1 := HA.out.cell (i := 1) rfl
         have ya2 := HA.out.cell (i := 2) rfl
         have ya3 := HA.out.cell (i := 3) rfl
         have yb0 := HB.out.cell (i := 0) rfl
         have yb1 := HB.out.cell (i := 1) rfl
         have yb2 := HB.out.cell (i := 2) rfl
         have yb3 := HB.out.cell (i := 3) rfl
         have yc0 := HC.out.cell (i := 0) rfl
         have yc1 := HC.out.cell (i := 1) rfl
         have yc2 := HC.out.cell (i := 2) rfl
         have yc3 := HC.out.cell (i := 3) rfl
         go_upto_region 28 with fail
         generalize w23.alloc (.cells #[.bool fb, .slice p1 l1 k1, .string t2, .slice p3 l3 k3] 38) = w24 at *
         generalize w23.heap.size = pc at *
         go_cut [144] (fun sx wx => sx = .bool false ∧ Below w24.heap.size w24 wx)
         case first =>
          as_aux_lemma =>
           rcases HDB.out with ⟨rfl, _⟩ | ⟨rfl, q, l, rfl, rfl, rfl, hb, hl, hr⟩
           ·go_wp2_with fail
            go_meet
            case rel => exact ⟨rfl, Below.refl _ _⟩
           ·have HCK := Lib.hid (refutes_U (col := col) w24 (sys_of H3.out.s HLS.out) (HV.out _ _ hb) hl hr)
            clear hb hl hr
            go_wp2_with fail
            refine HCK.out.mono ?_
            rintro e w25 ⟨rfl, hB⟩
            go_wp2_with fail
            go_meet
            case rel => exact ⟨rfl, hB⟩
         case rest =>
          as_aux_lemma =>
           obtain ⟨rfl, hB⟩ := hcut
           replace HUO := Lib.hid (HUO.out.via hB)
           replace HUB := Lib.hid (HUB.out.via hB)
           replace HbA := Lib.hid (HbA.out.via hB)
           replace HA := Lib.hid (HA.out.via hB)
           replace HbB := Lib.hid (HbB.out.via hB)
           replace HB := Lib.hid (HB.out.via hB)
           replace HV := Lib.hid (fun q c h => (HV.out q c h).via hB)
           replace HC := Lib.hid (HC.out.via hB)
           replace H3 := Lib.hid (H3.out.keep (KeepN.below hB HZ.out))
           replace HZ := Lib.hid (Nat.le_trans HZ.out hB.size)
           replace HW := Lib.hid (belowVia hB HW.out)
           clear hB HDB HV
           clear s0 s1
           clear t0 t1
           clear u0 u1
           clear ya0 ya1 ya2 ya3
           clear yb0 yb1 yb2 yb3
           clear yc0 yc1 yc2 yc3
           have s0 := H3.out.sb.cell (i := 0) rfl
           have s1 := H3.out.sb.cell (i := 1) rfl
           have t0 := H3.out.tb.cell (i := 0) rfl
           have t1 := H3.out.tb.cell (i := 1) rfl
           have u0 := HUB.out.cell (i := 0) rfl
           have u1 := HUB.out.cell (i := 1) rfl
           have ya0 := HA.out.cell (i := 0) rfl
           have ya1 := HA.out.cell (i := 1) rfl
           have ya2 := HA.out.cell (i := 2) rfl
           have ya3 := HA.out.cell (i := 3) rfl
           have yb0 := HB.out.cell (i := 0) rfl
           have yb1 := HB.out.cell (i := 1) rfl
           have yb2 := HB.out.cell (i := 2) rfl
           have yb3 := HB.out.cell (i := 3) rfl
           have yc0 := HC.out.cell (i := 0) rfl
           have yc1 := HC.out.cell (i := 1) rfl
           have yc2 := HC.out.cell (i := 2) rfl
           have yc3 := HC.out.cell (i := 3) rfl
           generalize wc = w25 at *
           go_wp2_with fail
           obtain ⟨l0, hl0, hl1, hl2, hl3⟩ := info_ex inf_str
           have hF0 : ∀ w, Calls Tryz.prog 33 #[.int .i64 0] w fun e w' => e = .returned (.string ⟨#[48]⟩) ∧ Below w.heap.size w w' := fun w => by
            have h := rfrom_any 0 (by decide) (by decide) w
            rw [intB_0] at h; exact h
           have hba := HbA.out
           have h3 := H3.out
           have hWW := HW.out
           have hz := HZ.out
           refine wp_region_S (fun w' => w'.cell? ⟨pb, 0, none⟩ = some (.bool false) ∧ w'.cell? ⟨pt, 0, none⟩ = some (.int .i64 (x.n : Nat)) ∧ w'.cell? ⟨pt, 1, none⟩ = some (.slice a2 (x.m + 1) c2) ∧ w'.cell? ⟨pa, 3, none⟩ = some (.slice (some ⟨qa1, 0, none⟩) x.m x.m)) (by kernel_rfl) ?_
           have hD : Below w25.heap.size w25 w25.drew := (Below.refl w25.heap.size w25).drew
           have yb0 := keptBelow hD yb0
           have t0 := keptBelow hD t0
           have t1 := keptBelow hD t1
           have ya3 := keptBelow hD ya3
           have hba := hba.via hD
           have h3 := h3.keep (KeepN.below hD hz)
           have hWW := belowVia hD hWW
           have hz : bu ≤ w25.drew.heap.size := Nat.le_trans hz hD.size
           generalize w25.drew = v0 at *
           clear hD
           have hN0 : v0.heap.size ≤ v0.heap.size := Nat.le_refl _
           have hbN := lt_of_cell yb0
           have htN := lt_of_cell t0
           have haN := lt_of_cell ya3
           have hqN := hba.lt
           obtain ⟨N0, hNN⟩ : ∃ N0, N0 = v0.heap.size := ⟨_, rfl⟩
           have hzN : bu ≤ N0 := by omega
           have hN0 : N0 ≤ v0.heap.size := by omega
           replace hbN : pb < N0 := by omega
           replace htN : pt < N0 := by omega
           replace haN : pa < N0 := by omega
           replace hqN : qa1 < N0 := by omega
           clear hNN
           refine wpS_take (i := 0) (d := some 165) (v := ?_) rfl (by kernel_rfl) (by kernel_rfl) (by kernel_rfl) rfl (fun _ _ _ h => h) (.inl ⟨by rfl, fun w hw => ?_⟩) ⟨yb0, t0, t1, ya3⟩ ?_
           rotate_left
           ·clear hw; go_simp; with_reducible rfl
           try simp only [Act.put, tA, tB, tC]
           refine wpS_take (i := 1) (d := some 166) (v := ?_) rfl (by kernel_rfl) (by kernel_rfl) (by kernel_rfl) rfl (fun _ _ _ h => h) (.inl ⟨by rfl, fun w hw => ?_⟩) ⟨yb0, t0, t1, ya3⟩ ?_
           rotate_left
           ·(obtain ⟨_, _, _, _⟩ := hw); go_simp; with_reducible rfl
           try simp only [Act.put, tA, tB, tC]
           refine wpS_take (i := 2) (d := some 167) (v := ?_) rfl (by kernel_rfl) (by kernel_rfl) (by kernel_rfl) rfl (fun _ _ _ h => h) (.inl ⟨by rfl, fun w hw => ?_⟩) ⟨yb0, t0, t1, ya3⟩ ?_
           rotate_left
           ·clear hw; go_simp; with_reducible rfl
           try simp only [Act.put, tA, tB, tC]
           refine wpS_take (i := 3) (d := some 168) (v := ?_) rfl (by kernel_rfl) (by kernel_rfl) (by kernel_rfl) rfl (fun _ _ _ h => h) (.inl ⟨by rfl, fun w hw => ?_⟩) ⟨yb0, t0, t1, ya3⟩ ?_
           rotate_left
           ·clear hw; go_simp; with_reducible rfl
           try simp only [Act.put, tA, tB, tC]
           refine wpS_take (i := 4) (d := some 169) (v := ?_) rfl (by kernel_rfl) (by kernel_rfl) (by kernel_rfl) rfl (fun _ _ _ h => h) (.inl ⟨by rfl, fun w hw => ?_⟩) ⟨yb0, t0, t1, ya3⟩ ?_
           rotate_left
           ·(obtain ⟨_, _, _, _⟩ := hw); go_simp; with_reducible rfl
           try simp only [Act.put, tA, tB, tC]
           refine wpS_take (i := 6) (d := some 171) (v := ?_) rfl (by kernel_rfl) (by kernel_rfl) (by kernel_rfl) rfl (fun _ _ _ h => h) (.inl ⟨by rfl, fun w hw => ?_⟩) ⟨yb0, t0, t1, ya3⟩ ?_
           rotate_left
           ·clear hw; go_simp; with_reducible rfl
           try simp only [Act.put, tA, tB, tC]
           refine wpS_take (i := 7) (d := some 172) (v := ?_) rfl (by kernel_rfl) (by kernel_rfl) (by kernel_rfl) rfl (fun _ _ _ h => h) (.inl ⟨by rfl, fun w hw => ?_⟩) ⟨yb0, t0, t1, ya3⟩ ?_
           rotate_left
           ·(obtain ⟨_, _, _, _⟩ := hw); go_simp; with_reducible rfl
           try simp only [Act.put, tA, tB, tC]
           refine wpS_want (i := 5) (by kernel_rfl) rfl (by rfl) ?_
           go_simp
           have hBx := alloc_belowL v0 (.cells #[] 9)
           have yb0 := keptBelow hBx yb0
           have t0 := keptBelow hBx t0
           have t1 := keptBelow hBx t1
           have ya3 := keptBelow hBx ya3
           have hba := hba.via hBx
           have h3 := h3.keep (KeepN.below hBx hz)
           have hWW := belowVia hBx hWW
           have he := own_empty v0 9
           have hz : bu ≤ (v0.alloc (.cells #[] 9)).heap.size := Nat.le_trans hz hBx.size
           have hp5 : v0.heap.size < (v0.alloc (.cells #[] 9)).heap.size := by rw [alloc_sizeL]; omega
           clear hBx
           generalize v0.heap.size = p5 at *
           generalize v0.alloc (.cells #[] 9) = v1w at *
           refine ⟨⟨yb0, t0, t1, ya3⟩, ?_⟩
           try simp only [Act.put, tA, tB, tC]
           have he := own_base he hN0
           refine wpS_appendW (i := 8) (dt := 173) (by kernel_rfl) rfl (by rfl) rfl _ _ _ rfl N0 9 l0 (.string ⟨#[]⟩) 1 16 Tryz.underlying28 hl0 hl1 hl2 hl3 rfl (by decide) (.slice (some ⟨p5, 0, none⟩) 0 0) 0 [] rfl he ⟨qa1, 0, none⟩ x.m x.m (strV (la.map intB)) rfl (by rw [strV_lenM, HlenA.out]; omega) (strs_news hba) (one_strV _) (by have := HMB.out; omega) (by have := HMB.out; unfold maxLen; omega) (by have := HMB.out; omega) (by omega) ?_
           intro g4 c4 v2w hown4 hgr hat4 hlt4
           simp only [Nat.zero_add, List.nil_append] at hown4 ⊢
           have hkN : KeepN N0 v1w v2w := KeepN.grown hgr (by have := own_lt he p5 rfl; omega) (fun p e => (own_lt he p e).1)
           have yb0 := cell_keepN hkN yb0 hbN
           have t0 := cell_keepN hkN t0 htN
           have t1 := cell_keepN hkN t1 htN
           have ya3 := cell_keepN hkN ya3 haN
           have hba := hkN.blk hba hqN
           have h3 := h3.keep (hkN.mono hzN)
           have hWW := hWW.grown hgr hWW.size (fun p e => by have := (own_lt he p e).1; have := HPU.out; omega)
           have hz : bu ≤ v2w.heap.size := Nat.le_trans hz hgr.size
           clear hgr hat4 hkN
           refine ⟨⟨yb0, t0, t1, ya3⟩, ?_⟩
           try simp only [Act.put, tA, tB, tC]
           refine wpS_want (i := 9) (by kernel_rfl) rfl (by rfl) ?_
           go_simp
           refine (hF0 _).mono ?_
           rintro e v3w ⟨rfl, hBx⟩
           have yb0 := keptBelow hBx yb0
           have t0 := keptBelow hBx t0
           have t1 := keptBelow hBx t1
           have ya3 := keptBelow hBx ya3
           have hba := hba.via hBx
           have h3 := h3.keep (KeepN.below hBx hz)
           have hWW := belowVia hBx hWW
           have hown4 := owns_belowR hown4 hBx
           have hz : bu ≤ v3w.heap.size := Nat.le_trans hz hBx.size
           clear hBx
           first | refine ⟨⟨yb0, t0, t1, ya3⟩, ?_⟩ | skip
           try simp only [Act.put, tA, tB, tC]
           refine wpS_want (i := 10) (by kernel_rfl) rfl (by rfl) ?_
           go_simp
           have hBx := alloc_belowL v3w (.cells #[.string ⟨#[48]⟩] 9)
           have yb0 := keptBelow hBx yb0
           have t0 := keptBelow hBx t0
           have t1 := keptBelow hBx t1
           have ya3 := keptBelow hBx ya3
           have hba := hba.via hBx
           have h3 := h3.keep (KeepN.below hBx hz)
           have hWW := belowVia hBx hWW
           have hown4 := owns_belowR hown4 hBx
           have hz : bu ≤ (v3w.alloc (.cells #[.string ⟨#[48]⟩] 9)).heap.size := Nat.le_trans hz hBx.size
           have hnw := news_strC v3w ⟨#[48]⟩
           clear hBx
           generalize v3w.heap.size = p10 at *
           generalize v3w.alloc (.cells #[.string ⟨#[48]⟩] 9) = v4w at *
           refine ⟨⟨yb0, t0, t1, ya3⟩, ?_⟩
           try simp only [Act.put, tA, tB, tC]
           refine wpS_appendW (i := 11) (dt := 176) (by kernel_rfl) rfl (by rfl) rfl _ _ _ rfl N0 9 l0 (.string ⟨#[]⟩) 1 16 Tryz.underlying28 hl0 hl1 hl2 hl3 rfl (by decide) (.slice (some ⟨g4, 0, none⟩) x.m c4) x.m (strV (la.map intB)) rfl hown4 ⟨p10, 0, none⟩ 1 1 [.string ⟨#[48]⟩] rfl rfl hnw (one_strC _) (by decide) (by have := HMB.out; unfold maxLen; omega) (by have := HMB.out; omega) (by have := (own_lt hown4 g4 rfl); omega) ?_
           intro g5 c5 v5w hown5 hgr hat5 hlt5
           have hkN : KeepN N0 v4w v5w := KeepN.grown hgr (by have := own_lt hown4 g4 rfl; omega) (fun p e => (own_lt hown4 p e).1)
           have yb0 := cell_keepN hkN yb0 hbN
           have t0 := cell_keepN hkN t0 htN
           have t1 := cell_keepN hkN t1 htN
           have ya3 := cell_keepN hkN ya3 haN
           have hba := hkN.blk hba hqN
           have h3 := h3.keep (hkN.mono hzN)
           have hWW := hWW.grown hgr hWW.size (fun p e => by have := (own_lt hown4 p e).1; have := HPU.out; omega)
           have hz : bu ≤ v5w.heap.size := Nat.le_trans hz hgr.size
           clear hgr hat5 hkN
           refine ⟨⟨yb0, t0, t1, ya3⟩, ?_⟩
           try simp only [Act.put, tA, tB, tC]
           refine wpS_want (i := 12) (by kernel_rfl) rfl (by rfl) ?_
           go_simp
           refine (refutes_T (row := row) HVB.out v5w (sys_ofT HVB.out (own_t h3.t HLL2.out) HTT.out) hown5 HlA.out HRA.out).mono ?_
           rintro e v6w ⟨rfl, hBx⟩
           have yb0 := keptBelow hBx yb0
           have t0 := keptBelow hBx t0
           have t1 := keptBelow hBx t1
           have ya3 := keptBelow hBx ya3
           have hba := hba.via hBx
           have h3 := h3.keep (KeepN.below hBx hz)
           have hWW := belowVia hBx hWW
           clear hBx
           first | refine ⟨⟨yb0, t0, t1, ya3⟩, ?_⟩ | skip
           try simp only [Act.put, tA, tB, tC]
           refine wpS_take (i := 13) (d := some 178) (v := ?_) rfl (by kernel_rfl) (by kernel_rfl) (by kernel_rfl) rfl (fun _ _ _ h => h) (.inl ⟨by rfl, fun w hw => ?_⟩) ⟨yb0, t0, t1, ya3⟩ ?_
           rotate_left
           ·clear hw; go_simp; with_reducible rfl
           try simp only [Act.put, tA, tB, tC]
           refine wpS_lastY (i := 14) (d := some 8) (v := ?_) (by kernel_rfl) rfl rfl (by kernel_rfl) (.inl ⟨by rfl, fun w hw => ?_⟩) ⟨yb0, t0, t1, ya3⟩ ?_
           rotate_left
           ·clear hw; go_simp; with_reducible rfl
           try simp only [Act.put, tA, tB, tC]
           have HFI := Lib.hid hWW
           clear yb0 t0 t1 ya3 hba h3 hWW
           go_wp2_with fail
           go_ret
           exact ⟨rfl, HFI.out⟩
end Go.Proofs.YtofmjkgaaphnkaaGreatDoor
