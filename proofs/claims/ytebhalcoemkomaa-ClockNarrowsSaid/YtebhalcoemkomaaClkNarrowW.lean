/- Two clocks under way, each in a box, and a reading in a third. -/
import Derived.Test.YtebhalcoemkomaaClkTwo
namespace Go.Proofs.Ytebhalcoemkomaa
open Go.RowKit Putlog

theorem valid_rds {d : Int} {l : List Rd} (h : validC d l = true) : RdsOk l := fun r hr => by
  obtain ⟨_, _, _, h4⟩ := validC_iff.1 h
  have := okR_mem (Int.le_refl _) h4 r hr
  exact ⟨⟨by omega, by omega⟩, ⟨by omega, by omega⟩, ⟨by omega, by omega⟩⟩
theorem owns_apart {w : World} {base e size n b i : Nat} {v x : Value} {xs : List Value} (h : w.ownsRow base e size v n xs) (hb : v.ownBlock ≠ some b) : (w.setCell ⟨b, i, none⟩ x).ownsRow base e size v n xs := by
  obtain ⟨h1, h2⟩ := h
  refine ⟨h1, ?_⟩
  rcases h2 with h2 | ⟨g, cap, cur, hv, hg, hh, r⟩
  · exact .inl h2
  · exact .inr ⟨g, cap, cur, hv, hg, (heap_setCell_other w ⟨b, i, none⟩ g x (fun e => hb (by subst hv; have : g = b := e; rw [← this]; rfl))).trans hh, r⟩
structure ThreeAt (p : Nat) (d : Int) (l1 l2 : List Rd) (v1 v2 : Value) (w3 : World) (rb : Nat) (r : Rd) (w : World) : Prop where
  two : TwoAt p d l1 l2 v1 v2 w3 w
  rbox : w.heap[rb]? = some (.cells #[.int .i64 r.1, .int .i64 r.2.1, .int .i64 r.2.2] 50 (0, 0))
  lo : p + 2 ≤ rb
  n1 : v1.ownBlock ≠ some rb
  n2 : v2.ownBlock ≠ some rb
theorem ThreeAt.new {p : Nat} {d : Int} {l1 l2 : List Rd} {v1 v2 : Value} {w3 w : World} (h : TwoAt p d l1 l2 v1 v2 w3 w) (x y z : Int) :
    ThreeAt p d l1 l2 v1 v2 w3 w.heap.size (x, y, z) (w.alloc (.cells #[.int .i64 x, .int .i64 y, .int .i64 z] 50)) :=
  ⟨h.via (alloc_below w _), heap_alloc_new w _, h.size, fun e => by have := (own_lt h.b1.row e).2; omega, fun e => by have := (own_lt h.b2.row e).2; omega⟩
theorem ThreeAt.via {p : Nat} {d : Int} {l1 l2 : List Rd} {v1 v2 : Value} {w3 w w' : World} {rb : Nat} {r : Rd} (h : ThreeAt p d l1 l2 v1 v2 w3 rb r w) (hB : Below w.heap.size w w') : ThreeAt p d l1 l2 v1 v2 w3 rb r w' :=
  ⟨h.two.via hB, heap_below hB h.rbox, h.lo, h.n1, h.n2⟩
theorem ThreeAt.lt {p : Nat} {d : Int} {l1 l2 : List Rd} {v1 v2 : Value} {w3 w : World} {rb : Nat} {r : Rd} (h : ThreeAt p d l1 l2 v1 v2 w3 rb r w) : rb < w.heap.size := (Array.getElem?_eq_some_iff.1 h.rbox).1
theorem ThreeAt.c0 {p : Nat} {d : Int} {l1 l2 : List Rd} {v1 v2 : Value} {w3 w : World} {rb : Nat} {r : Rd} (h : ThreeAt p d l1 l2 v1 v2 w3 rb r w) : w.cell? ⟨rb, 0, none⟩ = some (.int .i64 r.1) := (cell_of_row _ _ 0 _ _ _ h.rbox).trans rfl
theorem ThreeAt.c1 {p : Nat} {d : Int} {l1 l2 : List Rd} {v1 v2 : Value} {w3 w : World} {rb : Nat} {r : Rd} (h : ThreeAt p d l1 l2 v1 v2 w3 rb r w) : w.cell? ⟨rb, 1, none⟩ = some (.int .i64 r.2.1) := (cell_of_row _ _ 1 _ _ _ h.rbox).trans rfl
theorem ThreeAt.c2 {p : Nat} {d : Int} {l1 l2 : List Rd} {v1 v2 : Value} {w3 w : World} {rb : Nat} {r : Rd} (h : ThreeAt p d l1 l2 v1 v2 w3 rb r w) : w.cell? ⟨rb, 2, none⟩ = some (.int .i64 r.2.2) := (cell_of_row _ _ 2 _ _ _ h.rbox).trans rfl
theorem ThreeAt.fz {p : Nat} {d : Int} {l1 l2 : List Rd} {v1 v2 : Value} {w3 w : World} {rb : Nat} {r : Rd} (h : ThreeAt p d l1 l2 v1 v2 w3 rb r w) (i : Nat) : w.frozen? ⟨rb, i, none⟩ = false := frozen_of_row _ _ i _ _ h.rbox
theorem BuildAt.apart {B qb rb i : Nat} {d : Int} {l : List Rd} {v x : Value} {w : World} (h : BuildAt B qb d l v w) (h1 : rb ≠ qb) (h2 : v.ownBlock ≠ some rb) : BuildAt B qb d l v (w.setCell ⟨rb, i, none⟩ x) :=
  ⟨(heap_setCell_other _ _ _ _ (by show qb ≠ rb; omega)).trans h.box, owns_apart h.row h2⟩
theorem TwoAt.apart {p rb i : Nat} {d : Int} {l1 l2 : List Rd} {v1 v2 x : Value} {w3 w : World} (h : TwoAt p d l1 l2 v1 v2 w3 w) (lo : p + 2 ≤ rb) (n1 : v1.ownBlock ≠ some rb) (n2 : v2.ownBlock ≠ some rb) : TwoAt p d l1 l2 v1 v2 w3 (w.setCell ⟨rb, i, none⟩ x) :=
  ⟨h.b1.apart (by omega) n1, h.b2.apart (by omega) n2, h.dj, h.below.setCell (by show p ≤ rb; omega) _, by rw [World.size_setCell]; exact h.size⟩
theorem ThreeAt.set1 {p : Nat} {d : Int} {l1 l2 : List Rd} {v1 v2 : Value} {w3 w : World} {rb : Nat} {x y z : Int} (h : ThreeAt p d l1 l2 v1 v2 w3 rb (x, y, z) w) (y' : Int) : ThreeAt p d l1 l2 v1 v2 w3 rb (x, y', z) (w.setCell ⟨rb, 1, none⟩ (.int .i64 y')) :=
  ⟨h.two.apart h.lo h.n1 h.n2, heap_setCell_same _ _ 1 _ _ _ h.rbox, h.lo, h.n1, h.n2⟩
theorem ThreeAt.set2 {p : Nat} {d : Int} {l1 l2 : List Rd} {v1 v2 : Value} {w3 w : World} {rb : Nat} {x y z : Int} (h : ThreeAt p d l1 l2 v1 v2 w3 rb (x, y, z) w) (z' : Int) : ThreeAt p d l1 l2 v1 v2 w3 rb (x, y, z') (w.setCell ⟨rb, 2, none⟩ (.int .i64 z')) :=
  ⟨h.two.apart h.lo h.n1 h.n2, heap_setCell_same _ _ 2 _ _ _ h.rbox, h.lo, h.n1, h.n2⟩
theorem ThreeAt.push1 {p : Nat} {d : Int} {l1 l2 : List Rd} {v1 v2 v' : Value} {w3 w w6 : World} {o : Obj} {r s : Rd} {rb : Nat} (h : ThreeAt p d l1 l2 v1 v2 w3 rb s w)
    (hown : w6.ownsRow (p + 2) 50 3 v' (l1.length + 1) (rvals l1 ++ rdC r)) (hg : (w.alloc o).grownBy w6 v1.ownBlock) (hf : v'.ownBlock = v1.ownBlock ∨ v'.ownBlock = some (w.alloc o).heap.size) :
    ThreeAt p d (l1 ++ [r]) l2 v' v2 w3 rb s (w6.setCell ⟨p, 1, none⟩ v') := by
  have hlt := h.lt
  have hlo := h.lo
  have hz : w.heap.size ≤ (w.alloc o).heap.size := (alloc_below w o).size
  refine ⟨h.two.push1 hown hg hf, (heap_setCell_other _ _ _ _ (by show rb ≠ p; omega)).trans (grown_heap hg (heap_below (alloc_below w o) h.rbox) (fun e => h.n1 e.symm)), h.lo, fun e => ?_, h.n2⟩
  rcases hf with hf | hf
  · exact h.n1 (hf ▸ e)
  · rw [hf] at e; cases e; omega
/-- What the boxes hold while a row grows. -/
structure InBox (p : Nat) (d : Int) (v1 v2 : Value) (rb : Nat) (r : Rd) (w : World) : Prop where
  a0 : w.heap[p]? = some (.cells #[.int .i64 d, v1] 24 (0, 0))
  b0 : w.heap[p + 1]? = some (.cells #[.int .i64 d, v2] 24 (0, 0))
  r0 : w.heap[rb]? = some (.cells #[.int .i64 r.1, .int .i64 r.2.1, .int .i64 r.2.2] 50 (0, 0))
theorem ThreeAt.grow1 {p : Nat} {d : Int} {l1 l2 : List Rd} {v1 v2 : Value} {w3 w w6 : World} {o : Obj} {s : Rd} {rb : Nat} (h : ThreeAt p d l1 l2 v1 v2 w3 rb s w) (hg : (w.alloc o).grownBy w6 v1.ownBlock) : InBox p d v1 v2 rb s w6 := by
  have hA := h.via (alloc_below w o)
  have l1' := fun b hb => own_lt hA.two.b1.row (b := b) hb
  exact ⟨grown_heap hg hA.two.b1.box (fun e => by have := (l1' p e.symm).1; omega), grown_heap hg hA.two.b2.box (fun e => by have := (l1' _ e.symm).1; omega), grown_heap hg hA.rbox (fun e => h.n1 e.symm)⟩
theorem ThreeAt.grow2 {p : Nat} {d : Int} {l1 l2 : List Rd} {v1 v2 : Value} {w3 w w6 : World} {o : Obj} {s : Rd} {rb : Nat} (h : ThreeAt p d l1 l2 v1 v2 w3 rb s w) (hg : (w.alloc o).grownBy w6 v2.ownBlock) : InBox p d v1 v2 rb s w6 := by
  have hA := h.via (alloc_below w o)
  have l1' := fun b hb => own_lt hA.two.b2.row (b := b) hb
  exact ⟨grown_heap hg hA.two.b1.box (fun e => by have := (l1' p e.symm).1; omega), grown_heap hg hA.two.b2.box (fun e => by have := (l1' _ e.symm).1; omega), grown_heap hg hA.rbox (fun e => h.n2 e.symm)⟩
theorem owns_val {w : World} {B n m : Nat} {t : TypeId} {v : Value} {xs : List Value} (h : w.ownsRow B t 3 v n xs) (hm : n = m) : ∃ a c, v = .slice a m c := by
  subst hm
  obtain ⟨_, ⟨rfl, h2⟩ | ⟨g, cap, cur, rfl, _⟩⟩ := h
  · exact ⟨none, 0, by rw [h2]⟩
  · exact ⟨_, _, rfl⟩
theorem TwoAt.new (w3 : World) (d : Int) : TwoAt w3.heap.size d [] [] (.slice none 0 0) (.slice none 0 0) w3 ((w3.alloc (.cells #[.int .i64 d, .slice none 0 0] 24)).alloc (.cells #[.int .i64 d, .slice none 0 0] 24)) :=
  ⟨⟨heap_below (alloc_below _ _) (heap_alloc_new w3 _), World.ownsRow_nil _ _ _ _⟩, ⟨(by have h := heap_alloc_new (w3.alloc (.cells #[.int .i64 d, .slice none 0 0] 24)) (.cells #[.int .i64 d, .slice none 0 0] 24); rwa [show (w3.alloc (.cells #[.int .i64 d, .slice none 0 0] 24)).heap.size = w3.heap.size + 1 by simp] at h), World.ownsRow_nil _ _ _ _⟩, fun b hb => (by cases hb), belowVia (alloc_below _ _) (alloc_below _ _), by simp⟩
theorem TwoAt.p1 {p : Nat} {d : Int} {l1 l2 : List Rd} {v1 v2 : Value} {w3 w : World} (h : TwoAt p d l1 l2 v1 v2 w3 w) : w.cell? ⟨p, 1, none⟩ = some v1 := (cell_of_row _ _ 1 _ _ _ h.b1.box).trans rfl
theorem TwoAt.p2 {p : Nat} {d : Int} {l1 l2 : List Rd} {v1 v2 : Value} {w3 w : World} (h : TwoAt p d l1 l2 v1 v2 w3 w) : w.cell? ⟨p + 1, 1, none⟩ = some v2 := (cell_of_row _ _ 1 _ _ _ h.b2.box).trans rfl
theorem InBox.p1 {p : Nat} {d : Int} {v1 v2 : Value} {rb : Nat} {r : Rd} {w : World} (h : InBox p d v1 v2 rb r w) : w.cell? ⟨p, 1, none⟩ = some v1 := (cell_of_row _ _ 1 _ _ _ h.a0).trans rfl
theorem InBox.p2 {p : Nat} {d : Int} {v1 v2 : Value} {rb : Nat} {r : Rd} {w : World} (h : InBox p d v1 v2 rb r w) : w.cell? ⟨p + 1, 1, none⟩ = some v2 := (cell_of_row _ _ 1 _ _ _ h.b0).trans rfl
theorem InBox.f1 {p : Nat} {d : Int} {v1 v2 : Value} {rb : Nat} {r : Rd} {w : World} (h : InBox p d v1 v2 rb r w) : w.frozen? ⟨p, 1, none⟩ = false := frozen_of_row _ _ 1 _ _ h.a0
theorem InBox.f2 {p : Nat} {d : Int} {v1 v2 : Value} {rb : Nat} {r : Rd} {w : World} (h : InBox p d v1 v2 rb r w) : w.frozen? ⟨p + 1, 1, none⟩ = false := frozen_of_row _ _ 1 _ _ h.b0
end Go.Proofs.Ytebhalcoemkomaa
