/- Two clocks under way, each in a box. -/
import Derived.Test.YtebhalcoemkomaaClkMoves
namespace Go.Proofs.Ytebhalcoemkomaa
open Go.RowKit Putlog

structure TwoAt (p : Nat) (d : Int) (l1 l2 : List Rd) (v1 v2 : Value) (w3 w : World) : Prop where
  b1 : BuildAt (p + 2) p d l1 v1 w
  b2 : BuildAt (p + 2) (p + 1) d l2 v2 w
  dj : ∀ b, v1.ownBlock = some b → v2.ownBlock ≠ some b
  below : Below p w3 w
  size : p + 2 ≤ w.heap.size
theorem TwoAt.via {p : Nat} {d : Int} {l1 l2 : List Rd} {v1 v2 : Value} {w3 w w' : World} (h : TwoAt p d l1 l2 v1 v2 w3 w) (hB : Below w.heap.size w w') : TwoAt p d l1 l2 v1 v2 w3 w' :=
  ⟨h.b1.via hB, h.b2.via hB, h.dj, h.below.trans (hB.mono (by have := h.size; omega)), Nat.le_trans h.size hB.size⟩
theorem own_lt {w : World} {B e size n b : Nat} {v : Value} {xs : List Value} (h : w.ownsRow B e size v n xs) (hb : v.ownBlock = some b) : B ≤ b ∧ b < w.heap.size := h.lt b hb
theorem TwoAt.push1 {p : Nat} {d : Int} {l1 l2 : List Rd} {v1 v2 v' : Value} {w3 w w6 : World} {o : Obj} {r : Rd} (h : TwoAt p d l1 l2 v1 v2 w3 w)
    (hown : w6.ownsRow (p + 2) 50 3 v' (l1.length + 1) (rvals l1 ++ rdC r)) (hg : (w.alloc o).grownBy w6 v1.ownBlock) (hf : v'.ownBlock = v1.ownBlock ∨ v'.ownBlock = some (w.alloc o).heap.size) :
    TwoAt p d (l1 ++ [r]) l2 v' v2 w3 (w6.setCell ⟨p, 1, none⟩ v') := by
  have hA := h.via (alloc_below w o)
  have l1' := fun b hb => own_lt hA.b1.row (b := b) hb
  have l2' := fun b hb => own_lt h.b2.row (b := b) hb
  have hz : w.heap.size ≤ (w.alloc o).heap.size := (alloc_below w o).size
  have n1 : some p ≠ v1.ownBlock := fun e => by have := (l1' p e.symm).1; omega
  have n2 : some (p + 1) ≠ v1.ownBlock := fun e => by have := (l1' _ e.symm).1; omega
  have x1 := grown_heap hg hA.b1.box n1
  have x2 := grown_heap hg hA.b2.box n2
  refine ⟨⟨heap_setCell_same _ _ 1 _ _ _ x1, ?_⟩, ⟨(heap_setCell_other _ _ _ _ (by show p + 1 ≠ p; omega)).trans x2, owns_other (hA.b2.row.kept hg ?_) (by omega)⟩, fun b hb hb2 => ?_, ?_, ?_⟩
  · rw [rvals_snoc, List.length_append]
    exact owns_other hown (by omega)
  · rcases hv : v2.ownBlock with _ | b
    · exact .inl rfl
    · exact .inr (fun e => h.dj b e.symm hv)
  · rcases hf with hf | hf
    · exact h.dj b (hf ▸ hb) hb2
    · have e1 : b = (w.alloc o).heap.size := by rw [hf] at hb; cases hb; rfl
      have := (l2' b hb2).2
      omega
  · exact (hA.below.grown hg (by have := hA.size; omega) (fun j hj => by have := (l1' j hj).1; omega)).setCell (Nat.le_refl _) _
  · rw [World.size_setCell]; exact Nat.le_trans hA.size hg.size
theorem TwoAt.push2 {p : Nat} {d : Int} {l1 l2 : List Rd} {v1 v2 v' : Value} {w3 w w6 : World} {o : Obj} {r : Rd} (h : TwoAt p d l1 l2 v1 v2 w3 w)
    (hown : w6.ownsRow (p + 2) 50 3 v' (l2.length + 1) (rvals l2 ++ rdC r)) (hg : (w.alloc o).grownBy w6 v2.ownBlock) (hf : v'.ownBlock = v2.ownBlock ∨ v'.ownBlock = some (w.alloc o).heap.size) :
    TwoAt p d l1 (l2 ++ [r]) v1 v' w3 (w6.setCell ⟨p + 1, 1, none⟩ v') := by
  have hA := h.via (alloc_below w o)
  have l2' := fun b hb => own_lt hA.b2.row (b := b) hb
  have l1' := fun b hb => own_lt h.b1.row (b := b) hb
  have hz : w.heap.size ≤ (w.alloc o).heap.size := (alloc_below w o).size
  have n1 : some p ≠ v2.ownBlock := fun e => by have := (l2' p e.symm).1; omega
  have n2 : some (p + 1) ≠ v2.ownBlock := fun e => by have := (l2' _ e.symm).1; omega
  have x1 := grown_heap hg hA.b1.box n1
  have x2 := grown_heap hg hA.b2.box n2
  refine ⟨⟨(heap_setCell_other _ _ _ _ (by show p ≠ p + 1; omega)).trans x1, owns_other (hA.b1.row.kept hg ?_) (by omega)⟩, ⟨heap_setCell_same _ _ 1 _ _ _ x2, ?_⟩, fun b hb hb2 => ?_, ?_, ?_⟩
  · rcases hv : v1.ownBlock with _ | b
    · exact .inl rfl
    · exact .inr (fun e => h.dj b hv e.symm)
  · rw [rvals_snoc, List.length_append]
    exact owns_other hown (by omega)
  · rcases hf with hf | hf
    · exact h.dj b hb (hf ▸ hb2)
    · have e1 : b = (w.alloc o).heap.size := by rw [hf] at hb2; cases hb2; rfl
      have := (l1' b hb).2
      omega
  · exact (hA.below.grown hg (by have := hA.size; omega) (fun j hj => by have := (l2' j hj).1; omega)).setCell (by show p ≤ p + 1; omega) _
  · rw [World.size_setCell]; exact Nat.le_trans hA.size hg.size
end Go.Proofs.Ytebhalcoemkomaa
