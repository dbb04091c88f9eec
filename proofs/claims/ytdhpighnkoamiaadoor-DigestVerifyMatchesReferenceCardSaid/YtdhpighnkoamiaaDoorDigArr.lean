/- Arrays that lie whole in a block; arrays of bytes and of words. -/
import Derived.Test.YtdhpighnkoamiaaDoorRows
import Derived.WalkKit
import Derived.WalkSpells
import Derived.WalkLawsBesides
import Derived.Lib.Hide
import Derived.Laws.Rows
import Derived.Laws.CopyOwn
import Derived.Laws.BitsAllLaws
namespace Go.Proofs.YtdhpighnkoamiaaDoor
open Go.RowKit

/-- Block B is an array with the cells cs. -/
def ArrAt (W : World) (B : Nat) (cs : Array Value) (t : TypeId) : Prop := W.heap[B]? = some (.cells cs t (0, 0))
theorem ArrAt.lt {W : World} {B : Nat} {cs : Array Value} {t : TypeId} (h : ArrAt W B cs t) : B < W.heap.size := by
  rcases Nat.lt_or_ge B W.heap.size with h' | h'
  · exact h'
  · simp [ArrAt, Array.getElem?_eq_none h'] at h
theorem ArrAt.cell {W : World} {B i : Nat} {cs : Array Value} {t : TypeId} (h : ArrAt W B cs t) {v : Value} (hi : cs[i]? = some v) : W.cell? ⟨B, i, none⟩ = some v :=
  (cell_of_row W B i cs t (0, 0) h).trans hi
theorem ArrAt.frozen {W : World} {B i : Nat} {cs : Array Value} {t : TypeId} (h : ArrAt W B cs t) : W.frozen? ⟨B, i, none⟩ = false := by
  simp [World.frozen?, show W.heap[B]? = _ from h]
theorem ArrAt.set {W : World} {B : Nat} {cs : Array Value} {t : TypeId} (h : ArrAt W B cs t) (i : Nat) (v : Value) : ArrAt (W.setCell ⟨B, i, none⟩ v) B (cs.setIfInBounds i v) t :=
  heap_setCell_same W B i cs t v h
theorem ArrAt.other {W : World} {B : Nat} {cs : Array Value} {t : TypeId} (h : ArrAt W B cs t) {b i : Nat} (hb : B ≠ b) (v : Value) : ArrAt (W.setCell ⟨b, i, none⟩ v) B cs t :=
  (heap_setCell_other W ⟨b, i, none⟩ B v hb).trans h
theorem ArrAt.new (W : World) (cs : Array Value) (t : TypeId) : ArrAt (W.alloc (.cells cs t)) W.heap.size cs t := heap_alloc_new W _
theorem ArrAt.new' (W : World) (cs : Array Value) (t : TypeId) {n : Nat} (h : n = W.heap.size) : ArrAt (W.alloc (.cells cs t)) n cs t := h ▸ ArrAt.new W cs t
theorem ArrAt.alloc {W : World} {B : Nat} {cs : Array Value} {t : TypeId} (h : ArrAt W B cs t) (o : Obj) : ArrAt (W.alloc o) B cs t := (heap_alloc_old W o h.lt).trans h
theorem ArrAt.below {W W' : World} {B n : Nat} {cs : Array Value} {t : TypeId} (h : ArrAt W B cs t) (hB : Below n W W') (hn : B < n) : ArrAt W' B cs t := (hB.block B hn).trans h
theorem ArrAt.row {W : World} {B : Nat} {cs : Array Value} {t : TypeId} (h : ArrAt W B cs t) (cs' : Array Value) : ArrAt (W.setRow B cs') B cs' t := setRow_heap W B cs cs' t (0, 0) h
theorem ArrAt.rowOther {W : World} {B : Nat} {cs : Array Value} {t : TypeId} (h : ArrAt W B cs t) {b : Nat} (hb : B ≠ b) (cs' : Array Value) : ArrAt (W.setRow b cs') B cs t := (setRow_other W b B cs' hb).trans h

/-- Bytes, words. -/
def u8s (l : List UInt8) : Array Value := (l.map fun b => Value.int .u8 (b.toNat : Int)).toArray
def u32s (l : List Nat) : Array Value := (l.map fun n : Nat => Value.int .u32 (n : Int)).toArray
theorem u8s_size (l : List UInt8) : (u8s l).size = l.length := by simp [u8s]
theorem u32s_size (l : List Nat) : (u32s l).size = l.length := by simp [u32s]
theorem u8s_get {l : List UInt8} {i : Nat} (h : i < l.length) : (u8s l)[i]? = some (.int .u8 ((l[i]).toNat : Int)) := by simp [u8s, h]
theorem u8s_getD {l : List UInt8} {i : Nat} (h : i < l.length) : (u8s l)[i]? = some (.int .u8 ((l.getD i 0).toNat : Int)) := by simp [u8s, h]
theorem u32s_get {l : List Nat} {i : Nat} (h : i < l.length) : (u32s l)[i]? = some (.int .u32 (l[i] : Int)) := by simp [u32s, h]
theorem u32s_getD {l : List Nat} {i : Nat} (h : i < l.length) : (u32s l)[i]? = some (.int .u32 (l.getD i 0 : Nat)) := by simp [u32s, h]
theorem u8s_one (l : List UInt8) : (u8s l).all (·.oneCell') = true := by simp [u8s, Value.oneCell']
theorem u32s_one (l : List Nat) : (u32s l).all (·.oneCell') = true := by simp [u32s, Value.oneCell']
theorem u8s_set (l : List UInt8) (i : Nat) (b : UInt8) : (u8s l).setIfInBounds i (.int .u8 (b.toNat : Int)) = u8s (l.set i b) := by
  apply Array.ext'
  simp [u8s, List.map_set]
theorem u32s_set (l : List Nat) (i : Nat) (n : Nat) : (u32s l).setIfInBounds i (.int .u32 (n : Int)) = u32s (l.set i n) := by
  apply Array.ext'
  simp [u32s, List.map_set]
theorem belowStep {a b c : World} (h : Below a.heap.size a b) (k : Below b.heap.size b c) : Below a.heap.size a c := h.trans (k.mono h.size)
theorem ret_int {k : IntKind} {a b : Int} (h : a = b) : Ending.returned (.int k a) = .returned (.int k b) := by rw [h]
end Go.Proofs.YtdhpighnkoamiaaDoor
