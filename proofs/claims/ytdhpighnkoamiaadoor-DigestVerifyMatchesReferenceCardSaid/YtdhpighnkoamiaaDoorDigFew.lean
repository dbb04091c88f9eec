/- The contract of few. -/
import Derived.StillTailTactics
import Derived.Test.YtdhpighnkoamiaaDoorDigExt
import Derived.Test.YtdhpighnkoamiaaDoorDigFacts
namespace Go.Proofs.YtdhpighnkoamiaaDoor
open Go.RowKit Putlog

/-- A string, cut to 60 bytes. -/
def cutB (s : ByteArray) : ByteArray := s.extract 0 (min s.size 60)
theorem cutB_size (s : ByteArray) : (cutB s).size = min s.size 60 := by simp [cutB]
/-- The first k strings, each cut. -/
def fewL (f : Nat → ByteArray) (k : Nat) : List ByteArray := (List.range k).map fun j => cutB (f j)
theorem fewL_len (f : Nat → ByteArray) (k : Nat) : (fewL f k).length = k := by simp [fewL]
theorem fewL_succ (f : Nat → ByteArray) (k : Nat) : fewL f (k + 1) = fewL f k ++ [cutB (f k)] := by simp [fewL, List.range_succ]
theorem fewL_mem {f : Nat → ByteArray} {k : Nat} (j : Nat) : ((fewL f k).getD j ByteArray.empty).size ≤ 60 := by
  rw [List.getD_eq_getElem?_getD]
  cases h : (fewL f k)[j]? with
  | none => simp
  | some x =>
    have := List.mem_of_getElem? h
    simp only [fewL, List.mem_map] at this
    obtain ⟨i, _, rfl⟩ := this
    simp only [Option.getD_some]
    rw [cutB_size]; omega
theorem ownsRow_slice {xs : List ByteArray} {B : Nat} {v : Value} {w' : World} (hown : w'.ownsRow B 9 1 v xs.length (xs.map Value.string)) :
    ∃ a c, v = .slice a xs.length c ∧ xs.length ≤ c ∧ (c : Int) ≤ 9223372036854775807 ∧ SliceAt w' a (fun j => xs.getD j ByteArray.empty) xs.length ∧ ((a = none ∧ c = 0) ∨ ∃ g, B ≤ g ∧ a = some ⟨g, 0, none⟩) := by
  obtain ⟨_, hv | ⟨g, cap, cur, hv, hg, hh, h1, h2, h3, h4⟩⟩ := hown
  · refine ⟨none, 0, ?_, by omega, by omega, ?_, .inl ⟨rfl, rfl⟩⟩
    · rw [hv.1, hv.2]
    · rw [hv.2]; exact SliceAt.zero _ _ _
  · refine ⟨some ⟨g, 0, none⟩, cap, hv, h1, by unfold maxLen at h2; omega, fun _ => ⟨g, 0, rfl, fun j hj => ?_⟩, .inr ⟨g, hg, rfl⟩⟩
    rw [Nat.zero_add, cell_of_row w' g j cur _ (0, 0) hh]
    rw [Nat.mul_one] at h4
    have h5 : (cur.toList.take xs.length)[j]? = (xs.map Value.string)[j]? := by rw [h4]
    rw [List.getElem?_take_of_lt hj] at h5
    rw [Array.getElem?_toList] at h5
    rw [h5]
    simp [List.getD_eq_getElem?_getD, hj]
def GivesVal (xs : List ByteArray) (w : World) (e : Ending) (w' : World) : Prop := ∃ a c, e = .returned (.slice a xs.length c) ∧ xs.length ≤ c ∧ (c : Int) ≤ 9223372036854775807 ∧ SliceAt w' a (getB xs) xs.length ∧ ((a = none ∧ c = 0) ∨ ∃ g, w.heap.size ≤ g ∧ a = some ⟨g, 0, none⟩) ∧ Below w.heap.size w w'

theorem few_b1 {n : Nat} (h : n ≤ 1000) : n + 1 ≤ maxLen := by unfold maxLen; omega
theorem few_b2 {n : Nat} (h : n ≤ 1000) : (n + 1) * 16 ≤ 140737488355328 := by omega
theorem few_b3 {w0 w1 : World} {t : TypeId} {cs : Array Value} (h1 : Below w0.heap.size w0 w1) : w0.heap.size ≤ (w1.drew.alloc (.cells cs t)).heap.size := by
  have := h1.size; simp; omega

theorem cell_alloc_l {W : World} {a : Addr} {v : Value} (o : Obj) (h : W.cell? a = some v) : (W.drew.alloc o).cell? a = some v := cell_kept (W := W.drew) h (World.grownBy_alloc W.drew o none) (fun r e => by cases e)
theorem few_keep {w wr w3 : World} {e size n : Nat} {u : Value} {xs : List Value} {b i : Nat} {x : Value} {ob : Obj} (hB : Below w.heap.size w wr) (hO : wr.ownsRow w.heap.size e size u n xs) (hb : b < w.heap.size) (hc : wr.cell? ⟨b, i, none⟩ = some x) (hg : (wr.drew.alloc ob).grownBy w3 u.ownBlock) : w3.cell? ⟨b, i, none⟩ = some x := by
  have h1 := cell_alloc_l ob hc
  rw [World.cell?_of_block (hg.block b (by have := hB.size; simp; omega) (fun e => by have := (hO.lt b e.symm).1; omega))]
  exact h1

set_option maxRecDepth 100000 in
set_option maxHeartbeats 2000000 in
theorem few_any (f : Nat → ByteArray) (n c N : Nat) (a : Option Addr) (w : World) (hf : ∀ j, j < n → (f j).size ≤ 9223372036854775807) (hn : (n : Int) ≤ 9223372036854775807) (hN : (N : Int) ≤ 1000) (hs : SliceAt w a f n) :
    Calls Tryd.prog 21 #[.slice a n c, .int .i64 N] w (GivesVal (fewL f (min n N)) w) := by
  obtain ⟨i0, hi0, hz0, hz1, hz2⟩ := info_parts info9
  have HI0 := Lib.hid hi0
  have HZ0 := Lib.hid hz0
  have HZ1 := Lib.hid hz1
  have HZ2 := Lib.hid hz2
  have HS := Lib.hid hs
  have HF := Lib.hid hf
  clear hi0 hz0 hz1 hz2 hs hf
  go_enter Tryd.func21, Tryd.ntmps21
  go_wp2_with fail
  go_loopw [5, 6] (fun v i wr => ∃ k : Nat, k ≤ n ∧ k ≤ N ∧ i = .int .i64 k ∧ wr.ownsRow w.heap.size 9 1 v k ((fewL f k).map Value.string) ∧ Below w.heap.size w wr) (fun _ i _ => n - (intOf i).toNat)
  case atStart => exact ⟨0, by omega, by omega, rfl, World.ownsRow_nil _ _ _ _, Below.refl _ _⟩
  case round =>
    obtain ⟨k, hk, hkN, rfl, hown, hB⟩ := hrel
    have HO := Lib.hid hown
    have HB := Lib.hid hB
    clear hown hB
    by_cases hlt : k < n ∧ k < N
    · obtain ⟨hlt1, hlt2⟩ := hlt
      obtain ⟨b, o, rfl, hcells⟩ := HS.out (by omega)
      have hc0 := hcells k hlt1
      have hc : wr.cell? ⟨b, o + k, none⟩ = some (.string (f k)) := (HB.out.cell (p := ⟨b, o + k, none⟩) (lt_of_cell hc0)).trans hc0
      have hb0 := lt_of_cell hc0
      have hfk := HF.out k hlt1
      have hsucc := fewL_succ f k
      have hmin : min ((f k).size : Int) 60 = ((min (f k).size 60 : Nat) : Int) := by omega
      have hms : ((min (f k).size 60 : Nat) : Int) ≤ (f k).size := by omega
      have hcut : (f k).extract 0 (min (f k).size 60) = cutB (f k) := rfl
      generalize min (f k).size 60 = ms at *
      generalize hfx : f k = x at *
      have hxs : (x.size : Int) ≤ 9223372036854775807 := by omega
      have HSU := Lib.hid hsucc
      have HCU := Lib.hid hcut
      have l1 : (k : Int) < n := by omega
      have l2 : (k : Int) < N := by omega
      have hkN2 : k ≤ 1000 := by omega
      have HK := Lib.hid hkN2
      clear hsucc hcut hcells hc0 hfk hfx hkN hkN2 hk
      go_wp2_with fail
      go_region_held3 (fun w' => w'.cell? ⟨b, o + k, none⟩ = some (.string x)) (first | exact hc | (exact cell_alloc_l _ hc) | (exact few_keep HB.out HO.out hb0 hc hgrow3)) (first
        | (refine step_append_own rfl _ _ 26 rfl w.heap.size 9 i0 (.string ⟨#[]⟩) 1 16 Tryd.underlying26 HI0.out HZ0.out HZ1.out HZ2.out rfl (by decide) u5 k ((fewL f k).map Value.string) (by rfl) (HO.out.drew.alloc _) ⟨wr.heap.size, 0, none⟩ 1 1 [.string (x.extract 0 ms)] (by rfl) rfl (news_one _ _ _) (one_one _) (few_b1 HK.out) (few_b2 HK.out) (few_b3 HB.out) (fun v' w3 hown3 hgrow3 => ?_)))
      all_goals
        have HN : Hid (∃ kk : Nat, kk ≤ n ∧ kk ≤ N ∧ Value.int .i64 ((k : Int) + 1) = .int .i64 kk ∧ w3.ownsRow w.heap.size 9 1 v' kk ((fewL f kk).map Value.string) ∧ Below w.heap.size w w3) := by
          refine ⟨k + 1, by omega, by omega, by go_num, ?_, ?_⟩
          · rw [HSU.out, List.map_append, ← HCU.out]
            exact hown3
          · exact ((HB.out.drew.alloc (by have := HB.out.size; simpa using this) _).grown hgrow3 (by have := HB.out.size; simp; omega) fun q e => (HO.out.lt q e).1)
        clear hown3 hgrow3
        go_wp2_with fail
        go_roundw
        case rel => exact HN.out
        case measure => simp [intOf]; omega
    · have hor : k = min n N := by omega
      have HG : Hid (GivesVal (fewL f (min n N)) w (.returned u5) wr) := by
        show GivesVal _ _ _ _
        have ho := HO.out
        rw [hor] at ho
        have hl := fewL_len f (min n N)
        rw [← hl] at ho
        rw [hl] at ho
        obtain ⟨a2, c2, e1, e2, e3, e4, e5⟩ := ownsRow_slice (xs := fewL f (min n N)) (by rw [hl]; exact ho)
        exact ⟨a2, c2, by rw [e1], e2, e3, e4, e5, HB.out⟩
      clear hor
      by_cases l1 : k < n
      · have l2 : (N : Int) ≤ k := by omega
        have l3 : (k : Int) < n := by omega
        clear hlt l1 hk hkN
        go_wp2_with fail
        go_ret
        exact HG.out
      · have l2 : (n : Int) ≤ k := by omega
        clear hlt l1 hk hkN
        go_wp2_with fail
        go_ret
        exact HG.out
end Go.Proofs.YtdhpighnkoamiaaDoor
