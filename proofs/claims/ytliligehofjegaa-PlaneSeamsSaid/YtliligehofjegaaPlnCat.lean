/- The contracts of slices.Clone, slices.Grow and slices.Concat at places. -/
import Derived.Laws.AppendOwn
import Derived.Lib.AppendZerosOnto
import Derived.Test.YtliligehofjegaaPlnRow
namespace Go.Proofs.Ytliligehofjegaa
open Go.RowKit Go.Shelf Pln

theorem addr_add (g o j : Nat) : (⟨g, o, none⟩ : Addr).add j = ⟨g, o + j, none⟩ := by
  unfold Addr.add
  split
  · rename_i h; subst h; rfl
  · rfl
theorem news_in {w : World} {g o : Nat} {l : List Pt} (h : ∀ j, j < l.length → w.cell? ⟨g, o + j * 2, none⟩ = some (.int .i64 (vx l j).1) ∧ w.cell? ⟨g, o + j * 2 + 1, none⟩ = some (.int .i64 (vx l j).2)) :
    ∀ j u, (cellsP l)[j]? = some u → w.cell? ((⟨g, o, none⟩ : Addr).add j) = some u := by
  intro j u hu
  rw [addr_add]
  have hj : j < l.length * 2 := by
    have := (List.getElem?_eq_some_iff.1 hu).1; rw [cellsP_len] at this; exact this
  rcases Nat.mod_two_eq_zero_or_one j with e | e
  · have e2 : j = j / 2 * 2 := by omega
    have hk : j / 2 < l.length := by omega
    have h1 := (cellsP_get l (j / 2) hk).1
    rw [← e2, hu] at h1
    have h2 := (h (j / 2) hk).1
    rw [← e2] at h2
    rw [h2, h1]
  · have e2 : j = j / 2 * 2 + 1 := by omega
    have hk : j / 2 < l.length := by omega
    have h1 := (cellsP_get l (j / 2) hk).2
    rw [← e2, hu] at h1
    have h2 := (h (j / 2) hk).2
    rw [Nat.add_assoc, ← e2] at h2
    rw [h2, h1]
set_option maxHeartbeats 1000000 in
set_option maxRecDepth 100000 in
theorem clone_w (l : List Pt) (hl : l.length ≤ 1000) (hn : 0 < l.length) (v : Value) (w : World) (hv : PtsAt w v l) :
    Calls Try.prog 72 #[v] w fun e w' => ∃ r, e = .returned r ∧ PtsAt w' r l ∧ Below w.heap.size w w' := by
  obtain ⟨⟨a, c, rfl, _, _, hin⟩, hok⟩ := hv
  rcases hin with h | ⟨g, o, rfl, hcells⟩
  · subst h; simp at hn
  have HN := Lib.hid (news_in hcells)
  have HOK := Lib.hid hok
  have HL := Lib.hid (cellsP_len l)
  have HE := Lib.hid (fun (w' : World) (v' : Value) (h : w'.ownsRow w.heap.size 26 2 v' l.length (cellsP l)) => owns_at h hok)
  obtain ⟨m, hm⟩ : ∃ m, m = l.length := ⟨_, rfl⟩
  rw [← hm] at hl hn HL HE ⊢
  have hmb : (m : Int) ≤ 1000 := by omega
  have h1 : (0 + m) ≤ maxLen := by unfold maxLen; omega
  have h2 : (0 + m) * 16 ≤ 140737488355328 := by omega
  have H1 := Lib.hid h1
  have H2 := Lib.hid h2
  obtain ⟨i0, hi, hz0, hz1, hz2⟩ := info_parts info_pt
  have HI := Lib.hid hi
  have HZ0 := Lib.hid hz0
  have HZ1 := Lib.hid hz1
  have HZ2 := Lib.hid hz2
  clear hcells hok hm hi hz0 hz1 hz2 h1 h2
  have hq : ∀ w, (binOp .eql 23 (.slice (some ⟨g, o, none⟩) m c) (.slice none 0 0)).run Try.prog w = .ok (.bool false) w := fun w => by kernel_rfl
  go_enter Try.func72, Try.ntmps72
  go_wp2_with (at_builtin; refine wpList_append_own _ rfl _ _ 23 rfl w.heap.size 26 i0 (.agg #[.int .i64 0, .int .i64 0]) 2 16 Try.underlying23 HI.out HZ0.out HZ1.out HZ2.out rfl (by decide) _ 0 [] rfl ?own ⟨g, o, none⟩ m c (cellsP l) rfl HL.out ?news (cellsP_one l) H1.out H2.out ?size ?_)
  case own => exact World.ownsRow_made w #[] 0 (Nat.le_refl _) (by unfold maxLen; omega) rfl
  case news =>
    intro j u hu
    have := HN.out j u hu
    rw [addr_add] at this ⊢
    exact cellA _ this
  case size => simp
  intro v' w1 hown hgrow _
  have hB := (alloc_below w (.cells #[] 26)).grown hgrow (by simp) (fun k e => by cases e; exact Nat.le_refl _)
  have HB := Lib.hid hB
  have HOW := Lib.hid hown
  clear hB hown hgrow
  go_wp2_with fail
  go_ret
  exact ⟨_, rfl, HE.out _ _ HOW.out, HB.out⟩
set_option maxRecDepth 100000 in
set_option maxHeartbeats 1000000 in
theorem grow_w (n : Nat) (h0 : 0 < n) (hn : n ≤ 1000) (w : World) :
    Calls Try.prog 74 #[.slice none 0 0, .int .i64 n] w fun e w' => ∃ v, e = .returned v ∧ w'.ownsRow w.heap.size 26 2 v 0 [] ∧ Below w.heap.size w w' := by
  obtain ⟨i0, hi, hz0, hz1, hz2⟩ := info_parts info_pt
  have hr := fun ty => Lib.run_append_nil_zeros (P := Try.prog) w 23 3 ty 26 i0 (.agg #[.int .i64 0, .int .i64 0]) .i64 .i64 Try.underlying23 Try.underlying3 hi hz0 n h0 (by rw [hz1]; omega) (by omega) (by rw [hz2]; omega)
  have hG := grownCap_ge w n 0 26
  have hGm := grownCap_le_maxLen w n 0 26 (by unfold maxLen; omega)
  obtain ⟨G, hGG⟩ : ∃ G, G = grownCap w n 0 26 := ⟨_, rfl⟩
  rw [← hGG] at hr hG hGm
  obtain ⟨arr, harr⟩ : ∃ arr, arr = Builtin.zeroCells (Value.agg #[.int .i64 0, .int .i64 0]).cells n ++ Builtin.zeroCells (Value.agg #[.int .i64 0, .int .i64 0]).cells (G - n) := ⟨_, rfl⟩
  have hsz : arr.size = G * 2 := by rw [harr]; simp [Builtin.zeroCells, Value.cells]; omega
  rw [← harr] at hr
  have hown : (w.drew.alloc (.cells arr 26)).ownsRow w.heap.size 26 2 (.slice (some ⟨w.heap.size, 0, none⟩) 0 G) 0 [] := World.ownsRow_made w.drew arr G (Nat.le_refl _) hGm hsz
  have hB : Below w.heap.size w (w.drew.alloc (.cells arr 26)) := (Below.refl _ w).drew.alloc (Nat.le_refl _) _
  have hnb : (n : Int) ≤ 1000 := by omega
  have hn0 : 0 < (n : Int) := by omega
  have hn1 : ¬ ((n : Int) < 0) := by omega
  unfold maxLen at hGm
  have HO := Lib.hid hown
  have HB := Lib.hid hB
  clear hi hz0 hz1 hz2 hGG harr hsz hown hB
  go_enter Try.func74, Try.ntmps74
  go_wp2_with (at_builtin; refine Lib.wpList_append_run _ rfl _ _ _ _ rfl _ _ rfl rfl _ _ (hr _) ?_)
  go_ret
  exact ⟨_, rfl, HO.out, HB.out⟩
end Go.Proofs.Ytliligehofjegaa
