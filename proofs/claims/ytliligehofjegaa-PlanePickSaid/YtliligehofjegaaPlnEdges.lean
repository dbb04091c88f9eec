/- The contract of the function that edges returns: what it yields. -/
import Derived.Test.YtliligehofjegaaPlnReg
namespace Go.Proofs.Ytliligehofjegaa
open Go.RowKit Go.Shelf Pln
attribute [local go_sem] Oper.semAt_some

theorem edges_w (a : Option Addr) (m c : Nat) (w : World) :
    Calls Try.prog 49 #[.slice a m c] w fun e w' => e = .returned (.func (.func 70) #[] #[.pointer (some ⟨w.heap.size, 0, none⟩)]) ∧ w' = w.alloc (.cells #[.slice a m c] 23) := by
  go_enter Try.func49, Try.ntmps49
  go_wp2
  go_ret
  exact ⟨rfl, rfl⟩

/-- The list that the edges are made of. -/
def Held (Bx : Nat) (v : Value) (l : List Pt) (A : World) : Prop := A.cell? ⟨Bx, 0, none⟩ = some v ∧ PtsAt A v l
theorem Held.via {Bx : Nat} {v : Value} {l : List Pt} {A A' : World} (h : Held Bx v l A) (hB : Below A.heap.size A A') : Held Bx v l A' := ⟨keptBelow hB h.1, h.2.via hB⟩
def encE (l : List Pt) (k : Nat) : Array Value := #[.int .i64 k, ev (vx l k) (nx l k)]

set_option maxRecDepth 100000 in
set_option maxHeartbeats 4000000 in
theorem edges1_yields (n : Nat) (Bx : Nat) (v : Value) (l : List Pt) (hl : l.length ≤ 100) :
    SeqYields Fence.wide n Try.prog 70 #[.pointer (some ⟨Bx, 0, none⟩)] (encE l) l.length (Held Bx v l) := by
  intro L J Jx W hJ hJx hR hY h0
  refine callsIn_of_wp Try.func70 rfl trivial ?_ rfl
  simp only [Try.ntmps70, List.size_toArray, List.length_cons, List.length_nil, Nat.reduceAdd, Nat.reduceSub, Array.replicate_succ, Array.replicate_zero, List.push_toArray, List.append_toArray, List.nil_append, List.cons_append]
  obtain ⟨hp1, ⟨⟨a, c, rfl, hc, hcb, hin⟩, hok⟩⟩ := hR _ _ h0
  clear hin hok hc
  have HJ := Lib.hid hJ
  have HX := Lib.hid hJx
  have HR := Lib.hid hR
  have HY := Lib.hid hY
  have H0 := Lib.hid h0
  obtain ⟨m, hm⟩ : ∃ m, m = l.length := ⟨_, rfl⟩
  rw [← hm] at hp1 hl ⊢
  have HM := Lib.hid hm
  have hmb : (m : Int) ≤ 100 := by omega
  clear hJ hJx hR hY h0 hm hl hcb
  gi_wp2
  clear hp1
  gi_loopw [7] (fun i wr => ∃ k : Nat, k ≤ m ∧ i = .int .i64 k ∧ J k wr ∧ W.heap.size ≤ wr.heap.size) (fun i _ => m - (intOf i).toNat)
  case atStart => exact ⟨0, by omega, rfl, H0.out, Nat.le_refl _⟩
  case round =>
    obtain ⟨k, hk, rfl, hJk, hsz⟩ := hrel
    by_cases hlt : k < m
    · have hlt' : (k : Int) < m := by omega
      obtain ⟨hp1, ⟨⟨a', c', he, _, _, hin⟩, hok⟩⟩ := HR.out _ _ hJk
      rw [← HM.out] at he
      cases he
      have hkl : k < l.length := by rw [← HM.out]; exact hlt
      obtain ⟨g, o, rfl, c0, c1⟩ := hin.get hkl
      have hjl := mod_lt' hkl
      obtain ⟨g', o', he, d0, d1⟩ := hin.get hjl
      cases he
      rw [← HM.out] at hp1
      have hj2 : ((k : Int) + 1) % m = (((k + 1) % l.length : Nat) : Int) := by rw [← HM.out]; push_cast; rfl
      have hjb : ((k + 1) % l.length : Nat) < m := by rw [HM.out]; exact hjl
      have HE : Hid (encE l k = #[.int .i64 k, .agg #[.int .i64 (vx l k).1, .int .i64 (vx l k).2, .int .i64 (vx l ((k + 1) % l.length)).1, .int .i64 (vx l ((k + 1) % l.length)).2]]) := Lib.hid rfl
      generalize (k + 1) % l.length = j at *
      have hjb' : (j : Int) < m := by omega
      have HK := Lib.hid hJk
      clear hJk hjl hin hok
      generalize vx l k = p at *
      generalize vx l j = q at *
      obtain ⟨p1, p2⟩ := p
      obtain ⟨q1, q2⟩ := q
      dsimp only at c0 c1 d0 d1 HE
      have HKL := Lib.hid hkl
      have HJ2 := Lib.hid hj2
      clear hkl hj2
      gi_wp2
      have x0 : ((wr.alloc (.cells #[.int .i64 p1, .int .i64 p2] 26)).drew).cell? ⟨wr.heap.size, 0, none⟩ = some (.int .i64 p1) := cell_rowN wr _ _ 0 rfl
      have x1 : ((wr.alloc (.cells #[.int .i64 p1, .int .i64 p2] 26)).drew).cell? ⟨wr.heap.size, 1, none⟩ = some (.int .i64 p2) := cell_rowN wr _ _ 1 rfl
      have hB : Below wr.heap.size wr ((wr.alloc (.cells #[.int .i64 p1, .int .i64 p2] 26)).drew) := (alloc_below wr _).drew
      have hp1 := keptBelow hB hp1
      have d0 := keptBelow hB d0
      have d1 := keptBelow hB d1
      refine wpIn_region_T (fun w' => Below ((wr.alloc (.cells #[.int .i64 p1, .int .i64 p2] 26)).drew).heap.size ((wr.alloc (.cells #[.int .i64 p1, .int .i64 p2] 26)).drew) w') 12 (by kernel_rfl) ?_
      have hk1 : IntKind.i64.wrap ((k : Int) + 1) = (k : Int) + 1 := IntWalk.i64_in _ (by omega)
      have hmo : ((k : Int) + 1).tmod m = j := by rw [Int.tmod_eq_emod_of_nonneg (by omega)]; exact HJ2.out
      have hm0 : ¬ m = 0 := by omega
      generalize (wr.alloc (.cells #[.int .i64 p1, .int .i64 p2] 26)).drew = wd at *
      refine wpT_tk 0 12 (v := ?_) (Below.refl _ _) rfl rfl (by rfl) (hy := fun w hw => ?_) (h := ?_)
      rotate_left
      · go_simp; with_reducible rfl
      try simp only [Act.put, List.setIfInBounds_toArray, List.set_cons_zero, List.set_cons_succ]
      refine wpT_tk 1 13 (v := ?_) (Below.refl _ _) rfl rfl (by rfl) (hy := fun w hw => ?_) (h := ?_)
      rotate_left
      · go_simp; with_reducible rfl
      try simp only [Act.put, List.setIfInBounds_toArray, List.set_cons_zero, List.set_cons_succ]
      refine wpT_tk 2 14 (v := ?_) (Below.refl _ _) rfl rfl (by rfl) (hy := fun w hw => ?_) (h := ?_)
      rotate_left
      · have x0 := keptBelow hw x0; have x1 := keptBelow hw x1; go_simp; with_reducible rfl
      try simp only [Act.put, List.setIfInBounds_toArray, List.set_cons_zero, List.set_cons_succ]
      refine wpT_tk 3 15 (v := ?_) (Below.refl _ _) rfl rfl (by rfl) (hy := fun w hw => ?_) (h := ?_)
      rotate_left
      · have hp1 := keptBelow hw hp1; go_simp; with_reducible rfl
      try simp only [Act.put, List.setIfInBounds_toArray, List.set_cons_zero, List.set_cons_succ]
      refine wpT_tk 4 16 (v := ?_) (Below.refl _ _) rfl rfl (by rfl) (hy := fun w hw => ?_) (h := ?_)
      rotate_left
      · go_simp; with_reducible rfl
      try simp only [Act.put, List.setIfInBounds_toArray, List.set_cons_zero, List.set_cons_succ]
      refine wpT_tk 5 17 (v := ?_) (Below.refl _ _) rfl rfl (by rfl) (hy := fun w hw => ?_) (h := ?_)
      rotate_left
      · go_simp; with_reducible rfl
      try simp only [Act.put, List.setIfInBounds_toArray, List.set_cons_zero, List.set_cons_succ]
      refine wpT_tk 6 18 (v := ?_) (Below.refl _ _) rfl rfl (by rfl) (hy := fun w hw => ?_) (h := ?_)
      rotate_left
      · have hp1 := keptBelow hw hp1; go_simp; with_reducible rfl
      try simp only [Act.put, List.setIfInBounds_toArray, List.set_cons_zero, List.set_cons_succ]
      refine wpT_tk 7 19 (v := ?_) (Below.refl _ _) rfl rfl (by rfl) (hy := fun w hw => ?_) (h := ?_)
      rotate_left
      · go_simp; with_reducible rfl
      try simp only [Act.put, List.setIfInBounds_toArray, List.set_cons_zero, List.set_cons_succ]
      refine wpT_tk 8 20 (v := ?_) (Below.refl _ _) rfl rfl (by rfl) (hy := fun w hw => ?_) (h := ?_)
      rotate_left
      · go_simp; with_reducible rfl
      try simp only [Act.put, List.setIfInBounds_toArray, List.set_cons_zero, List.set_cons_succ]
      refine wpT_tk 9 21 (v := ?_) (Below.refl _ _) rfl rfl (by rfl) (hy := fun w hw => ?_) (h := ?_)
      rotate_left
      · go_simp; with_reducible rfl
      try simp only [Act.put, List.setIfInBounds_toArray, List.set_cons_zero, List.set_cons_succ]
      refine wpT_tk 10 22 (v := ?_) (Below.refl _ _) rfl rfl (by rfl) (hy := fun w hw => ?_) (h := ?_)
      rotate_left
      · have d0 := keptBelow hw d0; have d1 := keptBelow hw d1; go_simp; with_reducible rfl
      try simp only [Act.put, List.setIfInBounds_toArray, List.set_cons_zero, List.set_cons_succ]
      refine wpT_tk 11 23 (v := ?_) (Below.refl _ _) rfl rfl (by rfl) (hy := fun w hw => ?_) (h := ?_)
      rotate_left
      · go_simp; with_reducible rfl
      try simp only [Act.put, List.setIfInBounds_toArray, List.set_cons_zero, List.set_cons_succ]
      obtain ⟨fn, tmps, assign, body, hy, hRR⟩ := HY.out _ wd HKL.out (HJ.out _ _ _ HK.out ⟨hB.os, hB.tape, hB.output, hB.size, fun b hb => hB.block b (Nat.lt_of_lt_of_le hb hsz)⟩) (Nat.le_trans hsz hB.size)
      rw [HE.out] at hy
      refine wpT_one 12 rfl rfl (by kernel_rfl) ?_
      go_simp
      refine ⟨(fun h => by cases h), ?_⟩
      have hws := Nat.le_trans hsz hB.size
      refine hRR.mono ?_
      rintro e W1 (⟨rfl, hJ1, hA1⟩ | ⟨rfl, hx1⟩)
      · have hs1 := hA1.size
        clear hRR hy x0 x1 hp1 d0 d1 c0 c1 hA1 hk1 hmo hm0 hB
        have HJ1 := Lib.hid hJ1
        clear hJ1
        dsimp only
        refine wpT_one 13 rfl rfl (by kernel_rfl) ?_
        go_simp
        refine wpT_done (by kernel_rfl) ?_ _
        gi_wp2
        go_roundw
        case rel => exact ⟨k + 1, by omega, by go_num, HJ1.out, by omega⟩
        case measure => simp [intOf]; omega
      · clear hRR hy x0 x1 hp1 d0 d1 c0 c1 hk1 hmo hm0 hB
        have HX1 := Lib.hid hx1
        clear hx1
        dsimp only
        refine wpT_one 13 rfl rfl (by kernel_rfl) ?_
        go_simp
        refine wpT_done (by kernel_rfl) ?_ _
        gi_wp2
        refine bodyPost_ret (results_none rfl _ _ _) rfl ?_
        exact ⟨⟨_, rfl⟩, .inr ⟨k, hlt, HX1.out⟩⟩
    · obtain rfl : k = m := by omega
      have HK := Lib.hid hJk
      clear hJk
      gi_wp2
      go_end0
      exact ⟨⟨_, rfl⟩, .inl HK.out⟩
end Go.Proofs.Ytliligehofjegaa
