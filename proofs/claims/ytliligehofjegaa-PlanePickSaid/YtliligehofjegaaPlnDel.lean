/- The contract of slices.DeleteFunc at places: a row of one's own, rewritten in place. -/
import Derived.Laws.CopyRow
import Derived.Test.YtliligehofjegaaPlnConcat
namespace Go.Proofs.Ytliligehofjegaa
open Go.RowKit Go.Shelf Pln

theorem cellsP_set : ∀ (l : List Pt) (i : Nat) (p : Pt), ((cellsP l).set (i * 2) (.int .i64 p.1)).set (i * 2 + 1) (.int .i64 p.2) = cellsP (l.set i p)
  | [], _, _ => rfl
  | q :: l, 0, p => rfl
  | q :: l, i + 1, p => by
    rw [show (i + 1) * 2 = i * 2 + 1 + 1 by omega]
    simp only [cellsP, List.set_cons_succ]
    rw [← cellsP_set l i p]
theorem cellsP_take : ∀ (l : List Pt) (i : Nat), (cellsP l).take (i * 2) = cellsP (l.take i)
  | [], i => by simp [cellsP]
  | q :: l, 0 => by simp [cellsP]
  | q :: l, i + 1 => by
    rw [show (i + 1) * 2 = i * 2 + 1 + 1 by omega]
    simp only [cellsP, List.take_succ_cons]
    rw [cellsP_take l i]
/-- The end of a row of one's own, cleared. -/
theorem clear_own {W : World} {base g n cap i c : Nat} {xs : List Value} (h : W.ownsRow base 26 2 (.slice (some ⟨g, 0, none⟩) n cap) n xs) (hi : i < n) :
    ∃ W', (∀ ty, (Builtin.clear_ #[23] ty #[.slice (some ⟨g, i * 2, none⟩) (n - i) c]).run Try.prog W = .ok (.tuple #[]) W') ∧ W'.ownsRow base 26 2 (.slice (some ⟨g, 0, none⟩) i cap) i (xs.take (i * 2)) ∧ W.grownBy W' (some g) := by
  rcases h.2 with ⟨h', _⟩ | ⟨g', cap', cur, h', hb, hg, hnc, hcm, hcs, htake⟩
  · simp at h'
  · simp only [Value.slice.injEq, Option.some.injEq, Addr.mk.injEq, and_true, true_and] at h'
    obtain ⟨rfl, rfl⟩ := h'
    have hv : ∀ w, (zeroValue 26).run Try.prog w = .ok (.agg #[.int .i64 0, .int .i64 0]) w := fun w => by kernel_rfl
    obtain ⟨zs, hzs⟩ : ∃ zs, zs = (Builtin.zeroCells (Value.agg #[.int .i64 0, .int .i64 0]).cells (n - i)).toList := ⟨_, rfl⟩
    have hl : zs.length = (n - i) * 2 := by rw [hzs]; simp [Builtin.zeroCells, Value.cells]
    have h1 : ∀ v ∈ zs, v.oneCell' = true := by
      intro v hv
      rw [hzs] at hv
      simp only [Builtin.zeroCells, Value.cells] at hv
      obtain ⟨k, hk, rfl⟩ := List.getElem_of_mem hv
      simp at hk ⊢
      rcases Nat.mod_two_eq_zero_or_one k with e | e <;> rw [e] <;> rfl
    have hst := run_storeCells_at Try.prog g (i * 2) 26 zs 0 cur W hg (by rw [hl, hcs]; omega) h1
    simp only [Nat.add_zero] at hst
    refine ⟨W.setRow g (cur.toList.take (i * 2) ++ zs ++ cur.toList.drop (i * 2 + zs.length)).toArray, fun ty => ?_, ⟨?_, .inr ⟨g, cap, _, rfl, hb, setRow_heap W g cur _ _ _ hg, by omega, hcm, ?_, ?_⟩⟩, ⟨rfl, rfl, rfl, by simp, fun k _ hk => setRow_other W g k _ (fun e => hk (by simp [e]))⟩⟩
    · obtain ⟨m, hm⟩ : ∃ m, n - i = m + 1 := ⟨n - i - 1, by omega⟩
      rw [hm] at hzs ⊢
      simp [Builtin.clear_, run_underlying Try.underlying23, hv, ← hzs, hst]
    · rw [List.length_take, h.1]; omega
    · simp only [List.size_toArray, List.length_append, List.length_take, List.length_drop, Array.length_toList]; omega
    · rw [List.append_assoc, List.take_left' (by rw [List.length_take, Array.length_toList, hcs]; omega), ← htake, List.take_take]
      congr 1; omega
/-- What stands in the row while it is rewritten: i places are kept, j have been looked at. -/
structure DelI (keep : Pt → Bool) (l ys : List Pt) (i j : Nat) : Prop where
  len : ys.length = l.length
  ij : i < j
  jn : j ≤ l.length
  done : ys.take i = (l.take j).filter keep
  rest : ys.drop j = l.drop j
theorem DelI.same {keep : Pt → Bool} {l ys : List Pt} {i j : Nat} (h : DelI keep l ys i j) : vx ys j = vx l j := by
  have h1 : ys[j]? = l[j]? := by
    have := congrArg (fun z => z[0]?) h.rest
    simpa using this
  unfold vx; rw [List.getD_eq_getElem?_getD, List.getD_eq_getElem?_getD, h1]
theorem take_vx {l : List Pt} {j : Nat} (hj : j < l.length) : l.take (j + 1) = l.take j ++ [vx l j] := by
  rw [List.take_succ_eq_append_getElem hj, vx_eq hj]
theorem DelI.drop_ {keep : Pt → Bool} {l ys : List Pt} {i j : Nat} (h : DelI keep l ys i j) (hj : j < l.length) (hk : keep (vx l j) = false) : DelI keep l ys i (j + 1) := by
  have := h.ij
  refine ⟨h.len, by omega, by omega, ?_, ?_⟩
  · rw [take_vx hj, List.filter_append, h.done]; simp [hk]
  · have := congrArg (fun z => z.drop 1) h.rest; simpa [List.drop_drop, Nat.add_comm] using this
theorem DelI.keep_ {keep : Pt → Bool} {l ys : List Pt} {i j : Nat} (h : DelI keep l ys i j) (hj : j < l.length) (hk : keep (vx l j) = true) : DelI keep l (ys.set i (vx l j)) (i + 1) (j + 1) := by
  have hij := h.ij
  have hl := h.len
  refine ⟨by rw [List.length_set]; exact hl, by omega, by omega, ?_, ?_⟩
  · rw [take_vx hj, List.filter_append, ← h.done]
    have e : List.filter keep [vx l j] = [vx l j] := by simp [hk]
    rw [e, List.take_succ_eq_append_getElem (by rw [List.length_set]; omega), List.getElem_set_self, List.take_set_of_le (Nat.le_refl _)]
  · rw [List.drop_set_of_lt (by omega)]
    have := congrArg (fun z => z.drop 1) h.rest; simpa [List.drop_drop, Nat.add_comm] using this
theorem DelI.start {keep : Pt → Bool} {l : List Pt} {i : Nat} (hi : i < l.length) (h1 : ∀ j, j < i → keep (vx l j) = true) (h2 : keep (vx l i) = false) : DelI keep l l i (i + 1) := by
  refine ⟨rfl, by omega, by omega, ?_, rfl⟩
  rw [take_vx hi, List.filter_append]
  have e : List.filter keep (l.take i) = l.take i := List.filter_eq_self.2 fun p hp => by
    obtain ⟨j, hj, rfl⟩ := mem_vx hp
    rw [List.length_take] at hj
    have : vx (l.take i) j = vx l j := by unfold vx; rw [List.getD_eq_getElem?_getD, List.getD_eq_getElem?_getD, List.getElem?_take_of_lt (by omega)]
    rw [this]; exact h1 j (by omega)
  rw [e]; simp [h2]
theorem DelI.all {keep : Pt → Bool} {l ys : List Pt} {i : Nat} (h : DelI keep l ys i l.length) : ys.take i = l.filter keep := by
  have := h.done; rwa [List.take_of_length_le (Nat.le_refl _)] at this
theorem idxP_at (b : Nat → Bool) : ∀ n k, idxP b n k = -1 ∨ ∃ i : Nat, k ≤ i ∧ i < k + n ∧ idxP b n k = i ∧ b i = true ∧ ∀ j, k ≤ j → j < i → b j = false
  | 0, k => .inl rfl
  | n + 1, k => by
    unfold idxP
    split
    · rename_i h; exact .inr ⟨k, by omega, by omega, rfl, h, fun j h1 h2 => by omega⟩
    · rename_i h
      rcases idxP_at b n (k + 1) with h2 | ⟨i, h2, h3, h4, h5, h6⟩
      · exact .inl h2
      · refine .inr ⟨i, by omega, by omega, h4, h5, fun j h7 h8 => ?_⟩
        by_cases e : j = k
        · subst e; simpa using h
        · exact h6 j (by omega) h8
theorem own_slice {w : World} {base : Nat} {e : TypeId} {size : Nat} {v : Value} {n : Nat} {xs : List Value} (h : w.ownsRow base e size v n xs) (hn : 0 < n) : ∃ g cap, v = .slice (some ⟨g, 0, none⟩) n cap ∧ n ≤ cap ∧ (cap : Int) ≤ 9223372036854775807 ∧ base ≤ g := by
  rcases h.2 with ⟨_, h0⟩ | ⟨g, cap, cur, h1, h2, _, h4, h5, _⟩
  · omega
  · exact ⟨g, cap, h1, h4, by unfold maxLen at h5; omega, h2⟩
set_option maxRecDepth 100000 in
set_option maxHeartbeats 4000000 in
theorem delete_w (w0 : World) (l : List Pt) (hl : l.length ≤ 200) (hn : 0 < l.length) (d : Pt → Bool) (g : Nat) (lb : Array Value) (eg : ∀ args w, (callFunc g args).run Try.prog w = .ok (.enter g args) w) (v : Value) (w : World)
    (hB0 : Below w0.heap.size w0 w) (hown : w.ownsRow w0.heap.size 26 2 v l.length (cellsP l)) (hok : PtsOk l)
    (hf : ∀ q ∈ l, ∀ w1, Below w0.heap.size w0 w1 → Calls Try.prog g (#[pv q] ++ lb) w1 fun e w' => e = .returned (.bool (d q)) ∧ Below w1.heap.size w1 w') :
    Calls Try.prog 53 #[v, .func (.func g) #[] lb] w fun e w' => ∃ r, e = .returned r ∧ PtsAt w' r (l.filter fun c => !d c) ∧ Below w0.heap.size w0 w' := by
  have HX := Lib.hid (index_w l (by omega) (fun k => d (vx l k)) g lb eg v w (owns_at hown hok) (fun k hk w1 hB => hf _ (vx_mem hk) w1 (hB0.trans (below_of_le hB hB0.size))))
  have HF := Lib.hid hf
  have HOK : Hid (PtsOk (l.filter fun c => !d c)) := Lib.hid (fun r hr => hok r (List.mem_filter.1 hr).1)
  have hi := idxP_at (fun k => d (vx l k)) l.length 0
  obtain ⟨G, cap, rfl, h1, h2, h3⟩ := own_slice hown hn
  obtain ⟨n, hnn⟩ : ∃ n, n = l.length := ⟨_, rfl⟩
  have HN := Lib.hid hnn
  have HO := Lib.hid hown
  have HB0 := Lib.hid hB0
  rw [← hnn] at HO HX hi hl hn h1 ⊢
  have hnb : (n : Int) ≤ 200 := by omega
  clear hf hnn hown hB0
  rcases hi with hi | ⟨i, _, hi2, hi, hi3, hi4⟩
  · have HR : Hid ((l.filter fun c => !d c) = l) := Lib.hid (List.filter_eq_self.2 fun p hp => by
      obtain ⟨j, hj, rfl⟩ := mem_vx hp
      rw [← HN.out] at hj
      rw [(idxP_neg _ n 0).1 hi j (by omega) (by omega)]; rfl)
    rw [hi] at HX
    have HOKL := Lib.hid hok
    clear hi hok
    go_enter Try.func53, Try.ntmps53
    go_wp2_with (go_at_call 73; (with_reducible refine HX.out.mono ?_); rintro e u3 ⟨rfl, hB3⟩)
    go_ret
    refine ⟨_, rfl, ?_, HB0.out.trans (below_of_le hB3 HB0.out.size)⟩
    rw [HR.out]
    have := HO.out
    rw [HN.out] at this ⊢
    exact (owns_at this HOKL.out).via hB3
  · rw [hi] at HX
    have hst : DelI (fun c => !d c) l l i (i + 1) := DelI.start (by have := HN.out; omega) (fun j hj => by rw [hi4 j (by omega) hj]; rfl) (by rw [hi3]; rfl)
    have HST := Lib.hid hst
    have hin : (i : Int) < n := by omega
    have hm1 : ((i : Int) == -1) = false := by rw [beq_eq_false_iff_ne]; omega
    clear hi hi2 hi3 hi4 hst hok
    go_enter Try.func53, Try.ntmps53
    go_wp2_with (go_at_call 73; (with_reducible refine HX.out.mono ?_); rintro e u3 ⟨rfl, hB3⟩)
    go_loopw [5, 6] (fun si sj wr => ∃ (i j : Nat) (ys : List Pt), si = .int .i64 i ∧ sj = .int .i64 j ∧ wr.ownsRow w0.heap.size 26 2 (.slice (some ⟨G, 0, none⟩) n cap) n (cellsP ys) ∧ DelI (fun c => !d c) l ys i j ∧ Below w0.heap.size w0 wr) (fun _ sj _ => n - (intOf sj).toNat)
    case atStart => exact ⟨i, i + 1, l, rfl, by go_num, own_via HO.out hB3, HST.out, HB0.out.trans (below_of_le hB3 HB0.out.size)⟩
    case round =>
      clear HST HO hB3 hin
      obtain ⟨i, j, ys, rfl, rfl, hown, hI, hB⟩ := hrel
      have hij := hI.ij
      have hjn := hI.jn
      rw [← HN.out] at hjn
      by_cases hlt : j < n
      · have hlt' : (j : Int) < n := by omega
        have hjl : j < l.length := by rw [← HN.out]; exact hlt
        have hsame := hI.same
        have hys : ys.length = n := by rw [hI.len]; exact HN.out.symm
        have c0 : wr.cell? ⟨G, j * 2, none⟩ = some (.int .i64 (vx ys j).1) := (hown.cellAt (j * 2) (by omega)).trans (cellsP_get ys j (by omega)).1
        have c1 : wr.cell? ⟨G, j * 2 + 1, none⟩ = some (.int .i64 (vx ys j).2) := (hown.cellAt (j * 2 + 1) (by omega)).trans (cellsP_get ys j (by omega)).2
        rw [hsame] at c0 c1
        have hb5 := hB.trans (below_of_le (alloc_below wr (.cells #[.int .i64 (vx l j).1, .int .i64 (vx l j).2] 26)) hB.size)
        have HC := Lib.hid (HF.out (vx l j) (vx_mem hjl) _ hb5)
        have HO5 := Lib.hid (own_via hown (alloc_below wr (.cells #[.int .i64 (vx l j).1, .int .i64 (vx l j).2] 26)))
        have HB5 := Lib.hid hb5
        have HK := Lib.hid (fun (hk : d (vx l j) = false) => hI.keep_ hjl (by rw [hk]; rfl))
        have HD := Lib.hid (fun (hk : d (vx l j) = true) => hI.drop_ hjl (by rw [hk]; rfl))
        have HX2 : Hid (i * 2 + 1 < (cellsP ys).length) := Lib.hid (by rw [cellsP_len]; omega)
        have HCS := Lib.hid (cellsP_set ys i (vx l j))
        unfold pv at HC
        clear hsame hown hI hB hb5
        generalize vx l j = p at *
        obtain ⟨p1, p2⟩ := p
        dsimp only at c0 c1 HC HB5 HO5 HCS
        rcases hdp : d (p1, p2) with _ | _
        · rw [hdp] at HC
          have HK2 := Lib.hid (HK.out hdp)
          clear hdp
          go_wp2_with ((with_reducible refine HC.out.mono ?_); rintro e u5 ⟨rfl, hB6⟩; obtain ⟨x0, x1, y0, y1, z0, z1⟩ := row_cells HO5.out hB6 HX2.out; have e0 := keptBelow hB6 (cell_rowN wr #[.int .i64 p1, .int .i64 p2] 26 0 rfl); have e1 := keptBelow hB6 (cell_rowN wr #[.int .i64 p1, .int .i64 p2] 26 1 rfl))
          go_roundw
          case rel =>
            refine ⟨i + 1, j + 1, _, by go_num, by go_num, ?_, HK2.out, ?_⟩
            · rw [← HCS.out]
              exact (((own_via HO5.out hB6).stored _ _).1.stored _ _).1
            · have hg := (HO5.out.lt G rfl).1
              exact ((HB5.out.trans (below_of_le hB6 HB5.out.size)).setCell (p := ⟨G, i * 2, none⟩) hg _).setCell (p := ⟨G, i * 2 + 1, none⟩) hg _
          case measure => simp [intOf]; omega
        · rw [hdp] at HC
          have HD2 := Lib.hid (HD.out hdp)
          clear hdp
          go_wp2_with ((with_reducible refine HC.out.mono ?_); rintro e u5 ⟨rfl, hB6⟩)
          go_roundw
          case rel => exact ⟨i, j + 1, ys, rfl, by go_num, own_via HO5.out hB6, HD2.out, HB5.out.trans (below_of_le hB6 HB5.out.size)⟩
          case measure => simp [intOf]; omega
      · obtain rfl : j = n := by omega
        have hin : (i : Int) < j := by omega
        obtain ⟨W', hcl, hown2, hgr⟩ := clear_own (c := cap - i) hown hij
        rw [cellsP_take] at hown2
        have hI2 := hI
        rw [HN.out] at hI2
        have hall := hI2.all
        rw [hall] at hown2
        have hlen : (l.filter fun c => !d c).length = i := by rw [← hall, List.length_take, hI.len, ← HN.out]; omega
        have HR := Lib.hid (owns_at (l := l.filter fun c => !d c) (by rw [hlen]; exact hown2) HOK.out)
        have HBZ := Lib.hid (hB.grown hgr hB.size (fun k e => (hown.lt k e).1))
        clear hown hown2 hgr hI hI2 hall hB
        go_wp2
        go_ret
        exact ⟨_, rfl, HR.out, HBZ.out⟩
end Go.Proofs.Ytliligehofjegaa
