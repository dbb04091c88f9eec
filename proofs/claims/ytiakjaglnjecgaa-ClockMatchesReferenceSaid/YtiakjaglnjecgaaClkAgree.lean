/- The contract of Agree. -/
import Derived.Test.YtiakjaglnjecgaaClkMap
import Derived.Test.YtiakjaglnjecgaaClkRows
namespace Go.Proofs.Ytiakjaglnjecgaa
open Go.RowKit Go.Maps Putlog

def nxt (ks : List Int) (j : Nat) : Int := if j < ks.length then ks.getD j 0 else ks.getD (ks.length - 1) (-1) + 1
theorem sweep_start {l : List Sp} {ks : List Int} (h : KeysOk l ks) : Sweep l (nxt ks 0) 0 0 0 0 false := by
  refine Sweep.start fun x hx => ?_
  obtain ⟨i, hi, rfl⟩ := h.at hx
  rw [nxt, if_pos (by omega)]
  rcases Nat.eq_zero_or_pos i with e | e
  · subst e; exact Int.le_refl _
  · exact Int.le_of_lt (h.before e hi)
theorem sweep_next {l : List Sp} {ks : List Int} (h : KeysOk l ks) {j : Nat} (hj : j < ks.length) {c m a b : Int} {last : Bool} (hs : Sweep l (ks.getD j 0 + 1) c m a b last) : Sweep l (nxt ks (j + 1)) c m a b last := by
  by_cases hj1 : j + 1 < ks.length
  · rw [nxt, if_pos hj1]
    refine hs.more (h.before (Nat.lt_succ_self j) hj1) fun y hy => ?_
    obtain ⟨i, hi, rfl⟩ := h.at hy
    rcases Nat.lt_trichotomy i j with e | e | e
    · exact .inl (Int.le_of_lt (h.before e hj))
    · subst e; exact .inl (Int.le_refl _)
    · rcases Nat.lt_or_ge (j + 1) i with e2 | e2
      · exact .inr (Int.le_of_lt (h.before e2 hi))
      · obtain rfl : i = j + 1 := by omega
        exact .inr (Int.le_refl _)
  · rw [nxt, if_neg hj1]
    have e : ks.length - 1 = j := by omega
    have e2 : ks.getD j (-1) = ks.getD j 0 := by rw [List.getD_eq_getElem?_getD, List.getD_eq_getElem?_getD, List.getElem?_eq_getElem hj]; rfl
    rw [e, e2]; exact hs
theorem sweep_done {l : List Sp} {ks : List Int} (h : KeysOk l ks) {c m a b : Int} {last : Bool} (hs : Sweep l (nxt ks ks.length) c m a b last) : Agreed l a b m := by
  rw [nxt, if_neg (by omega)] at hs
  refine hs.done fun y hy => ?_
  obtain ⟨i, hi, rfl⟩ := h.at hy
  have e2 : ks.getD (ks.length - 1) (-1) = ks.getD (ks.length - 1) 0 := by rw [List.getD_eq_getElem?_getD, List.getD_eq_getElem?_getD, List.getElem?_eq_getElem (by omega)]; rfl
  rw [e2]
  rcases Nat.lt_or_ge i (ks.length - 1) with e | e
  · exact Int.le_of_lt (h.before e (by omega))
  · obtain rfl : i = ks.length - 1 := by omega
    exact Int.le_refl _
theorem sweep_small {l : List Sp} {n c m a b : Int} {last : Bool} (h : Sweep l n c m a b last) : 0 ≤ c ∧ c ≤ l.length ∧ 0 ≤ m ∧ m ≤ l.length := by
  have h1 := cnt_bounds (n - 1) l
  have h2 := h.now
  refine ⟨by omega, by omega, h.m0, ?_⟩
  by_cases e : m = 0
  · omega
  · have := (h.first e).2.1
    have h3 := cnt_bounds a l
    omega
theorem owns_nums {w : World} {B : Nat} {t : TypeId} {v : Value} {l : List Int} {n : Nat} (h : w.ownsRow B t 1 v n (l.map (Value.int .i64))) (hn : n = l.length) : ∃ a c, v = .slice a n c ∧ n ≤ c ∧ (c : Int) ≤ 9223372036854775807 ∧ NumsIn w a l ∧ ∀ g o, a = some ⟨g, o, none⟩ → B ≤ g := by
  obtain ⟨h0, hv | ⟨g, cap, cur, hv, hg, hh, h1, h2, h3, h4⟩⟩ := h
  · obtain ⟨h1, h2⟩ := hv
    refine ⟨none, 0, by rw [h1, h2], by omega, by omega, .inl (List.eq_nil_of_length_eq_zero (by omega)), fun g o e => by cases e⟩
  · refine ⟨some ⟨g, 0, none⟩, cap, hv, h1, by unfold maxLen at h2; omega, .inr ⟨g, 0, rfl, fun j hj => ?_⟩, fun g' o e => by cases e; exact hg⟩
    rw [Nat.zero_add, cell_of_row w g j cur _ (0, 0) hh]
    rw [Nat.mul_one] at h4
    have h5 : (cur.toList.take n)[j]? = (l.map (Value.int .i64))[j]? := by rw [h4]
    rw [List.getElem?_take_of_lt (by omega), Array.getElem?_toList] at h5
    rw [h5, List.getElem?_map, List.getElem?_eq_getElem hj, List.getD_eq_getElem?_getD, List.getElem?_eq_getElem hj]; rfl
theorem lawI : Keyed Try.prog 3 := int_keyed Try.underlying3
theorem zeroI (w : World) : (zeroValue 3).run Try.prog w = .ok (.int .i64 0) w := by kernel_rfl
theorem key_i64 {x : Int} (h : I64 x) : keyOf Try.prog 3 (.int .i64 x) = some (.int .i64 x) := keyOf_int_mk Try.underlying3 (wf_i64 h)
theorem elem_i64 {x : Int} (h : I64 x) : plainElem (H := Unit) Try.prog 3 (.int .i64 x) = some (.lit (.int .i64 x), []) := plainElem_int Try.underlying3 (wf_i64 h)

theorem info_spell : (Try.prog.info? 32).map (·.size) = some 2 := by kernel_rfl
theorem load_spell {w : World} {g : Nat} {x y : Value} {fr : Nat × Nat} (hg : w.heap[g]? = some (.cells #[x, y] 32 fr)) : (loadVar 32 ⟨g, 0, none⟩).run Try.prog w = .ok (.agg #[x, y]) w :=
  run_loadVar_row w g _ _ _ _ _ hg Try.underlying32 rfl info_spell
theorem results_se {fn : Func} {p u : Tmp} (h : fn.results = #[.cell p 32, .tmp u]) (tmps : Array Value) (w : World) (g : Nat) (x y : Value) {fr : Nat × Nat} (hp : tmps.getD p undef = .pointer (some ⟨g, 0, none⟩)) (hg : w.heap[g]? = some (.cells #[x, y] 32 fr)) :
    (results fn tmps).run Try.prog w = .ok (.tuple #[.agg #[x, y], tmps.getD u undef]) w := by
  have hp' : tmps[p]?.getD undef = .pointer (some ⟨g, 0, none⟩) := by simpa using hp
  simp [results, h, hp', asAddr, load_spell hg]
theorem owns_heap {H : Type} {w w' : World} {b n : Nat} {D : DataW H} {R : Value → Option (DataW H × List MemPlace)} (h : w.ownsMap Try.prog 3 R b n D) (hh : ∀ o, w.heap[b]? = some o → w'.heap[b]? = some o) : w'.ownsMap Try.prog 3 R b n D := by
  obtain ⟨es, clock, hb, r⟩ := h
  exact ⟨es, clock, hh _ hb, r⟩
set_option maxRecDepth 100000 in
set_option maxHeartbeats 4000000 in
theorem agree_any (l : List Sp) (hl : l.length ≤ 1000) (v : Value) (w : World) (h : SpsAt w v l) :
    Calls Try.prog 7 #[v] w fun e w' => ∃ a b k, e = .returned (.tuple #[.agg #[.int .i64 a, .int .i64 b], .int .i64 k]) ∧ Agreed l a b k ∧ Below w.heap.size w w' := by
  obtain ⟨⟨a, c, rfl, hc, hcb, hin⟩, hok⟩ := h
  have HI := Lib.hid hin
  have HK := Lib.hid hok
  obtain ⟨n, hn⟩ : ∃ n, n = l.length := ⟨_, rfl⟩
  rw [← hn] at hc hl ⊢
  have HN := Lib.hid hn
  have hnb : (n : Int) ≤ 1000 := by omega
  clear hin hok hn
  have hmm := @run_makeMap Try.prog
  go_enter Try.func7, Try.ntmps7
  go_wp2_with fail
  clear hmm
  have x1 := alloc_below w (.cells #[.int .i64 0, .int .i64 0] 32)
  have y1 := heap_alloc_new w (.cells #[.int .i64 0, .int .i64 0] 32)
  have z1 : (w.alloc (.cells #[.int .i64 0, .int .i64 0] 32)).heap.size = w.heap.size + 1 := by simp
  generalize w.alloc (.cells #[.int .i64 0, .int .i64 0] 32) = w1 at *
  have x2 := alloc_below w1 (.map #[] 0)
  have o2 := World.ownsMap_made w1 Try.prog 3 (plainElem (H := Unit) Try.prog 3)
  rw [z1] at o2
  have z2 : (w1.alloc (.map #[] 0)).heap.size = w.heap.size + 1 + 1 := by rw [← z1]; simp
  have HY := Lib.hid (heap_below x2 y1)
  have HX := Lib.hid (belowVia x2 x1)
  have HO := Lib.hid o2
  have HZ := Lib.hid z2
  clear x1 x2 y1 o2 z1 z2
  generalize w1.alloc (.map #[] 0) = w2 at *
  clear w1
  go_loopw [16] (fun i wr => ∃ k : Nat, k ≤ n ∧ i = .int .i64 k ∧ (∃ D, wr.ownsMap Try.prog 3 (plainElem (H := Unit) Try.prog 3) (w.heap.size + 1) (2 * k) D ∧ MapIs D (fun x => chg x (l.take k)) (endAt (l.take k))) ∧ wr.heap[w.heap.size]? = some (.cells #[.int .i64 0, .int .i64 0] 32 (0, 0)) ∧ Below w.heap.size w wr ∧ w.heap.size + 1 + 1 ≤ wr.heap.size) (fun i _ => n - (intOf i).toNat)
  case atStart => exact ⟨0, Nat.zero_le _, rfl, ⟨_, HO.out, MapIs.empty.congr (fun x => rfl) (fun x => ⟨False.elim, fun ⟨p, hp, _⟩ => by simp at hp⟩)⟩, HY.out, HX.out, by have := HZ.out; omega⟩
  case round =>
    obtain ⟨k, hk, rfl, ⟨D, hown, hD⟩, hy, hB, hz⟩ := hrel
    have HO := Lib.hid hown
    have HD := Lib.hid hD
    have HY := Lib.hid hy
    have HB := Lib.hid hB
    have HZ := Lib.hid hz
    clear hown hD hy hB hz
    by_cases hlt : k < n
    · have hlt' : (k : Int) < n := by omega
      have hkl : k < l.length := by have := HN.out; omega
      obtain ⟨g, o, rfl, c0, c1⟩ := (HI.out.via HB.out).get hkl
      obtain ⟨i0, i1⟩ := HK.out _ (sps_mem hkl)
      have HT := Lib.hid (sps_take hkl)
      have HTL : Hid ((l.take k).length ≤ 1000) := by show _ ≤ _; rw [List.length_take]; omega
      clear hkl
      generalize l.getD k default = r at *
      obtain ⟨x, y⟩ := r
      dsimp only at c0 c1 i0 i1
      by_cases hxy : x < y
      · have b0 := chg_bounds x (l.take k)
        have b1 := chg_bounds y (l.take k)
        have HS := Lib.hid (HD.out.spell hxy)
        have HA := Lib.hid (fun v hat => HD.out.got (x := x) (v := v) hat)
        have HA2 := Lib.hid (fun v hat => (HD.out.put x (chg x (l.take k) + 1)).got (x := y) (v := v) hat)
        have HE : Hid ((if y = x then chg x (l.take k) + 1 else chg y (l.take k)) = chg y (l.take k)) := if_neg (by omega)
        have hTL := HTL.out
        have b2 : -1000 ≤ chg x (l.take k) := by omega
        have b3 : chg x (l.take k) ≤ 1000 := by omega
        have b4 : -1000 ≤ chg y (l.take k) := by omega
        have b5 : chg y (l.take k) ≤ 1000 := by omega
        clear b0 b1 hTL HTL
        generalize chg x (l.take k) = cx at *
        generalize chg y (l.take k) = cy at *
        have HO1 := Lib.hid (HO.out.alloc (.cells #[.int .i64 x, .int .i64 y] 32))
        have HK1 := Lib.hid (key_i64 i0)
        have HK2 := Lib.hid (key_i64 i1)
        clear i0 i1
        have c0 := cell_rowN wr #[.int .i64 x, .int .i64 y] 32 0 rfl
        have c1 := cell_rowN wr #[.int .i64 x, .int .i64 y] 32 1 rfl
        have HB1 := Lib.hid (HB.out.alloc HB.out.size (.cells #[.int .i64 x, .int .i64 y] 32))
        have HY1 := Lib.hid (heap_below (alloc_below wr (.cells #[.int .i64 x, .int .i64 y] 32)) HY.out)
        have hne : some wr.heap.size ≠ some (w.heap.size + 1) := by have := HZ.out; intro e; have := Option.some.inj e; omega
        have HNE := Lib.hid hne
        have HM1 : Hid (2 * k < maxLen) := by show _ < _; unfold maxLen; omega
        have HM2 : Hid (2 * k + 1 < maxLen) := by show _ < _; unfold maxLen; omega
        have hv1 : I64 (cx + 1) := ⟨by omega, by omega⟩
        have hv2 : I64 (cy - 1) := ⟨by omega, by omega⟩
        have HE1 := Lib.hid (elem_i64 hv1)
        have HE2 := Lib.hid (elem_i64 hv2)
        have C0 := Lib.hid c0
        have C1 := Lib.hid c1
        clear hne hv1 hv2 c0 c1
        have tA : True := trivial
        go_wp2_with (first
          | (at_lookup; have _t := tA; refine wpList_lookup_own_int _ rfl _ _ 49 rfl 3 3 .i64 lawI Try.underlying49 Try.underlying3 (zeroI _) (w.heap.size + 1) _ _ rfl HO1.out _ _ rfl HK1.out ?_; intro v hat hwc; obtain rfl := (HA.out _ hat).symm; clear tA hat hwc; have tB : True := trivial)
          | (at_mapUpdate; have _t := tB; refine wpList_mapUpdate_own _ rfl _ _ _ 49 rfl 3 3 lawI Try.underlying49 _ (w.heap.size + 1) _ _ rfl HO1.out HM1.out _ _ _ rfl rfl HK1.out _ [] HE1.out ?_; intro w4 hown4 hgrow4; clear tB; have HO4 := Lib.hid hown4; have HG4 := Lib.hid hgrow4; clear hown4 hgrow4; have c0 := HG4.out.cell C0.out HNE.out; have c1 := HG4.out.cell C1.out HNE.out; have tC : True := trivial)
          | (at_lookup; have _t := tC; refine wpList_lookup_own_int _ rfl _ _ 49 rfl 3 3 .i64 lawI Try.underlying49 Try.underlying3 (zeroI _) (w.heap.size + 1) _ _ rfl HO4.out _ _ rfl HK2.out ?_; intro v hat hwc; obtain rfl := ((HA2.out _ hat).trans HE.out).symm; clear tC hat hwc; have tD : True := trivial)
          | (at_mapUpdate; have _t := tD; refine wpList_mapUpdate_own _ rfl _ _ _ 49 rfl 3 3 lawI Try.underlying49 _ (w.heap.size + 1) _ _ rfl HO4.out HM2.out _ _ _ rfl rfl HK2.out _ [] HE2.out ?_; intro w5 hown5 hgrow5; clear tD; have HO5 := Lib.hid hown5; have HG5 := Lib.hid hgrow5; clear hown5 hgrow5))
        go_roundw
        case rel => exact ⟨k + 1, by omega, by go_num, ⟨_, HO5.out, by rw [HT.out]; exact HS.out⟩, grown_heap HG5.out (grown_heap HG4.out HY1.out (by simp)) (by simp), (HB1.out.grown HG4.out HB1.out.size (fun j hj => by cases hj; omega)).grown HG5.out (Nat.le_trans HB1.out.size HG4.out.size) (fun j hj => by cases hj; omega), Nat.le_trans (Nat.le_trans HZ.out (by simp)) (Nat.le_trans HG4.out.size HG5.out.size)⟩
        case measure => simp [intOf]; omega
      · have hxy' : y ≤ x := by omega
        have HS := Lib.hid (HD.out.none hxy)
        have HB1 := Lib.hid (HB.out.alloc HB.out.size (.cells #[.int .i64 x, .int .i64 y] 32))
        have HY1 := Lib.hid (heap_below (alloc_below wr (.cells #[.int .i64 x, .int .i64 y] 32)) HY.out)
        have HO1 := Lib.hid (HO.out.alloc (.cells #[.int .i64 x, .int .i64 y] 32))
        clear hxy HTL i0 i1
        go_wp2_with fail
        go_roundw
        case rel => exact ⟨k + 1, by omega, by go_num, ⟨_, HO1.out.mono (by omega), by rw [HT.out]; exact HS.out⟩, HY1.out, HB1.out, Nat.le_trans HZ.out (by simp)⟩
        case measure => simp [intOf]; omega
    · obtain rfl : k = n := by omega
      have HT : Hid (l.take k = l) := List.take_of_length_le (by have := HN.out; omega)
      rw [HT.out] at HD
      clear hlt hk
      have HD := Lib.hid HD.out
      go_wp2_with fail
      have x1 := alloc_below wr (.cells #[.int .i64 0, .int .i64 0] 32)
      have y1 := heap_alloc_new wr (.cells #[.int .i64 0, .int .i64 0] 32)
      have z1 : (wr.alloc (.cells #[.int .i64 0, .int .i64 0] 32)).heap.size = wr.heap.size + 1 := by simp
      have HO := Lib.hid (HO.out.alloc (.cells #[.int .i64 0, .int .i64 0] 32))
      have HY := Lib.hid (heap_below x1 HY.out)
      have HB := Lib.hid (belowVia x1 HB.out)
      have HQ := Lib.hid y1
      have HZ1 := Lib.hid z1
      have HZ2 := Lib.hid HZ.out
      clear x1 y1 z1
      generalize wr.alloc (.cells #[.int .i64 0, .int .i64 0] 32) = wa at *
      generalize wr.heap.size = q at *
      refine (keys_any _ wa).mono ?_
      rintro e w5 ⟨rfl, rfl⟩
      go_wp2_with fail
      have hsz : Maps.size D ≤ 2 * k := HO.out.size_le
      refine (sorted_any (w.heap.size + 1) _ D _ wa HO.out (by unfold maxLen; omega) (by omega)).mono ?_
      rintro e w6 ⟨v, ss, rfl, hperm, hrow, hB6⟩
      have hko := keys_ok HO.out HD.out hperm
      have hlen : (ss.mergeSort (fun x y => decide (x ≤ y))).length = ss.length := List.length_mergeSort ss
      have hz5 : (wa.alloc (.cells #[.map (some (w.heap.size + 1))] 49)).heap.size = wa.heap.size + 1 := by simp
      rw [← hz5] at hB6
      have hB7 := belowVia hB6 (alloc_below wa (.cells #[.map (some (w.heap.size + 1))] 49))
      clear hperm hsz hz5 hB6
      generalize ss.mergeSort (fun x y => decide (x ≤ y)) = ks at *
      obtain ⟨a2, c2, rfl, hc2, hcb2, hn2, hg2⟩ := owns_nums hrow hlen.symm
      rw [← hlen] at hc2 ⊢
      have hK1000 : (ks.length : Int) ≤ 9223372036854775807 := by omega
      have HKO := Lib.hid hko
      have HN2 := Lib.hid hn2
      have HG2 := Lib.hid hg2
      have HO := Lib.hid (owns_heap HO.out (fun o h => heap_below hB7 h))
      have HY := Lib.hid (heap_below hB7 HY.out)
      have HB := Lib.hid (belowVia hB7 HB.out)
      have HQ := Lib.hid (heap_below hB7 HQ.out)
      clear hko hn2 hg2 hrow hB7
      obtain ⟨n2, hn2⟩ : ∃ n2, n2 = ks.length := ⟨_, rfl⟩
      rw [← hn2] at hc2 hK1000 ⊢
      have HNN := Lib.hid hn2
      clear hn2 hlen
      go_wp2_with fail
      go_loopw [8, 9, 10, 40] (fun s8 s9 s10 s40 wx => ∃ (j : Nat) (cc m a b : Int) (last : Bool), j ≤ n2 ∧ s40 = .int .i64 j ∧ s8 = .int .i64 cc ∧ s9 = .int .i64 m ∧ s10 = .bool last ∧ Sweep l (nxt ks j) cc m a b last ∧ wx.heap[q]? = some (.cells #[.int .i64 a, .int .i64 b] 32 (0, 0)) ∧ Wrote q w6 wx) (fun _ _ _ i _ => n2 - (intOf i).toNat)
      case atStart => exact ⟨0, 0, 0, 0, 0, false, Nat.zero_le _, rfl, rfl, rfl, rfl, sweep_start HKO.out, HQ.out, Wrote.refl _ _⟩
      case round =>
        obtain ⟨j, cc, m, a, b, last, hj, rfl, rfl, rfl, rfl, hs, hq, hW⟩ := hrel
        have HS := Lib.hid hs
        have HQQ := Lib.hid hq
        have HWR := Lib.hid hW
        clear hs hq hW
        by_cases hlt : j < n2
        · have hlt' : (j : Int) < n2 := by omega
          have hjl : j < ks.length := by have := HNN.out; omega
          have HJ := Lib.hid hjl
          obtain ⟨g, o, rfl, hcell⟩ := HN2.out.get hjl
          have hgq : g ≠ q := by have := HG2.out g o rfl; have := HZ1.out; omega
          replace hcell := HWR.out.cell hcell hgq
          have HS : Hid (Sweep l (ks.getD j 0) cc m a b last) := by
            have h := HS.out
            rw [nxt, if_pos hjl] at h
            exact h
          have hend : endAt l (ks.getD j 0) := (HKO.out.mem _).1 (by rw [List.getD_eq_getElem?_getD, List.getElem?_eq_getElem hjl]; exact List.getElem_mem hjl)
          obtain ⟨x, hx⟩ : ∃ x, ks.getD j 0 = x := ⟨_, rfl⟩
          have HXE := Lib.hid hx
          rw [hx] at hcell HS hend
          have hxi : I64 x := by
            obtain ⟨p, hp, _, e⟩ := hend
            rcases e with e | e
            · rw [e]; exact (HK.out p hp).1
            · rw [e]; exact (HK.out p hp).2
          have HK1 := Lib.hid (key_i64 hxi)
          have HA := Lib.hid (fun v hat => HD.out.got (x := x) (v := v) hat)
          have HOX := Lib.hid (owns_heap HO.out (fun o h => HWR.out.heap h (by have := HZ2.out; omega)))
          obtain ⟨s1, s2, s3, s4⟩ := sweep_small HS.out
          have b0 := chg_bounds x l
          have s5 : cc ≤ 1000 := by have := HN.out; omega
          have s6 : m ≤ 1000 := by have := HN.out; omega
          have s7 : -1000 ≤ chg x l := by have := HN.out; omega
          have s8 : chg x l ≤ 1000 := by have := HN.out; omega
          have HUP := Lib.hid (fun h => HS.out.up h)
          have HDOWN := Lib.hid (fun (e : last = true) h => (show Sweep l x cc m a b true by rw [← e]; exact HS.out).down h)
          have HIDLE := Lib.hid (fun (e : last = false) h => (show Sweep l x cc m a b false by rw [← e]; exact HS.out).idle h)
          have HSTAY := Lib.hid (fun (e : last = true) h => (show Sweep l x cc m a b true by rw [← e]; exact HS.out).stay h)
          have q0 := (cell_of_row _ q 0 _ _ _ HQQ.out).trans (by rfl : _ = some (.int .i64 a))
          have q1 := (cell_of_row _ q 1 _ _ _ HQQ.out).trans (by rfl : _ = some (.int .i64 b))
          have f0 := frozen_of_row _ q 0 _ _ HQQ.out
          have f1 := frozen_of_row _ q 1 _ _ HQQ.out
          clear hjl hgq hend hxi b0 s2 s4 hx
          generalize chg x l = d at *
          by_cases hup : m < cc + d
          · have HH := Lib.hid (HUP.out hup)
            go_wp2_with (at_lookup; refine wpList_lookup_own_int _ rfl _ _ 49 rfl 3 3 .i64 lawI Try.underlying49 Try.underlying3 (zeroI _) (w.heap.size + 1) _ _ rfl HOX.out _ _ rfl HK1.out ?_; intro v hat hwc; obtain rfl := (HA.out _ hat).symm; clear hat hwc)
            go_roundw
            case rel => exact ⟨j + 1, cc + d, cc + d, x, b, true, by omega, by go_num, rfl, rfl, rfl, sweep_next HKO.out HJ.out (by rw [HXE.out]; exact HH.out), heap_setCell_same _ _ 0 _ _ _ HQQ.out, HWR.out.set 0 _⟩
            case measure => simp [intOf]; omega
          · have hup' : cc + d ≤ m := by omega
            by_cases hdn : cc + d < m
            · cases last with
              | true =>
                have HH := Lib.hid (HDOWN.out rfl hdn)
                clear hup
                go_wp2_with (at_lookup; refine wpList_lookup_own_int _ rfl _ _ 49 rfl 3 3 .i64 lawI Try.underlying49 Try.underlying3 (zeroI _) (w.heap.size + 1) _ _ rfl HOX.out _ _ rfl HK1.out ?_; intro v hat hwc; obtain rfl := (HA.out _ hat).symm; clear hat hwc)
                go_roundw
                case rel => exact ⟨j + 1, cc + d, m, a, x, false, by omega, by go_num, rfl, rfl, rfl, sweep_next HKO.out HJ.out (by rw [HXE.out]; exact HH.out), heap_setCell_same _ _ 1 _ _ _ HQQ.out, HWR.out.set 1 _⟩
                case measure => simp [intOf]; omega
              | false =>
                have HH := Lib.hid (HIDLE.out rfl hup')
                clear hup
                go_wp2_with (at_lookup; refine wpList_lookup_own_int _ rfl _ _ 49 rfl 3 3 .i64 lawI Try.underlying49 Try.underlying3 (zeroI _) (w.heap.size + 1) _ _ rfl HOX.out _ _ rfl HK1.out ?_; intro v hat hwc; obtain rfl := (HA.out _ hat).symm; clear hat hwc)
                go_roundw
                case rel => exact ⟨j + 1, cc + d, m, a, b, false, by omega, by go_num, rfl, rfl, rfl, sweep_next HKO.out HJ.out (by rw [HXE.out]; exact HH.out), HQQ.out, HWR.out⟩
                case measure => simp [intOf]; omega
            · have hdn' : m ≤ cc + d := by omega
              have he : Hid (cc + d = m) := by show _ = _; omega
              clear hup hdn
              cases last with
              | true =>
                have HH := Lib.hid (HSTAY.out rfl he.out)
                go_wp2_with (at_lookup; refine wpList_lookup_own_int _ rfl _ _ 49 rfl 3 3 .i64 lawI Try.underlying49 Try.underlying3 (zeroI _) (w.heap.size + 1) _ _ rfl HOX.out _ _ rfl HK1.out ?_; intro v hat hwc; obtain rfl := (HA.out _ hat).symm; clear hat hwc)
                go_roundw
                case rel => exact ⟨j + 1, cc + d, m, a, b, true, by omega, by go_num, rfl, rfl, rfl, sweep_next HKO.out HJ.out (by rw [HXE.out]; exact HH.out), HQQ.out, HWR.out⟩
                case measure => simp [intOf]; omega
              | false =>
                have HH := Lib.hid (HIDLE.out rfl hup')
                go_wp2_with (at_lookup; refine wpList_lookup_own_int _ rfl _ _ 49 rfl 3 3 .i64 lawI Try.underlying49 Try.underlying3 (zeroI _) (w.heap.size + 1) _ _ rfl HOX.out _ _ rfl HK1.out ?_; intro v hat hwc; obtain rfl := (HA.out _ hat).symm; clear hat hwc)
                go_roundw
                case rel => exact ⟨j + 1, cc + d, m, a, b, false, by omega, by go_num, rfl, rfl, rfl, sweep_next HKO.out HJ.out (by rw [HXE.out]; exact HH.out), HQQ.out, HWR.out⟩
                case measure => simp [intOf]; omega
        · obtain rfl : j = n2 := by omega
          have HEND := Lib.hid (sweep_done HKO.out (by have := HS.out; rw [HNN.out] at this; exact this))
          have q0 := (cell_of_row _ q 0 _ _ _ HQQ.out).trans (by rfl : _ = some (.int .i64 a))
          have q1 := (cell_of_row _ q 1 _ _ _ HQQ.out).trans (by rfl : _ = some (.int .i64 b))
          have hr := HWR.out.heap HY.out (by have := HZ2.out; omega)
          have r0 := (cell_of_row _ _ 0 _ _ _ hr).trans (by rfl : _ = some _)
          have r1 := (cell_of_row _ _ 1 _ _ _ hr).trans (by rfl : _ = some _)
          have f0 := frozen_of_row _ _ 0 _ _ hr
          have f1 := frozen_of_row _ _ 1 _ _ hr
          have HR := Lib.hid hr
          have hne : w.heap.size ≠ q := by have := HZ2.out; omega
          clear hr hlt hj HS
          go_wp2_with fail
          refine bodyPost_ret (results_se rfl _ _ w.heap.size _ _ rfl (pair_set HR.out _ _)) rfl ⟨a, b, m, rfl, HEND.out, ?_⟩
          exact (((HWR.out.below HB.out HB.out.size (by have := HZ2.out; omega)).setCell (Nat.le_refl _) _).setCell (Nat.le_refl _) _)
end Go.Proofs.Ytiakjaglnjecgaa
