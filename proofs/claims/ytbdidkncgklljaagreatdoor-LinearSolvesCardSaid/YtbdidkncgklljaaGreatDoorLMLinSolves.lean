/- LinearSolves: what the law's body answers. -/
import Derived.Test.YtbdidkncgklljaaGreatDoorLM9
namespace Go.Proofs.YtbdidkncgklljaaGreatDoor
open Go.RowKit Putlog

theorem made_len9 (x : NumX) : (madeS x).rows.length ≤ 9 := by rw [made_rows]; have := x.m_bounds; omega
theorem made_not_ref {x : NumX} {l : List Int} (h : RefP (madeS x) l) : missX x = true := by
  cases hm : missX x with
  | true => rfl
  | false => exact absurd h (fun h => (made_sol hm).not_ref h)
theorem answers_made (x : NumX) (a : Option Addr) (ca : Nat) (W : World) (hs : SysM W (madeS x) a ca) (hT : TabP W) (hTB : TabB W) :
    Calls Tryz.prog 14 #[.agg #[.int .i64 (x.n : Nat), .slice a x.m ca]] W fun e w' => (∃ v, e = .returned (.tuple #[v, .int .i64 0]) ∧ AnsP (madeS x) W.heap.size w' v) ∧ Below W.heap.size W w' := by
  have h := solve_c (madeS x) a ca W hs (made_valid x) (made_len9 x) hT hTB
  rw [made_rows] at h
  exact h
set_option maxRecDepth 100000 in
set_option maxHeartbeats 8000000 in
theorem Solves_calls (x : NumX) (a b : Option Addr) (c d : Nat) (W : World) (h : NumM W x a b c d) (hT : TabP W) (hTB : TabB W) :
    Calls Tryz.prog 4 #[.agg #[.int .i64 x.cols, .int .i64 x.rows, .slice a x.coefs.length c, .slice b x.hidden.length d, .int .i64 x.miss]] W fun e w' => e = .returned (.bool true) ∧ Below W.heap.size W w' := by
  have HT := Lib.hid hT
  have HTB := Lib.hid hTB
  have HNM := Lib.hid h
  have HMD := Lib.hid (fun w h => made_c x a b c d w h)
  have HMS := Lib.hid (fun w => misses_c x a b c d w h.miss)
  have HLC := Lib.hid (rfl : x.coefs.length = x.coefs.length)
  have hbx := alloc_belowL W (.cells #[.int .i64 x.cols, .int .i64 x.rows, .slice a x.coefs.length c, .slice b x.hidden.length d, .int .i64 x.miss] 24)
  have bx : BlkB 24 W.heap.size [.int .i64 x.cols, .int .i64 x.rows, .slice a x.coefs.length c, .slice b x.hidden.length d, .int .i64 x.miss] (W.alloc (.cells #[.int .i64 x.cols, .int .i64 x.rows, .slice a x.coefs.length c, .slice b x.hidden.length d, .int .i64 x.miss] 24)) := heap_alloc_new W _
  have HBX := Lib.hid bx
  have HW := Lib.hid hbx
  have HT := Lib.hid (TabP.via hbx HT.out)
  have HTB := Lib.hid (TabB.via hbx HTB.out)
  have HNM := Lib.hid (HNM.out.via hbx)
  clear h hT hTB hbx bx HLC
  generalize hn1 : x.coefs.length = n1 at *
  generalize hn2 : x.hidden.length = n2 at *
  generalize hx1 : x.cols = xc at *
  generalize hx2 : x.rows = xr at *
  generalize hx3 : x.miss = xm at *
  clear hn1 hn2 hx1 hx2 hx3
  go_enter Tryz.func4, Tryz.ntmps4
  go_upto_region 1 with fail
  generalize W.alloc (.cells #[.int .i64 xc, .int .i64 xr, .slice a n1 c, .slice b n2 d, .int .i64 xm] 24) = w0 at *
  go_wp2_with fail
  refine (sane_c w0 HT.out HTB.out).mono ?_
  rintro e w1 ⟨rfl, hB⟩
  have HBX := Lib.hid (HBX.out.via hB)
  have HW := Lib.hid (belowVia hB HW.out)
  have HT := Lib.hid (TabP.via hB HT.out)
  have HTB := Lib.hid (TabB.via hB HTB.out)
  have HNM := Lib.hid (HNM.out.via hB)
  clear hB
  have c0 := HBX.out.cell (i := 0) rfl
  have c1 := HBX.out.cell (i := 1) rfl
  have c2 := HBX.out.cell (i := 2) rfl
  have c3 := HBX.out.cell (i := 3) rfl
  have c4 := HBX.out.cell (i := 4) rfl
  go_wp2_with fail
  refine (HMD.out _ HNM.out).mono ?_
  rintro e w2 ⟨⟨L, sa, sc, rfl, _, _, hs⟩, hB⟩
  have HS := Lib.hid hs
  have HBX := Lib.hid (HBX.out.via hB)
  have HW := Lib.hid (belowVia hB HW.out)
  have HT := Lib.hid (TabP.via hB HT.out)
  have HTB := Lib.hid (TabB.via hB HTB.out)
  clear hB hs c0 c1 c2 c3 c4 HMD
  go_wp2_with fail
  have hB := alloc_belowL w2 (.cells #[.int .i64 (x.n : Nat), .slice sa x.m sc] 27)
  have hb : BlkB 27 w2.heap.size [.int .i64 (x.n : Nat), .slice sa x.m sc] (w2.alloc (.cells #[.int .i64 (x.n : Nat), .slice sa x.m sc] 27)) := heap_alloc_new w2 _
  have HS := Lib.hid (HS.out.via hB)
  have HBX := Lib.hid (HBX.out.via hB)
  have HW := Lib.hid (belowVia hB HW.out)
  have HT := Lib.hid (TabP.via hB HT.out)
  have HTB := Lib.hid (TabB.via hB HTB.out)
  clear hB
  generalize w2.alloc (.cells #[.int .i64 (x.n : Nat), .slice sa x.m sc] 27) = w3 at *
  generalize w2.heap.size = ps at *
  refine (answers_made x sa sc w3 HS.out HT.out HTB.out).mono ?_
  rintro e w4 ⟨⟨v, rfl, hA⟩, hB⟩
  have HS := Lib.hid (HS.out.via hB)
  have HBX := Lib.hid (HBX.out.via hB)
  have HBS := Lib.hid (hb.via hB)
  have HW := Lib.hid (belowVia hB HW.out)
  clear hB hb HT HTB
  have HVA := Lib.hid (fun w h => valid_c (madeS x) sa sc w h)
  rw [valid_iff.2 (made_valid x), made_rows] at HVA
  have HVA : Hid (∀ w, SysM w (madeS x) sa sc → Calls Tryz.prog 15 #[.agg #[.int .i64 (x.n : Nat), .slice sa x.m sc]] w fun e w' => e = .returned (.bool true) ∧ Below w.heap.size w w') := HVA
  have HNB := Lib.hid x.n_bounds
  rcases hA with ⟨q, l, dn, rfl, _, hbl, hl, hd, hsol⟩ | ⟨q, l, rfl, _, hbl, hl, href⟩
  · have hlen : l.length = x.n := by have h1 := hsol.len; have h2 : (madeS x).cols = (x.n : Nat) := rfl; omega
    have HCH : Hid (∀ w, SysM w (madeS x) sa sc → BlkB 9 q (strV (l.map intB ++ [intB dn])) w → Calls Tryz.prog 19 #[.agg #[.int .i64 (x.n : Nat), .slice sa x.m sc], .agg #[.slice (some ⟨q, 0, none⟩) x.n (x.n + 1), .string (intB dn)]] w fun e w' => e = .returned (.bool true) ∧ Below w.heap.size w w') := Lib.hid (fun w hs hb => by
      have hck : checkS (madeS x) ⟨l.map intB, intB dn⟩ = true := check_iff.2 ⟨made_valid x, l, dn, rfl, hl, hd, hsol⟩
      have h := check_c (madeS x) sa sc ⟨l.map intB, intB dn⟩ (some ⟨q, 0, none⟩) (x.n + 1) w hs (vec_blk hb (by rw [List.length_map]; omega) (by have := x.n_bounds; omega) (sized_fits (fits_100 hd)) (sized_ints hl))
      rw [hck, made_rows] at h
      have e1 : (⟨l.map intB, intB dn⟩ : VecP).nums.length = x.n := by show (l.map intB).length = x.n; rw [List.length_map]; exact hlen
      rw [e1] at h
      exact h)
    have HBL := Lib.hid hbl
    have hcn : (madeS x).cols.toNat = x.n := rfl
    rw [hcn]
    clear hl hd hsol hlen hbl hcn
    generalize strV (l.map intB ++ [intB dn]) = lv at *
    generalize intB dn = td at *
    have hB := alloc_belowL w4 (.cells #[.bool true, .slice (some ⟨q, 0, none⟩) x.n (x.n + 1), .string td, .slice none 0 0] 38)
    have ha : BlkB 38 w4.heap.size [.bool true, .slice (some ⟨q, 0, none⟩) x.n (x.n + 1), .string td, .slice none 0 0] (w4.alloc (.cells #[.bool true, .slice (some ⟨q, 0, none⟩) x.n (x.n + 1), .string td, .slice none 0 0] 38)) := heap_alloc_new w4 _
    have HS := Lib.hid (HS.out.via hB)
    have HBS := Lib.hid (HBS.out.via hB)
    have HBX := Lib.hid (HBX.out.via hB)
    have HBL := Lib.hid (HBL.out.via hB)
    have HW := Lib.hid (belowVia hB HW.out)
    have d0 := HBS.out.cell (i := 0) rfl
    have d1 := HBS.out.cell (i := 1) rfl
    clear hB
    obtain ⟨nb1, nb2⟩ := HNB.out
    go_wp2_with fail
    generalize w4.alloc (.cells #[.bool true, .slice (some ⟨q, 0, none⟩) x.n (x.n + 1), .string td, .slice none 0 0] 38) = w5 at *
    generalize w4.heap.size = pa at *
    refine (HVA.out _ HS.out).mono ?_
    rintro e w6 ⟨rfl, hB⟩
    have HS := Lib.hid (HS.out.via hB)
    have HBS := Lib.hid (HBS.out.via hB)
    have HBX := Lib.hid (HBX.out.via hB)
    have HBL := Lib.hid (HBL.out.via hB)
    have HBA := Lib.hid (ha.via hB)
    have HW := Lib.hid (belowVia hB HW.out)
    clear hB ha d0 d1 HVA
    have d0 := HBS.out.cell (i := 0) rfl
    have d1 := HBS.out.cell (i := 1) rfl
    have a0 := HBA.out.cell (i := 0) rfl
    have a1 := HBA.out.cell (i := 1) rfl
    have a2 := HBA.out.cell (i := 2) rfl
    have a3 := HBA.out.cell (i := 3) rfl
    go_wp2_with fail
    refine (HCH.out _ HS.out HBL.out).mono ?_
    rintro e w7 ⟨rfl, hB⟩
    have HW := Lib.hid (belowVia hB HW.out)
    replace a3 := keptBelow hB a3
    clear hB HCH d0 d1 a0 a1 a2
    go_wp2_with fail
    go_ret
    exact ⟨rfl, HW.out⟩
  · have hlen : l.length = x.m := by have h1 := href.len; rw [made_rows] at h1; exact h1
    have hmiss := made_not_ref href
    have HCH : Hid (∀ w, SysM w (madeS x) sa sc → BlkB 9 q (strV (l.map intB)) w → Calls Tryz.prog 28 #[.agg #[.int .i64 (x.n : Nat), .slice sa x.m sc], .slice (some ⟨q, 0, none⟩) x.m x.m] w fun e w' => e = .returned (.bool true) ∧ Below w.heap.size w w') := Lib.hid (fun w hs hb => by
      have hck : refS (madeS x) (l.map intB) = true := ref_iff.2 ⟨made_valid x, l, rfl, hl, href⟩
      have h := refutes_c (madeS x) sa sc (l.map intB) (some ⟨q, 0, none⟩) x.m w hs (wts_blk hb (by rw [List.length_map]; omega) (by have := x.m_bounds; omega) (sized_ints hl))
      rw [hck, made_rows] at h
      have e1 : (l.map intB).length = x.m := by rw [List.length_map]; exact hlen
      rw [e1] at h
      exact h)
    rw [hmiss] at HMS
    have HBL := Lib.hid hbl
    rw [made_rows]
    clear hl href hlen hbl hmiss
    generalize strV (l.map intB) = lv at *
    have hB := alloc_belowL w4 (.cells #[.bool false, .slice none 0 0, .string ⟨#[]⟩, .slice (some ⟨q, 0, none⟩) x.m x.m] 38)
    have ha : BlkB 38 w4.heap.size [.bool false, .slice none 0 0, .string ⟨#[]⟩, .slice (some ⟨q, 0, none⟩) x.m x.m] (w4.alloc (.cells #[.bool false, .slice none 0 0, .string ⟨#[]⟩, .slice (some ⟨q, 0, none⟩) x.m x.m] 38)) := heap_alloc_new w4 _
    have HS := Lib.hid (HS.out.via hB)
    have HBS := Lib.hid (HBS.out.via hB)
    have HBX := Lib.hid (HBX.out.via hB)
    have HBL := Lib.hid (HBL.out.via hB)
    have HW := Lib.hid (belowVia hB HW.out)
    have d0 := HBS.out.cell (i := 0) rfl
    have d1 := HBS.out.cell (i := 1) rfl
    clear hB
    obtain ⟨nb1, nb2⟩ := HNB.out
    go_wp2_with fail
    generalize w4.alloc (.cells #[.bool false, .slice none 0 0, .string ⟨#[]⟩, .slice (some ⟨q, 0, none⟩) x.m x.m] 38) = w5 at *
    generalize w4.heap.size = pa at *
    refine (HVA.out _ HS.out).mono ?_
    rintro e w6 ⟨rfl, hB⟩
    have HS := Lib.hid (HS.out.via hB)
    have HBS := Lib.hid (HBS.out.via hB)
    have HBX := Lib.hid (HBX.out.via hB)
    have HBL := Lib.hid (HBL.out.via hB)
    have HBA := Lib.hid (ha.via hB)
    have HW := Lib.hid (belowVia hB HW.out)
    clear hB ha d0 d1 HVA
    have d0 := HBS.out.cell (i := 0) rfl
    have d1 := HBS.out.cell (i := 1) rfl
    have a0 := HBA.out.cell (i := 0) rfl
    have a1 := HBA.out.cell (i := 1) rfl
    have a2 := HBA.out.cell (i := 2) rfl
    have a3 := HBA.out.cell (i := 3) rfl
    have c0 := HBX.out.cell (i := 0) rfl
    have c1 := HBX.out.cell (i := 1) rfl
    have c2 := HBX.out.cell (i := 2) rfl
    have c3 := HBX.out.cell (i := 3) rfl
    have c4 := HBX.out.cell (i := 4) rfl
    go_wp2_with fail
    refine (HMS.out _).mono ?_
    rintro e w7 ⟨rfl, hB⟩
    have HS := Lib.hid (HS.out.via hB)
    have HBL := Lib.hid (HBL.out.via hB)
    have HW := Lib.hid (belowVia hB HW.out)
    replace d0 := keptBelow hB d0
    replace d1 := keptBelow hB d1
    replace a1 := keptBelow hB a1
    replace a2 := keptBelow hB a2
    replace a3 := keptBelow hB a3
    clear hB a0 c0 c1 c2 c3 c4 HMS
    go_wp2_with fail
    refine (HCH.out _ HS.out HBL.out).mono ?_
    rintro e w8 ⟨rfl, hB⟩
    have HW := Lib.hid (belowVia hB HW.out)
    replace a1 := keptBelow hB a1
    replace a2 := keptBelow hB a2
    clear hB HCH d0 d1 a3
    go_wp2_with fail
    go_ret
    exact ⟨rfl, HW.out⟩
end Go.Proofs.YtbdidkncgklljaaGreatDoor
