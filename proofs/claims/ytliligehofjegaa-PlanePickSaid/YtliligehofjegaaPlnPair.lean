/- The contract of the reference's Pair: two valid polygons. -/
import Derived.Test.YtliligehofjegaaPlnMade
import Derived.Test.YtliligehofjegaaPlnRefD
import Derived.Test.YtliligehofjegaaPlnCutP
import Derived.Deep.DeepCutAuto
import Derived.Maps.AppendAt
namespace Go.Proofs.Ytliligehofjegaa
open Go.RowKit Go.Shelf Pln

/-- Two valid polygons. -/
def PairR (w : World) (e : Ending) (w' : World) : Prop := ∃ a b va vb, e = .returned (.tuple #[va, vb]) ∧ Val a ∧ Val b ∧ PtsAt w' va a ∧ PtsAt w' vb b ∧ Below w.heap.size w w'
theorem made40 (x : List Pt) : Val (madeP x 0 40) := madeP_val (by omega) (by omega) (by omega) x
set_option maxRecDepth 100000 in
set_option maxHeartbeats 200000 in
theorem pair0_w (x y : List Pt) (hx : (x.length : Int) ≤ 9223372036854775807) (hy : (y.length : Int) ≤ 9223372036854775807) (how : Int) (hh : I64 how) (v1 v2 : Value) (w : World) (h1 : PtsAt w v1 x) (h2 : PtsAt w v2 y) (hk : pkN how 3 = 0) :
    Calls Try.prog 10 #[v1, v2, .int .i64 how] w (PairR w) := by
  have HK := Lib.hid (fun w1 => pickR_w how 3 hh (by omega) (by omega) w1)
  have HM1 := Lib.hid (fun w1 (hB : Below w.heap.size w w1) => made_w x hx 0 40 (by omega) (by omega) (by omega) v1 w1 (h1.via hB))
  have HM2 := Lib.hid (fun w1 (hB : Below w.heap.size w w1) => made_w y hy 0 40 (by omega) (by omega) (by omega) v2 w1 (h2.via hB))
  have HH := Lib.hid hh
  rw [hk] at HK
  have HV1 := Lib.hid (made40 x)
  have HV2 := Lib.hid (made40 y)
  obtain ⟨⟨a1, c1, rfl, _, _, _⟩, _⟩ := h1
  obtain ⟨⟨a2, c2, rfl, _, _, _⟩, _⟩ := h2
  clear hk hx hy hh
  generalize x.length = xn at *
  generalize y.length = yn at *
  go_enter Try.func10, Try.ntmps10
  go_wp2_with fail
  refine (HK.out _).mono ?_
  rintro e w1 ⟨rfl, rfl⟩
  go_wp2_with fail
  refine (HM1.out _ (Below.refl _ _)).mono ?_
  rintro e w2 ⟨r1, rfl, hr1, hB2⟩
  have HR1 := Lib.hid hr1
  go_wp2_with fail
  refine (HM2.out _ hB2).mono ?_
  rintro e w3 ⟨r2, rfl, hr2, hB3⟩
  have HR1 := Lib.hid (HR1.out.via hB3)
  have HR2 := Lib.hid hr2
  have HB3 := Lib.hid (belowStep hB2 hB3)
  clear hr1 hr2 hB2 hB3
  go_wp2_with fail
  go_ret2
  exact ⟨_, _, _, _, rfl, HV1.out, HV2.out, HR1.out, HR2.out, HB3.out⟩
theorem w64 {x : Int} (h : I64 x) : wrap64 x = x := by obtain ⟨h1, h2⟩ := h; unfold wrap64; omega
theorem tdiv_i64 {p m : Int} (h : I64 p) (hm : 0 < m) : I64 (p.tdiv m) := by
  obtain ⟨h1, h2⟩ := h
  rcases Int.le_total 0 p with h | h
  · have a := Int.tdiv_nonneg h (Int.le_of_lt hm)
    have b : p.tdiv m ≤ p := Int.tdiv_le_self m h
    exact ⟨by omega, by omega⟩
  · obtain ⟨q, rfl⟩ : ∃ q, p = -q := ⟨-p, by omega⟩
    have a := Int.tdiv_nonneg (by omega : 0 ≤ q) (Int.le_of_lt hm)
    have b : q.tdiv m ≤ q := Int.tdiv_le_self m (by omega)
    rw [Int.neg_tdiv]; exact ⟨by omega, by omega⟩
set_option maxRecDepth 100000 in
set_option maxHeartbeats 200000 in
theorem pair2_w (x y : List Pt) (hx : (x.length : Int) ≤ 9223372036854775807) (hy : (y.length : Int) ≤ 9223372036854775807) (how : Int) (hh : I64 how) (v1 v2 : Value) (w : World) (h1 : PtsAt w v1 x) (h2 : PtsAt w v2 y) (hk : pkN how 3 = 2) :
    Calls Try.prog 10 #[v1, v2, .int .i64 how] w (PairR w) := by
  have HK := Lib.hid (fun w1 => pickR_w how 3 hh (by omega) (by omega) w1)
  have HM1 := Lib.hid (fun w1 (hB : Below w.heap.size w w1) => made_w x hx 0 40 (by omega) (by omega) (by omega) v1 w1 (h1.via hB))
  have HM2 := Lib.hid (fun w1 (hB : Below w.heap.size w w1) => made_w y hy 0 40 (by omega) (by omega) (by omega) v2 w1 (h2.via hB))
  have HP := Lib.hid (fun (n : Int) (hn : 0 < n) (hn2 : n ≤ 1000) w1 => pickR_w (how.tdiv 3) n (tdiv_i64 hh (by omega)) hn hn2 w1)
  have HH := Lib.hid hh
  rw [hk] at HK
  have HV1 := Lib.hid (made40 x)
  have HV2 := Lib.hid (made40 y)
  obtain ⟨⟨a1, c1, rfl, _, _, _⟩, _⟩ := h1
  obtain ⟨⟨a2, c2, rfl, _, _, _⟩, _⟩ := h2
  clear hk hx hy hh
  generalize x.length = xn at *
  generalize y.length = yn at *
  generalize madeP x 0 40 = l at *
  go_enter Try.func10, Try.ntmps10
  go_wp2_with fail
  refine (HK.out _).mono ?_
  rintro e w1 ⟨rfl, rfl⟩
  go_wp2_with fail
  refine (HM1.out _ (Below.refl _ _)).mono ?_
  rintro e w2 ⟨r1, rfl, hr1, hB2⟩
  have HR1 := Lib.hid hr1
  have HB2 := Lib.hid hB2
  clear hB2
  obtain ⟨⟨a3, c3, rfl, _, _, _⟩, _⟩ := hr1
  obtain ⟨n, hn⟩ : ∃ n, n = l.length := ⟨_, rfl⟩
  have hn3 : 3 ≤ n := by have := HV1.out.lo; omega
  have hn8 : n ≤ 8 := by have := HV1.out.hi; omega
  have hp := pkN_in (c := how.tdiv 3) (n := n) (by omega)
  have HPN := Lib.hid (HP.out n (by omega) (by omega))
  rw [← hn] at HR1 ⊢
  have HNN := Lib.hid hn
  clear hn
  generalize pkN (how.tdiv 3) n = k at *
  obtain ⟨kN, rfl⟩ : ∃ kN : Nat, k = kN := ⟨k.toNat, by omega⟩
  have hkn : kN < n := by omega
  have hm : (kN + 2) % n < n := Nat.mod_lt _ (by omega)
  have hrem : ((kN : Int) + 2).tmod n = (((kN + 2) % n : Nat) : Int) := by rw [Int.tmod_eq_emod_of_nonneg (by omega)]; simp
  have hw1 : IntKind.i64.wrap ((kN : Int) + 2) = (kN : Int) + 2 := IntWalk.i64_in _ (by omega)
  have hn0 : ¬ n = 0 := by omega
  have hM0 := Int.emod_nonneg ((kN : Int) + 2) (by omega : (n : Int) ≠ 0)
  have hM1 := Int.emod_lt_of_pos ((kN : Int) + 2) (by omega : (0 : Int) < n)
  have hq3 : wrap64 (how.tdiv 3) = how.tdiv 3 := w64 (tdiv_i64 HH.out (by omega))
  have HC := Lib.hid (fun w1 (hB : Below w2.heap.size w2 w1) => cutR_w l (by unfold Len; rw [← HNN.out]; omega) kN (((kN : Int) + 2) % (n : Int)) ⟨by omega, by omega⟩ ⟨by omega, by omega⟩ _ w1 (HR1.out.via hB))
  go_wp2_with fail
  rw [hq3]
  refine (HPN.out _).mono ?_
  rintro e w3 ⟨rfl, rfl⟩
  go_wp2_with fail
  refine (HC.out _ (Below.refl _ _)).mono ?_
  intro e w3 hc
  rcases hc with ⟨ra, rb, r, s, hcut, rfl, hra, hrb, hB3⟩ | ⟨_, rfl, hB3⟩
  · have hva := cut_val hcut
    have HRA := Lib.hid hra
    have HRB := Lib.hid hrb
    have HVA := Lib.hid hva
    have HB3 := Lib.hid (belowStep HB2.out hB3)
    clear hcut hra hrb hva hB3
    go_wp2_with fail
    go_ret2
    exact ⟨_, _, _, _, rfl, HVA.out.1, HVA.out.2, HRA.out, HRB.out, HB3.out⟩
  · have HR1 := Lib.hid (HR1.out.via hB3)
    have HB3 := Lib.hid (belowStep HB2.out hB3)
    clear hB3
    go_wp2_with fail
    refine (HM2.out _ HB3.out).mono ?_
    rintro e w4 ⟨r2, rfl, hr2, hB4⟩
    have HR1 := Lib.hid (HR1.out.via hB4)
    have HR2 := Lib.hid hr2
    have HB4 := Lib.hid (belowStep HB3.out hB4)
    clear hr2 hB4
    go_wp2_with fail
    go_ret2
    exact ⟨_, _, _, _, rfl, HV1.out, HV2.out, HR1.out, HR2.out, HB4.out⟩
/-- At most six rows of a list, and two more. -/
theorem info_in : (Try.prog.info? 62).map (fun i => (i.zero, i.size, i.bytes)) = some (some (.agg #[.int .i64 0, .int .i64 0]), 2, 16) := by kernel_rfl
theorem owns_at2 {w : World} {base : Nat} {e : TypeId} {v : Value} {l : List Pt} (h : w.ownsRow base e 2 v l.length (cellsP l)) (hok : PtsOk l) : PtsAt w v l := by
  refine ⟨?_, hok⟩
  rcases h.2 with ⟨rfl, h0⟩ | ⟨g, cap, cur, rfl, _, _, hn, hc, _, _⟩
  · exact ⟨none, 0, by rw [h0], by omega, by omega, .inl (List.length_eq_zero_iff.1 h0)⟩
  · have hc' : (cap : Int) ≤ 9223372036854775807 := by unfold maxLen at hc; omega
    refine ⟨some ⟨g, 0, none⟩, cap, rfl, hn, hc', .inr ⟨g, 0, rfl, fun j hj => ?_⟩⟩
    have := cellsP_get l j hj
    exact ⟨by rw [Nat.zero_add]; exact (h.cellAt (j * 2) (by omega)).trans this.1, by rw [Nat.zero_add]; exact (h.cellAt (j * 2 + 1) (by omega)).trans this.2⟩
theorem own_grown {W W' : World} {base e s n : Nat} {v : Value} {row : Option Nat} {xs : List Value} (h : W.ownsRow base e s v n xs) (hg : W.grownBy W' row) (hr : ∀ q, row = some q → ∀ r, v.ownBlock = some r → r ≠ q) : W'.ownsRow base e s v n xs := by
  refine ⟨h.1, ?_⟩
  rcases h.2 with h2 | ⟨g, cap, cur, rfl, h2, h3, h4⟩
  · exact .inl h2
  · exact .inr ⟨g, cap, cur, rfl, h2, (hg.block g (Array.getElem?_eq_some_iff.1 h3).1 (fun e => hr g e.symm g rfl rfl)).trans h3, h4⟩
theorem two_ok {a b c d : Int} (h1 : 0 ≤ a ∧ a ≤ 100 ∧ 0 ≤ c ∧ c ≤ 100) (h2 : 0 ≤ b ∧ b ≤ 100 ∧ 0 ≤ d ∧ d ≤ 100) : PtsOk [(a, b), (c, d)] := fun r hr => by
  simp at hr
  rcases hr with rfl | rfl
  · exact ⟨⟨by dsimp only; omega, by dsimp only; omega⟩, by dsimp only; omega, by dsimp only; omega⟩
  · exact ⟨⟨by dsimp only; omega, by dsimp only; omega⟩, by dsimp only; omega, by dsimp only; omega⟩
theorem take_next {x : List Pt} {k : Nat} (h : k < x.length) : x.take (k + 1) = x.take k ++ [vx x k] := by
  rw [List.take_add_one, vx_eq h]; simp [List.getElem?_eq_getElem h]
theorem ok_take {x : List Pt} (h : PtsOk x) (k : Nat) : PtsOk (x.take k) := fun r hr => h r (List.mem_of_mem_take hr)
set_option maxRecDepth 100000 in
set_option maxHeartbeats 400000 in
theorem pair1_w (x y : List Pt) (hx : (x.length : Int) ≤ 9223372036854775807) (hy : (y.length : Int) ≤ 9223372036854775807) (how : Int) (hh : I64 how) (v1 v2 : Value) (w : World) (h1 : PtsAt w v1 x) (h2 : PtsAt w v2 y) (hk : pkN how 3 = 1) :
    Calls Try.prog 10 #[v1, v2, .int .i64 how] w (PairR w) := by
  have HK := Lib.hid (fun w1 => pickR_w how 3 hh (by omega) (by omega) w1)
  rw [hk] at HK
  have HX := Lib.hid h1
  have HY := Lib.hid h2
  have HOX := Lib.hid h1.ok
  have HOY := Lib.hid h2.ok
  have q3 : wrap64 (how.tdiv 3) = how.tdiv 3 := w64 (tdiv_i64 hh (by omega))
  have q90 : wrap64 (how.tdiv 90) = how.tdiv 90 := w64 (tdiv_i64 hh (by omega))
  have q900 : wrap64 (how.tdiv 900) = how.tdiv 900 := w64 (tdiv_i64 hh (by omega))
  have q7 : wrap64 (how.tdiv 7) = how.tdiv 7 := w64 (tdiv_i64 hh (by omega))
  have HP3 := Lib.hid (fun w1 => pickR_w (how.tdiv 3) 30 (tdiv_i64 hh (by omega)) (by omega) (by omega) w1)
  have HP90 := Lib.hid (fun w1 => pickR_w (how.tdiv 90) 10 (tdiv_i64 hh (by omega)) (by omega) (by omega) w1)
  have HP900 := Lib.hid (fun w1 => pickR_w (how.tdiv 900) 40 (tdiv_i64 hh (by omega)) (by omega) (by omega) w1)
  have HP7 := Lib.hid (fun w1 => pickR_w (how.tdiv 7) 40 (tdiv_i64 hh (by omega)) (by omega) (by omega) w1)
  have b3 := pkN_in (c := how.tdiv 3) (n := 30) (by omega)
  have b90 := pkN_in (c := how.tdiv 90) (n := 10) (by omega)
  have b900 := pkN_in (c := how.tdiv 900) (n := 40) (by omega)
  have b7 := pkN_in (c := how.tdiv 7) (n := 40) (by omega)
  generalize pkN (how.tdiv 3) 30 = p3 at *
  generalize pkN (how.tdiv 90) 10 = p90 at *
  generalize pkN (how.tdiv 900) 40 = p900 at *
  generalize pkN (how.tdiv 7) 40 = p7 at *
  obtain ⟨b3a, b3b⟩ := b3
  obtain ⟨b90a, b90b⟩ := b90
  obtain ⟨b900a, b900b⟩ := b900
  obtain ⟨b7a, b7b⟩ := b7
  obtain ⟨⟨a1, c1, rfl, _, _, _⟩, _⟩ := h1
  obtain ⟨⟨a2, c2, rfl, _, _, _⟩, _⟩ := h2
  obtain ⟨i0, hi, hz0, hz1, hz2⟩ := info_parts info_in
  have HI := Lib.hid hi
  have HZ0 := Lib.hid hz0
  have HZ1 := Lib.hid hz1
  have HZ2 := Lib.hid hz2
  clear hi hz0 hz1 hz2 hk hh
  obtain ⟨n, hn⟩ : ∃ n, n = x.length := ⟨_, rfl⟩
  obtain ⟨m, hm⟩ : ∃ m, m = y.length := ⟨_, rfl⟩
  have hnb : (n : Int) ≤ 9223372036854775807 := by omega
  have hmb : (m : Int) ≤ 9223372036854775807 := by omega
  rw [← hn] at HX ⊢
  rw [← hm] at HY ⊢
  have HN := Lib.hid hn
  have HMM := Lib.hid hm
  clear hn hm hx hy
  go_enter Try.func10, Try.ntmps10
  go_wp2_with fail
  refine (HK.out _).mono ?_
  rintro e w1 ⟨rfl, rfl⟩
  go_wp2_with fail
  go_loopw [8, 10] (fun u i wr => ∃ k : Nat, k ≤ n ∧ k ≤ 6 ∧ i = .int .i64 k ∧ wr.ownsRow w.heap.size 62 2 u k (cellsP (x.take k)) ∧ Below w.heap.size w wr) (fun _ i _ => n - (intOf i).toNat)
  case atStart => exact ⟨0, by omega, by omega, rfl, ⟨rfl, .inl ⟨rfl, rfl⟩⟩, Below.refl _ _⟩
  case round =>
    obtain ⟨k, hk, hk6, rfl, hown, hB⟩ := hrel
    have HB := Lib.hid hB
    have HO := Lib.hid hown
    clear hown hB
    go_upto_region 8 with fail
    go_cut [35] (fun sx wx => sx = .bool (decide (k < n ∧ k < 6)) ∧ wx = wr)
    case first =>
      by_cases hlt : k < n
      · have hlt' : (k : Int) < n := by omega
        by_cases hlt6 : k < 6
        · have hlt6' : (k : Int) < 6 := by omega
          go_wp2_with fail
          go_meet
          case rel => exact ⟨by rw [decide_eq_true ⟨hlt, hlt6⟩], rfl⟩
        · have hlt6' : (6 : Int) ≤ k := by omega
          go_wp2_with fail
          go_meet
          case rel => exact ⟨by rw [decide_eq_false (fun (h : k < n ∧ k < 6) => hlt6 h.2)]; first | rfl | rw [decide_eq_false (by omega : ¬ ((k : Int) < 6))], rfl⟩
      · have hlt' : (n : Int) ≤ k := by omega
        go_wp2_with fail
        go_meet
        case rel => exact ⟨by rw [decide_eq_false (fun (h : k < n ∧ k < 6) => hlt h.1)], rfl⟩
    case rest =>
      obtain ⟨rfl, rfl⟩ := hcut
      by_cases hlt : k < n ∧ k < 6
      · have hd : decide (k < n ∧ k < 6) = true := decide_eq_true hlt
        rw [hd]
        have hkx : k < x.length := by rw [← HN.out]; exact hlt.1
        obtain ⟨g, o, cc, he, _, _, hcells⟩ := at_some (HX.out.via HB.out) (by omega)
        rw [← HN.out] at he
        cases he
        obtain ⟨c0, c1⟩ := hcells k hkx
        have HTN := Lib.hid (take_next hkx)
        have hkn : (k : Int) < n := by omega
        have hk7 : (k : Int) < 6 := by omega
        clear hcells hkx hlt hd
        generalize vx x k = p at *
        obtain ⟨x0, x1⟩ := p
        dsimp only at c0 c1
        have HO6 := Lib.hid (own_via HO.out (alloc_below wc (.cells #[.int .i64 x0, .int .i64 x1] 62)))
        have HNW := Lib.hid (news_in (w := wc.alloc (.cells #[.int .i64 x0, .int .i64 x1] 62)) (g := wc.heap.size) (o := 0) (l := [(x0, x1)]) (fun j hj => by obtain rfl : j = 0 := (by simp at hj; omega); exact ⟨cell_rowN wc _ _ 0 rfl, cell_rowN wc _ _ 1 rfl⟩))
        have HA := Lib.hid (app_ok (n := k) (m := 1) (by omega))
        have HBZ : Hid (w.heap.size ≤ (wc.alloc (.cells #[.int .i64 x0, .int .i64 x1] 62)).heap.size) := Lib.hid (by have := HB.out.size; simp; omega)
        go_wp2_with (at_builtin; refine wpList_append_own _ rfl _ _ 22 rfl w.heap.size 62 i0 (.agg #[.int .i64 0, .int .i64 0]) 2 16 Try.underlying22 HI.out HZ0.out HZ1.out HZ2.out rfl (by decide) _ k (cellsP (x.take k)) rfl HO6.out ⟨wc.heap.size, 0, none⟩ 1 1 (cellsP [(x0, x1)]) rfl rfl HNW.out (cellsP_one _) HA.out.1 HA.out.2 HBZ.out ?_)
        intro v5 w5 hown5 hgrow5 _
        have HB5 := Lib.hid ((belowStep HB.out (alloc_below wc (.cells #[.int .i64 x0, .int .i64 x1] 62))).grown hgrow5 HBZ.out (fun k hk => (own_lt HO6.out k hk).1))
        rw [← cellsP_app, ← HTN.out] at hown5
        have HO5 := Lib.hid hown5
        clear hown5 hgrow5
        go_wp2_with fail
        go_roundw
        case rel => exact ⟨k + 1, by omega, by omega, by go_num, HO5.out, HB5.out⟩
        case measure => simp [intOf]; omega
      · have hd : decide (k < n ∧ k < 6) = false := decide_eq_false hlt
        rw [hd]
        have HLL : Hid ((x.take k).length = k) := Lib.hid (by rw [List.length_take, ← HN.out]; omega)
        clear hlt hd
        go_wp2_with fail
        clear HK
        generalize hwd : wc = wd at *
        clear hwd
        go_loopw [9, 11] (fun u i wr => ∃ j : Nat, j ≤ m ∧ j ≤ 6 ∧ i = .int .i64 j ∧ wr.ownsRow wd.heap.size 62 2 u j (cellsP (y.take j)) ∧ Below wd.heap.size wd wr) (fun _ i _ => m - (intOf i).toNat)
        case atStart => exact ⟨0, by omega, by omega, rfl, ⟨rfl, .inl ⟨rfl, rfl⟩⟩, Below.refl _ _⟩
        case round =>
          obtain ⟨j, hj, hj6, rfl, hown, hB⟩ := hrel
          have HB2 := Lib.hid hB
          have HO2 := Lib.hid hown
          clear hown hB
          go_upto_region 12 with fail
          go_cut [52] (fun sx wx => sx = .bool (decide (j < m ∧ j < 6)) ∧ wx = wr)
          case first =>
            by_cases hlt : j < m
            · have hlt' : (j : Int) < m := by omega
              by_cases hlt6 : j < 6
              · have hlt6' : (j : Int) < 6 := by omega
                go_wp2_with fail
                go_meet
                case rel => exact ⟨by rw [decide_eq_true ⟨hlt, hlt6⟩], rfl⟩
              · have hlt6' : (6 : Int) ≤ j := by omega
                go_wp2_with fail
                go_meet
                case rel => exact ⟨by rw [decide_eq_false (fun (h : j < m ∧ j < 6) => hlt6 h.2)]; first | rfl | rw [decide_eq_false (by omega : ¬ ((j : Int) < 6))], rfl⟩
            · have hlt' : (m : Int) ≤ j := by omega
              go_wp2_with fail
              go_meet
              case rel => exact ⟨by rw [decide_eq_false (fun (h : j < m ∧ j < 6) => hlt h.1)], rfl⟩
          case rest =>
            obtain ⟨rfl, rfl⟩ := hcut
            by_cases hlt : j < m ∧ j < 6
            · have hd : decide (j < m ∧ j < 6) = true := decide_eq_true hlt
              rw [hd]
              have hkx : j < y.length := by rw [← HMM.out]; exact hlt.1
              obtain ⟨g, o, cc, he, _, _, hcells⟩ := at_some (HY.out.via (belowStep HB.out HB2.out)) (by omega)
              rw [← HMM.out] at he
              cases he
              obtain ⟨c0, c1⟩ := hcells j hkx
              have HTN := Lib.hid (take_next hkx)
              have hkn : (j : Int) < m := by omega
              have hk7 : (j : Int) < 6 := by omega
              clear hcells hkx hlt hd
              generalize vx y j = p at *
              obtain ⟨x0, x1⟩ := p
              dsimp only at c0 c1
              have HO6 := Lib.hid (own_via HO2.out (alloc_below wc (.cells #[.int .i64 x0, .int .i64 x1] 62)))
              have HNW := Lib.hid (news_in (w := wc.alloc (.cells #[.int .i64 x0, .int .i64 x1] 62)) (g := wc.heap.size) (o := 0) (l := [(x0, x1)]) (fun j hj => by obtain rfl : j = 0 := (by simp at hj; omega); exact ⟨cell_rowN wc _ _ 0 rfl, cell_rowN wc _ _ 1 rfl⟩))
              have HA := Lib.hid (app_ok (n := j) (m := 1) (by omega))
              have HBZ : Hid (wd.heap.size ≤ (wc.alloc (.cells #[.int .i64 x0, .int .i64 x1] 62)).heap.size) := Lib.hid (by have := HB2.out.size; simp; omega)
              go_wp2_with (at_builtin; refine wpList_append_own _ rfl _ _ 22 rfl wd.heap.size 62 i0 (.agg #[.int .i64 0, .int .i64 0]) 2 16 Try.underlying22 HI.out HZ0.out HZ1.out HZ2.out rfl (by decide) _ j (cellsP (y.take j)) rfl HO6.out ⟨wc.heap.size, 0, none⟩ 1 1 (cellsP [(x0, x1)]) rfl rfl HNW.out (cellsP_one _) HA.out.1 HA.out.2 HBZ.out ?_)
              intro v5 w5 hown5 hgrow5 _
              have HB5 := Lib.hid ((belowStep HB2.out (alloc_below wc (.cells #[.int .i64 x0, .int .i64 x1] 62))).grown hgrow5 HBZ.out (fun k hk => (own_lt HO6.out k hk).1))
              rw [← cellsP_app, ← HTN.out] at hown5
              have HO5 := Lib.hid hown5
              clear hown5 hgrow5
              go_wp2_with fail
              go_roundw
              case rel => exact ⟨j + 1, by omega, by omega, by go_num, HO5.out, HB5.out⟩
              case measure => simp [intOf]; omega
            · have hd : decide (j < m ∧ j < 6) = false := decide_eq_false hlt
              rw [hd]
              have HLM : Hid ((y.take j).length = j) := Lib.hid (by rw [List.length_take, ← HMM.out]; omega)
              clear hlt hd
              have HB3 := Lib.hid (belowStep HB.out HB2.out)
              have hu := HO.out
              have HO := Lib.hid (own_via HO.out HB2.out)
              have HNE : Hid (∀ q, u8.ownBlock = some q → q < wd.heap.size) := Lib.hid (fun q hq => (own_lt hu q hq).2)
              clear hu
              go_wp2_with fail
              rw [q3]
              refine (HP3.out _).mono ?_
              rintro e w3 ⟨rfl, rfl⟩
              have q1 : IntKind.i64.wrap (p3 + 1) = p3 + 1 := IntWalk.i64_in _ (by omega)
              have q2 : IntKind.i64.wrap (p3 + 1 + p90) = p3 + 1 + p90 := IntWalk.i64_in _ (by omega)
              go_wp2_with fail
              refine (HP90.out _).mono ?_
              rintro e w4 ⟨rfl, rfl⟩
              have HO6 := Lib.hid (own_via HO.out (alloc_below wc (.cells #[.int .i64 20, .int .i64 p3, .int .i64 20, .int .i64 (p3 + 1 + p90)] 62)))
              have HNW := Lib.hid (news_in (w := wc.alloc (.cells #[.int .i64 20, .int .i64 p3, .int .i64 20, .int .i64 (p3 + 1 + p90)] 62)) (g := wc.heap.size) (o := 0) (l := [(20, p3), (20, p3 + 1 + p90)]) (fun j hj => by
                have hj2 : j = 0 ∨ j = 1 := (by simp at hj; omega)
                rcases hj2 with rfl | rfl
                · exact ⟨cell_rowN wc _ _ 0 rfl, cell_rowN wc _ _ 1 rfl⟩
                · exact ⟨cell_rowN wc _ _ 2 rfl, cell_rowN wc _ _ 3 rfl⟩))
              have HA := Lib.hid (app_ok (n := k) (m := 2) (by omega))
              have HBZ : Hid (w.heap.size ≤ (wc.alloc (.cells #[.int .i64 20, .int .i64 p3, .int .i64 20, .int .i64 (p3 + 1 + p90)] 62)).heap.size) := Lib.hid (by have := HB3.out.size; simp; omega)
              go_wp2_with (at_builtin; go_loud (refine wpList_append_own_at _ rfl _ _ 22 rfl w.heap.size 62 i0 (.agg #[.int .i64 0, .int .i64 0]) 2 16 Try.underlying22 HI.out HZ0.out HZ1.out HZ2.out rfl (by decide) _ k (cellsP (x.take k)) rfl HO6.out ⟨wc.heap.size, 0, none⟩ 2 2 (cellsP [(20, p3), (20, p3 + 1 + p90)]) rfl rfl HNW.out (cellsP_one _) HA.out.1 HA.out.2 HBZ.out ?_))
              intro v5 w5 hown5 hgrow5 _ hat5
              have HB5 := Lib.hid ((belowStep HB3.out (alloc_below wc (.cells #[.int .i64 20, .int .i64 p3, .int .i64 20, .int .i64 (p3 + 1 + p90)] 62))).grown hgrow5 HBZ.out (fun k hk => (own_lt HO6.out k hk).1))
              have HO25 := Lib.hid (own_grown (own_via HO2.out (alloc_below wc (.cells #[.int .i64 20, .int .i64 p3, .int .i64 20, .int .i64 (p3 + 1 + p90)] 62))) hgrow5 (fun q hq r hr => by have := HNE.out q hq; have := (own_lt HO2.out r hr).1; omega))
              have HZ5 : Hid (wd.heap.size ≤ w5.heap.size) := Lib.hid (by have := hgrow5.size; have := HB2.out.size; simp at *; omega)
              rw [← cellsP_app] at hown5
              have HAT : Hid (∀ q, u9.ownBlock = some q → ∀ r, v5.ownBlock = some r → r ≠ q) := Lib.hid (fun q hq r hr => by
                have h1 := own_lt HO2.out q hq
                rcases hat5 with h | h
                · rw [h] at hr; have := HNE.out r hr; omega
                · rw [h] at hr; cases hr; simp; omega)
              have HO5 := Lib.hid hown5
              have HLN : Hid ((x.take k ++ [(20, p3), (20, p3 + 1 + p90)]).length = k + 2) := Lib.hid (by rw [List.length_append, HLL.out]; rfl)
              have HOK1 : Hid (PtsOk (x.take k ++ [(20, p3), (20, p3 + 1 + p90)])) := Lib.hid (both_ok (ok_take HOX.out k) (two_ok (by omega) (by omega)))
              clear hown5 hgrow5 hat5
              generalize x.take k ++ [(20, p3), (20, p3 + 1 + p90)] = l1 at *
              clear HO6 HNW HA HBZ HO HNE HLL
              go_wp2_with fail
              refine (HP900.out _).mono ?_
              rintro e w6 ⟨rfl, rfl⟩
              go_wp2_with fail
              refine (HP7.out _).mono ?_
              rintro e w6 ⟨rfl, rfl⟩
              have HO6 := Lib.hid (own_via HO25.out (alloc_below w5 (.cells #[.int .i64 0, .int .i64 p900, .int .i64 0, .int .i64 p7] 62)))
              have HNW := Lib.hid (news_in (w := w5.alloc (.cells #[.int .i64 0, .int .i64 p900, .int .i64 0, .int .i64 p7] 62)) (g := w5.heap.size) (o := 0) (l := [(0, p900), (0, p7)]) (fun j hj => by
                have hj2 : j = 0 ∨ j = 1 := (by simp at hj; omega)
                rcases hj2 with rfl | rfl
                · exact ⟨cell_rowN w5 _ _ 0 rfl, cell_rowN w5 _ _ 1 rfl⟩
                · exact ⟨cell_rowN w5 _ _ 2 rfl, cell_rowN w5 _ _ 3 rfl⟩))
              have HA := Lib.hid (app_ok (n := j) (m := 2) (by omega))
              have HBZ : Hid (wd.heap.size ≤ (w5.alloc (.cells #[.int .i64 0, .int .i64 p900, .int .i64 0, .int .i64 p7] 62)).heap.size) := Lib.hid (by have := HZ5.out; simp; omega)
              go_wp2_with (at_builtin; go_loud (refine wpList_append_own_at _ rfl _ _ 22 rfl wd.heap.size 62 i0 (.agg #[.int .i64 0, .int .i64 0]) 2 16 Try.underlying22 HI.out HZ0.out HZ1.out HZ2.out rfl (by decide) _ j (cellsP (y.take j)) rfl HO6.out ⟨w5.heap.size, 0, none⟩ 2 2 (cellsP [(0, p900), (0, p7)]) rfl rfl HNW.out (cellsP_one _) HA.out.1 HA.out.2 HBZ.out ?_))
              intro v7 w7 hown5 hgrow5 _ hat5
              have HB7 := Lib.hid ((belowStep HB5.out (alloc_below w5 (.cells #[.int .i64 0, .int .i64 p900, .int .i64 0, .int .i64 p7] 62))).grown hgrow5 (by have := HB5.out.size; simp; omega) (fun q hq => by have := (own_lt HO6.out q hq).1; have := HB.out.size; omega))
              have HO7 := Lib.hid (own_grown (own_via HO5.out (alloc_below w5 (.cells #[.int .i64 0, .int .i64 p900, .int .i64 0, .int .i64 p7] 62))) hgrow5 (fun q hq r hr => HAT.out q hq r hr))
              rw [← cellsP_app] at hown5
              have HP1 : Hid (PtsAt w7 v5 l1) := Lib.hid (owns_at2 (by rw [HLN.out]; exact HO7.out) HOK1.out)
              have HP2 : Hid (PtsAt w7 v7 (y.take j ++ [(0, p900), (0, p7)])) := Lib.hid (owns_at2 (by rw [List.length_append, HLM.out]; exact hown5) (both_ok (ok_take HOY.out j) (two_ok (by omega) (by omega))))
              have HLY : Hid ((y.take j ++ [(0, p900), (0, p7)]).length = j + 2) := Lib.hid (by rw [List.length_append, HLM.out]; rfl)
              clear hown5 hgrow5 hat5
              generalize y.take j ++ [(0, p900), (0, p7)] = l2 at *
              have HM1 := Lib.hid (fun w1 (hB : Below w7.heap.size w7 w1) => made_w l1 (by rw [HLN.out]; omega) 0 20 (by omega) (by omega) (by omega) v5 w1 (HP1.out.via hB))
              have HM2 := Lib.hid (fun w1 (hB : Below w7.heap.size w7 w1) => made_w l2 (by rw [HLY.out]; omega) 20 40 (by omega) (by omega) (by omega) v7 w1 (HP2.out.via hB))
              have HV1 := Lib.hid (madeP_val (low := 0) (high := 20) (by omega) (by omega) (by omega) l1)
              have HV2 := Lib.hid (madeP_val (low := 20) (high := 40) (by omega) (by omega) (by omega) l2)
              clear HO6 HNW HA HBZ HO5 HO25 HAT HO2 HO7
              go_wp2_with fail
              refine (HM1.out _ (Below.refl _ _)).mono ?_
              rintro e w8 ⟨r1, rfl, hr1, hB8⟩
              have HR1 := Lib.hid hr1
              go_wp2_with fail
              refine (HM2.out _ hB8).mono ?_
              rintro e w9 ⟨r2, rfl, hr2, hB9⟩
              have HR1 := Lib.hid (HR1.out.via hB9)
              have HR2 := Lib.hid hr2
              have HB9 := Lib.hid (belowStep HB7.out (belowStep hB8 hB9))
              clear hr1 hr2 hB8 hB9
              go_wp2_with fail
              go_ret2
              exact ⟨_, _, _, _, rfl, HV1.out, HV2.out, HR1.out, HR2.out, HB9.out⟩
/-- Pair: two valid polygons. -/
theorem pair_w (x y : List Pt) (hx : (x.length : Int) ≤ 9223372036854775807) (hy : (y.length : Int) ≤ 9223372036854775807) (how : Int) (hh : I64 how) (v1 v2 : Value) (w : World) (h1 : PtsAt w v1 x) (h2 : PtsAt w v2 y) :
    Calls Try.prog 10 #[v1, v2, .int .i64 how] w (PairR w) := by
  have h := pkN_in (c := how) (n := 3) (by omega)
  have : pkN how 3 = 0 ∨ pkN how 3 = 1 ∨ pkN how 3 = 2 := by omega
  rcases this with h | h | h
  · exact pair0_w x y hx hy how hh v1 v2 w h1 h2 h
  · exact pair1_w x y hx hy how hh v1 v2 w h1 h2 h
  · exact pair2_w x y hx hy how hh v1 v2 w h1 h2 h
end Go.Proofs.Ytliligehofjegaa
