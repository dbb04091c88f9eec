/- What the law's helper agrees answers. -/
import Derived.Test.YtebhalcoemkomaaClkStep
import Derived.Test.YtebhalcoemkomaaClkAgree
namespace Go.Proofs.Ytebhalcoemkomaa
open Go.RowKit Putlog

theorem s3Ends {v w w1 : World} {g o : Nat} {x y : Value} (h : w.cell? ⟨g, o, none⟩ = some x ∧ w.cell? ⟨g, o + 1, none⟩ = some y ∧ Below v.heap.size v w) (hB : Below w.heap.size w w1) : w1.cell? ⟨g, o, none⟩ = some x ∧ w1.cell? ⟨g, o + 1, none⟩ = some y ∧ Below v.heap.size v w1 := ⟨keptBelow hB h.1, keptBelow hB h.2.1, belowVia hB h.2.2⟩
theorem s3Grown {v w w2 : World} {g o B e size n : Nat} {x y u : Value} {xs : List Value} (h : w.cell? ⟨g, o, none⟩ = some x ∧ w.cell? ⟨g, o + 1, none⟩ = some y ∧ Below v.heap.size v w) (hO : w.ownsRow B e size u n xs) (hg : w.grownBy w2 u.ownBlock) (hgB : g < B) (hvB : v.heap.size ≤ B) : w2.cell? ⟨g, o, none⟩ = some x ∧ w2.cell? ⟨g, o + 1, none⟩ = some y ∧ Below v.heap.size v w2 :=
  ⟨hg.cell h.1 (fun e => by have := (hO.lt g e.symm).1; omega), hg.cell h.2.1 (fun e => by have := (hO.lt g e.symm).1; omega), h.2.2.grown hg h.2.2.size (fun j e => by have := (hO.lt j e).1; omega)⟩

set_option maxRecDepth 100000 in
set_option maxHeartbeats 8000000 in
theorem agrees_any (l : List Sp) (hl : l.length ≤ 12) (s : Int) (v : Value) (W : World) (h : SpsAt W v l) :
    Calls Try.prog 29 #[v, .int .i64 s] W fun e w' => e = .returned (.bool true) ∧ Below W.heap.size W w' := by
  have HS := Lib.hid h
  obtain ⟨⟨a, c, rfl, hc, hcb, hin⟩, hok⟩ := h
  have HG := Lib.hid (fun w (hB : Below W.heap.size W w) => agree_any l (by omega) _ w (HS.out.via hB))
  have HIN := Lib.hid (fun x w (hB : Below W.heap.size W w) => in_any l (by omega) x _ w (HS.out.via hB))
  have HI := Lib.hid hin
  obtain ⟨n, hn⟩ : ∃ n, n = l.length := ⟨_, rfl⟩
  rw [← hn] at hc hl HG HIN ⊢
  have HN := Lib.hid hn
  have hnb : (n : Int) ≤ 12 := by omega
  clear hin hok hn HS
  go_enter Try.func29, Try.ntmps29
  go_wp2_with fail
  refine (HG.out _ (Below.refl _ _)).mono ?_
  rintro e w1 ⟨A, B, K, rfl, hag, hB⟩
  have HAG := Lib.hid hag
  have HW := Lib.hid hB
  clear hB hag HG
  go_wp2_with fail
  have HW := Lib.hid (belowVia (alloc_below w1 (.cells #[.int .i64 A, .int .i64 B] 32)) HW.out)
  have HQ := Lib.hid (heap_alloc_new w1 (.cells #[.int .i64 A, .int .i64 B] 32))
  have HZ : Hid ((w1.alloc (.cells #[.int .i64 A, .int .i64 B] 32)).heap.size = w1.heap.size + 1) := by show _ = _; simp
  generalize w1.alloc (.cells #[.int .i64 A, .int .i64 B] 32) = w2 at *
  have HO : Hid ((w2.alloc (.cells #[.int .i64 s] 3)).ownsRow w2.heap.size 3 1 (.slice (some ⟨w1.heap.size + 1, 0, none⟩) 1 1) ([s] ++ endsL (l.take 0)).length (([s] ++ endsL (l.take 0)).map (Value.int .i64))) := by
    have := World.ownsRow_lit (base := w2.heap.size) (e := 3) (size := 1) w2 #[.int .i64 s] 1 (Nat.le_refl _) (by decide) rfl
    rw [HZ.out] at this ⊢
    exact this
  have HB2 := Lib.hid (alloc_below w2 (.cells #[.int .i64 s] 3))
  generalize w2.alloc (.cells #[.int .i64 s] 3) = w3 at *
  generalize hv7 : Value.slice (some ⟨w1.heap.size + 1, 0, none⟩) 1 1 = v7 at *
  clear hv7
  go_loopw [7, 8] (fun u i wr => ∃ k : Nat, k ≤ n ∧ i = .int .i64 k ∧ wr.ownsRow w2.heap.size 3 1 u ([s] ++ endsL (l.take k)).length (([s] ++ endsL (l.take k)).map (Value.int .i64)) ∧ Below w2.heap.size w2 wr) (fun _ i _ => n - (intOf i).toNat)
  case atStart => exact ⟨0, Nat.zero_le _, rfl, HO.out, HB2.out⟩
  case round =>
    obtain ⟨k, hk, rfl, ho, hB⟩ := hrel
    have HO := Lib.hid ho
    have HB := Lib.hid hB
    clear ho hB
    by_cases hlt : k < n
    · have hlt' : (k : Int) < n := by omega
      have hkl : k < l.length := by have := HN.out; omega
      obtain ⟨g, o, rfl, c0, c1⟩ := ((HI.out.via HW.out).via HB.out).get hkl
      have hgl : g < w2.heap.size := by
        obtain ⟨g', o', hh, c0', _⟩ := (HI.out.via HW.out).get hkl
        cases hh
        exact lt_of_cell c0'
      have HT : Hid (([s] ++ endsL (l.take (k + 1))) = ([s] ++ endsL (l.take k)) ++ [(l.getD k default).1, (l.getD k default).2]) := by show _ = _; rw [endsL_take hkl, List.append_assoc]
      have HLL : Hid (([s] ++ endsL (l.take k)).length ≤ 100) := by show _ ≤ _; rw [List.length_append, endsL_len, List.length_take]; simp; omega
      obtain ⟨L, hL⟩ : ∃ L, [s] ++ endsL (l.take k) = L := ⟨_, rfl⟩
      rw [hL] at HT HLL HO
      clear hkl hL
      generalize l.getD k default = r at *
      obtain ⟨x, y⟩ := r
      dsimp only at c0 c1
      obtain ⟨i0, hj, hz0, hz1, hz2⟩ := info_parts info_int
      have HJ0 := Lib.hid hj
      have HZ0 := Lib.hid hz0
      have HZ1 := Lib.hid hz1
      have HZ2 := Lib.hid hz2
      have HR1 : Hid (L.length + 2 ≤ maxLen) := by show _ ≤ _; unfold maxLen; have := HLL.out; omega
      have HR2 : Hid ((L.length + 2) * 8 ≤ 140737488355328) := by show _ ≤ _; have := HLL.out; omega
      have HR3 : Hid (w2.heap.size ≤ (wr.drew.alloc (.cells #[.int .i64 x, .int .i64 y] 3)).heap.size) := by show _ ≤ _; have := HB.out.size; simp; omega
      clear hj hz0 hz1 hz2
      have HOD := Lib.hid (HO.out.drew.alloc (.cells #[.int .i64 x, .int .i64 y] 3))
      have hwr : w2.heap.size ≤ wr.heap.size := HB.out.size
      go_wp2_with fail
      go_region_held3 (fun w' => w'.cell? ⟨g, o + k * 2, none⟩ = some (.int .i64 x) ∧ w'.cell? ⟨g, o + k * 2 + 1, none⟩ = some (.int .i64 y) ∧ Below w2.heap.size w2 w')
        (first | exact ⟨c0, c1, HB.out.drew⟩ | exact s3Ends (by assumption) (alloc_below _ _) | exact s3Grown (w := wr.drew.alloc (.cells #[.int .i64 x, .int .i64 y] 3)) ⟨cellA (W := wr.drew) _ c0, cellA (W := wr.drew) _ c1, HB.out.drew.alloc hwr _⟩ HOD.out hgrow3 hgl (Nat.le_refl _)) (first
        | (refine step_append_own rfl _ _ 25 rfl w2.heap.size 3 i0 (.int .i64 0) 1 8 Try.underlying25 HJ0.out HZ0.out HZ1.out HZ2.out rfl (by decide) u7 L.length (L.map (Value.int .i64)) (by rfl) HOD.out ⟨wr.heap.size, 0, none⟩ 2 2 [.int .i64 x, .int .i64 y] (by rfl) rfl (news_two _ _ _ _ rfl) (one_two _ _) HR1.out HR2.out HR3.out (fun v' w4 hown3 hgrow3 => ?_)))
      all_goals
        have HN4 : Hid (w4.ownsRow w2.heap.size 3 1 v' (L ++ [x, y]).length ((L ++ [x, y]).map (Value.int .i64))) := by
          show World.ownsRow _ _ _ _ _ _ _
          rw [List.length_append, List.map_append]
          exact hown3
        have HB4 : Hid (Below w2.heap.size w2 w4) := And.right (And.right (by assumption))
        clear hown3 hgrow3
        go_wp2_with fail
        go_roundw
        case rel => exact ⟨k + 1, by omega, by go_num, by rw [HT.out]; exact HN4.out, HB4.out⟩
        case measure => simp [intOf]; omega
    · obtain rfl : k = n := by omega
      have HTK : Hid (l.take k = l) := List.take_of_length_le (by have := HN.out; omega)
      rw [HTK.out] at HO
      obtain ⟨a7, c7, rfl, hc7, hcb7, hn7⟩ := ints_at HO.out
      have HL := Lib.hid hn7
      have HLB : Hid (([s] ++ endsL l).length ≤ 100) := by show _ ≤ _; rw [List.length_append, endsL_len]; simp; have := HN.out; omega
      obtain ⟨L, hL⟩ : ∃ L, [s] ++ endsL l = L := ⟨_, rfl⟩
      rw [hL] at HL HLB hc7 ⊢
      have HWR := Lib.hid (belowVia HB.out HW.out)
      have HQR := Lib.hid (heap_below HB.out HQ.out)
      clear hL hn7 HO HTK hlt hk
      by_cases hK : K = 0
      · obtain ⟨rfl, rfl⟩ := HAG.out.none hK
        subst hK
        have HNO : Hid (∀ p ∈ l, ¬ p.1 < p.2) := by
          show ∀ p ∈ l, _
          intro p hp hlt2
          have h1 := HAG.out.most p.1
          have h2 : ∀ l : List Sp, p ∈ l → 1 ≤ cnt p.1 l := by
            intro l
            induction l with
            | nil => intro h; simp at h
            | cons q l ih =>
              intro h
              rw [cnt]
              have := (cnt_bounds p.1 l).1
              rcases List.mem_cons.1 h with e | e
              · subst e
                have : inSp p.1 p = true := by simp [inSp, hlt2]
                rw [this]; simp; omega
              · have := ih e
                split <;> omega
          have := h2 l hp
          omega
        go_wp2_with fail
        go_loopw [9] (fun i wx => ∃ j : Nat, j ≤ k ∧ i = .int .i64 j ∧ Below wr.heap.size wr wx) (fun i _ => k - (intOf i).toNat)
        case atStart => exact ⟨0, Nat.zero_le _, rfl, Below.refl _ _⟩
        case round =>
          obtain ⟨j, hj, rfl, hB⟩ := hrel
          have HB := Lib.hid hB
          clear hB
          by_cases hlt : j < k
          · have hlt' : (j : Int) < k := by omega
            have hkl : j < l.length := by have := HN.out; omega
            obtain ⟨g, o, rfl, c0, c1⟩ := ((HI.out.via HWR.out).via HB.out).get hkl
            have hno := HNO.out _ (sps_mem hkl)
            clear hkl
            generalize l.getD j default = r at *
            obtain ⟨x, y⟩ := r
            dsimp only at c0 c1 hno
            have hno' : y ≤ x := by omega
            clear hno
            go_wp2_with fail
            go_quiet (fail)
            go_wp2_with fail
            go_roundw
            case rel => exact ⟨j + 1, by omega, by go_num, below_drewN HB.out _⟩
            case measure => simp [intOf]; omega
          · obtain rfl : j = k := by omega
            have q0 := (cell_of_row _ w1.heap.size 0 _ _ _ (heap_below HB.out HQR.out)).trans (by rfl : _ = some (.int .i64 0))
            have q1 := (cell_of_row _ w1.heap.size 1 _ _ _ (heap_below HB.out HQR.out)).trans (by rfl : _ = some (.int .i64 0))
            go_wp2_with fail
            go_ret
            exact ⟨rfl, belowVia HB.out HWR.out⟩
      · have k0 : 0 ≤ K := HAG.out.k0
        have kb : (K == 0) = false := by rw [beq_eq_false_iff_ne]; exact hK
        have kn : ¬ K < 0 := by omega
        have hab : A < B := HAG.out.lt hK
        have q0 := (cell_of_row _ w1.heap.size 0 _ _ _ HQR.out).trans (by rfl : _ = some (.int .i64 A))
        have q1 := (cell_of_row _ w1.heap.size 1 _ _ _ HQR.out).trans (by rfl : _ = some (.int .i64 B))
        have HI1 := Lib.hid (HIN.out A)
        rw [HAG.out.run hK A (Int.le_refl _) hab] at HI1
        have HI2 := Lib.hid (HIN.out B)
        have hstop := HAG.out.stop hK
        generalize cnt B l = cb at *
        have kk : (K != K) = false := by simp
        have HK := Lib.hid hK
        clear hK
        go_wp2_with fail
        refine (HI1.out _ HWR.out).mono ?_
        rintro e w5 ⟨rfl, rfl⟩
        go_wp2_with fail
        refine (HI2.out _ HWR.out).mono ?_
        rintro e w5 ⟨rfl, rfl⟩
        go_wp2_with fail
        clear q0 q1 kk hstop HI1 HI2 kb kn
        go_loopw [10] (fun i wx => ∃ j : Nat, j ≤ L.length ∧ i = .int .i64 j ∧ Below wr.heap.size wr wx) (fun i _ => L.length - (intOf i).toNat)
        case atStart => exact ⟨0, Nat.zero_le _, rfl, Below.refl _ _⟩
        case round =>
          obtain ⟨j, hj, rfl, hB⟩ := hrel
          have HB := Lib.hid hB
          clear hB
          have hLb := HLB.out
          by_cases hlt : j < L.length
          · have hlt' : (j : Int) < L.length := by omega
            obtain ⟨g, o, rfl, c0⟩ := (HL.out.via HB.out).get hlt
            have q0 := (cell_of_row _ w1.heap.size 0 _ _ _ (heap_below HB.out HQR.out)).trans (by rfl : _ = some (.int .i64 A))
            have q1 := (cell_of_row _ w1.heap.size 1 _ _ _ (heap_below HB.out HQR.out)).trans (by rfl : _ = some (.int .i64 B))
            have HX := Lib.hid (HIN.out (L.getD j 0))
            have m1 := HAG.out.most (L.getD j 0)
            have m2 := HAG.out.first HK.out (L.getD j 0)
            have m3 := HAG.out.run HK.out (L.getD j 0)
            have hjl : (j : Int) < 100 := by omega
            generalize L.getD j 0 = x at *
            generalize cnt x l = cx at *
            have d2 : decide (K < cx) = false := by simpa using m1
            by_cases h1 : x < A
            · have hc := m2 h1
              have hcb : (cx == K) = false := by rw [beq_eq_false_iff_ne]; omega
              have d1 : decide (A ≤ x) = false := by simpa using h1
              clear m2 m3
              go_wp2_with fail
              refine (HX.out _ (belowVia HB.out HWR.out)).mono ?_
              rintro e w6 ⟨rfl, rfl⟩
              go_wp2_with fail
              go_quiet (fail)
              go_wp2_with fail
              go_quiet (fail)
              go_wp2_with fail
              go_roundw
              case rel => exact ⟨j + 1, by omega, by go_num, by first | exact below_drewN HB.out _ | exact (below_drewN HB.out _).drew | exact below_drewN (below_drewN HB.out _) _⟩
              case measure => simp [intOf]; omega
            · have h1' : A ≤ x := by omega
              have d3 : decide (x < A) = false := by simpa using h1'
              by_cases h2 : x < B
              · have hc := m3 h1' h2
                have hcb : (cx != K) = false := by rw [hc]; simp
                clear m2 m3 h1 hc
                go_wp2_with fail
                refine (HX.out _ (belowVia HB.out HWR.out)).mono ?_
                rintro e w6 ⟨rfl, rfl⟩
                go_wp2_with fail
                go_quiet (fail)
                go_wp2_with fail
                go_quiet (fail)
                go_wp2_with fail
                go_roundw
                case rel => exact ⟨j + 1, by omega, by go_num, by first | exact below_drewN HB.out _ | exact (below_drewN HB.out _).drew | exact below_drewN (below_drewN HB.out _) _⟩
                case measure => simp [intOf]; omega
              · have h2' : B ≤ x := by omega
                have d4 : decide (x < B) = false := by simpa using h2'
                clear m2 m3 h1 h2
                go_wp2_with fail
                refine (HX.out _ (belowVia HB.out HWR.out)).mono ?_
                rintro e w6 ⟨rfl, rfl⟩
                go_wp2_with fail
                go_quiet (fail)
                go_wp2_with fail
                go_quiet (fail)
                go_wp2_with fail
                go_roundw
                case rel => exact ⟨j + 1, by omega, by go_num, by first | exact below_drewN HB.out _ | exact (below_drewN HB.out _).drew | exact below_drewN (below_drewN HB.out _) _⟩
                case measure => simp [intOf]; omega
          · obtain rfl : j = L.length := by omega
            go_wp2_with fail
            go_ret
            exact ⟨rfl, belowVia HB.out HWR.out⟩
end Go.Proofs.Ytebhalcoemkomaa
