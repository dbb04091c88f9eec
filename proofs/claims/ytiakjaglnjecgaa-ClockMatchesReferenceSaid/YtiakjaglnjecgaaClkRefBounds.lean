/- The reference's bounds. -/
import Derived.Test.YtiakjaglnjecgaaClkRefSpread
import Derived.Test.YtiakjaglnjecgaaClkValid
namespace Go.Proofs.Ytiakjaglnjecgaa
open Go.RowKit Putlog

theorem winF_take {d l : Int} {rs : List Rd} {k : Nat} (h : k < rs.length) : winF d l (rs.take (k + 1)) = max (winF d l (rs.take k)) (bndF d l (rs.getD k default)) := by rw [rds_take h, winF_snoc]
theorem winG_take {d l : Int} {rs : List Rd} {k : Nat} (h : k < rs.length) : winG d l (rs.take (k + 1)) = min (winG d l (rs.take k)) (bndG d l (rs.getD k default)) := by rw [rds_take h, winG_snoc]
theorem winF_most {d l m : Int} {rs : List Rd} (h0 : 0 ≤ m) (h : ∀ r ∈ rs, bndF d l r ≤ m) : winF d l rs ≤ m := winF_le.2 ⟨h0, h⟩
theorem le_winG' {d l m : Int} {rs : List Rd} (h0 : m ≤ 10000000) (h : ∀ r ∈ rs, m ≤ bndG d l r) : m ≤ winG d l rs := le_winG.2 ⟨h0, h⟩
/-- What bounds calls, and what it is, for one reading. -/
structure BndF (d l x y z : Int) (f g : Int) : Prop where
  f0 : -40000000 ≤ f ∧ f ≤ 40000000
  g0 : -40000000 ≤ g ∧ g ≤ 40000000
  eq : l = x → f = y - hiS d 0 ∧ g = z + hiS d 0
  gt : x < l → f = y + loS d (l - x) ∧ g = z + hiS d (l - x)
  lt : l < x → f = y - hiS d (x - l) ∧ g = z - loS d (x - l)
theorem bnd_facts {d l x y z : Int} (h0 : 0 ≤ d) (h1 : d ≤ 100) (l0 : 0 ≤ l) (l1 : l ≤ 10000000) (x0 : 0 ≤ x) (x1 : x ≤ 10000000) (y0 : 0 ≤ y) (yz : y ≤ z) (z1 : z ≤ 10000000) : BndF d l x y z (bndF d l (x, y, z)) (bndG d l (x, y, z)) := by
  have key : ∀ n, 0 ≤ n → n ≤ 10000000 → 0 ≤ loS d n ∧ loS d n ≤ 10000000 ∧ 0 ≤ hiS d n ∧ hiS d n ≤ 20000001 := fun n n0 n1 => by
    have := loS_nonneg h0 n0; have := loS_upto h0 n0; have := hiS_upto (d := d) h1 n0; have := hiS_nonneg h1 n0; omega
  have k0 := key 0 (by omega) (by omega)
  unfold bndF bndG
  dsimp only
  by_cases a : x < l
  · have k1 := key (l - x) (by omega) (by omega)
    rw [if_pos a, if_pos a]
    exact ⟨by omega, by omega, fun e => by omega, fun _ => ⟨rfl, rfl⟩, fun e => by omega⟩
  · by_cases b : l < x
    · have k1 := key (x - l) (by omega) (by omega)
      rw [if_neg a, if_neg a, if_pos b, if_pos b]
      exact ⟨by omega, by omega, fun e => by omega, fun e => by omega, fun _ => ⟨rfl, rfl⟩⟩
    · rw [if_neg a, if_neg a, if_neg b, if_neg b]
      exact ⟨by omega, by omega, fun _ => ⟨rfl, rfl⟩, fun e => by omega, fun e => by omega⟩
set_option maxRecDepth 100000 in
set_option maxHeartbeats 2000000 in
theorem rbounds_ok (d l : Int) (rs : List Rd) (v : Value) (w : World) (h : RdsAt w v rs) (hv : validC d rs = true) (l0 : 0 ≤ l) (l1 : l ≤ 10000000) :
    Calls Try.prog 30 #[.agg #[.int .i64 d, v], .int .i64 l] w fun e w' => e = .returned (.tuple #[.int .i64 (winF d l rs), .int .i64 (winG d l rs)]) ∧ Below w.heap.size w w' := by
  obtain ⟨hd0, hd1, hl12, hok⟩ := validC_iff.1 hv
  have HMEM := Lib.hid (fun r hr => okR_mem (Int.le_refl _) hok r hr)
  have HSP := Lib.hid (fun n (n0 : 0 ≤ n) (n1 : n ≤ 10000000) w => rspread_ok d n w hd0 hd1 n0 n1)
  have HSB := Lib.hid (fun n (n0 : 0 ≤ n) (n1 : n ≤ 10000000) => (show 0 ≤ loS d n ∧ loS d n ≤ 10000000 ∧ 0 ≤ hiS d n ∧ hiS d n ≤ 20000001 by
    have := loS_nonneg hd0 n0; have := loS_upto hd0 n0; have := hiS_upto (d := d) hd1 n0; have := hiS_nonneg hd1 n0; omega))
  have HBF := Lib.hid (fun x y z x0 x1 y0 yz z1 => bnd_facts (d := d) (l := l) (x := x) (y := y) (z := z) hd0 hd1 l0 l1 x0 x1 y0 yz z1)
  obtain ⟨⟨a, c, rfl, hc, hcb, hin⟩, _⟩ := h
  obtain ⟨n, hn⟩ : ∃ n, n = rs.length := ⟨_, rfl⟩
  have HI := Lib.hid (hin.via (alloc_below w (.cells #[.int .i64 d, .slice a rs.length c] 24)))
  have HX := Lib.hid (heap_alloc_new w (.cells #[.int .i64 d, .slice a rs.length c] 24))
  have HW := Lib.hid (alloc_below w (.cells #[.int .i64 d, .slice a rs.length c] 24))
  rw [← hn] at hc hl12 HI HX HW ⊢
  have HN := Lib.hid hn
  have hnb : (n : Int) ≤ 12 := by omega
  clear hin hok hn hv hl12 hc hcb
  go_enter Try.func30, Try.ntmps30
  go_wp2_with fail
  generalize w.alloc (.cells #[.int .i64 d, .slice a n c] 24) = W1 at *
  generalize hpb : w.heap.size = pb at HX ⊢
  go_loopw [6, 7, 8] (fun lo hi i wr => ∃ k : Nat, k ≤ n ∧ i = .int .i64 k ∧ lo = .int .i64 (winF d l (rs.take k)) ∧ hi = .int .i64 (winG d l (rs.take k)) ∧ (winF d l (rs.take k) ≤ 40000000 ∧ -40000000 ≤ winG d l (rs.take k)) ∧ Below W1.heap.size W1 wr) (fun lo hi i _ => 12 - (intOf i).toNat)
  case atStart => exact ⟨0, Nat.zero_le _, rfl, rfl, rfl, ⟨by show (0 : Int) ≤ 40000000; decide, by show (-40000000 : Int) ≤ 10000000; decide⟩, Below.refl _ _⟩
  case round =>
    obtain ⟨k, hk, rfl, rfl, rfl, ⟨hf1, hg1⟩, hB⟩ := hrel
    have HB := Lib.hid hB
    clear hB
    have hX := heap_below HB.out HX.out
    have b0 := (cell_of_row _ _ 0 _ _ _ hX).trans (by rfl : _ = some (.int .i64 d))
    have b1 := (cell_of_row _ _ 1 _ _ _ hX).trans (by rfl : _ = some (.slice a n c))
    have blt := lt_of_cell b0
    clear hX
    have hf0 : 0 ≤ winF d l (rs.take k) := winF_nonneg
    have hg0 : winG d l (rs.take k) ≤ 10000000 := winG_upto
    by_cases hlt : k < n
    · have hlt' : (k : Int) < n := by omega
      have hkl : k < rs.length := by have := HN.out; omega
      obtain ⟨g, o, rfl, t0, t1, t2⟩ := (HI.out.via HB.out).get hkl
      have HT1 := Lib.hid (winF_take (d := d) (l := l) hkl)
      have HT2 := Lib.hid (winG_take (d := d) (l := l) hkl)
      obtain ⟨r0, r1, r2, r3, r4⟩ := HMEM.out _ (rds_mem hkl)
      clear hkl
      generalize rs.getD k default = r at *
      generalize winF d l (rs.take k) = F at *
      generalize winG d l (rs.take k) = G at *
      obtain ⟨x, y, z⟩ := r
      dsimp only at t0 t1 t2 r0 r1 r2 r3 r4
      have hbf := HBF.out x y z (by omega) r1 r2 r3 r4
      generalize bndF d l (x, y, z) = f at *
      generalize bndG d l (x, y, z) = gg at *
      obtain ⟨⟨p0, p1⟩, ⟨p2, p3⟩, heq, hgt, hlt2⟩ := hbf
      rcases (show l = x ∨ x < l ∨ l < x by omega) with e | e | e
      · obtain ⟨v1, v2⟩ := heq e
        obtain ⟨s0, s1, s2, s3⟩ := HSB.out 0 (by omega) (by omega)
        have HC := Lib.hid (HSP.out 0 (by omega) (by omega))
        clear heq hgt hlt2
        generalize loS d 0 = lo0 at *
        generalize hiS d 0 = hi0 at *
        subst e
        go_wp2_with fail
        refine (HC.out _).mono ?_
        rintro e w1 ⟨rfl, rfl⟩
        go_wp2_with fail
        all_goals
          go_roundw
          case rel => exact ⟨k + 1, by omega, by go_num, by rw [HT1.out]; congr 1; first | omega | (split <;> omega), by rw [HT2.out]; congr 1; first | omega | (split <;> omega), ⟨by rw [HT1.out]; omega, by rw [HT2.out]; omega⟩, HB.out.alloc HB.out.size _⟩
          case measure => simp [intOf]; omega
      · obtain ⟨v1, v2⟩ := hgt e
        obtain ⟨s0, s1, s2, s3⟩ := HSB.out (l - x) (by omega) (by omega)
        have HC := Lib.hid (HSP.out (l - x) (by omega) (by omega))
        have ne : (l == x) = false := by rw [beq_eq_false_iff_ne]; omega
        clear heq hgt hlt2
        generalize loS d (l - x) = lo0 at *
        generalize hiS d (l - x) = hi0 at *
        go_wp2_with fail
        refine (HC.out _).mono ?_
        rintro e w1 ⟨rfl, rfl⟩
        go_wp2_with fail
        all_goals
          go_roundw
          case rel => exact ⟨k + 1, by omega, by go_num, by rw [HT1.out]; congr 1; first | omega | (split <;> omega), by rw [HT2.out]; congr 1; first | omega | (split <;> omega), ⟨by rw [HT1.out]; omega, by rw [HT2.out]; omega⟩, HB.out.alloc HB.out.size _⟩
          case measure => simp [intOf]; omega
      · obtain ⟨v1, v2⟩ := hlt2 e
        obtain ⟨s0, s1, s2, s3⟩ := HSB.out (x - l) (by omega) (by omega)
        have HC := Lib.hid (HSP.out (x - l) (by omega) (by omega))
        have ne : (l == x) = false := by rw [beq_eq_false_iff_ne]; omega
        clear heq hgt hlt2
        generalize loS d (x - l) = lo0 at *
        generalize hiS d (x - l) = hi0 at *
        go_wp2_with fail
        refine (HC.out _).mono ?_
        rintro e w1 ⟨rfl, rfl⟩
        go_wp2_with fail
        all_goals
          go_roundw
          case rel => exact ⟨k + 1, by omega, by go_num, by rw [HT1.out]; congr 1; first | omega | (split <;> omega), by rw [HT2.out]; congr 1; first | omega | (split <;> omega), ⟨by rw [HT1.out]; omega, by rw [HT2.out]; omega⟩, HB.out.alloc HB.out.size _⟩
          case measure => simp [intOf]; omega
    · obtain rfl : k = n := by omega
      go_wp2_with fail
      go_ret2
      exact ⟨ret_ii (by rw [List.take_of_length_le (by have := HN.out; omega)]) (by rw [List.take_of_length_le (by have := HN.out; omega)]), belowVia HB.out HW.out⟩
end Go.Proofs.Ytiakjaglnjecgaa
