/- What the laws about a made clock need: contracts for the local second that its course shows. -/
import Derived.Test.YtiakjaglnjecgaaClkSane
import Derived.Test.YtiakjaglnjecgaaClkMade
namespace Go.Proofs.Ytiakjaglnjecgaa
open Go.RowKit Putlog

theorem ClockAt.new {w : World} {d : Int} {v : Value} {rs : List Rd} (h : RdsAt w v rs) : ClockAt d v rs w.heap.size (w.alloc (.cells #[.int .i64 d, v] 24)) :=
  ⟨cell_rowN w #[.int .i64 d, v] _ 0 rfl, cell_rowN w #[.int .i64 d, v] _ 1 rfl, h.via (alloc_below _ _)⟩
/-- Whether a second lies before the window, or behind it. -/
theorem sides {F T G : Int} (h1 : F ≤ T) (h2 : T ≤ G) (o : Int) : (decide (G < o) = true ∧ decide (o < F) = false ∧ T < o) ∨ (decide (G < o) = false ∧ decide (o < F) = true ∧ o < T) ∨ (decide (G < o) = false ∧ decide (o < F) = false ∧ True) := by
  by_cases a : G < o
  · exact .inl ⟨by simpa using a, by simp; omega, by omega⟩
  · by_cases b : o < F
    · exact .inr (.inl ⟨by simpa using a, by simpa using b, by omega⟩)
    · exact .inr (.inr ⟨by simpa using a, by simpa using b, trivial⟩)
/-- Made's clock, in a bundle. -/
structure MadeF (d L T F G a b : Int) (v : Value) (rs : List Rd) : Prop where
  d0 : 0 ≤ d
  d1 : d ≤ 100
  l0 : 0 ≤ L
  l1 : L ≤ 10000000
  lo : F ≤ T
  hi : T ≤ G
  le : a ≤ L
  lt : L < b
  b1 : b ≤ 10000001
  a0 : 0 ≤ a
  f0 : 0 ≤ F
  g1 : G ≤ 10000000
  valid : ∀ w, RdsAt w v rs → Calls Try.prog 11 #[.agg #[.int .i64 d, v]] w fun e w' => e = .returned (.bool true) ∧ Below w.heap.size w w'
  at_ : ∀ w, RdsAt w v rs → Calls Try.prog 14 #[.agg #[.int .i64 d, v], .int .i64 L] w fun e w' => e = .returned (.tuple #[.int .i64 F, .int .i64 G, .int .i64 0]) ∧ Below w.heap.size w w'
  reads : ∀ w, RdsAt w v rs → Calls Try.prog 16 #[.agg #[.int .i64 d, v], .int .i64 T] w fun e w' => e = .returned (.tuple #[.int .i64 a, .int .i64 (b - 1), .int .i64 0]) ∧ Below w.heap.size w w'
  before : ∀ o w, RdsAt w v rs → Calls Try.prog 18 #[.agg #[.int .i64 d, v], .int .i64 L, .int .i64 o] w fun e w' => e = .returned (.bool (decide (G < o))) ∧ Below w.heap.size w w'
  after : ∀ o w, RdsAt w v rs → Calls Try.prog 20 #[.agg #[.int .i64 d, v], .int .i64 L, .int .i64 o] w fun e w' => e = .returned (.bool (decide (o < F))) ∧ Below w.heap.size w w'
/-- The searches' places exist. -/
theorem first_ex (p : Int → Prop) (hm : ∀ l m, l ≤ m → p l → p m) (n : Nat) : ∃ r, FirstI p n r := by
  induction n with
  | zero => exact ⟨0, Int.le_refl _, by omega, fun l h1 h2 => by omega, fun l h1 h2 => by omega⟩
  | succ n ih =>
    obtain ⟨r, h1, h2, h3, h4⟩ := ih
    by_cases hr : r < n
    · refine ⟨r, h1, by omega, h3, fun l hl1 hl2 => ?_⟩
      by_cases hl : l < n
      · exact h4 l hl1 hl
      · exact hm r l hl1 (h4 r (Int.le_refl _) hr)
    · by_cases hp : p n
      · refine ⟨n, by omega, by omega, fun l hl1 hl2 => h3 l hl1 (by omega), fun l hl1 hl2 => ?_⟩
        obtain rfl : l = n := by omega
        exact hp
      · refine ⟨n + 1, by omega, by omega, fun l hl1 hl2 => ?_, fun l hl1 hl2 => by omega⟩
        by_cases hl : l < n
        · exact h3 l hl1 (by omega)
        · obtain rfl : l = n := by omega
          exact hp
theorem reads_ex {d : Int} (h0 : 0 ≤ d) (h1 : d ≤ 100) (rs : List Rd) (t : Int) : ∃ a b, ReadsIs d rs t a b := by
  obtain ⟨a, ha⟩ := first_ex (fun l => t ≤ winG d l rs) (fun l m h hp => Int.le_trans hp (winG_mono h0 h1 h rs)) 10000001
  obtain ⟨b, hb⟩ := first_ex (fun l => t < winF d l rs) (fun l m h hp => Int.lt_of_lt_of_le hp (winF_mono h0 h1 h rs)) 10000001
  exact ⟨a, b, ha, hb⟩
theorem made_facts {d s T : Int} {rates : List Int} {rs : List Rd} (h : MadeOf d s rates rs) (hs0 : 0 ≤ s) (hs1 : s < 1000) (hT0 : 0 ≤ T) (hT1 : T ≤ 5000) (v : Value) :
    ∃ a b, MadeF d (shownC d s rates T) T (winF d (shownC d s rates T) rs) (winG d (shownC d s rates T) rs) a b v rs ∧ ReadsIs d rs T a b := by
  obtain ⟨l0, l1⟩ := shownC_bounds h.d0 h.d1 hs0 hs1 rates hT0
  obtain ⟨s1, s2⟩ := h.sound hT0 (by omega)
  generalize shownC d s rates T = L at *
  have hok : atOk d rs L = true := atOk_iff.2 ⟨h.valid, l0, by omega, by omega⟩
  obtain ⟨a, b, hr⟩ := reads_ex h.d0 h.d1 rs T
  obtain ⟨m1, m2⟩ := (hr.mem l0 (by omega)).2 ⟨s1, s2⟩
  refine ⟨a, b, ⟨h.d0, h.d1, l0, by omega, s1, s2, m1, m2, hr.beyond.2.1, hr.least.1, winF_nonneg, winG_upto, fun w hw => ?_, fun w hw => at_ok d L rs v w hw hok, fun w hw => ?_, fun o w hw => ?_, fun o w hw => ?_⟩, hr⟩
  · have := valid_any d rs v w hw
    rwa [h.valid] at this
  · refine (reads_ok d T rs v w hw h.valid hT0 (by omega)).mono ?_
    rintro e w' ⟨⟨a', b', hi, he⟩, hB⟩
    obtain rfl := hi.least.uniq hr.least
    obtain rfl := hi.beyond.uniq hr.beyond
    rcases he with ⟨_, he⟩ | ⟨hl, _⟩
    · exact ⟨he, hB⟩
    · omega
  · have := before_any d L o rs v w hw
    rwa [show beforeB d rs L o = decide (winG d L rs < o) by unfold beforeB; rw [hok]; rfl] at this
  · have := after_any d L o rs v w hw
    rwa [show afterB d rs L o = decide (o < winF d L rs) by unfold afterB; rw [hok]; rfl] at this
end Go.Proofs.Ytiakjaglnjecgaa
