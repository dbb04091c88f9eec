/- The code and the reference answer alike: for the walk of ClockMatchesReference. -/
import Derived.Test.YtiakjaglnjecgaaClkRefReads
import Derived.Test.YtiakjaglnjecgaaClkSoundP
namespace Go.Proofs.Ytiakjaglnjecgaa
open Go.RowKit Putlog

theorem firstI_exists (p : Int → Prop) (hm : ∀ l m, l ≤ m → p l → p m) : ∀ n : Nat, ∃ r, FirstI p n r
  | 0 => ⟨0, by omega, by omega, fun l h1 h2 => by omega, fun l h1 h2 => by omega⟩
  | n + 1 => by
    obtain ⟨r, h0, h1, h2, h3⟩ := firstI_exists p hm n
    rcases Int.lt_or_eq_of_le h1 with k | k
    · exact ⟨r, h0, by omega, h2, fun l a b => hm r l a (h3 r (Int.le_refl _) k)⟩
    · by_cases hp : p n
      · exact ⟨r, h0, by omega, h2, fun l a b => hm n l (by omega) hp⟩
      · refine ⟨r + 1, by omega, by omega, fun l a b => ?_, fun l a b => by omega⟩
        rcases Int.lt_or_le l r with u | u
        · exact h2 l a u
        · rw [show l = n by omega]; exact hp
theorem ReadsE.uniq {d t : Int} {rs : List Rd} {e f : Ending} (h : ReadsE d rs t e) (k : ReadsE d rs t f) : e = f := by
  obtain ⟨a, b, h1, h2⟩ := h
  obtain ⟨a', b', k1, k2⟩ := k
  obtain rfl := FirstI.uniq h1.1 k1.1
  obtain rfl := FirstI.uniq h1.2 k1.2
  rcases h2 with ⟨h2, rfl⟩ | ⟨h2, rfl⟩ <;> rcases k2 with ⟨k2, rfl⟩ | ⟨k2, rfl⟩ <;> first | rfl | (exfalso; omega)
/-- Three numbers that both answer. -/
theorem both_at (d l : Int) (rs : List Rd) : ∃ f g e : Int, ∀ v w, RdsAt w v rs →
    (Calls Try.prog 14 #[.agg #[.int .i64 d, v], .int .i64 l] w fun r w' => r = .returned (.tuple #[.int .i64 f, .int .i64 g, .int .i64 e]) ∧ Below w.heap.size w w') ∧
    (Calls Try.prog 15 #[.agg #[.int .i64 d, v], .int .i64 l] w fun r w' => r = .returned (.tuple #[.int .i64 f, .int .i64 g, .int .i64 e]) ∧ Below w.heap.size w w') := by
  cases hok : atOk d rs l with
  | true => exact ⟨_, _, _, fun v w h => ⟨at_ok d l rs v w h hok, rat_ok d l rs v w h hok⟩⟩
  | false => exact ⟨_, _, _, fun v w h => ⟨at_no d l rs v w h hok, rat_no d l rs v w h hok⟩⟩
theorem both_reads (d t : Int) (rs : List Rd) : ∃ f g e : Int, ∀ v w, RdsAt w v rs →
    (Calls Try.prog 16 #[.agg #[.int .i64 d, v], .int .i64 t] w fun r w' => r = .returned (.tuple #[.int .i64 f, .int .i64 g, .int .i64 e]) ∧ Below w.heap.size w w') ∧
    (Calls Try.prog 17 #[.agg #[.int .i64 d, v], .int .i64 t] w fun r w' => r = .returned (.tuple #[.int .i64 f, .int .i64 g, .int .i64 e]) ∧ Below w.heap.size w w') := by
  by_cases hv : validC d rs = true ∧ 0 ≤ t ∧ t ≤ 10000000
  · obtain ⟨hv, t0, t1⟩ := hv
    obtain ⟨hd0, hd1, _, _⟩ := validC_iff.1 hv
    obtain ⟨a, ha⟩ := firstI_exists (fun l => t ≤ winG d l rs) (fun l m hlm hp => Int.le_trans hp (winG_mono hd0 hd1 hlm rs)) 10000001
    obtain ⟨b, hb⟩ := firstI_exists (fun l => t < winF d l rs) (fun l m hlm hp => Int.lt_of_lt_of_le hp (winF_mono hd0 hd1 hlm rs)) 10000001
    by_cases hab : a < b
    · have hE : ReadsE d rs t (.returned (.tuple #[.int .i64 a, .int .i64 (b - 1), .int .i64 0])) := ⟨a, b, ⟨ha, hb⟩, .inl ⟨hab, rfl⟩⟩
      exact ⟨a, b - 1, 0, fun v w h => ⟨(reads_ok d t rs v w h hv t0 t1).mono fun r w' hr => ⟨hr.1.uniq hE, hr.2⟩, (rreads_ok d t rs v w h hv t0 t1).mono fun r w' hr => ⟨hr.1.uniq hE, hr.2⟩⟩⟩
    · have hE : ReadsE d rs t (.returned (.tuple #[.int .i64 0, .int .i64 0, .int .i64 50])) := ⟨a, b, ⟨ha, hb⟩, .inr ⟨by omega, rfl⟩⟩
      exact ⟨0, 0, 50, fun v w h => ⟨(reads_ok d t rs v w h hv t0 t1).mono fun r w' hr => ⟨hr.1.uniq hE, hr.2⟩, (rreads_ok d t rs v w h hv t0 t1).mono fun r w' hr => ⟨hr.1.uniq hE, hr.2⟩⟩⟩
  · exact ⟨0, 0, 50, fun v w h => ⟨reads_no d t rs v w h hv, rreads_no d t rs v w h hv⟩⟩
theorem both_spread (d n : Int) : ∃ f g : Int, ∀ w,
    (Calls Try.prog 5 #[.int .i64 d, .int .i64 n] w fun r w' => r = .returned (.tuple #[.int .i64 f, .int .i64 g]) ∧ Below w.heap.size w w') ∧
    (Calls Try.prog 6 #[.int .i64 d, .int .i64 n] w fun r w' => r = .returned (.tuple #[.int .i64 f, .int .i64 g]) ∧ w = w') := by
  by_cases h : 0 ≤ d ∧ d ≤ 100 ∧ 0 ≤ n ∧ n ≤ 10000000
  · exact ⟨_, _, fun w => ⟨spread_ok d n w h.1 h.2.1 h.2.2.1 h.2.2.2, rspread_ok d n w h.1 h.2.1 h.2.2.1 h.2.2.2⟩⟩
  · exact ⟨_, _, fun w => ⟨spread_no d n w h, rspread_no d n w h⟩⟩
end Go.Proofs.Ytiakjaglnjecgaa
