/- The contracts of layer 2 over slices of strings: Root, Proof, Extension, Verify, VerifyExtension. -/
import Derived.Test.YtdhpighnkoamiaaDoorDigPart
import Derived.Test.YtdhpighnkoamiaaDoorDigValue
import Derived.Test.YtdhpighnkoamiaaDoorDigTwo
namespace Putlog
theorem rootS_shift (ss : Nat → ByteArray) (o k : Nat) : ∀ (n p : Nat), n ≤ k → rootS ss (o + p) n = rootS (fun j => ss (o + j)) p n := by
  induction k with
  | zero =>
    intro n p h
    obtain rfl : n = 0 := by omega
    rw [rootS_zero, rootS_zero]
  | succ k ih =>
    intro n p h
    rcases Nat.lt_or_ge n 2 with h2 | h2
    · rcases Nat.eq_zero_or_pos n with rfl | h0
      · rw [rootS_zero, rootS_zero]
      · obtain rfl : n = 1 := by omega
        rw [rootS_one, rootS_one]
    · have h3 := half_pos n
      have h4 := half_lt h2
      rw [rootS_more h2, rootS_more h2, ih _ _ (by omega), Nat.add_assoc, ih _ _ (by omega)]
theorem besideS_shift (ss : Nat → ByteArray) (o k : Nat) : ∀ (n p i : Nat), n ≤ k → besideS ss (o + p) n i = besideS (fun j => ss (o + j)) p n i := by
  induction k with
  | zero =>
    intro n p i h
    rw [besideS_one (by omega), besideS_one (by omega)]
  | succ k ih =>
    intro n p i h
    rcases Nat.lt_or_ge n 2 with h2 | h2
    · rw [besideS_one (by omega), besideS_one (by omega)]
    · have h3 := half_pos n
      have h4 := half_lt h2
      rcases Nat.lt_or_ge i (half n) with h5 | h5
      · rw [besideS_left h2 h5, besideS_left h2 h5, ih _ _ _ (by omega), Nat.add_assoc, rootS_shift _ _ _ _ _ (Nat.le_refl _)]
      · rw [besideS_right h2 h5, besideS_right h2 h5, Nat.add_assoc, ih _ _ _ (by omega), rootS_shift _ _ _ _ _ (Nat.le_refl _)]
theorem partS_shift (ss : Nat → ByteArray) (o k : Nat) : ∀ (n p m : Nat) (whole : Bool), n ≤ k → 1 ≤ m → m ≤ n → partS ss (o + p) n m whole = partS (fun j => ss (o + j)) p n m whole := by
  induction k with
  | zero => intro n p m whole h h1 h2; omega
  | succ k ih =>
    intro n p m whole h h1 h2
    by_cases hm : m = n
    · subst hm
      cases whole
      · rw [partS_all, partS_all, rootS_shift _ _ _ _ _ (Nat.le_refl _)]
      · rw [partS_whole, partS_whole]
    · have h3 := half_pos n
      have h4 := half_lt (n := n) (by omega)
      rcases Nat.lt_or_ge (half n) m with h5 | h5
      · rw [partS_right (by omega) h5, partS_right (by omega) h5, Nat.add_assoc, ih _ _ _ _ (by omega) (by omega) (by omega), rootS_shift _ _ _ _ _ (Nat.le_refl _)]
      · rw [partS_left (by omega) h1 h5, partS_left (by omega) h1 h5, ih _ _ _ _ (by omega) h1 h5, Nat.add_assoc, rootS_shift _ _ _ _ _ (Nat.le_refl _)]
end Putlog
namespace Go.Proofs.YtdhpighnkoamiaaDoor
open Go.RowKit Putlog

/-- The slice with the address a has the strings f 0 to f (n - 1). -/
def SliceAt (w : World) (a : Option Addr) (f : Nat → ByteArray) (n : Nat) : Prop :=
  0 < n → ∃ b o, a = some ⟨b, o, none⟩ ∧ ∀ j, j < n → w.cell? ⟨b, o + j, none⟩ = some (.string (f j))
theorem SliceAt.below {w w' : World} {a : Option Addr} {f : Nat → ByteArray} {n : Nat} (h : SliceAt w a f n) (hB : Below w.heap.size w w') : SliceAt w' a f n := fun hn => by
  obtain ⟨b, o, ha, hc⟩ := h hn
  exact ⟨b, o, ha, fun j hj => (hB.cell (p := ⟨b, o + j, none⟩) (lt_of_cell (hc j hj))).trans (hc j hj)⟩
theorem SliceAt.zero (w : World) (a : Option Addr) (f : Nat → ByteArray) : SliceAt w a f 0 := fun h => absurd h (by omega)
theorem SliceAt.good {w : World} {b o n : Nat} {f : Nat → ByteArray} (hT : TabAt w) (hc : ∀ j, j < n → w.cell? ⟨b, o + j, none⟩ = some (.string (f j))) : Good b (fun x => f (x - o)) o (o + n) w :=
  ⟨fun j h1 h2 => by have := hc (j - o) (by omega); rwa [show o + (j - o) = j by omega] at this, hT⟩
theorem unshift (f : Nat → ByteArray) (o : Nat) : (fun j => (fun x => f (x - o)) (o + j)) = f := by funext j; show f (o + j - o) = f j; rw [Nat.add_sub_cancel_left]
theorem rootS_un (f : Nat → ByteArray) (o n : Nat) : rootS (fun x => f (x - o)) o n = rootS f 0 n := by
  have := rootS_shift (fun x => f (x - o)) o n n 0 (Nat.le_refl _)
  rwa [unshift, Nat.add_zero] at this
theorem besideS_un (f : Nat → ByteArray) (o n i : Nat) : besideS (fun x => f (x - o)) o n i = besideS f 0 n i := by
  have := besideS_shift (fun x => f (x - o)) o n n 0 i (Nat.le_refl _)
  rwa [unshift, Nat.add_zero] at this
theorem partS_un (f : Nat → ByteArray) (o n m : Nat) (whole : Bool) (h1 : 1 ≤ m) (h2 : m ≤ n) : partS (fun x => f (x - o)) o n m whole = partS f 0 n m whole := by
  have := partS_shift (fun x => f (x - o)) o n n 0 m whole (Nat.le_refl _) h1 h2
  rwa [unshift, Nat.add_zero] at this
theorem digB_un (f : Nat → ByteArray) (o : Nat) : ∀ n, digB (fun x => f (x - o)) o n = digB f 0 n
  | 0 => rfl
  | n + 1 => by simp only [digB, digB_un f o n, Nat.add_sub_cancel_left, Nat.zero_add]

theorem Root_sl (f : Nat → ByteArray) (hf : ∀ j, (f j).size ≤ 140737488355327) (n c : Nat) (a : Option Addr) (w : World) (hn : (n : Int) ≤ 1048576) (hnc : n ≤ c) (hc : (c : Int) ≤ 9223372036854775807) (hs : SliceAt w a f n) (hT : TabAt w) :
    Calls Tryd.prog 27 #[.slice a n c] w fun e w' => e = .returned (.string (rootS f 0 n)) ∧ Below w.heap.size w w' := by
  rcases Nat.eq_zero_or_pos n with rfl | h0
  · rw [rootS_zero]; exact Root_zero a c w hT
  · obtain ⟨b, o, rfl, hcells⟩ := hs h0
    refine (Root_all b o (o + n) (fun x => f (x - o)) (fun j => hf _) n n o c w (Nat.le_refl _) h0 (by omega) (Nat.le_refl _) (Nat.le_refl _) hnc (by omega) (SliceAt.good hT hcells)).mono fun e w' ⟨he, hB, _⟩ => ⟨?_, hB⟩
    rw [he, rootS_un]
theorem digests_sl (f : Nat → ByteArray) (n c : Nat) (a : Option Addr) (w : World) (hn : (n : Int) ≤ 281474976710655) (hs : SliceAt w a f n) :
    Calls Tryd.prog 48 #[.slice a n c] w fun e w' => e = .returned (.bool (digB f 0 n)) ∧ w = w' := by
  rcases Nat.eq_zero_or_pos n with rfl | h0
  · exact digests_zero a c w
  · obtain ⟨b, o, rfl, hcells⟩ := hs h0
    refine (digests_some (fun x => f (x - o)) b o n c w (by omega) (fun j hj => by show _ = some (Value.string (f (o + j - o))); rw [Nat.add_sub_cancel_left]; exact hcells j hj)).mono fun e w' ⟨he, hw⟩ => ⟨?_, hw⟩
    rw [he, digB_un]
theorem valueOf_sl (f : Nat → ByteArray) (hf : ∀ j, (f j).size ≤ 140737488355327) (s : ByteArray) (hss : s.size ≤ 140737488355327) (n i m c : Nat) (a : Option Addr) (w : World) (h1 : 1 ≤ n) (hn : (n : Int) ≤ 9223372036854775807) (hi : i < n) (hmc : m ≤ c) (hc : (m : Int) ≤ 1048576) (hs : SliceAt w a f m) (hT : TabAt w) :
    Calls Tryd.prog 49 #[.int .i64 n, .int .i64 i, .string s, .slice a m c] w fun e w' => e = .returned (.tuple #[.string (valueS f s n i m).1, .bool (valueS f s n i m).2]) ∧ Below w.heap.size w w' := by
  rcases Nat.eq_zero_or_pos m with rfl | h0
  · have := valueOf_all 0 0 f s hf hss n n i 0 c a w (Nat.le_refl _) h1 hn hi hmc hc (fun h => absurd h (by omega)) ⟨fun j h1 h2 => by omega, hT⟩
    rwa [show (fun j => f (0 + j)) = f by funext j; rw [Nat.zero_add]] at this
  · obtain ⟨b, o, rfl, hcells⟩ := hs h0
    have := valueOf_all b o (fun x => f (x - o)) s (fun j => hf _) hss n n i m c _ w (Nat.le_refl _) h1 hn hi hmc hc (fun _ => rfl) (SliceAt.good hT hcells)
    rwa [unshift] at this
theorem twoValues_sl (f : Nat → ByteArray) (hf : ∀ j, (f j).size ≤ 140737488355327) (old : ByteArray) (ho : old.size ≤ 140737488355327) (m n q c : Nat) (whole : Bool) (a : Option Addr) (w : World) (h1 : 1 ≤ m) (hmn : m ≤ n) (hn : (n : Int) ≤ 9223372036854775807) (hmc : q ≤ c) (hc : (q : Int) ≤ 1048576) (hs : SliceAt w a f q) (hT : TabAt w) :
    Calls Tryd.prog 52 #[.string old, .int .i64 m, .int .i64 n, .slice a q c, .bool whole] w fun e w' => e = .returned (.tuple #[.string (twoS f old m n q whole).1, .string (twoS f old m n q whole).2.1, .bool (twoS f old m n q whole).2.2]) ∧ Below w.heap.size w w' := by
  rcases Nat.eq_zero_or_pos q with rfl | h0
  · have := twoValues_all 0 0 f old hf ho n m n 0 c whole a w (Nat.le_refl _) h1 hmn hn hmc hc (fun h => absurd h (by omega)) ⟨fun j h1 h2 => by omega, hT⟩
    rwa [show (fun j => f (0 + j)) = f by funext j; rw [Nat.zero_add]] at this
  · obtain ⟨b, o, rfl, hcells⟩ := hs h0
    have := twoValues_all b o (fun x => f (x - o)) old (fun j => hf _) ho n m n q c whole _ w (Nat.le_refl _) h1 hmn hn hmc hc (fun _ => rfl) (SliceAt.good hT hcells)
    rwa [unshift] at this
/-- A row of strings that a call hands back. -/
def GivesSlice (xs : List ByteArray) (w : World) (v : Value) (w' : World) : Prop :=
  ∃ a c, v = .slice a xs.length c ∧ xs.length ≤ c ∧ (c : Int) ≤ 9223372036854775807 ∧ SliceAt w' a (fun j => xs.getD j ByteArray.empty) xs.length ∧ Below w.heap.size w w'
end Go.Proofs.YtdhpighnkoamiaaDoor
