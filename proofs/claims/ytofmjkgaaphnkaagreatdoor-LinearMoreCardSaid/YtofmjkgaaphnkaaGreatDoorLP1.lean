/- Several texts of layers 3 and 4, one behind the other: LawKit, LinDet, LinTab, LinBland, LinEnds, IntPure, IntSpec, RatPure, RatCmp, RatGrid, RatFrac, LinDot, LinSys, LinMadeP, LinPure, LinAddP, IntKit, LinKit, LinMinus, LinAdd, LinWeigh, LinTimes, LinSign, LinWhole. -/
import Derived.WalkKit
import Derived.ProofKit
import Derived.OpenShut
import Derived.Carry
import Derived.Deep.DeepHandedRow
import Derived.Lib.LaidTab
import Derived.WalkSpells
import Derived.WalkLawsBesides
import Derived.Lib.Hide
import Derived.Laws.Rows
import Derived.Laws.CopyOwn
import Derived.Laws.BytesArg
import Derived.Laws.BitsAllLaws
import Derived.IntWalk
import Derived.BigQuiet
import Derived.Deep.QuietTactic
import Derived.Deep.RegionHeld3
import Derived.Deep.RegionLawGrows
import Derived.Shelf.Spec.BitsCarry
import Derived.Deep.MidRow
import Derived.StillTailTactics
import Derived.Shelf.Bits.Mul64
import Derived.Laws.Externs
import Derived.ChangeKeysEq
import Derived.Laws.StructEq
import Derived.Test.YtofmjkgaaphnkaaGreatDoorCards
import Derived.Test.YtofmjkgaaphnkaaGreatDoorTie
import Derived.Test.YtofmjkgaaphnkaaGreatDoorRows
import Derived.Test.YtofmjkgaaphnkaaGreatDoorShelf
/- LawKit: For every law of a seat: what stands between the walk of its body and the statement about it. -/
namespace Go.Proofs.YtofmjkgaaphnkaaGreatDoor
open Go.ChangeShapes Go.WideShapes Go.ChangeAt Go.RowKit

theorem laidOut : laidOutB Tryz.prog = true := by kernel_rfl
theorem ownKnobNone : ownKnob Tryz.prog.godebug = none := by kernel_rfl

/-- Arguments read behind the call as they read before, if nothing that lay has turned. -/
theorem all_below {H : Type} {enc : TypeId × Value → H} {W W' : World} (hb : Below W.heap.size W W') : ∀ {ts : List TypeId} {vs : List Value} {ds : List (DataW H)} {ps : List MemPlace},
  (∀ t ∈ ts, Tryz.prog.readableRec t = true ∧ t < Tryz.prog.types.size) → DataW.TrodAll enc Tryz.prog W 0 (fun _ => true) true ts vs ds ps → (∀ x ∈ ps, x.block < W.heap.size) →
  DataW.TrodAll enc Tryz.prog W' 0 (fun b => decide (b < W.heap.size)) true ts vs ds ps
 | [], _, _, _, _, h, _ => by obtain ⟨rfl, rfl, rfl⟩ := trodAll_nil h; exact trodAll_mk0
 | t :: ts, _, _, _, ht, h, hlt => by
  obtain ⟨v, vs', d, ds', p, q, rfl, rfl, rfl, hd, hrest⟩ := trodAll_cons h
  exact trodAll_cons_mk (Below.trod laidOut (ht t (by simp)).1 (ht t (by simp)).2 hd hb (fun x hx => hlt x (by simp [hx]))) (all_below hb (fun u hu => ht u (by simp [hu])) hrest (fun x hx => hlt x (by simp [hx])))

/-- A law that answers true and leaves alone what lay. -/
theorem law_post {H : Type} {enc : TypeId × Value → H} {f : Func} {s : ChangeSpec} {W W' : World} {args : Array Value} {ds gs : List (DataW H)} {before : List MemPlace}
  (hread : f.params.toList.all (fun t => Tryz.prog.readableRec t && decide (t < Tryz.prog.types.size)) = true) (hrt : f.resultTypes = #[4]) (hvars : s.vars = [])
  (hs : s.fn H ds = { results := [.lit (.bool true)], args := ds })
  (hW : DataW.Whole enc Tryz.prog f.params.toList s.vars false W args.toList ds gs before) (hb : Below W.heap.size W W') :
  s.post enc Tryz.prog f false true false false W args (.bool true) W' := by
 have hW0 := hW
 have hlt : ∀ p ∈ before, p.block < W.heap.size := fun p hp => hW.lt p hp
 obtain ⟨p, q, hA, hV, rfl, hz, hn⟩ := hW
 rw [hvars] at hV
 obtain ⟨rfl, rfl⟩ := trodVars_none hV
 have hr : ∀ t ∈ f.params.toList, Tryz.prog.readableRec t = true ∧ t < Tryz.prog.types.size := fun t ht => by
  have := List.all_eq_true.1 hread t ht
  simpa using this
 refine ⟨ds, [], p ++ [], [], p, [], hW0, ?_, ?_, ?_, ?_, fun h => by cases h⟩
 ·rw [List.append_nil, hs, hrt]
  exact trodAll_mk1 (shut_bool Tryz.underlying4 _)
 ·rw [List.append_nil, hs]
  exact all_below hb hr hA (fun x hx => hlt x (by simp [hx]))
 ·rw [List.append_nil, hs, hvars]
  rfl
 ·exact World.keptBut_mono (fun p hp => ⟨hp, .inr (.inl (by simpa using hp))⟩) (hb.frame _)

/-- No parameter wants a stand-in. -/
theorem no_stand_in {fn : Func} (h : fn.params.all (fun t => !Tryz.prog.wantsStandIn t) = true) (j : Nat) (t : TypeId) (ht : fn.params[j]? = some t) : Tryz.prog.wantsStandIn t = false := by
 have := Array.all_eq_true'.1 h t (Array.mem_of_getElem? ht)
 simpa using this
end Go.Proofs.YtofmjkgaaphnkaaGreatDoor
/- LinDet: Plain mathematics of layer 6: finite sums of integers, and determinants by expansion along the last column: linear in each column, 0 if two columns are the same. Nothing of the program. -/
namespace Putlog

def sumZ (f : Nat → Int) : Nat → Int
 | 0 => 0
 | n + 1 => sumZ f n + f n
theorem sumZ_congr {f g : Nat → Int} : ∀ {n : Nat}, (∀ i, i < n → f i = g i) → sumZ f n = sumZ g n
 | 0, _ => rfl
 | n + 1, h => by rw [sumZ, sumZ, sumZ_congr (fun i hi => h i (by omega)), h n (by omega)]
theorem sumZ_zero {f : Nat → Int} : ∀ {n : Nat}, (∀ i, i < n → f i = 0) → sumZ f n = 0
 | 0, _ => rfl
 | n + 1, h => by rw [sumZ, sumZ_zero (fun i hi => h i (by omega)), h n (by omega)]; rfl
theorem sumZ_add (f g : Nat → Int) : ∀ n, sumZ (fun i => f i + g i) n = sumZ f n + sumZ g n
 | 0 => rfl
 | n + 1 => by rw [sumZ, sumZ, sumZ, sumZ_add f g n]; omega
theorem sumZ_sub (f g : Nat → Int) : ∀ n, sumZ (fun i => f i - g i) n = sumZ f n - sumZ g n
 | 0 => rfl
 | n + 1 => by rw [sumZ, sumZ, sumZ, sumZ_sub f g n]; omega
theorem sumZ_neg (f : Nat → Int) : ∀ n, sumZ (fun i => -(f i)) n = -(sumZ f n)
 | 0 => rfl
 | n + 1 => by rw [sumZ, sumZ, sumZ_neg f n]; omega
theorem sumZ_mul (a : Int) (f : Nat → Int) : ∀ n, sumZ (fun i => a * f i) n = a * sumZ f n
 | 0 => by simp [sumZ]
 | n + 1 => by rw [sumZ, sumZ, sumZ_mul a f n, Int.mul_add]
theorem sumZ_mulr (a : Int) (f : Nat → Int) (n : Nat) : sumZ (fun i => f i * a) n = sumZ f n * a := by
 rw [Int.mul_comm, ← sumZ_mul]; exact sumZ_congr fun i _ => Int.mul_comm _ _
theorem sumZ_one {f : Nat → Int} {k : Nat} : ∀ {n : Nat}, k < n → (∀ i, i < n → i ≠ k → f i = 0) → sumZ f n = f k
 | n + 1, hk, h => by
  rw [sumZ]
  by_cases e : k = n
  ·subst e; rw [sumZ_zero (fun i hi => h i (by omega) (by omega))]; omega
  ·rw [sumZ_one (by omega : k < n) (fun i hi => h i (by omega)), h n (by omega) (fun x => e x.symm)]; omega
theorem sumZ_comm (f : Nat → Nat → Int) (m : Nat) : ∀ n, sumZ (fun i => sumZ (f i) m) n = sumZ (fun j => sumZ (fun i => f i j) n) m
 | 0 => by rw [sumZ, sumZ_zero]; intros; rfl
 | n + 1 => by
  rw [sumZ, sumZ_comm f m n, ← sumZ_add]; exact sumZ_congr fun j _ => rfl
theorem sumZ_le {f g : Nat → Int} : ∀ {n : Nat}, (∀ i, i < n → f i ≤ g i) → sumZ f n ≤ sumZ g n
 | 0, _ => Int.le_refl _
 | n + 1, h => by have := sumZ_le (f := f) (g := g) (n := n) (fun i hi => h i (by omega)); have := h n (by omega); rw [sumZ, sumZ]; omega
theorem sumZ_nonneg {f : Nat → Int} {n : Nat} (h : ∀ i, i < n → 0 ≤ f i) : 0 ≤ sumZ f n := by
 have := sumZ_le (f := fun _ => 0) (g := f) (n := n) h
 rw [sumZ_zero (fun _ _ => rfl)] at this; exact this
theorem sumZ_pos {f : Nat → Int} : ∀ {n : Nat}, 0 < sumZ f n → ∃ i, i < n ∧ 0 < f i
 | 0, h => by simp [sumZ] at h
 | n + 1, h => by
  by_cases e : 0 < f n
  ·exact ⟨n, by omega, e⟩
  ·rw [sumZ] at h; obtain ⟨i, hi, h2⟩ := sumZ_pos (f := f) (n := n) (by omega); exact ⟨i, by omega, h2⟩
theorem sumZ_all_zero {f : Nat → Int} {n : Nat} (h : ∀ i, i < n → 0 ≤ f i) (hs : sumZ f n = 0) : ∀ i, i < n → f i = 0 := by
 intro i hi
 have h1 : sumZ (fun k => if k = i then f i else 0) n = f i := by
  rw [sumZ_one hi (fun k _ hk => if_neg hk)]; exact if_pos rfl
 have h2 : sumZ (fun k => if k = i then f i else 0) n ≤ sumZ f n := sumZ_le fun k hk => by
  show (if k = i then f i else 0) ≤ f k
  split
  ·rename_i e; subst e; exact Int.le_refl _
  ·exact h k hk
 have := h i hi
 omega
/-- A sum over a square that changes its sign when turned is 0. -/
theorem sumZ_turned {H : Nat → Nat → Int} {n : Nat} (h : ∀ i j, H i j = -(H j i)) : sumZ (fun i => sumZ (H i) n) n = 0 := by
 have h1 := sumZ_comm H n n
 have h2 : sumZ (fun j => sumZ (fun i => H i j) n) n = -(sumZ (fun j => sumZ (H j) n) n) := by
  rw [← sumZ_neg]
  refine sumZ_congr fun j _ => ?_
  rw [← sumZ_neg]
  exact sumZ_congr fun i _ => h i j
 omega

def skip (i r : Nat) : Nat := if r < i then r else r + 1
/-- A sum without one place. -/
theorem sumZ_skip (F : Nat → Int) (i : Nat) : ∀ n, i ≤ n → sumZ (fun j => F (skip i j)) n = sumZ (fun k => if k = i then 0 else F k) (n + 1) := by
 intro n
 induction n with
 | zero =>
  intro h; obtain rfl : i = 0 := by omega
  simp [sumZ]
 | succ n ih =>
  intro h
  by_cases e : i ≤ n
  ·rw [sumZ, ih e, sumZ.eq_2 _ (n + 1)]
   congr 1
   rw [if_neg (by omega)]; unfold skip; rw [if_neg (by omega)]
  ·obtain rfl : i = n + 1 := by omega
   rw [sumZ.eq_2 _ (n + 1), if_pos rfl, Int.add_zero]
   exact sumZ_congr fun j hj => by show F (skip (n + 1) j) = if j = n + 1 then 0 else F j; rw [if_neg (by omega)]; unfold skip; rw [if_pos (by omega)]

def sgn (i : Nat) : Int := if i % 2 = 0 then 1 else -1
theorem sgn_succ (i : Nat) : sgn (i + 1) = -(sgn i) := by unfold sgn; grind
/-- The determinant of n columns, by expansion along the last one. -/
def det : Nat → (Nat → Nat → Int) → Int
 | 0, _ => 1
 | n + 1, M => sumZ (fun i => sgn (i + n) * M n i * det n (fun k r => M k (skip i r))) (n + 1)
theorem det_congr : ∀ {n : Nat} {M N : Nat → Nat → Int}, (∀ k, k < n → ∀ r, r < n → M k r = N k r) → det n M = det n N
 | 0, _, _, _ => rfl
 | n + 1, M, N, h => by
  rw [det, det]
  refine sumZ_congr fun i hi => ?_
  rw [h n (by omega) i hi, det_congr (n := n) (N := fun k r => N k (skip i r))]
  intro k hk r hr
  exact h k (by omega) _ (by unfold skip; split <;> omega)
/-- One column put in the place of another one. -/
def putc (M : Nat → Nat → Int) (k : Nat) (v : Nat → Int) : Nat → Nat → Int := fun j => if j = k then v else M j
theorem putc_same (M : Nat → Nat → Int) (k : Nat) (v : Nat → Int) : putc M k v k = v := if_pos rfl
theorem putc_other (M : Nat → Nat → Int) {k j : Nat} (v : Nat → Int) (h : j ≠ k) : putc M k v j = M j := if_neg h
theorem putc_self (M : Nat → Nat → Int) (k : Nat) : putc M k (M k) = M := by
 funext j; unfold putc; split
 ·rename_i h; rw [h]
 ·rfl
theorem putc_comm (M : Nat → Nat → Int) {k l : Nat} (v u : Nat → Int) (h : k ≠ l) : putc (putc M k v) l u = putc (putc M l u) k v := by
 funext j; unfold putc; split
 ·rename_i e; rw [if_neg (by omega)]
 ·rfl
theorem putc_skip (M : Nat → Nat → Int) (k i : Nat) (v : Nat → Int) : (fun j r => putc M k v j (skip i r)) = putc (fun j r => M j (skip i r)) k (fun r => v (skip i r)) := by
 funext j r; unfold putc; split <;> rfl
theorem det_lin : ∀ (n : Nat) (M : Nat → Nat → Int) (k : Nat) (a b : Int) (v u : Nat → Int), k < n → det n (putc M k (fun r => a * v r + b * u r)) = a * det n (putc M k v) + b * det n (putc M k u)
 | n + 1, M, k, a, b, v, u, hk => by
  rw [det, det, det, ← sumZ_mul, ← sumZ_mul, ← sumZ_add]
  refine sumZ_congr fun i hi => ?_
  simp only [putc_skip]
  by_cases e : k = n
  ·subst e
   simp only [putc_same]
   have e1 : ∀ w, det k (putc (fun j r => M j (skip i r)) k w) = det k (fun j r => M j (skip i r)) := fun w => det_congr fun j hj r _ => by rw [putc_other _ _ (by omega)]
   rw [e1, e1, e1]
   grind
  ·have e1 : ∀ w, putc M k w n = M n := fun w => putc_other _ _ (fun h => e h.symm)
   rw [e1, e1, e1, det_lin n _ k a b (fun r => v (skip i r)) (fun r => u (skip i r)) (by omega)]
   grind
theorem det_zero {n : Nat} (M : Nat → Nat → Int) {k : Nat} (hk : k < n) : det n (putc M k (fun _ => 0)) = 0 := by
 have h := det_lin n M k 0 0 (fun _ => 0) (fun _ => 0) hk
 simpa using h
theorem det_sum {n : Nat} (M : Nat → Nat → Int) {k : Nat} (hk : k < n) (a : Nat → Int) (V : Nat → Nat → Int) : ∀ m, det n (putc M k (fun r => sumZ (fun j => a j * V j r) m)) = sumZ (fun j => a j * det n (putc M k (V j))) m
 | 0 => det_zero M hk
 | m + 1 => by
  have h := det_lin n M k 1 (a m) (fun r => sumZ (fun j => a j * V j r) m) (V m) hk
  rw [det_sum M hk a V m, Int.one_mul] at h
  rw [sumZ, ← h]
  congr 2; funext r; rw [sumZ, Int.one_mul]
theorem skip_pair (i j r : Nat) : skip i (skip j r) = if j < i then skip j (skip (i - 1) r) else skip (j + 1) (skip i r) := by
 unfold skip; grind
/-- The last two columns being the same. -/
theorem det_last {n : Nat} {M : Nat → Nat → Int} (h : M n = M (n + 1)) : det (n + 2) M = 0 := by
 have hm : ∀ i, det (n + 1) (fun k r => M k (skip i r)) = sumZ (fun j => sgn (j + n) * M n (skip i j) * det n (fun k r => M k (skip i (skip j r)))) (n + 1) := fun i => rfl
 let m : Nat → Nat → Int := fun x y => if x < y then det n (fun k r => M k (skip y (skip x r))) else det n (fun k r => M k (skip x (skip y r)))
 have hsym : ∀ x y, x ≠ y → m x y = m y x := fun x y hxy => by
  show (if x < y then _ else _) = (if y < x then _ else _)
  rcases Nat.lt_or_gt_of_ne hxy with h1 | h1
  ·rw [if_pos h1, if_neg (by omega)]
  ·rw [if_neg (by omega), if_pos h1]
 let F : Nat → Nat → Int := fun i k => if k < i then sgn (k + n) * M n k * m i k else -(sgn (k + n) * M n k * m i k)
 have hF : ∀ i j, sgn (j + n) * M n (skip i j) * det n (fun k r => M k (skip i (skip j r))) = F i (skip i j) := fun i j => by
  by_cases e : j < i
  ·have e1 : skip i j = j := if_pos e
   show _ = if skip i j < i then _ else _
   rw [e1, if_pos e]
   show _ = _ * (if i < j then _ else _)
   rw [if_neg (by omega)]
  ·have e1 : skip i j = j + 1 := if_neg e
   show _ = if skip i j < i then _ else _
   rw [e1, if_neg (by omega)]
   show _ = -(_ * (if i < j + 1 then _ else _))
   rw [if_pos (by omega)]
   have e2 : (fun k r => M k (skip i (skip j r))) = (fun k r => M k (skip (j + 1) (skip i r))) := by
    funext k r; rw [skip_pair, if_neg e]
   rw [e2, show j + 1 + n = (j + n) + 1 by omega, sgn_succ]
   grind
 rw [det]
 have e3 : ∀ i, i < n + 2 → sgn (i + (n + 1)) * M (n + 1) i * det (n + 1) (fun k r => M k (skip i r)) = sumZ (fun k => if k = i then 0 else sgn (i + (n + 1)) * M (n + 1) i * F i k) (n + 2) := fun i hi => by
  rw [hm, sumZ_congr (fun j _ => hF i j), sumZ_skip (F i) i (n + 1) (by omega), ← sumZ_mul]
  refine sumZ_congr fun k _ => ?_
  split
  ·rw [Int.mul_zero]
  ·rfl
 rw [sumZ_congr e3]
 refine sumZ_turned fun i j => ?_
 by_cases e : i = j
 ·subst e; simp
 ·rw [if_neg (fun x => e x.symm), if_neg e, ← h]
  show _ * (if j < i then _ else _) = -(_ * (if i < j then _ else _))
  have e4 := hsym i j e
  rw [show i + (n + 1) = i + n + 1 by omega, show j + (n + 1) = j + n + 1 by omega, sgn_succ, sgn_succ]
  rcases Nat.lt_or_gt_of_ne e with h1 | h1
  ·rw [if_neg (by omega), if_pos h1, e4]; grind
  ·rw [if_pos h1, if_neg (by omega), e4]; grind
/-- Two columns being the same, the second one the last. -/
theorem swap_of {n : Nat} (k l : Nat) (hk : k < n) (hl : l < n) (hkl : k ≠ l) (H : ∀ (M : Nat → Nat → Int) (v : Nat → Int), det n (putc (putc M k v) l v) = 0) (M : Nat → Nat → Int) (v u : Nat → Int) :
  det n (putc (putc M k v) l u) = -(det n (putc (putc M k u) l v)) := by
 have h0 := H M (fun r => 1 * v r + 1 * u r)
 rw [det_lin _ _ _ _ _ _ _ hl, putc_comm _ _ _ hkl, putc_comm _ _ _ hkl, det_lin _ _ _ _ _ _ _ hk, det_lin _ _ _ _ _ _ _ hk, putc_comm _ _ _ hkl.symm, putc_comm _ _ _ hkl.symm, putc_comm _ _ _ hkl.symm, putc_comm _ _ _ hkl.symm, H, H] at h0
 omega
theorem det_dup : ∀ (n : Nat) (M : Nat → Nat → Int) (k l : Nat), k < l → l < n → M k = M l → det n M = 0
 | n + 1, M, k, l, hkl, hl, h => by
  by_cases e : l < n
  ·rw [det]
   refine sumZ_zero fun i _ => ?_
   rw [det_dup n _ k l hkl e (by funext r; show M k _ = M l _; rw [h]), Int.mul_zero]
  ·obtain rfl : l = n := by omega
   obtain ⟨m, rfl⟩ : ∃ m, l = m + 1 := ⟨l - 1, by omega⟩
   by_cases e2 : k = m
   ·subst e2; exact det_last h
   ·have hs := swap_of (n := m + 2) m (m + 1) (by omega) (by omega) (by omega) (fun M v => det_last (by rw [putc_same, putc_other _ _ (by omega), putc_same])) M (M m) (M (m + 1))
    rw [putc_self, putc_self] at hs
    rw [hs]
    have : det (m + 2) (putc (putc M m (M (m + 1))) (m + 1) (M m)) = 0 := by
     rw [det]
     refine sumZ_zero fun i _ => ?_
     rw [det_dup (m + 1) _ k m (by omega) (by omega), Int.mul_zero]
     funext r
     show putc (putc M m (M (m + 1))) (m + 1) (M m) k _ = putc (putc M m (M (m + 1))) (m + 1) (M m) m _
     rw [putc_other _ _ (by omega), putc_other _ _ (by omega), putc_other _ _ (by omega), putc_same, h]
    omega
theorem det_same {n : Nat} (M : Nat → Nat → Int) {k l : Nat} (hk : k < n) (hl : l < n) (hkl : k ≠ l) (h : M k = M l) : det n M = 0 := by
 rcases Nat.lt_or_gt_of_ne hkl with e | e
 ·exact det_dup n M k l e hl h
 ·exact det_dup n M l k e hk h.symm
theorem det_swap {n : Nat} (M : Nat → Nat → Int) {k l : Nat} (hk : k < n) (hl : l < n) (hkl : k ≠ l) (v u : Nat → Int) : det n (putc (putc M k v) l u) = -(det n (putc (putc M k u) l v)) :=
 swap_of k l hk hl hkl (fun M v => det_same _ hk hl hkl (by rw [putc_same, putc_other _ _ hkl, putc_same])) M v u
theorem det_diag (s : Nat → Int) (hs : ∀ k, s k * s k = 1) : ∀ n, det n (fun k r => if r = k then s k else 0) * det n (fun k r => if r = k then s k else 0) = 1
 | 0 => rfl
 | n + 1 => by
  have e : det (n + 1) (fun k r => if r = k then s k else 0) = s n * det n (fun k r => if r = k then s k else 0) := by
   rw [det, sumZ_one (k := n) (by omega) (fun i _ hi => by rw [if_neg hi]; simp), if_pos rfl, show n + n = 2 * n by omega]
   rw [det_congr (n := n) (N := fun k r => if r = k then s k else 0) (fun k hk r hr => by rw [show skip n r = r from if_pos hr])]
   have : sgn (2 * n) = 1 := by unfold sgn; rw [if_pos (by omega)]
   rw [this, Int.one_mul]
  have h1 := det_diag s hs n
  have h2 := hs n
  rw [e]; grind
/-- How great a determinant may be. -/
def facZ : Nat → Int
 | 0 => 1
 | n + 1 => (n + 1 : Nat) * facZ n
def prodZ (B : Nat → Int) : Nat → Int
 | 0 => 1
 | n + 1 => prodZ B n * B n
theorem sumZ_bound {f : Nat → Int} {X : Int} : ∀ {n : Nat}, (∀ i, i < n → -X ≤ f i ∧ f i ≤ X) → -((n : Int) * X) ≤ sumZ f n ∧ sumZ f n ≤ (n : Int) * X
 | 0, _ => by simp [sumZ]
 | n + 1, h => by
  have h1 := sumZ_bound (f := f) (X := X) (n := n) (fun i hi => h i (by omega))
  have h2 := h n (by omega)
  rw [sumZ, show ((n + 1 : Nat) : Int) * X = n * X + X by rw [Int.natCast_add, Int.add_mul]; simp]
  omega
theorem mul_bound {a b A B : Int} (ha : -A ≤ a ∧ a ≤ A) (hb : -B ≤ b ∧ b ≤ B) : -(A * B) ≤ a * b ∧ a * b ≤ A * B := by
 have h1 : (0 : Int) ≤ (A - a) * (B - b) := Int.mul_nonneg (by omega) (by omega)
 have h2 : (0 : Int) ≤ (A + a) * (B + b) := Int.mul_nonneg (by omega) (by omega)
 have h3 : (0 : Int) ≤ (A - a) * (B + b) := Int.mul_nonneg (by omega) (by omega)
 have h4 : (0 : Int) ≤ (A + a) * (B - b) := Int.mul_nonneg (by omega) (by omega)
 constructor
 ·grind
 ·grind
theorem det_bound (B : Nat → Int) (hB : ∀ k, 0 ≤ B k) : ∀ (n : Nat) (M : Nat → Nat → Int), (∀ k, k < n → ∀ r, -(B k) ≤ M k r ∧ M k r ≤ B k) → -(facZ n * prodZ B n) ≤ det n M ∧ det n M ≤ facZ n * prodZ B n
 | 0, M, _ => by simp [det, facZ, prodZ]
 | n + 1, M, h => by
  have h1 : ∀ i, i < n + 1 → -(B n * (facZ n * prodZ B n)) ≤ sgn (i + n) * M n i * det n (fun k r => M k (skip i r)) ∧ sgn (i + n) * M n i * det n (fun k r => M k (skip i r)) ≤ B n * (facZ n * prodZ B n) := fun i _ => by
   refine mul_bound ?_ (det_bound B hB n _ (fun k hk r => h k (by omega) _))
   have := h n (by omega) i
   unfold sgn; split <;> omega
  have h2 := sumZ_bound h1
  rw [det, facZ, prodZ]
  have e : ((n + 1 : Nat) : Int) * (B n * (facZ n * prodZ B n)) = ((n + 1 : Nat) : Int) * facZ n * (prodZ B n * B n) := by grind
  rw [e] at h2
  exact h2
end Putlog
/- LinTab: Plain mathematics of layer 6: a table of the simplex method, as its rows times a common determinant; exchanging a member keeps all of it in integers. Nothing of the program. -/
namespace Putlog

/-- The row k of the table applied to a column. -/
def fall (n : Nat) (R : Nat → Nat → Int) (v : Nat → Int) (k : Nat) : Int := sumZ (fun l => v l * R k l) n
/-- The column of a variable (0 or more) or of a helper (below 0). -/
def colOf (n : Nat) (A : Nat → Nat → Int) (s : Nat → Int) (m : Int) (i : Nat) : Int := if 0 ≤ m then A m.toNat i else if (i : Int) = m + n then s i else 0
def unitV (l : Nat) (r : Nat) : Int := if r = l then 1 else 0
theorem unit_fall (R : Nat → Nat → Int) {n l : Nat} (hl : l < n) (k : Nat) : fall n R (unitV l) k = R k l := by
 unfold fall
 rw [sumZ_one hl (fun i _ hi => by unfold unitV; rw [if_neg hi, Int.zero_mul])]
 unfold unitV; rw [if_pos rfl, Int.one_mul]
/-- What a table keeps: n rows, C the columns, b the values, mem the members, R the rows times d, the absolute value of the members' determinant. -/
structure Tab (n : Nat) (C : Int → Nat → Int) (b : Nat → Int) (mem : Nat → Int) (R : Nat → Nat → Int) (d : Int) : Prop where
 dpos : 0 < d
 dets : ∃ ε : Int, ε * ε = 1 ∧ ∀ i, i < n → ∀ v, det n (putc (fun k => C (mem k)) i v) = ε * fall n R v i
 inv : ∀ i, i < n → ∀ l, l < n → sumZ (fun k => C (mem k) i * R k l) n = if i = l then d else 0
 vni : ∀ k, k < n → ∀ j, j < n → fall n R (C (mem j)) k = if k = j then d else 0
 val : ∀ k, k < n → R k n = fall n R b k
 all : ∀ l, l ≤ n → R n l = sumZ (fun k => if mem k < 0 then R k l else 0) n
 nneg : ∀ k, k < n → 0 ≤ R k n
/-- A row exchanged. -/
def pivR (n : Nat) (C : Int → Nat → Int) (R : Nat → Nat → Int) (d j : Int) (out : Nat) : Nat → Nat → Int := fun k i => if k = out then R k i else (R k i * fall n R (C j) out - R out i * fall n R (C j) k) / d
def pivM (mem : Nat → Int) (j : Int) (out : Nat) : Nat → Int := fun k => if k = out then j else mem k
section
variable {n : Nat} {C : Int → Nat → Int} {b : Nat → Int} {mem : Nat → Int} {R : Nat → Nat → Int} {d : Int}

theorem fall_congr {n : Nat} {R R' : Nat → Nat → Int} {v v' : Nat → Int} {k : Nat} (h1 : ∀ l, l < n → v l = v' l) (h2 : ∀ l, l < n → R k l = R' k l) : fall n R v k = fall n R' v' k :=
 sumZ_congr fun l hl => by show v l * R k l = v' l * R' k l; rw [h1 l hl, h2 l hl]
/-- The columns give a vector back: d times it is the sum of the members, each times what its row says. -/
theorem Tab.back (T : Tab n C b mem R d) (v : Nat → Int) {r : Nat} (hr : r < n) : d * v r = sumZ (fun k => fall n R v k * C (mem k) r) n := by
 have h1 : ∀ k, k < n → fall n R v k * C (mem k) r = sumZ (fun l => v l * (C (mem k) r * R k l)) n := fun k _ => by
  rw [Int.mul_comm]; unfold fall; rw [← sumZ_mul]
  exact sumZ_congr fun l _ => by rw [Int.mul_left_comm]
 rw [sumZ_congr h1, sumZ_comm]
 have h2 : ∀ l, l < n → sumZ (fun k => v l * (C (mem k) r * R k l)) n = v l * (if r = l then d else 0) := fun l hl => by
  rw [sumZ_mul, T.inv r hr l hl]
 rw [sumZ_congr h2, sumZ_one hr (fun i _ hi => by rw [if_neg (fun h => hi h.symm), Int.mul_zero]), if_pos rfl, Int.mul_comm]
theorem Tab.sq_one {ε : Int} (h : ε * ε = 1) : ε = 1 ∨ ε = -1 := by
 have h1 : (ε - 1) * (ε + 1) = 0 := by grind
 rcases Int.mul_eq_zero.1 h1 with h2 | h2 <;> omega
/-- The exchanged determinants: what the division gives is an integer. -/
theorem Tab.exact (T : Tab n C b mem R d) {j : Int} {out : Nat} (ho : out < n) {ε : Int} (he : ε * ε = 1) (hd : ∀ i, i < n → ∀ v, det n (putc (fun k => C (mem k)) i v) = ε * fall n R v i) {i : Nat} (hi : i < n) (hio : i ≠ out) (v : Nat → Int) :
  fall n R v i * fall n R (C j) out - fall n R v out * fall n R (C j) i = d * (ε * det n (putc (fun k => C (pivM mem j out k)) i v)) := by
 have hM : (fun k => C (pivM mem j out k)) = putc (fun k => C (mem k)) out (C j) := by
  funext k; unfold pivM putc; split <;> rfl
 rw [hM]
 have h1 : d * det n (putc (putc (fun k => C (mem k)) out (C j)) i v) = det n (putc (putc (fun k => C (mem k)) out (C j)) i (fun r => d * v r + 0 * v r)) := by
  rw [det_lin _ _ _ _ _ _ _ hi]; omega
 have h2 : det n (putc (putc (fun k => C (mem k)) out (C j)) i (fun r => d * v r + 0 * v r)) = det n (putc (putc (fun k => C (mem k)) out (C j)) i (fun r => sumZ (fun k => fall n R v k * C (mem k) r) n)) := by
  refine det_congr fun k _ r hr => ?_
  by_cases e : k = i
  ·subst e; rw [putc_same, putc_same, ← T.back v hr]; omega
  ·rw [putc_other _ _ e, putc_other _ _ e]
 rw [h2, det_sum _ hi] at h1
 have h3 : ∀ k, k < n → fall n R v k * det n (putc (putc (fun k => C (mem k)) out (C j)) i (C (mem k))) = (if k = i then fall n R v i * (ε * fall n R (C j) out) else 0) + (if k = out then -(fall n R v out * (ε * fall n R (C j) i)) else 0) := fun k hk => by
  by_cases e1 : k = i
  ·subst e1
   rw [if_pos rfl, if_neg hio, Int.add_zero, ← hd out ho]
   have e5 : putc (putc (fun k => C (mem k)) out (C j)) k (C (mem k)) = putc (fun k => C (mem k)) out (C j) := by
    have := putc_self (putc (fun k => C (mem k)) out (C j)) k
    rw [putc_other _ _ hio] at this
    exact this
   rw [e5]
  ·rw [if_neg e1, Int.zero_add]
   by_cases e2 : k = out
   ·subst e2
    rw [if_pos rfl, det_swap _ ho hi (fun h => hio h.symm), ← hd i hi]
    have : putc (fun k => C (mem k)) k (C (mem k)) = fun k => C (mem k) := putc_self (fun k => C (mem k)) k
    rw [this, Int.mul_neg]
   ·rw [if_neg e2]
    rw [det_same _ hk hi e1 (by rw [putc_same, putc_other _ _ e1, putc_other _ _ e2]), Int.mul_zero]
 rw [sumZ_congr h3, sumZ_add, sumZ_one hi (fun k _ hk => if_neg hk), if_pos rfl, sumZ_one ho (fun k _ hk => if_neg hk), if_pos rfl] at h1
 generalize det n (putc (putc (fun k => C (mem k)) out (C j)) i v) = D at *
 have : d * (ε * D) = ε * (d * D) := by grind
 rw [this, h1]
 grind
/-- A row of the exchanged table, times d. -/
theorem Tab.pivot_row (T : Tab n C b mem R d) (j : Int) {out : Nat} (ho : out < n) {k i : Nat} (hk : k < n) (hko : k ≠ out) (hi : i ≤ n) :
  d * pivR n C R d j out k i = R k i * fall n R (C j) out - R out i * fall n R (C j) k := by
 obtain ⟨ε, he, hd⟩ := T.dets
 have hv : ∃ v, ∀ k, k < n → R k i = fall n R v k := by
  by_cases e : i = n
  ·subst e; exact ⟨b, T.val⟩
  ·exact ⟨unitV i, fun k _ => (unit_fall R (by omega) k).symm⟩
 obtain ⟨v, hv⟩ := hv
 have h1 := T.exact (j := j) ho he hd hk hko v
 rw [← hv k hk, ← hv out ho] at h1
 unfold pivR
 rw [if_neg hko, h1, Int.mul_ediv_cancel_left _ (Int.ne_of_gt T.dpos)]
theorem helper_split (mem : Nat → Int) {n : Nat} {j : Int} {out : Nat} (f : Nat → Int) (h : f out = 0) : sumZ (fun k => if pivM mem j out k < 0 then f k else 0) n = sumZ (fun k => if mem k < 0 then f k else 0) n := by
 refine sumZ_congr fun k _ => ?_
 show (if pivM mem j out k < 0 then f k else 0) = _
 unfold pivM
 by_cases e : k = out
 ·subst e; rw [h]; simp
 ·rw [if_neg e]
theorem Tab.all_fall (T : Tab n C b mem R d) (v : Nat → Int) : fall n R v n = sumZ (fun k => if mem k < 0 then fall n R v k else 0) n := by
 have h1 : fall n R v n = sumZ (fun l => sumZ (fun k => if mem k < 0 then v l * R k l else 0) n) n := by
  refine sumZ_congr fun l hl => ?_
  rw [T.all l (by omega), ← sumZ_mul]
  refine sumZ_congr fun k _ => ?_
  split
  ·rfl
  ·rw [Int.mul_zero]
 rw [h1, sumZ_comm]
 refine sumZ_congr fun k _ => ?_
 by_cases e : mem k < 0
 ·simp only [if_pos e]; rfl
 ·simp only [if_neg e]; exact sumZ_zero fun _ _ => rfl
theorem Tab.pivot_all (T : Tab n C b mem R d) {j : Int} (hj : 0 ≤ j) {out : Nat} (ho : out < n) {i : Nat} (hi : i ≤ n) :
  d * pivR n C R d j out n i = R n i * fall n R (C j) out - R out i * fall n R (C j) n ∧ pivR n C R d j out n i = sumZ (fun k => if pivM mem j out k < 0 then pivR n C R d j out k i else 0) n := by
 have h1 : ∀ k, k < n → d * (if pivM mem j out k < 0 then pivR n C R d j out k i else 0) = (if pivM mem j out k < 0 then R k i * fall n R (C j) out - R out i * fall n R (C j) k else 0) := fun k hk => by
  by_cases e : k = out
  ·subst e; unfold pivM; rw [if_pos rfl, if_neg (by omega), if_neg (by omega), Int.mul_zero]
  ·split
   ·exact T.pivot_row j ho hk e hi
   ·rw [Int.mul_zero]
 have h2 : d * sumZ (fun k => if pivM mem j out k < 0 then pivR n C R d j out k i else 0) n = R n i * fall n R (C j) out - R out i * fall n R (C j) n := by
  rw [← sumZ_mul, sumZ_congr h1, helper_split mem _ (by omega), T.all i hi, T.all_fall (C j)]
  have h3 : ∀ k, k < n → (if mem k < 0 then R k i * fall n R (C j) out - R out i * fall n R (C j) k else 0) = (if mem k < 0 then R k i else 0) * fall n R (C j) out - R out i * (if mem k < 0 then fall n R (C j) k else 0) := fun k _ => by
   split
   ·rfl
   ·simp
  rw [sumZ_congr h3, sumZ_sub, sumZ_mulr, sumZ_mul]
 have h4 : pivR n C R d j out n i = sumZ (fun k => if pivM mem j out k < 0 then pivR n C R d j out k i else 0) n := by
  show (if n = out then R n i else _) = _
  rw [if_neg (by omega), ← h2, Int.mul_ediv_cancel_left _ (Int.ne_of_gt T.dpos)]
 exact ⟨by rw [h4]; exact h2, h4⟩
theorem cancel_d {d x y : Int} (hd : 0 < d) (h : d * x = d * y) : x = y := Int.eq_of_mul_eq_mul_left (Int.ne_of_gt hd) h
theorem Tab.pivot_fall (T : Tab n C b mem R d) (j : Int) {out : Nat} (ho : out < n) {k : Nat} (hk : k < n) (hko : k ≠ out) (v : Nat → Int) :
  d * fall n (pivR n C R d j out) v k = fall n R v k * fall n R (C j) out - fall n R v out * fall n R (C j) k := by
 unfold fall
 rw [← sumZ_mul, ← sumZ_mulr, ← sumZ_mulr, ← sumZ_sub]
 refine sumZ_congr fun l hl => ?_
 show d * (v l * pivR n C R d j out k l) = _
 rw [Int.mul_left_comm, T.pivot_row j ho hk hko (by omega)]
 unfold fall
 grind
theorem pivR_out (j : Int) (out i : Nat) : pivR n C R d j out out i = R out i := if_pos rfl
/-- Which member may leave: its fall is positive, and no other one comes to 0 before. -/
structure Leaves (n : Nat) (C : Int → Nat → Int) (R : Nat → Nat → Int) (j : Int) (out : Nat) : Prop where
 lt : out < n
 pos : 0 < fall n R (C j) out
 least : ∀ k, k < n → 0 < fall n R (C j) k → R out n * fall n R (C j) k ≤ R k n * fall n R (C j) out
theorem Tab.pivot (T : Tab n C b mem R d) {j : Int} (hj : 0 ≤ j) {out : Nat} (L : Leaves n C R j out) : Tab n C b (pivM mem j out) (pivR n C R d j out) (fall n R (C j) out) := by
 have ho := L.lt
 have hp := L.pos
 have hd0 := T.dpos
 refine ⟨hp, ?_, ?_, ?_, ?_, fun l hl => (T.pivot_all hj ho hl).2, ?_⟩
 ·obtain ⟨ε, he, hd⟩ := T.dets
  refine ⟨ε, he, fun i hi v => ?_⟩
  by_cases e : i = out
  ·subst e
   have h1 : putc (fun k => C (pivM mem j i k)) i v = putc (fun k => C (mem k)) i v := by
    funext k; unfold putc pivM; split <;> simp_all
   rw [h1, hd i hi]
   congr 1
   exact fall_congr (fun _ _ => rfl) (fun l _ => (pivR_out j i l).symm)
  ·have h1 := T.exact (j := j) ho he hd hi e v
   rw [← T.pivot_fall j ho hi e v] at h1
   have h2 := cancel_d hd0 h1
   rw [h2]; grind
 ·intro i hi l hl
  have h0 : d * sumZ (fun k => C (pivM mem j out k) i * pivR n C R d j out k l) n = d * (if i = l then fall n R (C j) out else 0) := by
   rw [← sumZ_mul]
   have h1 : ∀ k, k < n → d * (C (pivM mem j out k) i * pivR n C R d j out k l) = (C (mem k) i * R k l * fall n R (C j) out - R out l * (fall n R (C j) k * C (mem k) i)) + (if k = out then d * C j i * R out l else 0) := fun k hk => by
    by_cases e : k = out
    ·subst e
     rw [if_pos rfl, pivR_out]; unfold pivM; rw [if_pos rfl]; grind
    ·rw [if_neg e, Int.mul_left_comm, T.pivot_row j ho hk e (by omega)]; unfold pivM; rw [if_neg e]; grind
   rw [sumZ_congr h1, sumZ_add, sumZ_sub, sumZ_mulr, sumZ_mul, sumZ_one ho (fun k _ hk => if_neg hk), if_pos rfl, ← T.back (C j) hi, T.inv i hi l hl]
   split <;> grind
  exact cancel_d hd0 h0
 ·intro k hk m hm
  by_cases e : k = out
  ·subst e
   by_cases e2 : m = k
   ·subst e2
    rw [if_pos rfl]
    have : C (pivM mem j m m) = C j := by unfold pivM; rw [if_pos rfl]
    rw [this]; exact fall_congr (fun _ _ => rfl) (fun l _ => pivR_out j m l)
   ·have h1 := T.vni k hk m hm
    rw [if_neg (fun h => e2 h.symm)] at h1
    rw [if_neg (fun h => e2 h.symm), ← h1]
    have : C (pivM mem j k m) = C (mem m) := by unfold pivM; rw [if_neg e2]
    rw [this]; exact fall_congr (fun _ _ => rfl) (fun l _ => pivR_out j k l)
  ·refine cancel_d hd0 ?_
   rw [T.pivot_fall j ho hk e]
   by_cases e2 : m = out
   ·subst e2
    have : C (pivM mem j m m) = C j := by unfold pivM; rw [if_pos rfl]
    rw [this, if_neg e]; grind
   ·have : C (pivM mem j out m) = C (mem m) := by unfold pivM; rw [if_neg e2]
    rw [this, T.vni k hk m hm, T.vni out ho m hm, if_neg (fun h : out = m => e2 h.symm)]
    by_cases e3 : k = m
    ·rw [if_pos e3, if_pos e3]; grind
    ·rw [if_neg e3, if_neg e3]; grind
 ·intro k hk
  by_cases e : k = out
  ·subst e
   rw [pivR_out, T.val k hk]; exact fall_congr (fun _ _ => rfl) (fun l _ => (pivR_out j k l).symm)
  ·refine cancel_d hd0 ?_
   rw [T.pivot_row j ho hk e (Nat.le_refl _), T.pivot_fall j ho hk e, T.val k hk, T.val out ho]
 ·intro k hk
  by_cases e : k = out
  ·subst e; rw [pivR_out]; exact T.nneg k hk
  ·have h1 := T.pivot_row j ho hk e (Nat.le_refl n)
   have h2 : 0 ≤ R k n * fall n R (C j) out - R out n * fall n R (C j) k := by
    by_cases h3 : 0 < fall n R (C j) k
    ·have := L.least k hk h3; omega
    ·have h4 := Int.mul_nonneg (T.nneg k hk) (Int.le_of_lt hp)
     have h5 := Int.mul_nonneg (T.nneg out ho) (by omega : 0 ≤ -(fall n R (C j) k))
     rw [Int.mul_neg] at h5; omega
   rw [← h1] at h2
   rcases (by omega : pivR n C R d j out k n < 0 ∨ 0 ≤ pivR n C R d j out k n) with h6 | h6
   ·have := Int.mul_neg_of_pos_of_neg hd0 h6; omega
   ·exact h6
end
end Putlog
/- LinBland: Plain mathematics of layer 6: the exchanges end. Where the sum of the helpers stands still, the least index enters and leaves, and no members come twice. Nothing of the program. -/
namespace Putlog

structure St where
 mem : Nat → Int
 R : Nat → Nat → Int
 d : Int
 stalled : Bool
/-- One exchange. -/
structure StepT (n cols : Nat) (C : Int → Nat → Int) (s s' : St) (e out : Nat) : Prop where
 lt : e < cols
 gain : 0 < fall n s.R (C e) n
 bland : s.stalled = true → ∀ j : Nat, j < e → fall n s.R (C j) n ≤ 0
 leaves : Leaves n C s.R e out
 tie : ∀ k, k < n → 0 < fall n s.R (C e) k → s.R k n * fall n s.R (C e) out = s.R out n * fall n s.R (C e) k → s.mem out ≤ s.mem k
 eq : s' = ⟨pivM s.mem e out, pivR n C s.R s.d e out, fall n s.R (C e) out, decide (s.R out n = 0)⟩
def Good (n cols : Nat) (C : Int → Nat → Int) (b : Nat → Int) (s : St) : Prop := Tab n C b s.mem s.R s.d ∧ ∀ k, k < n → -(n : Int) ≤ s.mem k ∧ s.mem k < cols
section
variable {n cols : Nat} {C : Int → Nat → Int} {b : Nat → Int}

theorem StepT.good {s s' : St} {e out : Nat} (h : StepT n cols C s s' e out) (g : Good n cols C b s) : Good n cols C b s' := by
 rw [h.eq]
 refine ⟨g.1.pivot (by omega) h.leaves, fun k hk => ?_⟩
 show -(n : Int) ≤ pivM s.mem e out k ∧ pivM s.mem e out k < cols
 unfold pivM
 split
 ·have := h.lt; omega
 ·exact g.2 k hk
/-- What row n says of a column: the members' are the helpers' count. -/
theorem Tab.gain_mem {mem : Nat → Int} {R : Nat → Nat → Int} {d : Int} (T : Tab n C b mem R d) {k : Nat} (hk : k < n) : fall n R (C (mem k)) n = if mem k < 0 then d else 0 := by
 rw [T.all_fall, sumZ_one hk]
 ·rw [T.vni k hk k hk, if_pos rfl]
 ·intro i hi hne
  rw [T.vni i hi k hk, if_neg hne]; simp
theorem Tab.mem_inj {mem : Nat → Int} {R : Nat → Nat → Int} {d : Int} (T : Tab n C b mem R d) {k m : Nat} (hk : k < n) (hm : m < n) (h : mem k = mem m) : k = m := by
 have h1 := T.vni k hk k hk
 have h2 := T.vni k hk m hm
 rw [if_pos rfl] at h1
 rw [← h, h1] at h2
 have := T.dpos
 by_cases e : k = m
 ·exact e
 ·rw [if_neg e] at h2; omega
/-- The same members have the same table. -/
theorem Tab.same {mem mem' : Nat → Int} {R R' : Nat → Nat → Int} {d d' : Int} (hn : 0 < n) (T : Tab n C b mem R d) (T' : Tab n C b mem' R' d') (h : ∀ k, k < n → mem k = mem' k) : d = d' ∧ (∀ k, k < n → R k n = R' k n) ∧ R n n = R' n n := by
 obtain ⟨ε, he, hd⟩ := T.dets
 obtain ⟨δ, he', hd'⟩ := T'.dets
 have hsame : ∀ i v, det n (putc (fun k => C (mem k)) i v) = det n (putc (fun k => C (mem' k)) i v) := fun i v => det_congr fun k hk r _ => by
  unfold putc; split
  ·rfl
  ·show C (mem k) r = C (mem' k) r; rw [h k hk]
 have h0 := hd 0 hn (C (mem 0))
 rw [T.vni 0 hn 0 hn, if_pos rfl, hsame, hd' 0 hn, h 0 hn, T'.vni 0 hn 0 hn, if_pos rfl] at h0
 have p := T.dpos
 have p' := T'.dpos
 have hed : ε = δ := by
  rcases Tab.sq_one he with e1 | e1 <;> rcases Tab.sq_one he' with e2 | e2 <;> subst e1 e2 <;> omega
 subst hed
 have hc : ∀ x y : Int, ε * x = ε * y → x = y := fun x y hxy => by
  rcases Tab.sq_one he with e1 | e1 <;> subst e1 <;> omega
 have hR : ∀ k, k < n → ∀ v, fall n R v k = fall n R' v k := fun k hk v => hc _ _ (by rw [← hd k hk, hsame, hd' k hk])
 have hv : ∀ k, k < n → R k n = R' k n := fun k hk => by rw [T.val k hk, T'.val k hk, hR k hk]
 refine ⟨(hc _ _ h0).symm, hv, ?_⟩
 rw [T.all n (Nat.le_refl _), T'.all n (Nat.le_refl _)]
 exact sumZ_congr fun k hk => by rw [h k hk, hv k hk]
/-- The sums of the helpers, before and after. -/
theorem StepT.obj {s s' : St} {e out : Nat} (h : StepT n cols C s s' e out) (g : Good n cols C b s) :
  s'.R n n * s.d ≤ s.R n n * s'.d ∧ (s.R out n ≠ 0 → s'.R n n * s.d < s.R n n * s'.d) := by
 have h1 := (g.1.pivot_all (j := e) (by omega) h.leaves.lt (Nat.le_refl n)).1
 rw [h.eq]
 show pivR n C s.R s.d e out n n * s.d ≤ s.R n n * fall n s.R (C e) out ∧ (_ → pivR n C s.R s.d e out n n * s.d < s.R n n * fall n s.R (C e) out)
 rw [Int.mul_comm (pivR n C s.R s.d e out n n), h1]
 have h2 := g.1.nneg out h.leaves.lt
 have h3 := h.gain
 constructor
 ·have := Int.mul_nonneg h2 (Int.le_of_lt h3); omega
 ·intro hne; have := Int.mul_pos (by omega : 0 < s.R out n) h3; omega
theorem cross_trans {a b c d e f : Int} (hb : 0 < b) (hd : 0 < d) (hf : 0 < f) (h1 : c * b ≤ a * d) (h2 : e * d ≤ c * f) : e * b ≤ a * f := by
 have h3 := Int.mul_le_mul_of_nonneg_right h1 (Int.le_of_lt hf)
 have h4 := Int.mul_le_mul_of_nonneg_right h2 (Int.le_of_lt hb)
 have h5 : d * (e * b) ≤ d * (a * f) := by
  have e1 : c * b * f = c * f * b := by grind
  have e2 : a * d * f = d * (a * f) := by grind
  have e3 : e * d * b = d * (e * b) := by grind
  omega
 exact Int.le_of_mul_le_mul_left h5 hd
theorem cross_trans_lt {a b c d e f : Int} (hb : 0 < b) (hd : 0 < d) (hf : 0 < f) (h1 : c * b ≤ a * d) (h2 : e * d < c * f) : e * b < a * f := by
 have h3 := Int.mul_le_mul_of_nonneg_right h1 (Int.le_of_lt hf)
 have h4 := Int.mul_lt_mul_of_pos_right h2 hb
 have h5 : d * (e * b) < d * (a * f) := by
  have e1 : c * b * f = c * f * b := by grind
  have e2 : a * d * f = d * (a * f) := by grind
  have e3 : e * d * b = d * (e * b) := by grind
  omega
 exact Int.lt_of_mul_lt_mul_left h5 (Int.le_of_lt hd)
/-- A way of exchanges. -/
structure Way (n cols : Nat) (C : Int → Nat → Int) (b : Nat → Int) (L : Nat) (s : Nat → St) (e out : Nat → Nat) : Prop where
 good : Good n cols C b (s 0)
 step : ∀ i, i < L → StepT n cols C (s i) (s (i + 1)) (e i) (out i)
variable {L : Nat} {s : Nat → St} {e out : Nat → Nat}
theorem Way.goods (W : Way n cols C b L s e out) : ∀ i, i ≤ L → Good n cols C b (s i)
 | 0, _ => W.good
 | i + 1, h => (W.step i (by omega)).good (W.goods i (by omega))
theorem Way.obj_le (W : Way n cols C b L s e out) {i : Nat} : ∀ k, i + k ≤ L → (s (i + k)).R n n * (s i).d ≤ (s i).R n n * (s (i + k)).d
 | 0, _ => Int.le_refl _
 | k + 1, h => cross_trans (W.goods i (by omega)).1.dpos (W.goods (i + k) (by omega)).1.dpos (W.goods (i + (k + 1)) (by omega)).1.dpos (W.obj_le k (by omega)) ((W.step (i + k) (by omega)).obj (W.goods (i + k) (by omega))).1
/-- If the members come again, nothing has changed on the way. -/
theorem Way.stood (W : Way n cols C b L s e out) {i j : Nat} (hij : i < j) (hj : j ≤ L) (hm : ∀ k, k < n → (s i).mem k = (s j).mem k) {m : Nat} (h1 : i ≤ m) (h2 : m < j) : (s m).R (out m) n = 0 := by
 have hn : 0 < n := Nat.lt_of_le_of_lt (Nat.zero_le _) (W.step m (by omega)).leaves.lt
 obtain ⟨hd, _, hS⟩ := (W.goods i (by omega)).1.same hn (W.goods j hj).1 hm
 by_cases h0 : (s m).R (out m) n = 0
 ·exact h0
 ·exfalso
  have a1 := W.obj_le (i := i) (m - i) (by omega)
  have a2 := ((W.step m (by omega)).obj (W.goods m (by omega))).2 h0
  have a3 := W.obj_le (i := m + 1) (j - (m + 1)) (by omega)
  rw [show i + (m - i) = m by omega] at a1
  rw [show m + 1 + (j - (m + 1)) = j by omega] at a3
  have p0 := (W.goods i (by omega)).1.dpos
  have p1 := (W.goods m (by omega)).1.dpos
  have p2 := (W.goods (m + 1) (by omega)).1.dpos
  have p3 := (W.goods j (by omega)).1.dpos
  have a4 := cross_trans_lt p0 p1 p2 a1 a2
  have a5 : (s j).R n n * (s i).d < (s i).R n n * (s j).d := by
   have q1 := Int.mul_lt_mul_of_pos_right a4 p3
   have q2 := Int.mul_le_mul_of_nonneg_right a3 (Int.le_of_lt p0)
   generalize (s (m + 1)).d = x at *
   have : x * ((s j).R n n * (s i).d) < x * ((s i).R n n * (s j).d) := by
    have e1 : (s (m + 1)).R n n * (s i).d * (s j).d = (s (m + 1)).R n n * (s j).d * (s i).d := by grind
    have e2 : (s i).R n n * x * (s j).d = x * ((s i).R n n * (s j).d) := by grind
    have e3 : (s j).R n n * x * (s i).d = x * ((s j).R n n * (s i).d) := by grind
    omega
   exact Int.lt_of_mul_lt_mul_left this (Int.le_of_lt p2)
  rw [hS, hd] at a5
  omega
/-- An element that is there and is not there comes in and goes out on a way that comes back. -/
theorem came {P : Nat → Prop} {a : Nat} : ∀ c, ¬ P a → P (a + c) → ∃ m, a ≤ m ∧ m < a + c ∧ ¬ P m ∧ P (m + 1)
 | 0, h1, h2 => absurd h2 h1
 | c + 1, h1, h2 => by
  by_cases h : P (a + c)
  ·obtain ⟨m, x, y, z⟩ := came c h1 h; exact ⟨m, x, by omega, z⟩
  ·exact ⟨a + c, by omega, by omega, h, h2⟩
theorem comes_in {P : Nat → Prop} {i j a c : Nat} (ha : i ≤ a ∧ a ≤ j) (hc : i ≤ c ∧ c ≤ j) (he : P i ↔ P j) (h1 : P a) (h2 : ¬ P c) : ∃ m, i ≤ m ∧ m < j ∧ ¬ P m ∧ P (m + 1) := by
 rcases Nat.lt_or_ge c a with h | h
 ·obtain ⟨m, x, y, z⟩ := came (P := P) (a := c) (a - c) h2 (by rw [show c + (a - c) = a by omega]; exact h1)
  exact ⟨m, by omega, by omega, z⟩
 ·by_cases hj : P j
  ·obtain ⟨m, x, y, z⟩ := came (P := P) (a := c) (j - c) h2 (by rw [show c + (j - c) = j by omega]; exact hj)
   exact ⟨m, by omega, by omega, z⟩
  ·obtain ⟨m, x, y, z⟩ := came (P := P) (a := i) (a - i) (fun h => hj (he.1 h)) (by rw [show i + (a - i) = a by omega]; exact h1)
   exact ⟨m, by omega, by omega, z⟩
theorem greatest (f : Nat → Nat) (i : Nat) : ∀ c, ∃ m, i ≤ m ∧ m ≤ i + c ∧ ∀ k, i ≤ k → k ≤ i + c → f k ≤ f m
 | 0 => ⟨i, Nat.le_refl _, Nat.le_refl _, fun k h1 h2 => by rw [show k = i by omega]; exact Nat.le_refl _⟩
 | c + 1 => by
  obtain ⟨m, h1, h2, h3⟩ := greatest f i c
  by_cases h : f m ≤ f (i + (c + 1))
  ·refine ⟨i + (c + 1), by omega, by omega, fun k k1 k2 => ?_⟩
   by_cases e : k = i + (c + 1)
   ·rw [e]; exact Nat.le_refl _
   ·exact Nat.le_trans (h3 k k1 (by omega)) h
  ·refine ⟨m, h1, by omega, fun k k1 k2 => ?_⟩
   by_cases e : k = i + (c + 1)
   ·rw [e]; omega
   ·exact h3 k k1 (by omega)
def InMem (n : Nat) (s : St) (v : Int) : Prop := ∃ k, k < n ∧ s.mem k = v
theorem StepT.entered {s s' : St} {e out : Nat} (h : StepT n cols C s s' e out) {v : Int} (h1 : ¬ InMem n s v) (h2 : InMem n s' v) : v = e := by
 obtain ⟨k, hk, hv⟩ := h2
 rw [h.eq] at hv
 have hv' : pivM s.mem e out k = v := hv
 unfold pivM at hv'
 split at hv'
 ·exact hv'.symm
 ·exact absurd ⟨k, hk, hv'⟩ h1
theorem StepT.left {s s' : St} {e out : Nat} (h : StepT n cols C s s' e out) {v : Int} (h1 : InMem n s v) (h2 : ¬ InMem n s' v) : s.mem out = v := by
 obtain ⟨k, hk, hv⟩ := h1
 by_cases hko : k = out
 ·rw [← hko]; exact hv
 ·exact absurd ⟨k, hk, by rw [h.eq]; show pivM s.mem e out k = v; unfold pivM; rw [if_neg hko]; exact hv⟩ h2
theorem StepT.new {s s' : St} {e out : Nat} (h : StepT n cols C s s' e out) (g : Good n cols C b s) : ¬ InMem n s e := by
 rintro ⟨k, hk, hv⟩
 have h1 := g.1.gain_mem hk
 rw [hv, if_neg (by omega)] at h1
 have := h.gain; omega
/-- A value that is not 0 keeps its member as long as nothing changes. -/
theorem StepT.keeps {s s' : St} {e out : Nat} (h : StepT n cols C s s' e out) (g : Good n cols C b s) (h0 : s.R out n = 0) {k : Nat} (hk : k < n) (hp : 0 < s.R k n) : 0 < s'.R k n ∧ s'.mem k = s.mem k := by
 have hko : k ≠ out := fun x => by rw [x] at hp; omega
 have h1 := g.1.pivot_row e h.leaves.lt hk hko (Nat.le_refl n)
 rw [h0, Int.zero_mul, Int.sub_zero] at h1
 rw [h.eq]
 show 0 < pivR n C s.R s.d e out k n ∧ pivM s.mem e out k = s.mem k
 constructor
 ·have h2 := Int.mul_pos hp h.leaves.pos
  rw [← h1] at h2
  rcases (by omega : pivR n C s.R s.d e out k n ≤ 0 ∨ 0 < pivR n C s.R s.d e out k n) with h3 | h3
  ·have := Int.mul_nonneg (Int.le_of_lt g.1.dpos) (by omega : 0 ≤ -(pivR n C s.R s.d e out k n))
   rw [Int.mul_neg] at this; omega
  ·exact h3
 ·unfold pivM; rw [if_neg hko]
theorem Way.no_turn (W : Way n cols C b L s e out) {i j : Nat} (hij : i < j) (hj : j ≤ L) (hm : ∀ k, k < n → (s i).mem k = (s j).mem k) (hst : (s i).stalled = (s j).stalled) : False := by
 have h0 : ∀ m, i ≤ m → m < j → (s m).R (out m) n = 0 := fun m h1 h2 => W.stood hij hj hm h1 h2
 have hn : 0 < n := Nat.lt_of_le_of_lt (Nat.zero_le _) (W.step i (by omega)).leaves.lt
 have hs1 : ∀ m, i < m → m ≤ j → (s m).stalled = true := fun m h1 h2 => by
  obtain ⟨m, rfl⟩ : ∃ k, m = k + 1 := ⟨m - 1, by omega⟩
  rw [(W.step m (by omega)).eq]
  show decide _ = true
  rw [h0 m (by omega) (by omega)]; rfl
 have hs : ∀ m, i ≤ m → m < j → (s m).stalled = true := fun m h1 h2 => by
  by_cases x : m = i
  ·rw [x, hst]; exact hs1 j hij (Nat.le_refl _)
  ·exact hs1 m (by omega) (by omega)
 have hio : ∀ v, InMem n (s i) v ↔ InMem n (s j) v := fun v => ⟨fun ⟨k, hk, h⟩ => ⟨k, hk, by rw [← hm k hk]; exact h⟩, fun ⟨k, hk, h⟩ => ⟨k, hk, by rw [hm k hk]; exact h⟩⟩
 -- the greatest that enters
 obtain ⟨m1, a1, a2, a3⟩ := greatest e i (j - i - 1)
 have a2' : m1 < j := by omega
 have S1 := W.step m1 (by omega)
 have G1 := W.goods m1 (by omega)
 have q_new : ¬ InMem n (s m1) (e m1) := S1.new G1
 have q_in : InMem n (s (m1 + 1)) (e m1) := ⟨out m1, S1.leaves.lt, by rw [S1.eq]; show pivM _ _ _ _ = _; unfold pivM; rw [if_pos rfl]⟩
 have hne : ¬ (¬ InMem n (s i) (e m1)) ↔ ¬ (¬ InMem n (s j) (e m1)) := by rw [hio]
 obtain ⟨m2, c1, c2, c3, c4⟩ := comes_in (P := fun m => ¬ InMem n (s m) (e m1)) (i := i) (j := j) (a := m1) (c := m1 + 1) ⟨a1, by omega⟩ ⟨by omega, by omega⟩ (by rw [hio]) q_new (fun h => h q_in)
 have S2 := W.step m2 (by omega)
 have G2 := W.goods m2 (by omega)
 have q_mem2 : InMem n (s m2) (e m1) := Classical.not_not.1 c3
 have q_out : (s m2).mem (out m2) = e m1 := S2.left q_mem2 c4
 have e_new := S2.new G2
 have e_ne : e m2 ≠ e m1 := fun h => e_new (by rw [h]; exact q_mem2)
 have e_le := a3 m2 c1 (by omega)
 have e_lt : e m2 < e m1 := by omega
 have B1 := S1.bland (hs m1 a1 a2')
 -- the sum
 have hsum : (s m2).d * fall n (s m1).R (C (e m2)) n = sumZ (fun k => fall n (s m2).R (C (e m2)) k * fall n (s m1).R (C ((s m2).mem k)) n) n := by
  have x1 : (s m2).d * fall n (s m1).R (C (e m2)) n = sumZ (fun l => sumZ (fun k => fall n (s m2).R (C (e m2)) k * (C ((s m2).mem k) l * (s m1).R n l)) n) n := by
   unfold fall
   rw [← sumZ_mul]
   refine sumZ_congr fun l hl => ?_
   rw [← Int.mul_assoc, G2.1.back (C (e m2)) hl, ← sumZ_mulr]
   exact sumZ_congr fun k _ => by unfold fall; rw [Int.mul_assoc]
  rw [x1, sumZ_comm]
  refine sumZ_congr fun k _ => ?_
  rw [sumZ_mul]; rfl
 have hg2 := G2.1.all_fall (C (e m2))
 have hlt : sumZ (fun k => fall n (s m2).R (C (e m2)) k * (fall n (s m1).R (C ((s m2).mem k)) n - (if (s m2).mem k < 0 then (s m1).d else 0))) n < 0 := by
  have x1 : ∀ k, k < n → fall n (s m2).R (C (e m2)) k * (fall n (s m1).R (C ((s m2).mem k)) n - (if (s m2).mem k < 0 then (s m1).d else 0)) = fall n (s m2).R (C (e m2)) k * fall n (s m1).R (C ((s m2).mem k)) n - (s m1).d * (if (s m2).mem k < 0 then fall n (s m2).R (C (e m2)) k else 0) := fun k _ => by
   split <;> grind
  rw [sumZ_congr x1, sumZ_sub, sumZ_mul, ← hsum, ← hg2]
  have x2 := B1 (e m2) e_lt
  have x3 := Int.mul_pos G1.1.dpos S2.gain
  have x4 := Int.mul_nonneg (Int.le_of_lt G2.1.dpos) (by omega : 0 ≤ -(fall n (s m1).R (C (e m2)) n))
  rw [Int.mul_neg] at x4
  omega
 have hneg : ∃ k, k < n ∧ fall n (s m2).R (C (e m2)) k * (fall n (s m1).R (C ((s m2).mem k)) n - (if (s m2).mem k < 0 then (s m1).d else 0)) < 0 := by
  have x1 : 0 < sumZ (fun k => -(fall n (s m2).R (C (e m2)) k * (fall n (s m1).R (C ((s m2).mem k)) n - (if (s m2).mem k < 0 then (s m1).d else 0)))) n := by rw [sumZ_neg]; omega
  obtain ⟨k, hk, h⟩ := sumZ_pos x1
  exact ⟨k, hk, by omega⟩
 obtain ⟨k, hk, hneg⟩ := hneg
 have hnot : ¬ InMem n (s m1) ((s m2).mem k) := by
  rintro ⟨k', hk', hv⟩
  rw [← hv, G1.1.gain_mem hk', Int.sub_self, Int.mul_zero] at hneg
  omega
 obtain ⟨m3, d1, d2, d3, d4⟩ := comes_in (P := fun m => InMem n (s m) ((s m2).mem k)) (i := i) (j := j) (a := m2) (c := m1) ⟨c1, by omega⟩ ⟨a1, by omega⟩ (hio _) ⟨k, hk, rfl⟩ hnot
 have hv := (W.step m3 (by omega)).entered d3 d4
 have hvq := a3 m3 d1 (by omega)
 rw [hv, if_neg (by omega), Int.sub_zero] at hneg
 by_cases hq : e m3 = e m1
 ·rw [hq] at hneg
  have hk2 : k = out m2 := G2.1.mem_inj hk S2.leaves.lt (by rw [hv, hq, q_out])
  rw [hk2] at hneg
  have := Int.mul_pos S2.leaves.pos S1.gain
  omega
 ·have hle := B1 (e m3) (by omega)
  have hpos : 0 < fall n (s m2).R (C (e m2)) k := by
   rcases (by omega : fall n (s m2).R (C (e m2)) k ≤ 0 ∨ 0 < fall n (s m2).R (C (e m2)) k) with x | x
   ·have := Int.mul_nonneg (by omega : 0 ≤ -(fall n (s m2).R (C (e m2)) k)) (by omega : 0 ≤ -(fall n (s m1).R (C (e m3)) n))
    rw [Int.neg_mul_neg] at this; omega
   ·exact x
  have hz : (s m2).R k n = 0 := by
   rcases (by have := G2.1.nneg k hk; omega : (s m2).R k n = 0 ∨ 0 < (s m2).R k n) with x | x
   ·exact x
   ·exfalso
    have key : ∀ a c, i ≤ a → a + c ≤ j → 0 < (s a).R k n → 0 < (s (a + c)).R k n ∧ (s (a + c)).mem k = (s a).mem k := by
     intro a c ha
     induction c with
     | zero => intro _ hp; exact ⟨hp, rfl⟩
     | succ c ih =>
      intro hc hp
      obtain ⟨y1, y2⟩ := ih (by omega) hp
      obtain ⟨z1, z2⟩ := (W.step (a + c) (by omega)).keeps (W.goods (a + c) (by omega)) (h0 (a + c) (by omega) (by omega)) hk y1
      exact ⟨z1, by rw [show a + (c + 1) = a + c + 1 from rfl, z2, y2]⟩
    obtain ⟨y1, y2⟩ := key m2 (j - m2) c1 (by omega) x
    rw [show m2 + (j - m2) = j by omega] at y1 y2
    obtain ⟨_, hsR, _⟩ := (W.goods i (by omega)).1.same hn (W.goods j hj).1 hm
    rw [← hsR k hk] at y1
    obtain ⟨z1, z2⟩ := key i (m1 - i) (Nat.le_refl _) (by omega) y1
    rw [show i + (m1 - i) = m1 by omega] at z2
    exact hnot ⟨k, hk, by rw [z2, hm k hk, y2]⟩
  have htie := S2.tie k hk hpos (by rw [hz, h0 m2 c1 c2, Int.zero_mul, Int.zero_mul])
  rw [q_out, hv] at htie
  omega
theorem pigeon : ∀ (K : Nat) (f : Nat → Nat), (∀ i, i ≤ K → f i < K) → ∃ i j, i < j ∧ j ≤ K ∧ f i = f j
 | 0, f, h => by have := h 0 (Nat.le_refl _); omega
 | K + 1, f, h => by
  by_cases hx : ∃ i, i ≤ K ∧ f i = f (K + 1)
  ·obtain ⟨i, h1, h2⟩ := hx; exact ⟨i, K + 1, by omega, Nat.le_refl _, h2⟩
  ·have hl := h (K + 1) (Nat.le_refl _)
   obtain ⟨i, j, h1, h2, h3⟩ := pigeon K (fun i => if f i < f (K + 1) then f i else f i - 1) (fun i hi => by
    have h1 : f i ≠ f (K + 1) := fun x => hx ⟨i, hi, x⟩
    have h2 := h i (by omega)
    show (if f i < f (K + 1) then f i else f i - 1) < K
    split <;> omega)
   refine ⟨i, j, h1, by omega, ?_⟩
   have n1 : f i ≠ f (K + 1) := fun x => hx ⟨i, by omega, x⟩
   have n2 : f j ≠ f (K + 1) := fun x => hx ⟨j, by omega, x⟩
   split at h3 <;> split at h3 <;> omega
/-- The members as one number. -/
def codeM (b : Nat) (f : Nat → Nat) : Nat → Nat
 | 0 => 0
 | n + 1 => codeM b f n * b + f n
theorem codeM_lt (b : Nat) (f : Nat → Nat) : ∀ n, (∀ k, k < n → f k < b) → codeM b f n < b ^ n
 | 0, _ => by simp [codeM]
 | n + 1, h => by
  have h1 := codeM_lt b f n (fun k hk => h k (by omega))
  have h2 := h n (by omega)
  rw [codeM, Nat.pow_succ]
  have : (codeM b f n + 1) * b ≤ b ^ n * b := Nat.mul_le_mul_right b h1
  rw [Nat.add_mul, Nat.one_mul] at this
  omega
theorem codeM_inj (b : Nat) (f g : Nat → Nat) : ∀ n, (∀ k, k < n → f k < b) → (∀ k, k < n → g k < b) → codeM b f n = codeM b g n → ∀ k, k < n → f k = g k
 | n + 1, hf, hg, h, k, hk => by
  rw [codeM, codeM] at h
  have h1 := hf n (by omega)
  have h2 := hg n (by omega)
  have e1 : (codeM b f n * b + f n) % b = f n := by rw [Nat.mul_comm, Nat.mul_add_mod]; exact Nat.mod_eq_of_lt h1
  have e2 : (codeM b g n * b + g n) % b = g n := by rw [Nat.mul_comm, Nat.mul_add_mod]; exact Nat.mod_eq_of_lt h2
  have e3 : f n = g n := by rw [← e1, ← e2, h]
  by_cases e : k = n
  ·rw [e]; exact e3
  ·refine codeM_inj b f g n (fun k hk => hf k (by omega)) (fun k hk => hg k (by omega)) ?_ k (by omega)
   rw [e3] at h
   exact Nat.eq_of_mul_eq_mul_right (by omega : 0 < b) (by omega)
/-- How many exchanges there may be at most. -/
def maxWay (n cols : Nat) : Nat := 2 * (n + cols) ^ n
theorem Way.short (W : Way n cols C b L s e out) : L < maxWay n cols := by
 rcases Nat.lt_or_ge L (maxWay n cols) with h | hL
 ·exact h
 ·exfalso
  let f : Nat → Nat → Nat := fun i k => ((s i).mem k + n).toNat
  have hf : ∀ i, i ≤ L → ∀ k, k < n → f i k < n + cols := fun i hi k hk => by
   have := (W.goods i hi).2 k hk
   show ((s i).mem k + n).toNat < n + cols
   omega
  obtain ⟨i, j, h1, h2, h3⟩ := pigeon (maxWay n cols) (fun i => 2 * codeM (n + cols) (f i) n + (if (s i).stalled then 1 else 0)) (fun i hi => by
   have := codeM_lt (n + cols) (f i) n (hf i (by omega))
   unfold maxWay
   show 2 * _ + (if (s i).stalled then 1 else 0) < _
   split <;> omega)
  have h4 : codeM (n + cols) (f i) n = codeM (n + cols) (f j) n ∧ (s i).stalled = (s j).stalled := by
   cases hi : (s i).stalled <;> cases hj : (s j).stalled <;> simp [hi, hj] at h3 ⊢ <;> omega
  refine W.no_turn h1 (by omega) (fun k hk => ?_) h4.2
  have h5 := codeM_inj (n + cols) (f i) (f j) n (hf i (by omega)) (hf j (by omega)) h4.1 k hk
  have g1 := (W.goods i (by omega)).2 k hk
  have g2 := (W.goods j (by omega)).2 k hk
  have h6 : ((s i).mem k + n).toNat = ((s j).mem k + n).toNat := h5
  omega
end
end Putlog
/- LinEnds: Plain mathematics of layer 6: the first table, what the last one says, which member leaves, and how great the numbers of a table may be. Nothing of the program. -/
namespace Putlog

section
variable {n cols : Nat} {A : Nat → Nat → Int} {b : Nat → Int}

def sgV (b : Nat → Int) (k : Nat) : Int := if b k < 0 then -1 else 1
theorem sgV_sq (b : Nat → Int) (k : Nat) : sgV b k * sgV b k = 1 := by unfold sgV; split <;> rfl
/-- The columns of a system: of variables and helpers. -/
def sysC (n : Nat) (A : Nat → Nat → Int) (b : Nat → Int) : Int → Nat → Int := colOf n A (sgV b)
theorem sysC_var (j : Nat) : sysC n A b (j : Int) = A j := by
 funext i; unfold sysC colOf; rw [if_pos (by omega)]; rfl
theorem sysC_help {k : Nat} (hk : k < n) : sysC n A b ((k : Int) - n) = fun i => if i = k then sgV b k else 0 := by
 funext i; unfold sysC colOf; rw [if_neg (by omega)]
 by_cases e : i = k
 ·subst e; rw [if_pos (by omega), if_pos rfl]
 ·rw [if_neg (by omega), if_neg e]
def rowH (n : Nat) (b : Nat → Int) (k i : Nat) : Int := if i = n then sgV b k * b k else if i = k then sgV b k else 0
def startR (n : Nat) (b : Nat → Int) (k i : Nat) : Int := if k = n then sumZ (fun k => rowH n b k i) n else rowH n b k i
def startM (n : Nat) (k : Nat) : Int := (k : Int) - n
theorem start_fall {k : Nat} (hk : k < n) (v : Nat → Int) : fall n (startR n b) v k = sgV b k * v k := by
 unfold fall
 rw [sumZ_one hk]
 ·unfold startR rowH; rw [if_neg (by omega), if_neg (by omega), if_pos rfl, Int.mul_comm]
 ·intro i hi hne
  unfold startR rowH; rw [if_neg (by omega), if_neg (by omega), if_neg hne, Int.mul_zero]
def startS (n : Nat) (b : Nat → Int) : St := ⟨startM n, startR n b, 1, false⟩
theorem start_good : Good n cols (sysC n A b) b (startS n b) := by
 refine ⟨⟨Int.one_pos, ?_, ?_, ?_, ?_, ?_, ?_⟩, fun k hk => ?_⟩
 ·have hM : ∀ k, k < n → ∀ r, r < n → sysC n A b (startM n k) r = (if r = k then sgV b k else 0) := fun k hk r _ => by
   unfold startM; rw [sysC_help hk]
  have hD : det n (fun k => sysC n A b (startM n k)) = det n (fun k r => if r = k then sgV b k else 0) := det_congr hM
  refine ⟨det n (fun k r => if r = k then sgV b k else 0), det_diag _ (sgV_sq b) n, fun i hi v => ?_⟩
  show det n (putc (fun k => sysC n A b (startM n k)) i v) = _ * fall n (startR n b) v i
  rw [start_fall hi, ← hD]
  have h1 : det n (putc (fun k => sysC n A b (startM n k)) i v) = det n (putc (fun k => sysC n A b (startM n k)) i (fun r => sumZ (fun l => (v l * sgV b l) * sysC n A b (startM n l) r) n)) := by
   refine det_congr fun k _ r hr => ?_
   by_cases e : k = i
   ·subst e
    rw [putc_same, putc_same, sumZ_one hr]
    ·rw [hM r hr r hr, if_pos rfl, Int.mul_assoc, sgV_sq, Int.mul_one]
    ·intro l hl hne; rw [hM l hl r hr, if_neg (fun h => hne h.symm), Int.mul_zero]
   ·rw [putc_other _ _ e, putc_other _ _ e]
  rw [h1, det_sum _ hi, sumZ_one hi]
  ·have := putc_self (fun k => sysC n A b (startM n k)) i
   rw [this]; grind
  ·intro l hl hne
   rw [det_same _ hl hi hne (by rw [putc_same, putc_other _ _ hne]), Int.mul_zero]
 ·intro i hi l hl
  show sumZ (fun k => sysC n A b (startM n k) i * startR n b k l) n = if i = l then 1 else 0
  rw [sumZ_one hi]
  ·unfold startM; rw [sysC_help hi]; unfold startR rowH
   simp only [if_pos]
   rw [if_neg (by omega), if_neg (by omega)]
   by_cases e : l = i
   ·rw [if_pos e, if_pos e.symm, sgV_sq]
   ·rw [if_neg e, if_neg (fun h => e h.symm), Int.mul_zero]
  ·intro k hk hne
   unfold startM; rw [sysC_help hk]
   simp only [if_neg (fun h : i = k => hne h.symm), Int.zero_mul]
 ·intro k hk j hj
  show fall n (startR n b) (sysC n A b (startM n j)) k = if k = j then 1 else 0
  rw [start_fall hk]; unfold startM; rw [sysC_help hj]
  show sgV b k * (if k = j then sgV b j else 0) = _
  by_cases e : k = j
  ·subst e; rw [if_pos rfl, if_pos rfl, sgV_sq]
  ·rw [if_neg e, if_neg e, Int.mul_zero]
 ·intro k hk
  show startR n b k n = fall n (startR n b) b k
  rw [start_fall hk]; unfold startR rowH; rw [if_neg (by omega), if_pos rfl]
 ·intro l hl
  show startR n b n l = sumZ (fun k => if startM n k < 0 then startR n b k l else 0) n
  unfold startR; rw [if_pos rfl]
  refine sumZ_congr fun k hk => ?_
  unfold startM; rw [if_pos (by omega), if_neg (by omega)]
 ·intro k hk
  show 0 ≤ startR n b k n
  unfold startR rowH sgV; rw [if_neg (by omega), if_pos rfl]
  split <;> omega
 ·show -(n : Int) ≤ startM n k ∧ startM n k < cols
  unfold startM; omega
/-- The values of the variables. -/
def ptX (n : Nat) (s : St) (j : Nat) : Int := sumZ (fun k => if s.mem k = j then s.R k n else 0) n
theorem ptX_mem {C : Int → Nat → Int} {s : St} (g : Good n cols C b s) {k : Nat} (hk : k < n) {j : Nat} (h : s.mem k = j) : ptX n s j = s.R k n := by
 unfold ptX
 rw [sumZ_one hk]
 ·rw [if_pos h]
 ·intro i hi hne; rw [if_neg (fun x => hne (g.1.mem_inj hi hk (by rw [x, h])))]
theorem ptX_no {s : St} {j : Nat} (h : ∀ k, k < n → s.mem k ≠ j) : ptX n s j = 0 := sumZ_zero fun k hk => if_neg (h k hk)
theorem ptX_nonneg {C : Int → Nat → Int} {s : St} (g : Good n cols C b s) (j : Nat) : 0 ≤ ptX n s j := sumZ_nonneg fun k hk => by
 show 0 ≤ if s.mem k = j then s.R k n else 0
 split
 ·exact g.1.nneg k hk
 ·exact Int.le_refl _
/-- If the sum of the helpers is 0, the values solve the system. -/
theorem ends_found {s : St} (g : Good n cols (sysC n A b) b s) (h0 : s.R n n = 0) : ∀ r, r < n → sumZ (fun j => A j r * ptX n s j) cols = s.d * b r := by
 intro r hr
 have hh : ∀ k, k < n → s.mem k < 0 → s.R k n = 0 := by
  have h1 := g.1.all n (Nat.le_refl _)
  rw [h0] at h1
  intro k hk hm
  have := sumZ_all_zero (f := fun k => if s.mem k < 0 then s.R k n else 0) (n := n) (fun k hk => by
   show 0 ≤ if s.mem k < 0 then s.R k n else 0
   split
   ·exact g.1.nneg k hk
   ·exact Int.le_refl _) h1.symm k hk
  rw [if_pos hm] at this; exact this
 rw [g.1.back b hr]
 have h1 : ∀ j, j < cols → A j r * ptX n s j = sumZ (fun k => if s.mem k = j then A j r * s.R k n else 0) n := fun j _ => by
  unfold ptX; rw [← sumZ_mul]
  exact sumZ_congr fun k _ => by split <;> simp
 rw [sumZ_congr h1, sumZ_comm]
 refine sumZ_congr fun k hk => ?_
 rw [← g.1.val k hk]
 by_cases hm : s.mem k < 0
 ·rw [hh k hk hm, Int.zero_mul]
  exact sumZ_zero fun j _ => by split <;> simp
 ·obtain ⟨j, hj⟩ : ∃ j : Nat, s.mem k = j := ⟨(s.mem k).toNat, by omega⟩
  have := g.2 k hk
  rw [sumZ_one (k := j) (by omega)]
  ·rw [if_pos hj, hj, sysC_var, Int.mul_comm]
  ·intro i _ hne; rw [if_neg (by omega)]
/-- If no variable lowers the sum of the helpers, the last row's weights refute the system. -/
theorem ends_refuted {s : St} (g : Good n cols (sysC n A b) b s) (h0 : s.R n n ≠ 0) (hg : ∀ j : Nat, j < cols → fall n s.R (A j) n ≤ 0) :
  (∀ j, j < cols → 0 ≤ sumZ (fun l => A j l * -(s.R n l)) n) ∧ sumZ (fun l => b l * -(s.R n l)) n < 0 := by
 have hn : ∀ v : Nat → Int, sumZ (fun l => v l * -(s.R n l)) n = -(fall n s.R v n) := fun v => by
  unfold fall; rw [← sumZ_neg]; exact sumZ_congr fun l _ => by rw [Int.mul_neg]
 refine ⟨fun j hj => by rw [hn]; have := hg j hj; omega, ?_⟩
 rw [hn, g.1.all_fall b]
 have h1 : sumZ (fun k => if s.mem k < 0 then fall n s.R b k else 0) n = s.R n n := by
  rw [g.1.all n (Nat.le_refl _)]
  exact sumZ_congr fun k hk => by rw [g.1.val k hk]
 rw [h1]
 have h2 : 0 ≤ s.R n n := by
  rw [g.1.all n (Nat.le_refl _)]
  refine sumZ_nonneg fun k hk => ?_
  show 0 ≤ if s.mem k < 0 then s.R k n else 0
  split
  ·exact g.1.nneg k hk
  ·exact Int.le_refl _
 omega
/-- Never both. -/
theorem never_both {x w : Nat → Int} {d : Int} (hd : 0 < d) (hx : ∀ j, j < cols → 0 ≤ x j) (h : ∀ r, r < n → sumZ (fun j => A j r * x j) cols = d * b r) (hw : ∀ j, j < cols → 0 ≤ sumZ (fun l => A j l * w l) n) (hb : sumZ (fun l => b l * w l) n < 0) : False := by
 have h1 : sumZ (fun j => x j * sumZ (fun l => A j l * w l) n) cols = d * sumZ (fun l => b l * w l) n := by
  have e1 : ∀ j, j < cols → x j * sumZ (fun l => A j l * w l) n = sumZ (fun l => w l * (A j l * x j)) n := fun j _ => by
   rw [← sumZ_mul]; exact sumZ_congr fun l _ => by grind
  rw [sumZ_congr e1, sumZ_comm, ← sumZ_mul]
  refine sumZ_congr fun l hl => ?_
  rw [sumZ_mul, h l hl]; grind
 have h2 : 0 ≤ sumZ (fun j => x j * sumZ (fun l => A j l * w l) n) cols := sumZ_nonneg fun j hj => Int.mul_nonneg (hx j hj) (hw j hj)
 have h3 := Int.mul_neg_of_pos_of_neg hd hb
 omega
/-- Which member leaves, among the first ones. -/
structure Lv (n : Nat) (f : Nat → Int) (s : St) (k : Nat) (out : Int) : Prop where
 none : out = -1 → ∀ i, i < k → f i ≤ 0
 some : out ≠ -1 → ∃ o : Nat, out = o ∧ o < k ∧ 0 < f o ∧ ∀ i, i < k → 0 < f i → s.R o n * f i ≤ s.R i n * f o ∧ (s.R i n * f o = s.R o n * f i → s.mem o ≤ s.mem i)
theorem Lv.zero (n : Nat) (f : Nat → Int) (s : St) : Lv n f s 0 (-1) := ⟨fun _ i h => by omega, fun h => absurd rfl h⟩
theorem Lv.skip {f : Nat → Int} {s : St} {k : Nat} {out : Int} (h : Lv n f s k out) (hf : f k ≤ 0) : Lv n f s (k + 1) out := by
 refine ⟨fun h0 i hi => ?_, fun h0 => ?_⟩
 ·by_cases e : i = k
  ·rw [e]; exact hf
  ·exact h.none h0 i (by omega)
 ·obtain ⟨o, e1, e2, e3, e4⟩ := h.some h0
  refine ⟨o, e1, by omega, e3, fun i hi hp => ?_⟩
  by_cases e : i = k
  ·rw [e] at hp; omega
  ·exact e4 i (by omega) hp
theorem Lv.first {f : Nat → Int} {s : St} {k : Nat} (h : Lv n f s k (-1)) (hf : 0 < f k) : Lv n f s (k + 1) k := by
 refine ⟨fun h0 => by omega, fun _ => ⟨k, rfl, by omega, hf, fun i hi hp => ?_⟩⟩
 by_cases e : i = k
 ·subst e; exact ⟨Int.le_refl _, fun _ => Int.le_refl _⟩
 ·have := h.none rfl i (by omega); omega
theorem Lv.keep {f : Nat → Int} {s : St} {k o : Nat} (h : Lv n f s k o) (hl : 0 ≤ s.R k n * f o - s.R o n * f k) (he : s.R k n * f o - s.R o n * f k = 0 → s.mem o ≤ s.mem k) : Lv n f s (k + 1) o := by
 refine ⟨fun h0 => by omega, fun h0 => ?_⟩
 obtain ⟨o', e1, e2, e3, e4⟩ := h.some h0
 obtain rfl : o = o' := by omega
 refine ⟨o, rfl, by omega, e3, fun i hi hp => ?_⟩
 by_cases e : i = k
 ·subst e; exact ⟨by omega, fun x => he (by omega)⟩
 ·exact e4 i (by omega) hp
theorem Lv.change {f : Nat → Int} {s : St} {k o : Nat} (h : Lv n f s k o) (hf : 0 < f k) (hl : s.R k n * f o - s.R o n * f k < 0 ∨ s.R k n * f o - s.R o n * f k = 0 ∧ s.mem k < s.mem o) : Lv n f s (k + 1) k := by
 refine ⟨fun h0 => by omega, fun _ => ?_⟩
 obtain ⟨o', e1, e2, e3, e4⟩ := h.some (by omega)
 obtain rfl : o = o' := by omega
 refine ⟨k, rfl, by omega, hf, fun i hi hp => ?_⟩
 by_cases e : i = k
 ·subst e; exact ⟨Int.le_refl _, fun _ => Int.le_refl _⟩
 ·obtain ⟨h1, h2⟩ := e4 i (by omega) hp
  have h3 : s.R k n * f o ≤ s.R o n * f k := by omega
  have h4 : s.R k n * f i ≤ s.R i n * f k := cross_trans hp e3 hf h1 h3
  refine ⟨h4, fun heq => ?_⟩
  by_cases hs : s.R k n * f o < s.R o n * f k
  ·have := cross_trans_lt hp e3 hf h1 hs; omega
  ·have heq2 : s.R i n * f o = s.R o n * f i := by
    by_cases h5 : s.R o n * f i < s.R i n * f o
    ·exfalso
     have x1 := Int.mul_lt_mul_of_pos_right h5 hf
     have x0 : s.R k n * f o = s.R o n * f k := by omega
     have x2 : s.R o n * f i * f k = s.R k n * f o * f i := by grind
     have x3 : s.R i n * f o * f k = f o * (s.R i n * f k) := by grind
     have x4 : s.R k n * f o * f i = f o * (s.R k n * f i) := by grind
     rw [x2, x3, x4, heq] at x1
     omega
    ·omega
   have := h2 heq2
   omega
theorem Lv.done {C : Int → Nat → Int} {s : St} (g : Good n cols C b s) {e : Nat} (hg : 0 < fall n s.R (C e) n) {out : Int} (h : Lv n (fall n s.R (C e)) s n out) :
  ∃ o : Nat, out = o ∧ Leaves n C s.R e o ∧ ∀ k, k < n → 0 < fall n s.R (C e) k → s.R k n * fall n s.R (C e) o = s.R o n * fall n s.R (C e) k → s.mem o ≤ s.mem k := by
 by_cases h0 : out = -1
 ·exfalso
  rw [g.1.all_fall] at hg
  obtain ⟨i, hi, hp⟩ := sumZ_pos hg
  have := h.none h0 i hi
  split at hp <;> omega
 ·obtain ⟨o, e1, e2, e3, e4⟩ := h.some h0
  exact ⟨o, e1, ⟨e2, e3, fun k hk hp => (e4 k hk hp).1⟩, fun k hk hp => (e4 k hk hp).2⟩
/-- How great the numbers of a table may be. -/
def limD (n : Nat) (X : Int) : Int := facZ n * prodZ (fun _ => X) n
theorem tab_bound {C : Int → Nat → Int} {s : St} (g : Good n cols C b s) {X : Int} (hX : 1 ≤ X) (hC : ∀ v : Int, -(n : Int) ≤ v → v < cols → ∀ r, -X ≤ C v r ∧ C v r ≤ X) (v : Nat → Int) (hv : ∀ r, -X ≤ v r ∧ v r ≤ X) {k : Nat} (hk : k < n) : -(limD n X) ≤ fall n s.R v k ∧ fall n s.R v k ≤ limD n X := by
 obtain ⟨ε, he, hd⟩ := g.1.dets
 have h1 := det_bound (fun _ => X) (fun _ => by omega) n (putc (fun k => C (s.mem k)) k v) (fun j hj r => by
  by_cases e : j = k
  ·subst e; rw [putc_same]; exact hv r
  ·rw [putc_other _ _ e]; exact hC _ (g.2 j hj).1 (g.2 j hj).2 r)
 rw [hd k hk v] at h1
 have h2 : -(limD n X) ≤ ε * fall n s.R v k ∧ ε * fall n s.R v k ≤ limD n X := h1
 rcases Tab.sq_one he with e | e <;> subst e <;> omega
theorem tab_bound_all {C : Int → Nat → Int} {s : St} (g : Good n cols C b s) {X : Int} (hX : 1 ≤ X) (hC : ∀ v : Int, -(n : Int) ≤ v → v < cols → ∀ r, -X ≤ C v r ∧ C v r ≤ X) (v : Nat → Int) (hv : ∀ r, -X ≤ v r ∧ v r ≤ X) : -(n * limD n X) ≤ fall n s.R v n ∧ fall n s.R v n ≤ n * limD n X := by
 rw [g.1.all_fall]
 refine sumZ_bound fun k hk => ?_
 have := tab_bound g hX hC v hv hk
 show -(limD n X) ≤ (if s.mem k < 0 then fall n s.R v k else 0) ∧ _
 split <;> omega
end
end Putlog
/- IntPure: Plain mathematics of layer 3: lists of digits to a base, the lowest one first; the decimal text of a number. Nothing of the program. -/
namespace Putlog

/-- The number of a list of digits to the base B, the lowest one first. -/
def leV (B : Nat) : List Nat → Nat
 | [] => 0
 | x :: l => x + B * leV B l
theorem leV_append (B : Nat) : ∀ (l r : List Nat), leV B (l ++ r) = leV B l + B ^ l.length * leV B r
 | [], r => by simp [leV]
 | x :: l, r => by
  simp only [List.cons_append, leV, leV_append B l r, List.length_cons, Nat.pow_succ]
  rw [Nat.mul_add, Nat.add_assoc, Nat.mul_comm (B ^ l.length) B, Nat.mul_assoc]
theorem leV_snoc (B : Nat) (l : List Nat) (x : Nat) : leV B (l ++ [x]) = leV B l + B ^ l.length * x := by
 rw [leV_append]; simp [leV]
theorem leV_zeros (B n : Nat) : leV B (List.replicate n 0) = 0 := by
 induction n with
 | zero => rfl
 | succ n ih => rw [List.replicate_succ, leV, ih]; rfl
/-- All digits are less than the base. -/
def DigB (B : Nat) (l : List Nat) : Prop := ∀ x ∈ l, x < B
theorem DigB.nil (B : Nat) : DigB B [] := fun x h => by cases h
theorem DigB.cons {B x : Nat} {l : List Nat} (hx : x < B) (h : DigB B l) : DigB B (x :: l) := fun y hy => by
 rcases List.mem_cons.1 hy with rfl | hy
 ·exact hx
 ·exact h y hy
theorem DigB.tail {B x : Nat} {l : List Nat} (h : DigB B (x :: l)) : DigB B l := fun y hy => h y (List.mem_cons_of_mem _ hy)
theorem DigB.append {B : Nat} {l r : List Nat} (h : DigB B l) (k : DigB B r) : DigB B (l ++ r) := fun y hy => (List.mem_append.1 hy).elim (h y) (k y)
theorem DigB.left {B : Nat} {l r : List Nat} (h : DigB B (l ++ r)) : DigB B l := fun y hy => h y (List.mem_append_left _ hy)
theorem DigB.right {B : Nat} {l r : List Nat} (h : DigB B (l ++ r)) : DigB B r := fun y hy => h y (List.mem_append_right _ hy)
theorem leV_lt {B : Nat} : ∀ {l : List Nat}, DigB B l → leV B l < B ^ l.length
 | [], _ => by simp [leV]
 | x :: l, h => by
  have h1 := leV_lt h.tail
  have h2 := h x (List.mem_cons_self ..)
  simp only [leV, List.length_cons, Nat.pow_succ]
  have h3 : B * (leV B l + 1) ≤ B * B ^ l.length := Nat.mul_le_mul_left _ h1
  rw [Nat.mul_comm (B ^ l.length) B]
  rw [Nat.mul_add, Nat.mul_one] at h3
  omega
/-- Nothing stands in front that could be left out. -/
def Norm (l : List Nat) : Prop := l.getLast? ≠ some 0
theorem Norm.nil : Norm [] := by simp [Norm]
theorem Norm.snoc {l : List Nat} {x : Nat} (h : x ≠ 0) : Norm (l ++ [x]) := by simp [Norm, h]
theorem norm_cases (l : List Nat) : l = [] ∨ ∃ r x, l = r ++ [x] := by
 rcases List.eq_nil_or_concat l with h | ⟨r, x, h⟩
 ·exact .inl h
 ·exact .inr ⟨r, x, by simpa using h⟩
theorem Norm.last {l : List Nat} {x : Nat} (h : Norm (l ++ [x])) : x ≠ 0 := by simpa [Norm] using h
theorem norm_ge {B : Nat} (_hB : 2 ≤ B) {l : List Nat} {x : Nat} (h : Norm (l ++ [x])) : B ^ l.length ≤ leV B (l ++ [x]) := by
 rw [leV_snoc]
 have := h.last
 have h1 : B ^ l.length * 1 ≤ B ^ l.length * x := Nat.mul_le_mul_left _ (by omega)
 omega
theorem leV_pos {B : Nat} (hB : 2 ≤ B) {l : List Nat} (hn : Norm l) (h : l ≠ []) : 0 < leV B l := by
 rcases norm_cases l with rfl | ⟨r, x, rfl⟩
 ·exact absurd rfl h
 ·have := norm_ge hB hn
  have h2 : 0 < B ^ r.length := Nat.pow_pos (by omega)
  omega
theorem leV_eq_zero {B : Nat} (hB : 2 ≤ B) {l : List Nat} (hn : Norm l) : leV B l = 0 ↔ l = [] := by
 constructor
 ·intro h
  rcases norm_cases l with rfl | ⟨r, x, rfl⟩
  ·rfl
  ·have := leV_pos hB hn (by simp)
   omega
 ·rintro rfl; rfl
/-- A longer list is a greater number. -/
theorem leV_len_lt {B : Nat} (hB : 2 ≤ B) {a b : List Nat} (ha : DigB B a) (hb : Norm b) (h : a.length < b.length) : leV B a < leV B b := by
 rcases norm_cases b with rfl | ⟨r, x, rfl⟩
 ·simp at h
 ·have h1 := leV_lt ha
  have h2 := norm_ge hB hb
  have h3 : B ^ a.length ≤ B ^ r.length := Nat.pow_le_pow_right (by omega) (by simp at h; omega)
  omega
theorem leV_inj {B : Nat} (hB : 2 ≤ B) : ∀ {a b : List Nat}, DigB B a → DigB B b → a.length = b.length → leV B a = leV B b → a = b
 | [], [], _, _, _, _ => rfl
 | [], _ :: _, _, _, h, _ => by simp at h
 | _ :: _, [], _, _, h, _ => by simp at h
 | x :: a, y :: b, ha, hb, hl, hv => by
  have h1 := ha x (List.mem_cons_self ..)
  have h2 := hb y (List.mem_cons_self ..)
  simp only [leV] at hv
  have h3 : (x + B * leV B a) % B = (y + B * leV B b) % B := by rw [hv]
  rw [Nat.add_mul_mod_self_left, Nat.add_mul_mod_self_left, Nat.mod_eq_of_lt h1, Nat.mod_eq_of_lt h2] at h3
  subst h3
  have h4 : leV B a = leV B b := Nat.eq_of_mul_eq_mul_left (show 0 < B by omega) (by omega)
  rw [leV_inj hB ha.tail hb.tail (by simpa using hl) h4]
theorem leV_unique {B : Nat} (hB : 2 ≤ B) {a b : List Nat} (ha : DigB B a) (hb : DigB B b) (na : Norm a) (nb : Norm b) (h : leV B a = leV B b) : a = b := by
 rcases Nat.lt_trichotomy a.length b.length with hl | hl | hl
 ·have := leV_len_lt hB ha nb hl; omega
 ·exact leV_inj hB ha hb hl h
 ·have := leV_len_lt hB hb na hl; omega
/-- The highest digits in which two lists of one length differ decide. -/
theorem leV_top {B : Nat} {a b t : List Nat} {x y : Nat} (ha : DigB B a) (hl : a.length = b.length) (h : x < y) : leV B (a ++ x :: t) < leV B (b ++ y :: t) := by
 rw [leV_append, leV_append, leV, leV, ← hl]
 have h1 := leV_lt ha
 have h2 : B ^ a.length * (x + B * leV B t) + B ^ a.length ≤ B ^ a.length * (y + B * leV B t) := by
  rw [← Nat.mul_succ]
  exact Nat.mul_le_mul_left _ (by omega)
 omega
/-- A list without zeros in front. -/
def trimL (l : List Nat) : List Nat := (l.reverse.dropWhile (· == 0)).reverse
theorem trimL_zero (l : List Nat) : trimL (l ++ [0]) = trimL l := by simp [trimL]
theorem trimL_keep {l : List Nat} {x : Nat} (h : x ≠ 0) : trimL (l ++ [x]) = l ++ [x] := by simp [trimL, h]
theorem trimL_norm (l : List Nat) : Norm (trimL l) := by
 suffices h : ∀ n (l : List Nat), l.length ≤ n → Norm (trimL l) from h _ l (Nat.le_refl _)
 intro n
 induction n with
 | zero => intro l hl; have : l = [] := List.length_eq_zero_iff.1 (by omega); subst this; exact Norm.nil
 | succ n ih =>
  intro l hl
  rcases norm_cases l with rfl | ⟨r, x, rfl⟩
  ·exact Norm.nil
  ·by_cases h : x = 0
   ·subst h; rw [trimL_zero]; exact ih r (by simp at hl; omega)
   ·rw [trimL_keep h]; exact Norm.snoc h
theorem trimL_val (B : Nat) (l : List Nat) : leV B (trimL l) = leV B l := by
 suffices h : ∀ n (l : List Nat), l.length ≤ n → leV B (trimL l) = leV B l from h _ l (Nat.le_refl _)
 intro n
 induction n with
 | zero => intro l hl; have : l = [] := List.length_eq_zero_iff.1 (by omega); subst this; rfl
 | succ n ih =>
  intro l hl
  rcases norm_cases l with rfl | ⟨r, x, rfl⟩
  ·rfl
  ·by_cases h : x = 0
   ·subst h; rw [trimL_zero, ih r (by simp at hl; omega), leV_snoc]; simp
   ·rw [trimL_keep h]
theorem trimL_dig {B : Nat} {l : List Nat} (h : DigB B l) : DigB B (trimL l) := fun x hx => by
 refine h x ?_
 simp only [trimL, List.mem_reverse] at hx
 have := (List.dropWhile_sublist (· == 0)).subset hx
 simpa using this
/-- The digits of a number. -/
def digsL (B n : Nat) : List Nat := if _h : n = 0 ∨ B < 2 then [] else n % B :: digsL B (n / B)
 termination_by n
 decreasing_by exact Nat.div_lt_self (by omega) (by omega)
theorem digsL_zero (B : Nat) : digsL B 0 = [] := by rw [digsL, dif_pos (.inl rfl)]
theorem digsL_pos {B n : Nat} (hB : 2 ≤ B) (h : 0 < n) : digsL B n = n % B :: digsL B (n / B) := by rw [digsL, dif_neg (by omega)]
theorem digsL_spec {B : Nat} (hB : 2 ≤ B) (k : Nat) : ∀ n, n ≤ k → leV B (digsL B n) = n ∧ DigB B (digsL B n) ∧ Norm (digsL B n) := by
 induction k with
 | zero =>
  intro n h; obtain rfl : n = 0 := by omega
  rw [digsL_zero]; exact ⟨rfl, DigB.nil _, Norm.nil⟩
 | succ k ih =>
  intro n h
  rcases Nat.eq_zero_or_pos n with rfl | h0
  ·rw [digsL_zero]; exact ⟨rfl, DigB.nil _, Norm.nil⟩
  ·have h1 : n / B < n := Nat.div_lt_self h0 (by omega)
   obtain ⟨i1, i2, i3⟩ := ih (n / B) (by omega)
   rw [digsL_pos hB h0]
   refine ⟨by rw [leV, i1]; exact Nat.mod_add_div n B, DigB.cons (Nat.mod_lt _ (by omega)) i2, ?_⟩
   rcases norm_cases (digsL B (n / B)) with h2 | ⟨r, x, h2⟩
   ·rw [h2]
    have h3 : n / B = 0 := by rw [← i1, h2]; rfl
    have h4 : n % B = n := Nat.mod_eq_of_lt ((Nat.div_eq_zero_iff_lt (by omega)).1 h3)
    rw [h4]
    simp [Norm]; omega
   ·rw [h2] at i3 ⊢
    rw [← List.cons_append]
    exact Norm.snoc i3.last
theorem leV_digsL {B : Nat} (hB : 2 ≤ B) (n : Nat) : leV B (digsL B n) = n := (digsL_spec hB n n (Nat.le_refl _)).1
theorem digsL_dig {B : Nat} (hB : 2 ≤ B) (n : Nat) : DigB B (digsL B n) := (digsL_spec hB n n (Nat.le_refl _)).2.1
theorem digsL_norm {B : Nat} (hB : 2 ≤ B) (n : Nat) : Norm (digsL B n) := (digsL_spec hB n n (Nat.le_refl _)).2.2
theorem digsL_leV {B : Nat} (hB : 2 ≤ B) {l : List Nat} (h : DigB B l) (hn : Norm l) : digsL B (leV B l) = l :=
 leV_unique hB (digsL_dig hB _) h (digsL_norm hB _) hn (leV_digsL hB _)
theorem digsL_len {B : Nat} (hB : 2 ≤ B) (n k : Nat) : (digsL B n).length ≤ k ↔ n < B ^ k := by
 constructor
 ·intro h
  have h1 := leV_lt (digsL_dig hB n)
  rw [leV_digsL hB] at h1
  have h2 : B ^ (digsL B n).length ≤ B ^ k := Nat.pow_le_pow_right (by omega) h
  omega
 ·intro h
  rcases Nat.lt_or_ge k (digsL B n).length with h1 | h1
  ·rcases norm_cases (digsL B n) with h2 | ⟨r, x, h2⟩
   ·rw [h2] at h1; simp at h1
   ·have h3 := norm_ge hB (h2 ▸ digsL_norm hB n)
    rw [← h2, leV_digsL hB] at h3
    have h4 : B ^ k ≤ B ^ r.length := Nat.pow_le_pow_right (by omega) (by rw [h2] at h1; simp at h1; omega)
    omega
  ·exact h1

/-- The bytes of a number in decimal notation. -/
def chr10 (d : Nat) : UInt8 := UInt8.ofNat (48 + d)
theorem chr10_toNat {d : Nat} (h : d < 10) : (chr10 d).toNat = 48 + d := by
 simp only [chr10, UInt8.toNat_ofNat']
 omega
def natT (n : Nat) : List UInt8 := if n = 0 then [48] else (digsL 10 n).reverse.map chr10
/-- The text of an integer. -/
def intT (z : Int) : List UInt8 := if z < 0 then 45 :: natT z.natAbs else natT z.natAbs
def intB (z : Int) : ByteArray := ⟨(intT z).toArray⟩
/-- What a text of digits stands for. -/
def decT (l : List UInt8) : List Nat := l.reverse.map fun c => c.toNat - 48
def natV (l : List UInt8) : Nat := leV 10 (decT l)
def intV (l : List UInt8) : Int := if l.head? = some 45 then - (natV l.tail : Int) else natV l
theorem decT_map {l : List Nat} (h : DigB 10 l) : decT (l.reverse.map chr10) = l := by
 rw [decT, ← List.map_reverse, List.reverse_reverse, List.map_map]
 conv => rhs; rw [← List.map_id l]
 apply List.map_congr_left
 intro x hx
 have := h x hx
 simp [chr10_toNat this]
theorem natT_val (n : Nat) : natV (natT n) = n := by
 unfold natT
 split
 ·rename_i h; subst h; rfl
 ·rw [natV, decT_map (digsL_dig (by decide) n), leV_digsL (by decide)]
/-- A digit. -/
def IsDig (c : UInt8) : Prop := 48 ≤ c.toNat ∧ c.toNat ≤ 57
theorem isDig_chr {d : Nat} (h : d < 10) : IsDig (chr10 d) := by rw [IsDig, chr10_toNat h]; omega
theorem natT_dig (n : Nat) : ∀ c ∈ natT n, IsDig c := by
 intro c hc
 unfold natT at hc
 split at hc
 ·simp at hc; subst hc; exact ⟨by decide, by decide⟩
 ·obtain ⟨d, hd, rfl⟩ := List.mem_map.1 hc
  exact isDig_chr (digsL_dig (by decide) n d (by simpa using hd))
theorem natT_ne (n : Nat) : natT n ≠ [] := by
 unfold natT
 split
 ·simp
 ·rename_i h
  intro h2
  have h3 : digsL 10 n = [] := by simpa using h2
  have := leV_digsL (B := 10) (by decide) n
  rw [h3] at this
  exact h this.symm
theorem natT_len (n k : Nat) (hk : 1 ≤ k) : (natT n).length ≤ k ↔ n < 10 ^ k := by
 unfold natT
 split
 ·rename_i h; subst h
  have : 0 < 10 ^ k := Nat.pow_pos (by decide)
  simp; omega
 ·rw [List.length_map, List.length_reverse]; exact digsL_len (by decide) n k
/-- The first digit of a number that is not 0 is not 0. -/
theorem natT_head {n : Nat} (h : n ≠ 0) : (natT n).head? ≠ some 48 := by
 unfold natT
 rw [if_neg h]
 have hn := digsL_norm (B := 10) (by decide) n
 have hd := digsL_dig (B := 10) (by decide) n
 rcases norm_cases (digsL 10 n) with h2 | ⟨r, x, h2⟩
 ·rw [h2]; simp
 ·rw [h2] at hn hd ⊢
  have h3 := hn.last
  have h4 := hd x (by simp)
  simp only [List.reverse_append, List.reverse_cons, List.reverse_nil, List.nil_append, List.cons_append, List.map_cons, List.head?_cons]
  intro h5
  have h6 : (chr10 x).toNat = (48 : UInt8).toNat := by rw [Option.some.inj h5]
  rw [chr10_toNat h4] at h6
  have : (48 : UInt8).toNat = 48 := rfl
  omega
/-- A text of digits with no zero in front is that of its number. -/
theorem natT_natV {l : List UInt8} (hd : ∀ c ∈ l, IsDig c) (h0 : l ≠ []) (hz : l = [48] ∨ l.head? ≠ some 48) : natT (natV l) = l := by
 have hdb : DigB 10 (decT l) := by
  intro x hx
  obtain ⟨c, hc, rfl⟩ := List.mem_map.1 hx
  have := hd c (by simpa using hc)
  unfold IsDig at this; omega
 rcases hz with rfl | hz
 ·rfl
 ·have hn : Norm (decT l) := by
   cases l with
   | nil => exact absurd rfl h0
   | cons c t =>
    have hc := hd c (List.mem_cons_self ..)
    have h1 : decT (c :: t) = decT t ++ [c.toNat - 48] := by simp [decT]
    rw [h1]
    refine Norm.snoc ?_
    intro h2
    apply hz
    have h3 : c.toNat = 48 := by unfold IsDig at hc; omega
    rw [List.head?_cons, show c = 48 from UInt8.toNat_inj.1 h3]
  have hne : natV l ≠ 0 := by
   intro h
   have h1 := (leV_eq_zero (by decide) hn).1 h
   have : l = [] := by simpa [decT] using h1
   exact h0 this
  unfold natT
  rw [if_neg hne, natV, digsL_leV (by decide) hdb hn, decT, ← List.map_reverse, List.reverse_reverse, List.map_map]
  conv => rhs; rw [← List.map_id l]
  apply List.map_congr_left
  intro c hc
  have h1 := hd c hc
  unfold IsDig at h1
  apply UInt8.toNat_inj.1
  show (chr10 (c.toNat - 48)).toNat = c.toNat
  rw [chr10_toNat (by omega)]; omega
theorem natT_head_dig (n : Nat) : (natT n).head? ≠ some 45 := by
 have h := natT_ne n
 have hd := natT_dig n
 cases e : natT n with
 | nil => exact absurd e h
 | cons c t =>
  have := hd c (by rw [e]; exact List.mem_cons_self ..)
  intro h2
  rw [List.head?_cons] at h2
  have h3 := Option.some.inj h2
  subst h3
  unfold IsDig at this
  have : (45 : UInt8).toNat = 45 := rfl
  omega
theorem intT_val (z : Int) : intV (intT z) = z := by
 unfold intT
 split
 ·rw [intV, if_pos (by simp), List.tail_cons, natT_val]; omega
 ·rw [intV, if_neg (natT_head_dig _), natT_val]; omega
theorem intT_inj {a b : Int} (h : intT a = intT b) : a = b := by rw [← intT_val a, h, intT_val]
theorem intB_inj {a b : Int} (h : intB a = intB b) : a = b := by
 have h1 : (intB a).data.toList = (intB b).data.toList := by rw [h]
 exact intT_inj (by simpa [intB] using h1)
/-- A text that an integer may have, whatever its length. -/
def OkT (l : List UInt8) : Prop := (∀ c ∈ l, IsDig c) ∧ l ≠ [] ∧ (l = [48] ∨ l.head? ≠ some 48)
theorem okT_natT (n : Nat) : OkT (natT n) := ⟨natT_dig n, natT_ne n, by
 by_cases h : n = 0
 ·subst h; exact .inl rfl
 ·exact .inr (natT_head h)⟩
end Putlog
/- IntSpec: Plain mathematics of layer 3: which texts are integers; quotients, divisors, roots. Nothing of the program. -/
namespace Putlog

/-- A valid integer: at most 200 digits. -/
def Fits (z : Int) : Prop := z.natAbs < 10 ^ 200
instance (z : Int) : Decidable (Fits z) := inferInstanceAs (Decidable (_ < _))
def isDigB (c : UInt8) : Bool := 48 ≤ c.toNat && c.toNat ≤ 57
/-- Whether a text is a valid integer. -/
def validT (l : List UInt8) : Bool :=
 if l.head? = some 45 then l.tail.all isDigB && !l.tail.isEmpty && decide (l.tail.length ≤ 200) && !(l.tail.head? == some 48)
 else l.all isDigB && !l.isEmpty && decide (l.length ≤ 200) && (l == [48] || !(l.head? == some 48))
theorem isDigB_iff (c : UInt8) : isDigB c = true ↔ IsDig c := by simp [isDigB, IsDig]
theorem all_isDigB (l : List UInt8) : l.all isDigB = true ↔ ∀ c ∈ l, IsDig c := by simp [List.all_eq_true, isDigB_iff]
theorem validT_int (z : Int) : validT (intT z) = true ↔ Fits z := by
 have hl := natT_len z.natAbs 200 (by decide)
 have hd := (all_isDigB _).2 (natT_dig z.natAbs)
 have hn : (natT z.natAbs).isEmpty = false := by
  have := natT_ne z.natAbs
  cases h : natT z.natAbs with
  | nil => exact absurd h this
  | cons c t => rfl
 unfold intT
 split
 ·rename_i h
  have h0 := natT_head (n := z.natAbs) (by omega)
  unfold validT
  rw [if_pos (by simp), List.tail_cons, hd, hn]
  have h1 : ((natT z.natAbs).head? == some 48) = false := by simpa using h0
  rw [h1]
  simp [Fits, hl]
 ·unfold validT
  rw [if_neg (natT_head_dig _), hd, hn]
  have h1 : (natT z.natAbs == [48] || !((natT z.natAbs).head? == some 48)) = true := by
   rcases (okT_natT z.natAbs).2.2 with h | h
   ·simp [h]
   ·have : ((natT z.natAbs).head? == some 48) = false := by simpa using h
    simp [this]
  rw [h1]
  simp [Fits, hl]
theorem validT_some {l : List UInt8} (h : validT l = true) : ∃ z : Int, l = intT z ∧ Fits z := by
 unfold validT at h
 split at h
 ·rename_i h45
  simp only [Bool.and_eq_true, decide_eq_true_eq, Bool.not_eq_true'] at h
  obtain ⟨⟨⟨h1, h2⟩, h3⟩, h4⟩ := h
  cases l with
  | nil => cases h45
  | cons c t =>
   have hc : c = 45 := by simpa using h45
   subst hc
   rw [List.tail_cons] at h1 h2 h3 h4
   have ht : t ≠ [] := by intro e; subst e; cases h2
   have hz : t.head? ≠ some 48 := by simpa using h4
   have hok := natT_natV ((all_isDigB t).1 h1) ht (.inr hz)
   have hne : natV t ≠ 0 := by
    intro e
    rw [e] at hok
    apply hz; rw [← hok]; rfl
   have hzz : (-(natV t : Int)).natAbs = natV t := by omega
   refine ⟨-(natV t : Int), ?_, ?_⟩
   ·unfold intT
    rw [if_pos (by omega), hzz, hok]
   ·show (-(natV t : Int)).natAbs < 10 ^ 200
    rw [hzz]
    exact (natT_len _ 200 (by decide)).1 (by rw [hok]; exact h3)
 ·simp only [Bool.and_eq_true, decide_eq_true_eq, Bool.not_eq_true', Bool.or_eq_true] at h
  obtain ⟨⟨⟨h1, h2⟩, h3⟩, h4⟩ := h
  have ht : l ≠ [] := by intro e; subst e; cases h2
  have hz : l = [48] ∨ l.head? ≠ some 48 := by
   rcases h4 with h4 | h4
   ·exact .inl (by simpa using h4)
   ·exact .inr (by simpa using h4)
  have hok := natT_natV ((all_isDigB l).1 h1) ht hz
  refine ⟨(natV l : Int), ?_, ?_⟩
  ·unfold intT
   rw [if_neg (by omega), Int.natAbs_natCast, hok]
  ·show ((natV l : Int)).natAbs < 10 ^ 200
   rw [Int.natAbs_natCast]
   exact (natT_len _ 200 (by decide)).1 (by rw [hok]; exact h3)
/-- The greatest number whose square is at most n. -/
def rootN (n : Nat) : Nat → Nat
 | 0 => 0
 | k + 1 => if (k + 1) * (k + 1) ≤ n then k + 1 else rootN n k
def sqrtN (n : Nat) : Nat := rootN n n
theorem rootN_le (n : Nat) : ∀ k, rootN n k * rootN n k ≤ n
 | 0 => by simp [rootN]
 | k + 1 => by
  unfold rootN
  split
  ·assumption
  ·exact rootN_le n k
theorem rootN_max (n : Nat) : ∀ k j, j ≤ k → j * j ≤ n → j ≤ rootN n k
 | 0, j, h, _ => by simp [rootN]; omega
 | k + 1, j, h, hj => by
  unfold rootN
  split
  ·exact h
  ·rename_i h1
   rcases Nat.lt_or_ge j (k + 1) with h2 | h2
   ·exact rootN_max n k j (by omega) hj
   ·have h3 : j = k + 1 := by omega
    subst h3
    exact absurd hj h1
theorem sqrtN_le (n : Nat) : sqrtN n * sqrtN n ≤ n := rootN_le n n
theorem sqrtN_lt (n : Nat) : n < (sqrtN n + 1) * (sqrtN n + 1) := by
 rcases Nat.lt_or_ge n ((sqrtN n + 1) * (sqrtN n + 1)) with h | h
 ·exact h
 ·have h1 : sqrtN n + 1 ≤ n := Nat.le_trans (Nat.le_mul_of_pos_left _ (by omega)) h
  have := rootN_max n n (sqrtN n + 1) h1 h
  unfold sqrtN at this; omega
theorem sqrtN_unique {n r : Nat} (h1 : r * r ≤ n) (h2 : n < (r + 1) * (r + 1)) : r = sqrtN n := by
 have h3 := sqrtN_le n
 have h4 := sqrtN_lt n
 rcases Nat.lt_trichotomy r (sqrtN n) with h | h | h
 ·have : (r + 1) * (r + 1) ≤ sqrtN n * sqrtN n := Nat.mul_le_mul h h
  omega
 ·exact h
 ·have : (sqrtN n + 1) * (sqrtN n + 1) ≤ r * r := Nat.mul_le_mul h h
  omega
/-- Euclid's quotient and remainder. -/
theorem ediv_spec (a b : Int) (hb : b ≠ 0) : a = a / b * b + a % b ∧ 0 ≤ a % b ∧ a % b < b.natAbs := by
 refine ⟨?_, Int.emod_nonneg a hb, ?_⟩
 ·have := Int.mul_ediv_add_emod a b; rw [Int.mul_comm] at this; omega
 ·rcases Int.lt_or_gt_of_ne hb with h | h
  ·have := Int.emod_lt_of_pos a (show 0 < -b by omega); rw [Int.emod_neg] at this; omega
  ·have := Int.emod_lt_of_pos a h; omega
theorem ediv_unique {a b q r : Int} (hb : b ≠ 0) (h : a = q * b + r) (h0 : 0 ≤ r) (h1 : r < b.natAbs) : q = a / b ∧ r = a % b := by
 have h2 : r = a % b := by
  rw [h, Int.add_comm, Int.add_mul_emod_self_right]
  rcases Int.lt_or_gt_of_ne hb with h2 | h2
  ·rw [← Int.emod_neg]; exact (Int.emod_eq_of_lt h0 (by omega)).symm
  ·exact (Int.emod_eq_of_lt h0 (by omega)).symm
 refine ⟨?_, h2⟩
 obtain ⟨e1, _, _⟩ := ediv_spec a b hb
 have : q * b = a / b * b := by omega
 exact Int.eq_of_mul_eq_mul_right hb this
end Putlog
/- RatPure: Plain mathematics of layer 4: fractions in lowest terms whose parts have at most 200 digits; what the operations answer. Nothing of the program. -/
namespace Putlog

/-- Both parts are valid integers. -/
def FitsQ (q : Rat) : Prop := Fits q.num ∧ Fits (q.den : Int)
instance (q : Rat) : Decidable (FitsQ q) := inferInstanceAs (Decidable (_ ∧ _))
theorem FitsQ.num {q : Rat} (h : FitsQ q) : Fits q.num := h.1
theorem FitsQ.den {q : Rat} (h : FitsQ q) : Fits (q.den : Int) := h.2
theorem den_posI (q : Rat) : (0 : Int) < q.den := by have := q.den_pos; omega
/-- Reduced: the greatest divisor of both is taken out. -/
theorem red_pos {n d : Int} (hd : 0 < d) : (Rat.divInt n d).num = n / (Int.gcd n d : Int) ∧ ((Rat.divInt n d).den : Int) = d / (Int.gcd n d : Int) := by
 refine ⟨?_, ?_⟩
 ·rw [Rat.num_divInt, Int.sign_eq_one_of_pos hd, Int.one_mul, Int.gcd_comm]
 ·rw [Rat.den_divInt, if_neg (by omega), Int.gcd_comm]
  obtain ⟨m, rfl⟩ : ∃ m : Nat, d = m := ⟨d.toNat, by omega⟩
  rw [Int.natAbs_natCast, Int.natCast_ediv]
def downI (r : Rat) (p : Nat) : Int := r.num * 10 ^ p / r.den
def upI (r : Rat) (p : Nat) : Int := if r.num * 10 ^ p % r.den = 0 then downI r p else downI r p + 1
end Putlog
/- RatCmp: Plain mathematics of layer 4: the order of fractions, by whole parts and what is left of them. Nothing of the program. -/
namespace Putlog

end Putlog
/- RatGrid: Plain mathematics of layer 4: grids. Nothing of the program. -/
namespace Putlog

theorem pow_posI (p : Nat) : (0 : Int) < 10 ^ p := Int.pow_pos (by decide)
def dnR (r : Rat) (p : Nat) : Rat := Rat.divInt (downI r p) (10 ^ p)
def upR (r : Rat) (p : Nat) : Rat := Rat.divInt (upI r p) (10 ^ p)
theorem upI_spec (r : Rat) (p : Nat) : (r.num * 10 ^ p % r.den = 0 ∧ upI r p = downI r p ∧ r.num * 10 ^ p = downI r p * r.den) ∨
  (r.num * 10 ^ p % r.den ≠ 0 ∧ upI r p = downI r p + 1 ∧ downI r p * r.den < r.num * 10 ^ p ∧ r.num * 10 ^ p < (downI r p + 1) * r.den) := by
 have hd := den_posI r
 obtain ⟨h1, h2, h3⟩ := ediv_spec (r.num * 10 ^ p) r.den (by omega)
 have h4 : (downI r p + 1) * (r.den : Int) = downI r p * r.den + r.den := by rw [Int.add_mul, Int.one_mul]
 have h5 : downI r p = r.num * 10 ^ p / r.den := rfl
 rw [← h5] at h1
 unfold upI
 by_cases h : r.num * 10 ^ p % r.den = 0
 ·exact .inl ⟨h, if_pos h, by omega⟩
 ·exact .inr ⟨h, if_neg h, by omega, by omega⟩
/-- Sizes. -/
theorem red_num {n d : Int} (hd : 0 < d) : (Rat.divInt n d).num.natAbs ≤ n.natAbs := by
 rw [(red_pos hd).1]; exact Int.natAbs_ediv_le_natAbs n _
theorem red_den {n d : Int} (hd : 0 < d) : ((Rat.divInt n d).den : Int).natAbs ≤ d.natAbs := by
 rw [(red_pos hd).2]; exact Int.natAbs_ediv_le_natAbs d _
/-- Numerator and denominator below powers of ten. -/
def Sz (j k : Nat) (r : Rat) : Prop := r.num.natAbs < 10 ^ j ∧ (r.den : Int).natAbs < 10 ^ k
theorem Sz.mono {j k j' k' : Nat} {r : Rat} (h : Sz j k r) (hj : j ≤ j') (hk : k ≤ k') : Sz j' k' r :=
 ⟨Nat.lt_of_lt_of_le h.1 (Nat.pow_le_pow_right (by decide) hj), Nat.lt_of_lt_of_le h.2 (Nat.pow_le_pow_right (by decide) hk)⟩
theorem abs_mulP {a : Int} {j p : Nat} (ha : a.natAbs < 10 ^ j) : (a * 10 ^ p).natAbs < 10 ^ (j + p) := by
 rw [Int.natAbs_mul, Nat.pow_add]
 have : ((10 : Int) ^ p).natAbs = 10 ^ p := by rw [Int.natAbs_pow]; rfl
 rw [this]
 exact Nat.mul_lt_mul_of_pos_right ha (Nat.pow_pos (by decide))
theorem Sz.neg {j k : Nat} {r : Rat} (h : Sz j k r) : Sz j k (-r) := ⟨by rw [Rat.neg_num, Int.natAbs_neg]; exact h.1, h.2⟩
theorem downI_lt {r : Rat} {p j k : Nat} (h : Sz j k r) : (downI r p).natAbs < 10 ^ (j + p) := Nat.lt_of_le_of_lt (Int.natAbs_ediv_le_natAbs _ _) (abs_mulP h.1)
theorem upI_lt {r : Rat} {p j k : Nat} (h : Sz j k r) : (upI r p).natAbs < 10 ^ (j + p + 1) := by
 have h1 := downI_lt (p := p) h
 rw [Nat.pow_succ]
 have h2 : 0 < 10 ^ (j + p) := Nat.pow_pos (by decide)
 rcases upI_spec r p with ⟨_, e, _⟩ | ⟨_, e, _, _⟩ <;> rw [e] <;> omega
theorem ten_abs (p : Nat) : ((10 : Int) ^ p).natAbs = 10 ^ p := by rw [Int.natAbs_pow]; rfl
theorem Sz.grid {z : Int} {j : Nat} (p : Nat) (h : z.natAbs < 10 ^ j) : Sz j (p + 1) (Rat.divInt z (10 ^ p)) := by
 refine ⟨Nat.lt_of_le_of_lt (red_num (pow_posI p)) h, Nat.lt_of_le_of_lt (red_den (pow_posI p)) ?_⟩
 rw [ten_abs, Nat.pow_succ]
 have h2 : 0 < 10 ^ p := Nat.pow_pos (by decide)
 omega
theorem Sz.dn {r : Rat} {j k : Nat} (p : Nat) (h : Sz j k r) : Sz (j + p) (p + 1) (dnR r p) := Sz.grid p (downI_lt h)
theorem Sz.up {r : Rat} {j k : Nat} (p : Nat) (h : Sz j k r) : Sz (j + p + 1) (p + 1) (upR r p) := Sz.grid p (upI_lt h)
theorem FitsQ.neg {r : Rat} (h : FitsQ r) : FitsQ (-r) := ⟨by unfold Fits; rw [Rat.neg_num, Int.natAbs_neg]; exact h.1, h.2⟩
end Putlog
/- RatFrac: Plain mathematics of layer 4: two texts and the fraction that they are. Nothing of the program. -/
namespace Putlog

/-- The integer that a text is. -/
def readI (s : ByteArray) : Option Int := if validT s.data.toList then some (intV s.data.toList) else none
theorem intB_toList (z : Int) : (intB z).data.toList = intT z := List.toList_toArray
theorem readI_int {z : Int} (h : Fits z) : readI (intB z) = some z := by
 unfold readI
 rw [intB_toList, if_pos ((validT_int z).2 h), intT_val]
theorem readI_some {s : ByteArray} {z : Int} (h : readI s = some z) : s = intB z ∧ Fits z := by
 unfold readI at h
 split at h
 ·rename_i hv
  obtain ⟨y, h1, h2⟩ := validT_some hv
  rw [h1, intT_val] at h
  cases h
  exact ⟨by show s = ⟨(intT z).toArray⟩; rw [← h1], h2⟩
 ·cases h
theorem readI_none {s : ByteArray} (h : validT s.data.toList = false) : readI s = none := by unfold readI; rw [h]; rfl
end Putlog
/- LinDot: Plain mathematics of layer 6: a sum of products. Nothing of the program. -/
namespace Putlog

/-- The sum of the first numbers, each times its coefficient. -/
def dotN : List Int → List Int → Nat → Int
 | _, _, 0 => 0
 | c, l, k + 1 => dotN c l k + c.getD k 0 * l.getD k 0
end Putlog
/- LinSys: Plain mathematics of layer 6: systems, vectors and weights as texts, and what a solution and a refutation are. Nothing of the program. -/
namespace Putlog

structure SysP where
 cols : Int
 rows : List (List Int × Int)
structure VecP where
 nums : List ByteArray
 den : ByteArray
def inB (b x : Int) : Bool := decide (-b ≤ x) && decide (x ≤ b)
theorem inB_iff {b x : Int} : inB b x = true ↔ -b ≤ x ∧ x ≤ b := by simp [inB]
def rowOk (cols : Int) (r : List Int × Int) : Bool := decide ((r.1.length : Int) = cols) && (inB 1000000000 r.2 && r.1.all (inB 30000))
def validS (s : SysP) : Bool := decide (0 ≤ s.cols) && (decide (s.cols ≤ 64) && (decide (s.rows.length ≤ 18) && s.rows.all (rowOk s.cols)))
def L100 : Nat := 10 ^ 100
def bnd (t : ByteArray) : Bool := match readI t with
 | some z => decide (z.natAbs < L100)
 | none => false
def amt (t : ByteArray) : Bool := match readI t with
 | some z => decide (z.natAbs < L100) && decide (0 ≤ z)
 | none => false
def posT (t : ByteArray) : Bool := match readI t with
 | some z => decide (z.natAbs < L100) && decide (0 < z)
 | none => false
def formedV (v : VecP) : Bool := decide (v.nums.length ≤ 64) && (posT v.den && v.nums.all amt)
def valI (t : ByteArray) : Int := (readI t).getD 0
theorem dotN_sum (c l : List Int) : ∀ k, dotN c l k = sumZ (fun i => c.getD i 0 * l.getD i 0) k
 | 0 => rfl
 | k + 1 => by rw [dotN, dotN_sum c l k, sumZ]
def colL (s : SysP) (j : Nat) : List Int := s.rows.map fun r => r.1.getD j 0
def valL (s : SysP) : List Int := s.rows.map fun r => r.2
def solvesR (x : List Int) (d : Int) (r : List Int × Int) : Bool := decide (dotN r.1 x r.1.length = r.2 * d)
def checkS (s : SysP) (v : VecP) : Bool := validS s && (formedV v && (decide ((v.nums.length : Int) = s.cols) && s.rows.all (solvesR (v.nums.map valI) (valI v.den))))
def refC (s : SysP) (w : List Int) (j : Nat) : Bool := decide (0 ≤ dotN (colL s j) w s.rows.length)
def refS (s : SysP) (w : List ByteArray) : Bool := validS s && (decide (w.length = s.rows.length) && (w.all bnd && ((List.range s.cols.toNat).all (refC s (w.map valI)) && decide (dotN (valL s) (w.map valI) s.rows.length < 0))))

def sysA (s : SysP) (j r : Nat) : Int := (s.rows.getD r ([], 0)).1.getD j 0
def sysB (s : SysP) (r : Nat) : Int := (s.rows.getD r ([], 0)).2
theorem colL_get (s : SysP) (j r : Nat) : (colL s j).getD r 0 = sysA s j r := by
 unfold colL sysA
 rcases Nat.lt_or_ge r s.rows.length with h | h
 ·simp [List.getD_eq_getElem?_getD, List.getElem?_map, List.getElem?_eq_getElem h]
 ·simp [List.getD_eq_getElem?_getD, List.getElem?_map, List.getElem?_eq_none h]
theorem valL_get (s : SysP) (r : Nat) : (valL s).getD r 0 = sysB s r := by
 unfold valL sysB
 rcases Nat.lt_or_ge r s.rows.length with h | h
 ·simp [List.getD_eq_getElem?_getD, List.getElem?_map, List.getElem?_eq_getElem h]
 ·simp [List.getD_eq_getElem?_getD, List.getElem?_map, List.getElem?_eq_none h]
theorem bnd_iff {t : ByteArray} : bnd t = true ↔ ∃ z, t = intB z ∧ z.natAbs < L100 := by
 unfold bnd
 constructor
 ·intro h
  split at h
  ·rename_i z hz; exact ⟨z, (readI_some hz).1, by simpa using h⟩
  ·cases h
 ·rintro ⟨z, rfl, h⟩
  rw [readI_int (Nat.lt_of_lt_of_le h (Nat.pow_le_pow_right (by decide) (by decide)))]
  simpa using h
theorem amt_iff {t : ByteArray} : amt t = true ↔ ∃ z : Int, t = intB z ∧ z.natAbs < L100 ∧ 0 ≤ z := by
 unfold amt
 constructor
 ·intro h
  split at h
  ·rename_i z hz; exact ⟨z, (readI_some hz).1, by simpa using h⟩
  ·cases h
 ·rintro ⟨z, rfl, h, h2⟩
  rw [readI_int (Nat.lt_of_lt_of_le h (Nat.pow_le_pow_right (by decide) (by decide)))]
  simp [h, h2]
theorem posT_iff {t : ByteArray} : posT t = true ↔ ∃ z : Int, t = intB z ∧ z.natAbs < L100 ∧ 0 < z := by
 unfold posT
 constructor
 ·intro h
  split at h
  ·rename_i z hz; exact ⟨z, (readI_some hz).1, by simpa using h⟩
  ·cases h
 ·rintro ⟨z, rfl, h, h2⟩
  rw [readI_int (Nat.lt_of_lt_of_le h (Nat.pow_le_pow_right (by decide) (by decide)))]
  simp [h, h2]
theorem fits_100 {z : Int} (h : z.natAbs < L100) : Fits z := Nat.lt_of_lt_of_le h (Nat.pow_le_pow_right (by decide) (by decide))
theorem valI_int {z : Int} (h : Fits z) : valI (intB z) = z := by unfold valI; rw [readI_int h]; rfl
theorem valI_ints : ∀ {l : List Int}, (∀ z ∈ l, Fits z) → (l.map intB).map valI = l
 | [], _ => rfl
 | z :: l, h => by
  rw [List.map_cons, List.map_cons, valI_int (h z (List.mem_cons_self ..)), valI_ints (fun y hy => h y (List.mem_cons_of_mem _ hy))]
/-- A formed vector is one of numbers. -/
theorem formed_iff {v : VecP} : formedV v = true ↔ ∃ (l : List Int) (d : Int), v = ⟨l.map intB, intB d⟩ ∧ l.length ≤ 64 ∧ (∀ z ∈ l, z.natAbs < L100 ∧ 0 ≤ z) ∧ d.natAbs < L100 ∧ 0 < d := by
 constructor
 ·intro h
  simp only [formedV, Bool.and_eq_true, decide_eq_true_eq] at h
  obtain ⟨h1, h2, h3⟩ := h
  obtain ⟨d, e, hd, hd0⟩ := posT_iff.1 h2
  have : ∀ m : List ByteArray, m.all amt = true → ∃ l : List Int, m = l.map intB ∧ ∀ z ∈ l, z.natAbs < L100 ∧ 0 ≤ z := by
   intro m
   induction m with
   | nil => intro _; exact ⟨[], rfl, fun z hz => by cases hz⟩
   | cons t m ih =>
    intro hm
    rw [List.all_cons, Bool.and_eq_true] at hm
    obtain ⟨z, e1, e2⟩ := amt_iff.1 hm.1
    obtain ⟨l, e3, e4⟩ := ih hm.2
    refine ⟨z :: l, by rw [List.map_cons, ← e1, ← e3], fun y hy => ?_⟩
    rcases List.mem_cons.1 hy with rfl | hy
    ·exact e2
    ·exact e4 y hy
  obtain ⟨l, e1, e2⟩ := this v.nums h3
  refine ⟨l, d, by cases v; simp_all, ?_, e2, hd, hd0⟩
  rw [e1, List.length_map] at h1; exact h1
 ·rintro ⟨l, d, rfl, h1, h2, h3, h4⟩
  simp only [formedV, Bool.and_eq_true, decide_eq_true_eq, List.length_map]
  refine ⟨h1, posT_iff.2 ⟨d, rfl, h3, h4⟩, ?_⟩
  rw [List.all_eq_true]
  intro t ht
  obtain ⟨z, hz, rfl⟩ := List.mem_map.1 ht
  exact amt_iff.2 ⟨z, rfl, h2 z hz⟩
theorem weights_iff : ∀ {w : List ByteArray}, w.all bnd = true ↔ ∃ l : List Int, w = l.map intB ∧ ∀ z ∈ l, z.natAbs < L100
 | [] => ⟨fun _ => ⟨[], rfl, fun z hz => by cases hz⟩, fun _ => rfl⟩
 | t :: w => by
  rw [List.all_cons, Bool.and_eq_true]
  constructor
  ·rintro ⟨h1, h2⟩
   obtain ⟨z, e1, e2⟩ := bnd_iff.1 h1
   obtain ⟨l, e3, e4⟩ := weights_iff.1 h2
   refine ⟨z :: l, by rw [List.map_cons, ← e1, ← e3], fun y hy => ?_⟩
   rcases List.mem_cons.1 hy with rfl | hy
   ·exact e2
   ·exact e4 y hy
  ·rintro ⟨l, e, h⟩
   cases l with
   | nil => cases e
   | cons z l =>
    rw [List.map_cons] at e
    cases e
    exact ⟨bnd_iff.2 ⟨z, rfl, h z (List.mem_cons_self ..)⟩, weights_iff.2 ⟨l, rfl, fun y hy => h y (List.mem_cons_of_mem _ hy)⟩⟩
structure ValidP (s : SysP) : Prop where
 lo : 0 ≤ s.cols
 hi : s.cols ≤ 64
 rows : s.rows.length ≤ 18
 len : ∀ r ∈ s.rows, (r.1.length : Int) = s.cols
 val : ∀ r ∈ s.rows, -1000000000 ≤ r.2 ∧ r.2 ≤ 1000000000
 coef : ∀ r ∈ s.rows, ∀ c ∈ r.1, -30000 ≤ c ∧ c ≤ 30000
theorem valid_iff {s : SysP} : validS s = true ↔ ValidP s := by
 simp only [validS, rowOk, Bool.and_eq_true, decide_eq_true_eq, List.all_eq_true, inB_iff]
 constructor
 ·rintro ⟨h1, h2, h3, h4⟩
  exact ⟨h1, h2, h3, fun r hr => (h4 r hr).1, fun r hr => (h4 r hr).2.1, fun r hr => (h4 r hr).2.2⟩
 ·rintro ⟨h1, h2, h3, h4, h5, h6⟩
  exact ⟨h1, h2, h3, fun r hr => ⟨h4 r hr, h5 r hr, h6 r hr⟩⟩
theorem getD_memR {s : SysP} {r : Nat} (h : r < s.rows.length) : s.rows.getD r ([], 0) ∈ s.rows := by
 rw [List.getD_eq_getElem?_getD, List.getElem?_eq_getElem h]; exact List.getElem_mem h
theorem ValidP.dot {s : SysP} (h : ValidP s) {r : Nat} (hr : r < s.rows.length) (x : List Int) : dotN (s.rows.getD r ([], 0)).1 x (s.rows.getD r ([], 0)).1.length = sumZ (fun j => sysA s j r * x.getD j 0) s.cols.toNat := by
 have := h.len _ (getD_memR hr)
 rw [dotN_sum, show (s.rows.getD r ([], 0)).1.length = s.cols.toNat by omega]
 rfl
theorem all_rows {s : SysP} {p : List Int × Int → Bool} : s.rows.all p = true ↔ ∀ r, r < s.rows.length → p (s.rows.getD r ([], 0)) = true := by
 rw [List.all_eq_true]
 constructor
 ·intro h r hr; exact h _ (getD_memR hr)
 ·intro h x hx
  obtain ⟨r, hr, rfl⟩ := List.getElem_of_mem hx
  have := h r hr
  rwa [List.getD_eq_getElem?_getD, List.getElem?_eq_getElem hr] at this
/-- A solution in numbers. -/
structure SolP (s : SysP) (l : List Int) (d : Int) : Prop where
 len : (l.length : Int) = s.cols
 nn : ∀ z ∈ l, 0 ≤ z
 pos : 0 < d
 eqs : ∀ r, r < s.rows.length → sumZ (fun j => sysA s j r * l.getD j 0) s.cols.toNat = d * sysB s r
/-- A refutation in numbers. -/
structure RefP (s : SysP) (w : List Int) : Prop where
 len : w.length = s.rows.length
 cols : ∀ j, j < s.cols.toNat → 0 ≤ sumZ (fun r => sysA s j r * w.getD r 0) s.rows.length
 val : sumZ (fun r => sysB s r * w.getD r 0) s.rows.length < 0
theorem check_iff {s : SysP} {v : VecP} : checkS s v = true ↔ ValidP s ∧ ∃ (l : List Int) (d : Int), v = ⟨l.map intB, intB d⟩ ∧ (∀ z ∈ l, z.natAbs < L100) ∧ d.natAbs < L100 ∧ SolP s l d := by
 unfold checkS
 rw [Bool.and_eq_true, Bool.and_eq_true, Bool.and_eq_true, valid_iff, formed_iff, decide_eq_true_eq, all_rows]
 constructor
 ·rintro ⟨hv, ⟨l, d, rfl, h1, h2, h3, h4⟩, h5, h6⟩
  rw [List.length_map] at h5
  refine ⟨hv, l, d, rfl, fun z hz => (h2 z hz).1, h3, h5, fun z hz => (h2 z hz).2, h4, fun r hr => ?_⟩
  have h7 := h6 r hr
  unfold solvesR at h7
  rw [decide_eq_true_eq, hv.dot hr] at h7
  rw [valI_ints (fun z hz => fits_100 (h2 z hz).1), valI_int (fits_100 h3)] at h7
  rw [h7, Int.mul_comm]; rfl
 ·rintro ⟨hv, l, d, rfl, h1, h2, h3⟩
  refine ⟨hv, ⟨l, d, rfl, ?_, fun z hz => ⟨h1 z hz, h3.nn z hz⟩, h2, h3.pos⟩, by rw [List.length_map]; exact h3.len, fun r hr => ?_⟩
  ·have := h3.len; have := hv.hi; omega
  ·unfold solvesR
   rw [decide_eq_true_eq, hv.dot hr, valI_ints (fun z hz => fits_100 (h1 z hz)), valI_int (fits_100 h2), h3.eqs r hr, Int.mul_comm]; rfl
theorem ref_iff {s : SysP} {w : List ByteArray} : refS s w = true ↔ ValidP s ∧ ∃ l : List Int, w = l.map intB ∧ (∀ z ∈ l, z.natAbs < L100) ∧ RefP s l := by
 unfold refS
 rw [Bool.and_eq_true, Bool.and_eq_true, Bool.and_eq_true, Bool.and_eq_true, valid_iff, weights_iff, decide_eq_true_eq, decide_eq_true_eq, List.all_eq_true]
 have hc : ∀ (l : List Int) j, dotN (colL s j) l s.rows.length = sumZ (fun r => sysA s j r * l.getD r 0) s.rows.length := fun l j => by
  rw [dotN_sum]; exact sumZ_congr fun r _ => by rw [colL_get]
 have hv' : ∀ l : List Int, dotN (valL s) l s.rows.length = sumZ (fun r => sysB s r * l.getD r 0) s.rows.length := fun l => by
  rw [dotN_sum]; exact sumZ_congr fun r _ => by rw [valL_get]
 constructor
 ·rintro ⟨hv, h1, ⟨l, rfl, h2⟩, h3, h4⟩
  rw [valI_ints (fun z hz => fits_100 (h2 z hz))] at h3 h4
  refine ⟨hv, l, rfl, h2, by simpa using h1, fun j hj => ?_, by rw [← hv']; exact h4⟩
  have := h3 j (List.mem_range.2 hj)
  unfold refC at this
  rw [decide_eq_true_eq, hc] at this; exact this
 ·rintro ⟨hv, l, rfl, h2, h3⟩
  rw [valI_ints (fun z hz => fits_100 (h2 z hz))]
  refine ⟨hv, by simpa using h3.len, ⟨l, rfl, h2⟩, fun j hj => ?_, by rw [hv']; exact h3.val⟩
  unfold refC
  rw [decide_eq_true_eq, hc]; exact h3.cols j (List.mem_range.1 hj)
theorem getD_nn {l : List Int} (h : ∀ z ∈ l, 0 ≤ z) (j : Nat) : 0 ≤ l.getD j 0 := by
 rw [List.getD_eq_getElem?_getD]
 cases e : l[j]? with
 | none => exact Int.le_refl _
 | some z => exact h z (List.mem_of_getElem? e)
/-- Never both. -/
theorem SolP.not_ref {s : SysP} {l w : List Int} {d : Int} (h : SolP s l d) (k : RefP s w) : False :=
 never_both (n := s.rows.length) (cols := s.cols.toNat) (A := sysA s) (b := sysB s) (x := fun j => l.getD j 0) (w := fun r => w.getD r 0) h.pos (fun j _ => getD_nn h.nn j) h.eqs k.cols k.val
def gcdF' (g : Int) : List Int → Int
 | [] => g
 | x :: l => gcdF' (Int.gcd g x) l
theorem gcdF_nn : ∀ (l : List Int) (g : Int), 0 ≤ g → 0 ≤ gcdF' g l
 | [], _, h => h
 | _ :: l, _, _ => gcdF_nn l _ (by omega)
theorem gcdF_dvd : ∀ (l : List Int) (g : Int), gcdF' g l ∣ g ∧ ∀ x ∈ l, gcdF' g l ∣ x
 | [], g => ⟨Int.dvd_refl _, fun x h => by cases h⟩
 | y :: l, g => by
  obtain ⟨h1, h2⟩ := gcdF_dvd l (Int.gcd g y)
  refine ⟨Int.dvd_trans h1 (Int.gcd_dvd_left ..), fun x hx => ?_⟩
  rcases List.mem_cons.1 hx with rfl | hx
  ·exact Int.dvd_trans h1 (Int.gcd_dvd_right ..)
  ·exact h2 x hx
/-- What is divided by the greatest common divisor still solves. -/
theorem SolP.lowest {s : SysP} {l : List Int} {d : Int} (h : SolP s l d) {g : Int} (hg : 0 < g) (hl : ∀ x ∈ l, g ∣ x) (hd : g ∣ d) : SolP s (l.map (· / g)) (d / g) := by
 have hdd : g * (d / g) = d := Int.mul_ediv_cancel' hd
 refine ⟨by rw [List.length_map]; exact h.len, fun z hz => ?_, ?_, fun r hr => ?_⟩
 ·obtain ⟨y, hy, rfl⟩ := List.mem_map.1 hz
  exact Int.ediv_nonneg (h.nn y hy) (Int.le_of_lt hg)
 ·have h1 := h.pos
  rcases (by omega : d / g ≤ 0 ∨ 0 < d / g) with h2 | h2
  ·have := Int.mul_nonneg (Int.le_of_lt hg) (by omega : 0 ≤ -(d / g)); rw [Int.mul_neg] at this; omega
  ·exact h2
 ·refine cancel_d hg ?_
  rw [← Int.mul_assoc, hdd, ← h.eqs r hr, ← sumZ_mul]
  refine sumZ_congr fun j _ => ?_
  have e : g * (l.map (· / g)).getD j 0 = l.getD j 0 := by
   rw [List.getD_eq_getElem?_getD, List.getD_eq_getElem?_getD, List.getElem?_map]
   cases e : l[j]? with
   | none => simp
   | some z => exact Int.mul_ediv_cancel' (hl z (List.mem_of_getElem? e))
  rw [Int.mul_left_comm, e]
theorem RefP.lowest {s : SysP} {w : List Int} (h : RefP s w) {g : Int} (hg : 0 < g) (hl : ∀ x ∈ w, g ∣ x) : RefP s (w.map (· / g)) := by
 have e : ∀ j, g * (w.map (· / g)).getD j 0 = w.getD j 0 := fun j => by
  rw [List.getD_eq_getElem?_getD, List.getD_eq_getElem?_getD, List.getElem?_map]
  cases e : w[j]? with
  | none => simp
  | some z => exact Int.mul_ediv_cancel' (hl z (List.mem_of_getElem? e))
 have hs : ∀ f : Nat → Int, g * sumZ (fun r => f r * (w.map (· / g)).getD r 0) s.rows.length = sumZ (fun r => f r * w.getD r 0) s.rows.length := fun f => by
  rw [← sumZ_mul]; exact sumZ_congr fun r _ => by rw [Int.mul_left_comm, e]
 refine ⟨by rw [List.length_map]; exact h.len, fun j hj => ?_, ?_⟩
 ·have h1 := h.cols j hj
  rw [← hs] at h1
  rcases (by omega : sumZ (fun r => sysA s j r * (w.map (· / g)).getD r 0) s.rows.length < 0 ∨ 0 ≤ sumZ (fun r => sysA s j r * (w.map (· / g)).getD r 0) s.rows.length) with h2 | h2
  ·have := Int.mul_neg_of_pos_of_neg hg h2; omega
  ·exact h2
 ·have h1 := h.val
  rw [← hs] at h1
  rcases (by omega : 0 ≤ sumZ (fun r => sysB s r * (w.map (· / g)).getD r 0) s.rows.length ∨ sumZ (fun r => sysB s r * (w.map (· / g)).getD r 0) s.rows.length < 0) with h2 | h2
  ·have := Int.mul_nonneg (Int.le_of_lt hg) h2; omega
  ·exact h2
end Putlog
/- LinMadeP: The systems, vectors and weights that the reference makes of integers: plain mathematics. -/
namespace Go.Proofs.YtofmjkgaaphnkaaGreatDoor
open Putlog

/-- What an arbitrary integer is drawn to. -/
def pkN (c n : Int) : Int := if c < 0 then -(c + 1) % n else c % n
theorem pkN_bounds (c : Int) {n : Int} (h : 0 < n) : 0 ≤ pkN c n ∧ pkN c n < n := by
 unfold pkN
 split
 ·exact ⟨Int.emod_nonneg _ (by omega), Int.emod_lt_of_pos _ h⟩
 ·exact ⟨Int.emod_nonneg _ (by omega), Int.emod_lt_of_pos _ h⟩
/-- An element of a list that is repeated without end. -/
def atL (l : List Int) (i : Nat) : Int := l.getD (i % l.length) 0
structure NumX where
 cols : Int
 rows : Int
 coefs : List Int
 hidden : List Int
 miss : Int
def NumX.n (x : NumX) : Nat := 1 + (pkN x.cols 8).toNat
def NumX.m (x : NumX) : Nat := 1 + (pkN x.rows 5).toNat
theorem NumX.n_bounds (x : NumX) : 1 ≤ x.n ∧ x.n ≤ 8 := by unfold NumX.n; have := pkN_bounds x.cols (n := 8) (by decide); omega
theorem NumX.m_bounds (x : NumX) : 1 ≤ x.m ∧ x.m ≤ 5 := by unfold NumX.m; have := pkN_bounds x.rows (n := 5) (by decide); omega
def coefX (x : NumX) (i k : Nat) : Int := pkN (atL x.coefs (i * x.n + k)) 19 - 9
def hidX (x : NumX) (k : Nat) : Int := pkN (atL x.hidden k) 6
def missX (x : NumX) : Bool := decide (pkN x.miss 3 = 2)
def offX (x : NumX) (i : Nat) : Int := if missX x = true ∧ (i : Int) = pkN (x.miss.tdiv 3) x.m then pkN (x.miss.tdiv 30) 41 - 20 else 0
def sumX (x : NumX) (i k : Nat) : Int := sumZ (fun j => coefX x i j * hidX x j) k
def rowX (x : NumX) (i : Nat) : List Int × Int := ((List.range x.n).map (coefX x i), sumX x i x.n + offX x i)
def madeS (x : NumX) : SysP := ⟨x.n, (List.range x.m).map (rowX x)⟩
theorem coefX_bounds (x : NumX) (i k : Nat) : -9 ≤ coefX x i k ∧ coefX x i k ≤ 9 := by
 unfold coefX; have := pkN_bounds (atL x.coefs (i * x.n + k)) (n := 19) (by decide); omega
theorem hidX_bounds (x : NumX) (k : Nat) : 0 ≤ hidX x k ∧ hidX x k ≤ 5 := by
 unfold hidX; have := pkN_bounds (atL x.hidden k) (n := 6) (by decide); omega
theorem mul_95 {a b : Int} (h1 : -9 ≤ a) (h2 : a ≤ 9) (h3 : 0 ≤ b) (h4 : b ≤ 5) : -45 ≤ a * b ∧ a * b ≤ 45 := by
 have e : b = 0 ∨ b = 1 ∨ b = 2 ∨ b = 3 ∨ b = 4 ∨ b = 5 := by omega
 rcases e with rfl | rfl | rfl | rfl | rfl | rfl <;> omega
theorem sumX_bounds (x : NumX) (i : Nat) : ∀ k : Nat, -(45 * (k : Int)) ≤ sumX x i k ∧ sumX x i k ≤ 45 * (k : Int)
 | 0 => by simp [sumX, sumZ]
 | k + 1 => by
  have h := sumX_bounds x i k
  have h1 := coefX_bounds x i k
  have h2 := hidX_bounds x k
  have h3 := mul_95 h1.1 h1.2 h2.1 h2.2
  unfold sumX at h ⊢
  rw [sumZ]; omega
theorem offX_bounds (x : NumX) (i : Nat) : -20 ≤ offX x i ∧ offX x i ≤ 20 := by
 unfold offX
 split
 ·have := pkN_bounds (x.miss.tdiv 30) (n := 41) (by decide); omega
 ·omega
theorem rowX_val (x : NumX) (i : Nat) : -380 ≤ (rowX x i).2 ∧ (rowX x i).2 ≤ 380 := by
 have h := sumX_bounds x i x.n
 have h2 := offX_bounds x i
 have h3 := x.n_bounds
 show -380 ≤ sumX x i x.n + offX x i ∧ sumX x i x.n + offX x i ≤ 380
 omega
theorem rowX_len (x : NumX) (i : Nat) : (rowX x i).1.length = x.n := by simp [rowX]
theorem rowX_coef {x : NumX} {i : Nat} {c : Int} (h : c ∈ (rowX x i).1) : -9 ≤ c ∧ c ≤ 9 := by
 obtain ⟨k, _, rfl⟩ := List.mem_map.1 h
 exact coefX_bounds x i k
theorem made_rows (x : NumX) : (madeS x).rows.length = x.m := by simp [madeS]
theorem made_getD {x : NumX} {i : Nat} (h : i < x.m) : (madeS x).rows.getD i ([], 0) = rowX x i := by
 rw [List.getD_eq_getElem?_getD]; simp [madeS, h]
theorem made_mem {x : NumX} {r : List Int × Int} (h : r ∈ (madeS x).rows) : ∃ i, i < x.m ∧ r = rowX x i := by
 obtain ⟨i, hi, rfl⟩ := List.mem_map.1 h
 exact ⟨i, List.mem_range.1 hi, rfl⟩
theorem made_valid (x : NumX) : ValidP (madeS x) := by
 rw [← valid_iff]
 have h1 := x.n_bounds
 have h2 := x.m_bounds
 unfold validS
 simp only [Bool.and_eq_true, decide_eq_true_eq]
 refine ⟨?_, ?_, ?_, ?_⟩
 ·show (0 : Int) ≤ (x.n : Int); omega
 ·show (x.n : Int) ≤ 64; omega
 ·rw [made_rows]; omega
 ·rw [List.all_eq_true]
  intro r hr
  obtain ⟨i, hi, rfl⟩ := made_mem hr
  have hv := rowX_val x i
  unfold rowOk
  simp only [Bool.and_eq_true, decide_eq_true_eq, List.all_eq_true, inB_iff]
  exact ⟨by rw [rowX_len]; rfl, by omega, fun c hc => by have := rowX_coef hc; omega⟩
end Go.Proofs.YtofmjkgaaphnkaaGreatDoor
/- LinPure: Plain mathematics of layer 6: integers as ten words in two's complement, what has no room dropped. Nothing of the program. -/
namespace Putlog

def WB : Int := 18446744073709551616
/-- The word with the index i of an integer. -/
def wd (z : Int) (i : Nat) : Int := z / WB ^ i % WB
theorem wb_pos : (0 : Int) < WB := by decide
theorem wbp_pos (i : Nat) : (0 : Int) < WB ^ i := Int.pow_pos wb_pos
theorem wd_lo (z : Int) (i : Nat) : 0 ≤ wd z i := Int.emod_nonneg _ (by decide)
theorem wd_hi (z : Int) (i : Nat) : wd z i < 18446744073709551616 := Int.emod_lt_of_pos _ (by decide)
/-- The part below the word with the index i. -/
def lowP (z : Int) (i : Nat) : Int := z % WB ^ i
theorem lowP_lo (z : Int) (i : Nat) : 0 ≤ lowP z i := Int.emod_nonneg _ (Int.ne_of_gt (wbp_pos i))
theorem lowP_hi (z : Int) (i : Nat) : lowP z i < WB ^ i := Int.emod_lt_of_pos _ (wbp_pos i)
theorem lowP_zero (z : Int) : lowP z 0 = 0 := by unfold lowP; rw [Int.pow_zero]; exact Int.emod_one z
theorem lowP_succ (z : Int) (i : Nat) : lowP z (i + 1) = lowP z i + wd z i * WB ^ i := by
 unfold lowP wd
 have h1 := Int.mul_ediv_add_emod z (WB ^ i)
 have h2 := Int.mul_ediv_add_emod (z / WB ^ i) WB
 have hp := wbp_pos i
 have e : z = (WB ^ (i + 1)) * (z / WB ^ i / WB) + (z % WB ^ i + z / WB ^ i % WB * WB ^ i) := by
  rw [Int.pow_succ]
  have : WB ^ i * WB * (z / WB ^ i / WB) + (z % WB ^ i + z / WB ^ i % WB * WB ^ i) = WB ^ i * (WB * (z / WB ^ i / WB) + z / WB ^ i % WB) + z % WB ^ i := by
   rw [Int.mul_add, Int.mul_assoc, Int.mul_comm (z / WB ^ i % WB)]; omega
  rw [this, h2, h1]
 have r0 := Int.emod_nonneg z (Int.ne_of_gt hp)
 have r1 := Int.emod_lt_of_pos z hp
 have s0 := Int.emod_nonneg (z / WB ^ i) (Int.ne_of_gt wb_pos)
 have s1 := Int.emod_lt_of_pos (z / WB ^ i) wb_pos
 have hb : z % WB ^ i + z / WB ^ i % WB * WB ^ i < WB ^ (i + 1) := by
  have : z / WB ^ i % WB * WB ^ i ≤ (WB - 1) * WB ^ i := Int.mul_le_mul_of_nonneg_right (by omega) (Int.le_of_lt hp)
  rw [Int.sub_mul, Int.one_mul] at this
  rw [Int.pow_succ, Int.mul_comm (WB ^ i)]; omega
 have hl : 0 ≤ z % WB ^ i + z / WB ^ i % WB * WB ^ i := by
  have := Int.mul_nonneg s0 (Int.le_of_lt hp); omega
 conv => lhs; rw [e]
 rw [Int.add_emod, Int.mul_emod_right, Int.zero_add, Int.emod_emod]
 exact Int.emod_eq_of_lt hl hb
/-- What is low and what is the next word tell the word. -/
theorem wd_of {z q r : Int} {i : Nat} (hr : 0 ≤ r) (hr2 : r < WB ^ i) (h : z = q * WB ^ i + r) : wd z i = q % WB := by
 unfold wd
 rw [h, Int.add_comm, Int.add_mul_ediv_right _ _ (Int.ne_of_gt (wbp_pos i)), Int.ediv_eq_zero_of_lt hr hr2, Int.zero_add]
theorem low_high (z : Int) (i : Nat) : z = z / WB ^ i * WB ^ i + lowP z i := by
 unfold lowP; have := Int.mul_ediv_add_emod z (WB ^ i); rw [Int.mul_comm] at this; omega
/-- Words tell an integer but for a multiple of 2 to the power of 640. -/
theorem lowP_ext {a b : Int} : ∀ n : Nat, (∀ i, i < n → wd a i = wd b i) → lowP a n = lowP b n
 | 0, _ => by rw [lowP_zero, lowP_zero]
 | n + 1, h => by rw [lowP_succ, lowP_succ, lowP_ext n (fun i hi => h i (by omega)), h n (by omega)]
/-- Subtracting word by word: the borrow. -/
def bor (a b : Int) (i : Nat) : Int := if lowP a i < lowP b i then 1 else 0
theorem bor_01 (a b : Int) (i : Nat) : bor a b i = 0 ∨ bor a b i = 1 := by unfold bor; split <;> simp
theorem bor_zero (a b : Int) : bor a b 0 = 0 := by unfold bor; rw [lowP_zero, lowP_zero]; rfl
theorem sub_step (a b : Int) (i : Nat) : wd (a - b) i = (wd a i + WB - wd b i - bor a b i) % WB ∧ bor a b (i + 1) = if wd a i < wd b i + bor a b i then 1 else 0 := by
 have ha := low_high a i
 have hb := low_high b i
 have a0 := lowP_lo a i
 have a1 := lowP_hi a i
 have b0 := lowP_lo b i
 have b1 := lowP_hi b i
 have hp := wbp_pos i
 refine ⟨?_, ?_⟩
 ·have key : wd (a - b) i = (a / WB ^ i - b / WB ^ i - bor a b i) % WB := by
   unfold bor
   split
   ·refine wd_of (r := lowP a i - lowP b i + WB ^ i) (by omega) (by omega) ?_
    rw [Int.sub_mul, Int.sub_mul, Int.one_mul]; omega
   ·refine wd_of (r := lowP a i - lowP b i) (by omega) (by omega) ?_
    rw [Int.sub_zero, Int.sub_mul]; omega
  rw [key]
  unfold wd
  have e1 := Int.mul_ediv_add_emod (a / WB ^ i) WB
  have e2 := Int.mul_ediv_add_emod (b / WB ^ i) WB
  generalize a / WB ^ i = A at *
  generalize b / WB ^ i = C at *
  generalize bor a b i = k at *
  have : A - C - k = (A % WB + WB - C % WB - k) + WB * (A / WB - C / WB - 1) := by
   rw [Int.mul_sub, Int.mul_sub, Int.mul_one]; omega
  rw [this, Int.add_mul_emod_self_left]
 ·have ea := lowP_succ a i
  have eb := lowP_succ b i
  have wa := wd_lo a i
  have wb := wd_lo b i
  unfold bor
  rw [ea, eb]
  generalize wd a i = x at *
  generalize wd b i = y at *
  generalize lowP a i = p at *
  generalize lowP b i = q at *
  generalize WB ^ i = Z at *
  have c1 : x < y → p + x * Z < q + y * Z := fun h => by
   have := Int.mul_le_mul_of_nonneg_right (show x + 1 ≤ y by omega) (Int.le_of_lt hp)
   rw [Int.add_mul, Int.one_mul] at this; omega
  have c2 : y < x → q + y * Z < p + x * Z := fun h => by
   have := Int.mul_le_mul_of_nonneg_right (show y + 1 ≤ x by omega) (Int.le_of_lt hp)
   rw [Int.add_mul, Int.one_mul] at this; omega
  rcases Int.lt_trichotomy x y with h | h | h
  ·rw [if_pos (c1 h)]; split <;> rw [if_pos (by omega)]
  ·subst h
   by_cases k : p < q
   ·rw [if_pos (by omega), if_pos k, if_pos (by omega)]
   ·rw [if_neg (by omega), if_neg k, if_neg (by omega)]
  ·have := c2 h
   rw [if_neg (by omega)]
   split <;> rw [if_neg (by omega)]
end Putlog
/- LinAddP: Plain mathematics of layer 6: adding a multiple, word by word. Nothing of the program. -/
namespace Putlog

/-- What has come together below the word with the index i. -/
def sumT (z y f : Int) (m i : Nat) : Int := lowP z i + lowP y (i - m) * f * WB ^ m
/-- What is carried into it. -/
def ovr (z y f : Int) (m i : Nat) : Int := sumT z y f m i / WB ^ i
theorem ovr_start (z y f : Int) (m : Nat) : ovr z y f m m = 0 := by
 unfold ovr sumT
 rw [Nat.sub_self, lowP_zero, Int.zero_mul, Int.zero_mul, Int.add_zero]
 exact Int.ediv_eq_zero_of_lt (lowP_lo z m) (lowP_hi z m)
theorem sumT_succ (z y f : Int) {m i : Nat} (h : m ≤ i) : sumT z y f m (i + 1) = sumT z y f m i + (wd z i + wd y (i - m) * f) * WB ^ i := by
 unfold sumT
 rw [lowP_succ, show i + 1 - m = (i - m) + 1 by omega, lowP_succ y (i - m)]
 have e : WB ^ i = WB ^ (i - m) * WB ^ m := by rw [← Int.pow_add, Nat.sub_add_cancel h]
 rw [Int.add_mul (wd z i), Int.add_mul (lowP y (i - m)), Int.add_mul]
 have : wd y (i - m) * f * WB ^ i = wd y (i - m) * WB ^ (i - m) * f * WB ^ m := by
  rw [e, Int.mul_assoc (wd y (i - m)) (WB ^ (i - m)) f, Int.mul_comm (WB ^ (i - m)) f, ← Int.mul_assoc, ← Int.mul_assoc]
 rw [this]; omega
theorem ovr_succ (z y f : Int) {m i : Nat} (h : m ≤ i) : ovr z y f m (i + 1) = (ovr z y f m i + (wd z i + wd y (i - m) * f)) / WB := by
 unfold ovr
 rw [sumT_succ _ _ _ h, Int.pow_succ, ← Int.ediv_ediv_of_nonneg (Int.le_of_lt (wbp_pos i)), Int.add_mul_ediv_right _ _ (Int.ne_of_gt (wbp_pos i))]
theorem sumT_low (z y f : Int) {m i : Nat} (h : m ≤ i) : ∃ q, z + y * f * WB ^ m = sumT z y f m i + q * WB ^ i := by
 have hz := low_high z i
 have hy := low_high y (i - m)
 have e : WB ^ i = WB ^ (i - m) * WB ^ m := by rw [← Int.pow_add, Nat.sub_add_cancel h]
 refine ⟨z / WB ^ i + y / WB ^ (i - m) * f, ?_⟩
 unfold sumT
 generalize lowP z i = p at *
 generalize lowP y (i - m) = r at *
 generalize hA : z / WB ^ i = A at *
 generalize hC : y / WB ^ (i - m) = C at *
 rw [hz, hy, Int.add_mul A, Int.add_mul (C * WB ^ (i - m)), Int.add_mul (C * WB ^ (i - m) * f)]
 have : C * WB ^ (i - m) * f * WB ^ m = C * f * WB ^ i := by
  rw [e, Int.mul_assoc C, Int.mul_comm (WB ^ (i - m)) f, ← Int.mul_assoc, ← Int.mul_assoc]
 rw [this]; omega
theorem add_word (z y f : Int) {m i : Nat} (h : m ≤ i) : wd (z + y * f * WB ^ m) i = (ovr z y f m i + (wd z i + wd y (i - m) * f)) % WB := by
 obtain ⟨q, hq⟩ := sumT_low z y f (m := m) (i := i + 1) (by omega)
 rw [hq, sumT_succ _ _ _ h]
 unfold wd ovr
 have : sumT z y f m i + (z / WB ^ i % WB + y / WB ^ (i - m) % WB * f) * WB ^ i + q * WB ^ (i + 1) = sumT z y f m i + ((z / WB ^ i % WB + y / WB ^ (i - m) % WB * f) + q * WB) * WB ^ i := by
  rw [Int.pow_succ, Int.add_mul _ (q * WB), Int.mul_assoc q WB, Int.mul_comm WB]; omega
 rw [this, Int.add_mul_ediv_right _ _ (Int.ne_of_gt (wbp_pos i)), ← Int.add_assoc, Int.add_mul_emod_self_right]
theorem add_below (z y f : Int) {m i : Nat} (h : i < m) : wd (z + y * f * WB ^ m) i = wd z i := by
 unfold wd
 have e : WB ^ m = WB ^ (m - i - 1) * WB * WB ^ i := by rw [← Int.pow_succ, ← Int.pow_add]; congr 1; omega
 rw [e, ← Int.mul_assoc, Int.add_mul_ediv_right _ _ (Int.ne_of_gt (wbp_pos i)), ← Int.mul_assoc, Int.add_mul_emod_self_right]
/-- No carry is greater than the factor. -/
theorem ovr_bound (z y f : Int) (hf : 0 ≤ f) (hf2 : f < WB) {m : Nat} : ∀ i, m ≤ i → 0 ≤ ovr z y f m i ∧ ovr z y f m i < WB
 | 0, h => by
  obtain rfl : m = 0 := by omega
  rw [ovr_start]; exact ⟨Int.le_refl _, wb_pos⟩
 | i + 1, h => by
  rcases Nat.lt_or_eq_of_le h with k | k
  ·obtain ⟨a, b⟩ := ovr_bound z y f hf hf2 (m := m) i (by omega)
   rw [ovr_succ _ _ _ (by omega)]
   have w0 := wd_lo z i
   have w1 : wd z i ≤ WB - 1 := by have := wd_hi z i; unfold WB; omega
   have y0 := wd_lo y (i - m)
   have y1 : wd y (i - m) ≤ WB - 1 := by have := wd_hi y (i - m); unfold WB; omega
   have p0 := Int.mul_nonneg y0 hf
   have p1 : wd y (i - m) * f ≤ (WB - 1) * (WB - 1) := Int.mul_le_mul y1 (by omega) hf (by unfold WB; omega)
   have e : (WB - 1) * (WB - 1) = WB * WB - 2 * WB + 1 := by decide
   refine ⟨Int.ediv_nonneg ?_ (by unfold WB; omega), Int.ediv_lt_of_lt_mul wb_pos ?_⟩
   ·generalize wd y (i - m) * f = P at *
    omega
   ·generalize wd y (i - m) * f = P at *
    unfold WB at *
    omega
  ·rw [← k, ovr_start]; exact ⟨Int.le_refl _, wb_pos⟩
/-- The machine's way to the next word and the next carry. -/
theorem add_way {v x y f hi lo : Int} (hv : 0 ≤ v) (hv2 : v < WB) (_hx : 0 ≤ x) (_hx2 : x < WB) (hh : y * f = hi * WB + lo) (hh0 : 0 ≤ hi) (hh1 : hi ≤ WB - 2) (hl : 0 ≤ lo) (hl2 : lo < WB) :
  (x + (lo + v) % WB) % WB = (v + (x + y * f)) % WB ∧ hi + (lo + v) / WB + (x + (lo + v) % WB) / WB = (v + (x + y * f)) / WB ∧ hi + (lo + v) / WB < WB := by
 rw [hh]
 unfold WB at *
 refine ⟨by omega, by omega, by omega⟩
end Putlog
/- IntKit: What the walks of layer 3 share: lists of numbers and bytes that lie in blocks, or that a call owns. -/
namespace Go.Proofs.YtofmjkgaaphnkaaGreatDoor
open Go.RowKit Putlog

theorem lt_of_cell {W : World} {B i : Nat} {v : Value} (h : W.cell? ⟨B, i, none⟩ = some v) : B < W.heap.size := by
 rcases Nat.lt_or_ge B W.heap.size with h' | h'
 ·exact h'
 ·simp [World.cell?, Array.getElem?_eq_none h'] at h
theorem keptBelow {w w' : World} {b i : Nat} {v : Value} (h : Below w.heap.size w w') (hc : w.cell? ⟨b, i, none⟩ = some v) : w'.cell? ⟨b, i, none⟩ = some v := (h.cell (p := ⟨b, i, none⟩) (lt_of_cell hc)).trans hc
theorem cellA {W : World} {b i : Nat} {v : Value} (o : Obj) (h : W.cell? ⟨b, i, none⟩ = some v) : (W.alloc o).cell? ⟨b, i, none⟩ = some v := keptBelow ((Below.refl _ _).alloc (Nat.le_refl _) _) h
theorem belowVia {a b c : World} (k : Below b.heap.size b c) (h : Below a.heap.size a b) : Below a.heap.size a c := h.trans (k.mono h.size)
theorem below_drewN {B : Nat} {a w : World} (h : Below B a w) (n : Nat) : Below B a (w.drewN n) := ⟨h.os, h.tape, h.output, h.size, h.block⟩
theorem belowGrown {w w1 w2 : World} {v : Value} {e size n : Nat} {xs : List Value} (h : Below w.heap.size w w1) (hO : w1.ownsRow w.heap.size e size v n xs) (hg : w1.grownBy w2 v.ownBlock) : Below w.heap.size w w2 :=
 h.grown hg h.size fun k e => (hO.lt k e).1
theorem ownsRow_below {w w' : World} {base e size n : Nat} {v : Value} {xs : List Value} (h : w.ownsRow base e size v n xs) (hB : Below w.heap.size w w') : w'.ownsRow base e size v n xs := by
 obtain ⟨h1, h2⟩ := h
 refine ⟨h1, ?_⟩
 rcases h2 with h2 | ⟨g, cap, cur, hv, hg, hh, r⟩
 ·exact .inl h2
 ·exact .inr ⟨g, cap, cur, hv, hg, (hB.block g (Array.getElem?_eq_some_iff.1 hh).1).trans hh, r⟩
theorem ownsRow_form {w : World} {B n : Nat} {t : TypeId} {v : Value} {xs : List Value} (h : w.ownsRow B t 1 v n xs) : ∃ a c, v = .slice a n c ∧ n ≤ c ∧ (c : Int) ≤ 9223372036854775807 ∧ ((a = none ∧ c = 0) ∨ ∃ g, B ≤ g ∧ a = some ⟨g, 0, none⟩) ∧ ∀ j u, xs[j]? = some u → ∀ g, a = some ⟨g, 0, none⟩ → w.cell? ⟨g, j, none⟩ = some u := by
 obtain ⟨h0, hv | ⟨g, cap, cur, hv, hg, hh, h1, h2, h3, h4⟩⟩ := h
 ·obtain ⟨h1, rfl⟩ := hv
  rw [h1]
  exact ⟨none, 0, rfl, Nat.le_refl _, by omega, .inl ⟨rfl, rfl⟩, fun j u hj => by simp at h0; subst h0; simp at hj⟩
 ·refine ⟨some ⟨g, 0, none⟩, cap, hv, h1, by unfold maxLen at h2; omega, .inr ⟨g, hg, rfl⟩, fun j u hj g' e => ?_⟩
  obtain rfl : g = g' := by cases e; rfl
  rw [cell_of_row w g j cur _ (0, 0) hh]
  rw [Nat.mul_one] at h4 h0
  have hjn : j < n := by have := (List.getElem?_eq_some_iff.1 hj).1; omega
  have h5 : (cur.toList.take n)[j]? = xs[j]? := by rw [h4]
  rw [List.getElem?_take_of_lt hjn, Array.getElem?_toList] at h5
  rw [h5, hj]
theorem news_val (W : World) (v : Value) (t : TypeId) : ∀ j u, [v][j]? = some u → (W.alloc (.cells #[v] t)).cell? ((⟨W.heap.size, 0, none⟩ : Addr).add j) = some u
 | 0, u, h => by
  simp at h; subst h
  exact (cell_of_row (W.alloc (.cells #[v] t)) W.heap.size 0 #[v] t (0, 0) (heap_alloc_new W _)).trans rfl
 | j + 1, u, h => by simp at h
theorem one_int (k : IntKind) (r : Int) : ∀ u ∈ [Value.int k r], u.oneCell' = true := by intro u hu; simp at hu; subst hu; rfl
theorem app_b1 {n : Nat} (h : n ≤ 100000) : n + 1 ≤ maxLen := by unfold maxLen; omega
theorem app_b2 {n k : Nat} (h : n ≤ 100000) (hk : k ≤ 16) : (n + 1) * k ≤ 140737488355328 := by
 have : (n + 1) * k ≤ 100001 * 16 := Nat.mul_le_mul (by omega) hk
 omega
theorem app_b3 {w0 w1 : World} {t : TypeId} {cs : Array Value} (h1 : Below w0.heap.size w0 w1) : w0.heap.size ≤ (w1.alloc (.cells cs t)).heap.size := by
 have := h1.size; simp; omega

/-- Numbers, bytes, as values. -/
def i64l (l : List Nat) : List Value := l.map fun n : Nat => .int .i64 (n : Int)
def u8l (l : List UInt8) : List Value := l.map fun b => .int .u8 (b.toNat : Nat)
theorem i64l_snoc (l : List Nat) (b : Nat) : i64l (l ++ [b]) = i64l l ++ [.int .i64 (b : Nat)] := by simp [i64l]
theorem u8l_snoc (l : List UInt8) (b : UInt8) : u8l (l ++ [b]) = u8l l ++ [.int .u8 (b.toNat : Nat)] := by simp [u8l]
theorem i64l_get {l : List Nat} {j : Nat} (h : j < l.length) : (i64l l)[j]? = some (.int .i64 (l.getD j 0 : Nat)) := by simp [i64l, List.getD_eq_getElem?_getD, h]
theorem u8l_get {l : List UInt8} {j : Nat} (h : j < l.length) : (u8l l)[j]? = some (.int .u8 ((l.getD j 0).toNat : Nat)) := by simp [u8l, List.getD_eq_getElem?_getD, h]
/-- A slice of numbers: nil or a row at the head of a block. -/
def NumsAt (w : World) (v : Value) (l : List Nat) : Prop := ∃ a c, v = .slice a l.length c ∧ l.length ≤ c ∧ (c : Int) ≤ 9223372036854775807 ∧ ((a = none ∧ c = 0) ∨ ∃ g, a = some ⟨g, 0, none⟩ ∧ ∀ j, j < l.length → w.cell? ⟨g, j, none⟩ = some (.int .i64 (l.getD j 0 : Nat)))
theorem NumsAt.via {w w' : World} {v : Value} {l : List Nat} (hB : Below w.heap.size w w') (h : NumsAt w v l) : NumsAt w' v l := by
 obtain ⟨a, c, h1, h2, h3, h4⟩ := h
 refine ⟨a, c, h1, h2, h3, ?_⟩
 rcases h4 with h4 | ⟨g, h5, h6⟩
 ·exact .inl h4
 ·exact .inr ⟨g, h5, fun j hj => keptBelow hB (h6 j hj)⟩
theorem NumsAt.of_owns {w : World} {B : Nat} {t : TypeId} {v : Value} {l : List Nat} (h : w.ownsRow B t 1 v l.length (i64l l)) : NumsAt w v l := by
 obtain ⟨a, c, h1, h2, h3, h4, h5⟩ := ownsRow_form h
 refine ⟨a, c, h1, h2, h3, ?_⟩
 rcases h4 with h4 | ⟨g, _, h6⟩
 ·exact .inl h4
 ·exact .inr ⟨g, h6, fun j hj => h5 j _ (i64l_get hj) g h6⟩
theorem app_i64 {w wr w3 : World} {t : TypeId} {l : List Nat} {b : Nat} {v v' : Value} {o : Obj} (hO : wr.ownsRow w.heap.size t 1 v l.length (i64l l)) (hB : Below w.heap.size w wr)
  (hown : w3.ownsRow w.heap.size t 1 v' (l.length + 1) (i64l l ++ [.int .i64 (b : Nat)])) (hg : (wr.alloc o).grownBy w3 v.ownBlock) :
  w3.ownsRow w.heap.size t 1 v' (l ++ [b]).length (i64l (l ++ [b])) ∧ Below w.heap.size w w3 := by
 refine ⟨?_, belowGrown (hB.alloc hB.size o) (hO.alloc o) hg⟩
 rw [i64l_snoc, List.length_append]
 exact hown
theorem app_u8 {w wr w3 : World} {t : TypeId} {l : List UInt8} {b : UInt8} {v v' : Value} {o : Obj} (hO : wr.ownsRow w.heap.size t 1 v l.length (u8l l)) (hB : Below w.heap.size w wr)
  (hown : w3.ownsRow w.heap.size t 1 v' (l.length + 1) (u8l l ++ [.int .u8 (b.toNat : Nat)])) (hg : (wr.alloc o).grownBy w3 v.ownBlock) :
  w3.ownsRow w.heap.size t 1 v' (l ++ [b]).length (u8l (l ++ [b])) ∧ Below w.heap.size w w3 := by
 refine ⟨?_, belowGrown (hB.alloc hB.size o) (hO.alloc o) hg⟩
 rw [u8l_snoc, List.length_append]
 exact hown
theorem info_int : (Tryz.prog.info? 3).map (fun i => (i.zero, i.size, i.bytes)) = some (some (.int .i64 0), 1, 8) := by kernel_rfl
theorem info_byte : (Tryz.prog.info? 5).map (fun i => (i.zero, i.size, i.bytes)) = some (some (.int .u8 0), 1, 1) := by kernel_rfl
set_option maxRecDepth 100000 in
theorem convB (w : World) (g c : Nat) (bs : List UInt8) (hc : ∀ j, j < bs.length → w.cell? ⟨g, j, none⟩ = some (.int .u8 ((bs.getD j 0).toNat : Nat))) :
  (convert 121 9 (.slice (some ⟨g, 0, none⟩) bs.length c)).run Tryz.prog w = .ok (.string ⟨bs.toArray⟩) w := by
 have h := run_convert_bytes_arg (P := Tryz.prog) w 121 5 Tryz.underlying121 Tryz.underlying5 g 0 bs.length c (bs.map fun b => (b.toNat : Int)) (by simp) (fun i hi => by
  rw [Nat.zero_add, hc i hi]; simp [List.getD_eq_getElem?_getD, hi]) 9 Tryz.underlying9
 have hstr : strOfNums (bs.map fun b => (b.toNat : Int)) = ⟨bs.toArray⟩ := by
  unfold strOfNums
  rw [List.map_map]
  congr 2
  conv => rhs; rw [← List.map_id bs]
  apply List.map_congr_left
  intro x _
  simp
 rw [hstr] at h
 exact h
theorem owns_u8 {w : World} {B : Nat} {t : TypeId} {v : Value} {l : List UInt8} (h : w.ownsRow B t 1 v l.length (u8l l)) (h0 : 0 < l.length) : ∃ g c, v = .slice (some ⟨g, 0, none⟩) l.length c ∧ ∀ j, j < l.length → w.cell? ⟨g, j, none⟩ = some (.int .u8 ((l.getD j 0).toNat : Nat)) := by
 obtain ⟨a, c, h1, h2, h3, h4, h5⟩ := ownsRow_form h
 rcases h4 with ⟨_, h4⟩ | ⟨g, _, h6⟩
 ·omega
 ·exact ⟨g, c, by rw [h1, h6], fun j hj => h5 j _ (u8l_get hj) g h6⟩
end Go.Proofs.YtofmjkgaaphnkaaGreatDoor
/- LinKit: The carries of math/bits at this program, on integers; a number in memory. -/
namespace Go.Proofs.YtofmjkgaaphnkaaGreatDoor
open Go.RowKit Putlog

theorem alloc_belowL (w : World) (o : Obj) : Below w.heap.size w (w.alloc o) := (Below.refl _ _).alloc (Nat.le_refl _) _
theorem heap_belowL {w w' : World} {g : Nat} {o : Obj} (hB : Below w.heap.size w w') (h : w.heap[g]? = some o) : w'.heap[g]? = some o := (hB.block g (Array.getElem?_eq_some_iff.1 h).1).trans h
theorem alloc_sizeL (w : World) (o : Obj) : (w.alloc o).heap.size = w.heap.size + 1 := by simp
theorem sub64_nat (x y b : Nat) (hb : b ≤ 1) (w : World) : (callFunc 101 #[.int .u64 x, .int .u64 y, .int .u64 b]).run Tryz.prog w = .ok (.value (.tuple #[.int .u64 (((x + 18446744073709551616 - y - b) % 18446744073709551616 : Nat) : Int), .int .u64 ((if x < y + b then 1 else 0 : Nat) : Int)])) w := by
 rw [run_callFunc_extern Tryz.func101 (by kernel_rfl) (by kernel_rfl) (by kernel_rfl) (e := sub64Entry) (by kernel_rfl), run_sub64 x y b hb]
 rfl
theorem sub64_int {x y b : Int} (hx : 0 ≤ x) (hx2 : x < WB) (hy : 0 ≤ y) (hy2 : y < WB) (hb : b = 0 ∨ b = 1) (w : World) : (callFunc 101 #[.int .u64 x, .int .u64 y, .int .u64 b]).run Tryz.prog w = .ok (.value (.tuple #[.int .u64 ((x + WB - y - b) % WB), .int .u64 (if x < y + b then 1 else 0)])) w := by
 unfold WB at *
 obtain ⟨x, rfl⟩ : ∃ n : Nat, x = n := ⟨x.toNat, by omega⟩
 obtain ⟨y, rfl⟩ : ∃ n : Nat, y = n := ⟨y.toNat, by omega⟩
 obtain ⟨c, rfl⟩ : ∃ n : Nat, b = n := ⟨b.toNat, by omega⟩
 rw [sub64_nat x y c (by omega) w]
 congr 5
 ·congr 1; omega
 ·congr 1
  by_cases h : x < y + c
  ·rw [if_pos h, if_pos (by omega)]; rfl
  ·rw [if_neg h, if_neg (by omega)]; rfl
/-- The words of an integer, as a number has them. -/
def numL (z : Int) : List Value := (List.range 10).map fun i => .int .u64 (wd z i)
/-- The first words of one integer, then those of another one. -/
def mixL (c a : Int) (i : Nat) : List Value := (List.range 10).map fun j => .int .u64 (if j < i then wd c j else wd a j)
theorem numL_len (z : Int) : (numL z).length = 10 := rfl
theorem mixL_len (c a : Int) (i : Nat) : (mixL c a i).length = 10 := rfl
theorem numL_get (z : Int) {i : Nat} (h : i < 10) : (numL z)[i]? = some (.int .u64 (wd z i)) := by unfold numL; rw [List.getElem?_map, List.getElem?_range h]; rfl
theorem mixL_get (c a : Int) (i : Nat) {j : Nat} (h : j < 10) : (mixL c a i)[j]? = some (.int .u64 (if j < i then wd c j else wd a j)) := by unfold mixL; rw [List.getElem?_map, List.getElem?_range h]; rfl
theorem mixL_zero (c a : Int) : mixL c a 0 = numL a := by unfold mixL numL; simp
theorem mixL_ten (c a : Int) : mixL c a 10 = numL c := by
 unfold mixL numL
 refine List.map_congr_left fun j hj => ?_
 rw [if_pos (List.mem_range.1 hj)]
theorem mixL_set (c a : Int) {i : Nat} (h : i < 10) : (mixL c a i).set i (.int .u64 (wd c i)) = mixL c a (i + 1) := by
 apply List.ext_getElem?
 intro j
 rw [List.getElem?_set]
 by_cases e : i = j
 ·subst e
  rw [if_pos rfl, if_pos (by rw [mixL_len]; exact h), mixL_get _ _ _ h, if_pos (by omega)]
 ·rw [if_neg e]
  by_cases hj : j < 10
  ·rw [mixL_get _ _ _ hj, mixL_get _ _ _ hj]
   by_cases k : j < i
   ·rw [if_pos k, if_pos (by omega)]
   ·rw [if_neg k, if_neg (by omega)]
  ·rw [List.getElem?_eq_none (by rw [mixL_len]; omega), List.getElem?_eq_none (by rw [mixL_len]; omega)]
theorem setCells_other (g : Nat) : ∀ (vs : List Value) (w : World) (o k : Nat), k ≠ g → (w.setCells g o vs).heap[k]? = w.heap[k]?
 | [], _, _, _, _ => rfl
 | v :: r, w, o, k, h => by rw [World.setCells, setCells_other g r _ _ _ h]; exact heap_setCell_other _ _ _ _ h
theorem below_setCells {B : Nat} {a : World} (g : Nat) (hg : B ≤ g) : ∀ (vs : List Value) (w : World) (o : Nat), Below B a w → Below B a (w.setCells g o vs)
 | [], _, _, h => h
 | v :: r, w, o, h => by rw [World.setCells]; exact below_setCells g hg r _ _ (h.setCell (p := ⟨g, o, none⟩) hg v)
theorem setCells_row (g : Nat) (t : TypeId) : ∀ (vs : List Value) (w : World) (pre : List Value) (cs : List Value), cs.length = vs.length → w.heap[g]? = some (.cells (pre ++ cs).toArray t (0, 0)) → (w.setCells g pre.length vs).heap[g]? = some (.cells (pre ++ vs).toArray t (0, 0))
 | [], w, pre, cs, hl, h => by
  obtain rfl : cs = [] := List.length_eq_zero_iff.1 hl
  exact h
 | v :: r, w, pre, cs, hl, h => by
  cases cs with
  | nil => cases hl
  | cons c cs =>
   have h1 := heap_setCell_same w g pre.length _ _ v h
   have e : ((pre ++ c :: cs).toArray.setIfInBounds pre.length v) = (pre ++ [v] ++ cs).toArray := by
    rw [List.setIfInBounds_toArray, List.set_append_right _ _ (Nat.le_refl _)]; simp
   rw [e] at h1
   have h2 := setCells_row g t r (w.setCell ⟨g, pre.length, none⟩ v) (pre ++ [v]) cs (by simpa using hl) h1
   rw [World.setCells]
   simpa using h2
theorem setCells_whole {w : World} {g : Nat} {t : TypeId} {cs : Array Value} (vs : List Value) (hl : cs.size = vs.length) (h : w.heap[g]? = some (.cells cs t (0, 0))) : (w.setCells g 0 vs).heap[g]? = some (.cells vs.toArray t (0, 0)) := by
 have := setCells_row g t vs w [] cs.toList (by simpa using hl) (by simpa using h)
 simpa using this
theorem info_numW : (Tryz.prog.info? 81).map (·.size) = some 10 := by kernel_rfl
end Go.Proofs.YtofmjkgaaphnkaaGreatDoor
/- LinMinus: The contract of minus: a difference, what has no room dropped. -/
namespace Go.Proofs.YtofmjkgaaphnkaaGreatDoor
open Go.RowKit Putlog

/-- A number in a box. -/
def NumB (p : Nat) (l : List Value) (w : World) : Prop := w.heap[p]? = some (.cells l.toArray 81 (0, 0))
theorem NumB.via {p : Nat} {l : List Value} {w w' : World} (h : NumB p l w) (hB : Below w.heap.size w w') : NumB p l w' := heap_belowL hB h
theorem NumB.cell {p : Nat} {l : List Value} {w : World} (h : NumB p l w) {i : Nat} {v : Value} (hv : l[i]? = some v) : w.cell? ⟨p, i, none⟩ = some v := by
 rw [cell_of_row w p i _ _ _ h]; simpa using hv
theorem NumB.froz {p : Nat} {l : List Value} {w : World} (h : NumB p l w) (i : Nat) : w.frozen? ⟨p, i, none⟩ = false := frozen_of_row w p i _ _ h
theorem NumB.set {p : Nat} {l : List Value} {w : World} (h : NumB p l w) (i : Nat) (v : Value) : NumB p (l.set i v) (w.setCell ⟨p, i, none⟩ v) := by
 have := heap_setCell_same w p i _ _ v h
 unfold NumB
 rw [this, List.setIfInBounds_toArray]
theorem NumB.other {p q : Nat} {l : List Value} {w : World} (h : NumB p l w) {i : Nat} {v : Value} (hne : p ≠ q) : NumB p l (w.setCell ⟨q, i, none⟩ v) := (heap_setCell_other _ _ _ _ hne).trans h
theorem results_num {fn : Func} {p : Tmp} (h : fn.results = #[.cell p 81]) (tmps : Array Value) (w : World) (g : Nat) (l : List Value) (hl : l.length = 10) (hp : tmps.getD p undef = .pointer (some ⟨g, 0, none⟩)) (hg : NumB g l w) :
  (results fn tmps).run Tryz.prog w = .ok (.agg l.toArray) w := by
 have hp' : tmps[p]?.getD undef = .pointer (some ⟨g, 0, none⟩) := by simpa using hp
 simp [results, h, hp', asAddr, run_loadVar_row w g _ _ _ _ _ hg Tryz.underlying81 rfl (by rw [info_numW, List.size_toArray, hl])]
theorem num_range {w : World} {g : Nat} {l : List Value} (h : NumB g l w) : w.rangeAt g 0 l := fun j v hj => by
 rw [Nat.zero_add]; exact h.cell hj
theorem num_there {w : World} {g : Nat} {l : List Value} (h : NumB g l w) : w.there g 0 l.length := fun j hj => by
 rw [Nat.zero_add, h.cell (List.getElem?_eq_getElem hj)]
 exact ⟨rfl, h.froz j⟩
theorem store_num {w : World} {g : Nat} {l m : List Value} (h : NumB g l w) (hl : l.length = 10) (hm : m.length = 10) (h1 : ∀ v ∈ m, v.oneCell' = true) : (storeCells ⟨g, 0, none⟩ m 0).run Tryz.prog w = .ok () (w.setCells g 0 m) := by
 have ht := num_there h
 have := run_storeCells_cells (P := Tryz.prog) g 0 m 0 w (fun j hj => by have := (ht j (by omega)).1; simpa using this) (fun j hj => by have := (ht j (by omega)).2; simpa using this) h1
 simpa using this
def zeroL : List Value := List.replicate 10 (.int .u64 0)
theorem numL_one (z : Int) : ∀ v ∈ numL z, v.oneCell' = true := fun v hv => by
 obtain ⟨i, _, rfl⟩ := List.mem_map.1 hv
 rfl
set_option maxRecDepth 100000 in
set_option maxHeartbeats 4000000 in
theorem minus_num (a b : Int) (W : World) :
  Calls Tryz.prog 73 #[.agg (numL a).toArray, .agg (numL b).toArray] W fun e w' => e = .returned (.agg (numL (a - b)).toArray) ∧ Below W.heap.size W w' := by
 have HS := Lib.hid (fun i w => sub64_int (x := wd a i) (y := wd b i) (wd_lo a i) (wd_hi a i) (wd_lo b i) (wd_hi b i) (bor_01 a b i) w)
 have HT := Lib.hid (fun i => sub_step a b i)
 have HZ := Lib.hid (bor_zero a b)
 go_enter Tryz.func73, Tryz.ntmps73
 go_wp2_with fail
 have hb1 := alloc_belowL W (.cells (numL a).toArray 81)
 have hb2 := alloc_belowL (W.alloc (.cells (numL a).toArray 81)) (.cells (numL b).toArray 81)
 have hb3 := alloc_belowL ((W.alloc (.cells (numL a).toArray 81)).alloc (.cells (numL b).toArray 81)) (.cells zeroL.toArray 81)
 have g1 := heap_alloc_new W (.cells (numL a).toArray 81)
 have g2 := heap_alloc_new (W.alloc (.cells (numL a).toArray 81)) (.cells (numL b).toArray 81)
 have g3 := heap_alloc_new ((W.alloc (.cells (numL a).toArray 81)).alloc (.cells (numL b).toArray 81)) (.cells zeroL.toArray 81)
 simp only [alloc_sizeL] at g2 g3
 have HB := Lib.hid (belowVia hb3 (belowVia hb2 hb1))
 have N1 : Hid (NumB W.heap.size (mixL (a - b) a 0) _) := Lib.hid (by rw [mixL_zero]; exact heap_belowL (belowVia hb3 hb2) g1)
 have N2 : Hid (NumB (W.heap.size + 1) (numL b) _) := Lib.hid (heap_belowL hb3 g2)
 have N3 : Hid (NumB (W.heap.size + 1 + 1) zeroL _) := Lib.hid g3
 clear hb1 hb2 hb3 g1 g2 g3
 change Code.wp _ _ _ _ (((W.alloc (.cells (numL a).toArray 81)).alloc (.cells (numL b).toArray 81)).alloc (.cells zeroL.toArray 81))
 generalize ((W.alloc (.cells (numL a).toArray 81)).alloc (.cells (numL b).toArray 81)).alloc (.cells zeroL.toArray 81) = w0 at *
 go_loopw [5, 7] (fun s i wr => ∃ k : Nat, k ≤ 10 ∧ i = .int .i64 k ∧ s = .int .u64 (bor a b k) ∧ NumB W.heap.size (mixL (a - b) a k) wr ∧ NumB (W.heap.size + 1) (numL b) wr ∧ NumB (W.heap.size + 1 + 1) zeroL wr ∧ Below W.heap.size W wr) (fun _ i _ => 10 - (intOf i).toNat)
 case atStart => exact ⟨0, by omega, rfl, by rw [HZ.out], N1.out, N2.out, N3.out, HB.out⟩
 case round =>
  clear N1 N2 N3 HB
  obtain ⟨k, hk, rfl, rfl, n1, n2, n3, hB⟩ := hrel
  have N1 := Lib.hid n1
  have N2 := Lib.hid n2
  have N3 := Lib.hid n3
  have HB := Lib.hid hB
  clear n1 n2 n3 hB
  by_cases hlt : k < 10
  ·have hlt' : (k : Int) < 10 := by omega
   have hs := HS.out k
   obtain ⟨t1, t2⟩ := HT.out k
   rw [← t1, ← t2] at hs
   have T1 := Lib.hid t1
   clear t1 t2
   have c0 := N1.out.cell (mixL_get (a - b) a k hlt)
   rw [if_neg (by omega)] at c0
   have c1 := N1.out.froz k
   have c2 := N2.out.cell (numL_get b hlt)
   have N1' := N1.out.set k (.int .u64 (wd (a - b) k))
   rw [mixL_set _ _ hlt] at N1'
   have NX := Lib.hid N1'
   have NY : Hid (NumB (W.heap.size + 1) (numL b) (wr.setCell ⟨W.heap.size, k, none⟩ (.int .u64 (wd (a - b) k)))) := N2.out.other (by omega)
   have NZ : Hid (NumB (W.heap.size + 1 + 1) zeroL (wr.setCell ⟨W.heap.size, k, none⟩ (.int .u64 (wd (a - b) k)))) := N3.out.other (by omega)
   have HX : Hid (Below W.heap.size W (wr.setCell ⟨W.heap.size, k, none⟩ (.int .u64 (wd (a - b) k)))) := HB.out.setCell (p := ⟨W.heap.size, k, none⟩) (Nat.le_refl _) _
   clear N1' N1 N2 N3 HB HS HT
   generalize bor a b k = bk at *
   obtain ⟨bk1, hbk⟩ : ∃ bk1, bk1 = bor a b (k + 1) := ⟨_, rfl⟩
   rw [← hbk] at hs
   have HBK := Lib.hid hbk
   clear hbk
   generalize wd a k = x at *
   generalize wd b k = y at *
   generalize wd (a - b) k = z at *
   go_wp2_with fail
   go_region
   go_wp2_with fail
   go_roundw
   case rel => exact ⟨k + 1, by omega, by go_num, by rw [HBK.out], NX.out, NY.out, NZ.out, HX.out.drew⟩
   case measure => simp [intOf]; omega
  ·obtain rfl : k = 10 := by omega
   rw [mixL_ten] at N1
   clear HS HT
   generalize bor a b 10 = bk at *
   have hst := store_num N3.out rfl (numL_len (a - b)) (numL_one (a - b))
   go_wp2_with (refine wpList_load_mid rfl _ _ rfl W.heap.size 0 rfl (numL (a - b)) _ (num_range N1.out) Tryz.underlying81 rfl (by rw [info_numW, numL_len]) ?_)
   refine bodyPost_ret (results_num rfl _ _ (W.heap.size + 1 + 1) (numL (a - b)) (numL_len _) rfl (setCells_whole (cs := zeroL.toArray) (numL (a - b)) rfl N3.out)) rfl ?_
   exact ⟨rfl, below_setCells _ (by omega) _ _ _ HB.out⟩
end Go.Proofs.YtofmjkgaaphnkaaGreatDoor
/- LinAdd: The contract of add: a multiple added in place, what has no room dropped. -/
namespace Go.Proofs.YtofmjkgaaphnkaaGreatDoor
open Go.RowKit Putlog

theorem add64_int {x y b : Int} (hx : 0 ≤ x) (hx2 : x < WB) (hy : 0 ≤ y) (hy2 : y < WB) (hb : b = 0 ∨ b = 1) (w : World) : (callFunc 95 #[.int .u64 x, .int .u64 y, .int .u64 b]).run Tryz.prog w = .ok (.value (.tuple #[.int .u64 ((x + y + b) % WB), .int .u64 ((x + y + b) / WB)])) w := by
 unfold WB at *
 rw [run_callFunc_extern Tryz.func95 (by kernel_rfl) (by kernel_rfl) (by kernel_rfl) (e := add64Entry) (by kernel_rfl), run_add64 x y b (by omega) (by omega) (by omega) (by omega)]
 rfl
theorem mul64_int {x y : Int} (hx : 0 ≤ x) (hx2 : x < WB) (hy : 0 ≤ y) (hy2 : y < WB) (w : World) : Calls Tryz.prog 94 #[.int .u64 x, .int .u64 y] w fun e w' => e = .returned (.tuple #[.int .u64 (x * y / WB), .int .u64 (x * y % WB)]) ∧ w' = w := by
 unfold WB at *
 obtain ⟨x, rfl⟩ : ∃ n : Nat, x = n := ⟨x.toNat, by omega⟩
 obtain ⟨y, rfl⟩ : ∃ n : Nat, y = n := ⟨y.toNat, by omega⟩
 refine (Tryz.bits_Mul64 x y (by omega) (by omega) w).mono ?_
 rintro e w' ⟨rfl, rfl⟩
 refine ⟨?_, rfl⟩
 congr 3
/-- Nothing but one block has changed. -/
structure OnlyAt (p : Nat) (w w' : World) : Prop where
 bel : Below p w w'
 size : w'.heap.size = w.heap.size
 rest : ∀ k, k ≠ p → w'.heap[k]? = w.heap[k]?
theorem OnlyAt.refl (p : Nat) (w : World) (_hp : p < w.heap.size) : OnlyAt p w w := ⟨⟨rfl, rfl, rfl, by omega, fun _ _ => rfl⟩, rfl, fun _ _ => rfl⟩
theorem OnlyAt.set {p : Nat} {w w' : World} (h : OnlyAt p w w') (i : Nat) (v : Value) : OnlyAt p w (w'.setCell ⟨p, i, none⟩ v) :=
 ⟨h.bel.setCell (p := ⟨p, i, none⟩) (Nat.le_refl _) v, by rw [World.size_setCell]; exact h.size, fun k hk => (heap_setCell_other _ _ _ _ hk).trans (h.rest k hk)⟩
theorem OnlyAt.drew {p : Nat} {w w' : World} (h : OnlyAt p w w') : OnlyAt p w w'.drew := ⟨h.bel.drew, h.size, h.rest⟩
theorem OnlyAt.cell {p : Nat} {w w' : World} (h : OnlyAt p w w') {g i : Nat} (hne : g ≠ p) {v : Value} (hc : w.cell? ⟨g, i, none⟩ = some v) : w'.cell? ⟨g, i, none⟩ = some v := by
 rw [← hc]; simp only [World.cell?, h.rest g hne]
theorem mixL_start (z y f : Int) (m : Nat) : mixL (z + y * f * WB ^ m) z m = numL z := by
 unfold mixL numL
 refine List.map_congr_left fun j _ => ?_
 split
 ·rename_i h; rw [add_below _ _ _ h]
 ·rfl
theorem results_0 {fn : Func} (h : fn.results = #[]) (tmps : Array Value) (w : World) : (results fn tmps).run Tryz.prog w = .ok (.tuple #[]) w := by simp [results, h]
theorem mid_get (pre post : List Value) {l : List Value} {k : Nat} {v : Value} (h : l[k]? = some v) : (pre ++ (l ++ post))[pre.length + k]? = some v := by
 rw [List.getElem?_append_right (by omega), Nat.add_sub_cancel_left, List.getElem?_append_left (List.getElem?_eq_some_iff.1 h).1]; exact h
theorem mid_set (pre post : List Value) {l : List Value} {k : Nat} (v : Value) (h : k < l.length) : (pre ++ (l ++ post)).set (pre.length + k) v = pre ++ (l.set k v ++ post) := by
 rw [List.set_append_right _ _ (by omega), Nat.add_sub_cancel_left, List.set_append_left _ _ h]
set_option maxRecDepth 100000 in
set_option maxHeartbeats 8000000 in
theorem add_at (z y f : Int) (pre post : List Value) (m p g o : Nat) (W : World) (hf : 0 ≤ f) (hf2 : f < WB) (hm : m ≤ 10) (hz : NumB p (pre ++ (numL z ++ post)) W) (hy : ∀ j, j < 10 → W.cell? ⟨g, o + j, none⟩ = some (.int .u64 (wd y j))) (hne : g ≠ p) :
  Calls Tryz.prog 70 #[.pointer (some ⟨p, pre.length, none⟩), .pointer (some ⟨g, o, none⟩), .int .u64 f, .int .i64 m] W fun e w' => e = .returned (.tuple #[]) ∧ NumB p (pre ++ (numL (z + y * f * WB ^ m) ++ post)) w' ∧ OnlyAt p W w' := by
 have hp : p < W.heap.size := (Array.getElem?_eq_some_iff.1 hz).1
 have HO := Lib.hid (OnlyAt.refl p W hp)
 have HY := Lib.hid hy
 have HZ := Lib.hid hz
 have HM := Lib.hid (mixL_start z y f m)
 clear hy hz hp
 by_cases f0 : f = 0
 ·subst f0
  rw [Int.mul_zero, Int.zero_mul, Int.add_zero]
  clear HM HY
  go_enter Tryz.func70, Tryz.ntmps70
  go_wp2_with fail
  exact ⟨rfl, _, results_0 rfl _ _, rfl, HZ.out, HO.out⟩
 ·have fb : (f == 0) = false := by rw [beq_eq_false_iff_ne]; exact f0
  have HB := Lib.hid (fun k (hk : m ≤ k) => ovr_bound z y f hf hf2 (m := m) k hk)
  have HN := Lib.hid (fun k (hk : m ≤ k) => And.intro (add_word z y f hk) (ovr_succ z y f hk))
  have H0 := Lib.hid (ovr_start z y f m)
  have HF := Lib.hid (And.intro hf hf2)
  generalize z + y * f * WB ^ m = c at *
  clear hf hf2 f0
  go_enter Tryz.func70, Tryz.ntmps70
  go_wp2_with fail
  go_loopw [8, 9] (fun s i wr => ∃ k : Nat, m ≤ k ∧ k ≤ 10 ∧ i = .int .i64 k ∧ s = .int .u64 (ovr z y f m k) ∧ NumB p (pre ++ (mixL c z k ++ post)) wr ∧ OnlyAt p W wr) (fun _ i _ => 10 - (intOf i).toNat)
  case atStart => exact ⟨m, Nat.le_refl _, hm, rfl, by rw [H0.out], by rw [HM.out]; exact HZ.out, HO.out⟩
  case round =>
   obtain ⟨k, hmk, hk, rfl, rfl, n1, h1⟩ := hrel
   have N1 := Lib.hid n1
   have O1 := Lib.hid h1
   clear n1 h1 HO HZ HM
   by_cases hlt : k < 10
   ·have hlt' : (k : Int) < 10 := by omega
    have hw : IntKind.i64.wrap ((k : Int) - m) = ((k - m : Nat) : Int) := by rw [IntKind.wrap_i64]; omega
    have hj : k - m < 10 := by omega
    have c0 := O1.out.cell hne (HY.out (k - m) hj)
    have c1 := N1.out.cell (mid_get pre post (mixL_get c z k hlt))
    rw [if_neg (by omega)] at c1
    have c2 := N1.out.froz (pre.length + k)
    obtain ⟨v0, v1⟩ := HB.out k hmk
    obtain ⟨t1, t2⟩ := HN.out k hmk
    have HMU := Lib.hid (fun w => mul64_int (x := wd y (k - m)) (y := f) (wd_lo y (k - m)) (wd_hi y (k - m)) HF.out.1 HF.out.2 w)
    have x0 := wd_lo z k
    have x1 : wd z k < WB := wd_hi z k
    have w0 := wd_lo y (k - m)
    have w1 : wd y (k - m) ≤ WB - 1 := by have := wd_hi y (k - m); unfold WB; omega
    have hPP : wd y (k - m) * f ≤ (WB - 1) * (WB - 1) := Int.mul_le_mul w1 (by have := HF.out.2; omega) HF.out.1 (by unfold WB; omega)
    have hP0 := Int.mul_nonneg w0 HF.out.1
    have hmd : wd y (k - m) * f = wd y (k - m) * f / WB * WB + wd y (k - m) * f % WB := by have := Int.mul_ediv_add_emod (wd y (k - m) * f) WB; rw [Int.mul_comm WB] at this; exact this.symm
    have hi0 : 0 ≤ wd y (k - m) * f / WB := Int.ediv_nonneg hP0 (by unfold WB; omega)
    have hi1 : wd y (k - m) * f / WB ≤ WB - 2 := by
     have : wd y (k - m) * f / WB < WB - 1 := Int.ediv_lt_of_lt_mul wb_pos (by
      have e : (WB - 1) * (WB - 1) < (WB - 1) * WB := by decide
      omega)
     omega
    have lo0 : 0 ≤ wd y (k - m) * f % WB := Int.emod_nonneg _ (by unfold WB; omega)
    have lo1 : wd y (k - m) * f % WB < WB := Int.emod_lt_of_pos _ wb_pos
    obtain ⟨y1, y2, y3⟩ := add_way v0 v1 x0 x1 hmd hi0 hi1 lo0 lo1
    rw [← t1] at y1
    rw [← t2] at y2
    obtain ⟨nv0, nv1⟩ := HB.out (k + 1) (by omega)
    clear hmd hPP hP0 t1 t2 w0 w1
    generalize wd y (k - m) * f / WB = hi at *
    generalize wd y (k - m) * f % WB = lo at *
    have ha1 := fun w => add64_int (x := lo) (y := ovr z y f m k) (b := 0) lo0 lo1 v0 v1 (.inl rfl) w
    have s0 : 0 ≤ (lo + ovr z y f m k) % WB := Int.emod_nonneg _ (by unfold WB; omega)
    have s1 : (lo + ovr z y f m k) % WB < WB := Int.emod_lt_of_pos _ wb_pos
    have ha2 := fun w => add64_int (x := wd z k) (y := (lo + ovr z y f m k) % WB) (b := 0) x0 x1 s0 s1 (.inl rfl) w
    rw [Int.add_zero] at ha1
    simp only [Int.add_zero] at ha2
    have q0 : 0 ≤ (lo + ovr z y f m k) / WB := Int.ediv_nonneg (by omega) (by unfold WB; omega)
    rw [y1] at ha2
    obtain ⟨v', hv'⟩ : ∃ v', v' = ovr z y f m (k + 1) := ⟨_, rfl⟩
    rw [← hv'] at y2 nv0 nv1
    have HV := Lib.hid hv'
    clear hv'
    generalize ovr z y f m k = v at *
    generalize (lo + v) % WB = sl at *
    generalize (lo + v) / WB = ql at *
    generalize (wd z k + sl) / WB = qx at *
    have e1 : IntKind.u64.wrap (hi + ql) = hi + ql := by rw [IntKind.wrap_u64]; unfold WB at *; omega
    have e2 : IntKind.u64.wrap (hi + ql + qx) = v' := by rw [y2, IntKind.wrap_u64]; unfold WB at *; omega
    have N1' := N1.out.set (pre.length + k) (.int .u64 (wd c k))
    rw [mid_set pre post _ (by rw [mixL_len]; exact hlt), mixL_set _ _ hlt] at N1'
    have NX := Lib.hid N1'
    have HX := Lib.hid (O1.out.set (pre.length + k) (.int .u64 (wd c k)))
    clear N1' N1 O1 HB HN H0 v0 v1 x0 x1 hi0 hi1 lo0 lo1 y1 y2 y3 nv0 nv1 s0 s1 q0
    generalize wd y (k - m) = yw at *
    generalize wd z k = zw at *
    generalize wd c k = cw at *
    generalize pre.length = pl at *
    go_wp2_with fail
    refine (HMU.out _).mono ?_
    rintro e u1 ⟨rfl, rfl⟩
    go_wp2_with fail
    go_region
    go_wp2_with fail
    go_roundw
    case rel => exact ⟨k + 1, by omega, by omega, by go_num, by rw [HV.out], NX.out, HX.out.drew⟩
    case measure => simp [intOf]; omega
   ·obtain rfl : k = 10 := by omega
    rw [mixL_ten] at N1
    go_wp2_with fail
    exact ⟨rfl, _, results_0 rfl _ _, rfl, N1.out, O1.out⟩
theorem add_num (z y f : Int) (m p g o : Nat) (W : World) (hf : 0 ≤ f) (hf2 : f < WB) (hm : m ≤ 10) (hz : NumB p (numL z) W) (hy : ∀ j, j < 10 → W.cell? ⟨g, o + j, none⟩ = some (.int .u64 (wd y j))) (hne : g ≠ p) :
  Calls Tryz.prog 70 #[.pointer (some ⟨p, 0, none⟩), .pointer (some ⟨g, o, none⟩), .int .u64 f, .int .i64 m] W fun e w' => e = .returned (.tuple #[]) ∧ NumB p (numL (z + y * f * WB ^ m)) w' ∧ OnlyAt p W w' := by
 have h := add_at z y f [] [] m p g o W hf hf2 hm (by simpa using hz) hy hne
 simpa using h
end Go.Proofs.YtofmjkgaaphnkaaGreatDoor
/- LinWeigh: The contract of weighted: a sum of multiples, what has no room dropped. -/
namespace Go.Proofs.YtofmjkgaaphnkaaGreatDoor
open Go.RowKit Putlog

theorem OnlyAt.below {p B : Nat} {a w w' : World} (h : OnlyAt p w w') (hb : Below B a w) (hB : B ≤ p) : Below B a w' :=
 ⟨h.bel.os.trans hb.os, h.bel.tape.trans hb.tape, h.bel.output.trans hb.output, by have := hb.size; have := h.size; omega, fun k hk => (h.rest k (by omega)).trans (hb.block k hk)⟩
theorem OnlyAt.num {p q : Nat} {l : List Value} {w w' : World} (h : OnlyAt p w w') (hn : NumB q l w) (hne : q ≠ p) : NumB q l w' := (h.rest q hne).trans hn
/-- Numbers in memory, from an address on. -/
def NumsFrom (w : World) (g o : Nat) (l : List Int) : Prop := ∀ i, i < l.length → ∀ j, j < 10 → w.cell? ⟨g, o + i * 10 + j, none⟩ = some (.int .u64 (wd (l.getD i 0) j))
theorem NumsFrom.via {w w' : World} {g o : Nat} {l : List Int} (h : NumsFrom w g o l) (hB : Below w.heap.size w w') : NumsFrom w' g o l := fun i hi j hj => keptBelow hB (h i hi j hj)
def posP (c l : List Int) : Nat → Int
 | 0 => 0
 | k + 1 => posP c l k + (if 0 ≤ c.getD k 0 then l.getD k 0 * c.getD k 0 else 0)
def negP (c l : List Int) : Nat → Int
 | 0 => 0
 | k + 1 => negP c l k + (if 0 ≤ c.getD k 0 then 0 else l.getD k 0 * -(c.getD k 0))
theorem dot_parts (c l : List Int) : ∀ k, posP c l k - negP c l k = dotN c l k
 | 0 => rfl
 | k + 1 => by
  have ih := dot_parts c l k
  rw [posP, negP, dotN, Int.mul_comm (c.getD k 0)]
  split
  ·omega
  ·rw [Int.mul_neg]; omega
theorem num_zero : numL 0 = zeroL := by
 unfold numL zeroL
 apply List.ext_getElem?
 intro i
 by_cases h : i < 10
 ·rw [List.getElem?_map, List.getElem?_range h, List.getElem?_replicate, if_pos h]
  show some (Value.int .u64 (wd 0 i)) = _
  unfold wd
  rw [Int.zero_ediv, Int.zero_emod]
 ·rw [List.getElem?_eq_none (by simp; omega), List.getElem?_eq_none (by simp; omega)]
/-- A slice of machine integers. -/
def IntsFrom (w : World) (a : Option Addr) (l : List Int) : Prop := l = [] ∨ ∃ g o, a = some ⟨g, o, none⟩ ∧ ∀ j, j < l.length → w.cell? ⟨g, o + j, none⟩ = some (.int .i64 (l.getD j 0))
theorem IntsFrom.via {w w' : World} {a : Option Addr} {l : List Int} (h : IntsFrom w a l) (hB : Below w.heap.size w w') : IntsFrom w' a l := by
 rcases h with h | ⟨g, o, h1, h2⟩
 ·exact .inl h
 ·exact .inr ⟨g, o, h1, fun j hj => keptBelow hB (h2 j hj)⟩
set_option maxRecDepth 100000 in
set_option maxHeartbeats 8000000 in
theorem weighted_num (c l : List Int) (a : Option Addr) (ca g o n cb : Nat) (W : World) (hc : IntsFrom W a c) (hcb : ∀ x ∈ c, -9223372036854775807 ≤ x ∧ x ≤ 9223372036854775807) (hl : NumsFrom W g o l) (hn : c.length ≤ n) (hn2 : n ≤ l.length) (hcap : c.length ≤ ca ∧ (ca : Int) ≤ 9223372036854775807) (hcap2 : n ≤ cb ∧ (cb : Int) ≤ 9223372036854775807) :
  Calls Tryz.prog 47 #[.slice a c.length ca, .slice (some ⟨g, o, none⟩) n cb] W fun e w' => e = .returned (.agg (numL (dotN c l c.length)).toArray) ∧ Below W.heap.size W w' := by
 obtain ⟨k0, hk0⟩ : ∃ k0, k0 = c.length := ⟨_, rfl⟩
 have HC := Lib.hid hc
 have HCB := Lib.hid hcb
 have HL := Lib.hid hl
 have HKL := Lib.hid hk0
 have HDP := Lib.hid (dot_parts c l k0)
 have hk1 : (k0 : Int) ≤ n := by omega
 have hk2 : (k0 : Int) ≤ ca := by omega
 have hk3 : (k0 : Int) ≤ 9223372036854775807 := by omega
 have hk4 : (n : Int) ≤ cb := by omega
 have hk5 : (n : Int) ≤ 9223372036854775807 := by omega
 have HNL := Lib.hid hn2
 rw [← hk0]
 clear hc hcb hl hn hn2 hcap hcap2 hk0
 go_enter Tryz.func47, Tryz.ntmps47
 go_wp2_with fail
 change Code.wp _ _ _ _ (((W.alloc (.cells zeroL.toArray 81)).alloc (.cells zeroL.toArray 81)).alloc (.cells zeroL.toArray 81))
 have hb1 := alloc_belowL W (.cells zeroL.toArray 81)
 have hb2 := alloc_belowL (W.alloc (.cells zeroL.toArray 81)) (.cells zeroL.toArray 81)
 have hb3 := alloc_belowL ((W.alloc (.cells zeroL.toArray 81)).alloc (.cells zeroL.toArray 81)) (.cells zeroL.toArray 81)
 have g1 := heap_alloc_new W (.cells zeroL.toArray 81)
 have g2 := heap_alloc_new (W.alloc (.cells zeroL.toArray 81)) (.cells zeroL.toArray 81)
 have g3 := heap_alloc_new ((W.alloc (.cells zeroL.toArray 81)).alloc (.cells zeroL.toArray 81)) (.cells zeroL.toArray 81)
 simp only [alloc_sizeL] at g2 g3
 have HB := Lib.hid (belowVia hb3 (belowVia hb2 hb1))
 have N1 : Hid (NumB W.heap.size zeroL _) := Lib.hid (heap_belowL (belowVia hb3 hb2) g1)
 have N2 : Hid (NumB (W.heap.size + 1) (numL (posP c l 0)) _) := Lib.hid (by show NumB _ (numL 0) _; rw [num_zero]; exact heap_belowL hb3 g2)
 have N3 : Hid (NumB (W.heap.size + 1 + 1) (numL (negP c l 0)) _) := Lib.hid (by show NumB _ (numL 0) _; rw [num_zero]; exact g3)
 clear hb1 hb2 hb3 g1 g2 g3
 generalize ((W.alloc (.cells zeroL.toArray 81)).alloc (.cells zeroL.toArray 81)).alloc (.cells zeroL.toArray 81) = w0 at *
 go_loopw [11] (fun i wr => ∃ k : Nat, k ≤ k0 ∧ i = .int .i64 k ∧ NumB W.heap.size zeroL wr ∧ NumB (W.heap.size + 1) (numL (posP c l k)) wr ∧ NumB (W.heap.size + 1 + 1) (numL (negP c l k)) wr ∧ Below W.heap.size W wr) (fun i _ => k0 - (intOf i).toNat)
 case atStart => exact ⟨0, by omega, rfl, N1.out, N2.out, N3.out, HB.out⟩
 case round =>
  clear N1 N2 N3 HB
  obtain ⟨k, hk, rfl, n1, n2, n3, hB⟩ := hrel
  have N1 := Lib.hid n1
  have N2 := Lib.hid n2
  have N3 := Lib.hid n3
  have HB := Lib.hid hB
  clear n1 n2 n3 hB
  by_cases hlt : k < k0
  ·have hlt' : (k : Int) < k0 := by omega
   have hcell : ∃ g2 o2, a = some ⟨g2, o2, none⟩ ∧ wr.cell? ⟨g2, o2 + k, none⟩ = some (.int .i64 (c.getD k 0)) := by
    rcases HC.out with h | ⟨g2, o2, h1, h2⟩
    ·have := HKL.out; rw [h] at this; simp at this; omega
    ·exact ⟨g2, o2, h1, keptBelow HB.out (h2 k (by have := HKL.out; omega))⟩
   obtain ⟨g2, o2, rfl, c0⟩ := hcell
   have hb := HCB.out (c.getD k 0) (by rw [List.getD_eq_getElem?_getD, List.getElem?_eq_getElem (by have := HKL.out; omega)]; exact List.getElem_mem (by have := HKL.out; omega))
   have hls := HL.out k (by have := HNL.out; omega)
   have HLS := Lib.hid (fun j hj => keptBelow HB.out (hls j hj))
   have hgW : g < W.heap.size := lt_of_cell (hls 0 (by decide))
   clear hls
   have hp1 : posP c l (k + 1) = posP c l k + (if 0 ≤ c.getD k 0 then l.getD k 0 * c.getD k 0 else 0) := rfl
   have hp2 : negP c l (k + 1) = negP c l k + (if 0 ≤ c.getD k 0 then 0 else l.getD k 0 * -(c.getD k 0)) := rfl
   have hkn : (k : Int) < n := by omega
   by_cases hs : 0 ≤ c.getD k 0
   ·rw [if_pos hs] at hp1 hp2
    rw [Int.add_zero] at hp2
    have HP1 := Lib.hid hp1
    have HP2 := Lib.hid hp2
    have hwr : IntKind.u64.wrap (c.getD k 0) = c.getD k 0 := by rw [IntKind.wrap_u64]; omega
    have HA := Lib.hid (fun w hz hy => add_num (posP c l k) (l.getD k 0) (c.getD k 0) 0 (W.heap.size + 1) g (o + k * 10) w hs (by unfold WB; omega) (by omega) hz hy (by omega))
    simp only [Int.pow_zero, Int.mul_one] at HA
    rw [← hp1] at HA
    clear hp1 hp2
    have hgen : ∃ x, x = c.getD k 0 := ⟨_, rfl⟩
    clear hgen
    generalize c.getD k 0 = x at *
    generalize l.getD k 0 = y at *
    have hyz : ∀ j, j < 10 → wr.cell? ⟨g, o + k * 10 + j, none⟩ = some (.int .u64 (wd y j)) := HLS.out
    have HYZ := Lib.hid hyz
    clear hyz hb HC HCB HL HLS
    go_wp2_with fail
    refine (HA.out _ N2.out HYZ.out).mono ?_
    rintro e w1 ⟨rfl, nn, ho⟩
    have NN := Lib.hid nn
    have M1 : Hid (NumB W.heap.size zeroL w1) := Lib.hid (ho.num N1.out (by omega))
    have M2 : Hid (NumB (W.heap.size + 1 + 1) _ w1) := Lib.hid (ho.num N3.out (by omega))
    have MB := Lib.hid (ho.below HB.out (by omega))
    clear nn ho HA N1 N2 N3 HB
    go_wp2_with fail
    go_roundw
    case rel => exact ⟨k + 1, by omega, by go_num, M1.out, NN.out, by rw [HP2.out]; exact M2.out, MB.out⟩
    case measure => simp [intOf]; omega
   ·rw [if_neg hs] at hp1 hp2
    rw [Int.add_zero] at hp1
    have HP1 := Lib.hid hp1
    have HP2 := Lib.hid hp2
    have hwn : IntKind.i64.wrap (-(c.getD k 0)) = -(c.getD k 0) := by rw [IntKind.wrap_i64]; omega
    have hwr : IntKind.u64.wrap (-(c.getD k 0)) = -(c.getD k 0) := by rw [IntKind.wrap_u64]; omega
    have HA := Lib.hid (fun w hz hy => add_num (negP c l k) (l.getD k 0) (-(c.getD k 0)) 0 (W.heap.size + 1 + 1) g (o + k * 10) w (by omega) (by unfold WB; omega) (by omega) hz hy (by omega))
    simp only [Int.pow_zero, Int.mul_one] at HA
    rw [← hp2] at HA
    clear hp1 hp2
    have hgen : ∃ x, x = c.getD k 0 := ⟨_, rfl⟩
    clear hgen
    generalize c.getD k 0 = x at *
    generalize l.getD k 0 = y at *
    have hyz : ∀ j, j < 10 → wr.cell? ⟨g, o + k * 10 + j, none⟩ = some (.int .u64 (wd y j)) := HLS.out
    have HYZ := Lib.hid hyz
    clear hyz hb HC HCB HL HLS
    go_wp2_with fail
    refine (HA.out _ N3.out HYZ.out).mono ?_
    rintro e w1 ⟨rfl, nn, ho⟩
    have NN := Lib.hid nn
    have M1 : Hid (NumB W.heap.size zeroL w1) := Lib.hid (ho.num N1.out (by omega))
    have M2 : Hid (NumB (W.heap.size + 1) _ w1) := Lib.hid (ho.num N2.out (by omega))
    have MB := Lib.hid (ho.below HB.out (by omega))
    clear nn ho HA N1 N2 N3 HB
    go_wp2_with fail
    go_roundw
    case rel => exact ⟨k + 1, by omega, by go_num, M1.out, by rw [HP1.out]; exact M2.out, NN.out, MB.out⟩
    case measure => simp [intOf]; omega
  ·obtain rfl : k = k0 := by omega
   have HMI := Lib.hid (fun w => minus_num (posP c l k) (negP c l k) w)
   rw [HDP.out] at HMI
   clear HC HCB HL HKL HNL HDP hlt hk
   obtain ⟨D, hD⟩ : ∃ D, D = dotN c l k := ⟨_, rfl⟩
   rw [← hD] at HMI
   have HD := Lib.hid hD
   clear hD
   generalize posP c l k = A at *
   generalize negP c l k = B at *
   go_wp2_with (first | (refine wpList_load_mid rfl _ _ rfl (W.heap.size + 1) 0 rfl (numL A) _ (num_range N2.out) Tryz.underlying81 rfl (by rw [info_numW, numL_len]) ?_) | (refine wpList_load_mid rfl _ _ rfl (W.heap.size + 1 + 1) 0 rfl (numL B) _ (num_range N3.out) Tryz.underlying81 rfl (by rw [info_numW, numL_len]) ?_))
   refine (HMI.out _).mono ?_
   rintro e w1 ⟨rfl, hB⟩
   have HB := Lib.hid (belowVia hB HB.out)
   have N1 := Lib.hid (N1.out.via hB)
   clear hB
   have hst := store_num N1.out rfl (numL_len D) (numL_one D)
   go_wp2_with fail
   refine bodyPost_ret (results_num rfl _ _ W.heap.size (numL D) (numL_len _) rfl (setCells_whole (cs := zeroL.toArray) (numL D) rfl N1.out)) rfl ?_
   exact ⟨by rw [HD.out], below_setCells _ (Nat.le_refl _) _ _ _ HB.out⟩
end Go.Proofs.YtofmjkgaaphnkaaGreatDoor
/- LinTimes: The contract of times: a product, what has no room dropped. -/
namespace Go.Proofs.YtofmjkgaaphnkaaGreatDoor
open Go.RowKit Putlog

theorem numL_congr {x y q : Int} (h : x = y + q * WB ^ 10) : numL x = numL y := by
 unfold numL
 refine List.map_congr_left fun j hj => ?_
 have := add_below y q 1 (m := 10) (i := j) (List.mem_range.1 hj)
 rw [Int.mul_one] at this
 rw [h, this]
theorem numL_low (a b : Int) : numL (b * lowP a 10) = numL (a * b) := by
 refine (numL_congr (x := a * b) (q := a / WB ^ 10 * b) ?_).symm
 have h := low_high a 10
 conv => lhs; rw [h, Int.add_mul]
 rw [Int.mul_right_comm, Int.mul_comm (lowP a 10)]; omega
theorem index_num (z : Int) {k : Nat} (h : k < 10) (w : World) : (Instr.index 81 (.agg (numL z).toArray) (.int .i64 k)).run Tryz.prog w = .ok (.int .u64 (wd z k)) w := by
 rcases (by omega : k = 0 ∨ k = 1 ∨ k = 2 ∨ k = 3 ∨ k = 4 ∨ k = 5 ∨ k = 6 ∨ k = 7 ∨ k = 8 ∨ k = 9) with rfl | rfl | rfl | rfl | rfl | rfl | rfl | rfl | rfl | rfl <;> kernel_rfl
set_option maxRecDepth 100000 in
set_option maxHeartbeats 8000000 in
theorem times_num (a b : Int) (W : World) :
  Calls Tryz.prog 76 #[.agg (numL a).toArray, .agg (numL b).toArray] W fun e w' => e = .returned (.agg (numL (a * b)).toArray) ∧ Below W.heap.size W w' := by
 have HLOW := Lib.hid (numL_low a b)
 go_enter Tryz.func76, Tryz.ntmps76
 go_upto_region 2 with fail
 change Code.wp _ _ _ _ ((((W.alloc (.cells (numL a).toArray 81)).alloc (.cells (numL b).toArray 81)).alloc (.cells zeroL.toArray 81)).alloc (.cells zeroL.toArray 81))
 have hb1 := alloc_belowL W (.cells (numL a).toArray 81)
 have hb2 := alloc_belowL (W.alloc (.cells (numL a).toArray 81)) (.cells (numL b).toArray 81)
 have hb3 := alloc_belowL ((W.alloc (.cells (numL a).toArray 81)).alloc (.cells (numL b).toArray 81)) (.cells zeroL.toArray 81)
 have hb4 := alloc_belowL (((W.alloc (.cells (numL a).toArray 81)).alloc (.cells (numL b).toArray 81)).alloc (.cells zeroL.toArray 81)) (.cells zeroL.toArray 81)
 have g1 := heap_alloc_new W (.cells (numL a).toArray 81)
 have g2 := heap_alloc_new (W.alloc (.cells (numL a).toArray 81)) (.cells (numL b).toArray 81)
 have g3 := heap_alloc_new ((W.alloc (.cells (numL a).toArray 81)).alloc (.cells (numL b).toArray 81)) (.cells zeroL.toArray 81)
 have g4 := heap_alloc_new (((W.alloc (.cells (numL a).toArray 81)).alloc (.cells (numL b).toArray 81)).alloc (.cells zeroL.toArray 81)) (.cells zeroL.toArray 81)
 simp only [alloc_sizeL] at g2 g3 g4
 have HB := Lib.hid (belowVia hb4 (belowVia hb3 (belowVia hb2 hb1)))
 have N1 : Hid (NumB W.heap.size (numL a) _) := Lib.hid (heap_belowL (belowVia hb4 (belowVia hb3 hb2)) g1)
 have N2 : Hid (NumB (W.heap.size + 1) (numL b) _) := Lib.hid (heap_belowL (belowVia hb4 hb3) g2)
 have N3 : Hid (NumB (W.heap.size + 1 + 1) zeroL _) := Lib.hid (heap_belowL hb4 g3)
 have N4 : Hid (NumB (W.heap.size + 1 + 1 + 1) (numL (b * lowP a 0)) _) := Lib.hid (by rw [lowP_zero, Int.mul_zero, num_zero]; exact g4)
 clear hb1 hb2 hb3 hb4 g1 g2 g3 g4
 generalize (((W.alloc (.cells (numL a).toArray 81)).alloc (.cells (numL b).toArray 81)).alloc (.cells zeroL.toArray 81)).alloc (.cells zeroL.toArray 81) = w0 at *
 go_wp2_with (refine wpList_load_mid rfl _ _ rfl W.heap.size 0 rfl (numL a) _ (num_range N1.out) Tryz.underlying81 rfl (by rw [info_numW, numL_len]) ?_)
 clear N1
 go_loopw [9] (fun i wr => ∃ k : Nat, k ≤ 10 ∧ i = .int .i64 k ∧ NumB (W.heap.size + 1) (numL b) wr ∧ NumB (W.heap.size + 1 + 1) zeroL wr ∧ NumB (W.heap.size + 1 + 1 + 1) (numL (b * lowP a k)) wr ∧ Below W.heap.size W wr) (fun i _ => 10 - (intOf i).toNat)
 case atStart => exact ⟨0, by omega, rfl, N2.out, N3.out, N4.out, HB.out⟩
 case round =>
  clear N2 N3 N4 HB
  obtain ⟨k, hk, rfl, n2, n3, n4, hB⟩ := hrel
  have N2 := Lib.hid n2
  have N3 := Lib.hid n3
  have N4 := Lib.hid n4
  have HB := Lib.hid hB
  clear n2 n3 n4 hB
  by_cases hlt : k < 10
  ·have hlt' : (k : Int) < 10 := by omega
   have hix := fun w => index_num a hlt w
   have HA := Lib.hid (fun w hz hy => add_num (b * lowP a k) b (wd a k) k (W.heap.size + 1 + 1 + 1) (W.heap.size + 1) 0 w (wd_lo a k) (wd_hi a k) (by omega) hz hy (by omega))
   have hs : b * lowP a (k + 1) = b * lowP a k + b * wd a k * WB ^ k := by rw [lowP_succ, Int.mul_add, Int.mul_assoc]
   rw [← hs] at HA
   have HY : Hid (∀ j, j < 10 → wr.cell? ⟨W.heap.size + 1, 0 + j, none⟩ = some (.int .u64 (wd b j))) := fun j hj => by rw [Nat.zero_add]; exact N2.out.cell (numL_get b hj)
   clear hs
   generalize wd a k = x at *
   go_wp2_with fail
   refine (HA.out _ N4.out HY.out).mono ?_
   rintro e w1 ⟨rfl, nn, ho⟩
   have NN := Lib.hid nn
   have M2 := Lib.hid (ho.num N2.out (by omega))
   have M3 := Lib.hid (ho.num N3.out (by omega))
   have MB := Lib.hid (ho.below HB.out (by omega))
   clear nn ho HA N2 N3 N4 HB HY hix
   go_wp2_with fail
   go_roundw
   case rel => exact ⟨k + 1, by omega, by go_num, M2.out, M3.out, NN.out, MB.out⟩
   case measure => simp [intOf]; omega
  ·obtain rfl : k = 10 := by omega
   rw [HLOW.out] at N4
   have hst := store_num N3.out rfl (numL_len (a * b)) (numL_one (a * b))
   go_wp2_with (refine wpList_load_mid rfl _ _ rfl (W.heap.size + 1 + 1 + 1) 0 rfl (numL (a * b)) _ (num_range N4.out) Tryz.underlying81 rfl (by rw [info_numW, numL_len]) ?_)
   refine bodyPost_ret (results_num rfl _ _ (W.heap.size + 1 + 1) (numL (a * b)) (numL_len _) rfl (setCells_whole (cs := zeroL.toArray) (numL (a * b)) rfl N3.out)) rfl ?_
   exact ⟨rfl, below_setCells _ (by omega) _ _ _ HB.out⟩
end Go.Proofs.YtofmjkgaaphnkaaGreatDoor
/- LinSign: The contract of sign. -/
namespace Go.Proofs.YtofmjkgaaphnkaaGreatDoor
open Go.RowKit Putlog

/-- Half of what ten words have room for. -/
def HM : Int := 9223372036854775808 * WB ^ 9
theorem hm_two : HM + HM = WB ^ 10 := by decide
theorem words_eq (a b : Int) (w : World) : (Op.equalIn 10000 81 (.agg (numL a).toArray) (.agg (numL b).toArray)).run Tryz.prog w = .ok ((List.range 10).all fun i => wd a i == wd b i) w := by
 cases hq : Tryz.prog.info? 79 with
 | none =>
  have hi : (Tryz.prog.info? 79).map (·.size) = some 1 := by kernel_rfl
  simp [hq] at hi
 | some i =>
  rw [show (10000 : Nat) = 9999 + 1 from rfl, run_equalIn_array w 9999 _ _ Tryz.underlying81 hq]
  have hc : Tryz.prog.cellsOf 79 = 1 := by kernel_rfl
  rw [hc]
  have key : ∀ is : List Nat, (∀ i ∈ is, i < 10) → (Op.eqItems 9999 79 1 (numL a).toArray (numL b).toArray is).run Tryz.prog w = .ok (is.all fun i => wd a i == wd b i) w := by
   intro is
   induction is with
   | nil => intro _; simp [Op.eqItems]
   | cons j is ih =>
    intro h
    have hj := h j (by simp)
    have p1 := run_part_plain (P := Tryz.prog) w (e := 79) (by kernel_rfl) (xs := (numL a).toArray) (off := j) (v := .int .u64 (wd a j)) (by rw [List.getElem?_toArray]; exact numL_get a hj)
    have p2 := run_part_plain (P := Tryz.prog) w (e := 79) (by kernel_rfl) (xs := (numL b).toArray) (off := j) (v := .int .u64 (wd b j)) (by rw [List.getElem?_toArray]; exact numL_get b hj)
    have p3 := run_equalIn_int (P := Tryz.prog) w 9998 79 .u64 .u64 (wd a j) (wd b j) Tryz.underlying79
    have ih := ih (fun i hi => h i (by simp [hi]))
    simp only [Op.eqItems, Sem.run_bind, Nat.mul_one, p1, p2, p3, Result.andThen_ok, List.all_cons]
    by_cases e : wd a j = wd b j
    ·simp [e, ih]
    ·have : (wd a j == wd b j) = false := by rw [beq_eq_false_iff_ne]; exact e
     rw [this]; simp
  exact key _ (fun i hi => List.mem_range.1 hi)
theorem wd_zero (i : Nat) : wd 0 i = 0 := by unfold wd; rw [Int.zero_ediv, Int.zero_emod]
theorem zero_words {z : Int} (h1 : -HM ≤ z) (h2 : z < HM) : ((List.range 10).all fun i => wd z i == wd 0 i) = decide (z = 0) := by
 have h := hm_two
 by_cases e : z = 0
 ·rw [decide_eq_true e, e]; simp
 ·rw [decide_eq_false e, Bool.eq_false_iff]
  intro k
  have k2 : lowP z 10 = lowP 0 10 := lowP_ext 10 (fun i hi => by
   have := List.all_eq_true.1 k i (List.mem_range.2 hi)
   simpa using this)
  unfold lowP at k2
  rw [Int.zero_emod] at k2
  obtain ⟨q, hq⟩ := Int.dvd_of_emod_eq_zero k2
  rw [← h] at hq
  generalize HM = M at *
  rcases Int.lt_trichotomy q 0 with c | c | c
  ·have := Int.mul_le_mul_of_nonneg_left (show q ≤ -1 by omega) (show 0 ≤ M + M by omega)
   omega
  ·subst c; omega
  ·have := Int.mul_le_mul_of_nonneg_left (show 1 ≤ q by omega) (show 0 ≤ M + M by omega)
   omega
theorem top_word {z : Int} (h1 : -HM ≤ z) (h2 : z < HM) : (z < 0 → 9223372036854775808 ≤ wd z 9) ∧ (0 ≤ z → wd z 9 < 9223372036854775808) := by
 have hp := wbp_pos 9
 unfold HM at *
 refine ⟨fun h => ?_, fun h => ?_⟩
 ·have e : wd z 9 = wd (z + 1 * WB ^ 10) 9 := by
   have := add_below z 1 1 (m := 10) (i := 9) (by omega)
   rw [Int.mul_one] at this; exact this.symm
  have hz : z + 1 * WB ^ 10 = z + WB ^ 9 * WB := by rw [Int.one_mul, ← Int.pow_succ]
  rw [e, hz]
  unfold wd
  have l1 : 9223372036854775808 ≤ (z + WB ^ 9 * WB) / WB ^ 9 := by
   rw [Int.le_ediv_iff_mul_le hp]
   have : (9223372036854775808 : Int) * WB ^ 9 + 9223372036854775808 * WB ^ 9 = WB ^ 9 * WB := by decide
   omega
  have l2 : (z + WB ^ 9 * WB) / WB ^ 9 < WB := Int.ediv_lt_of_lt_mul hp (by
   have : WB * WB ^ 9 = WB ^ 9 * WB := Int.mul_comm _ _
   generalize WB * WB ^ 9 = A at *
   generalize WB ^ 9 * WB = B at *
   omega)
  rw [Int.emod_eq_of_lt (by omega) l2]; exact l1
 ·unfold wd
  have l1 : z / WB ^ 9 < 9223372036854775808 := Int.ediv_lt_of_lt_mul hp h2
  have l0 : 0 ≤ z / WB ^ 9 := Int.ediv_nonneg h (Int.le_of_lt hp)
  rw [Int.emod_eq_of_lt l0 (Int.lt_trans l1 (by decide))]; exact l1
def sgnZ (z : Int) : Int := if z = 0 then 0 else if z < 0 then -1 else 1
set_option maxRecDepth 100000 in
set_option maxHeartbeats 8000000 in
theorem sign_num (z : Int) (h1 : -HM ≤ z) (h2 : z < HM) (W : World) :
  Calls Tryz.prog 64 #[.agg (numL z).toArray] W fun e w' => e = .returned (.int .i64 (sgnZ z)) ∧ Below W.heap.size W w' := by
 have heq := fun w => words_eq z 0 w
 rw [zero_words h1 h2, num_zero] at heq
 have HT := Lib.hid (top_word h1 h2)
 have HB := Lib.hid (alloc_belowL W (.cells (numL z).toArray 81))
 have N1 : Hid (NumB W.heap.size (numL z) (W.alloc (.cells (numL z).toArray 81))) := Lib.hid (heap_alloc_new W _)
 clear h1 h2
 unfold sgnZ
 go_enter Tryz.func64, Tryz.ntmps64
 have hlen := numL_len z
 by_cases hz : z = 0
 ·rw [if_pos hz]
  rw [decide_eq_true hz] at heq
  clear hz HT
  generalize numL z = l at *
  have heq2 := fun w => heq w
  change ∀ w, (Op.equalIn 10000 81 (.agg l.toArray) (.agg #[.int .u64 0, .int .u64 0, .int .u64 0, .int .u64 0, .int .u64 0, .int .u64 0, .int .u64 0, .int .u64 0, .int .u64 0, .int .u64 0])).run Tryz.prog w = _ at heq2
  clear heq
  have HLEN := Lib.hid hlen
  clear hlen
  go_wp2_with (refine wpList_load_mid rfl _ _ rfl W.heap.size 0 rfl l _ (num_range N1.out) Tryz.underlying81 rfl (by rw [info_numW, HLEN.out]) ?_)
  go_ret
  exact ⟨rfl, HB.out⟩
 ·rw [if_neg hz]
  rw [decide_eq_false hz] at heq
  have c9 := N1.out.cell (numL_get z (show 9 < 10 by decide))
  obtain ⟨t1, t2⟩ := HT.out
  have w0 := wd_lo z 9
  have w1 := wd_hi z 9
  generalize numL z = l at *
  have heq2 := fun w => heq w
  change ∀ w, (Op.equalIn 10000 81 (.agg l.toArray) (.agg #[.int .u64 0, .int .u64 0, .int .u64 0, .int .u64 0, .int .u64 0, .int .u64 0, .int .u64 0, .int .u64 0, .int .u64 0, .int .u64 0])).run Tryz.prog w = _ at heq2
  clear heq HT
  have HLEN := Lib.hid hlen
  clear hlen
  by_cases hn : z < 0
  ·rw [if_pos hn]
   have h9 := t1 hn
   clear t1 t2 hz hn
   generalize wd z 9 = x at *
   have hsh : x / 9223372036854775808 = 1 := by omega
   go_wp2_with (refine wpList_load_mid rfl _ _ rfl W.heap.size 0 rfl l _ (num_range N1.out) Tryz.underlying81 rfl (by rw [info_numW, HLEN.out]) ?_)
   go_ret
   exact ⟨rfl, HB.out⟩
  ·rw [if_neg hn]
   have h9 := t2 (by omega)
   clear t1 t2 hz hn
   generalize wd z 9 = x at *
   have hsh : x / 9223372036854775808 = 0 := by omega
   go_wp2_with (refine wpList_load_mid rfl _ _ rfl W.heap.size 0 rfl l _ (num_range N1.out) Tryz.underlying81 rfl (by rw [info_numW, HLEN.out]) ?_)
   go_ret
   exact ⟨rfl, HB.out⟩
end Go.Proofs.YtofmjkgaaphnkaaGreatDoor
/- LinWhole: The contract of whole: a machine's integer as a number. -/
namespace Go.Proofs.YtofmjkgaaphnkaaGreatDoor
open Go.RowKit Putlog

theorem num_one : numL 1 = [.int .u64 1, .int .u64 0, .int .u64 0, .int .u64 0, .int .u64 0, .int .u64 0, .int .u64 0, .int .u64 0, .int .u64 0, .int .u64 0] := by kernel_rfl
set_option maxRecDepth 100000 in
set_option maxHeartbeats 4000000 in
theorem whole_num (z : Int) (h0 : -9223372036854775807 ≤ z) (h1 : z ≤ 9223372036854775807) (W : World) :
  Calls Tryz.prog 69 #[.int .i64 z] W fun e w' => e = .returned (.agg (numL z).toArray) ∧ Below W.heap.size W w' := by
 have HZ := Lib.hid (And.intro h0 h1)
 clear h0 h1
 go_enter Tryz.func69, Tryz.ntmps69
 go_wp2_with fail
 change Calls _ _ _ (((W.alloc (.cells zeroL.toArray 81)).alloc (.cells #[.int .i64 z] 3)).alloc (.cells #[.int .u64 1, .int .u64 0, .int .u64 0, .int .u64 0, .int .u64 0, .int .u64 0, .int .u64 0, .int .u64 0, .int .u64 0, .int .u64 0] 81)) _
 have hb1 := alloc_belowL W (.cells zeroL.toArray 81)
 have hb2 := alloc_belowL (W.alloc (.cells zeroL.toArray 81)) (.cells #[.int .i64 z] 3)
 have hb3 := alloc_belowL ((W.alloc (.cells zeroL.toArray 81)).alloc (.cells #[.int .i64 z] 3)) (.cells #[.int .u64 1, .int .u64 0, .int .u64 0, .int .u64 0, .int .u64 0, .int .u64 0, .int .u64 0, .int .u64 0, .int .u64 0, .int .u64 0] 81)
 have g1 := heap_alloc_new W (.cells zeroL.toArray 81)
 have g2 := heap_alloc_new (W.alloc (.cells zeroL.toArray 81)) (.cells #[.int .i64 z] 3)
 have g3 := heap_alloc_new ((W.alloc (.cells zeroL.toArray 81)).alloc (.cells #[.int .i64 z] 3)) (.cells #[.int .u64 1, .int .u64 0, .int .u64 0, .int .u64 0, .int .u64 0, .int .u64 0, .int .u64 0, .int .u64 0, .int .u64 0, .int .u64 0] 81)
 simp only [alloc_sizeL] at g2 g3
 have HB := Lib.hid (belowVia hb3 (belowVia hb2 hb1))
 have N1 : Hid (NumB W.heap.size zeroL _) := Lib.hid (heap_belowL (belowVia hb3 hb2) g1)
 have g2' := heap_belowL hb3 g2
 have hI : IntsFrom (((W.alloc (.cells zeroL.toArray 81)).alloc (.cells #[.int .i64 z] 3)).alloc (.cells #[.int .u64 1, .int .u64 0, .int .u64 0, .int .u64 0, .int .u64 0, .int .u64 0, .int .u64 0, .int .u64 0, .int .u64 0, .int .u64 0] 81)) (some ⟨W.heap.size + 1, 0, none⟩) [z] := .inr ⟨_, 0, rfl, fun j hj => by
  obtain rfl : j = 0 := by simpa using hj
  exact (cell_of_row _ _ 0 _ _ _ g2').trans rfl⟩
 have hN : NumsFrom (((W.alloc (.cells zeroL.toArray 81)).alloc (.cells #[.int .i64 z] 3)).alloc (.cells #[.int .u64 1, .int .u64 0, .int .u64 0, .int .u64 0, .int .u64 0, .int .u64 0, .int .u64 0, .int .u64 0, .int .u64 0, .int .u64 0] 81)) (W.heap.size + 1 + 1) 0 [1] := fun i hi j hj => by
  obtain rfl : i = 0 := by simpa using hi
  rw [show 0 + 0 * 10 + j = j by omega]
  have hn1 : NumB (W.heap.size + 1 + 1) (numL 1) (((W.alloc (.cells zeroL.toArray 81)).alloc (.cells #[.int .i64 z] 3)).alloc (.cells #[.int .u64 1, .int .u64 0, .int .u64 0, .int .u64 0, .int .u64 0, .int .u64 0, .int .u64 0, .int .u64 0, .int .u64 0, .int .u64 0] 81)) := by rw [num_one]; exact g3
  exact hn1.cell (numL_get 1 hj)
 have HI := Lib.hid hI
 have HN := Lib.hid hN
 clear hb1 hb2 hb3 g1 g2 g3 g2' hI hN
 generalize ((W.alloc (.cells zeroL.toArray 81)).alloc (.cells #[.int .i64 z] 3)).alloc (.cells #[.int .u64 1, .int .u64 0, .int .u64 0, .int .u64 0, .int .u64 0, .int .u64 0, .int .u64 0, .int .u64 0, .int .u64 0, .int .u64 0] 81) = w0 at *
 have hw := weighted_num [z] [1] (some ⟨W.heap.size + 1, 0, none⟩) 1 (W.heap.size + 1 + 1) 0 1 1 w0 HI.out (by simpa using HZ.out) HN.out (Nat.le_refl 1) (Nat.le_refl 1) ⟨Nat.le_refl 1, by decide⟩ ⟨Nat.le_refl 1, by decide⟩
 rw [show dotN [z] [1] [z].length = z by show 0 + z * 1 = z; omega] at hw
 refine hw.mono ?_
 rintro e w1 ⟨rfl, hB⟩
 have HB := Lib.hid (belowVia hB HB.out)
 have N1 := Lib.hid (N1.out.via hB)
 clear hB HI HN hw
 have hst := store_num N1.out rfl (numL_len z) (numL_one z)
 go_wp2_with fail
 refine bodyPost_ret (results_num rfl _ _ W.heap.size (numL z) (numL_len _) rfl (setCells_whole (cs := zeroL.toArray) (numL z) rfl N1.out)) rfl ?_
 exact ⟨rfl, below_setCells _ (Nat.le_refl _) _ _ _ HB.out⟩
end Go.Proofs.YtofmjkgaaphnkaaGreatDoor
