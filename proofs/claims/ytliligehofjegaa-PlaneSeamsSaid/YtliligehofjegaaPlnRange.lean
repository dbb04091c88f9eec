/- A range over a function that writes blocks of its own between the rounds, and whose rounds may leave the loop: the law, and what its contract says. -/
import Derived.RangeFuncNested
import Derived.RangeFuncBound
import Derived.RangeFuncCalls
import Derived.RangeFuncLeaves
import Derived.RangeFuncOne
import Derived.RangeFuncFrom
import Derived.OwnWalkIn
import Derived.TacticsInMore
import Derived.LoopNIn
import Derived.LoopIn
import Derived.Shelf.Abstract
import Derived.Shelf.RegionOpen
import Derived.Test.YtliligehofjegaaPlnTurn
namespace Go.Proofs.Ytliligehofjegaa
open Go.RowKit

/-- Whatever lay from block B on lies as it lay. -/
structure Above (B : Nat) (W W' : World) : Prop where
  size : W.heap.size ≤ W'.heap.size
  same : ∀ k, B ≤ k → k < W.heap.size → W'.heap[k]? = W.heap[k]?
theorem Above.refl (B : Nat) (W : World) : Above B W W := ⟨Nat.le_refl _, fun _ _ _ => rfl⟩
theorem Above.trans {B : Nat} {X Y Z : World} (h : Above B X Y) (k : Above B Y Z) : Above B X Z :=
  ⟨Nat.le_trans h.size k.size, fun i hB hi => (k.same i hB (Nat.lt_of_lt_of_le hi h.size)).trans (h.same i hB hi)⟩
theorem Above.of_below {B : Nat} {W W' : World} (h : Below W.heap.size W W') : Above B W W' := ⟨h.size, fun k _ hk => h.block k hk⟩
theorem Above.setCell {B : Nat} (W : World) (b i : Nat) (v : Value) (hb : b < B) : Above B W (W.setCell ⟨b, i, none⟩ v) :=
  ⟨by simp, fun k hk _ => heap_setCell_other W ⟨b, i, none⟩ k v (by simp; omega)⟩
theorem Above.mono {B B' : Nat} {W W' : World} (h : Above B W W') (hB : B ≤ B') : Above B' W W' := ⟨h.size, fun k hk hl => h.same k (by omega) hl⟩

variable {F : Fence} {n : Nat} {P : Program}

/-- What an iterator yields, whoever hears: m times, what stands at the number of the round. A round may leave the loop. The iterator may write blocks that it has made itself. -/
def SeqYields (F : Fence) (n : Nat) (P : Program) (g : Nat) (lb : Array Value) (enc : Nat → Array Value) (m : Nat) (R : World → Prop) : Prop :=
  ∀ (l : Nat) (J Jx : Nat → World → Prop) (W : World),
    (∀ k A A', J k A → Below W.heap.size A A' → J k A') →
    (∀ k A A', Jx k A → Below W.heap.size A A' → Jx k A') →
    (∀ k A, J k A → R A) →
    (∀ k A, k < m → J k A → W.heap.size ≤ A.heap.size → YieldAt F (n - 1) P l (enc k) A fun e A' => (e = .returned (.bool true) ∧ J (k + 1) A' ∧ Above W.heap.size A A') ∨ (e = .returned (.bool false) ∧ Jx k A')) →
    J 0 W →
    CallsIn F n P g (#[.func (.yield l) #[] #[]] ++ lb) W fun e W' => (∃ v, e = .returned v) ∧ (J m W' ∨ ∃ k, k < m ∧ Jx k W')

/-- How the body of a round may be left. -/
def yldPost (B : Nat) (I : Nat → World → Prop) (Ix : Code → Nat → World → Prop) (k : Nat) (W : World) : Exit → Act → World → Prop
  | .normal, _, W' => Above B W W' ∧ I (k + 1) W'
  | .ret, _, W' => Above B W W' ∧ Ix .ret k W'
  | .exit id, _, W' => Above B W W' ∧ Ix (.exit id) k W'
  | .goto t, _, W' => Above B W W' ∧ Ix (.goto t) k W'
  | .panic _, _, _ => False
  | .outgrown, _, _ => False

theorem wpIn_rangeFunc_yields {g : Operand} {ps : Array Tmp} {assign body : Code} {Q : Exit → Act → World → Prop} {a : Act} {w : World}
    (hro : F.round = none) (h1 : 1 ≤ n) {gf : Nat} {lb : Array Value} (hg : a.eval g = .func (.func gf) #[] lb) (hFg : F.fn gf) (eg : ∀ args w, (callFunc gf args).run P w = .ok (.enter gf args) w)
    {enc : Nat → Array Value} {m : Nat} {R : World → Prop} (hseq : SeqYields F (n - 1) P gf lb enc m R) (hps : ∀ k, (enc k).size = ps.size)
    (I : Nat → World → Prop) (Ix : Code → Nat → World → Prop) (hI : ∀ k A A', I k A → Below w.heap.size A A' → I k A') (hIx : ∀ c k A A', Ix c k A → Below w.heap.size A A' → Ix c k A') (hR : ∀ k A, I k A → R A) (h0 : I 0 w)
    (Ax : Nat → Act → World → Prop) (hAx : ∀ k a' A A', Ax k a' A → (∀ j, j ≠ w.heap.size + 1 → A'.heap[j]? = A.heap[j]?) → Ax k a' A')
    (hassign : ∀ (l k : Nat) (W : World), k < m → w.heap.size + 1 < W.heap.size → I k W →
      assign.wpIn (F.inRound l) (n - 1 - 1) P (Exit.then (fun a' W' => Above w.heap.size W W' ∧ I k W' ∧ Ax k a' W') (fun _ _ _ => False)) { tmps := (ps.zip (enc k)).foldl (fun t (p, v) => t.setIfInBounds p v) a.tmps, defers := [] } W)
    (hbody : ∀ (l k : Nat) (a' : Act) (W : World), k < m → w.heap.size + 1 < W.heap.size → I k W → Ax k a' W → body.wpIn (F.inRound l) (n - 1 - 1) P (yldPost w.heap.size I Ix k W) a' W)
    (hdone : ∀ (D : Nat) (W : World), w.heap.size ≤ D → I m W → W.heap[D]? = some (.deferred (some [])) → Q .normal { a with defers := { target := .collected D, args := #[] } :: a.defers } W)
    (hstop : ∀ (D : Nat) (c : Code) (k : Nat) (W : World), w.heap.size ≤ D → k < m → Ix c k W → W.heap[D]? = some (.deferred (some [])) → c.wpIn F n P Q { a with defers := { target := .collected D, args := #[] } :: a.defers } W) :
    (Code.rangeFunc g ps assign body).wpIn F n P Q a w := by
  refine wpIn_rangeFunc ?_
  intro fn hfn
  rw [hro]
  obtain ⟨rec, hrec⟩ : ∃ rec : LoopState → Option Code → Loop, rec = fun st pe => { state := st, pending := pe, fn, tmps := a.tmps, params := ps, assign, body, defers := w.heap.size } := ⟨_, rfl⟩
  obtain ⟨W1, hW1⟩ : ∃ W1, (w.alloc (.deferred (some []))).alloc (.loop (rec .ready none)) = W1 := ⟨_, rfl⟩
  have hsz : W1.heap.size = w.heap.size + 1 + 1 := by rw [← hW1, World.size_alloc, World.size_alloc]
  have hL1 : W1.heap[w.heap.size + 1]? = some (.loop (rec .ready none)) := by
    rw [← hW1]; have := World.alloc_heap_new (w.alloc (.deferred (some []))) (.loop (rec .ready none)); rwa [World.size_alloc] at this
  have hK1 : W1.heap[w.heap.size]? = some (.deferred (some [])) := by
    rw [← hW1]; exact (Below.heap_alloc _ _ _ (by simp)).trans (World.alloc_heap_new w _)
  have hI1 : I 0 W1 := by
    rw [← hW1]
    exact hI _ _ _ h0 (((Below.refl _ w).alloc (Nat.le_refl _) _).alloc (by simp) _)
  have put : ∀ (W : World) (o o' : Obj), W.heap[w.heap.size + 1]? = some o → Below w.heap.size W (W.putObj (w.heap.size + 1) o') := fun W o o' h => (Below.refl _ W).grown (grownBy_putObj' W (w.heap.size + 1) o') (by have := (Array.getElem?_eq_some_iff.1 h).1; omega) (fun k e => by cases e; omega)
  have down : ∀ {A A' : World}, Below W1.heap.size A A' → Below w.heap.size A A' := fun hb => by rw [hsz] at hb; exact ⟨hb.os, hb.tape, hb.output, hb.size, fun k hk => hb.block k (by omega)⟩
  refine ⟨w.heap.size + 1, [{ target := .collected w.heap.size, args := #[] }], W1, { target := .fn (.func gf) lb, args := #[.func (.yield (w.heap.size + 1)) #[] #[]] }, W1, gf,
    #[.func (.yield (w.heap.size + 1)) #[] #[]] ++ lb, W1, ?_, ?_, ?_, ?_, fun _ => h1, ?_⟩
  · rw [← hW1, hrec]; exact run_enterLoop_outer _ _ _ _ _
  · simp only [resolve, hg]
    simp [go_sem]
  · intro f' hf'; simp [Target.leads] at hf'; subst hf'; exact hFg
  · simp [invoke, go_sem, eg]
  · refine (hseq (w.heap.size + 1)
      (fun k W => w.heap.size ≤ W.heap.size ∧ I k W ∧ W.heap[w.heap.size + 1]? = some (.loop (rec .ready none)) ∧ W.heap[w.heap.size]? = some (.deferred (some [])))
      (fun k W => ∃ c, Ix c k W ∧ W.heap[w.heap.size + 1]? = some (.loop (rec .done (some c))) ∧ W.heap[w.heap.size]? = some (.deferred (some [])))
      W1
      (fun k A A' hs hb => ⟨Nat.le_trans hs.1 hb.size, hI _ _ _ hs.2.1 (down hb), (hb.block _ (by omega)).trans hs.2.2.1, (hb.block _ (by omega)).trans hs.2.2.2⟩)
      (fun k A A' hs hb => by obtain ⟨c, hc, hl, hk⟩ := hs; exact ⟨c, hIx _ _ _ _ hc (down hb), (hb.block _ (by omega)).trans hl, (hb.block _ (by omega)).trans hk⟩)
      (fun k A hs => hR _ _ hs.2.1) ?_ ⟨by omega, hI1, hL1, hK1⟩).mono ?_
    · rintro k W hkm ⟨hle, hi, hl, hk⟩ _
      have hlt : w.heap.size + 1 < W.heap.size := (Array.getElem?_eq_some_iff.1 hl).1
      have hy := run_yield (P := P) (args := enc k) hl (by rw [hrec]; exact hps k)
      rw [hrec] at hy
      refine ⟨fn, _, assign, body, hy, roundIn_of_wpIn hfn (wpIn_mono (hassign _ k W hkm hlt hi) ?_)⟩
      clear hy
      rintro e a' Wa hp
      cases e with
      | ret => exact hp.elim
      | exit id => exact hp.elim
      | goto t => exact hp.elim
      | panic ch => exact hp.elim
      | outgrown => exact hp.elim
      | normal =>
      obtain ⟨haba, hia, hax⟩ := hp
      have hla := (haba.same (w.heap.size + 1) (by omega) hlt).trans hl
      have hka := (haba.same w.heap.size (Nat.le_refl _) (by omega)).trans hk
      have hlta : w.heap.size + 1 < Wa.heap.size := (Array.getElem?_eq_some_iff.1 hla).1
      refine ⟨_, run_beginRound hla (by rw [hrec]), ?_⟩
      have hl2 : (Wa.putObj (w.heap.size + 1) (.loop { rec .ready none with state := .busy })).heap[w.heap.size + 1]? = some (.loop { rec .ready none with state := .busy }) := World.putObj_heap_same hlta
      have hk2 : (Wa.putObj (w.heap.size + 1) (.loop { rec .ready none with state := .busy })).heap[w.heap.size]? = some (.deferred (some [])) := (World.putObj_heap_other (by omega)).trans hka
      have hsz2 : (Wa.putObj (w.heap.size + 1) (.loop { rec .ready none with state := .busy })).heap.size = Wa.heap.size := by simp
      refine wpIn_mono (hbody _ k a' _ hkm (by rw [hsz2]; omega) (hI _ _ _ hia (put _ _ _ hla)) (hAx _ _ _ _ hax (fun j hj => World.putObj_heap_other hj))) ?_
      have fin : ∀ (jump : Option Code) (W3 : World), Above w.heap.size (Wa.putObj (w.heap.size + 1) (.loop { rec .ready none with state := .busy })) W3 →
          (Instr.endRound (w.heap.size + 1) jump).run P W3 = .ok (.bool jump.isNone) (W3.putObj (w.heap.size + 1) (.loop (rec (if jump.isNone then .ready else .done) jump))) ∧
          Below w.heap.size W3 (W3.putObj (w.heap.size + 1) (.loop (rec (if jump.isNone then .ready else .done) jump))) ∧
          (W3.putObj (w.heap.size + 1) (.loop (rec (if jump.isNone then .ready else .done) jump))).heap[w.heap.size + 1]? = some (.loop (rec (if jump.isNone then .ready else .done) jump)) ∧
          (W3.putObj (w.heap.size + 1) (.loop (rec (if jump.isNone then .ready else .done) jump))).heap[w.heap.size]? = some (.deferred (some [])) := fun jump W3 hab => by
        have hl3 := (hab.same (w.heap.size + 1) (by omega) (by rw [hsz2]; exact hlta)).trans hl2
        have hk3 := (hab.same w.heap.size (Nat.le_refl _) (by rw [hsz2]; omega)).trans hk2
        have := run_endRound (P := P) jump hl3
        rw [hrec] at this ⊢
        exact ⟨this, put _ _ _ hl3, World.putObj_heap_same (Array.getElem?_eq_some_iff.1 hl3).1, (World.putObj_heap_other (by omega)).trans hk3⟩
      rintro e a3 W3 hp
      cases e with
      | normal =>
        obtain ⟨hab, hi3⟩ := hp
        obtain ⟨hr, hb3, hl4, hk4⟩ := fin none W3 hab
        have hs3 := hab.size
        rw [hsz2] at hs3
        refine ⟨_, _, hr, .inl ⟨rfl, ⟨?_, hI _ _ _ hi3 hb3, hl4, hk4⟩, ⟨?_, fun j hj hlj => ?_⟩⟩⟩
        · simp; omega
        · have := haba.size; simp; omega
        · rw [World.putObj_heap_other (by omega), hab.same j (by omega) (by rw [hsz2]; exact Nat.lt_of_lt_of_le hlj haba.size), World.putObj_heap_other (by omega), haba.same j (by omega) hlj]
      | ret =>
        obtain ⟨hab, hi3⟩ := hp
        obtain ⟨hr, hb3, hl4, hk4⟩ := fin (some .ret) W3 hab
        exact ⟨_, _, hr, .inr ⟨rfl, .ret, hIx _ _ _ _ hi3 hb3, hl4, hk4⟩⟩
      | exit id =>
        obtain ⟨hab, hi3⟩ := hp
        obtain ⟨hr, hb3, hl4, hk4⟩ := fin (some (.exit id)) W3 hab
        exact ⟨_, _, hr, .inr ⟨rfl, .exit id, hIx _ _ _ _ hi3 hb3, hl4, hk4⟩⟩
      | goto t =>
        obtain ⟨hab, hi3⟩ := hp
        obtain ⟨hr, hb3, hl4, hk4⟩ := fin (some (.goto t)) W3 hab
        exact ⟨_, _, hr, .inr ⟨rfl, .goto t, hIx _ _ _ _ hi3 hb3, hl4, hk4⟩⟩
      | panic ch => exact hp.elim
      | outgrown => exact hp.elim
    · rintro e W2 ⟨⟨v, rfl⟩, (⟨hle, hi, hl, hk⟩ | ⟨k, hkm, c, hi, hl, hk⟩)⟩
      · exact ⟨none, _, by have := run_endLoop (P := P) hl (by rw [hrec]; simp); rw [hrec] at this; exact this, hdone _ _ (Nat.le_refl _) (hI _ _ _ hi (put _ _ _ hl)) ((World.putObj_heap_other (by omega)).trans hk)⟩
      · exact ⟨some c, _, by have := run_endLoop (P := P) hl (by rw [hrec]; simp); rw [hrec] at this; exact this, hstop _ c k _ (Nat.le_refl _) hkm (hIx _ _ _ _ hi (put _ _ _ hl)) ((World.putObj_heap_other (by omega)).trans hk)⟩
end Go.Proofs.Ytliligehofjegaa
