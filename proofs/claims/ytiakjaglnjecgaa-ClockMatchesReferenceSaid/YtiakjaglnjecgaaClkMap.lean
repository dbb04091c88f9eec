/- A map of numbers, as functions. -/
import Derived.Maps.OwnOps
import Derived.Maps.OwnSet
import Derived.Maps.Views
import Derived.Test.YtiakjaglnjecgaaClkSorted
namespace Go.Proofs.Ytiakjaglnjecgaa
open Go.RowKit Go.Maps Putlog

theorem wf_i64 {x : Int} (h : I64 x) : (Lit.int .i64 x).wf = true := by
  obtain ⟨h1, h2⟩ := h
  simp only [Lit.wf, IntKind.min, IntKind.max, IntKind.signed, IntKind.bits, Bool.and_eq_true, decide_eq_true_eq, if_true]
  omega
/-- What a map of numbers holds. -/
structure MapIs {H : Type} (D : DataW H) (c : Int → Int) (K : Int → Prop) : Prop where
  map : IsMap D
  val : ∀ x, D.atKey (.int .i64 x) (.lit (.int .i64 0)) = .lit (.int .i64 (c x))
  key : ∀ x, has D (.int .i64 x) = true ↔ K x
theorem MapIs.empty {H : Type} : MapIs (H := H) (.map []) (fun _ => 0) (fun _ => False) :=
  ⟨isMap_empty, fun x => rfl, fun x => by simp [has]⟩
theorem MapIs.put {H : Type} {D : DataW H} {c : Int → Int} {K : Int → Prop} (h : MapIs D c K) (y v : Int) : MapIs (D.put (.int .i64 y) (.lit (.int .i64 v))) (fun x => if x = y then v else c x) (fun x => x = y ∨ K x) := by
  have hk : WideAt.IsKeyLit (.int .i64 y) := trivial
  refine ⟨h.map.put _ _, fun x => ?_, fun x => ?_⟩
  · by_cases e : x = y
    · subst e
      rw [atKey_put_same h.map hk, if_pos rfl]
    · rw [atKey_put_other (by simp [e]), if_neg e, h.val x]
  · by_cases e : x = y
    · subst e
      rw [has_put_same h.map hk]; simp
    · rw [has_put_other (by simp [e]), h.key x]; simp [e]
theorem MapIs.congr {H : Type} {D : DataW H} {c c' : Int → Int} {K K' : Int → Prop} (h : MapIs D c K) (hc : ∀ x, c x = c' x) (hk : ∀ x, K x ↔ K' x) : MapIs D c' K' :=
  ⟨h.map, fun x => by rw [← hc, h.val], fun x => by rw [h.key, hk]⟩
theorem MapIs.got {H : Type} {D : DataW H} {c : Int → Int} {K : Int → Prop} (h : MapIs D c K) {x v : Int} (hat : D.atKey (.int .i64 x) (.lit (.int .i64 0)) = .lit (.int .i64 v)) : v = c x := by
  rw [h.val] at hat
  cases hat; rfl
theorem endAt_snoc (l : List Sp) (p : Sp) (x : Int) : endAt (l ++ [p]) x ↔ endAt l x ∨ (p.1 < p.2 ∧ (x = p.1 ∨ x = p.2)) := by
  unfold endAt
  constructor
  · rintro ⟨q, hq, h⟩
    rcases List.mem_append.1 hq with hq | hq
    · exact .inl ⟨q, hq, h⟩
    · simp at hq; subst hq; exact .inr h
  · rintro (⟨q, hq, h⟩ | h)
    · exact ⟨q, List.mem_append.2 (.inl hq), h⟩
    · exact ⟨p, by simp, h⟩
/-- The changes behind a spell that has seconds. -/
theorem MapIs.spell {H : Type} {D : DataW H} {l : List Sp} {a b : Int} (h : MapIs D (fun x => chg x l) (endAt l)) (hab : a < b) :
    MapIs ((D.put (.int .i64 a) (.lit (.int .i64 (chg a l + 1)))).put (.int .i64 b) (.lit (.int .i64 (chg b l - 1)))) (fun x => chg x (l ++ [(a, b)])) (endAt (l ++ [(a, b)])) := by
  refine ((h.put a (chg a l + 1)).put b (chg b l - 1)).congr (fun x => ?_) (fun x => ?_)
  · rw [chg_snoc]
    unfold dlt
    dsimp only
    rw [if_pos hab]
    by_cases e1 : x = b
    · subst e1
      rw [if_pos rfl, if_neg (show ¬ a = x by omega), if_pos rfl]; omega
    · rw [if_neg e1]
      by_cases e2 : x = a
      · subst e2
        rw [if_pos rfl, if_pos rfl, if_neg (by omega)]; omega
      · rw [if_neg e2, if_neg (by omega), if_neg (by omega)]; omega
  · rw [endAt_snoc]
    dsimp only
    constructor
    · rintro (h | h | h)
      · exact .inr ⟨hab, .inr h⟩
      · exact .inr ⟨hab, .inl h⟩
      · exact .inl h
    · rintro (h | ⟨_, h | h⟩)
      · exact .inr (.inr h)
      · exact .inr (.inl h)
      · exact .inl h
theorem MapIs.none {H : Type} {D : DataW H} {l : List Sp} {a b : Int} (h : MapIs D (fun x => chg x l) (endAt l)) (hab : ¬ a < b) : MapIs D (fun x => chg x (l ++ [(a, b)])) (endAt (l ++ [(a, b)])) := by
  refine h.congr (fun x => ?_) (fun x => ?_)
  · rw [chg_snoc, dlt, if_neg hab]; omega
  · rw [endAt_snoc]; simp [hab]
/-- What the keys of such a map are, sorted. -/
structure KeysOk (l : List Sp) (ks : List Int) : Prop where
  mem : ∀ x, x ∈ ks ↔ endAt l x
  asc : ks.Pairwise (fun a b => a < b)
theorem keys_ok {H : Type} {w : World} {b n : Nat} {D : DataW H} {R : Value → Option (DataW H × List MemPlace)} {l : List Sp} {c : Int → Int} (hown : w.ownsMap Try.prog 3 R b n D) (h : MapIs D c (endAt l)) {ss : List Int} (hp : ss.Perm (intKeys D)) : KeysOk l (ss.mergeSort (fun x y => decide (x ≤ y))) := by
  obtain ⟨es, hD, hpw, _⟩ := hown.entries (int_keyed Try.underlying3)
  obtain ⟨es', hD', hko⟩ := hown.keysOf
  obtain rfl : es = es' := by rw [hD] at hD'; simpa using hD'
  subst hD
  have hki : ∀ p ∈ es, ∃ x, p.1 = .int .i64 x := fun p hp => by obtain ⟨v, hv⟩ := hko p hp; obtain ⟨x, _, hx, _⟩ := Maps.keyOf_i64 Try.underlying3 hv; exact ⟨x, hx⟩
  have hmem : ∀ x, x ∈ intKeys (.map es) ↔ has (.map es) (.int .i64 x) = true := fun x => by
    rw [has_eq, List.any_eq_true]
    show x ∈ (es.map fun p => Go.intOf p.1) ↔ _
    rw [List.mem_map]
    constructor
    · rintro ⟨p, hp, rfl⟩
      obtain ⟨y, hy⟩ := hki p hp
      exact ⟨p, hp, by rw [hy]; simp [Lit.sameKey, Go.intOf]⟩
    · rintro ⟨p, hp, hs⟩
      obtain ⟨y, hy⟩ := hki p hp
      rw [hy] at hs
      exact ⟨p, hp, by rw [hy]; simp [Lit.sameKey, Go.intOf] at hs ⊢; exact hs⟩
  have hnd : (intKeys (.map es)).Nodup := by
    show (es.map fun p => Go.intOf p.1).Nodup
    refine List.pairwise_map.2 (hpw.imp_of_mem fun {p q} hp' hq' hne e => hne ?_)
    obtain ⟨a, ha⟩ := hki p hp'
    obtain ⟨b, hb⟩ := hki q hq'
    rw [ha, hb] at e ⊢
    exact congrArg _ e
  have tr : ∀ a b c : Int, (decide (a ≤ b)) = true → (decide (b ≤ c)) = true → (decide (a ≤ c)) = true := fun a b c h1 h2 => by simp only [decide_eq_true_eq] at *; exact Int.le_trans h1 h2
  have to : ∀ a b : Int, (decide (a ≤ b) || decide (b ≤ a)) = true := fun a b => by simp only [Bool.or_eq_true, decide_eq_true_eq]; exact Int.le_total a b
  have hperm := (List.mergeSort_perm ss (fun x y => decide (x ≤ y))).trans hp
  refine ⟨fun x => by rw [hperm.mem_iff, hmem, h.key], ?_⟩
  have h1 := List.pairwise_mergeSort tr to ss
  have h2 : (ss.mergeSort (fun x y => decide (x ≤ y))).Nodup := hperm.nodup_iff.2 hnd
  refine (h1.and h2).imp fun {a b} hab => ?_
  have := of_decide_eq_true hab.1
  have := hab.2
  omega
theorem KeysOk.before {l : List Sp} {ks : List Int} (h : KeysOk l ks) {i j : Nat} (hij : i < j) (hj : j < ks.length) : ks.getD i 0 < ks.getD j 0 := by
  have := List.pairwise_iff_getElem.1 h.asc i j (by omega) hj hij
  rw [List.getD_eq_getElem?_getD, List.getD_eq_getElem?_getD, List.getElem?_eq_getElem hj, List.getElem?_eq_getElem (by omega)]
  exact this
theorem KeysOk.at {l : List Sp} {ks : List Int} (h : KeysOk l ks) {x : Int} (hx : endAt l x) : ∃ i, i < ks.length ∧ ks.getD i 0 = x := by
  obtain ⟨i, hi, e⟩ := List.mem_iff_getElem.1 ((h.mem x).2 hx)
  exact ⟨i, hi, by rw [List.getD_eq_getElem?_getD, List.getElem?_eq_getElem hi]; exact e⟩
end Go.Proofs.Ytiakjaglnjecgaa
