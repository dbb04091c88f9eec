/- Several texts of layers 7 and 8, one behind the other: UntCodeW, UntRegE. -/
import Derived.Test.YtcamncipkofgkaaDoorUM10
import Derived.Laws.Strings
/- UntCodeW: Encode's and Decode's contracts over texts. -/
namespace Go.Proofs.YtcamncipkofgkaaDoor
open Go.RowKit Go.Shelf Pln Unt Putlog
def encX (u : U) : ByteArray := ⟨(encU u).toArray⟩
theorem encX_size {u : U} (v : ValU u) : 0 < (encX u).size ∧ (encX u).size ≤ 1000 := encU_len v
theorem encX_list (u : U) : (encX u).toList = encU u := by rw [ByteArray.toList_eq]; rfl
theorem encX_eq {u t : U} (v : ValU u) (x : ValU t) : ((encX u).toList == (encX t).toList) = sameU u t := by
  rw [encX_list, encX_list]
  cases h : sameU u t with
  | true => rw [(sameU_iff u t).1 h]; simp
  | false =>
    rw [beq_eq_false_iff_ne]
    intro e
    have : sameU u t = true := (sameU_iff u t).2 (encU_inj v e x)
    rw [h] at this
    cases this
theorem encX_pre {u t : U} (v : ValU u) (x : ValU t) (h : sameU u t = false) : (((encX t).extract 0 (encX u).size).toList == (encX u).toList) = false := by
  rw [encX_list, beq_eq_false_iff_ne]
  intro e
  have : ((encX t).extract 0 (encX u).size).toList = (encU t).take (encU u).length := by
    rw [ByteArray.toList_eq]
    simp [encX, ByteArray.extract, ByteArray.copySlice, ByteArray.size]
  rw [this] at e
  have : sameU u t = true := (sameU_iff u t).2 (enc_prefix v x e)
  rw [h] at this
  cases this
theorem enc_x {u : U} (v : ValU u) (s : Value) (w : World) (h : UAt w s u) : Calls Tryd.prog 33 #[uv u s] w fun e w' => e = .returned (.tuple #[.string (encX u), .int .i64 0]) ∧ Below w.heap.size w w' := by
  have := encode_w u s w h
  rwa [show encUV u = .tuple #[.string (encX u), .int .i64 0] from if_pos ((valU_iff u).2 v)] at this
theorem decx_some {u : U} (v : ValU u) (w : World) : Calls Tryd.prog 37 #[.string (encX u)] w fun e w' => ∃ a k, e = .returned (.tuple #[.agg #[.int .i64 u.id, .int .i64 u.kind, .int .i64 u.mat, .slice a u.shape.length k, .int .i64 u.back, .int .i64 u.front], .int .i64 0]) ∧ UAt w' (.slice a u.shape.length k) u ∧ Below w.heap.size w w' := by
  refine (decode_w (encU u) (encU_len v).2 w).mono ?_
  rintro e w' ⟨⟨u', r, h, rfl, hp⟩ | ⟨h, _⟩, hB⟩
  · rw [dec_encU v] at h
    cases h
    obtain ⟨a, k, rfl⟩ : ∃ a k, r = .slice a u.shape.length k := by obtain ⟨⟨a, k, h, _⟩, _⟩ := hp; exact ⟨a, k, h⟩
    exact ⟨a, k, rfl, ⟨valU_ok v, hp⟩, hB⟩
  · rw [dec_encU v] at h; cases h
theorem decx_any (X : ByteArray) (hX : X.size ≤ 1000) (w : World) : Calls Tryd.prog 37 #[.string X] w fun e w' =>
    ((∃ u a k, ValU u ∧ encX u = X ∧ e = .returned (.tuple #[.agg #[.int .i64 u.id, .int .i64 u.kind, .int .i64 u.mat, .slice a u.shape.length k, .int .i64 u.back, .int .i64 u.front], .int .i64 0]) ∧ UAt w' (.slice a u.shape.length k) u) ∨
      e = .returned (.tuple #[.agg #[.int .i64 0, .int .i64 0, .int .i64 0, .slice none 0 0, .int .i64 0, .int .i64 0], .int .i64 80])) ∧ Below w.heap.size w w' := by
  have hx : (⟨X.data.toList.toArray⟩ : ByteArray) = X := by simp
  have hc := decode_w X.data.toList (by simpa using hX) w
  rw [hx] at hc
  refine hc.mono ?_
  rintro e w' ⟨⟨u', r, h, rfl, hp⟩ | ⟨h, rfl⟩, hB⟩
  · obtain ⟨v, e⟩ := dec_sound h
    obtain ⟨a, k, rfl⟩ : ∃ a k, r = .slice a u'.shape.length k := by obtain ⟨⟨a, k, h, _⟩, _⟩ := hp; exact ⟨a, k, h⟩
    exact ⟨.inl ⟨u', a, k, v, by unfold encX; rw [← e, hx], rfl, valU_ok v, hp⟩, hB⟩
  · exact ⟨.inr rfl, hB⟩
end Go.Proofs.YtcamncipkofgkaaDoor
/- UntRegE: A drawn region's operations that look at nothing in memory: they may be taken first, whoever waits for them. Of no program. -/
namespace Pln
open Go
section
variable {F : Fence} {n : Nat} {P : Program} {ops : Array Oper} {Q : Exit → Act → World → Prop} {md : Region.Mode} {S : World → Prop}
theorem YldIn.anyS {o : Oper} {v : Value} {a : Act} (h : YldIn P ops (fun _ => True) o v a) : YldIn P ops S o v a := by
  refine ⟨?_, h.2⟩
  rcases h.1 with ⟨hw, hv⟩ | h1
  · exact .inl ⟨hw, fun w _ => hv w trivial⟩
  · exact .inr h1
theorem wpT_firstP {k i : Nat} {oi : Oper} {v : Value} (hnd : noDefer ops = true) (hi : ops[i]? = some oi) (hik : i ≠ k)
    (hsel : ∀ (j : Nat) (o : Oper) cs b, ops[j]? = some o → o.op ≠ .select cs b) (hQ : ∀ c a w, Q (.panic c) (a.put oi.dst v) w → Q (.panic c) a w) :
    ∀ (fuel : Nat) (listed : Array Bool) (a : Act) (w : World),
      (∀ j oj, ops[j]? = some oj → j ≠ i → listed.getD j true = false → (∀ e ∈ oj.after, Region.binds md e = true → e.on ≠ i) → oi.apart ops oj = true) →
      i ∈ Region.ready md ops listed → YldIn P ops (fun _ => True) oi v a → (listed.getD k true = false → S w) →
      wpT F n P md ops Q S k fuel (listed.setIfInBounds i true) (a.put oi.dst v) w → wpT F n P md ops Q S k (fuel + 1) listed a w := by
  intro fuel
  induction fuel with
  | zero =>
    intro listed a w _ hr hy hS H
    refine ⟨fun h => (by rw [h] at hr; cases hr), fun j hj => ?_⟩
    by_cases hji : j = i
    · subst hji; exact hy.wpOpIn hnd hi trivial ⟨fun h => hS (by rw [getD_set_ne true hik] at h; exact h), H⟩
    · have h := ready_mono hj hji
      rw [H.1] at h
      cases h
  | succ fuel ih =>
    intro listed a w hfree hr hy hS H
    refine ⟨fun h => (by rw [h] at hr; cases hr), fun j hj => ?_⟩
    by_cases hji : j = i
    · subst hji; exact hy.wpOpIn hnd hi trivial ⟨fun h => hS (by rw [getD_set_ne true hik] at h; exact h), H⟩
    · have huni := (mem_ready.1 hr).1
      obtain ⟨hjun, oj, hoj, hall⟩ := mem_ready.1 hj
      have off : ∀ x, listed.getD x true = false → listed.getD x false = true → False := fun x h1 h2 => by
        rcases Nat.lt_or_ge x listed.size with h' | h'
        · simp [h'] at h1 h2; rw [h1] at h2; cases h2
        · simp [Array.getElem?_eq_none h'] at h2
      have hnot : ∀ e ∈ oj.after, Region.binds md e = true → e.on ≠ i := fun e he hb heq => by
        have h1 := hall e he hb
        rw [heq] at h1
        exact off i huni h1
      have h2 := wpOpIn_putS hnd hoj (hfree j oj hoj hji hjun hnot) (fun cs b => hsel i oi cs b hi) (fun cs b => hsel j oj cs b hoj) hQ hy (H.2 j (ready_mono hj hji))
      have hfree' : ∀ m om, ops[m]? = some om → m ≠ i → (listed.setIfInBounds j true).getD m true = false →
          (∀ e ∈ om.after, Region.binds md e = true → e.on ≠ i) → oi.apart ops om = true := fun m om hm hmi hu hno => by
        refine hfree m om hm hmi ?_ hno
        by_cases hjm : j = m
        · subst hjm; exact hjun
        · rw [getD_set_ne true hjm] at hu; exact hu
      have hkS : ∀ w', ((((listed.setIfInBounds i true).setIfInBounds j true).getD k true = false → S w')) → (listed.setIfInBounds j true).getD k true = false → S w' := fun w' h h0 => by
        refine h ?_
        rw [Array.setIfInBounds_comm _ _ (Ne.symm hji), getD_set_ne true hik]; exact h0
      refine wpOpIn_mono (fun a' w' h3 => ⟨hkS w' h3.2.1, ih (listed.setIfInBounds j true) a' w' hfree' (ready_mono hr (Ne.symm hji)) h3.1 (hkS w' h3.2.1) ?_⟩) h2
      rw [Array.setIfInBounds_comm _ _ hji]
      exact h3.2.2
/-- Take number i, which looks at nothing in memory, first. -/
theorem wpT_pure (i : Nat) (d : Tmp) {k : Nat} {oi : Oper} {v : Value} {fuel : Nat} {listed : Array Bool} {a : Act} {w : World} (hS : S w)
    (hi : ops[i]? = some oi) (hd : oi.dst = some d) (hw : Region.wanted oi (yielded ops a.tmps) = true) (hnd : noDefer ops = true := by kernel_rfl) (hik : i ≠ k := by decide)
    (hs : Region.noSelect ops = true := by kernel_rfl) (hf : Region.free md ops listed i = true := by kernel_rfl) (hr : (Region.ready md ops listed).contains i = true := by kernel_rfl)
    (hQ : ∀ c a w, Q (.panic c) (a.put (some d) v) w → Q (.panic c) a w := by exact fun _ _ _ h => h) (hab : ∀ w, oi.about P w a.eval = none := by exact fun _ => rfl) (hy : ∀ w, (execOp a.eval oi).run P w = .ok (.value v) w)
    (h : wpT F n P md ops Q S k fuel (listed.setIfInBounds i true) (a.put (some d) v) w) : wpT F n P md ops Q S k (fuel + 1) listed a w := by
  subst_vars
  have hQ' : ∀ c a w, Q (.panic c) (a.put oi.dst v) w → Q (.panic c) a w := by rw [hd]; exact hQ
  have h' : wpT F n P md ops Q S k fuel (listed.setIfInBounds i true) (a.put oi.dst v) w := by rw [hd]; exact h
  exact wpT_firstP hnd hi hik (Region.noSelect_spec hs) hQ' fuel listed a w (Region.free_spec hi hf) (by simpa using hr) ⟨.inl ⟨hw, fun w _ => hy w⟩, hab⟩ (fun _ => hS) h'
end
end Pln
