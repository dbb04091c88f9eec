/- The contracts of beside and part. -/
import Derived.Deep.RegionLawGrows
import Derived.Test.YtdhpighnkoamiaaDoorDigTree
namespace Go.Proofs.YtdhpighnkoamiaaDoor
open Go.RowKit Putlog

/-- append to a slice that is nil or the call's own, as one step of a region. -/
theorem step_append_own {P : Program} {ops : Array Oper} {o : Oper} {a : Act} {w : World} {K : Act → World → Prop} {Q : Exit → Act → World → Prop} {E : Prop}
    (hg : o.guard = none) (s x : Operand) (t : TypeId) (hop : o.op = Op.call { callee := Callee.builtin Builtin.append, args := #[s, x], argTypes := #[t, t] })
    (base : Nat) (e : TypeId) (i : TypeInfo) (z : Value) (size bytes : Nat) (h1 : P.underlying t = some (.slice e)) (h2 : P.info? e = some i) (h3 : i.zero = some z) (h4 : i.size = size) (h5 : i.bytes = bytes) (h6 : z.cells.size = size) (h7 : 0 < size)
    (v : Value) (k : Nat) (xs : List Value) (hs : a.eval s = v) (hown : w.ownsRow base e size v k xs) (ad : Addr) (m c : Nat) (news : List Value) (hx : a.eval x = .slice (some ad) m c) (hn : news.length = m * size)
    (hc : ∀ j u, news[j]? = some u → w.cell? (ad.add j) = some u) (h1c : ∀ u ∈ news, u.oneCell' = true) (b1 : k + m ≤ maxLen) (b2 : (k + m) * bytes ≤ 140737488355328) (b3 : base ≤ w.heap.size)
    (hK : ∀ v' w', w'.ownsRow base e size v' (k + m) (xs ++ news) → w.grownBy w' v.ownBlock → K (a.put o.dst v') w') :
    if Region.wanted o (yielded ops a.tmps) = true then Oper.wp P o a w K Q else E := by
  have hw : Region.wanted o (yielded ops a.tmps) = true := by simp [Region.wanted, hg]
  rw [if_pos hw]
  obtain ⟨v', w', hrun, r1, r2, _⟩ := run_append_own (P := P) w base t o.type e i z size bytes h1 h2 h3 h4 h5 h6 h7 v k xs hown ad m c news hn hc h1c b1 b2 b3
  unfold Oper.wp
  simp [execOp, hop, resolve, invoke, builtin, hs, hx, hrun, Result.andThen]
  exact hK v' w' r1 r2
theorem ownsRow_below {w w' : World} {base e size n : Nat} {v : Value} {xs : List Value} (h : w.ownsRow base e size v n xs) (hB : Below w.heap.size w w') : w'.ownsRow base e size v n xs := by
  obtain ⟨h1, h2⟩ := h
  refine ⟨h1, ?_⟩
  rcases h2 with h2 | ⟨g, cap, cur, hv, hg, hh, r⟩
  · exact .inl h2
  · exact .inr ⟨g, cap, cur, hv, hg, (hB.block g (Array.getElem?_eq_some_iff.1 hh).1).trans hh, r⟩
theorem info9 : (Tryd.prog.info? 9).map (fun i => (i.zero, i.size, i.bytes)) = some (some (.string ⟨#[]⟩), 1, 16) := by kernel_rfl
theorem Good.alloc {b lo hi : Nat} {ss : Nat → ByteArray} {w : World} (h : Good b ss lo hi w) (o : Obj) : Good b ss lo hi (w.alloc o) := h.below ((Below.refl _ _).alloc (Nat.le_refl _) _)
/-- What beside and part hand back: a row of strings of their own. -/
def GivesRow (b : Nat) (ss : Nat → ByteArray) (lo hi : Nat) (xs : List ByteArray) (w : World) (e : Ending) (w' : World) : Prop :=
  ∃ v, e = .returned v ∧ w'.ownsRow w.heap.size 9 1 v xs.length (xs.map Value.string) ∧ Below w.heap.size w w' ∧ Good b ss lo hi w'
theorem news_one (W : World) (r : ByteArray) (t : TypeId) : ∀ j u, [Value.string r][j]? = some u → (W.alloc (.cells #[.string r] t)).cell? ((⟨W.heap.size, 0, none⟩ : Addr).add j) = some u
  | 0, u, h => by simp at h; subst h; exact (ArrAt.new W #[.string r] t).cell rfl
  | j + 1, u, h => by simp at h
theorem one_one (r : ByteArray) : ∀ u ∈ [Value.string r], u.oneCell' = true := by intro u hu; simp at hu; subst hu; rfl
theorem row_b1 {n : Nat} (h : n ≤ 1048576) : n + 1 ≤ maxLen := by unfold maxLen; omega
theorem row_b2 {n : Nat} (h : n ≤ 1048576) : (n + 1) * 16 ≤ 140737488355328 := by omega
theorem row_b3 {w0 w1 w2 : World} {t : TypeId} {cs : Array Value} (h1 : Below w0.heap.size w0 w1) (h2 : Below w1.heap.size w1 w2) : w0.heap.size ≤ (w2.alloc (.cells cs t)).heap.size := by
  have := h1.size; have := h2.size; simp; omega
theorem row_below {w0 w1 w2 w3 : World} {ob : Obj} {e size n : Nat} {v : Value} {xs : List Value} (h1 : Below w0.heap.size w0 w1) (h2 : Below w1.heap.size w1 w2) (hown : w1.ownsRow w0.heap.size e size v n xs) (hg : (w2.alloc ob).grownBy w3 v.ownBlock) : Below w0.heap.size w0 w3 := by
  have h3 : Below w0.heap.size w0 (w2.alloc ob) := (h1.trans (h2.mono h1.size)).alloc (by have := h1.size; have := h2.size; omega) _
  exact h3.grown hg h3.size fun k e => (hown.lt k e).1
theorem besideS_len (ss : Nat → ByteArray) (k : Nat) : ∀ (n o i : Nat), n ≤ k → (besideS ss o n i).length ≤ n := by
  induction k with
  | zero => intro n o i h; rw [besideS_one (by omega)]; simp
  | succ k ih =>
    intro n o i h
    rcases Nat.lt_or_ge n 2 with h2 | h2
    · rw [besideS_one (by omega)]; simp
    · have := half_pos n
      have := half_lt h2
      rcases Nat.lt_or_ge i (half n) with h3 | h3
      · rw [besideS_left h2 h3]; have := ih (half n) o i (by omega); simp; omega
      · rw [besideS_right h2 h3]; have := ih (n - half n) (o + half n) (i - half n) (by omega); simp; omega
theorem GivesRow.nil (b lo hi : Nat) (ss : Nat → ByteArray) {w : World} (hG : Good b ss lo hi w) : GivesRow b ss lo hi [] w (.returned (.slice none 0 0)) w :=
  ⟨_, rfl, World.ownsRow_nil _ _ _ _, Below.refl _ _, hG⟩

theorem GivesRow.snoc {b lo hi : Nat} {ss : Nat → ByteArray} {xs : List ByteArray} {r : ByteArray} {w w1 w2 w3 : World} {v v' : Value} (hG : Good b ss lo hi w) (hBa : Below w.drew.heap.size w.drew w1) (hBb : Below w1.heap.size w1 w2)
    (hown : w1.ownsRow w.drew.heap.size 9 1 v xs.length (xs.map Value.string)) (hg : (w2.alloc (.cells #[.string r] 9)).grownBy w3 v.ownBlock)
    (hown3 : w3.ownsRow w.drew.heap.size 9 1 v' (xs.length + 1) (xs.map Value.string ++ [Value.string r])) : GivesRow b ss lo hi (xs ++ [r]) w (.returned v') w3 := by
  have hB3 := (Below.refl w.heap.size w).drew.trans (row_below hBa hBb hown hg)
  refine ⟨v', rfl, ?_, hB3, hG.below hB3⟩
  have : (xs ++ [r]).map Value.string = xs.map Value.string ++ [Value.string r] := by simp
  rw [this, List.length_append]
  exact hown3

set_option maxRecDepth 100000 in
set_option maxHeartbeats 4000000 in
theorem beside_all (b lo hi : Nat) (ss : Nat → ByteArray) (hss : ∀ j, (ss j).size ≤ 140737488355327) (k : Nat) :
    ∀ (n i o c : Nat) (w : World), n ≤ k → 1 ≤ n → (n : Int) ≤ 1048576 → i < n → lo ≤ o → o + n ≤ hi → n ≤ c → (c : Int) ≤ 9223372036854775807 → Good b ss lo hi w →
    Calls Tryd.prog 43 #[.slice (some ⟨b, o, none⟩) n c, .int .i64 i] w (GivesRow b ss lo hi (besideS ss o n i) w) := by
  obtain ⟨i0, hi0, hz0, hz1, hz2⟩ := info_parts info9
  have HI0 := Lib.hid hi0
  have HZ0 := Lib.hid hz0
  have HZ1 := Lib.hid hz1
  have HZ2 := Lib.hid hz2
  clear hi0 hz0 hz1 hz2
  induction k with
  | zero =>
    intro n i o c w hk h1
    omega
  | succ k ih =>
    intro n i o c w hk h1 hn hi1 hlo hhi hcap hcc hG
    rcases Nat.lt_or_ge n 2 with h2 | h2
    · obtain rfl : n = 1 := by omega
      rw [besideS_one (Nat.le_refl _)]
      have HG := Lib.hid (GivesRow.nil b lo hi ss hG)
      clear ih hG
      go_enter Tryd.func43, Tryd.ntmps43
      go_wp2_with fail
      go_ret
      exact HG.out
    · have hp1 := half_pos n
      have hp2 := half_le h2
      have HSP := Lib.hid (fun w => split_any n w h2 (by omega))
      rcases Nat.lt_or_ge i (half n) with hih | hih
      · have hv := besideS_left (ss := ss) (o := o) h2 hih
        have hlen := besideS_len ss (half n) (half n) o i (Nat.le_refl _)
        have HI : Hid (∀ w, Good b ss lo hi w → Calls Tryd.prog 43 #[.slice (some ⟨b, o, none⟩) (half n) c, .int .i64 i] w (GivesRow b ss lo hi (besideS ss o (half n) i) w)) :=
          Lib.hid fun w hg => ih (half n) i o c w (by omega) hp1 (by omega) hih hlo (by omega) (by omega) hcc hg
        have HR : Hid (∀ w, Good b ss lo hi w → Calls Tryd.prog 27 #[.slice (some ⟨b, o + half n, none⟩) (n - half n) (c - half n)] w fun e w' => e = .returned (.string (rootS ss (o + half n) (n - half n))) ∧ Below w.heap.size w w' ∧ Good b ss lo hi w') :=
          Lib.hid fun w hg => Root_all b lo hi ss hss (n - half n) (n - half n) (o + half n) (c - half n) w (Nat.le_refl _) (by omega) (by omega) (by omega) (by omega) (by omega) (by omega) hg
        generalize besideS ss o (half n) i = xs at *
        generalize rootS ss (o + half n) (n - half n) = r at *
        have hlt : (i : Int) < (half n : Nat) := by omega
        have hhc : ((half n : Nat) : Int) ≤ c := by omega
        have hhn : ((half n : Nat) : Int) ≤ n := by omega
        have hxl : xs.length ≤ 1048576 := by omega
        have q2 : ((n : Int) == 1) = false := by simp; omega
        have hne : ¬ c = half n := by omega
        generalize half n = h at *
        have HV := Lib.hid hv
        clear hv ih hss hp1 hp2 hk hn h2 hlo hhi hcap hih hi1 hlen h1
        go_enter Tryd.func43, Tryd.ntmps43
        go_wp2_with fail
        refine (HSP.out _).mono ?_; rintro e w' ⟨rfl, rfl⟩
        go_wp2_with fail
        go_region_held3 (fun _ => True) (trivial) (first
          | (go_at_call 43; (with_reducible refine (HI.out _ ?_).mono ?_); exact hG; rintro e w1 ⟨v, rfl, hown, hBa, hGa⟩)
          | (go_at_call 27; (with_reducible refine (HR.out _ ?_).mono ?_); exact hGa; rintro e w2 ⟨rfl, hBb, hGb⟩)
          | (refine step_append_own rfl _ _ 26 rfl _ 9 i0 (.string ⟨#[]⟩) 1 16 Tryd.underlying26 HI0.out HZ0.out HZ1.out HZ2.out rfl (by decide) v xs.length (xs.map Value.string) (by rfl) ((ownsRow_below hown hBb).alloc _) ⟨w2.heap.size, 0, none⟩ 1 1 [.string r] (by rfl) rfl (news_one _ _ _) (one_one _) (row_b1 hxl) (row_b2 hxl) (row_b3 hBa hBb) (fun v' w3 hown3 hgrow3 => ?_)))
        have HF := Lib.hid (GivesRow.snoc hG hBa hBb hown hgrow3 hown3)
        clear hBa hBb hown hgrow3 hown3 hGa hGb
        go_wp2_with fail
        go_ret
        rw [HV.out]
        exact HF.out
      · have hv := besideS_right (ss := ss) (o := o) h2 hih
        have hlen := besideS_len ss (n - half n) (n - half n) (o + half n) (i - half n) (Nat.le_refl _)
        have HI : Hid (∀ w, Good b ss lo hi w → Calls Tryd.prog 43 #[.slice (some ⟨b, o + half n, none⟩) (n - half n) (c - half n), .int .i64 ((i : Int) - (half n : Nat))] w (GivesRow b ss lo hi (besideS ss (o + half n) (n - half n) (i - half n)) w)) :=
          Lib.hid fun w hg => by
            have := ih (n - half n) (i - half n) (o + half n) (c - half n) w (by omega) (by omega) (by omega) (by omega) (by omega) (by omega) (by omega) (by omega) hg
            rwa [show ((i - half n : Nat) : Int) = (i : Int) - (half n : Nat) by omega] at this
        have HR : Hid (∀ w, Good b ss lo hi w → Calls Tryd.prog 27 #[.slice (some ⟨b, o, none⟩) (half n) c] w fun e w' => e = .returned (.string (rootS ss o (half n))) ∧ Below w.heap.size w w' ∧ Good b ss lo hi w') :=
          Lib.hid fun w hg => Root_all b lo hi ss hss (half n) (half n) o c w (Nat.le_refl _) (by omega) (by omega) (by omega) (by omega) (by omega) (by omega) hg
        generalize besideS ss (o + half n) (n - half n) (i - half n) = xs at *
        generalize rootS ss o (half n) = r at *
        have hlt : ((half n : Nat) : Int) ≤ i := by omega
        have hin : (i : Int) < n := by omega
        have hhc : ((half n : Nat) : Int) ≤ c := by omega
        have hhn : ((half n : Nat) : Int) ≤ n := by omega
        have hxl : xs.length ≤ 1048576 := by omega
        have q2 : ((n : Int) == 1) = false := by simp; omega
        have hne : ¬ c = half n := by omega
        have e1 : IntKind.i64.wrap ((i : Int) - (half n : Nat)) = (i : Int) - (half n : Nat) := IntWalk.i64_in _ (by omega)
        generalize half n = h at *
        have HV := Lib.hid hv
        clear hv ih hss hp1 hp2 hk hn h2 hlo hhi hcap hih hi1 hlen h1
        go_enter Tryd.func43, Tryd.ntmps43
        go_wp2_with fail
        refine (HSP.out _).mono ?_; rintro e w' ⟨rfl, rfl⟩
        go_wp2_with fail
        go_region_held3 (fun _ => True) (trivial) (first
          | (go_at_call 43; (with_reducible refine (HI.out _ ?_).mono ?_); exact hG; rintro e w1 ⟨v, rfl, hown, hBa, hGa⟩)
          | (go_at_call 27; (with_reducible refine (HR.out _ ?_).mono ?_); exact hGa; rintro e w2 ⟨rfl, hBb, hGb⟩)
          | (refine step_append_own rfl _ _ 26 rfl _ 9 i0 (.string ⟨#[]⟩) 1 16 Tryd.underlying26 HI0.out HZ0.out HZ1.out HZ2.out rfl (by decide) v xs.length (xs.map Value.string) (by rfl) ((ownsRow_below hown hBb).alloc _) ⟨w2.heap.size, 0, none⟩ 1 1 [.string r] (by rfl) rfl (news_one _ _ _) (one_one _) (row_b1 hxl) (row_b2 hxl) (row_b3 hBa hBb) (fun v' w3 hown3 hgrow3 => ?_)))
        have HF := Lib.hid (GivesRow.snoc hG hBa hBb hown hgrow3 hown3)
        clear hBa hBb hown hgrow3 hown3 hGa hGb
        go_wp2_with fail
        go_ret
        rw [HV.out]
        exact HF.out
end Go.Proofs.YtdhpighnkoamiaaDoor
