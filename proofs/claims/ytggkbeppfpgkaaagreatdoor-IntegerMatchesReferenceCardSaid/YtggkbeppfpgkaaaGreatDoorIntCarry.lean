/- The contract of carried: its closure, the fold over it. -/
import Derived.Test.YtggkbeppfpgkaaaGreatDoorIntTrim
import Derived.OneCell
namespace Go.Proofs.YtggkbeppfpgkaaaGreatDoor
open Go.RowKit Putlog

/-- A captured slice: the block of the variable, and the slice that it holds, which the call owns. -/
def BoxOwn (w : World) (base Bx : Nat) (G : List Nat) : Prop := ∃ v, w.heap[Bx]? = some (.cells #[v] 45 (0, 0)) ∧ w.ownsRow base 3 1 v G.length (i64l G)
theorem emod_tmod (x : Int) : ((x.tmod 10000) + 10000).tmod 10000 = x % 10000 := by
  have h1 := Int.tmod_lt_of_pos x (show (0 : Int) < 10000 by decide)
  have h2 : -10000 < x.tmod 10000 := by have := Int.lt_tmod_of_pos x (show (0 : Int) < 10000 by decide); omega
  have h3 : (0 : Int) ≤ x.tmod 10000 + 10000 := by omega
  have h4 := Int.tmod_add_mul_tdiv x 10000
  rw [Int.tmod_eq_emod_of_nonneg h3, Int.add_emod_right]
  generalize x.tmod 10000 = t at *
  generalize x.tdiv 10000 = q at *
  omega
theorem app_b3' {w : World} {base Bx : Nat} {ob o : Obj} (h : w.heap[Bx]? = some ob) (hb : base ≤ Bx) : base ≤ (w.alloc o).heap.size := by have := lt_of_block h; simp; omega
/-- What an append to the captured slice leaves, and the store of its result. -/
theorem box_step {w w9 : World} {base Bx d : Nat} {G : List Nat} {v v2 : Value} {o : Obj} (hv : w.heap[Bx]? = some (.cells #[v] 45 (0, 0))) (hown : w.ownsRow base 3 1 v G.length (i64l G)) (hb : base ≤ Bx)
    (hown9 : w9.ownsRow base 3 1 v2 (G.length + 1) (i64l G ++ [.int .i64 (d : Nat)])) (hg : (w.alloc o).grownBy w9 v.ownBlock) :
    ∃ a2 c2, v2 = .slice a2 (G.length + 1) c2 ∧ w9.cell? ⟨Bx, 0, none⟩ = some v ∧ w9.frozen? ⟨Bx, 0, none⟩ = false ∧ BoxOwn (w9.setCell ⟨Bx, 0, none⟩ (.slice a2 (G.length + 1) c2)) base Bx (G ++ [d]) ∧ Below base w (w9.setCell ⟨Bx, 0, none⟩ (.slice a2 (G.length + 1) c2)) := by
  have hlt := lt_of_block hv
  have hvb : v.ownBlock ≠ some Bx := by
    intro e
    obtain ⟨_, ⟨rfl, _⟩ | ⟨g, cap, cur, rfl, hg, hh, _⟩⟩ := hown
    · simp [Value.ownBlock] at e
    · simp [Value.ownBlock] at e
      subst e
      rw [hh] at hv; simp at hv
  have hva : (w.alloc o).heap[Bx]? = some (.cells #[v] 45 (0, 0)) := by rw [← hv]; exact (Below.refl w.heap.size w).alloc (Nat.le_refl _) o |>.block Bx hlt
  have hv9 : w9.heap[Bx]? = some (.cells #[v] 45 (0, 0)) := (hg.block Bx (lt_of_block hva) (fun e => hvb e.symm)).trans hva
  obtain ⟨a2, c2, rfl, _⟩ := ownsRow_form hown9
  have hB9 : Below base w w9 := ((Below.refl base w).alloc (by omega) o).grown hg (by simp; try omega) (fun k e => by
    obtain ⟨_, ⟨rfl, _⟩ | ⟨g, cap, cur, rfl, hg2, hh, _⟩⟩ := hown
    · simp [Value.ownBlock] at e
    · simp [Value.ownBlock] at e; subst e; exact hg2)
  refine ⟨a2, c2, rfl, cell_of_one hv9, free_of_one hv9, ⟨_, one_setCell hv9, ?_⟩, hB9.setCell (p := ⟨Bx, 0, none⟩) hb _⟩
  rw [i64l_snoc, List.length_append]
  refine ownsRow_setCell_other hown9 (fun e => ?_) _
  obtain ⟨_, ⟨h, _⟩ | ⟨g, cap, cur, h, _, hh, _⟩⟩ := hown9
  · cases h; try simp [Value.ownBlock] at e
  · cases h
    simp [Value.ownBlock] at e
    subst e
    rw [hh] at hv9; simp at hv9
set_option maxRecDepth 100000 in
set_option maxHeartbeats 2000000 in
theorem carried1_any (base Bx : Nat) (G : List Nat) (cr x : Int) (w : World) (hG : G.length ≤ 50000) (hc : -1000000000000000 ≤ cr ∧ cr ≤ 1000000000000000) (hx : -1000000000000000 ≤ x ∧ x ≤ 1000000000000000) (hb : base ≤ Bx) (hbox : BoxOwn w base Bx G) :
    Calls Tryz.prog 87 #[.int .i64 cr, .int .i64 x, .pointer (some ⟨Bx, 0, none⟩)] w fun e w' => e = .returned (.int .i64 ((cr + x) / 10000)) ∧ BoxOwn w' base Bx (G ++ [((cr + x) % 10000).toNat]) ∧ Below base w w' := by
  obtain ⟨v, hv, hown⟩ := hbox
  obtain ⟨i0, hi0, hz0, hz1, hz2⟩ := info_parts info_int
  have HI0 := Lib.hid hi0
  have HZ0 := Lib.hid hz0
  have HZ1 := Lib.hid hz1
  have HZ2 := Lib.hid hz2
  have cB := cell_of_one hv
  have fB := free_of_one hv
  have HV := Lib.hid hv
  have HO := Lib.hid hown
  clear hi0 hz0 hz1 hz2 hv hown
  obtain ⟨s, hs⟩ : ∃ s, s = cr + x := ⟨_, rfl⟩
  obtain ⟨d, hd⟩ : ∃ d, d = (s % 10000).toNat := ⟨_, rfl⟩
  have h1 : (s.tmod 10000 + 10000).tmod 10000 = (d : Nat) := by rw [emod_tmod]; omega
  have h2 : (s - (d : Nat)).tdiv 10000 = s / 10000 := by
    have : s - (d : Nat) = s / 10000 * 10000 := by omega
    rw [this, Int.mul_tdiv_cancel _ (by decide)]
  have hs0 : cr + x = s := hs.symm
  obtain ⟨q, hq⟩ : ∃ q, q = s / 10000 := ⟨_, rfl⟩
  obtain ⟨t, ht⟩ : ∃ t, t = s.tmod 10000 := ⟨_, rfl⟩
  have ht1 := Int.tmod_lt_of_pos s (show (0 : Int) < 10000 by decide)
  have ht2 : -10000 < s.tmod 10000 := by have := Int.lt_tmod_of_pos s (show (0 : Int) < 10000 by decide); omega
  rw [hs0, ← hd, ← hq]
  rw [← ht] at h1 ht1 ht2
  rw [← hq] at h2
  have hd9 : (d : Int) < 10000 := by omega
  have ht0 : s.tmod 10000 = t := ht.symm
  have hsb : -2000000000000000 ≤ s ∧ s ≤ 2000000000000000 := by omega
  have hqb1 : -2000000000000000 ≤ q := by omega
  have hqb2 : q ≤ 2000000000000000 := by omega
  clear hs hd hq ht
  have HK : Hid (G.length ≤ 100000) := by show _ ≤ _; omega
  go_enter Tryz.func87, Tryz.ntmps87
  go_wp2_with (at_builtin; refine wpList_append_own _ rfl _ _ 45 rfl base 3 i0 (.int .i64 0) 1 8 Tryz.underlying45 HI0.out HZ0.out HZ1.out HZ2.out rfl (by decide) v G.length (i64l G) (by rfl) (HO.out.alloc _) ⟨w.heap.size, 0, none⟩ 1 1 [.int .i64 (d : Nat)] (by rfl) rfl (news_val _ _ _) (one_int _ _) (app_b1 HK.out) (app_b2 HK.out (by decide)) (app_b3' HV.out hb) ?_; intro v2 w9 hown9 hgrow9 _; obtain ⟨a2, c2, rfl, cB9, fB9, hX, hB9⟩ := box_step (d := d) HV.out HO.out hb hown9 hgrow9; have HX := Lib.hid hX; have HB9 := Lib.hid hB9; clear hown9 hgrow9 hX hB9)
  go_ret
  exact ⟨rfl, HX.out, HB9.out⟩
end Go.Proofs.YtggkbeppfpgkaaaGreatDoor
