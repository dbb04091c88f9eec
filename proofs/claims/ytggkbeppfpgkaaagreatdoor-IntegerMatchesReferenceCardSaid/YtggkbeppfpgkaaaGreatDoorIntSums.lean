/- The contracts of the copy, of sums, differences and multiples of magnitudes. -/
import Derived.Test.YtggkbeppfpgkaaaGreatDoorIntCarried
import Derived.Lib.SliceRun
namespace Go.Proofs.YtggkbeppfpgkaaaGreatDoor
open Go.RowKit Putlog

theorem cells_src {w : World} {ad : Addr} {l : List Nat} {o : Obj} (h : CellsAt w (some ad) (ofN l)) : ∀ j u, (i64l l)[j]? = some u → (w.alloc o).cell? (ad.add j) = some u := by
  intro j u hj
  have hjl : j < l.length := by have := (List.getElem?_eq_some_iff.1 hj).1; simpa [i64l] using this
  rcases h with h | ⟨g, p, h1, h2⟩
  · have h2 : (ofN l).length = 0 := by rw [h]; rfl
    rw [ofN_len] at h2; omega
  · obtain rfl := Option.some.inj h1
    rw [Addr.add_lit]
    rw [i64l_get hjl] at hj
    obtain rfl := Option.some.inj hj
    have := h2 j (by rw [ofN_len]; exact hjl)
    rw [ofN_get] at this
    exact cellA o this
theorem i64l_one (l : List Nat) : ∀ u ∈ i64l l, u.oneCell' = true := by
  intro u hu
  obtain ⟨x, _, rfl⟩ := List.mem_map.1 hu
  rfl
theorem i64l_len (l : List Nat) : (i64l l).length = l.length := by simp [i64l]
set_option maxRecDepth 100000 in
set_option maxHeartbeats 2000000 in
theorem clone_any (l : List Nat) (hl : l.length ≤ 100000) (a : Option Addr) (c : Nat) (w : World) (hv : CellsAt w a (ofN l)) :
    Calls Tryz.prog 69 #[.slice a l.length c] w fun e w' => (∃ v, e = .returned v ∧ w'.ownsRow w.heap.size 3 1 v l.length (i64l l)) ∧ Below w.heap.size w w' := by
  have HV := Lib.hid hv
  have qn : ∀ (w : World) (a : Option Addr) (n c n' c' : Nat), (binOp .eql 45 (.slice a n c) (.slice none n' c')).run Tryz.prog w = .ok (.bool a.isNone) w := fun w a n c n' c' => Lib.run_eql_slice_nil w _ _ a n c n' c' Tryz.underlying45
  clear hv
  cases a with
  | none =>
    have h0 : l = [] := by
      rcases HV.out with h | ⟨g, o, h, _⟩
      · have h2 : (ofN l).length = 0 := by rw [h]; rfl
        rw [ofN_len] at h2
        exact List.length_eq_zero_iff.1 h2
      · cases h
    subst h0
    go_enter Tryz.func69, Tryz.ntmps69
    go_wp2_with fail
    go_ret
    exact ⟨⟨_, rfl, World.ownsRow_nil _ _ _ _⟩, Below.refl _ _⟩
  | some ad =>
    obtain ⟨i0, hi0, hz0, hz1, hz2⟩ := info_parts info_int
    have HI0 := Lib.hid hi0
    have HZ0 := Lib.hid hz0
    have HZ1 := Lib.hid hz1
    have HZ2 := Lib.hid hz2
    clear hi0 hz0 hz1 hz2
    have HK : Hid (l.length ≤ 100000) := hl
    go_enter Tryz.func69, Tryz.ntmps69
    go_wp2_with (at_builtin; refine wpList_append_own _ rfl _ _ 45 rfl w.heap.size 3 i0 (.int .i64 0) 1 8 Tryz.underlying45 HI0.out HZ0.out HZ1.out HZ2.out rfl (by decide) _ _ _ rfl (World.ownsRow_made w #[] 0 (Nat.le_refl _) (Nat.zero_le _) (by simp)) ad l.length c (i64l l) rfl (by rw [i64l_len, Nat.mul_one]) (cells_src HV.out) (i64l_one l) (by have := HK.out; unfold maxLen; omega) (by have := HK.out; omega) (by simp) ?_; intro v' w1 hown hgrow _; have HO := Lib.hid hown; have HG := Lib.hid hgrow; clear hown hgrow)
    go_ret
    refine ⟨⟨_, rfl, by simpa using HO.out⟩, ((Below.refl _ w).alloc (Nat.le_refl _) _).grown HG.out (by simp) (by intro k hk; cases hk; exact Nat.le_refl _)⟩
/-- The start of a loop over the columns: the copy of a magnitude. -/
theorem row_of_clone {w w1 : World} {v : Value} {l : List Nat} (hown : w1.ownsRow w.heap.size 3 1 v l.length (i64l l)) :
    ∃ a c, v = .slice a l.length c ∧ Room l.length c ∧ ((l = [] ∧ CellsAt w1 a (ofN l)) ∨ ∃ g, w.heap.size ≤ g ∧ a = some ⟨g, 0, none⟩ ∧ RowAt w1 g (ofN l)) := by
  have h' : w1.ownsRow w.heap.size 3 1 v (ofN l).length (vals (ofN l)) := by rw [ofN_len, vals_ofN]; exact hown
  rcases owns_row h' with ⟨h1, a, c, h2, h3⟩ | ⟨_, g, c, h1, h2, h3, h4⟩
  · have h5 : (ofN l).length = 0 := by rw [h1]; rfl
    rw [ofN_len] at h5
    have h6 := List.length_eq_zero_iff.1 h5
    subst h6
    exact ⟨a, c, h2, h3, .inl ⟨rfl, .inl rfl⟩⟩
  · rw [ofN_len] at h1 h2
    exact ⟨_, c, h1, h2, .inr ⟨g, h3, rfl, h4⟩⟩
/-- Columns under way: a row, or none. -/
def ColsAt (w : World) (base : Nat) (a : Option Addr) (C : List Int) : Prop := (C = [] ∨ ∃ g, base ≤ g ∧ a = some ⟨g, 0, none⟩ ∧ RowAt w g C)
theorem ColsAt.cells {w : World} {base : Nat} {a : Option Addr} {C : List Int} (h : ColsAt w base a C) : CellsAt w a C := by
  rcases h with h | ⟨g, _, rfl, h2⟩
  · exact .inl h
  · exact h2.cells
theorem ColsAt.at {w : World} {base : Nat} {a : Option Addr} {C : List Int} (h : ColsAt w base a C) {k : Nat} (hk : k < C.length) : ∃ g, base ≤ g ∧ a = some ⟨g, 0, none⟩ ∧ RowAt w g C := by
  rcases h with h | h
  · rw [h] at hk; simp at hk
  · exact h
theorem cols_clone {w w1 : World} {v : Value} {l : List Nat} (hown : w1.ownsRow w.heap.size 3 1 v l.length (i64l l)) : ∃ a c, v = .slice a l.length c ∧ Room l.length c ∧ ColsAt w1 w.heap.size a (ofN l) := by
  obtain ⟨a, c, h1, h2, h3⟩ := row_of_clone hown
  refine ⟨a, c, h1, h2, ?_⟩
  rcases h3 with ⟨h3, _⟩ | h3
  · exact .inl (by rw [h3]; rfl)
  · exact .inr h3
theorem set_len (C : List Int) (i : Nat) (x : Int) : (C.set i x).length = C.length := List.length_set
theorem pow_up {m n : Nat} (h : m ≤ n) : (10000 : Int) ^ m ≤ 10000 ^ n := by
  rw [← pow_cast, ← pow_cast]
  have := Nat.pow_le_pow_right (show 0 < 10000 by decide) h
  omega
/-- What a loop over the columns adds: the columns after k steps. -/
def Added (M s : Int) (A B : List Nat) (k : Nat) (C : List Int) : Prop := C.length = A.length ∧ colV C = (leV 10000 A : Nat) + s * (leV 10000 (B.take k) : Nat) ∧ Bnd M C ∧ ∀ j, k ≤ j → C.getD j 0 = (A.getD j 0 : Nat)
theorem Added.start {M s : Int} {A : List Nat} (hM : 9999 ≤ M) (hA : DigB 10000 A) (B : List Nat) : Added M s A B 0 (ofN A) := by
  refine ⟨ofN_len A, ?_, Bnd.mono (bnd_ofN hA) hM, fun j _ => ofN_get A j⟩
  rw [show ofN A = A.map (fun x : Nat => (x : Int)) from rfl, colV_nat]; simp [leV]
theorem Added.step {M s : Int} {A B : List Nat} {k : Nat} {C : List Int} (h : Added M s A B k C) (hk : k < B.length) (hl : B.length ≤ A.length) (hx : -M ≤ (A.getD k 0 : Nat) + s * (B.getD k 0 : Nat) ∧ (A.getD k 0 : Nat) + s * (B.getD k 0 : Nat) ≤ M) : Added M s A B (k + 1) (C.set k ((A.getD k 0 : Nat) + s * (B.getD k 0 : Nat))) := by
  obtain ⟨h1, h2, h3, h4⟩ := h
  have h5 := h4 k (Nat.le_refl _)
  refine ⟨by rw [List.length_set]; exact h1, ?_, bnd_set h3 k hx.1 hx.2, fun j hj => ?_⟩
  · rw [colV_set C k _ (by omega), h2]
    have h8 : B.take (k + 1) = B.take k ++ [B.getD k 0] := by rw [List.take_succ_eq_append_getElem hk]; simp [List.getD_eq_getElem?_getD, hk]
    rw [h8, leV_snoc]
    have h9 : (B.take k).length = k := by simp; omega
    rw [h9, Int.natCast_add, Int.natCast_mul, pow_cast, Int.mul_add]
    have h10 : ((A.getD k 0 : Nat) : Int) + s * (B.getD k 0 : Nat) - C.getD k 0 = s * (B.getD k 0 : Nat) := by omega
    rw [h10, ← Int.mul_assoc, ← Int.mul_assoc, Int.mul_comm (10000 ^ k) s]; omega
  · rw [getD_set C k j _ (by omega), if_neg (by omega)]
    exact h4 j (by omega)
end Go.Proofs.YtggkbeppfpgkaaaGreatDoor
