/- WireRoundTrip: what the law's body answers. -/
import Derived.Test.YtlnbipldbbdnmaaDoorWireLaws
namespace Go.Proofs.YtlnbipldbbdnmaaDoor
open Go.RowKit Putlog

set_option maxRecDepth 100000 in
set_option maxHeartbeats 600000 in
theorem RoundTrip_calls (c : Int) (t a b : ByteArray) (w : World) (h0 : -9223372036854775808 ≤ c) (h2 : c ≤ 9223372036854775807)
    (ht : t.size ≤ 9223372036854775807) (ha : a.size ≤ 9223372036854775807) (hb : b.size ≤ 9223372036854775807) (hT : TabAt w) :
    Calls Tryd.prog 4 #[.int .i64 c, .string t, .agg #[.string a, .string b]] w fun e w' => e = .returned (.bool true) ∧ Below w.heap.size w w' := by
  have HT := Lib.hid hT
  have hm1 := min_int a.size 200
  have hm2 := min_int b.size 200
  have hm3 := min_int t.size 200
  have hn1 : min a.size 200 ≤ a.size := by omega
  have hn2 : min b.size 200 ≤ b.size := by omega
  have hn3 : min t.size 200 ≤ t.size := by omega
  have hn4 : min a.size 200 ≤ 200 := by omega
  have hn5 : min b.size 200 ≤ 200 := by omega
  have hn6 : min t.size 200 ≤ 200 := by omega
  generalize min a.size 200 = na at *
  generalize min b.size 200 = nb at *
  generalize min t.size 200 = nt at *
  simp only [Int.cast_ofNat_Int] at hm1 hm2 hm3
  clear hT
  go_enter Tryd.func4, Tryd.ntmps4
  go_wp2_with fail
  obtain ⟨W, hW⟩ : ∃ W : World, W = w.alloc (.cells #[.string a, .string b] 36) := ⟨_, rfl⟩
  have hWs : W.heap.size = w.heap.size + 1 := by rw [hW]; simp
  have hWa : W.cell? ⟨w.heap.size, 0, none⟩ = some (.string a) := by rw [hW, World.cell?_alloc_new]; rfl
  have hWb : W.cell? ⟨w.heap.size, 1, none⟩ = some (.string b) := by rw [hW, World.cell?_alloc_new]; rfl
  have hWB : Below w.heap.size w W := by rw [hW]; exact (Below.refl _ _).alloc (Nat.le_refl _) _
  have hTW : TabAt W := HT.out.below hWB HT.out.size
  rw [← hW]
  clear hW
  have HTW := Lib.hid hTW
  clear hTW HT
  refine (sane_any _ HTW.out).mono ?_; rintro e w1 ⟨rfl, hB1⟩
  go_wp2_with fail
  refine (NumberFrom_any c _ h0 h2).mono ?_; rintro e w2 ⟨rfl, hB2⟩
  have hB : Below w.heap.size w w2 := hWB.trans ((hB1.mono (by omega)).trans (hB2.mono (by have := hB1.size; omega)))
  have hca : w2.cell? ⟨w.heap.size, 0, none⟩ = some (.string a) := (hB2.cell (p := ⟨w.heap.size, 0, none⟩) (by have := hB1.size; show w.heap.size < _; omega)).trans ((hB1.cell (p := ⟨w.heap.size, 0, none⟩) (by show w.heap.size < _; omega)).trans hWa)
  have hcb : w2.cell? ⟨w.heap.size, 1, none⟩ = some (.string b) := (hB2.cell (p := ⟨w.heap.size, 1, none⟩) (by have := hB1.size; show w.heap.size < _; omega)).trans ((hB1.cell (p := ⟨w.heap.size, 1, none⟩) (by show w.heap.size < _; omega)).trans hWb)
  have hz := numZ_bd c
  generalize numZ c = n at *
  obtain ⟨hz1, hz2⟩ := hz
  clear hWa hWb hWs hWB hB1 hB2 HTW
  go_wp2_with fail
  have hP : (a.extract 0 na).size = na := by simp; omega
  have hQ : (b.extract 0 nb).size = nb := by simp; omega
  have hR : (t.extract 0 nt).size = nt := by simp; omega
  generalize a.extract 0 na = P at *
  generalize b.extract 0 nb = Q at *
  generalize t.extract 0 nt = R at *
  clear hm1 hm2 hm3 hn1 hn2 hn3 hca hcb ha hb ht
  subst hP hQ hR
  refine (PutInt_ok n _ hz1 hz2).mono ?_; rintro e w3 ⟨rfl, hB3⟩
  have he9 := enc_len_le hz1 hz2
  generalize hE : (⟨(enc n).toArray⟩ : ByteArray) = E
  have hEs : E.size ≤ 9 := by rw [← hE, ba_size]; exact he9
  have HE := Lib.hid hE
  clear hE he9
  go_wp2_with fail
  refine (PutString_ok R _ (by omega)).mono ?_; rintro e w4 ⟨rfl, hB4⟩
  have hl9 := enc_len_le (n := R.size) (by omega) (by omega)
  generalize hF : (⟨(enc R.size).toArray⟩ ++ R : ByteArray) = F
  have hFs : F.size ≤ 209 := by rw [← hF, ByteArray.size_append, ba_size]; omega
  have HF := Lib.hid hF
  clear hF hl9
  go_wp2_with fail
  have hI : ∀ w, Calls Tryd.prog 15 #[.string (P ++ E ++ Q), .int .i64 P.size] w fun e w' => e = .returned (.tuple #[.int .i64 n, .int .i64 ((P.size : Int) + (E.size : Int)), .int .i64 0]) ∧ w = w' := fun w => by
    have h := Int_some (P ++ E ++ Q) P.size (zig n) E.size w (by simp; omega) (by simp; omega) (dec_app n hz1 hz2 P E Q HE.out)
    rw [zag_zig, Int.natCast_add] at h
    exact h
  refine (hI _).mono ?_; rintro e w' ⟨rfl, rfl⟩
  clear hI
  go_wp2_with fail
  refine (String_at (P ++ F ++ Q) P.size _ (by simp; omega) (by simp; omega)).mono ?_; rintro e w5 ⟨he, hB5⟩
  rw [strEnd_app R (by omega) P F Q HF.out] at he
  subst he
  go_wp2_with fail
  go_ret
  exact ⟨rfl, hB.trans ((hB3.mono hB.size).trans ((hB4.mono (Nat.le_trans hB.size hB3.size)).trans (hB5.mono (Nat.le_trans hB.size (Nat.le_trans hB3.size hB4.size)))))⟩
end Go.Proofs.YtlnbipldbbdnmaaDoor
