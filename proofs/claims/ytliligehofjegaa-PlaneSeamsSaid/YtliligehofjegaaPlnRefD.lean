/- The contract of the reference's Cut. -/
import Derived.Test.YtliligehofjegaaPlnRefC
import Derived.Test.YtliligehofjegaaPlnCut
namespace Go.Proofs.Ytliligehofjegaa
open Go.RowKit Go.Shelf Pln

set_option maxRecDepth 100000 in
set_option maxHeartbeats 2000000 in
theorem cutR_w (l : List Pt) (hl : Len l) (i k : Int) (hi : I64 i) (hk : I64 k) (v : Value) (w : World) (hv : PtsAt w v l) :
    Calls Try.prog 33 #[v, .int .i64 i, .int .i64 k] w (CutR (cutP l i k) w) := by
  have HW := Lib.hid (validR_w l hl v w hv)
  rcases hb : valB l with _ | _
  · have HR : Hid (cutP l i k = none) := Lib.hid (by unfold cutP; rw [hb]; simp)
    rw [hb] at HW
    clear hb hv
    go_enter Try.func33, Try.ntmps33
    go_wp2_with fail
    refine HW.out.mono ?_
    rintro e u3 ⟨rfl, hB3⟩
    go_wp2_with fail
    go_ret3
    exact .inr ⟨HR.out, rfl, hB3⟩
  · have vl := (valB_iff l).1 hb
    rw [hb] at HW
    have hv2 := hv
    obtain ⟨⟨a, c, rfl, _, _, _⟩, _⟩ := hv2
    obtain ⟨n, hn⟩ : ∃ n, n = l.length := ⟨_, rfl⟩
    have hnb : (n : Int) ≤ 8 := by have := vl.hi; omega
    obtain ⟨i1, i2⟩ := hi
    obtain ⟨k1, k2⟩ := hk
    rw [← hn] at HW ⊢
    by_cases hbad : i < 0 ∨ k < 0 ∨ (n : Int) ≤ i ∨ (n : Int) ≤ k
    · have HR : Hid (cutP l i k = none) := Lib.hid (by unfold cutP; rw [if_neg (by omega)])
      clear hb hv vl hn
      by_cases h0 : i < 0
      · clear hbad
        go_enter Try.func33, Try.ntmps33
        go_wp2_with fail
        refine HW.out.mono ?_
        rintro e u3 ⟨rfl, hB3⟩
        go_wp2_with fail
        go_ret3
        exact .inr ⟨HR.out, rfl, hB3⟩
      · have h0' : 0 ≤ i := by omega
        clear h0
        by_cases h1 : (n : Int) ≤ i
        · clear hbad
          go_enter Try.func33, Try.ntmps33
          go_wp2_with fail
          refine HW.out.mono ?_
          rintro e u3 ⟨rfl, hB3⟩
          go_wp2_with fail
          go_ret3
          exact .inr ⟨HR.out, rfl, hB3⟩
        · have h1' : i < n := by omega
          clear h1
          by_cases h2 : k < 0
          · clear hbad
            go_enter Try.func33, Try.ntmps33
            go_wp2_with fail
            refine HW.out.mono ?_
            rintro e u3 ⟨rfl, hB3⟩
            go_wp2_with fail
            go_ret3
            exact .inr ⟨HR.out, rfl, hB3⟩
          · have h2' : 0 ≤ k := by omega
            have h3 : (n : Int) ≤ k := by omega
            clear h2 hbad
            go_enter Try.func33, Try.ntmps33
            go_wp2_with fail
            refine HW.out.mono ?_
            rintro e u3 ⟨rfl, hB3⟩
            go_wp2_with fail
            go_ret3
            exact .inr ⟨HR.out, rfl, hB3⟩
    · have hi0 : 0 ≤ i := by omega
      have hk0 : 0 ≤ k := by omega
      obtain ⟨iN, rfl⟩ : ∃ iN : Nat, i = iN := ⟨i.toNat, by omega⟩
      obtain ⟨kN, rfl⟩ : ∃ kN : Nat, k = kN := ⟨k.toNat, by omega⟩
      have hin : iN < l.length := by omega
      have hkn : kN < l.length := by omega
      have H1 := Lib.hid (fun w1 (hB : Below w.heap.size w w1) => walk_w l (by have := vl.hi; omega) iN kN hin hkn _ w1 (hv.via hB))
      have H2 := Lib.hid (fun w1 (hB : Below w.heap.size w w1) => walk_w l (by have := vl.hi; omega) kN iN hkn hin _ w1 (hv.via hB))
      have HR : Hid (cutP l (iN : Int) (kN : Int) = if min (runP l iN kN).length (runP l kN iN).length < 3 then none else some (runP l iN kN, runP l kN iN)) := Lib.hid (by unfold cutP; rw [if_pos ⟨hb, by omega, by omega⟩]; simp)
      have hl1 : (runP l iN kN).length ≤ 16 := by have := vl.hi; unfold runP; split <;> simp <;> omega
      have hl2 : (runP l kN iN).length ≤ 16 := by have := vl.hi; unfold runP; split <;> simp <;> omega
      generalize runP l iN kN = ra at *
      generalize runP l kN iN = rb at *
      have hinb : (iN : Int) < n := by omega
      have hknb : (kN : Int) < n := by omega
      rw [← hn] at H1 H2
      clear hb hv vl hn hin hkn hbad i1 i2 k1 k2
      go_enter Try.func33, Try.ntmps33
      go_wp2_with fail
      refine HW.out.mono ?_
      rintro e u3 ⟨rfl, hB3⟩
      go_wp2_with fail
      refine (H1.out _ hB3).mono ?_
      rintro e u4 ⟨r1, rfl, hr1, hB4⟩
      have hB4 := belowStep hB3 hB4
      have HR1 := Lib.hid hr1
      obtain ⟨⟨a1, c1, rfl, _, _, _⟩, _⟩ := hr1
      go_wp2_with fail
      refine (H2.out _ hB4).mono ?_
      rintro e u5 ⟨r2, rfl, hr2, hB5⟩
      have HR1 := Lib.hid (HR1.out.via hB5)
      have hB5 := belowStep hB4 hB5
      have HR2 := Lib.hid hr2
      obtain ⟨⟨a2, c2, rfl, _, _, _⟩, _⟩ := hr2
      obtain ⟨n1, hn1⟩ : ∃ n1, n1 = ra.length := ⟨_, rfl⟩
      obtain ⟨n2, hn2⟩ : ∃ n2, n2 = rb.length := ⟨_, rfl⟩
      rw [← hn1] at HR HR1 ⊢
      rw [← hn2] at HR HR2 ⊢
      clear hn1 hn2
      by_cases h3 : (n1 : Int) < 3
      · have HRN : Hid (cutP l (iN : Int) (kN : Int) = none) := Lib.hid (by rw [HR.out, if_pos (by omega)])
        go_wp2_with fail
        go_ret3
        exact .inr ⟨HRN.out, rfl, hB5⟩
      · have h3' : 3 ≤ (n1 : Int) := by omega
        clear h3
        by_cases h4 : (n2 : Int) < 3
        · have HRN : Hid (cutP l (iN : Int) (kN : Int) = none) := Lib.hid (by rw [HR.out, if_pos (by omega)])
          go_wp2_with fail
          go_ret3
          exact .inr ⟨HRN.out, rfl, hB5⟩
        · have h4' : 3 ≤ (n2 : Int) := by omega
          clear h4
          have HRS : Hid (cutP l (iN : Int) (kN : Int) = some (ra, rb)) := Lib.hid (by rw [HR.out, if_neg (by omega)])
          go_wp2_with fail
          go_ret3
          exact .inl ⟨ra, rb, _, _, HRS.out, rfl, HR1.out, HR2.out, hB5⟩
end Go.Proofs.Ytliligehofjegaa
