/- IntegerMatchesReference: what the law's body answers. -/
import Derived.Test.YtggkbeppfpgkaaaGreatDoorIntRefInts
import Derived.Test.YtggkbeppfpgkaaaGreatDoorIntSane
namespace Go.Proofs.YtggkbeppfpgkaaaGreatDoor
open Go.RowKit Putlog

/-- For two texts the code and the reference answer alike. -/
structure Alike2 (S T : ByteArray) : Prop where
  add : ∃ x k, (∀ w, Calls Tryz.prog 7 #[.string S, .string T] w (GivesInt x k w)) ∧ ∀ w, Calls Tryz.prog 8 #[.string S, .string T] w (GivesInt x k w)
  sub : ∃ x k, (∀ w, Calls Tryz.prog 9 #[.string S, .string T] w (GivesInt x k w)) ∧ ∀ w, Calls Tryz.prog 10 #[.string S, .string T] w (GivesInt x k w)
  mul : ∃ x k, (∀ w, Calls Tryz.prog 11 #[.string S, .string T] w (GivesInt x k w)) ∧ ∀ w, Calls Tryz.prog 12 #[.string S, .string T] w (GivesInt x k w)
  gcd : ∃ x k, (∀ w, Calls Tryz.prog 15 #[.string S, .string T] w (GivesInt x k w)) ∧ ∀ w, Calls Tryz.prog 16 #[.string S, .string T] w (GivesInt x k w)
  div : ∃ x y k, (∀ w, Calls Tryz.prog 13 #[.string S, .string T] w fun e w' => e = .returned (.tuple #[.string x, .string y, .int .i64 k]) ∧ Below w.heap.size w w') ∧
    ∀ w, Calls Tryz.prog 14 #[.string S, .string T] w fun e w' => e = .returned (.tuple #[.string x, .string y, .int .i64 k]) ∧ Below w.heap.size w w'
  cmp : ∃ k, (∀ w, Calls Tryz.prog 23 #[.string S, .string T] w fun e w' => e = .returned (.int .i64 k) ∧ Below w.heap.size w w') ∧
    ∀ w, Calls Tryz.prog 24 #[.string S, .string T] w fun e w' => e = .returned (.int .i64 k) ∧ Below w.heap.size w w'
/-- .. and for one. -/
structure Alike1 (S : ByteArray) : Prop where
  root : ∃ x k, (∀ w, Calls Tryz.prog 17 #[.string S] w fun e w' => e = .returned (.tuple #[.string x, .int .i64 k]) ∧ Below w.heap.size w w') ∧
    ∀ w, Calls Tryz.prog 18 #[.string S] w fun e w' => e = .returned (.tuple #[.string x, .int .i64 k]) ∧ Below w.heap.size w w'
  toInt : ∃ z k, (∀ w, Tabs w → Calls Tryz.prog 19 #[.string S] w fun e w' => e = .returned (.tuple #[.int .i64 z, .int .i64 k]) ∧ Below w.heap.size w w') ∧
    ∀ w, Calls Tryz.prog 20 #[.string S] w fun e w' => e = .returned (.tuple #[.int .i64 z, .int .i64 k]) ∧ Below w.heap.size w w'
  valid : ∃ b, (∀ w, Calls Tryz.prog 21 #[.string S] w fun e w' => e = .returned (.bool b) ∧ w' = w) ∧
    ∀ w, Calls Tryz.prog 22 #[.string S] w fun e w' => e = .returned (.bool b) ∧ w' = w
theorem alike2 (S T : ByteArray) (hs : (S.size : Int) ≤ 9223372036854775807) (ht : (T.size : Int) ≤ 9223372036854775807) : Alike2 S T := by
  rcases both_cases S T hs ht with ⟨x, y, rfl, rfl, hx, hy⟩ | ⟨hv, hb⟩
  · refine ⟨⟨_, _, fun w => add_ok x y hx hy w, fun w => radd_ok x y hx hy w⟩, ⟨_, _, fun w => sub_ok x y hx hy w, fun w => rsub_ok x y hx hy w⟩, ⟨_, _, fun w => mul_ok x y hx hy w, fun w => rmul_ok x y hx hy w⟩,
      ⟨_, _, fun w => gcd_ok x y hx hy w, fun w => rgcd_ok x y hx hy w⟩, ?_, ⟨_, fun w => cmp_ok x y hx hy w, fun w => rcompare_ok x y hx hy w⟩⟩
    by_cases h0 : y = 0
    · subst h0
      exact ⟨_, _, _, fun w => div_zero x hx w, fun w => rdiv_zero x hx w⟩
    · exact ⟨_, _, _, fun w => div_ok x y hx hy h0 w, fun w => rdiv_ok x y hx hy h0 w⟩
  · exact ⟨⟨_, _, fun w => add_any _ _ _ _ w (comb_no _ _ _ w (hb w)), fun w => radd_no S T hs ht hv w⟩, ⟨_, _, fun w => sub_any _ _ _ _ w (comb_no _ _ _ w (hb w)), fun w => rsub_no S T hs ht hv w⟩,
      ⟨_, _, fun w => mul_any _ _ _ _ w (comb_no _ _ _ w (hb w)), fun w => rmul_no S T hs ht hv w⟩, ⟨_, _, fun w => gcd_call _ _ _ _ w (comb_no _ _ _ w (hb w)), fun w => rgcd_no S T hs ht hv w⟩,
      ⟨_, _, _, fun w => div_no _ _ w (hb w), fun w => rdiv_no S T hs ht hv w⟩, ⟨_, fun w => cmp_no _ _ w (hb w), fun w => rcompare_no S T hs ht hv w⟩⟩
theorem alike1 (S : ByteArray) (hs : (S.size : Int) ≤ 9223372036854775807) : Alike1 S := by
  have hval : ∃ b, (∀ w, Calls Tryz.prog 21 #[.string S] w fun e w' => e = .returned (.bool b) ∧ w' = w) ∧
    ∀ w, Calls Tryz.prog 22 #[.string S] w fun e w' => e = .returned (.bool b) ∧ w' = w := ⟨_, fun w => valid_any S hs w, fun w => rvalid_any S hs w⟩
  by_cases hv : validT S.data.toList = true
  · obtain ⟨x, h1, hx⟩ := validT_some hv
    obtain rfl : S = intB x := by
      apply ByteArray.ext
      rw [show (intB x).data = (intT x).toArray from rfl, ← h1]
    refine ⟨?_, ?_, hval⟩
    · by_cases h0 : 0 ≤ x
      · exact ⟨_, _, fun w => root_ok x hx h0 w, fun w => rroot_ok x hx h0 w⟩
      · exact ⟨_, _, fun w => root_neg x hx (by omega) w, fun w => rroot_neg x hx (by omega) w⟩
    · by_cases hi : InInt x
      · exact ⟨_, _, fun w _ => to_ok x hx hi w, fun w => rto_ok x hx hi w⟩
      · exact ⟨_, _, fun w h => to_out x hx hi w h, fun w => rto_out x hx hi w⟩
  · rw [Bool.not_eq_true] at hv
    exact ⟨⟨_, _, fun w => root_no S hs hv w, fun w => rroot_no S hs hv w⟩, ⟨_, _, fun w _ => to_no S hs hv w, fun w => rto_no S hs hv w⟩, hval⟩
theorem made_size {z : Int} {M : Nat} (h : z.natAbs < 10 ^ M) (h1 : 1 ≤ M) (h2 : M ≤ 200) : ((intB z).size : Int) ≤ 9223372036854775807 := by have := intT_size h h1; omega
set_option maxRecDepth 100000 in
set_option maxHeartbeats 8000000 in
theorem MatchesReference_calls (s t : ByteArray) (n : Int) (w : World) (hss : (s.size : Int) ≤ 9223372036854775807) (htt : (t.size : Int) ≤ 9223372036854775807) (h0 : -9223372036854775808 ≤ n) (h1 : n ≤ 9223372036854775807) (hT : Tabs w) :
    Calls Tryz.prog 3 #[.string s, .string t, .int .i64 n] w fun e w' => e = .returned (.bool true) ∧ Below w.heap.size w w' := by
  have HT := Lib.hid hT
  have HFI := Lib.hid (fun W h => from_any n h0 h1 W h)
  have HFR := Lib.hid (fun W => rfrom_any n h0 h1 W)
  have HFS : Hid (((intB n).size : Int) ≤ 9223372036854775807) := made_size (M := 20) (show n.natAbs < 10 ^ 20 by omega) (by decide) (by decide)
  clear hT
  go_enter Tryz.func3, Tryz.ntmps3
  go_wp2_with fail
  refine (sane_any w).mono ?_
  rintro e w1 ⟨rfl, hB⟩
  have HB1 := Lib.hid hB
  clear hB
  have hmin : min (s.size : Int) 210 = ((min s.size 210 : Nat) : Int) := by omega
  have hms : ((min s.size 210 : Nat) : Int) ≤ s.size := by omega
  have hcut : (s.extract 0 (min s.size 210)).size ≤ 210 := by simp; omega
  generalize min s.size 210 = ms at *
  generalize hSe : s.extract 0 ms = S at *
  have hmin' : min (t.size : Int) 210 = ((min t.size 210 : Nat) : Int) := by omega
  have hmt : ((min t.size 210 : Nat) : Int) ≤ t.size := by omega
  have hcut' : (t.extract 0 (min t.size 210)).size ≤ 210 := by simp; omega
  generalize min t.size 210 = mt at *
  generalize hTe : t.extract 0 mt = T at *
  have hSb : (S.size : Int) ≤ 9223372036854775807 := by omega
  have hTb : (T.size : Int) ≤ 9223372036854775807 := by omega
  have HM1 := Lib.hid (fun W => rmade_any S 70 W hSb (by decide))
  have HM2 := Lib.hid (fun W => rmade_any T 30 W hTb (by decide))
  have HM3 := Lib.hid (fun W => rmade_any S 12 W hSb (by decide))
  have HA := Lib.hid (And.intro (alike2 S T hSb hTb) (alike1 S hSb))
  clear hcut hcut'
  go_wp2_with fail
  refine (HM1.out _).mono ?_
  rintro e w2 ⟨⟨z1, rfl, hz1⟩, hB⟩
  have HZ1 := Lib.hid hz1
  have HB2 := Lib.hid (belowVia hB HB1.out)
  clear hB hz1
  go_wp2_with fail
  refine (HM2.out _).mono ?_
  rintro e w3 ⟨⟨z2, rfl, hz2⟩, hB⟩
  have HZ2 := Lib.hid hz2
  have HB3 := Lib.hid (belowVia hB HB2.out)
  clear hB hz2
  go_wp2_with fail
  refine (HM3.out _).mono ?_
  rintro e w4 ⟨⟨z3, rfl, hz3⟩, hB⟩
  have HZ3 := Lib.hid hz3
  have HB4 := Lib.hid (belowVia hB HB3.out)
  clear hB hz3
  go_wp2_with fail
  refine (HFR.out _).mono ?_
  rintro e w5 ⟨rfl, hB⟩
  have HB5 := Lib.hid (belowVia hB HB4.out)
  clear hB
  go_wp2_with fail
  have hz1 := HZ1.out
  have hz2 := HZ2.out
  have hz3 := HZ3.out
  have HP1 := Lib.hid (And.intro (alike2 (intB z1) (intB z2) (made_size hz1 (by decide) (by decide)) (made_size hz2 (by decide) (by decide))) (alike1 (intB z1) (made_size hz1 (by decide) (by decide))))
  have HP2 := Lib.hid (And.intro (alike2 (intB z3) (intB n) (made_size hz3 (by decide) (by decide)) HFS.out) (alike1 (intB z3) (made_size hz3 (by decide) (by decide))))
  clear hz1 hz2 hz3 HZ1 HZ2 HZ3 HM1 HM2 HM3 HFS
  generalize intB z1 = s1 at *
  generalize intB z2 = t1 at *
  generalize intB z3 = s2 at *
  generalize intB n = t2 at *
  have hblk := heap_alloc_new w5 (.cells #[.string S, .string T, .string s1, .string t1, .string s2, .string t2] 23)
  have c0 := (cell_of_row _ w5.heap.size 0 _ _ _ hblk).trans rfl
  have c1 := (cell_of_row _ w5.heap.size 1 _ _ _ hblk).trans rfl
  have c2 := (cell_of_row _ w5.heap.size 2 _ _ _ hblk).trans rfl
  have c3 := (cell_of_row _ w5.heap.size 3 _ _ _ hblk).trans rfl
  have c4 := (cell_of_row _ w5.heap.size 4 _ _ _ hblk).trans rfl
  have c5 := (cell_of_row _ w5.heap.size 5 _ _ _ hblk).trans rfl
  have HB6 := Lib.hid (belowVia (alloc_below w5 (.cells #[.string S, .string T, .string s1, .string t1, .string s2, .string t2] 23)) HB5.out)
  generalize w5.alloc (.cells #[.string S, .string T, .string s1, .string t1, .string s2, .string t2] 23) = W6 at *
  generalize w5.heap.size = g at *
  have HC := Lib.hid (And.intro c0 (And.intro c1 (And.intro c2 (And.intro c3 (And.intro c4 c5)))))
  clear hblk c0 c1 c2 c3 c4 c5
  go_loopw [50] (fun i wr => ∃ k : Nat, k ≤ 3 ∧ i = .int .i64 k ∧ Below W6.heap.size W6 wr) (fun i _ => 3 - (intOf i).toNat)
  case atStart => exact ⟨0, by omega, rfl, Below.refl _ _⟩
  case round =>
    obtain ⟨k, hk, rfl, hB⟩ := hrel
    have HB := Lib.hid hB
    clear hB
    have hk4 : k = 0 ∨ k = 1 ∨ k = 2 ∨ k = 3 := by omega
    rcases hk4 with rfl | rfl | rfl | rfl
    · have hc0 := keptBelow HB.out HC.out.1
      have hc1 := keptBelow HB.out HC.out.2.1
      obtain ⟨h2, h1⟩ := HA.out
      obtain ⟨xadd, kadd, aadd, badd⟩ := h2.add
      unfold GivesInt at aadd badd
      obtain ⟨xsub, ksub, asub, bsub⟩ := h2.sub
      unfold GivesInt at asub bsub
      obtain ⟨xmul, kmul, amul, bmul⟩ := h2.mul
      unfold GivesInt at amul bmul
      obtain ⟨xgcd, kgcd, agcd, bgcd⟩ := h2.gcd
      unfold GivesInt at agcd bgcd
      obtain ⟨xdiv, ydiv, kdiv, adiv, bdiv⟩ := h2.div
      obtain ⟨kcmp, acmp, bcmp⟩ := h2.cmp
      obtain ⟨xroot, kroot, aroot, broot⟩ := h1.root
      obtain ⟨zto, kto, ato, bto⟩ := h1.toInt
      obtain ⟨vv, aval, bval⟩ := h1.valid
      have Aadd := Lib.hid aadd
      have Badd := Lib.hid badd
      have Asub := Lib.hid asub
      have Bsub := Lib.hid bsub
      have Amul := Lib.hid amul
      have Bmul := Lib.hid bmul
      have Agcd := Lib.hid agcd
      have Bgcd := Lib.hid bgcd
      have Adiv := Lib.hid adiv
      have Bdiv := Lib.hid bdiv
      have Acmp := Lib.hid acmp
      have Bcmp := Lib.hid bcmp
      have Aroot := Lib.hid aroot
      have Broot := Lib.hid broot
      have Ato := Lib.hid ato
      have Bto := Lib.hid bto
      have Aval := Lib.hid aval
      have Bval := Lib.hid bval
      clear h1 h2 HA HP1 HP2 aadd badd asub bsub amul bmul agcd bgcd adiv bdiv acmp bcmp aroot broot ato bto aval bval
      go_wp2_with fail
      have hnb := heap_alloc_new wr (.cells #[.string S, .string T] 23)
      have hx0 := (cell_of_row _ wr.heap.size 0 _ _ _ hnb).trans rfl
      have hx1 := (cell_of_row _ wr.heap.size 1 _ _ _ hnb).trans rfl
      have HB0 := Lib.hid (belowVia (alloc_below wr (.cells #[.string S, .string T] 23)) HB.out)
      generalize wr.alloc (.cells #[.string S, .string T] 23) = y0 at *
      clear hnb hc0 hc1 HC HB
      refine (Aadd.out _).mono ?_
      rintro e y1 ⟨rfl, hB⟩
      replace hx0 := keptBelow hB hx0
      replace hx1 := keptBelow hB hx1
      have HB1 := Lib.hid (belowVia hB HB0.out)
      clear hB HB0
      go_wp2_with fail
      refine (Badd.out _).mono ?_
      rintro e y2 ⟨rfl, hB⟩
      replace hx0 := keptBelow hB hx0
      replace hx1 := keptBelow hB hx1
      have HB2 := Lib.hid (belowVia hB HB1.out)
      clear hB HB1
      go_wp2_with fail
      refine (Asub.out _).mono ?_
      rintro e y3 ⟨rfl, hB⟩
      replace hx0 := keptBelow hB hx0
      replace hx1 := keptBelow hB hx1
      have HB3 := Lib.hid (belowVia hB HB2.out)
      clear hB HB2
      go_wp2_with fail
      refine (Bsub.out _).mono ?_
      rintro e y4 ⟨rfl, hB⟩
      replace hx0 := keptBelow hB hx0
      replace hx1 := keptBelow hB hx1
      have HB4 := Lib.hid (belowVia hB HB3.out)
      clear hB HB3
      go_wp2_with fail
      refine (Amul.out _).mono ?_
      rintro e y5 ⟨rfl, hB⟩
      replace hx0 := keptBelow hB hx0
      replace hx1 := keptBelow hB hx1
      have HB5 := Lib.hid (belowVia hB HB4.out)
      clear hB HB4
      go_wp2_with fail
      refine (Bmul.out _).mono ?_
      rintro e y6 ⟨rfl, hB⟩
      replace hx0 := keptBelow hB hx0
      replace hx1 := keptBelow hB hx1
      have HB6 := Lib.hid (belowVia hB HB5.out)
      clear hB HB5
      go_wp2_with fail
      refine (Adiv.out _).mono ?_
      rintro e y7 ⟨rfl, hB⟩
      replace hx0 := keptBelow hB hx0
      replace hx1 := keptBelow hB hx1
      have HB7 := Lib.hid (belowVia hB HB6.out)
      clear hB HB6
      go_wp2_with fail
      refine (Bdiv.out _).mono ?_
      rintro e y8 ⟨rfl, hB⟩
      replace hx0 := keptBelow hB hx0
      replace hx1 := keptBelow hB hx1
      have HB8 := Lib.hid (belowVia hB HB7.out)
      clear hB HB7
      go_wp2_with fail
      refine (Agcd.out _).mono ?_
      rintro e y9 ⟨rfl, hB⟩
      replace hx0 := keptBelow hB hx0
      replace hx1 := keptBelow hB hx1
      have HB9 := Lib.hid (belowVia hB HB8.out)
      clear hB HB8
      go_wp2_with fail
      refine (Bgcd.out _).mono ?_
      rintro e y10 ⟨rfl, hB⟩
      replace hx0 := keptBelow hB hx0
      replace hx1 := keptBelow hB hx1
      have HB10 := Lib.hid (belowVia hB HB9.out)
      clear hB HB9
      go_wp2_with fail
      refine (Aroot.out _).mono ?_
      rintro e y11 ⟨rfl, hB⟩
      replace hx0 := keptBelow hB hx0
      replace hx1 := keptBelow hB hx1
      have HB11 := Lib.hid (belowVia hB HB10.out)
      clear hB HB10
      go_wp2_with fail
      refine (Broot.out _).mono ?_
      rintro e y12 ⟨rfl, hB⟩
      replace hx0 := keptBelow hB hx0
      replace hx1 := keptBelow hB hx1
      have HB12 := Lib.hid (belowVia hB HB11.out)
      clear hB HB11
      go_wp2_with fail
      refine (Ato.out _ (Tabs.via (belowVia HB12.out HB6.out) HT.out)).mono ?_
      rintro e y13 ⟨rfl, hB⟩
      replace hx0 := keptBelow hB hx0
      replace hx1 := keptBelow hB hx1
      have HB13 := Lib.hid (belowVia hB HB12.out)
      clear hB HB12
      go_wp2_with fail
      refine (Bto.out _).mono ?_
      rintro e y14 ⟨rfl, hB⟩
      replace hx0 := keptBelow hB hx0
      replace hx1 := keptBelow hB hx1
      have HB14 := Lib.hid (belowVia hB HB13.out)
      clear hB HB13
      go_wp2_with fail
      go_region_held3 (fun w' => w'.cell? ⟨wr.heap.size, 0, none⟩ = some (.string S) ∧ w'.cell? ⟨wr.heap.size, 1, none⟩ = some (.string T)) (first | exact ⟨hx0, hx1⟩ | exact ⟨keptBelow hC1 hx0, keptBelow hC1 hx1⟩ | exact ⟨keptBelow hC2 (keptBelow hC1 hx0), keptBelow hC2 (keptBelow hC1 hx1)⟩) (first
        | (go_at_call 21; (with_reducible refine (Aval.out _).mono ?_); rintro e v1 ⟨rfl, rfl⟩)
        | (go_at_call 22; (with_reducible refine (Bval.out _).mono ?_); rintro e v2 ⟨rfl, rfl⟩)
        | (go_at_call 23; (with_reducible refine (Acmp.out _).mono ?_); rintro e v3 ⟨rfl, hC1⟩)
        | (go_at_call 24; (with_reducible refine (Bcmp.out _).mono ?_); rintro e v4 ⟨rfl, hC2⟩))
      go_wp2_with fail
      exact ⟨⟨1, by omega, rfl, belowVia hC2 (belowVia hC1 ⟨HB14.out.os, HB14.out.tape, HB14.out.output, HB14.out.size, HB14.out.block⟩)⟩, by simp [intOf]⟩
    · have hc0 := keptBelow HB.out HC.out.2.2.1
      have hc1 := keptBelow HB.out HC.out.2.2.2.1
      obtain ⟨h2, h1⟩ := HP1.out
      obtain ⟨xadd, kadd, aadd, badd⟩ := h2.add
      unfold GivesInt at aadd badd
      obtain ⟨xsub, ksub, asub, bsub⟩ := h2.sub
      unfold GivesInt at asub bsub
      obtain ⟨xmul, kmul, amul, bmul⟩ := h2.mul
      unfold GivesInt at amul bmul
      obtain ⟨xgcd, kgcd, agcd, bgcd⟩ := h2.gcd
      unfold GivesInt at agcd bgcd
      obtain ⟨xdiv, ydiv, kdiv, adiv, bdiv⟩ := h2.div
      obtain ⟨kcmp, acmp, bcmp⟩ := h2.cmp
      obtain ⟨xroot, kroot, aroot, broot⟩ := h1.root
      obtain ⟨zto, kto, ato, bto⟩ := h1.toInt
      obtain ⟨vv, aval, bval⟩ := h1.valid
      have Aadd := Lib.hid aadd
      have Badd := Lib.hid badd
      have Asub := Lib.hid asub
      have Bsub := Lib.hid bsub
      have Amul := Lib.hid amul
      have Bmul := Lib.hid bmul
      have Agcd := Lib.hid agcd
      have Bgcd := Lib.hid bgcd
      have Adiv := Lib.hid adiv
      have Bdiv := Lib.hid bdiv
      have Acmp := Lib.hid acmp
      have Bcmp := Lib.hid bcmp
      have Aroot := Lib.hid aroot
      have Broot := Lib.hid broot
      have Ato := Lib.hid ato
      have Bto := Lib.hid bto
      have Aval := Lib.hid aval
      have Bval := Lib.hid bval
      clear h1 h2 HA HP1 HP2 aadd badd asub bsub amul bmul agcd bgcd adiv bdiv acmp bcmp aroot broot ato bto aval bval
      go_wp2_with fail
      have hnb := heap_alloc_new wr (.cells #[.string s1, .string t1] 23)
      have hx0 := (cell_of_row _ wr.heap.size 0 _ _ _ hnb).trans rfl
      have hx1 := (cell_of_row _ wr.heap.size 1 _ _ _ hnb).trans rfl
      have HB0 := Lib.hid (belowVia (alloc_below wr (.cells #[.string s1, .string t1] 23)) HB.out)
      generalize wr.alloc (.cells #[.string s1, .string t1] 23) = y0 at *
      clear hnb hc0 hc1 HC HB
      refine (Aadd.out _).mono ?_
      rintro e y1 ⟨rfl, hB⟩
      replace hx0 := keptBelow hB hx0
      replace hx1 := keptBelow hB hx1
      have HB1 := Lib.hid (belowVia hB HB0.out)
      clear hB HB0
      go_wp2_with fail
      refine (Badd.out _).mono ?_
      rintro e y2 ⟨rfl, hB⟩
      replace hx0 := keptBelow hB hx0
      replace hx1 := keptBelow hB hx1
      have HB2 := Lib.hid (belowVia hB HB1.out)
      clear hB HB1
      go_wp2_with fail
      refine (Asub.out _).mono ?_
      rintro e y3 ⟨rfl, hB⟩
      replace hx0 := keptBelow hB hx0
      replace hx1 := keptBelow hB hx1
      have HB3 := Lib.hid (belowVia hB HB2.out)
      clear hB HB2
      go_wp2_with fail
      refine (Bsub.out _).mono ?_
      rintro e y4 ⟨rfl, hB⟩
      replace hx0 := keptBelow hB hx0
      replace hx1 := keptBelow hB hx1
      have HB4 := Lib.hid (belowVia hB HB3.out)
      clear hB HB3
      go_wp2_with fail
      refine (Amul.out _).mono ?_
      rintro e y5 ⟨rfl, hB⟩
      replace hx0 := keptBelow hB hx0
      replace hx1 := keptBelow hB hx1
      have HB5 := Lib.hid (belowVia hB HB4.out)
      clear hB HB4
      go_wp2_with fail
      refine (Bmul.out _).mono ?_
      rintro e y6 ⟨rfl, hB⟩
      replace hx0 := keptBelow hB hx0
      replace hx1 := keptBelow hB hx1
      have HB6 := Lib.hid (belowVia hB HB5.out)
      clear hB HB5
      go_wp2_with fail
      refine (Adiv.out _).mono ?_
      rintro e y7 ⟨rfl, hB⟩
      replace hx0 := keptBelow hB hx0
      replace hx1 := keptBelow hB hx1
      have HB7 := Lib.hid (belowVia hB HB6.out)
      clear hB HB6
      go_wp2_with fail
      refine (Bdiv.out _).mono ?_
      rintro e y8 ⟨rfl, hB⟩
      replace hx0 := keptBelow hB hx0
      replace hx1 := keptBelow hB hx1
      have HB8 := Lib.hid (belowVia hB HB7.out)
      clear hB HB7
      go_wp2_with fail
      refine (Agcd.out _).mono ?_
      rintro e y9 ⟨rfl, hB⟩
      replace hx0 := keptBelow hB hx0
      replace hx1 := keptBelow hB hx1
      have HB9 := Lib.hid (belowVia hB HB8.out)
      clear hB HB8
      go_wp2_with fail
      refine (Bgcd.out _).mono ?_
      rintro e y10 ⟨rfl, hB⟩
      replace hx0 := keptBelow hB hx0
      replace hx1 := keptBelow hB hx1
      have HB10 := Lib.hid (belowVia hB HB9.out)
      clear hB HB9
      go_wp2_with fail
      refine (Aroot.out _).mono ?_
      rintro e y11 ⟨rfl, hB⟩
      replace hx0 := keptBelow hB hx0
      replace hx1 := keptBelow hB hx1
      have HB11 := Lib.hid (belowVia hB HB10.out)
      clear hB HB10
      go_wp2_with fail
      refine (Broot.out _).mono ?_
      rintro e y12 ⟨rfl, hB⟩
      replace hx0 := keptBelow hB hx0
      replace hx1 := keptBelow hB hx1
      have HB12 := Lib.hid (belowVia hB HB11.out)
      clear hB HB11
      go_wp2_with fail
      refine (Ato.out _ (Tabs.via (belowVia HB12.out HB6.out) HT.out)).mono ?_
      rintro e y13 ⟨rfl, hB⟩
      replace hx0 := keptBelow hB hx0
      replace hx1 := keptBelow hB hx1
      have HB13 := Lib.hid (belowVia hB HB12.out)
      clear hB HB12
      go_wp2_with fail
      refine (Bto.out _).mono ?_
      rintro e y14 ⟨rfl, hB⟩
      replace hx0 := keptBelow hB hx0
      replace hx1 := keptBelow hB hx1
      have HB14 := Lib.hid (belowVia hB HB13.out)
      clear hB HB13
      go_wp2_with fail
      go_region_held3 (fun w' => w'.cell? ⟨wr.heap.size, 0, none⟩ = some (.string s1) ∧ w'.cell? ⟨wr.heap.size, 1, none⟩ = some (.string t1)) (first | exact ⟨hx0, hx1⟩ | exact ⟨keptBelow hC1 hx0, keptBelow hC1 hx1⟩ | exact ⟨keptBelow hC2 (keptBelow hC1 hx0), keptBelow hC2 (keptBelow hC1 hx1)⟩) (first
        | (go_at_call 21; (with_reducible refine (Aval.out _).mono ?_); rintro e v1 ⟨rfl, rfl⟩)
        | (go_at_call 22; (with_reducible refine (Bval.out _).mono ?_); rintro e v2 ⟨rfl, rfl⟩)
        | (go_at_call 23; (with_reducible refine (Acmp.out _).mono ?_); rintro e v3 ⟨rfl, hC1⟩)
        | (go_at_call 24; (with_reducible refine (Bcmp.out _).mono ?_); rintro e v4 ⟨rfl, hC2⟩))
      go_wp2_with fail
      exact ⟨⟨2, by omega, rfl, belowVia hC2 (belowVia hC1 ⟨HB14.out.os, HB14.out.tape, HB14.out.output, HB14.out.size, HB14.out.block⟩)⟩, by simp [intOf]⟩
    · have hc0 := keptBelow HB.out HC.out.2.2.2.2.1
      have hc1 := keptBelow HB.out HC.out.2.2.2.2.2
      obtain ⟨h2, h1⟩ := HP2.out
      obtain ⟨xadd, kadd, aadd, badd⟩ := h2.add
      unfold GivesInt at aadd badd
      obtain ⟨xsub, ksub, asub, bsub⟩ := h2.sub
      unfold GivesInt at asub bsub
      obtain ⟨xmul, kmul, amul, bmul⟩ := h2.mul
      unfold GivesInt at amul bmul
      obtain ⟨xgcd, kgcd, agcd, bgcd⟩ := h2.gcd
      unfold GivesInt at agcd bgcd
      obtain ⟨xdiv, ydiv, kdiv, adiv, bdiv⟩ := h2.div
      obtain ⟨kcmp, acmp, bcmp⟩ := h2.cmp
      obtain ⟨xroot, kroot, aroot, broot⟩ := h1.root
      obtain ⟨zto, kto, ato, bto⟩ := h1.toInt
      obtain ⟨vv, aval, bval⟩ := h1.valid
      have Aadd := Lib.hid aadd
      have Badd := Lib.hid badd
      have Asub := Lib.hid asub
      have Bsub := Lib.hid bsub
      have Amul := Lib.hid amul
      have Bmul := Lib.hid bmul
      have Agcd := Lib.hid agcd
      have Bgcd := Lib.hid bgcd
      have Adiv := Lib.hid adiv
      have Bdiv := Lib.hid bdiv
      have Acmp := Lib.hid acmp
      have Bcmp := Lib.hid bcmp
      have Aroot := Lib.hid aroot
      have Broot := Lib.hid broot
      have Ato := Lib.hid ato
      have Bto := Lib.hid bto
      have Aval := Lib.hid aval
      have Bval := Lib.hid bval
      clear h1 h2 HA HP1 HP2 aadd badd asub bsub amul bmul agcd bgcd adiv bdiv acmp bcmp aroot broot ato bto aval bval
      go_wp2_with fail
      have hnb := heap_alloc_new wr (.cells #[.string s2, .string t2] 23)
      have hx0 := (cell_of_row _ wr.heap.size 0 _ _ _ hnb).trans rfl
      have hx1 := (cell_of_row _ wr.heap.size 1 _ _ _ hnb).trans rfl
      have HB0 := Lib.hid (belowVia (alloc_below wr (.cells #[.string s2, .string t2] 23)) HB.out)
      generalize wr.alloc (.cells #[.string s2, .string t2] 23) = y0 at *
      clear hnb hc0 hc1 HC HB
      refine (Aadd.out _).mono ?_
      rintro e y1 ⟨rfl, hB⟩
      replace hx0 := keptBelow hB hx0
      replace hx1 := keptBelow hB hx1
      have HB1 := Lib.hid (belowVia hB HB0.out)
      clear hB HB0
      go_wp2_with fail
      refine (Badd.out _).mono ?_
      rintro e y2 ⟨rfl, hB⟩
      replace hx0 := keptBelow hB hx0
      replace hx1 := keptBelow hB hx1
      have HB2 := Lib.hid (belowVia hB HB1.out)
      clear hB HB1
      go_wp2_with fail
      refine (Asub.out _).mono ?_
      rintro e y3 ⟨rfl, hB⟩
      replace hx0 := keptBelow hB hx0
      replace hx1 := keptBelow hB hx1
      have HB3 := Lib.hid (belowVia hB HB2.out)
      clear hB HB2
      go_wp2_with fail
      refine (Bsub.out _).mono ?_
      rintro e y4 ⟨rfl, hB⟩
      replace hx0 := keptBelow hB hx0
      replace hx1 := keptBelow hB hx1
      have HB4 := Lib.hid (belowVia hB HB3.out)
      clear hB HB3
      go_wp2_with fail
      refine (Amul.out _).mono ?_
      rintro e y5 ⟨rfl, hB⟩
      replace hx0 := keptBelow hB hx0
      replace hx1 := keptBelow hB hx1
      have HB5 := Lib.hid (belowVia hB HB4.out)
      clear hB HB4
      go_wp2_with fail
      refine (Bmul.out _).mono ?_
      rintro e y6 ⟨rfl, hB⟩
      replace hx0 := keptBelow hB hx0
      replace hx1 := keptBelow hB hx1
      have HB6 := Lib.hid (belowVia hB HB5.out)
      clear hB HB5
      go_wp2_with fail
      refine (Adiv.out _).mono ?_
      rintro e y7 ⟨rfl, hB⟩
      replace hx0 := keptBelow hB hx0
      replace hx1 := keptBelow hB hx1
      have HB7 := Lib.hid (belowVia hB HB6.out)
      clear hB HB6
      go_wp2_with fail
      refine (Bdiv.out _).mono ?_
      rintro e y8 ⟨rfl, hB⟩
      replace hx0 := keptBelow hB hx0
      replace hx1 := keptBelow hB hx1
      have HB8 := Lib.hid (belowVia hB HB7.out)
      clear hB HB7
      go_wp2_with fail
      refine (Agcd.out _).mono ?_
      rintro e y9 ⟨rfl, hB⟩
      replace hx0 := keptBelow hB hx0
      replace hx1 := keptBelow hB hx1
      have HB9 := Lib.hid (belowVia hB HB8.out)
      clear hB HB8
      go_wp2_with fail
      refine (Bgcd.out _).mono ?_
      rintro e y10 ⟨rfl, hB⟩
      replace hx0 := keptBelow hB hx0
      replace hx1 := keptBelow hB hx1
      have HB10 := Lib.hid (belowVia hB HB9.out)
      clear hB HB9
      go_wp2_with fail
      refine (Aroot.out _).mono ?_
      rintro e y11 ⟨rfl, hB⟩
      replace hx0 := keptBelow hB hx0
      replace hx1 := keptBelow hB hx1
      have HB11 := Lib.hid (belowVia hB HB10.out)
      clear hB HB10
      go_wp2_with fail
      refine (Broot.out _).mono ?_
      rintro e y12 ⟨rfl, hB⟩
      replace hx0 := keptBelow hB hx0
      replace hx1 := keptBelow hB hx1
      have HB12 := Lib.hid (belowVia hB HB11.out)
      clear hB HB11
      go_wp2_with fail
      refine (Ato.out _ (Tabs.via (belowVia HB12.out HB6.out) HT.out)).mono ?_
      rintro e y13 ⟨rfl, hB⟩
      replace hx0 := keptBelow hB hx0
      replace hx1 := keptBelow hB hx1
      have HB13 := Lib.hid (belowVia hB HB12.out)
      clear hB HB12
      go_wp2_with fail
      refine (Bto.out _).mono ?_
      rintro e y14 ⟨rfl, hB⟩
      replace hx0 := keptBelow hB hx0
      replace hx1 := keptBelow hB hx1
      have HB14 := Lib.hid (belowVia hB HB13.out)
      clear hB HB13
      go_wp2_with fail
      go_region_held3 (fun w' => w'.cell? ⟨wr.heap.size, 0, none⟩ = some (.string s2) ∧ w'.cell? ⟨wr.heap.size, 1, none⟩ = some (.string t2)) (first | exact ⟨hx0, hx1⟩ | exact ⟨keptBelow hC1 hx0, keptBelow hC1 hx1⟩ | exact ⟨keptBelow hC2 (keptBelow hC1 hx0), keptBelow hC2 (keptBelow hC1 hx1)⟩) (first
        | (go_at_call 21; (with_reducible refine (Aval.out _).mono ?_); rintro e v1 ⟨rfl, rfl⟩)
        | (go_at_call 22; (with_reducible refine (Bval.out _).mono ?_); rintro e v2 ⟨rfl, rfl⟩)
        | (go_at_call 23; (with_reducible refine (Acmp.out _).mono ?_); rintro e v3 ⟨rfl, hC1⟩)
        | (go_at_call 24; (with_reducible refine (Bcmp.out _).mono ?_); rintro e v4 ⟨rfl, hC2⟩))
      go_wp2_with fail
      exact ⟨⟨3, by omega, rfl, belowVia hC2 (belowVia hC1 ⟨HB14.out.os, HB14.out.tape, HB14.out.output, HB14.out.size, HB14.out.block⟩)⟩, by simp [intOf]⟩
    · have HT5 := Lib.hid (Tabs.via (belowVia HB.out HB6.out) HT.out)
      have HB0 := Lib.hid (belowVia HB.out HB6.out)
      clear HA HP1 HP2 HC HB
      go_wp2_with fail
      refine (HFI.out _ HT5.out).mono ?_
      rintro e y1 ⟨rfl, hB⟩
      have HB1 := Lib.hid (belowVia hB HB0.out)
      clear hB
      go_wp2_with fail
      refine (HFR.out _).mono ?_
      rintro e y2 ⟨rfl, hB⟩
      have HB2 := Lib.hid (belowVia hB HB1.out)
      clear hB
      go_wp2_with fail
      go_ret
      exact ⟨rfl, HB2.out⟩
end Go.Proofs.YtggkbeppfpgkaaaGreatDoor
