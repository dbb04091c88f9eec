/- DigestChainBinding: what the law's body answers. -/
import Derived.BigQuiet
import Derived.Deep.QuietTactic
import Derived.Deep.RegionHeld3
import Derived.Test.YtdhpighnkoamiaaDoorDigHeads
import Derived.Test.YtdhpighnkoamiaaDoorDigBinding
namespace Go.Proofs.YtdhpighnkoamiaaDoor
open Go.RowKit Putlog

theorem headsS_mem (f : Nat → ByteArray) (hf : ∀ j, (f j).size ≤ 60) : ∀ k, ∀ x ∈ (headsS f k).1, x.size ≤ 1000000
  | 0, x, hx => by cases hx
  | k + 1, x, hx => by
    have h1 := hf k
    have h2 := headsS_size f k
    simp only [headsS] at hx
    rcases List.mem_cons.1 hx with rfl | hx
    · rw [ByteArray.size_append, ByteArray.size_append, one_size]; omega
    · exact headsS_mem f hf k x hx
theorem same_heads {xs ys : List ByteArray} (h : SameS xs ys) : headsS (getB xs) xs.length = headsS (getB ys) ys.length := by
  rw [heads_same xs.length h.2, h.1]

/-- The conversion's operation, under a name of its own. -/
def cvOp : Op := Op.convert 43 9 (Operand.tmp 76)
theorem chain_end {zb : Bool} {A B : List ByteArray} {r : Bool} (h : zb = true ∨ Coll A B) (hr : Coll A B → r = true) : r = true ∨ zb = true := h.elim .inr (fun h => .inl (hr h))

set_option maxRecDepth 100000 in
set_option maxHeartbeats 8000000 in
theorem ChainBinding_calls (f0 f1 : Nat → ByteArray) (n0 c0 n1 c1 : Nat) (a0 a1 : Option Addr) (w : World)
    (hf0 : ∀ j, j < n0 → (f0 j).size ≤ 9223372036854775807) (hn0 : (n0 : Int) ≤ 9223372036854775807) (hs0 : SliceAt w a0 f0 n0)
    (hf1 : ∀ j, j < n1 → (f1 j).size ≤ 9223372036854775807) (hn1 : (n1 : Int) ≤ 9223372036854775807) (hs1 : SliceAt w a1 f1 n1) (hT : TabAt w) :
    Calls Tryd.prog 9 #[.slice a0 n0 c0, .slice a1 n1 c1] w fun e w' => e = .returned (.bool true) ∧ Below w.heap.size w w' := by
  have HS := Lib.hid hs0
  have HS' := Lib.hid hs1
  have HF := Lib.hid hf0
  have HF' := Lib.hid hf1
  have HT := Lib.hid hT
  clear hs0 hs1 hf0 hf1 hT
  go_enter Tryd.func9, Tryd.ntmps9
  go_wp2_with fail
  refine (sane_any w HT.out).mono ?_
  rintro e w1 ⟨rfl, hB⟩
  have HB1 := Lib.hid hB
  have HT1 := Lib.hid (tabVia hB HT.out)
  have HS1 := Lib.hid (SliceAt.via hB HS.out)
  have HS1' := Lib.hid (SliceAt.via hB HS'.out)
  clear hB HS HT HS'
  go_wp2_with fail
  refine (few_any f0 n0 c0 20 a0 w1 HF.out hn0 (by omega) HS1.out).mono ?_
  intro e w2 hg
  obtain ⟨a2, c2, rfl, hc2, hc3, hs2, hsh, hB⟩ := hg
  have hN : (fewL f0 (min n0 20)).length ≤ 20 := by rw [fewL_len]; omega
  have hFs := few60 f0 (min n0 20)
  generalize fewL f0 (min n0 20) = xs at *
  have HB2 := Lib.hid (belowVia hB HB1.out)
  have HT2 := Lib.hid (tabVia hB HT1.out)
  have HS2 := Lib.hid hs2
  have HS2' := Lib.hid (SliceAt.via hB HS1'.out)
  have HFS := Lib.hid hFs
  have hN40 : (xs.length : Int) ≤ 20 := by omega
  clear hB hs2 hsh hFs HB1 HT1 HS1 HS1' HF hn0 hN
  go_wp2_with fail
  refine (few_any f1 n1 c1 20 a1 w2 HF'.out hn1 (by omega) HS2'.out).mono ?_
  intro e w3 hg
  obtain ⟨a3, c3, rfl, hc4, hc5, hs3, hsh, hB⟩ := hg
  have hM : (fewL f1 (min n1 20)).length ≤ 20 := by rw [fewL_len]; omega
  have hGs := few60 f1 (min n1 20)
  generalize fewL f1 (min n1 20) = ys at *
  have HB3 := Lib.hid (belowVia hB HB2.out)
  have HT3 := Lib.hid (tabVia hB HT2.out)
  have HS3 := Lib.hid (SliceAt.via hB HS2.out)
  have HS3' : Hid (SliceAt w3 a3 (getB ys) ys.length) := hs3
  have HGS := Lib.hid hGs
  have hM40 : (ys.length : Int) ≤ 20 := by omega
  clear hB hs3 hsh hGs HB2 HT2 HS2 HS2' HF' hn1 hM
  have hbind := heads_bind (getB xs) (getB ys) xs.length ys.length
  have hsame := same_heads (xs := xs) (ys := ys)
  have HW1 := Lib.hid (heads_any xs HFS.out a2 c2 w3 (by omega) HS3.out HT3.out)
  have HW2 := Lib.hid (fun w h1 h2 => heads_any ys HGS.out a3 c3 w (by omega) h1 h2)
  have hl1 := headsS_len (getB xs) xs.length
  have hl2 := headsS_len (getB ys) ys.length
  have hz1 := headsS_size (getB xs) xs.length
  have hz2 := headsS_size (getB ys) ys.length
  have hm1 := getB_le _ _ (headsS_mem (getB xs) HFS.out xs.length)
  have hm2 := getB_le _ _ (headsS_mem (getB ys) HGS.out ys.length)
  have HSAM := Lib.hid (fun w h1 h2 => same_any xs ys a2 a3 c2 c3 w (by omega) h1 h2)
  have hss : (∀ j, j < xs.length → getB xs j = getB ys j) → xs.length = ys.length → SameS xs ys := fun h1 h2 => ⟨h2, h1⟩
  generalize headsS (getB xs) xs.length = A at *
  generalize headsS (getB ys) ys.length = B at *
  obtain ⟨A, h⟩ := A
  obtain ⟨B, k⟩ := B
  simp only at HW1 HW2 hl1 hl2 hm1 hm2 hz1 hz2 hbind
  have HBI : Hid (h = k → ¬ SameS xs ys → Coll A B ∨ (A.length ≠ B.length ∧ shaB (getB (longer A B) (min A.length B.length)) = zero32)) := fun h1 h2 => by
    rcases hbind h1 with ⟨h3, h4⟩ | h3 | ⟨h3, h4⟩
    · exact absurd (hss h4 h3) h2
    · exact .inl h3
    · exact .inr ⟨by omega, by rw [hl1, hl2]; exact h4⟩
  have HSA : Hid (SameS xs ys → h = k) := fun h1 => congrArg Prod.snd (hsame h1)
  have HM1 := Lib.hid hm1
  have HM2 := Lib.hid hm2
  have hA : (A.length : Int) ≤ 20 := by omega
  have hBl : (B.length : Int) ≤ 20 := by omega
  clear hbind hsame hss hl1 hl2 hm1 hm2
  go_wp2_with fail
  refine HW1.out.mono ?_
  rintro e w4 ⟨u1, rfl, a4, c4, rfl, h41, h42, h43, hB⟩
  have HB4 := Lib.hid (belowVia hB HB3.out)
  have HT4 := Lib.hid (tabVia hB HT3.out)
  have HS4 := Lib.hid (SliceAt.via hB HS3.out)
  have HS4' := Lib.hid (SliceAt.via hB HS3'.out)
  have HA4 : Hid (SliceAt w4 a4 (getB A) A.length) := h43
  clear hB h43 h42 HB3 HT3 HS3 HS3' HW1
  go_wp2_with fail
  refine (HW2.out _ HS4'.out HT4.out).mono ?_
  rintro e w5 ⟨u2, rfl, a5, c5, rfl, h51, h52, h53, hB⟩
  have HB5 := Lib.hid (belowVia hB HB4.out)
  have HT5 := Lib.hid (tabVia hB HT4.out)
  have HS5 := Lib.hid (SliceAt.via hB HS4.out)
  have HS5' := Lib.hid (SliceAt.via hB HS4'.out)
  have HA5 := Lib.hid (SliceAt.via hB HA4.out)
  have HA5' : Hid (SliceAt w5 a5 (getB B) B.length) := h53
  clear hB h53 h52 HB4 HT4 HS4 HS4' HA4 HW2
  go_wp2_with fail
  refine (HSAM.out _ HS5.out HS5'.out).mono ?_
  rintro e w6 ⟨r, rfl, hr, hB⟩
  have HB6 := Lib.hid (belowVia hB HB5.out)
  have HT6 := Lib.hid (tabVia hB HT5.out)
  have HA6 := Lib.hid (SliceAt.via hB HA5.out)
  have HA6' := Lib.hid (SliceAt.via hB HA5'.out)
  clear hB HB5 HT5 HS5 HS5' HA5 HA5' HSAM
  have hz1' : (h.size : Int) = 32 := by omega
  cases r with
  | true =>
    obtain rfl := HSA.out (hr.1 rfl)
    clear hr
    go_wp2_with fail
    go_ret
    exact ⟨rfl, HB6.out⟩
  | false =>
    have hns : ¬ SameS xs ys := fun h1 => by have := hr.2 h1; cases this
    have HNS := Lib.hid hns
    clear hr hns
    cases hhk : (h.toList == k.toList) with
    | false =>
      go_wp2_with fail
      go_ret
      exact ⟨rfl, HB6.out⟩
    | true =>
      obtain rfl := toList_eq hhk
      have HCO := Lib.hid (HBI.out rfl HNS.out)
      clear hhk
      have hhh : (h.toList == h.toList) = true := by simp
      have HB6A := Lib.hid (HB6.out.alloc HB6.out.size (.cells zeros32 5))
      have HA6A := Lib.hid (SliceAt.via ((Below.refl w6.heap.size w6).alloc (Nat.le_refl _) (.cells zeros32 5)) HA6.out)
      have HA6A' := Lib.hid (SliceAt.via ((Below.refl w6.heap.size w6).alloc (Nat.le_refl _) (.cells zeros32 5)) HA6'.out)
      have HT6A := Lib.hid (tabVia ((Below.refl w6.heap.size w6).alloc (Nat.le_refl _) (.cells zeros32 5)) HT6.out)
      have HC := Lib.hid (fun w h1 h2 h3 => collide_any A B HM1.out HM2.out a4 a5 c4 c5 w (by omega) (by omega) h1 h2 h3)
      rcases Nat.lt_trichotomy A.length B.length with hlt | heq | hgt
      · have hlt' : (A.length : Int) < B.length := by omega
        have hnl : ((A.length : Int) != B.length) = true := by simp [bne]; omega
        have hmn : min (A.length : Int) B.length = A.length := by omega
        have hlo : shaB (getB B A.length) = zero32 ∨ Coll A B := by
          rcases HCO.out with h1 | ⟨_, h1⟩
          · exact .inr h1
          · rw [longer, if_pos hlt, Nat.min_eq_left (by omega)] at h1
            exact .inl h1
        obtain ⟨bl, ol, rfl, hcs⟩ := HA6'.out (by omega)
        have hcl := hcs A.length (by omega)
        have hzs := HM2.out A.length
        generalize getB B A.length = z at *
        have HSZ := Lib.hid (fun w h => Sum_any z w (by omega) h)
        have HAO := Lib.hid hlo
        have hds : (shaB z).size ≤ 32 := by rw [shaB_size]; omega
        generalize shaB z = d at *
        clear hlo hcs hzs
        go_wp2_with fail
        have hmk := make32
        have hcv1 := conv32
        have hcv2 : ∀ w : World, (convert 43 9 (.slice (some ⟨w.heap.size, 0, none⟩) 32 32)).run Tryd.prog (w.alloc (.cells zeros32 5)).drew = .ok (.string zero32) (w.alloc (.cells zeros32 5)).drew := fun w => conv32_any _ _ (ArrAt.new w zeros32 5)
        have hcvop : cvOp = Op.convert 43 9 (Operand.tmp 76) := rfl
        rw [← hcvop]
        go_region_held3 (fun w' => w'.cell? ⟨bl, ol + A.length, none⟩ = some (.string z)) (first | exact hcl | exact cellA _ hcl | exact keptBelow hB8 hcl | exact cellA _ (keptBelow hB8 hcl) | exact keptBelow hB8 (cellA _ hcl)) (first
          | (go_at_call 13; (with_reducible refine (HSZ.out _ ?_).mono ?_); (first | exact HT6.out | exact HT6A.out); rintro e w8 ⟨rfl, hB8⟩; (first | (have hcv8 : (convert 43 9 (.slice (some ⟨w6.heap.size, 0, none⟩) 32 32)).run Tryd.prog w8 = .ok (.string zero32) w8 := conv32_any w8 w6.heap.size (by refine ArrAt.below ?_ hB8 ?_; exact ArrAt.new w6 zeros32 5; simp)) | skip)))
        all_goals
          have HZ : Hid ((d.toList == zero32.toList) = true ∨ Coll A B) := HAO.out.imp (fun h => by rw [h]; simp) id
          first
          | (have HB7 : Hid (Below w.heap.size w w8) := Lib.hid (belowVia hB8 ⟨HB6A.out.os, HB6A.out.tape, HB6A.out.output, HB6A.out.size, HB6A.out.block⟩); have HT7 : Hid (TabAt w8) := Lib.hid (tabVia hB8 HT6A.out); have HA7 : Hid (SliceAt w8 a4 (getB A) A.length) := Lib.hid (SliceAt.via hB8 HA6A.out); have HA7' : Hid (SliceAt w8 (some ⟨bl, ol, none⟩) (getB B) B.length) := Lib.hid (SliceAt.via hB8 HA6A'.out))
          | (have HB7 : Hid (Below w.heap.size w (w8.alloc (.cells zeros32 5))) := Lib.hid (belowVia ((Below.refl w8.heap.size w8).alloc (Nat.le_refl _) (.cells zeros32 5)) (belowVia hB8 ⟨HB6.out.os, HB6.out.tape, HB6.out.output, HB6.out.size, HB6.out.block⟩)); have HT7 : Hid (TabAt (w8.alloc (.cells zeros32 5))) := Lib.hid (tabVia ((Below.refl w8.heap.size w8).alloc (Nat.le_refl _) (.cells zeros32 5)) (tabVia hB8 HT6.out)); have HA7 : Hid (SliceAt (w8.alloc (.cells zeros32 5)) a4 (getB A) A.length) := Lib.hid (SliceAt.via ((Below.refl w8.heap.size w8).alloc (Nat.le_refl _) (.cells zeros32 5)) (SliceAt.via hB8 HA6.out)); have HA7' : Hid (SliceAt (w8.alloc (.cells zeros32 5)) (some ⟨bl, ol, none⟩) (getB B) B.length) := Lib.hid (SliceAt.via ((Below.refl w8.heap.size w8).alloc (Nat.le_refl _) (.cells zeros32 5)) (SliceAt.via hB8 HA6'.out)))
          try clear hcv8
          clear hB8 hmk hcv1 hcv2 hcvop hcl HSZ HB6 HB6A HT6 HT6A HA6 HA6A HA6' HA6A'
          generalize (d.toList == zero32.toList) = zb at *
          go_wp2_with fail
          refine (HC.out _ HA7.out HA7'.out HT7.out).mono ?_
          rintro e w9 ⟨r, rfl, hr, hB⟩
          have HB9 := Lib.hid (belowVia hB HB7.out)
          rcases chain_end HZ.out hr with rfl | rfl
          · go_wp2_with fail
            go_ret
            exact ⟨rfl, HB9.out⟩
          · cases r
            · go_wp2_with fail
              go_ret
              exact ⟨rfl, HB9.out⟩
            · go_wp2_with fail
              go_ret
              exact ⟨rfl, HB9.out⟩
      · have heq' : (A.length : Int) = B.length := by omega
        have hcoll : Coll A B := by
          rcases HCO.out with h1 | ⟨h1, _⟩
          · exact h1
          · exact absurd heq h1
        have HCOL := Lib.hid hcoll
        clear hcoll
        go_wp2_with fail
        go_quiet (fail)
        go_wp2_with fail
        have k1 : SliceAt (w6.drewN nq) a4 (getB A) B.length := by rw [← heq]; exact HA6.out
        have k2 : SliceAt (w6.drewN nq) a5 (getB B) B.length := HA6'.out
        have k3 : TabAt (w6.drewN nq) := HT6.out
        rw [heq] at HC
        refine (HC.out _ k1 k2 k3).mono ?_
        rintro e w9 ⟨r, rfl, hr, hB⟩
        obtain rfl := hr HCOL.out
        have HB9 := Lib.hid (belowVia hB (below_drewN HB6.out _))
        go_wp2_with fail
        go_ret
        exact ⟨rfl, HB9.out⟩
      · have hlt' : (B.length : Int) < A.length := by omega
        have hnl : ((A.length : Int) != B.length) = true := by simp [bne]; omega
        have hmn : min (A.length : Int) B.length = B.length := by omega
        have hlo : shaB (getB A B.length) = zero32 ∨ Coll A B := by
          rcases HCO.out with h1 | ⟨_, h1⟩
          · exact .inr h1
          · rw [longer, if_neg (by omega), Nat.min_eq_right (by omega)] at h1
            exact .inl h1
        obtain ⟨bl, ol, rfl, hcs⟩ := HA6.out (by omega)
        have hcl := hcs B.length (by omega)
        have hzs := HM1.out B.length
        generalize getB A B.length = z at *
        have HSZ := Lib.hid (fun w h => Sum_any z w (by omega) h)
        have HAO := Lib.hid hlo
        have hds : (shaB z).size ≤ 32 := by rw [shaB_size]; omega
        generalize shaB z = d at *
        clear hlo hcs hzs
        go_wp2_with fail
        have hmk := make32
        have hcv1 := conv32
        have hcv2 : ∀ w : World, (convert 43 9 (.slice (some ⟨w.heap.size, 0, none⟩) 32 32)).run Tryd.prog (w.alloc (.cells zeros32 5)).drew = .ok (.string zero32) (w.alloc (.cells zeros32 5)).drew := fun w => conv32_any _ _ (ArrAt.new w zeros32 5)
        have hcvop : cvOp = Op.convert 43 9 (Operand.tmp 76) := rfl
        rw [← hcvop]
        go_region_held3 (fun w' => w'.cell? ⟨bl, ol + B.length, none⟩ = some (.string z)) (first | exact hcl | exact cellA _ hcl | exact keptBelow hB8 hcl | exact cellA _ (keptBelow hB8 hcl) | exact keptBelow hB8 (cellA _ hcl)) (first
          | (go_at_call 13; (with_reducible refine (HSZ.out _ ?_).mono ?_); (first | exact HT6.out | exact HT6A.out); rintro e w8 ⟨rfl, hB8⟩; (first | (have hcv8 : (convert 43 9 (.slice (some ⟨w6.heap.size, 0, none⟩) 32 32)).run Tryd.prog w8 = .ok (.string zero32) w8 := conv32_any w8 w6.heap.size (by refine ArrAt.below ?_ hB8 ?_; exact ArrAt.new w6 zeros32 5; simp)) | skip)))
        all_goals
          have HZ : Hid ((d.toList == zero32.toList) = true ∨ Coll A B) := HAO.out.imp (fun h => by rw [h]; simp) id
          first
          | (have HB7 : Hid (Below w.heap.size w w8) := Lib.hid (belowVia hB8 ⟨HB6A.out.os, HB6A.out.tape, HB6A.out.output, HB6A.out.size, HB6A.out.block⟩); have HT7 : Hid (TabAt w8) := Lib.hid (tabVia hB8 HT6A.out); have HA7 : Hid (SliceAt w8 (some ⟨bl, ol, none⟩) (getB A) A.length) := Lib.hid (SliceAt.via hB8 HA6A.out); have HA7' : Hid (SliceAt w8 a5 (getB B) B.length) := Lib.hid (SliceAt.via hB8 HA6A'.out))
          | (have HB7 : Hid (Below w.heap.size w (w8.alloc (.cells zeros32 5))) := Lib.hid (belowVia ((Below.refl w8.heap.size w8).alloc (Nat.le_refl _) (.cells zeros32 5)) (belowVia hB8 ⟨HB6.out.os, HB6.out.tape, HB6.out.output, HB6.out.size, HB6.out.block⟩)); have HT7 : Hid (TabAt (w8.alloc (.cells zeros32 5))) := Lib.hid (tabVia ((Below.refl w8.heap.size w8).alloc (Nat.le_refl _) (.cells zeros32 5)) (tabVia hB8 HT6.out)); have HA7 : Hid (SliceAt (w8.alloc (.cells zeros32 5)) (some ⟨bl, ol, none⟩) (getB A) A.length) := Lib.hid (SliceAt.via ((Below.refl w8.heap.size w8).alloc (Nat.le_refl _) (.cells zeros32 5)) (SliceAt.via hB8 HA6.out)); have HA7' : Hid (SliceAt (w8.alloc (.cells zeros32 5)) a5 (getB B) B.length) := Lib.hid (SliceAt.via ((Below.refl w8.heap.size w8).alloc (Nat.le_refl _) (.cells zeros32 5)) (SliceAt.via hB8 HA6'.out)))
          try clear hcv8
          clear hB8 hmk hcv1 hcv2 hcvop hcl HSZ HB6 HB6A HT6 HT6A HA6 HA6A HA6' HA6A'
          generalize (d.toList == zero32.toList) = zb at *
          go_wp2_with fail
          refine (HC.out _ HA7.out HA7'.out HT7.out).mono ?_
          rintro e w9 ⟨r, rfl, hr, hB⟩
          have HB9 := Lib.hid (belowVia hB HB7.out)
          rcases chain_end HZ.out hr with rfl | rfl
          · go_wp2_with fail
            go_ret
            exact ⟨rfl, HB9.out⟩
          · cases r
            · go_wp2_with fail
              go_ret
              exact ⟨rfl, HB9.out⟩
            · go_wp2_with fail
              go_ret
              exact ⟨rfl, HB9.out⟩
end Go.Proofs.YtdhpighnkoamiaaDoor
