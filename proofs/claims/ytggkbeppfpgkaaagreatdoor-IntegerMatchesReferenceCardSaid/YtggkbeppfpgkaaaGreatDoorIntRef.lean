/- The contracts of the reference's trim, text and Made. -/
import Derived.Test.YtggkbeppfpgkaaaGreatDoorIntKit
namespace Go.Proofs.YtggkbeppfpgkaaaGreatDoor
open Go.RowKit Putlog

/-- A list without its zeros in front, as a beginning. -/
theorem trimL_take (l : List Nat) : trimL l = l.take (trimL l).length := by
  suffices h : ∀ n (l : List Nat), l.length ≤ n → trimL l = l.take (trimL l).length from h _ l (Nat.le_refl _)
  intro n
  induction n with
  | zero => intro l hl; have : l = [] := List.length_eq_zero_iff.1 (by omega); subst this; rfl
  | succ n ih =>
    intro l hl
    rcases norm_cases l with rfl | ⟨r, x, rfl⟩
    · rfl
    · by_cases h : x = 0
      · subst h
        rw [trimL_zero]
        have h1 := ih r (by simp at hl; omega)
        have h2 : (trimL r).length ≤ r.length := by rw [h1]; simp; omega
        rw [List.take_append_of_le_length h2]
        exact h1
      · rw [trimL_keep h, List.take_length]
theorem trimL_le (l : List Nat) : (trimL l).length ≤ l.length := by rw [trimL_take l]; simp; omega
theorem take_getD (l : List Nat) {k j : Nat} (h : j < k) : (l.take k).getD j 0 = l.getD j 0 := by
  simp [List.getD_eq_getElem?_getD, h]
theorem trim_step {l : List Nat} {k : Nat} (hk : k < l.length) : (l.getD k 0 = 0 → trimL (l.take (k + 1)) = trimL (l.take k)) ∧ (l.getD k 0 ≠ 0 → trimL (l.take (k + 1)) = l.take (k + 1)) := by
  have e : l.take (k + 1) = l.take k ++ [l.getD k 0] := by
    rw [List.take_succ_eq_append_getElem hk]; simp [List.getD_eq_getElem?_getD, hk]
  rw [e]
  exact ⟨fun h => by rw [h, trimL_zero], fun h => trimL_keep h⟩

theorem NumsAt.take {w : World} {a : Option Addr} {c : Nat} {l : List Nat} (h : NumsAt w (.slice a l.length c) l) {k : Nat} (hk : k ≤ l.length) : NumsAt w (.slice a k c) (l.take k) := by
  obtain ⟨a', c', e, h2, h3, h4⟩ := h
  cases e
  have hl : (l.take k).length = k := by simp; omega
  refine ⟨a, c, by rw [hl], by omega, h3, ?_⟩
  rcases h4 with h4 | ⟨g, h5, h6⟩
  · exact .inl h4
  · exact .inr ⟨g, h5, fun j hj => by rw [take_getD l (by omega)]; exact h6 j (by omega)⟩
theorem NumsAt.addr {w : World} {a : Option Addr} {c : Nat} {l : List Nat} (h : NumsAt w (.slice a l.length c) l) : l.length ≤ c ∧ (c : Int) ≤ 9223372036854775807 ∧ (0 < l.length → ∃ g, a = some ⟨g, 0, none⟩ ∧ ∀ j, j < l.length → w.cell? ⟨g, j, none⟩ = some (.int .i64 (l.getD j 0 : Nat))) := by
  obtain ⟨a', c', e, h2, h3, h4⟩ := h
  cases e
  refine ⟨h2, h3, fun h0 => ?_⟩
  rcases h4 with ⟨_, h4⟩ | h4
  · omega
  · exact h4

set_option maxRecDepth 100000 in
set_option maxHeartbeats 2000000 in
theorem rtrim_any (l : List Nat) (hl : l.length ≤ 100000) (v : Value) (w : World) (hv : NumsAt w v l) :
    Calls Tryz.prog 27 #[v] w fun e w' => ∃ u, e = .returned u ∧ NumsAt w' u (trimL l) ∧ w = w' := by
  obtain ⟨a, c, rfl, hv2⟩ : ∃ a c, v = .slice a l.length c ∧ NumsAt w (.slice a l.length c) l := by
    obtain ⟨a, c, e, r⟩ := hv
    exact ⟨a, c, e, a, c, rfl, r⟩
  have HV := Lib.hid hv2
  obtain ⟨hc1, hc2, hc3⟩ := hv2.addr
  have HA := Lib.hid hc3
  clear hv hv2 hc3
  go_enter Tryz.func27, Tryz.ntmps27
  go_wp2_with fail
  go_loop [0] (fun v => ∃ k : Nat, k ≤ l.length ∧ v = .slice a k c ∧ trimL (l.take k) = trimL l) (fun v => slen v)
  case atStart => exact ⟨l.length, Nat.le_refl _, rfl, by rw [List.take_length]⟩
  case round =>
    obtain ⟨k, hk, rfl, ht⟩ := hrel
    rcases Nat.eq_zero_or_pos k with rfl | h0
    · have HT : Hid (trimL l = []) := by show trimL l = []; rw [← ht]; rfl
      clear ht
      go_wp2_with fail
      go_ret
      refine ⟨_, rfl, ?_, rfl⟩
      rw [HT.out]
      exact HV.out.take (k := 0) (by omega)
    · obtain ⟨q, rfl⟩ : ∃ q, k = q + 1 := ⟨k - 1, by omega⟩
      obtain ⟨g, rfl, hcell⟩ := HA.out (by omega)
      have hc := hcell q (by omega)
      obtain ⟨hs1, hs2⟩ := trim_step (l := l) (k := q) (by omega)
      have hqc : (q : Int) + 1 ≤ c := by omega
      have hqb : (q : Int) ≤ 100000 := by omega
      by_cases hx : l.getD q 0 = 0
      · have HN : Hid (trimL (l.take q) = trimL l) := by show _ = _; rw [← hs1 hx]; exact ht
        rw [hx] at hc
        clear ht hs1 hs2 hx hcell
        go_wp2_with fail
        go_round
        case rel => exact ⟨q, by omega, rfl, HN.out⟩
        case measure => simp [slen]
      · have HT : Hid (trimL l = l.take (q + 1)) := by show _ = _; rw [← ht]; exact hs2 hx
        have hxb : ((l.getD q 0 : Nat) : Int) ≠ 0 := by omega
        have hxe : (((l.getD q 0 : Nat) : Int) == 0) = false := by simpa using hxb
        generalize l.getD q 0 = x at *
        clear ht hs1 hs2 hcell
        go_wp2_with fail
        go_ret
        refine ⟨_, rfl, ?_, rfl⟩
        rw [HT.out]
        exact HV.out.take hk

/-- The bytes of a text, its sign first. -/
def signT (neg : Bool) : List UInt8 := if neg = true then [45] else []
def txt (neg : Bool) (l : List Nat) (k : Nat) : List UInt8 := signT neg ++ (l.reverse.take k).map chr10
theorem txt_succ (neg : Bool) (l : List Nat) {k : Nat} (h : k < l.length) : txt neg l k ++ [chr10 (l.getD (l.length - 1 - k) 0)] = txt neg l (k + 1) := by
  unfold txt
  rw [List.take_succ_eq_append_getElem (by simpa using h), List.map_append, List.append_assoc]
  congr 2
  simp [List.getD_eq_getElem?_getD, show l.length - 1 - k < l.length by omega]
theorem txt_zero (neg : Bool) (l : List Nat) : txt neg l 0 = signT neg := by simp [txt]
theorem txt_len (neg : Bool) (l : List Nat) {k : Nat} (h : k ≤ l.length) : (txt neg l k).length = (signT neg).length + k := by
  simp [txt]; omega
theorem signT_len (neg : Bool) : (signT neg).length ≤ 1 := by cases neg <;> simp [signT]
/-- The number of a sign and digits. -/
def sgn (neg : Bool) (n : Nat) : Int := if neg = true then -(n : Int) else n
theorem txt_all (neg : Bool) {l : List Nat} (hd : DigB 10 l) (hn : Norm l) (h0 : l ≠ []) : txt neg l l.length = intT (sgn neg (leV 10 l)) := by
  have hp := leV_pos (B := 10) (by decide) hn h0
  have hnat : natT (leV 10 l) = l.reverse.map chr10 := by
    unfold natT
    rw [if_neg (by omega), digsL_leV (by decide) hd hn]
  have ht : txt neg l l.length = signT neg ++ l.reverse.map chr10 := by
    unfold txt; rw [List.take_of_length_le (by simp)]
  rw [ht]
  unfold intT sgn signT
  cases neg with
  | true =>
    rw [if_pos rfl, if_pos rfl, if_pos (by omega)]
    rw [show (-(leV 10 l : Int)).natAbs = leV 10 l by omega, hnat]; rfl
  | false =>
    have h1 : ¬ ((leV 10 l : Int) < 0) := by omega
    simp only [Bool.false_eq_true, if_false, h1, Int.natAbs_natCast, hnat]
    rfl

set_option maxRecDepth 100000 in
set_option maxHeartbeats 2000000 in
theorem rtext_any (neg : Bool) (l : List Nat) (hl : l.length ≤ 50000) (hd : DigB 10 l) (hn : Norm l) (v : Value) (w : World) (hv : NumsAt w v l) :
    Calls Tryz.prog 26 #[.bool neg, v] w fun e w' => e = .returned (.tuple #[.string (intB (sgn neg (leV 10 l))), .bool (decide ((l.length : Int) ≤ 200))]) ∧ Below w.heap.size w w' := by
  obtain ⟨a, c, rfl, hv2⟩ : ∃ a c, v = .slice a l.length c ∧ NumsAt w (.slice a l.length c) l := by
    obtain ⟨a, c, e, r⟩ := hv
    exact ⟨a, c, e, a, c, rfl, r⟩
  obtain ⟨hc1, hc2, hc3⟩ := hv2.addr
  by_cases h0 : l = []
  · subst h0
    have hz : Hid (intB (sgn neg (leV 10 [])) = ⟨#[48]⟩) := by show _ = _; cases neg <;> rfl
    clear hv hv2 hc3 hd hn
    go_enter Tryz.func26, Tryz.ntmps26
    go_wp2_with fail
    go_ret2
    exact ⟨by rw [hz.out]; rfl, Below.refl _ _⟩
  · obtain ⟨i0, hi0, hz0, hz1, hz2⟩ := info_parts info_byte
    have HI0 := Lib.hid hi0
    have HZ0 := Lib.hid hz0
    have HZ1 := Lib.hid hz1
    have HZ2 := Lib.hid hz2
    clear hi0 hz0 hz1 hz2
    have hlp : 0 < l.length := List.length_pos_iff.2 h0
    obtain ⟨g, rfl, hcell⟩ := hc3 hlp
    have hta := txt_all neg hd hn h0
    have HR : Hid ((⟨(txt neg l l.length).toArray⟩ : ByteArray) = intB (sgn neg (leV 10 l))) := by show _ = _; rw [hta]; rfl
    have HC := Lib.hid hcell
    have HD := Lib.hid hd
    obtain ⟨R, hR⟩ : ∃ R, R = intB (sgn neg (leV 10 l)) := ⟨_, rfl⟩
    rw [← hR] at HR ⊢
    obtain ⟨n, hn2⟩ : ∃ n, n = l.length := ⟨_, rfl⟩
    rw [← hn2] at hlp hc1 ⊢
    have HN := Lib.hid hn2
    have hlb : (n : Int) ≤ 50000 := by omega
    have hn0 : ((n : Int) == 0) = false := by simp; omega
    clear hv hv2 hc3 hcell hta hd hn h0 hR hn2 hl
    have HS := Lib.hid (signT_len neg)
    have HT0 := Lib.hid (txt_zero neg l)
    cases neg with
    | true =>
      go_enter Tryz.func26, Tryz.ntmps26
      go_wp2_with (at_builtin; refine wpList_append_own _ rfl _ _ 72 rfl w.heap.size 5 i0 (.int .u8 0) 1 1 Tryz.underlying72 HI0.out HZ0.out HZ1.out HZ2.out rfl (by decide) (.slice none 0 0) 0 [] (by rfl) (World.ownsRow_nil _ _ _ _) ⟨w.heap.size, 0, none⟩ 1 1 [.int .u8 45] (by rfl) rfl (news_val _ _ _) (one_int _ _) (by decide) (by decide) (by simp) ?_; intro v' w3 hown3 hgrow3 _)
      have HST : Hid (w3.ownsRow w.heap.size 5 1 v' (txt true l 0).length (u8l (txt true l 0)) ∧ Below w.heap.size w w3) := by
        show _ ∧ _
        rw [HT0.out]
        exact ⟨hown3, belowGrown (e := 5) (size := 1) ((Below.refl w.heap.size w).alloc (Nat.le_refl _) _) (World.ownsRow_nil _ _ _ _) hgrow3⟩
      clear hown3 hgrow3
      go_loopw [6, 7] (fun v i wr => ∃ k : Nat, k ≤ n ∧ i = .int .i64 ((n : Int) - 1 - k) ∧ wr.ownsRow w.heap.size 5 1 v (txt true l k).length (u8l (txt true l k)) ∧ Below w.heap.size w wr) (fun _ i _ => (1 + intOf i).toNat)
      case atStart => exact ⟨0, by omega, by go_num, HST.out.1, HST.out.2⟩
      case round =>
        clear HST
        obtain ⟨k, hk, rfl, hown, hB⟩ := hrel
        have HO := Lib.hid hown
        have HB := Lib.hid hB
        clear hown hB
        by_cases hlt : k < n
        · have hcx := keptBelow HB.out (HC.out (n - 1 - k) (by have := HN.out; omega))
          have hd := HD.out (l.getD (n - 1 - k) 0) (by
            rw [List.getD_eq_getElem?_getD, List.getElem?_eq_getElem (by have := HN.out; omega), Option.getD_some]; exact List.getElem_mem _)
          have hst := txt_succ true l (k := k) (by have := HN.out; omega)
          rw [← HN.out] at hst
          have hlen := txt_len true l (k := k) (by have := HN.out; omega)
          have hy := chr10_toNat hd
          have HK : Hid ((txt true l k).length ≤ 100000) := by show _ ≤ _; rw [hlen]; have := HS.out; omega
          have i0' : 0 ≤ (n : Int) - 1 - k := by omega
          have i1' : (n : Int) - 1 - k < n := by omega
          have i2' : ((n : Int) - 1 - k).toNat = n - 1 - k := by omega
          generalize txt true l k = y at *
          generalize l.getD (n - 1 - k) 0 = x at *
          generalize chr10 x = b at *
          have hy2 : (48 : Int) + (x : Int) = (b.toNat : Nat) := by omega
          have hyb : (b.toNat : Int) ≤ 57 := by omega
          have HSU := Lib.hid hst
          clear hst hlen hy
          go_wp2_with (at_builtin; refine wpList_append_own _ rfl _ _ 72 rfl w.heap.size 5 i0 (.int .u8 0) 1 1 Tryz.underlying72 HI0.out HZ0.out HZ1.out HZ2.out rfl (by decide) u6 y.length (u8l y) (by rfl) (HO.out.alloc _) ⟨wr.heap.size, 0, none⟩ 1 1 [.int .u8 (b.toNat : Nat)] (by rfl) rfl (news_val _ _ _) (one_int _ _) (app_b1 HK.out) (app_b2 HK.out (by decide)) (app_b3 HB.out) ?_; intro v2 w9 hown9 hgrow9 _)
          have HF := Lib.hid (app_u8 (b := b) HO.out HB.out hown9 hgrow9)
          rw [HSU.out] at HF
          clear hown9 hgrow9
          go_wp2_with fail
          go_roundw
          case rel => exact ⟨k + 1, by omega, by go_num, HF.out.1, HF.out.2⟩
          case measure => simp [intOf]; omega
        · have hkn : k = n := by omega
          subst hkn
          have hlen := txt_len true l (k := k) (by have := HN.out; omega)
          have hlen0 : 0 < (txt true l k).length := by omega
          obtain ⟨g3, c3, rfl, hcs⟩ := owns_u8 HO.out hlen0
          have hcv := convB wr g3 c3 _ hcs
          have hRR := HR.out
          rw [← HN.out] at hRR
          rw [hRR] at hcv
          have hll : (txt true l k).length ≤ 60000 := by rw [hlen]; have := HS.out; omega
          generalize (txt true l k).length = L at *
          have hneg : ((k : Int) - 1 - k) < 0 := by omega
          clear hcs hlt hRR hlen hlen0 HO
          go_wp2_with fail
          go_ret2
          exact ⟨rfl, HB.out⟩
    | false =>
      go_enter Tryz.func26, Tryz.ntmps26
      go_wp2_with fail
      have HST : Hid (w.ownsRow w.heap.size 5 1 (.slice none 0 0) (txt false l 0).length (u8l (txt false l 0)) ∧ Below w.heap.size w w) := by
        show _ ∧ _
        rw [HT0.out]
        exact ⟨World.ownsRow_nil _ _ _ _, Below.refl _ _⟩
      go_loopw [6, 7] (fun v i wr => ∃ k : Nat, k ≤ n ∧ i = .int .i64 ((n : Int) - 1 - k) ∧ wr.ownsRow w.heap.size 5 1 v (txt false l k).length (u8l (txt false l k)) ∧ Below w.heap.size w wr) (fun _ i _ => (1 + intOf i).toNat)
      case atStart => exact ⟨0, by omega, by go_num, HST.out.1, HST.out.2⟩
      case round =>
        clear HST
        obtain ⟨k, hk, rfl, hown, hB⟩ := hrel
        have HO := Lib.hid hown
        have HB := Lib.hid hB
        clear hown hB
        by_cases hlt : k < n
        · have hcx := keptBelow HB.out (HC.out (n - 1 - k) (by have := HN.out; omega))
          have hd := HD.out (l.getD (n - 1 - k) 0) (by
            rw [List.getD_eq_getElem?_getD, List.getElem?_eq_getElem (by have := HN.out; omega), Option.getD_some]; exact List.getElem_mem _)
          have hst := txt_succ false l (k := k) (by have := HN.out; omega)
          rw [← HN.out] at hst
          have hlen := txt_len false l (k := k) (by have := HN.out; omega)
          have hy := chr10_toNat hd
          have HK : Hid ((txt false l k).length ≤ 100000) := by show _ ≤ _; rw [hlen]; have := HS.out; omega
          have i0' : 0 ≤ (n : Int) - 1 - k := by omega
          have i1' : (n : Int) - 1 - k < n := by omega
          have i2' : ((n : Int) - 1 - k).toNat = n - 1 - k := by omega
          generalize txt false l k = y at *
          generalize l.getD (n - 1 - k) 0 = x at *
          generalize chr10 x = b at *
          have hy2 : (48 : Int) + (x : Int) = (b.toNat : Nat) := by omega
          have hyb : (b.toNat : Int) ≤ 57 := by omega
          have HSU := Lib.hid hst
          clear hst hlen hy
          go_wp2_with (at_builtin; refine wpList_append_own _ rfl _ _ 72 rfl w.heap.size 5 i0 (.int .u8 0) 1 1 Tryz.underlying72 HI0.out HZ0.out HZ1.out HZ2.out rfl (by decide) u6 y.length (u8l y) (by rfl) (HO.out.alloc _) ⟨wr.heap.size, 0, none⟩ 1 1 [.int .u8 (b.toNat : Nat)] (by rfl) rfl (news_val _ _ _) (one_int _ _) (app_b1 HK.out) (app_b2 HK.out (by decide)) (app_b3 HB.out) ?_; intro v2 w9 hown9 hgrow9 _)
          have HF := Lib.hid (app_u8 (b := b) HO.out HB.out hown9 hgrow9)
          rw [HSU.out] at HF
          clear hown9 hgrow9
          go_wp2_with fail
          go_roundw
          case rel => exact ⟨k + 1, by omega, by go_num, HF.out.1, HF.out.2⟩
          case measure => simp [intOf]; omega
        · have hkn : k = n := by omega
          subst hkn
          have hlen := txt_len false l (k := k) (by have := HN.out; omega)
          have hlen0 : 0 < (txt false l k).length := by omega
          obtain ⟨g3, c3, rfl, hcs⟩ := owns_u8 HO.out hlen0
          have hcv := convB wr g3 c3 _ hcs
          have hRR := HR.out
          rw [← HN.out] at hRR
          rw [hRR] at hcv
          have hll : (txt false l k).length ≤ 60000 := by rw [hlen]; have := HS.out; omega
          generalize (txt false l k).length = L at *
          have hneg : ((k : Int) - 1 - k) < 0 := by omega
          clear hcs hlt hRR hlen hlen0 HO
          go_wp2_with fail
          go_ret2
          exact ⟨rfl, HB.out⟩
end Go.Proofs.YtggkbeppfpgkaaaGreatDoor
