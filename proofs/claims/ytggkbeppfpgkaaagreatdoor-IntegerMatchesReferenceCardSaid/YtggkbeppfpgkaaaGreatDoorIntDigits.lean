/- The contract of digits: the text of a magnitude. -/
import Derived.Test.YtggkbeppfpgkaaaGreatDoorIntQuo
import Derived.Test.YtggkbeppfpgkaaaGreatDoorIntText
namespace Go.Proofs.YtggkbeppfpgkaaaGreatDoor
open Go.RowKit Putlog

/-- Bytes under way. -/
def u8v (l : List Nat) : List Value := l.map fun x : Nat => .int .u8 (x : Int)
theorem u8v_get {l : List Nat} {j : Nat} (h : j < l.length) : (u8v l)[j]? = some (.int .u8 (l.getD j 0 : Nat)) := by simp [u8v, List.getD_eq_getElem?_getD, h]
/-- A row of bytes that may be written. -/
def ByteRow (w : World) (g : Nat) (C : List Nat) : Prop := ∀ j, j < C.length → w.cell? ⟨g, j, none⟩ = some (.int .u8 (C.getD j 0 : Nat)) ∧ w.frozen? ⟨g, j, none⟩ = false
theorem getD_setN (C : List Nat) (i j : Nat) (x : Nat) (hi : i < C.length) : (C.set i x).getD j 0 = if j = i then x else C.getD j 0 := by
  simp only [List.getD_eq_getElem?_getD, List.getElem?_set]
  by_cases h : i = j
  · subst h; simp [hi]
  · rw [if_neg h, if_neg (fun e => h e.symm)]
theorem ByteRow.set {w : World} {g : Nat} {C : List Nat} (h : ByteRow w g C) (i : Nat) (hi : i < C.length) (x : Nat) : ByteRow (w.setCell ⟨g, i, none⟩ (.int .u8 (x : Nat))) g (C.set i x) := fun j hj => by
  rw [List.length_set] at hj
  refine ⟨?_, by rw [World.frozen?_setCell]; exact (h j hj).2⟩
  rw [getD_setN C i j x hi]
  by_cases e : j = i
  · subst e
    rw [if_pos rfl]
    exact World.cell?_setCell_same' _ _ _ (by rw [(h j hj).1]; rfl)
  · rw [if_neg e, World.cell?_setCell_other _ _ _ _ (fun h => e (by have := congrArg Addr.off h; simp at this; omega))]
    exact (h j hj).1
theorem bytes_made {w w1 : World} {n : Nat} (hown : w1.ownsRow w.heap.size 5 1 (.slice (some ⟨w.heap.size, 0, none⟩) n n) n (madeCells (Value.int .u8 0).cells (n * 1)).toList) : ByteRow w1 w.heap.size (List.replicate n 0) := by
  rw [show (Value.int .u8 0).cells = #[.int .u8 0] from rfl, toList_madeCells_one, Nat.mul_one] at hown
  obtain ⟨_, ⟨h1, _⟩ | ⟨g, cap, cur, hv, hg, hh, h1, h2, h3, h4⟩⟩ := hown
  · cases h1
  · cases hv
    intro j hj
    rw [List.length_replicate] at hj
    refine ⟨?_, by simp [World.frozen?, hh]⟩
    rw [cell_of_row w1 w.heap.size j cur _ (0, 0) hh]
    rw [Nat.mul_one] at h4
    have h5 : (cur.toList.take n)[j]? = (List.replicate n (Value.int .u8 0))[j]? := by rw [h4]
    rw [List.getElem?_take_of_lt hj, Array.getElem?_toList] at h5
    rw [h5]
    simp [hj, List.getD_eq_getElem?_getD]
/-- The bytes after some digits are written from the end. -/
def DigRow (C : List Nat) (N : Nat) (ds : List Nat) : Prop := C.length = N ∧ ds.length ≤ N ∧ C.drop (N - ds.length) = ds.reverse.map (48 + ·)
theorem DigRow.start (N : Nat) : DigRow (List.replicate N 0) N [] := ⟨List.length_replicate, by simp, by simp⟩
theorem DigRow.step {C : List Nat} {N : Nat} {ds : List Nat} (h : DigRow C N ds) (hl : ds.length < N) (x : Nat) : DigRow (C.set (N - (ds.length + 1)) (48 + x)) N (ds ++ [x]) := by
  obtain ⟨h1, h2, h3⟩ := h
  have hi : N - (ds.length + 1) < C.length := by omega
  have hi2 : N - (ds.length + 1) < (C.set (N - (ds.length + 1)) (48 + x)).length := by rw [List.length_set]; exact hi
  refine ⟨by rw [List.length_set]; exact h1, by simp; omega, ?_⟩
  rw [List.length_append, List.length_singleton, List.drop_eq_getElem_cons hi2, List.getElem_set_self, List.drop_set_of_lt (by omega), show N - (ds.length + 1) + 1 = N - ds.length by omega, h3]
  simp
def digs4 (g r : Nat) : List Nat := (List.range r).map fun i => g / 10 ^ i % 10
theorem digs4_succ (g r : Nat) : digs4 g (r + 1) = digs4 g r ++ [g / 10 ^ r % 10] := by simp [digs4, List.range_succ]
theorem digs4_len (g r : Nat) : (digs4 g r).length = r := by simp [digs4]
theorem digs4_four (g : Nat) : digs4 g 4 = dig4 g := by
  have h : List.range 4 = [0, 1, 2, 3] := by decide
  simp [digs4, h, dig4, Nat.div_div_eq_div_mul]
theorem DigRow.bytes {C : List Nat} {N : Nat} {ds : List Nat} (h : DigRow C N ds) (hd : DigB 10 ds) (hl : ds.length = N) {j : Nat} (hj : j < N) : C.getD j 0 = ((ds.reverse.map chr10).getD j 0).toNat := by
  obtain ⟨_, _, h3⟩ := h
  rw [hl, Nat.sub_self, List.drop_zero] at h3
  rw [h3]
  have hj2 : j < ds.reverse.length := by simp; omega
  simp only [List.getD_eq_getElem?_getD, List.getElem?_map, List.getElem?_eq_getElem hj2, Option.map_some, Option.getD_some]
  rw [chr10_toNat (hd _ (List.mem_reverse.1 (List.getElem_mem hj2)))]
set_option maxRecDepth 100000 in
set_option maxHeartbeats 4000000 in
theorem digits_any (A : List Nat) (hA : DigB 10000 A) (nA : Norm A) (hl : A.length ≤ 1000) (v : Value) (w : World) (hv : MagAt w v A) :
    Calls Tryz.prog 60 #[v] w fun e w' => e = .returned (.string ⟨(natT (leV 10000 A)).toArray⟩) ∧ Below w.heap.size w w' := by
  obtain ⟨a, ca, rfl, hra, hca⟩ := hv
  rcases Nat.eq_zero_or_pos A.length with h0 | h0
  · obtain rfl := List.length_eq_zero_iff.1 h0
    clear h0
    go_enter Tryz.func60, Tryz.ntmps60
    go_wp2_with fail
    go_ret
    exact ⟨rfl, Below.refl _ _⟩
  · obtain ⟨i0, hi0, hz0, hz1, hz2⟩ := info_parts info_byte
    have HI0 := Lib.hid hi0
    have HZ0 := Lib.hid hz0
    have HZ1 := Lib.hid hz1
    have HZ2 := Lib.hid hz2
    have HDA := Lib.hid hA
    have HNA := Lib.hid nA
    have HCA := Lib.hid hca
    have hra1 := hra.1
    obtain ⟨n, hn⟩ : ∃ n, n = A.length := ⟨_, rfl⟩
    rw [← hn] at hra1 hl h0 ⊢
    have HN := Lib.hid hn
    have hnb : (n : Int) ≤ 1000 := by omega
    have hn0 : (0 : Int) < n := by omega
    have hne : ((n : Int) == 0) = false := by simp; omega
    have hne2 : (n : Int) ≠ 0 := by omega
    obtain ⟨N, hNN⟩ : ∃ N, N = 4 * n := ⟨_, rfl⟩
    have hmul : 4 * (n : Int) = (N : Nat) := by omega
    have hNb : (N : Int) ≤ 4000 := by omega
    have HNN := Lib.hid hNN
    clear hi0 hz0 hz1 hz2 hA nA hca hra hn hNN
    go_enter Tryz.func60, Tryz.ntmps60
    go_wp2_with (at_make; go_must (refine wpList_make_full _ rfl _ _ 72 rfl w.heap.size 5 i0 (.int .u8 0) 1 Tryz.underlying72 HI0.out HZ0.out HZ1.out .i64 .i64 (N : Int) (N : Int) N rfl rfl rfl rfl (by rw [HZ2.out]; omega) (by unfold maxLen; omega) (Nat.le_refl _) ?_); intro w2 hown2 hgrow2; have HR2 := Lib.hid (bytes_made hown2); have HB2 := Lib.hid (belowMade hgrow2); clear hown2 hgrow2)
    go_loopw [4, 18] (fun p i wr => ∃ (k : Nat) (C : List Nat), k ≤ n ∧ i = .int .i64 k ∧ p = .int .i64 ((N : Int) - 4 * k) ∧ DigRow C N (dig10 (A.take k)) ∧ ByteRow wr w.heap.size C ∧ Below w.heap.size w wr) (fun _ i _ => n - (intOf i).toNat)
    case atStart => exact ⟨0, _, by omega, rfl, by simp, DigRow.start N, HR2.out, HB2.out⟩
    case round =>
      clear HR2 HB2
      obtain ⟨k, C, hk, rfl, rfl, hdr, hrow, hB⟩ := hrel
      have HDR := Lib.hid hdr
      have HRW := Lib.hid hrow
      have HB := Lib.hid hB
      clear hdr hrow hB
      by_cases hlt : k < n
      · have hlt' : (k : Int) < n := by omega
        have hkA : k < A.length := by have := HN.out; omega
        obtain ⟨ga, oa, rfl, hcell⟩ := cells_get HCA.out hkA
        have hcx := keptBelow HB.out (hcell k hkA)
        have hgb := digB_get HDA.out hkA
        have hlen0 : (dig10 (A.take k)).length = 4 * k := by rw [dig10_len]; simp; omega
        have hnx : dig10 (A.take (k + 1)) = dig10 (A.take k) ++ digs4 (A.getD k 0) 4 := by
          rw [digs4_four, ← dig10_snoc]
          congr 1
          rw [List.take_succ_eq_append_getElem hkA]; simp [List.getD_eq_getElem?_getD, hkA]
        have HNX := Lib.hid hnx
        have HL0 := Lib.hid hlen0
        generalize A.getD k 0 = g at *
        have hgb' : (g : Int) < 10000 := by omega
        obtain ⟨at0, hat0⟩ : ∃ at0 : Int, (N : Int) - 4 * k = at0 := ⟨_, rfl⟩
        have HAT0 := Lib.hid hat0
        rw [hat0]
        clear hcell hnx hlen0 hat0 hk
        go_wp2_with fail
        go_loopw [4, 6, 22] (fun p gv i wr => ∃ (r : Nat) (C : List Nat), r ≤ 4 ∧ i = .int .i64 r ∧ p = .int .i64 ((N : Int) - (4 * k + r : Nat)) ∧ gv = .int .i64 (g / 10 ^ r : Nat) ∧ DigRow C N (dig10 (A.take k) ++ digs4 g r) ∧ ByteRow wr w.heap.size C ∧ Below w.heap.size w wr) (fun _ _ i _ => 4 - (intOf i).toNat)
        case atStart => exact ⟨0, C, by omega, rfl, by rw [← HAT0.out]; simp, by simp, by simpa [digs4] using HDR.out, HRW.out, HB.out⟩
        case round =>
          clear HDR HRW HB
          obtain ⟨r, C2, hr, rfl, rfl, rfl, hdr, hrow, hB⟩ := hrel
          have HDR := Lib.hid hdr
          have HRW := Lib.hid hrow
          have HB := Lib.hid hB
          clear hdr hrow hB
          by_cases hr4 : r < 4
          · have hr' : (r : Int) < 4 := by omega
            have hkN : 4 * k + r < N := by have := HNN.out; omega
            obtain ⟨v, hv⟩ : ∃ v, v = g / 10 ^ r := ⟨_, rfl⟩
            have hvb : v ≤ g := by rw [hv]; exact Nat.div_le_self _ _
            have hvb' : (v : Int) < 10000 := by omega
            obtain ⟨x, hx⟩ : ∃ x, x = v % 10 := ⟨_, rfl⟩
            have hxm : (v : Int).tmod 10 = (x : Nat) := by rw [Int.tmod_eq_emod_of_nonneg (by omega)]; omega
            have hxb : (x : Int) ≤ 9 := by omega
            obtain ⟨y, hy⟩ : ∃ y, y = v / 10 := ⟨_, rfl⟩
            have hyd : (v : Int).tdiv 10 = (y : Nat) := by rw [Int.tdiv_eq_ediv_of_nonneg (by omega)]; omega
            have hyb : (y : Int) < 10000 := by omega
            have hy2 : y = g / 10 ^ (r + 1) := by rw [hy, hv, Nat.div_div_eq_div_mul, Nat.pow_succ]
            obtain ⟨c, hc⟩ : ∃ c, c = 48 + x := ⟨_, rfl⟩
            have hcw : IntKind.u8.wrap (48 + (x : Int)) = (c : Nat) := by rw [IntKind.wrap_u8]; omega
            obtain ⟨z, hz⟩ : ∃ z : Int, (N : Int) - ((4 * k + r : Nat) : Int) = z := ⟨_, rfl⟩
            obtain ⟨p, hp⟩ : ∃ p, p = N - (4 * k + r + 1) := ⟨_, rfl⟩
            have hzp : z - 1 = (p : Nat) := by omega
            have hzb1 : -10 ≤ z := by omega
            have hzb2 : z ≤ 4000 := by omega
            have hpN : (p : Int) < N := by omega
            have HPZ : Hid ((p : Int) = (N : Int) - ((4 * k + (r + 1) : Nat) : Int)) := by show _ = _; omega
            have hdl : (dig10 (A.take k) ++ digs4 g r).length = 4 * k + r := by rw [List.length_append, HL0.out, digs4_len]
            have hst := HDR.out.step (by rw [hdl]; exact hkN) x
            rw [hdl, List.append_assoc, ← hp, ← hc] at hst
            have hds : digs4 g (r + 1) = digs4 g r ++ [x] := by rw [digs4_succ, hx, hv]
            rw [← hds] at hst
            have hpC : p < C2.length := by have := HDR.out.1; omega
            obtain ⟨hcx2, hfx2⟩ := HRW.out p hpC
            have HR3 := Lib.hid (HRW.out.set p hpC c)
            have HB3 := Lib.hid (below_set HB.out (Nat.le_refl _) (i := p) (.int .u8 (c : Nat)))
            have HST := Lib.hid hst
            have HY := Lib.hid hy2
            rw [← hv, hz]
            clear hr hkN hvb hx hy hy2 hc hz hp hdl hst hds hpC HDR HRW HB hv
            generalize C2.getD p 0 = oldb at *
            go_wp2_with fail
            exact ⟨⟨r + 1, _, by omega, by go_num, by rw [HPZ.out], by rw [← HY.out], HST.out, HR3.out, HB3.out⟩, by simp [intOf]; omega⟩
          · obtain rfl : r = 4 := by omega
            have hds := HDR.out
            rw [← HNX.out] at hds
            have HDR2 := Lib.hid hds
            obtain ⟨z, hz⟩ : ∃ z : Int, (N : Int) - ((4 * k + 4 : Nat) : Int) = z := ⟨_, rfl⟩
            have HZ : Hid (z = (N : Int) - 4 * ((k + 1 : Nat) : Int)) := by show _ = _; omega
            rw [hz]
            generalize g / 10 ^ 4 = g4 at *
            clear hds HDR hz hr hr4
            go_wp2_with fail
            exact ⟨⟨k + 1, _, by omega, by go_num, by rw [HZ.out], HDR2.out, HRW.out, HB.out⟩, by simp [intOf]; omega⟩
      · obtain rfl : k = n := by omega
        have ht : A.take k = A := by rw [HN.out, List.take_length]
        have hdr := HDR.out
        rw [ht] at hdr
        have hdl : (dig10 A).length = N := by rw [dig10_len, HNN.out, HN.out]
        obtain ⟨bs, hbs⟩ : ∃ bs, bs = (dig10 A).reverse.map chr10 := ⟨_, rfl⟩
        have hbl : bs.length = N := by rw [hbs]; simp [hdl]
        have hcv := convB wr w.heap.size N bs (fun j hj => by
          rw [(HRW.out j (by rw [hdr.1]; omega)).1, hdr.bytes (dig10_dig A) hdl (by omega), hbs])
        rw [hbl] at hcv
        have HTL : Hid ((⟨(Lib.trimLeftB bs 48).toArray⟩ : ByteArray) = ⟨(natT (leV 10000 A)).toArray⟩) := by
          show _ = _
          rw [Lib.trimLeftB, hbs, text_groups HDA.out HNA.out (fun e => by have := HN.out; rw [e] at this; simp at this; omega)]
        have HTR := Lib.hid (Tryz.strings_TrimLeft_one ⟨bs.toArray⟩ 48 (by decide))
        simp only at HTR
        rw [HTL.out] at HTR
        clear ht hdr hdl hbs hbl HDR hk hlt
        go_wp2_with fail
        refine (HTR.out wr).mono ?_
        rintro e w3 ⟨rfl, rfl⟩
        go_wp2_with fail
        go_ret
        exact ⟨rfl, HB.out⟩
end Go.Proofs.YtggkbeppfpgkaaaGreatDoor
