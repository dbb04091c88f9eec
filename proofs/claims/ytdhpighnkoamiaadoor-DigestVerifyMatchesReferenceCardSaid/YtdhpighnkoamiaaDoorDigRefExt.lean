/- The contract of the reference's extension. -/
import Derived.Test.YtdhpighnkoamiaaDoorDigRefRot
import Derived.Test.YtdhpighnkoamiaaDoorDigAppend
namespace Go.Proofs.YtdhpighnkoamiaaDoor
open Go.RowKit Putlog

def u8l (l : List UInt8) : List Value := l.map fun b => .int .u8 (b.toNat : Nat)
theorem u8l_snoc (l : List UInt8) (b : UInt8) : u8l (l ++ [b]) = u8l l ++ [.int .u8 (b.toNat : Nat)] := by simp [u8l]
theorem news_val (W : World) (v : Value) (t : TypeId) : ∀ j u, [v][j]? = some u → (W.alloc (.cells #[v] t)).cell? ((⟨W.heap.size, 0, none⟩ : Addr).add j) = some u
  | 0, u, h => by simp at h; subst h; exact (ArrAt.new W #[v] t).cell rfl
  | j + 1, u, h => by simp at h
theorem one_u8 (r : Int) : ∀ u ∈ [Value.int .u8 r], u.oneCell' = true := by intro u hu; simp at hu; subst hu; rfl
theorem one_u32 (r : Int) : ∀ u ∈ [Value.int .u32 r], u.oneCell' = true := by intro u hu; simp at hu; subst hu; rfl
theorem ext_b1 {n : Nat} (h : n ≤ 100000) : n + 1 ≤ maxLen := by unfold maxLen; omega
theorem ext_b2 {n : Nat} (h : n ≤ 100000) : (n + 1) * 1 ≤ 140737488355328 := by omega
theorem ext_b3 {w0 w1 : World} {t : TypeId} {cs : Array Value} (h1 : Below w0.heap.size w0 w1) : w0.heap.size ≤ (w1.alloc (.cells cs t)).heap.size := by
  have := h1.size; simp; omega
def slen : Value → Nat
  | .slice _ n _ => n
  | _ => 0
theorem ownsRow_form {w : World} {B n : Nat} {t : TypeId} {v : Value} {xs : List Value} (h : w.ownsRow B t 1 v n xs) : ∃ a c, v = .slice a n c := by
  obtain ⟨h0, hv | ⟨g, cap, cur, hv, _⟩⟩ := h
  · obtain ⟨h1, rfl⟩ := hv
    exact ⟨none, 0, h1⟩
  · exact ⟨_, _, hv⟩
theorem ownsRow_slen {w : World} {B n : Nat} {t : TypeId} {v : Value} {xs : List Value} (h : w.ownsRow B t 1 v n xs) : slen v = n := by
  obtain ⟨a, c, rfl⟩ := ownsRow_form h
  rfl
theorem be64_snoc (M q : Nat) (h : q < 8) : (be64 M).take q ++ [(be64 M).getD q 0] = (be64 M).take (q + 1) := by
  rw [List.take_succ_eq_append_getElem (by rw [be64_len]; exact h)]
  simp [List.getD_eq_getElem?_getD, be64_len, h]
theorem be64_at (M q : Nat) (h : q < 8) : ((be64 M).getD q 0).toNat = M / 2 ^ (8 * (7 - q)) % 256 := by
  have := be64_get (m := M) (k := 7 - q) (by omega)
  rwa [show 7 - (7 - q) = q by omega] at this
theorem pad_next (l : List UInt8) (j : Nat) : l ++ 128 :: List.replicate j 0 ++ [0] = l ++ 128 :: List.replicate (j + 1) 0 := by
  rw [List.append_assoc, List.cons_append, ← List.replicate_succ']
theorem pad_len (l : List UInt8) (j : Nat) : (l ++ 128 :: List.replicate j 0).length = l.length + 1 + j := by simp; omega
/-- What an append of one number leaves. -/
theorem app_next {w wr w3 : World} {l : List UInt8} {b : UInt8} {v v' : Value} {o : Obj} (hO : wr.ownsRow w.heap.size 5 1 v l.length (u8l l)) (hB : Below w.heap.size w wr)
    (hown : w3.ownsRow w.heap.size 5 1 v' (l.length + 1) (u8l l ++ [.int .u8 (b.toNat : Nat)])) (hg : (wr.alloc o).grownBy w3 v.ownBlock) :
    w3.ownsRow w.heap.size 5 1 v' (l ++ [b]).length (u8l (l ++ [b])) ∧ Below w.heap.size w w3 := by
  refine ⟨?_, belowGrown (hB.alloc hB.size o) (hO.alloc o) hg⟩
  rw [u8l_snoc, List.length_append]
  exact hown
theorem take_snoc {s : ByteArray} {k : Nat} (h : k < s.size) : s.data.toList.take k ++ [s[k]] = s.data.toList.take (k + 1) := by
  rw [List.take_succ_eq_append_getElem (by simpa using h)]; rfl

set_option maxRecDepth 100000 in
set_option maxHeartbeats 2000000 in
theorem rext_any (s : ByteArray) (w : World) (hs : (s.size : Int) ≤ 5000) :
    Calls Tryd.prog 41 #[.string s] w fun e w' => ∃ v, e = .returned v ∧ w'.ownsRow w.heap.size 5 1 v (extR s.data.toList).length (u8l (extR s.data.toList)) ∧ Below w.heap.size w w' := by
  obtain ⟨i0, hi0, hz0, hz1, hz2⟩ := info_parts rinfo_u8
  have HI0 := Lib.hid hi0
  have HZ0 := Lib.hid hz0
  have HZ1 := Lib.hid hz1
  have HZ2 := Lib.hid hz2
  clear hi0 hz0 hz1 hz2
  go_enter Tryd.func41, Tryd.ntmps41
  go_wp2_with fail
  go_loopw [3, 4] (fun v i wr => ∃ k : Nat, k ≤ s.size ∧ i = .int .i64 k ∧ wr.ownsRow w.heap.size 5 1 v (s.data.toList.take k).length (u8l (s.data.toList.take k)) ∧ Below w.heap.size w wr) (fun _ i _ => s.size - (intOf i).toNat)
  case atStart => exact ⟨0, by omega, rfl, World.ownsRow_nil _ _ _ _, Below.refl _ _⟩
  case round =>
    obtain ⟨k, hk, rfl, hown, hB⟩ := hrel
    have HO := Lib.hid hown
    have HB := Lib.hid hB
    clear hown hB
    by_cases hlt : k < s.size
    · have hlt' : (k : Int) < s.size := by omega
      have HK : Hid ((s.data.toList.take k).length ≤ 100000) := by show _ ≤ _; rw [List.length_take]; omega
      have HT := Lib.hid (take_snoc hlt)
      generalize s.data.toList.take k = l at *
      go_wp2_with (at_builtin; refine wpList_append_own _ rfl _ _ 43 rfl w.heap.size 5 i0 (.int .u8 0) 1 1 Tryd.underlying43 HI0.out HZ0.out HZ1.out HZ2.out rfl (by decide) u3 l.length (u8l l) (by rfl) (HO.out.alloc _) ⟨wr.heap.size, 0, none⟩ 1 1 [.int .u8 (s[k].toNat : Nat)] (by rfl) rfl (news_val _ _ _) (one_u8 _) (ext_b1 HK.out) (ext_b2 HK.out) (ext_b3 HB.out) ?_; intro v' w3 hown3 hgrow3 _)
      have HN := Lib.hid (app_next (b := s[k]) HO.out HB.out hown3 hgrow3)
      rw [HT.out] at HN
      clear hown3 hgrow3
      go_wp2_with fail
      go_roundw
      case rel => exact ⟨k + 1, by omega, by go_num, HN.out.1, HN.out.2⟩
      case measure => simp [intOf]; omega
    · have he : s.data.toList.take k = s.data.toList := List.take_of_length_le (by simp; omega)
      rw [he] at HO
      have hlt2 : (s.size : Int) ≤ k := by omega
      clear he hlt
      have HK : Hid (s.data.toList.length ≤ 100000) := by show _ ≤ _; simp; omega
      generalize hl : s.data.toList = l at *
      have HL := Lib.hid hl
      clear hl
      go_wp2_with (at_builtin; refine wpList_append_own _ rfl _ _ 43 rfl w.heap.size 5 i0 (.int .u8 0) 1 1 Tryd.underlying43 HI0.out HZ0.out HZ1.out HZ2.out rfl (by decide) u3 l.length (u8l l) (by rfl) (HO.out.alloc _) ⟨wr.heap.size, 0, none⟩ 1 1 [.int .u8 128] (by rfl) rfl (news_val _ _ _) (one_u8 _) (ext_b1 HK.out) (ext_b2 HK.out) (ext_b3 HB.out) ?_; intro v' w3 hown3 hgrow3 _)
      have HN := Lib.hid (app_next (b := 128) HO.out HB.out hown3 hgrow3)
      clear hown3 hgrow3 HO HB HK
      obtain ⟨W, rfl⟩ : ∃ W, W = w3 := ⟨_, rfl⟩
      have hl5 : l.length ≤ 5000 := by rw [← HL.out]; simp; omega
      have HL5 := Lib.hid hl5
      clear hl5
      go_loopw [3] (fun v wr => ∃ j : Nat, j ≤ padZ l.length ∧ wr.ownsRow w.heap.size 5 1 v (l ++ 128 :: List.replicate j 0).length (u8l (l ++ 128 :: List.replicate j 0)) ∧ Below w.heap.size w wr) (fun v _ => l.length + 1 + padZ l.length - slen v)
      case atStart => exact ⟨0, by omega, HN.out.1, HN.out.2⟩
      case round =>
        clear HN
        obtain ⟨j, hj, hown, hB⟩ := hrel
        have hpl := padZ_le l.length
        have hend := padZ_end hj
        have hlen := pad_len l j
        have HPN := Lib.hid (pad_next l j)
        have hsl := ownsRow_slen hown
        obtain ⟨av, cv, rfl⟩ := ownsRow_form hown
        have HO := Lib.hid hown
        have HB := Lib.hid hB
        have hK : (l ++ 128 :: List.replicate j 0).length ≤ 100000 := by have := HL5.out; omega
        have HK := Lib.hid hK
        have HLN := Lib.hid hlen
        clear hown hB hK
        generalize hm : l ++ 128 :: List.replicate j 0 = m at *
        have HM := Lib.hid hm
        clear hm
        have hm5 : (m.length : Int) ≤ 6000 := by have := HL5.out; omega
        by_cases hlt : j = padZ l.length
        · have h56l : (m.length : Int) % 64 = 56 := by omega
          have h56 : ((m.length : Int) % 64 != 56) = false := by simp [bne]; omega
          have HE : Hid (m ++ (be64 (8 * s.size)).take 8 = extR l) := by
            show _ = _
            rw [List.take_of_length_le (by rw [be64_len]; omega), ← HM.out, hlt, extR, ← HL.out]
            simp
          clear hlt hend hlen hj h56l
          go_wp2_with fail
          obtain ⟨W2, rfl⟩ : ∃ W2, W2 = wr := ⟨_, rfl⟩
          have hB0 := Lib.hid (And.intro HO.out HB.out)
          go_loopw [3, 5] (fun v i wr => ∃ q : Nat, q ≤ 8 ∧ i = .int .i64 (7 - (q : Int)) ∧ wr.ownsRow w.heap.size 5 1 v (m ++ (be64 (8 * s.size)).take q).length (u8l (m ++ (be64 (8 * s.size)).take q)) ∧ Below w.heap.size w wr) (fun _ i _ => (1 + intOf i).toNat)
          case atStart => exact ⟨0, by omega, rfl, by simpa using hB0.out.1, hB0.out.2⟩
          case round =>
            clear HO HB hB0 HK
            obtain ⟨q, hq, rfl, hown, hB⟩ := hrel
            have HO := Lib.hid hown
            have HB := Lib.hid hB
            clear hown hB
            by_cases hlt : q < 8
            · have HK : Hid ((m ++ (be64 (8 * s.size)).take q).length ≤ 100000) := by show _ ≤ _; rw [List.length_append]; have := List.length_take_le q (be64 (8 * s.size)); omega
              have hsn := be64_snoc (8 * s.size) q hlt
              have hat := be64_at (8 * s.size) q hlt
              have HA : Hid ((m ++ (be64 (8 * s.size)).take q) ++ [(be64 (8 * s.size)).getD q 0] = m ++ (be64 (8 * s.size)).take (q + 1)) := by show _ = _; rw [List.append_assoc, hsn]
              generalize m ++ (be64 (8 * s.size)).take q = y at *
              generalize (be64 (8 * s.size)).getD q 0 = bb at *
              have hi0 : 0 ≤ 7 - (q : Int) := by omega
              have hi8 : 7 - (q : Int) ≤ 7 := by omega
              have hby : (8 * (s.size : Int) / 2 ^ (8 * (7 - q)) % 256) = (bb.toNat : Nat) := by rw [hat]; simp
              clear hsn hat
              go_wp2_with (at_builtin; refine wpList_append_own _ rfl _ _ 43 rfl w.heap.size 5 i0 (.int .u8 0) 1 1 Tryd.underlying43 HI0.out HZ0.out HZ1.out HZ2.out rfl (by decide) u3 y.length (u8l y) (by rfl) (HO.out.alloc _) ⟨wr.heap.size, 0, none⟩ 1 1 [.int .u8 (bb.toNat : Nat)] (by rfl) rfl (news_val _ _ _) (one_u8 _) (ext_b1 HK.out) (ext_b2 HK.out) (ext_b3 HB.out) ?_; intro v' w3 hown3 hgrow3 _)
              have HN := Lib.hid (app_next (b := bb) HO.out HB.out hown3 hgrow3)
              rw [HA.out] at HN
              clear hown3 hgrow3
              go_wp2_with fail
              go_roundw
              case rel => exact ⟨q + 1, by omega, by go_num, HN.out.1, HN.out.2⟩
              case measure => simp [intOf]; omega
            · obtain rfl : q = 8 := by omega
              rw [HE.out, ← HL.out] at HO
              clear hlt hq
              go_wp2_with fail
              go_ret
              exact ⟨_, rfl, HO.out, HB.out⟩
        · have h56 : ((m.length : Int) % 64 != 56) = true := by simp [bne]; omega
          have HJ : Hid (j < padZ l.length) := by show j < _; omega
          clear hlen hend
          go_wp2_with (at_builtin; refine wpList_append_own _ rfl _ _ 43 rfl w.heap.size 5 i0 (.int .u8 0) 1 1 Tryd.underlying43 HI0.out HZ0.out HZ1.out HZ2.out rfl (by decide) (.slice av m.length cv) m.length (u8l m) (by rfl) (HO.out.alloc _) ⟨wr.heap.size, 0, none⟩ 1 1 [.int .u8 0] (by rfl) rfl (news_val _ _ _) (one_u8 _) (ext_b1 HK.out) (ext_b2 HK.out) (ext_b3 HB.out) ?_; intro v' w3 hown3 hgrow3 _)
          have HN := Lib.hid (app_next (b := 0) HO.out HB.out hown3 hgrow3)
          rw [HPN.out] at HN
          have HSL := Lib.hid (ownsRow_slen HN.out.1)
          clear hown3 hgrow3
          go_wp2_with fail
          go_roundw
          case rel => exact ⟨j + 1, HJ.out, HN.out.1, HN.out.2⟩
          case measure => have h1 := HSL.out; have h2 := HLN.out; have h3 := HJ.out; rw [pad_len] at h1; simp [slen] at h1 ⊢; omega
end Go.Proofs.YtdhpighnkoamiaaDoor
