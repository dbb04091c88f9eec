/- The contracts of heads and of the reference's Same. -/
import Derived.BigQuiet
import Derived.Deep.QuietTactic
import Derived.Test.YtdhpighnkoamiaaDoorDigColl
namespace Go.Proofs.YtdhpighnkoamiaaDoor
open Go.RowKit Putlog

/-- Whether two lists of strings are the same. -/
def SameS (xs ys : List ByteArray) : Prop := xs.length = ys.length ∧ ∀ j, j < xs.length → getB xs j = getB ys j

set_option maxRecDepth 100000 in
set_option maxHeartbeats 2000000 in
theorem same_any (xs ys : List ByteArray) (a1 a2 : Option Addr) (c1 c2 : Nat) (w : World)
    (hx1 : (xs.length : Int) ≤ 1000000) (h1 : SliceAt w a1 (getB xs) xs.length) (h2 : SliceAt w a2 (getB ys) ys.length) :
    Calls Tryd.prog 26 #[.slice a1 xs.length c1, .slice a2 ys.length c2] w fun e w' => ∃ r, e = .returned (.bool r) ∧ (r = true ↔ SameS xs ys) ∧ Below w.heap.size w w' := by
  have H1 := Lib.hid h1
  have H2 := Lib.hid h2
  clear h1 h2
  by_cases hl : xs.length = ys.length
  · go_enter Tryd.func26, Tryd.ntmps26
    go_wp2_with fail
    go_loopw [5] (fun i wr => ∃ k : Nat, k ≤ xs.length ∧ i = .int .i64 k ∧ (∀ j, j < k → getB xs j = getB ys j) ∧ ∃ q, wr = w.drewN q) (fun i _ => xs.length - (intOf i).toNat)
    case atStart => exact ⟨0, by omega, rfl, fun j hj => absurd hj (by omega), 0, rfl⟩
    case round =>
      obtain ⟨k, hk, rfl, hno, q, rfl⟩ := hrel
      have HNO := Lib.hid hno
      clear hno
      by_cases hlt : k < xs.length
      · have l1' : (k : Int) < xs.length := by omega
        have l2' : (k : Int) < ys.length := by omega
        obtain ⟨b1, o1, rfl, hc1⟩ := H1.out (by omega)
        obtain ⟨b2, o2, rfl, hc2⟩ := H2.out (by omega)
        have hcx : (w.drewN q).cell? ⟨b1, o1 + k, none⟩ = _ := hc1 k hlt
        have hcy : (w.drewN q).cell? ⟨b2, o2 + k, none⟩ = _ := hc2 k (by omega)
        have HS : Hid (getB xs k = getB ys k → (∀ j, j < k + 1 → getB xs j = getB ys j)) := fun h1 j hj => by
          rcases Nat.lt_or_ge j k with h3 | h3
          · exact HNO.out j h3
          · obtain rfl : j = k := by omega
            exact h1
        have HF : Hid (getB xs k ≠ getB ys k → ¬ SameS xs ys) := fun h1 h2 => h1 (h2.2 k hlt)
        have HL := Lib.hid hl
        generalize getB xs k = x at *
        generalize getB ys k = y at *
        clear hc1 hc2 hl hlt
        generalize hw2 : w.drewN q = w2 at *
        have HW := Lib.hid hw2
        clear hw2
        cases he : (x.toList == y.toList) with
        | true =>
          have HN := Lib.hid (HS.out (toList_eq he))
          go_wp2_with fail
          go_quiet (fail)
          go_wp2_with fail
          go_roundw
          case rel => exact ⟨k + 1, by omega, by go_num, HN.out, q + nq, by rw [← HW.out, World.drewN_drewN]⟩
          case measure => simp [intOf]; omega
        | false =>
          have HN := Lib.hid (HF.out (toList_ne he))
          go_wp2_with fail
          go_quiet (fail)
          go_wp2_with fail
          go_ret
          exact ⟨false, rfl, by simp [HN.out], by rw [← HW.out]; exact below_drewN (below_drewN (Below.refl _ _) _) _⟩
      · have l1' : (xs.length : Int) ≤ k := by omega
        have HN : Hid (SameS xs ys) := ⟨hl, fun j hj => HNO.out j (by omega)⟩
        clear hlt
        go_wp2_with fail
        go_ret
        exact ⟨true, rfl, by simp [HN.out], below_drewN (Below.refl _ _) _⟩
  · have hl2 : ¬ (xs.length : Int) = ys.length := by omega
    have hlb : ((xs.length : Int) == ys.length) = false := by simp; omega
    clear hl
    go_enter Tryd.func26, Tryd.ntmps26
    go_wp2_with fail
    go_ret
    exact ⟨false, rfl, by simp [SameS]; omega, Below.refl _ _⟩

def zeros32 : Array Value := u8s (List.replicate 32 0)
theorem info_byte : (Tryd.prog.info? 5).map (fun i => (i.zero, i.size, i.bytes)) = some (some (.int .u8 0), 1, 1) := by kernel_rfl
theorem make32 (w : World) : (Instr.makeSlice 43 (.int .i64 32) (.int .i64 32)).run Tryd.prog w = .ok (.slice (some ⟨w.heap.size, 0, none⟩) 32 32) (w.alloc (.cells zeros32 5)) := by
  obtain ⟨i0, hi0, hz0, hz1, hz2⟩ := info_parts info_byte
  rw [run_makeSlice w 43 5 i0 (.int .u8 0) Tryd.underlying43 hi0 hz0 .i64 .i64 32 32 (by omega) (by omega) (by rw [hz1]; decide) (by rw [hz2]; decide) (by omega), hz1]
  rw [show madeCells (Value.int IntKind.u8 0).cells (Int.toNat 32 * 1) = zeros32 by kernel_rfl]
  rfl
theorem conv32 (w : World) : (convert 43 9 (.slice (some ⟨w.heap.size, 0, none⟩) 32 32)).run Tryd.prog (w.alloc (.cells zeros32 5)) = .ok (.string zero32) (w.alloc (.cells zeros32 5)) := by
  have hA : ArrAt (w.alloc (.cells zeros32 5)) w.heap.size (u8s (List.replicate 32 0)) 5 := ArrAt.new w _ _
  have := run_convert_bytes_arg (P := Tryd.prog) (w.alloc (.cells zeros32 5)) 43 5 Tryd.underlying43 Tryd.underlying5 w.heap.size 0 32 32 (List.replicate 32 0) (by simp) (fun i hi => by
    rw [Nat.zero_add, hA.cell (u8s_getD (by simpa using hi))]
    have : ∀ j, j < 32 → (((List.replicate 32 (0 : UInt8)).getD j 0).toNat : Int) = (List.replicate 32 (0 : Int)).getD j 0 := by decide
    rw [this i hi]) 9 Tryd.underlying9
  rw [show strOfNums (List.replicate 32 0) = zero32 by decide +kernel] at this
  exact this

theorem conv32_any (w : World) (b : Nat) (hA : ArrAt w b zeros32 5) : (convert 43 9 (.slice (some ⟨b, 0, none⟩) 32 32)).run Tryd.prog w = .ok (.string zero32) w := by
  have hA' : ArrAt w b (u8s (List.replicate 32 0)) 5 := hA
  have := run_convert_bytes_arg (P := Tryd.prog) w 43 5 Tryd.underlying43 Tryd.underlying5 b 0 32 32 (List.replicate 32 0) (by simp) (fun i hi => by
    rw [Nat.zero_add, hA'.cell (u8s_getD (by simpa using hi))]
    have : ∀ j, j < 32 → (((List.replicate 32 (0 : UInt8)).getD j 0).toNat : Int) = (List.replicate 32 (0 : Int)).getD j 0 := by decide
    rw [this i hi]) 9 Tryd.underlying9
  rw [show strOfNums (List.replicate 32 0) = zero32 by decide +kernel] at this
  exact this
theorem cellA {W : World} {a : Addr} {v : Value} (o : Obj) (h : W.cell? a = some v) : (W.alloc o).cell? a = some v := cell_kept (W := W) h (World.grownBy_alloc W o none) (fun r e => by cases e)

theorem cons_slice {w1 w5 : World} {y : ByteArray} {ys : List ByteArray} {v1 : Value} (hown : w5.ownsRow w1.heap.size 9 1 v1 (1 + ys.length) ([.string y] ++ ys.map Value.string)) :
    ∃ a5 c5, v1 = .slice a5 (y :: ys).length c5 ∧ (y :: ys).length ≤ c5 ∧ (c5 : Int) ≤ 9223372036854775807 ∧ SliceAt w5 a5 (getB (y :: ys)) (y :: ys).length := by
  have h1 : w5.ownsRow w1.heap.size 9 1 v1 (y :: ys).length ((y :: ys).map Value.string) := by
    rw [List.length_cons, Nat.add_comm]; exact hown
  obtain ⟨a5, c5, rfl, h3, h4, h5, _⟩ := ownsRow_slice h1
  exact ⟨a5, c5, rfl, h3, h4, h5⟩
theorem lit1_grown {w1 w5 : World} {y : ByteArray} (hg : (w1.alloc (.cells #[.string y] 9)).grownBy w5 (some w1.heap.size)) : Below w1.heap.size w1 w5 :=
  belowGrown (v := .slice (some ⟨w1.heap.size, 0, none⟩) 1 1) ((Below.refl w1.heap.size w1).alloc (Nat.le_refl _) _) (lit1_owns w1 y) hg

set_option maxRecDepth 100000 in
set_option maxHeartbeats 2000000 in
theorem heads_any (xs : List ByteArray) (hxs : ∀ j, (getB xs j).size ≤ 60) (a1 : Option Addr) (c1 : Nat) (w : World) (hx1 : (xs.length : Int) ≤ 100) (h1 : SliceAt w a1 (getB xs) xs.length) (hT : TabAt w) :
    Calls Tryd.prog 36 #[.slice a1 xs.length c1] w (GivesWay (headsS (getB xs) xs.length).1 (headsS (getB xs) xs.length).2 w) := by
  have HXS := Lib.hid hxs
  have H1 := Lib.hid h1
  have HT := Lib.hid hT
  obtain ⟨i0, hi0, hz0, hz1, hz2⟩ := info_parts info9
  have HI0 := Lib.hid hi0
  have HZ0 := Lib.hid hz0
  have HZ1 := Lib.hid hz1
  have HZ2 := Lib.hid hz2
  clear hi0 hz0 hz1 hz2
  have hmk := make32 w
  have hcv := conv32 w
  clear hxs h1 hT
  go_enter Tryd.func36, Tryd.ntmps36
  go_wp2_with fail
  have HB0 : Hid (Below w.heap.size w (w.alloc (.cells zeros32 5))) := (Below.refl w.heap.size w).alloc (Nat.le_refl _) _
  go_loopw [4, 5, 6] (fun h out i wr => ∃ (k : Nat) (a : Option Addr) (c : Nat), k ≤ xs.length ∧ i = .int .i64 k ∧ h = .string (headsS (getB xs) k).2 ∧ out = .slice a (headsS (getB xs) k).1.length c ∧ (headsS (getB xs) k).1.length ≤ c ∧ (c : Int) ≤ 9223372036854775807 ∧
    SliceAt wr a (getB (headsS (getB xs) k).1) (headsS (getB xs) k).1.length ∧ Below w.heap.size w wr) (fun _ _ i _ => xs.length - (intOf i).toNat)
  case atStart => exact ⟨0, none, 0, by omega, rfl, rfl, rfl, Nat.le_refl _, by omega, SliceAt.zero _ _ _, HB0.out⟩
  case round =>
    obtain ⟨k, a, c, hk, rfl, rfl, rfl, hc1, hc2, hsl, hB⟩ := hrel
    have HB := Lib.hid hB
    have HSL := Lib.hid hsl
    have hlen := headsS_len (getB xs) k
    have hvs := headsS_size (getB xs) k
    clear hB hsl hmk hcv HB0
    by_cases hlt : k < xs.length
    · have l1' : (k : Int) < xs.length := by omega
      obtain ⟨b1, o1, rfl, hcs⟩ := SliceAt.via HB.out H1.out (by omega)
      have hcx := hcs k hlt
      have sx := HXS.out k
      have HSU : Hid (headsS (getB xs) (k + 1) = (((⟨#[2]⟩ : ByteArray) ++ (headsS (getB xs) k).2 ++ getB xs k) :: (headsS (getB xs) k).1, chainB (headsS (getB xs) k).2 (getB xs k))) := by show _ = _; rfl
      have HT1 := Lib.hid (tabVia HB.out HT.out)
      generalize hhs : headsS (getB xs) k = hs at *
      obtain ⟨ys, v⟩ := hs
      simp only at hc1 hlen hvs HSL HSU ⊢
      generalize getB xs k = x at *
      have HC := Lib.hid (fun w h => Chain_any v x w (by omega) (by omega) h)
      have hch : shaB ((⟨#[2]⟩ : ByteArray) ++ v ++ x) = chainB v x := rfl
      rw [hch] at HC
      have hys : ys.length ≤ 1000 := by omega
      have HLN := Lib.hid hlen
      clear hcs hhs hch hlen
      go_wp2_with (at_builtin; refine wpList_append_sl rfl _ _ 26 rfl wr.heap.size 9 i0 (.string ⟨#[]⟩) 16 Tryd.underlying26 HI0.out HZ0.out HZ1.out HZ2.out rfl (.slice (some ⟨wr.heap.size, 0, none⟩) 1 1) 1 [.string ((⟨#[2]⟩ : ByteArray) ++ v ++ x)] (by rfl) (lit1_owns wr _) a c ys (by rfl) (HSL.out.below ((Below.refl wr.heap.size wr).alloc (Nat.le_refl _) _)) (way_b1 hys) (way_b2 hys) (by simp) ?_; intro v1 w5 hown5 hgrow5; have hcx := keptBelow (lit1_grown hgrow5) hcx)
      refine (HC.out _ (tabVia (lit1_grown hgrow5) HT1.out)).mono ?_
      rintro e w6 ⟨rfl, hB⟩
      obtain ⟨a5, c5, rfl, h53, h54, h55⟩ := cons_slice hown5
      have HB6 := Lib.hid (belowVia hB (belowVia (lit1_grown hgrow5) HB.out))
      have HS6 := Lib.hid (SliceAt.via hB h55)
      clear hB hown5 hgrow5 h55 hcx
      go_wp2_with fail
      go_roundw
      case rel => exact ⟨k + 1, a5, c5, by omega, by go_num, by rw [HSU.out], by rw [HSU.out]; rfl, by rw [HSU.out]; exact h53, h54, by rw [HSU.out]; exact HS6.out, HB6.out⟩
      case measure => simp [intOf]; omega
    · obtain rfl : k = xs.length := by omega
      have HG : Hid (GivesWay (headsS (getB xs) xs.length).1 (headsS (getB xs) xs.length).2 w (.returned (.tuple #[.slice a (headsS (getB xs) xs.length).1.length c, .string (headsS (getB xs) xs.length).2])) wr) :=
        ⟨_, rfl, a, c, rfl, hc1, hc2, HSL.out, HB.out⟩
      generalize headsS (getB xs) xs.length = hs at *
      obtain ⟨ys, v⟩ := hs
      simp only at HG ⊢
      clear hlt hk hc1 hlen hvs HSL
      go_wp2_with fail
      go_ret2
      exact HG.out
end Go.Proofs.YtdhpighnkoamiaaDoor
