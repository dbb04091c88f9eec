/- The contract of the function that blocks returns: what it yields. -/
import Derived.Shelf.Abstract
import Derived.Shelf.RegionOpen
import Derived.OwnWalkIn
import Derived.TacticsInMore
import Derived.LoopNIn
import Derived.LoopIn
import Derived.Lib.BufferWrite
import Derived.Lib.SliceRun
import Derived.Scope
import Derived.Test.YtdhpighnkoamiaaDoorDigRange
import Derived.Test.YtdhpighnkoamiaaDoorDigSized
namespace Go.Proofs.YtdhpighnkoamiaaDoor
open Go.RowKit Go.Shelf Putlog
attribute [local go_sem] Oper.semAt_some

theorem info_u8 : (Tryd.prog.info? 5).map (·.size) = some 1 := by kernel_rfl
theorem zero_u8 (w : World) : (zeroValue 5).run Tryd.prog w = .ok (.int .u8 0) w := by kernel_rfl

theorem u8s_list (l : List UInt8) : (u8s l).toList = l.map fun b => Value.int .u8 (b.toNat : Int) := by simp [u8s]
/-- copy from a string into a row of bytes. -/
theorem run_copy_u8s (w : World) (ty : TypeId) (g o d c : Nat) (s : ByteArray) (bl : List UInt8) (hg : ArrAt w g (u8s bl) 64) (hfit : o + min s.size d ≤ bl.length) :
    (Builtin.copy_ #[43, 9] ty #[.slice (some ⟨g, o, none⟩) d c, .string s]).run Tryd.prog w =
      .ok (goInt ((min s.size d : Nat) : Int)) (w.setRow g (u8s (bl.take o ++ s.data.toList.take (min s.size d) ++ bl.drop (o + min s.size d)))) := by
  have hlen : (s.data.toList.take (min s.size d)).length = min s.size d := by rw [List.length_take]; simp [← ByteArray.size_data]
  have hst := run_storeCells_at Tryd.prog g o 64 ((s.data.toList.take (min s.size d)).map fun b => Value.int .u8 (b.toNat : Int)) 0 (u8s bl) w hg (by simp [u8s]; omega) (by intro v hv; simp only [List.mem_map] at hv; obtain ⟨b, _, rfl⟩ := hv; rfl)
  simp only [Nat.add_zero, List.length_map, hlen] at hst
  have hres : ((u8s bl).toList.take o ++ ((s.data.toList.take (min s.size d)).map fun b => Value.int .u8 (b.toNat : Int)) ++ (u8s bl).toList.drop (o + min s.size d)).toArray = u8s (bl.take o ++ s.data.toList.take (min s.size d) ++ bl.drop (o + min s.size d)) := by
    rw [u8s_list]
    simp [u8s, List.map_take, List.map_drop]
  rw [hres] at hst
  have hm : Nat.min s.size d = min s.size d := rfl
  cases hq : Tryd.prog.info? 5 with
  | none => have := info_u8; rw [hq] at this; cases this
  | some i =>
    have hi : i.size = 1 := by have := info_u8; rw [hq] at this; simpa using this
    simp [Builtin.copy_, run_underlying Tryd.underlying43, Builtin.lenOf, Builtin.firstCells, sizeOf, typeInfo, hq, hm]
    rw [← List.map_take, hst]
    simp [Result.andThen]
/-- clear of the end of a row of bytes. -/
theorem run_clear_u8s (w : World) (ty : TypeId) (g o n c : Nat) (bl : List UInt8) (hg : ArrAt w g (u8s bl) 64) (hfit : o + n = bl.length) :
    (Builtin.clear_ #[43] ty #[.slice (some ⟨g, o, none⟩) n c]).run Tryd.prog w = .ok (.tuple #[]) (w.setRow g (u8s (bl.take o ++ List.replicate n 0))) := by
  rcases Nat.eq_zero_or_pos n with rfl | hn
  · have e : bl.take o ++ List.replicate 0 0 = bl := by rw [List.take_of_length_le (by omega)]; simp
    rw [e, setRow_self w g _ _ (0, 0) hg]
    simp [Builtin.clear_, run_underlying Tryd.underlying43]
  · have hst := run_storeCells_at Tryd.prog g o 64 (List.replicate n (Value.int .u8 0)) 0 (u8s bl) w hg (by simp [u8s]; omega) (by intro v hv; rw [List.eq_of_mem_replicate hv]; rfl)
    simp only [Nat.add_zero, List.length_replicate] at hst
    have hres : ((u8s bl).toList.take o ++ List.replicate n (Value.int .u8 0) ++ (u8s bl).toList.drop (o + n)).toArray = u8s (bl.take o ++ List.replicate n 0) := by
      rw [u8s_list, List.drop_eq_nil_of_le (by simp; omega)]
      simp [u8s, List.map_take]
    rw [hres] at hst
    have hz : (Builtin.zeroCells (Value.int IntKind.u8 0).cells n).toList = List.replicate n (Value.int .u8 0) := by
      have hc : (Value.int IntKind.u8 0).cells = #[Value.int IntKind.u8 0] := rfl
      rw [hc]
      simp [Builtin.zeroCells]
      apply List.ext_getElem
      · simp
      · intro i h1 h2
        simp [Nat.mod_one]
    obtain ⟨k, rfl⟩ : ∃ k, n = k + 1 := ⟨n - 1, by omega⟩
    simp [Builtin.clear_, run_underlying Tryd.underlying43, hz, hst]

/-- The strings that lie from cell o of block b on, one after the other. -/
def cat (ss : Nat → ByteArray) (o : Nat) : Nat → List UInt8
  | 0 => []
  | m + 1 => cat ss o m ++ (ss (o + m)).data.toList
/-- The slice of strings that the iterator reads. -/
def PartsAt (Bx b o m c : Nat) (ss : Nat → ByteArray) (A : World) : Prop :=
  A.cell? ⟨Bx, 0, none⟩ = some (.slice (some ⟨b, o, none⟩) m c) ∧ ∀ j, j < m → A.cell? ⟨b, o + j, none⟩ = some (.string (ss (o + j)))

theorem lt_of_cell {W : World} {B i : Nat} {v : Value} (h : W.cell? ⟨B, i, none⟩ = some v) : B < W.heap.size := by
  rcases Nat.lt_or_ge B W.heap.size with h' | h'
  · exact h'
  · simp [World.cell?, Array.getElem?_eq_none h'] at h

theorem run_slice_block (w : World) (B f : Nat) (hf : f < 64) : (Instr.sliceAt 64 (.pointer (some ⟨B, 0, none⟩)) (some (.int .i64 (f : Nat))) none none).run Tryd.prog w = .ok (.slice (some ⟨B, f, none⟩) (64 - f) (64 - f)) w := by
  have hl : Tryd.prog.arrayLen 64 = 64 := by kernel_rfl
  have hs : (sizeOf (Tryd.prog.elem 64)).run Tryd.prog w = .ok 1 w := by kernel_rfl
  rw [run_sliceAt_array_l w 64 ⟨B, 0, none⟩ (by kernel_rfl) .i64 f (by omega) (by rw [hl]; omega), hs]
  simp only [Result.andThen, slicedAt, hl, Int.toNat_natCast]
  rw [if_neg (by omega)]
  simp [Addr.add]
  omega
theorem run_slice_block_end (w : World) (B : Nat) : (Instr.sliceAt 64 (.pointer (some ⟨B, 0, none⟩)) (some (.int .i64 64)) none none).run Tryd.prog w = .ok (.slice (some ⟨B, 0, none⟩) 0 0) w := by kernel_rfl

theorem extract_end (s : ByteArray) (k : Nat) : (s.extract k s.size).data.toList = s.data.toList.drop k := by
  simp [List.extract_eq_take_drop]
  exact List.take_of_length_le (by simp)

theorem cat_le (ss : Nat → ByteArray) (o : Nat) {j m : Nat} (h : j < m) : (cat ss o (j + 1)).length ≤ (cat ss o m).length := by
  induction m with
  | zero => omega
  | succ m ih =>
    rcases Nat.lt_or_ge j m with h1 | h1
    · have := ih h1; simp [cat] at this ⊢; omega
    · obtain rfl : j = m := by omega
      exact Nat.le_refl _

set_option maxRecDepth 100000 in
set_option maxHeartbeats 2000000 in
theorem blocks1_runs (n : Nat) (Bx b o m c : Nat) (ss : Nat → ByteArray) (hm : (m : Int) ≤ 1048576) (ht : ((cat ss o m).length : Int) ≤ 1152921504606846976) :
    SeqRuns Fence.wide n Tryd.prog 60 #[.pointer (some ⟨Bx, 0, none⟩)] (fun l => .agg (u8s l)) (fun l => l.length = 64) (blocksOf (cat ss o m)) (PartsAt Bx b o m c ss) := by
  intro l J W hJ hR hY h0
  refine callsIn_of_wp Tryd.func60 rfl trivial ?_ rfl
  simp only [Tryd.ntmps60, List.size_toArray, List.length_cons, List.length_nil, Nat.reduceAdd, Nat.reduceSub, Array.replicate_succ, Array.replicate_zero, List.push_toArray, List.append_toArray, List.nil_append, List.cons_append]
  have hP := hR _ _ h0
  have hp1 : W.cell? ⟨Bx, 0, none⟩ = some (.slice (some ⟨b, o, none⟩) m c) := hP.1
  have hBx := lt_of_cell hP.1
  have HP := Lib.hid hP
  have HJ := Lib.hid hJ
  have HR := Lib.hid hR
  have HY := Lib.hid hY
  have H0 := Lib.hid h0
  have HT := Lib.hid ht
  clear hP hJ hR hY h0 ht
  refine wpIn_wide.2 (wp_scope_straight ((wpIn_wide (n := n)).1 ?_))
  gi_wp2
  refine wpIn_label ?_
  gi_wp2
  gi_loopw [4, 5, 7, 8, 11] (fun f sz _ _ i wr => ∃ (j : Nat) (bl : List UInt8), j ≤ m ∧ i = .int .i64 j ∧ f = .int .i64 ((cat ss o j).length % 64 : Nat) ∧ sz = .int .i64 ((cat ss o j).length : Nat) ∧ Filled (cat ss o j) bl ∧ J (full (cat ss o j)) wr ∧ ArrAt wr W.heap.size (u8s bl) 64) (fun _ _ _ _ i _ => m - (intOf i).toNat)
  case atStart =>
    exact ⟨0, List.replicate 64 0, by omega, rfl, rfl, rfl, Filled.nil _ rfl, by rw [show cat ss o 0 = [] from rfl, full_nil]; exact HJ.out _ _ _ H0.out ((Below.refl _ _).alloc (Nat.le_refl _) _), ArrAt.new _ _ _⟩
  case round =>
    obtain ⟨j, bl, hj, rfl, rfl, rfl, hF, hJ, hA⟩ := hrel
    by_cases hlt : j < m
    · have hlt' : (j : Int) < m := by omega
      have hpj := (HR.out _ _ hJ).2 j hlt
      have hcat : cat ss o (j + 1) = cat ss o j ++ (ss (o + j)).data.toList := rfl
      have hle := cat_le ss o hlt
      have hsz : ((cat ss o j).length : Int) + ((ss (o + j)).size : Int) = ((cat ss o (j + 1)).length : Int) := by rw [hcat]; simp
      have hsb : ((cat ss o (j + 1)).length : Int) ≤ 1152921504606846976 := by have := HT.out; omega
      obtain ⟨part, hpart⟩ : ∃ part, part = ss (o + j) := ⟨_, rfl⟩
      rw [← hpart] at hpj hcat hsz
      obtain ⟨don, hdon⟩ : ∃ don, don = cat ss o j := ⟨_, rfl⟩
      rw [← hdon] at hcat hsz hF hJ ⊢
      obtain ⟨tl, htl⟩ : ∃ tl, tl = (cat ss o (j + 1)).length := ⟨_, rfl⟩
      rw [← htl] at hsz hsb
      obtain ⟨dl, hdl⟩ : ∃ dl, dl = don.length := ⟨_, rfl⟩
      rw [← hdl] at hsz ⊢
      have HDL := Lib.hid hdl
      have HTL := Lib.hid htl
      have HC := Lib.hid hcat
      have HF := Lib.hid hF
      have HJJ := Lib.hid hJ
      have HA := Lib.hid hA
      clear hF hJ hA hcat hdon hpart hlt hle hdl htl
      obtain ⟨wo, rfl⟩ : ∃ wo, wo = wr := ⟨_, rfl⟩
      gi_wp2
      gi_loopw [4, 7, 8] (fun f p _ wr => ∃ (don : List UInt8) (part : ByteArray) (bl : List UInt8), f = .int .i64 (don.length % 64 : Nat) ∧ p = .string part ∧ cat ss o (j + 1) = don ++ part.data.toList ∧ Filled don bl ∧ J (full don) wr ∧ ArrAt wr W.heap.size (u8s bl) 64) (fun _ p _ _ => match p with | .string s => s.size | _ => 0)
      case atStart =>
        exact ⟨don, part, bl, by rw [HDL.out], rfl, HC.out, HF.out, HJJ.out, HA.out⟩
      case round =>
        clear HF HJJ HA HC HDL
        clear bl
        obtain ⟨dn, pt, bl, rfl, rfl, hcat, hF, hJ, hA⟩ := hrel
        have hbl := hF.1
        have hlt := hA.lt
        have hps : pt.data.toList.length = pt.size := by simp
        by_cases hroom : dn.length % 64 + pt.size < 64
        · have hfit : dn.length % 64 + min pt.size (64 - dn.length % 64) ≤ bl.length := by rw [hbl, Nat.min_eq_left (by omega)]; omega
          have hcp := fun ty => run_copy_u8s wr ty W.heap.size (dn.length % 64) (64 - dn.length % 64) (64 - dn.length % 64) pt bl hA hfit
          rw [show min pt.size (64 - dn.length % 64) = pt.size by omega, List.take_of_length_le (l := pt.data.toList) (by omega)] at hcp
          obtain ⟨hF2, hfull, hmod⟩ := hF.more (x := pt.data.toList) (by omega)
          rw [hps] at hF2 hmod
          rw [← hcat] at hF2 hfull hmod
          have hA2 := hA.row (u8s (bl.take (dn.length % 64) ++ pt.data.toList ++ bl.drop (dn.length % 64 + pt.size)))
          generalize bl.take (dn.length % 64) ++ pt.data.toList ++ bl.drop (dn.length % 64 + pt.size) = bl2 at *
          rw [← hfull] at hJ
          have hJ2 := HJ.out _ _ (wr.setRow W.heap.size (u8s bl2)) hJ (below_setRow (Below.refl _ _) (Nat.le_refl _) _)
          generalize hf : dn.length % 64 = f at *
          have HM := Lib.hid hmod
          have HJ2 := Lib.hid hJ2
          have HA2 := Lib.hid hA2
          have HF2 := Lib.hid hF2
          have hsl := run_slice_block wr W.heap.size f (by omega)
          have hf64 : (f : Int) < 64 := by omega
          have hr64 : (f : Int) + pt.size < 64 := by omega
          clear hF hJ hA hbl hps hcat hfull hmod hJ2 hA2 hF2 hf hroom hfit
          gi_wp2
          go_roundw
          case rel =>
            exact ⟨j + 1, bl2, by omega, by go_num, by rw [HM.out]; go_num, by rw [HTL.out], HF2.out, HJ2.out, HA2.out⟩
          case measure => simp [intOf]; omega
        · have hfit : dn.length % 64 + min pt.size (64 - dn.length % 64) ≤ bl.length := by rw [hbl, Nat.min_eq_right (by omega)]; omega
          have hcp := fun ty => run_copy_u8s wr ty W.heap.size (dn.length % 64) (64 - dn.length % 64) (64 - dn.length % 64) pt bl hA hfit
          rw [show min pt.size (64 - dn.length % 64) = 64 - dn.length % 64 by omega] at hcp
          have hxl : (pt.data.toList.take (64 - dn.length % 64)).length = 64 - dn.length % 64 := by rw [List.length_take]; omega
          obtain ⟨hF2, hfull, hmod⟩ := hF.fits (x := pt.data.toList.take (64 - dn.length % 64)) (by omega)
          rw [hxl] at hF2 hfull
          have hcat2 : cat ss o (j + 1) = (dn ++ pt.data.toList.take (64 - dn.length % 64)) ++ (pt.extract (64 - dn.length % 64) pt.size).data.toList := by
            rw [hcat, List.append_assoc, extract_end, List.take_append_drop]
          have hA2 := hA.row (u8s (bl.take (dn.length % 64) ++ pt.data.toList.take (64 - dn.length % 64) ++ bl.drop (dn.length % 64 + (64 - dn.length % 64))))
          have hps2 : (pt.extract (64 - dn.length % 64) pt.size).size < pt.size := by simp; omega
          generalize hdn2 : dn ++ pt.data.toList.take (64 - dn.length % 64) = dn2 at *
          generalize bl.take (dn.length % 64) ++ pt.data.toList.take (64 - dn.length % 64) ++ bl.drop (dn.length % 64 + (64 - dn.length % 64)) = bl2 at *
          have hJ2 := HJ.out _ _ (wr.setRow W.heap.size (u8s bl2)) hJ (below_setRow (Below.refl _ _) (Nat.le_refl _) _)
          have hb2 : bl2.length = 64 := hF2.1
          obtain ⟨fn, tmps, assign, body, hy, hRR⟩ := HY.out _ bl2 _ hJ2 (by simp; omega) hb2
          rw [← hfull] at hRR
          have hb3 : (u8s bl2).size = 64 := by rw [u8s_size, hb2]
          generalize hf : dn.length % 64 = f at *
          have hk64 : f + (64 - f) = 64 := by omega
          have hsl := run_slice_block wr W.heap.size f (by omega)
          obtain ⟨k, hk⟩ : ∃ k, k = 64 - f := ⟨_, rfl⟩
          rw [← hk] at hcp hsl hcat2 hps2
          have hfk : (f : Int) + k = 64 := by omega
          have hkp : (k : Int) ≤ pt.size := by omega
          have HM := Lib.hid hmod
          have HRR := Lib.hid hRR
          have HA2 := Lib.hid hA2
          have HF2 := Lib.hid hF2
          have HC2 := Lib.hid hcat2
          have HP2 := Lib.hid hps2
          have HB3 := Lib.hid hb3
          have hf64 : (f : Int) < 64 := by omega
          clear hF hJ hA hbl hps hcat hfull hmod hJ2 hA2 hF2 hf hroom hfit hcat2 hps2 hb2 hb3 hxl hdn2 hk64 hk hRR
          gi_wp2_with (refine wpListIn_load_row rfl 64 _ rfl W.heap.size rfl 64 (u8s bl2) (0, 0) _ HA2.out Tryd.underlying64 rfl (info_block.trans (by rw [HB3.out])) ?_)
          refine ⟨(fun h => by cases h), ?_⟩
          refine HRR.out.mono ?_
          rintro e W1 ⟨rfl, hJ1, hab⟩
          have hA1 := HA2.out.above hab (Nat.le_refl _)
          have HJ1 := Lib.hid hJ1
          have HA1 := Lib.hid hA1
          clear hJ1 hA1 hab HRR HA2
          gi_wp2
          go_roundw
          case rel =>
            exact ⟨dn2, pt.extract k pt.size, bl2, by rw [HM.out]; rfl, rfl, HC2.out, HF2.out, HJ1.out, HA1.out⟩
          case measure => exact HP2.out
    · obtain rfl : j = m := by omega
      obtain ⟨tot, htot⟩ : ∃ tot, tot = cat ss o j := ⟨_, rfl⟩
      have HTB := HT.out
      rw [← htot] at hF hJ HTB ⊢
      have hbl := hF.1
      have hlast := last_block hF
      have hll := last_len (tot := tot)
      have hlt2 := hA.lt
      generalize hB1 : tot.drop (64 * (tot.length / 64)) ++ 128 :: List.replicate (63 - tot.length % 64) 0 = B1 at *
      have hend : ∃ (ad : Addr) (n' c' : Nat) (WC : World), (Instr.sliceAt 64 (.pointer (some ⟨W.heap.size, 0, none⟩)) (some (.int .i64 (((tot.length % 64 : Nat) : Int) + 1))) none none).run Tryd.prog (wr.setCell ⟨W.heap.size, tot.length % 64, none⟩ (.int .u8 128)) = .ok (.slice (some ad) n' c') (wr.setCell ⟨W.heap.size, tot.length % 64, none⟩ (.int .u8 128))
          ∧ (∀ ty, (Builtin.clear_ #[43] ty #[.slice (some ad) n' c']).run Tryd.prog (wr.setCell ⟨W.heap.size, tot.length % 64, none⟩ (.int .u8 128)) = .ok (.tuple #[]) WC) ∧ ArrAt WC W.heap.size (u8s B1) 64 ∧ J (full tot) WC ∧ W.heap.size < WC.heap.size := by
        have hA1 := hA.set (tot.length % 64) (.int .u8 ((128 : UInt8).toNat : Int))
        rw [u8s_set] at hA1
        have hJ1 := HJ.out _ _ (wr.setCell ⟨W.heap.size, tot.length % 64, none⟩ (.int .u8 128)) hJ ((Below.refl _ _).setCell (p := ⟨W.heap.size, tot.length % 64, none⟩) (Nat.le_refl _) _)
        by_cases h63 : tot.length % 64 = 63
        · refine ⟨⟨W.heap.size, 0, none⟩, 0, 0, wr.setCell ⟨W.heap.size, tot.length % 64, none⟩ (.int .u8 128), ?_, fun ty => by simp [Builtin.clear_, run_underlying Tryd.underlying43], ?_, hJ1, by simpa using hlt2⟩
          · rw [h63]; exact run_slice_block_end _ _
          · rw [← hlast]
            rw [h63] at hA1 ⊢
            rw [List.take_of_length_le (by simp; omega)]
            simpa using hA1
        · refine ⟨⟨W.heap.size, tot.length % 64 + 1, none⟩, 64 - (tot.length % 64 + 1), 64 - (tot.length % 64 + 1), _, ?_, fun ty => run_clear_u8s _ ty W.heap.size (tot.length % 64 + 1) (64 - (tot.length % 64 + 1)) (64 - (tot.length % 64 + 1)) _ hA1 (by simp; omega), ?_, ?_, ?_⟩
          · exact run_slice_block _ _ (tot.length % 64 + 1) (by omega)
          · rw [← hlast]; exact hA1.row _
          · exact HJ.out _ _ _ hJ1 (below_setRow (Below.refl _ _) (Nat.le_refl _) _)
          · simpa using hlt2
      obtain ⟨ad, n', c', WC, hsl, hclr, hA1, hJ1, hlt3⟩ := hend
      have hc : wr.cell? ⟨W.heap.size, tot.length % 64, none⟩ = some (.int .u8 ((bl.getD (tot.length % 64) 0).toNat : Nat)) := hA.cell (u8s_getD (by omega))
      have hf : wr.frozen? ⟨W.heap.size, tot.length % 64, none⟩ = false := hA.frozen
      have hmod64 : ((tot.length % 64 : Nat) : Int) < 64 := by omega
      have hb3 : (u8s B1).size = 64 := by rw [u8s_size, hll]
      by_cases h56 : tot.length % 64 < 56
      · have hbo := blocks_short h56
        rw [hB1] at hbo
        have hSZ := fun w => sized_any B1 tot.length w hll HTB
        have hyl : (B1.take 56 ++ be64 (8 * tot.length)).length = 64 := by simp [be64_len, hll]
        have h56' : ((tot.length % 64 : Nat) : Int) < 56 := by omega
        rw [htot] at hbo
        have HBO := Lib.hid hbo
        have HSZ := Lib.hid hSZ
        have HYL := Lib.hid hyl
        have HJ1 := Lib.hid hJ1
        have HA1 := Lib.hid hA1
        have HB3 := Lib.hid hb3
        have HTT := Lib.hid htot
        generalize tot.length % 64 = f at *
        obtain ⟨sz, hsz⟩ : ∃ sz, sz = tot.length := ⟨_, rfl⟩
        rw [← hsz] at HTB HSZ HYL ⊢
        rw [← htot, ← hsz] at HBO
        clear hF hJ hA hbl hlast hll hB1 hbo hSZ hyl hJ1 hA1 hb3 htot hsz h56 hlt
        gi_wp2_with (refine wpListIn_load_row rfl 64 _ rfl W.heap.size rfl 64 (u8s B1) (0, 0) _ HA1.out Tryd.underlying64 rfl (info_block.trans (by rw [HB3.out])) ?_)
        refine ⟨trivial, (fun h => by cases h), ?_⟩
        refine (callsIn_wide.2 (HSZ.out WC)).mono ?_
        rintro e W1 ⟨rfl, hb⟩
        have hJ2 := HJ.out _ _ W1 HJ1.out (hb.mono (by omega))
        obtain ⟨fn, tmps, assign, body, hy, hRR⟩ := HY.out _ _ _ hJ2 (by have := hb.size; omega) HYL.out
        have HRR := Lib.hid hRR
        clear hJ2 hRR
        generalize B1.take 56 ++ be64 (8 * sz) = B2 at *
        gi_wp2_with fail
        refine ⟨(fun h => by cases h), ?_⟩
        refine HRR.out.mono ?_
        rintro e W2 ⟨rfl, hJ3, hab⟩
        rw [← HBO.out, HTT.out] at hJ3
        have HJ3 := Lib.hid hJ3
        clear hJ3 hab HRR
        gi_wp2
        unfold Exit.noGoto
        go_end0
        exact ⟨⟨_, rfl⟩, HJ3.out⟩
      · have hbo := blocks_long h56
        rw [hB1] at hbo
        have hSZ := fun w => sized_any (List.replicate 64 0) tot.length w rfl HTB
        have hyl : ((List.replicate 64 (0 : UInt8)).take 56 ++ be64 (8 * tot.length)).length = 64 := by simp [be64_len]
        have h56' : 56 ≤ ((tot.length % 64 : Nat) : Int) := by omega
        obtain ⟨fn, tmps, assign, body, hy, hRR⟩ := HY.out _ _ _ hJ1 (by omega) hll
        have HRR := Lib.hid hRR
        rw [htot] at hbo
        have HBO := Lib.hid hbo
        have HSZ := Lib.hid hSZ
        have HYL := Lib.hid hyl
        have HA1 := Lib.hid hA1
        have HB3 := Lib.hid hb3
        have HLL := Lib.hid hll
        have HTT := Lib.hid htot
        generalize tot.length % 64 = f at *
        obtain ⟨sz, hsz⟩ : ∃ sz, sz = tot.length := ⟨_, rfl⟩
        rw [← hsz] at HTB HSZ HYL ⊢
        rw [← htot, ← hsz] at HBO
        clear hF hJ hA hbl hlast hll hB1 hbo hSZ hyl hJ1 hA1 hb3 htot hsz h56 hlt hRR
        gi_wp2_with (refine wpListIn_load_row rfl 64 _ rfl W.heap.size rfl 64 (u8s B1) (0, 0) _ HA1.out Tryd.underlying64 rfl (info_block.trans (by rw [HB3.out])) ?_)
        refine ⟨(fun h => by cases h), ?_⟩
        refine HRR.out.mono ?_
        rintro e W1 ⟨rfl, hJ3, hab⟩
        have hA3 := HA1.out.above hab (Nat.le_refl _)
        have hcl2 := fun ty => run_clear_u8s W1 ty W.heap.size 0 64 64 B1 hA3 (by rw [HLL.out])
        have hA4 := hA3.row (u8s (B1.take 0 ++ List.replicate 64 0))
        have hJ4 := HJ.out _ _ (W1.setRow W.heap.size (u8s (B1.take 0 ++ List.replicate 64 0))) hJ3 (below_setRow (Below.refl _ _) (Nat.le_refl _) _)
        rw [List.take_zero, List.nil_append] at hcl2 hA4 hJ4
        have hb5 : (u8s (List.replicate 64 0)).size = 64 := by rw [u8s_size]; rfl
        have hlt5 := hA4.lt
        generalize List.replicate 64 (0 : UInt8) = B0 at *
        generalize hW3 : W1.setRow W.heap.size (u8s B0) = W3 at *
        have HA4 := Lib.hid hA4
        have HB5 := Lib.hid hb5
        have HJ4 := Lib.hid hJ4
        clear hJ3 hab HRR hA3 hA4 hJ4 hb5 hW3
        gi_wp2_with (refine wpListIn_load_row rfl 64 _ rfl W.heap.size rfl 64 (u8s B0) (0, 0) _ HA4.out Tryd.underlying64 rfl (info_block.trans (by rw [HB5.out])) ?_)
        refine ⟨trivial, (fun h => by cases h), ?_⟩
        refine (callsIn_wide.2 (HSZ.out W3)).mono ?_
        rintro e W4 ⟨rfl, hb⟩
        have hJ5 := HJ.out _ _ W4 HJ4.out (hb.mono (by omega))
        obtain ⟨fn, tmps, assign, body, hy, hRR⟩ := HY.out _ _ _ hJ5 (by have := hb.size; omega) HYL.out
        rw [← HBO.out, HTT.out] at hRR
        have HRR := Lib.hid hRR
        clear hJ5 hRR
        generalize B0.take 56 ++ be64 (8 * sz) = B2 at *
        gi_wp2_with fail
        refine ⟨(fun h => by cases h), ?_⟩
        refine HRR.out.mono ?_
        rintro e W5 ⟨rfl, hJ6, hab⟩
        have HJ6 := Lib.hid hJ6
        clear hJ6 hab HRR
        gi_wp2
        unfold Exit.noGoto
        go_end0
        exact ⟨⟨_, rfl⟩, HJ6.out⟩
end Go.Proofs.YtdhpighnkoamiaaDoor
