/- The contract of schedule. -/
import Derived.StillTailTactics
import Derived.IntWalk
import Derived.Deep.QuietTactic
import Derived.BigQuiet
import Derived.Test.YtdhpighnkoamiaaDoorDigRot
import Derived.Test.YtdhpighnkoamiaaDoorDigSized
namespace Go.Proofs.YtdhpighnkoamiaaDoor
open Go.RowKit Putlog

theorem info_sched : (Tryd.prog.info? 72).map (·.size) = some 64 := by kernel_rfl

set_option maxRecDepth 100000 in
set_option maxHeartbeats 2000000 in
theorem schedule_any (l : List UInt8) (w : World) (hl : l.length = 64) :
    Calls Tryd.prog 62 #[.agg (u8s l)] w fun e w' => e = .returned (.agg (u32s (sched l))) ∧ Below w.heap.size w w' := by
  have HL := Lib.hid hl
  clear hl
  go_enter Tryd.func62, Tryd.ntmps62
  go_wp2_with fail
  go_loopw [4, 8] (fun s i wr => ∃ k : Nat, k ≤ 16 ∧ i = .int .i64 k ∧ ArrAt wr w.heap.size (u8s l) 64 ∧ (∃ zs : Array Value, zs.size = 64 ∧ ArrAt wr (w.heap.size + 1) zs 72) ∧ ArrAt wr (w.heap.size + 1 + 1) (u32s ((words l).take k ++ List.replicate (64 - k) 0)) 72 ∧ Below w.heap.size w wr) (fun _ i _ => 16 - (intOf i).toNat)
  case atStart =>
    refine ⟨0, by omega, rfl, ((ArrAt.new _ _ _).alloc _).alloc _, ⟨u32s (List.replicate 64 0), rfl, (ArrAt.new' _ _ _ (by rw [World.size_alloc])).alloc _⟩, ?_, (((Below.refl _ _).alloc (Nat.le_refl _) _).alloc (by simp) _).alloc (by rw [World.size_alloc, World.size_alloc]; omega) _⟩
    exact ArrAt.new' _ (u32s (List.replicate 64 0)) _ (by rw [World.size_alloc, World.size_alloc])
  case round =>
    obtain ⟨k, hk, rfl, h1, ⟨zs, hz, h2⟩, h3, hB⟩ := hrel
    by_cases hlt : k < 16
    · have hlt' : (k : Int) < 16 := by omega
      have hc0 : wr.cell? ⟨w.heap.size, 4 * k, none⟩ = some (.int .u8 ((l.getD (4 * k) 0).toNat : Nat)) := h1.cell (u8s_getD (by rw [HL.out]; omega))
      have hc1 : wr.cell? ⟨w.heap.size, 4 * k + 1, none⟩ = some (.int .u8 ((l.getD (4 * k + 1) 0).toNat : Nat)) := h1.cell (u8s_getD (by rw [HL.out]; omega))
      have hc2 : wr.cell? ⟨w.heap.size, 4 * k + 2, none⟩ = some (.int .u8 ((l.getD (4 * k + 2) 0).toNat : Nat)) := h1.cell (u8s_getD (by rw [HL.out]; omega))
      have hc3 : wr.cell? ⟨w.heap.size, 4 * k + 3, none⟩ = some (.int .u8 ((l.getD (4 * k + 3) 0).toNat : Nat)) := h1.cell (u8s_getD (by rw [HL.out]; omega))
      have hlen : ((words l).take k ++ List.replicate (64 - k) 0).length = 64 := by simp [words_len]; omega
      have hc : wr.cell? ⟨w.heap.size + 1 + 1, k, none⟩ = some (.int .u32 (((words l).take k ++ List.replicate (64 - k) 0).getD k 0 : Nat)) := h3.cell (u32s_getD (by omega))
      have hf : wr.frozen? ⟨w.heap.size + 1 + 1, k, none⟩ = false := h3.frozen
      have b0 := UInt8.toNat_lt (l.getD (4 * k) 0)
      have b1 := UInt8.toNat_lt (l.getD (4 * k + 1) 0)
      have b2 := UInt8.toNat_lt (l.getD (4 * k + 2) 0)
      have b3 := UInt8.toNat_lt (l.getD (4 * k + 3) 0)
      have hwk := (List.getElem_eq_iff (by rw [words_len]; omega)).2 (words_get (l := l) hlt)
      generalize (l.getD (4 * k) 0).toNat = x0 at *
      generalize (l.getD (4 * k + 1) 0).toNat = x1 at *
      generalize (l.getD (4 * k + 2) 0).toNat = x2 at *
      generalize (l.getD (4 * k + 3) 0).toNat = x3 at *
      generalize ((words l).take k ++ List.replicate (64 - k) 0).getD k 0 = y at *
      have HW := Lib.hid hwk
      have H1 := Lib.hid h1
      have H2 := Lib.hid h2
      have H3 := Lib.hid h3
      have HZ := Lib.hid hz
      clear hwk
      have hm1 : (x0 : Int) < 256 := by omega
      have hm2 : (x1 : Int) < 256 := by omega
      have hm3 : (x2 : Int) < 256 := by omega
      have hm4 : (x3 : Int) < 256 := by omega
      clear h1 h2 h3 hlen hz b0 b1 b2 b3
      go_wp2_with fail
      have e0 : IntKind.i64.wrap (4 * (k : Int)) = 4 * (k : Int) := IntWalk.i64_in _ (by omega)
      have e1 : IntKind.i64.wrap (4 * (k : Int) + 1) = 4 * (k : Int) + 1 := IntWalk.i64_in _ (by omega)
      have e2 : IntKind.i64.wrap (4 * (k : Int) + 2) = 4 * (k : Int) + 2 := IntWalk.i64_in _ (by omega)
      have e3 : IntKind.i64.wrap (4 * (k : Int) + 3) = 4 * (k : Int) + 3 := IntWalk.i64_in _ (by omega)
      have p0 : 0 ≤ 4 * (k : Int) := by omega
      have p1 : 0 ≤ 4 * (k : Int) + 1 := by omega
      have p2 : 0 ≤ 4 * (k : Int) + 2 := by omega
      have p3 : 0 ≤ 4 * (k : Int) + 3 := by omega
      have q0 : 4 * (k : Int) < 64 := by omega
      have q1 : 4 * (k : Int) + 1 < 64 := by omega
      have q2 : 4 * (k : Int) + 2 < 64 := by omega
      have q3 : 4 * (k : Int) + 3 < 64 := by omega
      have t0 : (4 * (k : Int)).toNat = 4 * k := by omega
      have t1 : (4 * (k : Int) + 1).toNat = 4 * k + 1 := by omega
      have t2 : (4 * (k : Int) + 2).toNat = 4 * k + 2 := by omega
      have t3 : (4 * (k : Int) + 3).toNat = 4 * k + 3 := by omega
      have k64 : (k : Int) < 64 := by omega
      go_still_tail 31, (by kernel_rfl)
      change wpList _ _ _ _ _ wr.drew
      clear e0 e1 e2 e3 p0 p1 p2 p3 q0 q1 q2 q3 t0 t1 t2 t3
      go_wp2_with fail
      go_roundw
      case rel =>
        rw [word4_bits (by omega) (by omega) (by omega) (by omega)]
        refine ⟨k + 1, by omega, by go_num, H1.out.other (by omega) _, ⟨zs, HZ.out, H2.out.other (by omega) _⟩, ?_, (hB.setCell (p := ⟨w.heap.size + 1 + 1, k, none⟩) (by simp; omega) _).drew⟩
        have := H3.out.set k (.int .u32 (word4 x0 x1 x2 x3 : Nat))
        rw [u32s_set] at this
        have e := fill_set (words l) k 64 (by rw [words_len]; omega) (by omega)
        rw [HW.out] at e
        rw [e] at this
        exact this
      case measure => simp [intOf]; omega
    · have hk16 : k = 16 := by omega
      have e16 : (words l).take k ++ List.replicate (64 - k) 0 = wext (16 - 16) (words l) ++ List.replicate (64 - 16) 0 := by
        rw [hk16, List.take_of_length_le (by rw [words_len]; omega)]; rfl
      rw [e16] at h3
      have hk17 : 16 ≤ (k : Int) := by omega
      clear e16 hk16
      have HZ := Lib.hid hz
      have H2 := Lib.hid h2
      have H3 := Lib.hid h3
      clear h1 h2 h3 hz hlt
      obtain ⟨W, rfl⟩ : ∃ W, W = wr := ⟨_, rfl⟩
      go_wp2_with fail
      go_loopw [5, 6, 7] (fun s _ _ wr => ∃ i : Nat, 16 ≤ i ∧ i ≤ 64 ∧ s = .int .i64 (i : Int) ∧ (∃ zs : Array Value, zs.size = 64 ∧ ArrAt wr (w.heap.size + 1) zs 72) ∧ ArrAt wr (w.heap.size + 1 + 1) (u32s (wext (i - 16) (words l) ++ List.replicate (64 - i) 0)) 72 ∧ Below w.heap.size w wr) (fun s _ _ _ => 64 - (intOf s).toNat)
      case atStart => exact ⟨16, by omega, by omega, rfl, ⟨zs, HZ.out, H2.out⟩, H3.out, hB⟩
      case round =>
        clear HZ H2 H3 hB
        obtain ⟨i, hi, hj, rfl, ⟨zs, hz, h2⟩, h3, hB⟩ := hrel
        by_cases hlt : i < 64
        · have hvl : (wext (i - 16) (words l)).length = i := by rw [wext_len, words_len]; omega
          have hvb := wext_lt (i - 16) _ (words_lt l)
          have hsn := wext_snoc (i - 16) (words l)
          generalize hv : wext (i - 16) (words l) = v at *
          have hlen : (v ++ List.replicate (64 - i) 0).length = 64 := by simp; omega
          have hget : ∀ j, j < i → (v ++ List.replicate (64 - i) 0).getD j 0 = v.getD j 0 := fun j hj => by
            rw [List.getD_eq_getElem?_getD, List.getElem?_append_left (by omega), List.getD_eq_getElem?_getD]
          have hc1 : wr.cell? ⟨w.heap.size + 1 + 1, i - 15, none⟩ = some (.int .u32 (v.getD (i - 15) 0 : Nat)) := by rw [← hget _ (by omega)]; exact h3.cell (u32s_getD (by omega))
          have hc2 : wr.cell? ⟨w.heap.size + 1 + 1, i - 2, none⟩ = some (.int .u32 (v.getD (i - 2) 0 : Nat)) := by rw [← hget _ (by omega)]; exact h3.cell (u32s_getD (by omega))
          have hc3 : wr.cell? ⟨w.heap.size + 1 + 1, i - 16, none⟩ = some (.int .u32 (v.getD (i - 16) 0 : Nat)) := by rw [← hget _ (by omega)]; exact h3.cell (u32s_getD (by omega))
          have hc4 : wr.cell? ⟨w.heap.size + 1 + 1, i - 7, none⟩ = some (.int .u32 (v.getD (i - 7) 0 : Nat)) := by rw [← hget _ (by omega)]; exact h3.cell (u32s_getD (by omega))
          have hc0 : wr.cell? ⟨w.heap.size + 1 + 1, i, none⟩ = some (.int .u32 ((v ++ List.replicate (64 - i) 0).getD i 0 : Nat)) := h3.cell (u32s_getD (by omega))
          have hf : wr.frozen? ⟨w.heap.size + 1 + 1, i, none⟩ = false := h3.frozen
          have hnw : nextWord v = (((v.getD (i - 16) 0 + sig0 (v.getD (i - 15) 0)) % 4294967296 + v.getD (i - 7) 0) % 4294967296 + sig1 (v.getD (i - 2) 0)) % 4294967296 := by unfold nextWord; rw [hvl]
          have b1 := getD_lt hvb (i - 15)
          have b2 := getD_lt hvb (i - 2)
          have b3 := getD_lt hvb (i - 16)
          have b4 := getD_lt hvb (i - 7)
          have g1 := sig0_bits b1
          have g2 := sig1_bits b2
          have l1 := sig0_lt b1
          have l2 := sig1_lt b2
          generalize v.getD (i - 15) 0 = x1 at *
          generalize v.getD (i - 2) 0 = x2 at *
          generalize v.getD (i - 16) 0 = x3 at *
          generalize v.getD (i - 7) 0 = x4 at *
          generalize (v ++ List.replicate (64 - i) 0).getD i 0 = x0 at *
          generalize sig0 x1 = y1 at *
          generalize sig1 x2 = y2 at *
          have HN := Lib.hid hnw
          have HS := Lib.hid hsn
          have HV := Lib.hid hvl
          have H2 := Lib.hid h2
          have H3 := Lib.hid h3
          have HZ := Lib.hid hz
          have B1 := Lib.hid b1
          have B2 := Lib.hid b2
          have B3 := Lib.hid b3
          have B4 := Lib.hid b4
          have hlt' : (i : Int) < 64 := by omega
          have e1 : IntKind.i64.wrap ((i : Int) - 15) = (i : Int) - 15 := IntWalk.i64_in _ (by omega)
          have e2 : IntKind.i64.wrap ((i : Int) - 2) = (i : Int) - 2 := IntWalk.i64_in _ (by omega)
          have e3 : IntKind.i64.wrap ((i : Int) - 16) = (i : Int) - 16 := IntWalk.i64_in _ (by omega)
          have e4 : IntKind.i64.wrap ((i : Int) - 7) = (i : Int) - 7 := IntWalk.i64_in _ (by omega)
          have p1 : 0 ≤ (i : Int) - 15 := by omega
          have p2 : 0 ≤ (i : Int) - 2 := by omega
          have p3 : 0 ≤ (i : Int) - 16 := by omega
          have p4 : 0 ≤ (i : Int) - 7 := by omega
          have o1 : 15 ≤ i := by omega
          have o2 : 2 ≤ i := by omega
          have o4 : 7 ≤ i := by omega
          have q1 : (i : Int) - 15 < 64 := by omega
          have q2 : (i : Int) - 2 < 64 := by omega
          have q3 : (i : Int) - 16 < 64 := by omega
          have q4 : (i : Int) - 7 < 64 := by omega
          have t1 : ((i : Int) - 15).toNat = i - 15 := by omega
          have t2 : ((i : Int) - 2).toNat = i - 2 := by omega
          have t3 : ((i : Int) - 16).toNat = i - 16 := by omega
          have t4 : ((i : Int) - 7).toNat = i - 7 := by omega
          clear hnw hsn hvl h2 h3 hz hlen hget hv hvb b1 b2 b3 b4 hlt
          go_wp2_with fail
          go_quiet ((go_at_call 63; exact Calls.quiet_of_same (rotated_q x1 _ _ B1.out (by decide) (by decide))))
          obtain ⟨n1, rfl⟩ : ∃ n1, n1 = nq := ⟨_, rfl⟩
          go_wp2_with fail
          go_quiet ((go_at_call 63; exact quiet_add_same (rotated_q x2 _ _ B2.out (by decide) (by decide))))
          go_wp2_with fail
          have k3 : ((wr.drewN n1).drewN nq).cell? ⟨w.heap.size + 1 + 1, i - 16, none⟩ = some (.int .u32 (x3 : Nat)) := hc3
          have k4 : ((wr.drewN n1).drewN nq).cell? ⟨w.heap.size + 1 + 1, i - 7, none⟩ = some (.int .u32 (x4 : Nat)) := hc4
          have k0 : ((wr.drewN n1).drewN nq).cell? ⟨w.heap.size + 1 + 1, i, none⟩ = some (.int .u32 (x0 : Nat)) := hc0
          have kf : ((wr.drewN n1).drewN nq).frozen? ⟨w.heap.size + 1 + 1, i, none⟩ = false := hf
          have K2 : Hid (ArrAt ((wr.drewN n1).drewN nq) (w.heap.size + 1) zs 72) := H2
          have K3 : Hid (ArrAt ((wr.drewN n1).drewN nq) (w.heap.size + 1 + 1) (u32s (v ++ List.replicate (64 - i) 0)) 72) := H3
          have KB : Below w.heap.size w ((wr.drewN n1).drewN nq) := below_drewN (below_drewN hB _) _
          generalize (wr.drewN n1).drewN nq = w2 at *
          clear hc0 hc1 hc2 hc3 hc4 hf H2 H3 hB
          have z1 : (i : Int) < 80 := by omega
          have z2 : i - 16 < 64 := by omega
          have z3 : i - 7 < 64 := by omega
          have z4 : 16 ≤ (i : Int) := by omega
          have z5 : 7 ≤ (i : Int) := by omega
          have z6 : (i : Int) < 71 := by omega
          go_still_tail 15, (by kernel_rfl)
          change wpList _ _ _ _ _ w2.drew
          clear e1 e2 e3 e4 p1 p2 p3 p4 q1 q2 q3 q4 t1 t2 t3 t4 o1 o2 o4
          have B5 := Lib.hid l1
          have B6 := Lib.hid l2
          clear g1 g2 l1 l2
          go_wp2_with fail
          go_roundw
          case rel =>
            refine ⟨i + 1, by omega, by omega, by go_num, ⟨zs, HZ.out, K2.out.other (by omega) _⟩, ?_, (KB.setCell (p := ⟨w.heap.size + 1 + 1, i, none⟩) (by simp; omega) _).drew⟩
            have := K3.out.set i (.int .u32 (nextWord v : Nat))
            rw [u32s_set] at this
            have e := fill_snoc v (64 - (i + 1)) (nextWord v)
            rw [HV.out, show 64 - (i + 1) + 1 = 64 - i by omega, ← HS.out, show i - 16 + 1 = i + 1 - 16 by omega] at e
            rw [e] at this
            rw [show ((x3 : Int) + y1 + x4 + y2) % 4294967296 = (nextWord v : Nat) by rw [HN.out]; omega]
            exact this
          case measure => simp [intOf]; omega
        · have hi64 : i = 64 := by omega
          rw [hi64] at h3
          have hi65 : 64 ≤ (i : Int) := by omega
          have hX0 : wext (64 - 16) (words l) ++ List.replicate (64 - 64) 0 = sched l := by simp [sched]
          rw [hX0] at h3
          have hlen : (u32s (sched l)).size = 64 := by rw [u32s_size, sched, wext_len, words_len]
          have hone : (u32s (sched l)).all (·.oneCell') = true := u32s_one _
          generalize hX : u32s (sched l) = X at *
          have HX := Lib.hid hX
          have H2 := Lib.hid h2
          have H3 := Lib.hid h3
          have HZ := Lib.hid hz
          have HN := Lib.hid hlen
          have HO := Lib.hid hone
          clear h2 h3 hz hlen hone hX hlt hi64 hX0 hi hj
          obtain ⟨w2, rfl⟩ : ∃ w2, w2 = wr := ⟨_, rfl⟩
          go_wp2_with (first
            | (refine wpList_load_row rfl 72 _ rfl (w.heap.size + 1 + 1) rfl 72 X (0, 0) _ H3.out Tryd.underlying72 rfl (info_sched.trans (by rw [HN.out])) ?_)
            | (refine wpList_store_row rfl 72 _ _ rfl (w.heap.size + 1) X rfl rfl 72 zs H2.out (info_sched.trans (by rw [HN.out])) (by rw [HZ.out, HN.out]) HO.out ?_))
          refine bodyPost_ret (results_cell_row rfl _ _ (w.heap.size + 1) 72 X (0, 0) _ rfl (H2.out.row X) Tryd.underlying72 rfl (info_sched.trans (by rw [HN.out]))) rfl ?_
          refine ⟨?_, below_setRow hB (by omega) _⟩
          rw [← HX.out]
end Go.Proofs.YtdhpighnkoamiaaDoor
