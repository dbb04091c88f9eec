/- The contract of sized. -/
import Derived.Test.YtdhpighnkoamiaaDoorDigArr
import Derived.Test.YtdhpighnkoamiaaDoorDigPure
namespace Go.Proofs.YtdhpighnkoamiaaDoor
open Go.RowKit Putlog

theorem zeros64 : (#[.int .u8 0, .int .u8 0, .int .u8 0, .int .u8 0, .int .u8 0, .int .u8 0, .int .u8 0, .int .u8 0, .int .u8 0, .int .u8 0, .int .u8 0, .int .u8 0, .int .u8 0, .int .u8 0, .int .u8 0, .int .u8 0,
  .int .u8 0, .int .u8 0, .int .u8 0, .int .u8 0, .int .u8 0, .int .u8 0, .int .u8 0, .int .u8 0, .int .u8 0, .int .u8 0, .int .u8 0, .int .u8 0, .int .u8 0, .int .u8 0, .int .u8 0, .int .u8 0,
  .int .u8 0, .int .u8 0, .int .u8 0, .int .u8 0, .int .u8 0, .int .u8 0, .int .u8 0, .int .u8 0, .int .u8 0, .int .u8 0, .int .u8 0, .int .u8 0, .int .u8 0, .int .u8 0, .int .u8 0, .int .u8 0,
  .int .u8 0, .int .u8 0, .int .u8 0, .int .u8 0, .int .u8 0, .int .u8 0, .int .u8 0, .int .u8 0, .int .u8 0, .int .u8 0, .int .u8 0, .int .u8 0, .int .u8 0, .int .u8 0, .int .u8 0, .int .u8 0] : Array Value) = u8s (List.replicate 64 0) := by rfl

theorem info_block : (Tryd.prog.info? 64).map (·.size) = some 64 := by kernel_rfl

set_option maxRecDepth 100000 in
set_option maxHeartbeats 1000000 in
theorem sized_any (l : List UInt8) (n : Nat) (w : World) (hl : l.length = 64) (hn : (n : Int) ≤ 1152921504606846976) :
    Calls Tryd.prog 61 #[.agg (u8s l), .int .i64 n] w fun e w' => e = .returned (.agg (u8s (l.take 56 ++ be64 (8 * n)))) ∧ Below w.heap.size w w' := by
  have HL := Lib.hid hl
  clear hl
  go_enter Tryd.func61, Tryd.ntmps61
  go_wp2_with fail
  go_loopw [6, 10] (fun s i wr => ∃ k : Nat, k ≤ 8 ∧ i = .int .i64 k ∧ ArrAt wr w.heap.size (u8s (l.take (64 - k) ++ (be64 (8 * n)).drop (8 - k))) 64 ∧ (∃ zs : Array Value, zs.size = 64 ∧ ArrAt wr (w.heap.size + 1) zs 64) ∧ Below w.heap.size w wr) (fun _ i _ => 8 - (intOf i).toNat)
  case atStart =>
    refine ⟨0, by omega, rfl, ?_, ⟨u8s (List.replicate 64 0), rfl, ArrAt.new' _ _ _ (by rw [World.size_alloc])⟩, ((Below.refl _ _).alloc (Nat.le_refl _) _).alloc (by simp) _⟩
    have : l.take (64 - 0) ++ (be64 (8 * n)).drop (8 - 0) = l := by rw [List.take_of_length_le (by rw [HL.out]; omega)]; simp [be64_len]
    rw [this]
    exact (ArrAt.new _ _ _).alloc _
  case round =>
    obtain ⟨k, hk, rfl, h1, ⟨zs, hz, h2⟩, hB⟩ := hrel
    by_cases hlt : k < 8
    · have hlt' : (k : Int) < 8 := by omega
      have hlen : (l.take (64 - k) ++ (be64 (8 * n)).drop (8 - k)).length = 64 := by simp [be64_len, HL.out]; omega
      have hc : wr.cell? ⟨w.heap.size, 63 - k, none⟩ = some (.int .u8 (((l.take (64 - k) ++ (be64 (8 * n)).drop (8 - k)).getD (63 - k) 0).toNat : Nat)) := h1.cell (u8s_getD (by omega))
      have hf : wr.frozen? ⟨w.heap.size, 63 - k, none⟩ = false := h1.frozen
      have hset := be64_step l (8 * n) k HL.out hlt
      have H1 := Lib.hid h1
      have H2 := Lib.hid h2
      have HS := Lib.hid hset
      have HZ := Lib.hid hz
      clear h1 h2 hset hlen hz
      go_wp2_with fail
      go_roundw
      case rel =>
        refine ⟨k + 1, by omega, by go_num, ?_, ⟨zs, HZ.out, H2.out.other (by omega) _⟩, hB.setCell (p := ⟨w.heap.size, 63 - k, none⟩) (Nat.le_refl _) _⟩
        have := H1.out.set (63 - k) (.int .u8 (((be64 (8 * n)).getD (7 - k) 0).toNat : Int))
        rw [u8s_set, HS.out] at this
        rw [be64_get (by omega)] at this
        simpa using this
      case measure => simp [intOf]; omega
    · obtain rfl : k = 8 := by omega
      have hlen : (u8s (l.take (64 - 8) ++ (be64 (8 * n)).drop (8 - 8))).size = 64 := by rw [u8s_size]; simp [be64_len, HL.out]
      generalize hX : u8s (l.take (64 - 8) ++ (be64 (8 * n)).drop (8 - 8)) = X at *
      have hone : X.all (·.oneCell') = true := by rw [← hX]; exact u8s_one _
      have HX := Lib.hid hX
      have H1 := Lib.hid h1
      have H2 := Lib.hid h2
      have HZ := Lib.hid hz
      have HN := Lib.hid hlen
      have HO := Lib.hid hone
      clear h1 h2 hz hlen hone hX hlt
      go_wp2_with (first
        | (refine wpList_load_row rfl 64 _ rfl w.heap.size rfl 64 X (0, 0) _ H1.out Tryd.underlying64 rfl (info_block.trans (by rw [HN.out])) ?_)
        | (refine wpList_store_row rfl 64 _ _ rfl (w.heap.size + 1) X rfl rfl 64 zs H2.out (info_block.trans (by rw [HN.out])) (by rw [HZ.out, HN.out]) HO.out ?_))
      refine bodyPost_ret (results_cell_row rfl _ _ (w.heap.size + 1) 64 X (0, 0) _ rfl (H2.out.row X) Tryd.underlying64 rfl (info_block.trans (by rw [HN.out]))) rfl ?_
      refine ⟨?_, below_setRow hB (by omega) _⟩
      rw [← HX.out]
      rfl
end Go.Proofs.YtdhpighnkoamiaaDoor
