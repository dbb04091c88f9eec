/- The contract of mixed. -/
import Derived.Deep.WholeRow
import Derived.Test.YtdhpighnkoamiaaDoorDigSched
namespace Go.Proofs.YtdhpighnkoamiaaDoor
open Go.RowKit Putlog

/-- The table lies in its variable. -/
def TabAt (w : World) : Prop := ∀ i, i < 64 → w.cell? ⟨0, i, none⟩ = some (.int .u32 (shaK.getD i 0 : Nat))
theorem TabAt.size {w : World} (h : TabAt w) : 0 < w.heap.size := by
  have := h 0 (by omega)
  unfold World.cell? at this
  rcases Nat.lt_or_ge 0 w.heap.size with h | h
  · exact h
  · rw [Array.getElem?_eq_none (by simpa using h)] at this; cases this
theorem TabAt.below {w w' : World} (h : TabAt w) {B : Nat} (hB : Below B w w') (hlt : 0 < B) : TabAt w' :=
  fun i hi => (hB.cell (p := ⟨0, i, none⟩) hlt).trans (h i hi)

theorem u32_not (r : Nat) (h : r < 4294967296) : bits .xor .u32 4294967295 (r : Int) = ((4294967295 - r : Nat) : Int) := by
  show IntKind.u32.wrap ((BitVec.ofInt 32 4294967295 ^^^ BitVec.ofInt 32 (r : Int)).toNat : Int) = _
  have h1 : BitVec.ofInt 32 4294967295 = BitVec.allOnes 32 := by decide
  rw [h1, BitVec.allOnes_xor, BitVec.toNat_not, BitVec.ofInt_natCast, BitVec.toNat_ofNat, Nat.mod_eq_of_lt (by omega)]
  simp [IntKind.wrap, IntKind.bits, IntKind.signed]
  omega
theorem chw_bits {e f g : Nat} (he : e < 4294967296) (hf : f < 4294967296) (hg : g < 4294967296) :
    bits .xor .u32 (bits .and .u32 (e : Int) (f : Int)) (bits .and .u32 (bits .xor .u32 4294967295 (e : Int)) (g : Int)) = (chw e f g : Nat) := by
  rw [u32_not e he, u32_and_nat e f he hf, u32_and_nat _ g (by omega) hg, u32_xor_nat _ _ (Nat.and_lt_two_pow (n := 32) _ hf) (Nat.and_lt_two_pow (n := 32) _ hg)]
  rfl
theorem majw_bits {a b c : Nat} (ha : a < 4294967296) (hb : b < 4294967296) (hc : c < 4294967296) :
    bits .xor .u32 (bits .xor .u32 (bits .and .u32 (a : Int) (b : Int)) (bits .and .u32 (a : Int) (c : Int))) (bits .and .u32 (b : Int) (c : Int)) = (majw a b c : Nat) := by
  rw [u32_and_nat a b ha hb, u32_and_nat a c ha hc, u32_and_nat b c hb hc]
  exact xor3_bits (Nat.and_lt_two_pow (n := 32) _ hb) (Nat.and_lt_two_pow (n := 32) _ hc) (Nat.and_lt_two_pow (n := 32) _ hc)
theorem bsig1_bits {x : Nat} (hx : x < 4294967296) : bits .xor .u32 (bits .xor .u32 (rotr x 6 : Nat) (rotr x 11 : Nat)) (rotr x 25 : Nat) = (bsig1 x : Nat) :=
  xor3_bits (rotr_lt hx (by decide)) (rotr_lt hx (by decide)) (rotr_lt hx (by decide))
theorem bsig0_bits {x : Nat} (hx : x < 4294967296) : bits .xor .u32 (bits .xor .u32 (rotr x 2 : Nat) (rotr x 13 : Nat)) (rotr x 22 : Nat) = (bsig0 x : Nat) :=
  xor3_bits (rotr_lt hx (by decide)) (rotr_lt hx (by decide)) (rotr_lt hx (by decide))

theorem index8 (x0 x1 x2 x3 x4 x5 x6 x7 : Value) : ∀ j, j < 8 → ∀ w, (Instr.index 60 (.agg #[x0, x1, x2, x3, x4, x5, x6, x7]) (.int .i64 (j : Nat))).run Tryd.prog w = .ok ([x0, x1, x2, x3, x4, x5, x6, x7].getD j undef) w
  | 0, _, _ | 1, _, _ | 2, _, _ | 3, _, _ | 4, _, _ | 5, _, _ | 6, _, _ | 7, _, _ => by kernel_rfl
theorem index8w (r : W8) (j : Nat) (hj : j < 8) (w : World) : (Instr.index 60 (.agg #[.int .u32 r.a, .int .u32 r.b, .int .u32 r.c, .int .u32 r.d, .int .u32 r.e, .int .u32 r.f, .int .u32 r.g, .int .u32 r.h]) (.int .i64 (j : Nat))).run Tryd.prog w = .ok (.int .u32 (r.list.getD j 0 : Nat)) w := by
  rw [index8 _ _ _ _ _ _ _ _ j hj]
  match j, hj with
  | 0, _ | 1, _ | 2, _ | 3, _ | 4, _ | 5, _ | 6, _ | 7, _ => rfl
theorem info_words : (Tryd.prog.info? 60).map (·.size) = some 8 := by kernel_rfl
theorem W8.list_lt {v : W8} (h : v.ok) (j : Nat) : v.list.getD j 0 < 4294967296 := by
  obtain ⟨ha, hb, hc, hd, he, hf, hg, hh⟩ := h
  refine getD_lt (fun x hx => ?_) j
  simp [W8.list] at hx
  omega
theorem addW_get (u v : W8) : ∀ j, j < 8 → (addW u v).list.getD j 0 = (u.list.getD j 0 + v.list.getD j 0) % 4294967296
  | 0, _ | 1, _ | 2, _ | 3, _ | 4, _ | 5, _ | 6, _ | 7, _ => rfl
/-- The next place of a list that is turned from its head. -/
theorem turn_get {A B : List Nat} {j : Nat} (hl : A.length = B.length) (hj : j < B.length) : (A.take j ++ B.drop j).getD j 0 = B.getD j 0 := by
  have : (A.take j).length = j := by simp; omega
  rw [List.getD_eq_getElem?_getD, List.getElem?_append_right (by omega), this, Nat.sub_self, List.getElem?_drop, Nat.add_zero, List.getD_eq_getElem?_getD]
theorem turn_set {A B : List Nat} {j : Nat} (hl : A.length = B.length) (hj : j < B.length) : (A.take j ++ B.drop j).set j (A.getD j 0) = A.take (j + 1) ++ B.drop (j + 1) := by
  have h1 : (A.take j).length = j := by simp; omega
  rw [List.set_append_right _ _ (by omega), h1, Nat.sub_self, List.drop_eq_getElem_cons hj, List.set_cons_zero, List.take_succ_eq_append_getElem (by omega), List.append_assoc]
  simp [List.getD_eq_getElem?_getD, show j < A.length by omega]

set_option maxRecDepth 100000 in
set_option maxHeartbeats 2000000 in
theorem mixed_any (v : W8) (l : List UInt8) (w : World) (hv : v.ok) (hl : l.length = 64) (hT : TabAt w) :
    Calls Tryd.prog 55 #[.agg (u32s v.list), .agg (u8s l)] w fun e w' => e = .returned (.agg (u32s (mix v l).list)) ∧ Below w.heap.size w w' := by
  have HT := Lib.hid hT
  have hz := hT.size
  have HV := Lib.hid hv
  have hS := fun w => schedule_any l w hl
  have HS := Lib.hid hS
  clear hT hS
  generalize hvl : u32s v.list = vs
  have HVS := Lib.hid hvl
  generalize hbl : u8s l = bs at *
  have HBS := Lib.hid hbl
  have hbs : bs.size = 64 := by rw [← hbl, u8s_size, hl]
  have HBN := Lib.hid hbs
  clear hv hvl hbl hbs hl
  go_enter Tryd.func55, Tryd.ntmps55
  go_wp2_with (refine wpList_load_row rfl 64 _ rfl (w.heap.size + 1) rfl 64 bs (0, 0) _ ((ArrAt.new' _ _ _ (by rw [World.size_alloc])).alloc _) Tryd.underlying64 rfl (info_block.trans (by rw [HBN.out])) ?_)
  refine (HS.out _).mono ?_; rintro e w1 ⟨rfl, hB⟩
  have hslen : (u32s (sched l)).size = 64 := by rw [u32s_size, sched, wext_len, words_len]
  generalize hsl : u32s (sched l) = ss at *
  have HSN := Lib.hid hslen
  have HSS := Lib.hid hsl
  clear hslen hsl
  have h1 : ArrAt w1 w.heap.size vs 60 := (((ArrAt.new _ _ _).alloc _).alloc _).below hB (by simp; omega)
  have h2 : ∃ zs : Array Value, zs.size = 8 ∧ ArrAt w1 (w.heap.size + 1 + 1) zs 60 := ⟨_, by rfl, (ArrAt.new' _ _ _ (by rw [World.size_alloc, World.size_alloc])).below hB (by simp)⟩
  have hB1 : Below w.heap.size w w1 := (((((Below.refl _ w).alloc (Nat.le_refl _) _).alloc (by simp) _).alloc (by rw [World.size_alloc, World.size_alloc]; omega) _)).trans (hB.mono (by simp; omega))
  have hsz : w.heap.size + 1 + 1 + 1 ≤ w1.heap.size := by have := hB.size; simpa using this
  have H1 := Lib.hid h1
  have H2 := Lib.hid h2
  clear h1 h2 hB
  go_wp2_with (refine wpList_store_row rfl 72 _ _ rfl w1.heap.size ss rfl rfl 72 _ (ArrAt.new _ _ _) (info_sched.trans (by rw [HSN.out])) (by rw [HSN.out]; rfl) (by rw [← HSS.out]; exact u32s_one _) ?_)
  rw [World.setRow_alloc_new]
  obtain ⟨w2, hw2⟩ : ∃ w2, w2 = w1.alloc (.cells ss 72) := ⟨_, rfl⟩
  rw [← hw2]
  obtain ⟨zs, hzl, h2⟩ := H2.out
  have A1 : ArrAt w2 w.heap.size vs 60 := by rw [hw2]; exact H1.out.alloc _
  have A2 : ArrAt w2 (w.heap.size + 1 + 1) zs 60 := by rw [hw2]; exact h2.alloc _
  have A3 : ArrAt w2 w1.heap.size ss 72 := by rw [hw2]; exact ArrAt.new _ _ _
  have A4 : Below w.heap.size w w2 := by rw [hw2]; exact hB1.alloc (by omega) _
  clear hw2 h2 hB1 H1 H2
  rw [← HVS.out] at A1
  have c0 : w2.cell? ⟨w.heap.size, 0, none⟩ = some (.int .u32 (v.a : Nat)) := A1.cell rfl
  have c1 : w2.cell? ⟨w.heap.size, 1, none⟩ = some (.int .u32 (v.b : Nat)) := A1.cell rfl
  have c2 : w2.cell? ⟨w.heap.size, 2, none⟩ = some (.int .u32 (v.c : Nat)) := A1.cell rfl
  have c3 : w2.cell? ⟨w.heap.size, 3, none⟩ = some (.int .u32 (v.d : Nat)) := A1.cell rfl
  have c4 : w2.cell? ⟨w.heap.size, 4, none⟩ = some (.int .u32 (v.e : Nat)) := A1.cell rfl
  have c5 : w2.cell? ⟨w.heap.size, 5, none⟩ = some (.int .u32 (v.f : Nat)) := A1.cell rfl
  have c6 : w2.cell? ⟨w.heap.size, 6, none⟩ = some (.int .u32 (v.g : Nat)) := A1.cell rfl
  have c7 : w2.cell? ⟨w.heap.size, 7, none⟩ = some (.int .u32 (v.h : Nat)) := A1.cell rfl
  have HA1 := Lib.hid A1
  have HA2 := Lib.hid A2
  have HA3 := Lib.hid A3
  have HA4 := Lib.hid A4
  have HZL := Lib.hid hzl
  clear A1 A2 A3 A4 hzl
  go_wp2_with fail
  go_quiet (fail)
  go_wp2_with fail
  have A1 : ArrAt (w2.drewN nq) w.heap.size (u32s v.list) 60 := HA1.out
  have A2 : ArrAt (w2.drewN nq) (w.heap.size + 1 + 1) zs 60 := HA2.out
  have A3 : ArrAt (w2.drewN nq) w1.heap.size ss 72 := HA3.out
  have A4 : Below w.heap.size w (w2.drewN nq) := below_drewN HA4.out _
  generalize w2.drewN nq = w3 at *
  clear HA1 HA2 HA3 HA4 c0 c1 c2 c3 c4 c5 c6 c7
  go_loopw [6, 7, 8, 9, 10, 11, 12, 13, 37] (fun a b c d e f g h i wr => ∃ k : Nat, k ≤ 64 ∧ i = .int .i64 k ∧ a = .int .u32 ((rnds (sched l) v k).a : Nat) ∧ b = .int .u32 ((rnds (sched l) v k).b : Nat) ∧ c = .int .u32 ((rnds (sched l) v k).c : Nat)
    ∧ d = .int .u32 ((rnds (sched l) v k).d : Nat) ∧ e = .int .u32 ((rnds (sched l) v k).e : Nat) ∧ f = .int .u32 ((rnds (sched l) v k).f : Nat) ∧ g = .int .u32 ((rnds (sched l) v k).g : Nat) ∧ h = .int .u32 ((rnds (sched l) v k).h : Nat)
    ∧ ArrAt wr w.heap.size (u32s v.list) 60 ∧ ArrAt wr (w.heap.size + 1 + 1) zs 60 ∧ ArrAt wr w1.heap.size ss 72 ∧ Below w.heap.size w wr) (fun _ _ _ _ _ _ _ _ i _ => 64 - (intOf i).toNat)
  case atStart => exact ⟨0, by omega, rfl, rfl, rfl, rfl, rfl, rfl, rfl, rfl, rfl, A1, A2, A3, A4⟩
  case round =>
    clear A1 A2 A3 A4
    obtain ⟨k, hk, rfl, rfl, rfl, rfl, rfl, rfl, rfl, rfl, rfl, A1, A2, A3, A4⟩ := hrel
    by_cases hlt : k < 64
    · have hok := rnds_ok HV.out (sched l) k
      have hsucc : rnds (sched l) v (k + 1) = rnd (rnds (sched l) v k) (shaK.getD k 0) ((sched l).getD k 0) := rfl
      generalize hr1 : rnds (sched l) v (k + 1) = r1 at *
      generalize rnds (sched l) v k = r at *
      obtain ⟨a, b, c, d, e, f, g, h⟩ := r
      obtain ⟨ba, bb, bc, bd, be, bf, bg, bh⟩ := hok
      simp only at ba bb bc bd be bf bg bh ⊢
      have t1 := HT.out.below A4 hz k hlt
      have bk : shaK.getD k 0 < 4294967296 := getD_lt shaK_lt k
      have bw : (sched l).getD k 0 < 4294967296 := getD_lt (wext_lt _ _ (words_lt l)) k
      have hc : wr.cell? ⟨w1.heap.size, k, none⟩ = some (.int .u32 ((sched l).getD k 0 : Nat)) := by
        refine A3.cell ?_
        rw [← HSS.out]
        exact u32s_getD (by rw [sched, wext_len, words_len]; omega)
      have g1 := bsig1_bits be
      have g2 := chw_bits be bf bg
      have g3 := bsig0_bits ba
      have g4 := majw_bits ba bb bc
      unfold rnd tw at hsucc
      simp only at hsucc
      generalize shaK.getD k 0 = xk at *
      generalize (sched l).getD k 0 = xw at *
      have l1 := bsig1_lt be
      have l2 := chw_lt (e := e) bf bg
      have l3 := bsig0_lt ba
      have l4 := majw_lt (a := a) bb bc
      generalize bsig1 e = y1 at *
      generalize chw e f g = y2 at *
      generalize bsig0 a = y3 at *
      generalize majw a b c = y4 at *
      have HSUC := Lib.hid hsucc
      have HR1 := Lib.hid hr1
      have HA1 := Lib.hid A1
      have HA2 := Lib.hid A2
      have HA3 := Lib.hid A3
      have HA4 := Lib.hid A4
      have hlt' : (k : Int) < 64 := by omega
      have hsg : IntKind.u32.signed = false := rfl
      have hmx : IntKind.u32.max = 4294967295 := by decide
      have BE := Lib.hid be
      have BA := Lib.hid ba
      clear hsucc hr1 A1 A2 A3 A4 hlt
      go_wp2_with fail
      go_quiet ((go_at_call 63; exact Calls.quiet_of_same (rotated_q e _ _ BE.out (by decide) (by decide))))
      go_wp2_with fail
      refine (rotated_q a 2 _ BA.out (by decide) (by decide)).mono ?_; rintro e' w' ⟨rfl, rfl⟩
      go_wp2_with fail
      refine (rotated_q a 13 _ BA.out (by decide) (by decide)).mono ?_; rintro e' w' ⟨rfl, rfl⟩
      go_wp2_with fail
      refine (rotated_q a 22 _ BA.out (by decide) (by decide)).mono ?_; rintro e' w' ⟨rfl, rfl⟩
      go_wp2_with fail
      go_roundw
      case rel =>
        refine ⟨k + 1, by omega, by go_num, ?_, ?_, ?_, ?_, ?_, ?_, ?_, ?_, HA1.out, HA2.out, HA3.out, below_drewN HA4.out _⟩ <;> rw [HR1.out, HSUC.out] <;> simp only <;> congr 1 <;> omega
      case measure => simp [intOf]; omega
    · have hk64 : k = 64 := by omega
      have hk65 : 64 ≤ (k : Int) := by omega
      have hmix : mix v l = addW v (rnds (sched l) v k) := mix_at hk64
      have hrok := rnds_ok HV.out (sched l) k
      generalize rnds (sched l) v k = r at *
      have IX := fun j hj w => index8w r j hj w
      have HIX := Lib.hid IX
      have HMIX := Lib.hid hmix
      have HROK := Lib.hid hrok
      have HA1 := Lib.hid A1
      have HA2 := Lib.hid A2
      clear A1 A2 A3 hk64 hlt hmix hrok IX hk
      obtain ⟨w4, rfl⟩ : ∃ w4, w4 = wr := ⟨_, rfl⟩
      go_wp2_with fail
      go_loopw [17, 18, 109] (fun _ _ i wr => ∃ j : Nat, j ≤ 8 ∧ i = .int .i64 j ∧ ArrAt wr w.heap.size (u32s ((mix v l).list.take j ++ v.list.drop j)) 60 ∧ ArrAt wr (w.heap.size + 1 + 1) zs 60 ∧ Below w.heap.size w wr) (fun _ _ i _ => 8 - (intOf i).toNat)
      case atStart => exact ⟨0, by omega, rfl, HA1.out, HA2.out, A4⟩
      case round =>
        clear HA1 HA2 A4
        obtain ⟨j, hj, rfl, A1, A2, A4⟩ := hrel
        by_cases hlt : j < 8
        · have hlt' : (j : Int) < 8 := by omega
          have hix := HIX.out j hlt
          have hl8 : (mix v l).list.length = v.list.length := by rw [W8.list_len, W8.list_len]
          have hget := addW_get v r j hlt
          rw [← HMIX.out] at hget
          have hc : wr.cell? ⟨w.heap.size, j, none⟩ = some (.int .u32 (v.list.getD j 0 : Nat)) := by
            rw [← turn_get hl8 hlt]
            exact A1.cell (u32s_getD (by simp [W8.list]; omega))
          have hf : wr.frozen? ⟨w.heap.size, j, none⟩ = false := A1.frozen
          have b1 := W8.list_lt HV.out j
          have b2 := W8.list_lt HROK.out j
          have hset := turn_set hl8 hlt
          generalize (mix v l).list.getD j 0 = z at *
          generalize v.list.getD j 0 = x at *
          generalize r.list.getD j 0 = y at *
          have HG := Lib.hid hget
          have HS := Lib.hid hset
          have HA1 := Lib.hid A1
          have HA2 := Lib.hid A2
          clear hget hset A1 A2 hl8 hlt
          go_wp2_with fail
          go_roundw
          case rel =>
            refine ⟨j + 1, by omega, by go_num, ?_, HA2.out.other (by omega) _, A4.setCell (p := ⟨w.heap.size, j, none⟩) (Nat.le_refl _) _⟩
            have := HA1.out.set j (.int .u32 (z : Nat))
            rw [u32s_set, HS.out] at this
            rw [show ((x : Int) + y) % 4294967296 = (z : Nat) by rw [HG.out]; omega]
            exact this
          case measure => simp [intOf]; omega
        · have hj8 : j = 8 := by omega
          have hj9 : 8 ≤ (j : Int) := by omega
          have hfin : (mix v l).list.take j ++ v.list.drop j = (mix v l).list := by
            rw [List.take_of_length_le (by rw [W8.list_len]; omega), List.drop_eq_nil_of_le (by rw [W8.list_len]; omega), List.append_nil]
          rw [hfin] at A1
          have hlen : (u32s (mix v l).list).size = 8 := by rw [u32s_size, W8.list_len]
          have hone : (u32s (mix v l).list).all (·.oneCell') = true := u32s_one _
          generalize hX : u32s (mix v l).list = X at *
          have HX := Lib.hid hX
          have HA1 := Lib.hid A1
          have HA2 := Lib.hid A2
          have HN := Lib.hid hlen
          have HO := Lib.hid hone
          clear A1 A2 hlen hone hX hlt hj8 hfin hj HIX HMIX HSS
          obtain ⟨w5, rfl⟩ : ∃ w5, w5 = wr := ⟨_, rfl⟩
          go_wp2_with (first
            | (refine wpList_load_row rfl 60 _ rfl w.heap.size rfl 60 X (0, 0) _ HA1.out Tryd.underlying60 rfl (info_words.trans (by rw [HN.out])) ?_)
            | (refine wpList_store_row rfl 60 _ _ rfl (w.heap.size + 1 + 1) X rfl rfl 60 zs HA2.out (info_words.trans (by rw [HN.out])) (by rw [HZL.out, HN.out]) HO.out ?_))
          refine bodyPost_ret (results_cell_row rfl _ _ (w.heap.size + 1 + 1) 60 X (0, 0) _ rfl (HA2.out.row X) Tryd.underlying60 rfl (info_words.trans (by rw [HN.out]))) rfl ?_
          refine ⟨?_, below_setRow A4 (by omega) _⟩
          rw [← HX.out]
end Go.Proofs.YtdhpighnkoamiaaDoor
