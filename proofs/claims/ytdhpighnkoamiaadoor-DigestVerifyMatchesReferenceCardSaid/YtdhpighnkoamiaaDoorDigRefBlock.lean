/- The contract of the reference's block. -/
import Derived.BigQuiet
import Derived.Deep.QuietTactic
import Derived.Deep.RegionHeld3
import Derived.Deep.RegionLaw
import Derived.Test.YtdhpighnkoamiaaDoorDigRefExt
namespace Go.Proofs.YtdhpighnkoamiaaDoor
open Go.RowKit Putlog

def u32l (l : List Nat) : List Value := l.map fun n : Nat => .int .u32 (n : Int)
theorem u32l_snoc (l : List Nat) (b : Nat) : u32l (l ++ [b]) = u32l l ++ [.int .u32 (b : Nat)] := by simp [u32l]
/-- Words, bytes that lie in a block. -/
def U32At (w : World) (b o : Nat) (l : List Nat) : Prop := ∀ j, j < l.length → w.cell? ⟨b, o + j, none⟩ = some (.int .u32 (l.getD j 0 : Nat))
def U8At (w : World) (b o : Nat) (l : List UInt8) : Prop := ∀ j, j < l.length → w.cell? ⟨b, o + j, none⟩ = some (.int .u8 ((l.getD j 0).toNat : Nat))
theorem U32At.via {w w' : World} {b o : Nat} {l : List Nat} (hB : Below w.heap.size w w') (h : U32At w b o l) : U32At w' b o l := fun j hj => keptBelow hB (h j hj)
theorem U8At.via {w w' : World} {b o : Nat} {l : List UInt8} (hB : Below w.heap.size w w') (h : U8At w b o l) : U8At w' b o l := fun j hj => keptBelow hB (h j hj)
/-- The row that a slice owns, as cells. -/
theorem ownsRow_u32 {w : World} {B : Nat} {v : Value} {l : List Nat} (h : w.ownsRow B 48 1 v l.length (u32l l)) (h0 : 0 < l.length) : ∃ g c, v = .slice (some ⟨g, 0, none⟩) l.length c ∧ B ≤ g ∧ l.length ≤ c ∧ (c : Int) ≤ 9223372036854775807 ∧ U32At w g 0 l := by
  obtain ⟨_, hv | ⟨g, cap, cur, hv, hg, hh, h1, h2, h3, h4⟩⟩ := h
  · omega
  · refine ⟨g, cap, hv, hg, h1, by unfold maxLen at h2; omega, fun j hj => ?_⟩
    rw [Nat.zero_add, cell_of_row w g j cur _ (0, 0) hh]
    rw [Nat.mul_one] at h4
    have h5 : (cur.toList.take l.length)[j]? = (u32l l)[j]? := by rw [h4]
    rw [List.getElem?_take_of_lt hj] at h5
    rw [Array.getElem?_toList] at h5
    rw [h5]
    simp [u32l, List.getD_eq_getElem?_getD, hj]
theorem app_next32 {w wr w3 : World} {l : List Nat} {b : Nat} {v v' : Value} {o : Obj} (hO : wr.ownsRow w.heap.size 48 1 v l.length (u32l l)) (hB : Below w.heap.size w wr)
    (hown : w3.ownsRow w.heap.size 48 1 v' (l.length + 1) (u32l l ++ [.int .u32 (b : Nat)])) (hg : (wr.alloc o).grownBy w3 v.ownBlock) :
    w3.ownsRow w.heap.size 48 1 v' (l ++ [b]).length (u32l (l ++ [b])) ∧ Below w.heap.size w w3 := by
  refine ⟨?_, belowGrown (hB.alloc hB.size o) (hO.alloc o) hg⟩
  rw [u32l_snoc, List.length_append]
  exact hown
theorem cellR {W : World} {a : Addr} {v : Value} (o : Obj) (h : W.cell? a = some v) : (W.alloc o).cell? a = some v := cell_kept (W := W) h (World.grownBy_alloc W o none) (fun r e => by cases e)
theorem news_u32 {w : World} {b o : Nat} {l : List Nat} (h : U32At w b o l) : ∀ j u, (u32l l)[j]? = some u → w.cell? ((⟨b, o, none⟩ : Addr).add j) = some u := by
  intro j u hu
  simp only [u32l, List.getElem?_map, Option.map_eq_some_iff] at hu
  obtain ⟨x, h1, rfl⟩ := hu
  have hj := (List.getElem?_eq_some_iff.1 h1).1
  have h2 := h j hj
  rw [List.getD_eq_getElem?_getD, h1, Option.getD_some] at h2
  unfold Addr.add
  split
  · rename_i h10; subst h10; exact h2
  · exact h2
theorem one_u32l (l : List Nat) : ∀ u ∈ u32l l, u.oneCell' = true := by
  intro u hu
  obtain ⟨x, _, rfl⟩ := List.mem_map.1 hu
  rfl
theorem u32At_lit (W : World) (l : List Nat) : U32At (W.alloc (.cells (u32s l) 48)) W.heap.size 0 l := fun j hj => by
  rw [Nat.zero_add]; exact (ArrAt.new W (u32s l) 48).cell (u32s_getD hj)
theorem ownsRow_base {w : World} {B B' n : Nat} {t : TypeId} {v : Value} {xs : List Value} (h : w.ownsRow B' t 1 v n xs) (hb : B ≤ B') : w.ownsRow B t 1 v n xs := by
  obtain ⟨h1, h2⟩ := h
  refine ⟨h1, ?_⟩
  rcases h2 with h2 | ⟨g, cap, cur, hv, hg, r⟩
  · exact .inl h2
  · exact .inr ⟨g, cap, cur, hv, Nat.le_trans hb hg, r⟩
theorem blk_b2 {n : Nat} (h : n ≤ 100000) : (n + 1) * 4 ≤ 140737488355328 := by omega

set_option maxRecDepth 100000 in
set_option maxHeartbeats 40000000 in
theorem rblock_any (V : W8) (hV : V.ok) (l : List UInt8) (hl : l.length = 64) (bh oh ch bb ob cb : Nat) (w : World) (h1 : U32At w bh oh V.list) (h2 : U8At w bb ob l) :
    Calls Tryd.prog 42 #[.slice (some ⟨bh, oh, none⟩) 8 ch, .slice (some ⟨bb, ob, none⟩) 64 cb] w fun e w' => ∃ v, e = .returned v ∧ w'.ownsRow w.heap.size 48 1 v (mix V l).list.length (u32l (mix V l).list) ∧ Below w.heap.size w w' := by
  obtain ⟨i0, hi0, hz0, hz1, hz2⟩ := info_parts rinfo_u32
  have HI0 := Lib.hid hi0
  have HZ0 := Lib.hid hz0
  have HZ1 := Lib.hid hz1
  have HZ2 := Lib.hid hz2
  have H1 := Lib.hid h1
  have H2 := Lib.hid h2
  have HL := Lib.hid hl
  have HV := Lib.hid hV
  clear hi0 hz0 hz1 hz2 h1 h2 hl hV
  obtain ⟨R, hR⟩ : ∃ R, R = mix V l := ⟨_, rfl⟩
  rw [← hR]
  have HR := Lib.hid hR
  clear hR
  go_enter Tryd.func42, Tryd.ntmps42
  go_wp2_with fail
  go_loopw [5, 6] (fun v i wr => ∃ k : Nat, k ≤ 16 ∧ i = .int .i64 k ∧ wr.ownsRow w.heap.size 48 1 v ((words l).take k).length (u32l ((words l).take k)) ∧ Below w.heap.size w wr) (fun _ i _ => 16 - (intOf i).toNat)
  case atStart => exact ⟨0, by omega, rfl, World.ownsRow_nil _ _ _ _, Below.refl _ _⟩
  case round =>
    obtain ⟨k, hk, rfl, hown, hB⟩ := hrel
    have HO := Lib.hid hown
    have HB := Lib.hid hB
    clear hown hB
    by_cases hlt : k < 16
    ·
      have hlt' : (k : Int) < 16 := by omega
      have hd0 := H2.out (4 * k) (by rw [HL.out]; omega)
      have hd1 := H2.out (4 * k + 1) (by rw [HL.out]; omega)
      have hd2 := H2.out (4 * k + 2) (by rw [HL.out]; omega)
      have hd3 := H2.out (4 * k + 3) (by rw [HL.out]; omega)
      have hc0 := keptBelow HB.out hd0
      have hc1 := keptBelow HB.out hd1
      have hc2 := keptBelow HB.out hd2
      have hc3 := keptBelow HB.out hd3
      have b0 := UInt8.toNat_lt (l.getD (4 * k) 0)
      have b1 := UInt8.toNat_lt (l.getD (4 * k + 1) 0)
      have b2 := UInt8.toNat_lt (l.getD (4 * k + 2) 0)
      have b3 := UInt8.toNat_lt (l.getD (4 * k + 3) 0)
      have hwk := words_get (l := l) hlt
      have HK : Hid (((words l).take k).length ≤ 100000) := by show _ ≤ _; rw [List.length_take]; omega
      have HA : Hid ((words l).take k ++ [word4 (l.getD (4 * k) 0).toNat (l.getD (4 * k + 1) 0).toNat (l.getD (4 * k + 2) 0).toNat (l.getD (4 * k + 3) 0).toNat] = (words l).take (k + 1)) := by
        show _ = _
        rw [List.take_succ_eq_append_getElem (by rw [words_len]; exact hlt), (List.getElem_eq_iff (by rw [words_len]; omega)).2 hwk]
      generalize (words l).take k = y at *
      generalize (l.getD (4 * k) 0).toNat = x0 at *
      generalize (l.getD (4 * k + 1) 0).toNat = x1 at *
      generalize (l.getD (4 * k + 2) 0).toNat = x2 at *
      generalize (l.getD (4 * k + 3) 0).toNat = x3 at *
      have hwd := word4_bits b0 b1 b2 b3
      generalize word4 x0 x1 x2 x3 = xx at *
      have hm1 : (x0 : Int) < 256 := by omega
      have hm2 : (x1 : Int) < 256 := by omega
      have hm3 : (x2 : Int) < 256 := by omega
      have hm4 : (x3 : Int) < 256 := by omega
      clear hwk b0 b1 b2 b3
      go_wp2_with fail
      have e0 : IntKind.i64.wrap (4 * (k : Int)) = 4 * (k : Int) := IntWalk.i64_in _ (by omega)
      have e1 : IntKind.i64.wrap (4 * (k : Int) + 1) = 4 * (k : Int) + 1 := IntWalk.i64_in _ (by omega)
      have e2 : IntKind.i64.wrap (4 * (k : Int) + 2) = 4 * (k : Int) + 2 := IntWalk.i64_in _ (by omega)
      have e3 : IntKind.i64.wrap (4 * (k : Int) + 3) = 4 * (k : Int) + 3 := IntWalk.i64_in _ (by omega)
      have p0 : 0 ≤ 4 * (k : Int) := by omega
      have p1 : 0 ≤ 4 * (k : Int) + 1 := by omega
      have p2 : 0 ≤ 4 * (k : Int) + 2 := by omega
      have p3 : 0 ≤ 4 * (k : Int) + 3 := by omega
      have q0 : 4 * (k : Int) < 64 := by omega
      have q1 : 4 * (k : Int) + 1 < 64 := by omega
      have q2 : 4 * (k : Int) + 2 < 64 := by omega
      have q3 : 4 * (k : Int) + 3 < 64 := by omega
      have t0 : (4 * (k : Int)).toNat = 4 * k := by omega
      have t1 : (4 * (k : Int) + 1).toNat = 4 * k + 1 := by omega
      have t2 : (4 * (k : Int) + 2).toNat = 4 * k + 2 := by omega
      have t3 : (4 * (k : Int) + 3).toNat = 4 * k + 3 := by omega
      have k64 : (k : Int) < 64 := by omega
      have w0 : IntKind.u32.wrap (x0 : Int) = x0 := IntWalk.u32_in _ (by omega)
      have w1 : IntKind.u32.wrap (x1 : Int) = x1 := IntWalk.u32_in _ (by omega)
      have w2 : IntKind.u32.wrap (x2 : Int) = x2 := IntWalk.u32_in _ (by omega)
      have w3 : IntKind.u32.wrap (x3 : Int) = x3 := IntWalk.u32_in _ (by omega)
      have w4 : IntKind.u32.wrap ((x0 : Int) * 16777216) = x0 * 16777216 := IntWalk.u32_in _ (by omega)
      have w5 : IntKind.u32.wrap ((x1 : Int) * 65536) = x1 * 65536 := IntWalk.u32_in _ (by omega)
      have w6 : IntKind.u32.wrap ((x2 : Int) * 256) = x2 * 256 := IntWalk.u32_in _ (by omega)
      have HOd : Hid (wr.drew.ownsRow w.heap.size 48 1 u5 y.length (u32l y)) := HO.out
      have HBd : Hid (Below w.heap.size w wr.drew) := HB.out.drew
      go_region_held3 (fun w' => w'.cell? ⟨bb, ob + 4 * k, none⟩ = some (.int .u8 (x0 : Nat)) ∧ w'.cell? ⟨bb, ob + (4 * k + 1), none⟩ = some (.int .u8 (x1 : Nat)) ∧ w'.cell? ⟨bb, ob + (4 * k + 2), none⟩ = some (.int .u8 (x2 : Nat)) ∧ w'.cell? ⟨bb, ob + (4 * k + 3), none⟩ = some (.int .u8 (x3 : Nat)))
        (first | exact ⟨hc0, hc1, hc2, hc3⟩ | exact ⟨cellR _ hc0, cellR _ hc1, cellR _ hc2, cellR _ hc3⟩ | exact ⟨keptBelow hB3 hd0, keptBelow hB3 hd1, keptBelow hB3 hd2, keptBelow hB3 hd3⟩) (first
        | (refine step_append_own rfl _ _ 49 rfl w.heap.size 48 i0 (.int .u32 0) 1 4 Tryd.underlying49 HI0.out HZ0.out HZ1.out HZ2.out rfl (by decide) u5 y.length (u32l y) (by rfl) (HOd.out.alloc _) ⟨wr.heap.size, 0, none⟩ 1 1 [.int .u32 (xx : Nat)] (by rfl) rfl (news_val _ _ _) (one_u32 _) (ext_b1 HK.out) (blk_b2 HK.out) (ext_b3 HB.out) (fun v' w9 hown3 hgrow3 => ?_); have hB3 := (app_next32 (b := xx) HOd.out HBd.out hown3 hgrow3).2))
      clear e0 e1 e2 e3 p0 p1 p2 p3 q0 q1 q2 q3 t0 t1 t2 t3 w0 w1 w2 w3 w4 w5 w6
      have HN := Lib.hid (app_next32 (b := xx) HOd.out HBd.out hown3 hgrow3)
      rw [HA.out] at HN
      clear hown3 hgrow3
      go_wp2_with fail
      go_roundw
      case rel => exact ⟨k + 1, by omega, by go_num, HN.out.1, HN.out.2⟩
      case measure => simp [intOf]; omega
    · have he : (words l).take k = wext (16 - 16) (words l) := List.take_of_length_le (by rw [words_len]; omega)
      rw [he] at HO
      have hlt2 : 16 ≤ (k : Int) := by omega
      clear he hlt hk
      obtain ⟨W, rfl⟩ : ∃ W, W = wr := ⟨_, rfl⟩
      go_wp2_with fail
      go_loopw [5, 7] (fun v s wr => ∃ i : Nat, 16 ≤ i ∧ i ≤ 64 ∧ s = .int .i64 (i : Int) ∧ wr.ownsRow w.heap.size 48 1 v (wext (i - 16) (words l)).length (u32l (wext (i - 16) (words l))) ∧ Below w.heap.size w wr) (fun _ s _ => 64 - (intOf s).toNat)
      case atStart => exact ⟨16, by omega, by omega, rfl, HO.out, HB.out⟩
      case round =>
        clear HO HB
        obtain ⟨i, hi, hj, rfl, hown, hB⟩ := hrel
        by_cases hlt : i < 64
        ·
          have hvl : (wext (i - 16) (words l)).length = i := by rw [wext_len, words_len]; omega
          have hvb := wext_lt (i - 16) _ (words_lt l)
          have hsn := wext_snoc (i - 16) (words l)
          generalize hv : wext (i - 16) (words l) = v at *
          obtain ⟨g, cg, rfl, hg, hcg, hcg2, hcells⟩ := ownsRow_u32 hown (by omega)
          have hc1 := hcells (i - 15) (by omega)
          have hc2 := hcells (i - 2) (by omega)
          have hc3 := hcells (i - 16) (by omega)
          have hc4 := hcells (i - 7) (by omega)
          rw [Nat.zero_add] at hc1 hc2 hc3 hc4
          have hnw : nextWord v = (((v.getD (i - 16) 0 + sig0 (v.getD (i - 15) 0)) % 4294967296 + v.getD (i - 7) 0) % 4294967296 + sig1 (v.getD (i - 2) 0)) % 4294967296 := by unfold nextWord; rw [hvl]
          have b1 := getD_lt hvb (i - 15)
          have b2 := getD_lt hvb (i - 2)
          have b3 := getD_lt hvb (i - 16)
          have b4 := getD_lt hvb (i - 7)
          have g1 := sig0_bits b1
          have g2 := sig1_bits b2
          have l1 := sig0_lt b1
          have l2 := sig1_lt b2
          generalize v.getD (i - 15) 0 = x1 at *
          generalize v.getD (i - 2) 0 = x2 at *
          generalize v.getD (i - 16) 0 = x3 at *
          generalize v.getD (i - 7) 0 = x4 at *
          generalize sig0 x1 = y1 at *
          generalize sig1 x2 = y2 at *
          have HN := Lib.hid hnw
          have HS := Lib.hid hsn
          have HVL := Lib.hid hvl
          have HO := Lib.hid hown
          have HB := Lib.hid hB
          have B1 := Lib.hid b1
          have B2 := Lib.hid b2
          have hlt' : (i : Int) < 64 := by omega
          have e1 : IntKind.i64.wrap ((i : Int) - 15) = (i : Int) - 15 := IntWalk.i64_in _ (by omega)
          have e2 : IntKind.i64.wrap ((i : Int) - 2) = (i : Int) - 2 := IntWalk.i64_in _ (by omega)
          have e3 : IntKind.i64.wrap ((i : Int) - 16) = (i : Int) - 16 := IntWalk.i64_in _ (by omega)
          have e4 : IntKind.i64.wrap ((i : Int) - 7) = (i : Int) - 7 := IntWalk.i64_in _ (by omega)
          have p1 : 0 ≤ (i : Int) - 15 := by omega
          have p2 : 0 ≤ (i : Int) - 2 := by omega
          have p3 : 0 ≤ (i : Int) - 16 := by omega
          have p4 : 0 ≤ (i : Int) - 7 := by omega
          have q1 : (i : Int) - 15 < v.length := by omega
          have q2 : (i : Int) - 2 < v.length := by omega
          have q3 : (i : Int) - 16 < v.length := by omega
          have q4 : (i : Int) - 7 < v.length := by omega
          have t1 : ((i : Int) - 15).toNat = i - 15 := by omega
          have t2 : ((i : Int) - 2).toNat = i - 2 := by omega
          have t3 : ((i : Int) - 16).toNat = i - 16 := by omega
          have t4 : ((i : Int) - 7).toNat = i - 7 := by omega
          have n1 : i - 15 < v.length := by omega
          have n2 : i - 2 < v.length := by omega
          have n3 : i - 16 < v.length := by omega
          have n4 : i - 7 < v.length := by omega
          have hsg : IntKind.u32.signed = false := rfl
          clear hnw hsn hvl hown hB hv hvb b1 b2 hlt hcells
          go_wp2_with fail
          go_quiet ((go_at_call 56; exact rrot_q x1 _ _ _ B1.out (by decide) (by decide)))
          have HO2 : Hid ((wr.drewN nq).ownsRow w.heap.size 48 1 (.slice (some ⟨g, 0, none⟩) v.length cg) v.length (u32l v)) := HO.out
          have HB2 : Hid (Below w.heap.size w (wr.drewN nq)) := below_drewN HB.out _
          have k2 : (wr.drewN nq).cell? ⟨g, i - 2, none⟩ = some (.int .u32 (x2 : Nat)) := hc2
          have k3 : (wr.drewN nq).cell? ⟨g, i - 16, none⟩ = some (.int .u32 (x3 : Nat)) := hc3
          have k4 : (wr.drewN nq).cell? ⟨g, i - 7, none⟩ = some (.int .u32 (x4 : Nat)) := hc4
          generalize wr.drewN nq = w2 at *
          clear hc1 hc2 hc3 hc4 HO HB
          go_wp2_with fail
          go_quiet ((go_at_call 56; exact rrot_q x2 _ _ _ B2.out (by decide) (by decide)))
          have HO3 : Hid ((w2.drewN nq).ownsRow w.heap.size 48 1 (.slice (some ⟨g, 0, none⟩) v.length cg) v.length (u32l v)) := HO2.out
          have HB3 : Hid (Below w.heap.size w (w2.drewN nq)) := below_drewN HB2.out _
          have c3 : (w2.drewN nq).cell? ⟨g, i - 16, none⟩ = some (.int .u32 (x3 : Nat)) := k3
          have c4 : (w2.drewN nq).cell? ⟨g, i - 7, none⟩ = some (.int .u32 (x4 : Nat)) := k4
          generalize w2.drewN nq = w3 at *
          clear k2 k3 k4 HO2 HB2
          go_wp2_with fail
          have HK : Hid (v.length ≤ 100000) := by show _ ≤ _; have := HVL.out; omega
          have u1 : IntKind.u32.wrap ((x3 : Int) + y1) = ((x3 + y1) % 4294967296 : Nat) := by rw [IntKind.wrap_u32]; omega
          have z1b : (x3 + y1) % 4294967296 < 4294967296 := Nat.mod_lt _ (by decide)
          generalize (x3 + y1) % 4294967296 = z1 at *
          have u2 : IntKind.u32.wrap ((z1 : Int) + x4) = ((z1 + x4) % 4294967296 : Nat) := by rw [IntKind.wrap_u32]; omega
          have z2b : (z1 + x4) % 4294967296 < 4294967296 := Nat.mod_lt _ (by decide)
          generalize (z1 + x4) % 4294967296 = z2 at *
          have u3 : IntKind.u32.wrap ((z2 : Int) + y2) = ((z2 + y2) % 4294967296 : Nat) := by rw [IntKind.wrap_u32]; omega
          generalize (z2 + y2) % 4294967296 = z3 at *
          have HO3d : Hid (w3.drew.ownsRow w.heap.size 48 1 (.slice (some ⟨g, 0, none⟩) v.length cg) v.length (u32l v)) := HO3.out
          have HB3d : Hid (Below w.heap.size w w3.drew) := HB3.out.drew
          clear z1b z2b
          have z4 : 16 ≤ (i : Int) := by omega
          have z5 : 7 ≤ (i : Int) := by omega
          go_region_law (first
            | (refine step_append_own rfl _ _ 49 rfl w.heap.size 48 i0 (.int .u32 0) 1 4 Tryd.underlying49 HI0.out HZ0.out HZ1.out HZ2.out rfl (by decide) (.slice (some ⟨g, 0, none⟩) v.length cg) v.length (u32l v) (by rfl) (HO3d.out.alloc _) ⟨w3.heap.size, 0, none⟩ 1 1 [.int .u32 (z3 : Nat)] (by rfl) rfl (news_val _ _ _) (one_u32 _) (ext_b1 HK.out) (blk_b2 HK.out) (ext_b3 HB3.out) (fun v' w9 hown3 hgrow3 => ?_)))
          all_goals
            have HN2 := Lib.hid (app_next32 (b := z3) HO3d.out HB3d.out hown3 hgrow3)
            rw [← HN.out, ← HS.out, show i - 16 + 1 = i + 1 - 16 by omega] at HN2
            clear hown3 hgrow3 HO3 HB3 HO3d HB3d u1 u2 u3 e1 e2 e3 e4 p1 p2 p3 p4 q1 q2 q3 q4 t1 t2 t3 t4 n1 n2 n3 n4 c3 c4 g1 g2
            go_wp2_with fail
            go_roundw
            case rel => exact ⟨i + 1, by omega, by omega, by go_num, HN2.out.1, HN2.out.2⟩
            case measure => simp [intOf]; omega
        · have hi64 : i = 64 := by omega
          rw [hi64] at hown
          have hX0 : wext (64 - 16) (words l) = sched l := by rw [sched]
          rw [hX0] at hown
          have hsl : (sched l).length = 64 := by rw [sched, wext_len, words_len]
          obtain ⟨g, cg, rfl, hg, hcg, hcg2, hcells⟩ := ownsRow_u32 hown (by omega)
          rw [hsl] at hcg ⊢
          have hi65 : 64 ≤ (i : Int) := by omega
          have HSL := Lib.hid hsl
          have HSC := Lib.hid hcells
          have HB := Lib.hid hB
          obtain ⟨sc, hsc⟩ : ∃ sc, sc = sched l := ⟨_, rfl⟩
          rw [← hsc] at HSL HSC
          have HSD := Lib.hid hsc
          clear hown hX0 hsl hcells hB hlt hi64 hi hj hsc
          obtain ⟨W4, rfl⟩ : ∃ W4, W4 = wr := ⟨_, rfl⟩
          go_wp2_with fail
          refine (rconst_any W4).mono ?_
          rintro e W5 ⟨rfl, hK, hB5⟩
          have HK := Lib.hid hK
          have HB5 := Lib.hid (belowVia hB5 HB.out)
          have HSC5 := Lib.hid (U32At.via hB5 HSC.out)
          have H15 := Lib.hid (U32At.via HB5.out H1.out)
          clear hK hB5
          go_wp2_with (at_builtin; refine wpList_append_own _ rfl _ _ 49 rfl W5.heap.size 48 i0 (.int .u32 0) 1 4 Tryd.underlying49 HI0.out HZ0.out HZ1.out HZ2.out rfl (by decide) (.slice none 0 0) 0 [] (by rfl) (World.ownsRow_nil _ _ _ _) ⟨bh, oh, none⟩ 8 ch (u32l V.list) (by rfl) (by simp [u32l, W8.list]) (news_u32 H15.out) (one_u32l _) (by unfold maxLen; omega) (by omega) (Nat.le_refl _) ?_; intro v' w3 hown3 hgrow3 _)
          have HO5 := Lib.hid hown3
          have hB3 : Below W5.heap.size W5 w3 := belowGrown (e := 48) (size := 1) (Below.refl _ _) (World.ownsRow_nil _ _ _ _) hgrow3
          have HB3 := Lib.hid (belowVia hB3 HB5.out)
          have HSC3 := Lib.hid (U32At.via hB3 HSC5.out)
          have HK3 := Lib.hid (U32At.via hB3 (show U32At W5 W4.heap.size 0 shaK from fun j hj => by rw [Nat.zero_add]; exact HK.out.cell (u32s_getD hj)))
          have H13 := Lib.hid (U32At.via hB3 H15.out)
          have hvf : ∃ gv cv, v' = .slice (some ⟨gv, 0, none⟩) 8 cv ∧ U32At w3 gv 0 V.list := by
            have h1 : w3.ownsRow W5.heap.size 48 1 v' V.list.length (u32l V.list) := by simpa [W8.list] using hown3
            obtain ⟨gv, cv, h2, _, _, _, h3⟩ := ownsRow_u32 h1 (by simp [W8.list])
            exact ⟨gv, cv, h2, h3⟩
          clear hown3 hgrow3 hB3 HSC5 HK H15 HB5 HO5 HB HSC
          obtain ⟨gv, cv, rfl, hvc⟩ := hvf
          have HVC := Lib.hid hvc
          clear hvc
          obtain ⟨gk, hgk⟩ : ∃ gk, gk = W4.heap.size := ⟨_, rfl⟩
          rw [← hgk] at HK3 ⊢
          clear hgk
          obtain ⟨W6, rfl⟩ : ∃ W6, W6 = w3 := ⟨_, rfl⟩
          go_loopw [11, 12] (fun v i wr => ∃ (k gv cv : Nat), k ≤ 64 ∧ i = .int .i64 k ∧ v = .slice (some ⟨gv, 0, none⟩) 8 cv ∧ U32At wr gv 0 (rnds sc V k).list ∧ Below W6.heap.size W6 wr) (fun _ i _ => 64 - (intOf i).toNat)
          case atStart => exact ⟨0, gv, cv, by omega, rfl, rfl, HVC.out, Below.refl _ _⟩
          case round =>
            clear HVC
            obtain ⟨k3, gv, cv, hk3, rfl, rfl, hvc, hB⟩ := hrel
            have HB := Lib.hid hB
            by_cases hlt : k3 < 64
            ·
              have hok := rnds_ok HV.out sc k3
              have hsucc : rnds sc V (k3 + 1) = rnd (rnds sc V k3) (shaK.getD k3 0) (sc.getD k3 0) := rfl
              have ck := (U32At.via hB HK3.out) k3 hlt
              have cw := (U32At.via hB HSC3.out) k3 (by rw [HSL.out]; exact hlt)
              have bk : shaK.getD k3 0 < 4294967296 := getD_lt shaK_lt k3
              have bw : sc.getD k3 0 < 4294967296 := by rw [HSD.out]; exact getD_lt (wext_lt _ _ (words_lt l)) k3
              generalize hr1 : rnds sc V (k3 + 1) = r1 at *
              generalize rnds sc V k3 = r at *
              obtain ⟨a, b, c, d, e, f, g', h⟩ := r
              obtain ⟨ba, bb', bc, bd, be, bf, bg, bh'⟩ := hok
              simp only at ba bb' bc bd be bf bg bh' ⊢
              have c0 : wr.cell? ⟨gv, 0, none⟩ = some (.int .u32 (a : Nat)) := hvc 0 (by simp [W8.list])
              have c1 : wr.cell? ⟨gv, 1, none⟩ = some (.int .u32 (b : Nat)) := hvc 1 (by simp [W8.list])
              have c2 : wr.cell? ⟨gv, 2, none⟩ = some (.int .u32 (c : Nat)) := hvc 2 (by simp [W8.list])
              have c3 : wr.cell? ⟨gv, 3, none⟩ = some (.int .u32 (d : Nat)) := hvc 3 (by simp [W8.list])
              have c4 : wr.cell? ⟨gv, 4, none⟩ = some (.int .u32 (e : Nat)) := hvc 4 (by simp [W8.list])
              have c5 : wr.cell? ⟨gv, 5, none⟩ = some (.int .u32 (f : Nat)) := hvc 5 (by simp [W8.list])
              have c6 : wr.cell? ⟨gv, 6, none⟩ = some (.int .u32 (g' : Nat)) := hvc 6 (by simp [W8.list])
              have c7 : wr.cell? ⟨gv, 7, none⟩ = some (.int .u32 (h : Nat)) := hvc 7 (by simp [W8.list])
              rw [Nat.zero_add] at ck cw
              have g1 := bsig1_bits be
              have g2 := chw_bits be bf bg
              have g3 := bsig0_bits ba
              have g4 := majw_bits ba bb' bc
              unfold rnd tw at hsucc
              simp only at hsucc
              generalize shaK.getD k3 0 = xk at *
              generalize sc.getD k3 0 = xw at *
              have l1 := bsig1_lt be
              have l2 := chw_lt (e := e) bf bg
              have l3 := bsig0_lt ba
              have l4 := majw_lt (a := a) bb' bc
              generalize bsig1 e = y1 at *
              generalize chw e f g' = y2 at *
              generalize bsig0 a = y3 at *
              generalize majw a b c = y4 at *
              have HSUC := Lib.hid hsucc
              have HR1 := Lib.hid hr1
              have hlt' : (k3 : Int) < 64 := by omega
              have hsg : IntKind.u32.signed = false := rfl
              have hmx : IntKind.u32.max = 4294967295 := by decide
              have BE := Lib.hid be
              have BA := Lib.hid ba
              clear hsucc hr1 hlt hvc
              go_wp2_with fail
              go_quiet ((go_at_call 56; exact rrot_q e _ _ _ BE.out (by decide) (by decide)))
              have d0 : (wr.drewN nq).cell? ⟨gv, 0, none⟩ = some (.int .u32 (a : Nat)) := c0
              have d1 : (wr.drewN nq).cell? ⟨gv, 1, none⟩ = some (.int .u32 (b : Nat)) := c1
              have d2 : (wr.drewN nq).cell? ⟨gv, 2, none⟩ = some (.int .u32 (c : Nat)) := c2
              have d3 : (wr.drewN nq).cell? ⟨gv, 3, none⟩ = some (.int .u32 (d : Nat)) := c3
              have d5 : (wr.drewN nq).cell? ⟨gv, 5, none⟩ = some (.int .u32 (f : Nat)) := c5
              have d6 : (wr.drewN nq).cell? ⟨gv, 6, none⟩ = some (.int .u32 (g' : Nat)) := c6
              have HB2 : Hid (Below W6.heap.size W6 (wr.drewN nq)) := below_drewN HB.out _
              generalize wr.drewN nq = w2 at *
              have ht : ((((h : Int) + y1 + y2 + xk) % 4294967296 + xw) % 4294967296) = ((h + y1 + y2 + xk + xw) % 4294967296 : Nat) := by omega
              have tb : (h + y1 + y2 + xk + xw) % 4294967296 < 4294967296 := Nat.mod_lt _ (by decide)
              rw [ht]
              generalize (h + y1 + y2 + xk + xw) % 4294967296 = T at *
              clear c0 c1 c2 c3 c4 c5 c6 c7 ck cw hB HB ht g1 g2
              go_wp2_with fail
              go_quiet ((go_at_call 56; exact rrot_q a _ _ _ BA.out (by decide) (by decide)))
              have c1 : (w2.drewN nq).cell? ⟨gv, 1, none⟩ = some (.int .u32 (b : Nat)) := d1
              have c2 : (w2.drewN nq).cell? ⟨gv, 2, none⟩ = some (.int .u32 (c : Nat)) := d2
              have c3 : (w2.drewN nq).cell? ⟨gv, 3, none⟩ = some (.int .u32 (d : Nat)) := d3
              have c5 : (w2.drewN nq).cell? ⟨gv, 5, none⟩ = some (.int .u32 (f : Nat)) := d5
              have c6 : (w2.drewN nq).cell? ⟨gv, 6, none⟩ = some (.int .u32 (g' : Nat)) := d6
              have HB3 : Hid (Below W6.heap.size W6 (w2.drewN nq)) := below_drewN HB2.out _
              generalize w2.drewN nq = w3 at *
              clear d0 d1 d2 d3 d5 d6 HB2 g3 g4
              have hu : (((y3 : Int) + y4) % 4294967296) = ((y3 + y4) % 4294967296 : Nat) := by omega
              have ub : (y3 + y4) % 4294967296 < 4294967296 := Nat.mod_lt _ (by decide)
              rw [hu]
              generalize (y3 + y4) % 4294967296 = U at *
              have w1 : IntKind.u32.wrap ((T : Int) + U) = ((T + U) % 4294967296 : Nat) := by rw [IntKind.wrap_u32]; omega
              have w4 : IntKind.u32.wrap ((d : Int) + T) = ((d + T) % 4294967296 : Nat) := by rw [IntKind.wrap_u32]; omega
              generalize (T + U) % 4294967296 = X at *
              generalize (d + T) % 4294967296 = Y at *
              have HLT : Hid (∀ W : World, U32At (W.alloc (.cells #[.int .u32 (X : Nat), .int .u32 (a : Nat), .int .u32 (b : Nat), .int .u32 (c : Nat), .int .u32 (Y : Nat), .int .u32 (e : Nat), .int .u32 (f : Nat), .int .u32 (g' : Nat)] 48)) W.heap.size 0 r1.list) := fun W => by
                rw [HSUC.out]
                exact u32At_lit W [X, a, b, c, Y, e, f, g']
              clear hu ub
              go_wp2_with fail
              go_region_held3 (fun w' => w'.cell? ⟨gv, 1, none⟩ = some (.int .u32 (b : Nat)) ∧ w'.cell? ⟨gv, 2, none⟩ = some (.int .u32 (c : Nat)) ∧ w'.cell? ⟨gv, 3, none⟩ = some (.int .u32 (d : Nat)) ∧ w'.cell? ⟨gv, 5, none⟩ = some (.int .u32 (f : Nat)) ∧ w'.cell? ⟨gv, 6, none⟩ = some (.int .u32 (g' : Nat)))
                (first | exact ⟨c1, c2, c3, c5, c6⟩ | exact ⟨cellR _ c1, cellR _ c2, cellR _ c3, cellR _ c5, cellR _ c6⟩) (fail)
              go_wp2_with fail
              go_roundw
              case rel => exact ⟨k3 + 1, w3.heap.size, 8, by omega, by go_num, rfl, by rw [HR1.out]; exact HLT.out w3, (HB3.out.alloc HB3.out.size _).drew⟩
              case measure => simp [intOf]; omega
            · obtain rfl : k3 = 64 := by omega
              have hmix : R = addW V (rnds sc V 64) := by rw [HR.out, HSD.out]; rfl
              have hrok := rnds_ok HV.out sc 64
              have hk64 : 64 ≤ ((64 : Nat) : Int) := by omega
              generalize rnds sc V 64 = r at *
              have HMIX := Lib.hid hmix
              have HROK := Lib.hid hrok
              have HVC := Lib.hid hvc
              clear hmix hrok hvc hlt hk3 hB
              have HH := Lib.hid (U32At.via HB.out H13.out)
              have HBW := Lib.hid (belowVia HB.out HB3.out)
              clear HB HB3 HSC3 HK3 H13
              obtain ⟨W7, rfl⟩ : ∃ W7, W7 = wr := ⟨_, rfl⟩
              go_wp2_with fail
              go_loopw [17, 18] (fun v i wr => ∃ j : Nat, j ≤ 8 ∧ i = .int .i64 j ∧ wr.ownsRow W7.heap.size 48 1 v (R.list.take j).length (u32l (R.list.take j)) ∧ Below W7.heap.size W7 wr) (fun _ i _ => 8 - (intOf i).toNat)
              case atStart => exact ⟨0, by omega, rfl, World.ownsRow_nil _ _ _ _, Below.refl _ _⟩
              case round =>
                obtain ⟨j, hj, rfl, hown, hB⟩ := hrel
                have HO := Lib.hid hown
                have HB := Lib.hid hB
                clear hown hB
                by_cases hlt : j < 8
                · have hlt' : (j : Int) < 8 := by omega
                  have hd1 := HH.out j (by simpa [W8.list] using hlt)
                  have hd2 := HVC.out j (by simpa [W8.list] using hlt)
                  rw [Nat.zero_add] at hd2
                  have hget := addW_get V r j hlt
                  rw [← HMIX.out] at hget
                  have HT : Hid (R.list.take j ++ [R.list.getD j 0] = R.list.take (j + 1)) := by
                    show _ = _
                    rw [List.take_succ_eq_append_getElem (by simpa [W8.list] using hlt)]
                    simp [List.getD_eq_getElem?_getD, W8.list, hlt]
                  have HK : Hid ((R.list.take j).length ≤ 100000) := by show _ ≤ _; rw [List.length_take]; omega
                  have b1 := W8.list_lt HV.out j
                  have b2 := W8.list_lt HROK.out j
                  generalize R.list.take j = y at *
                  generalize R.list.getD j 0 = z at *
                  generalize V.list.getD j 0 = x1 at *
                  generalize r.list.getD j 0 = x2 at *
                  have hc1 := keptBelow HB.out hd1
                  have hc2 := keptBelow HB.out hd2
                  have w1 : IntKind.u32.wrap ((x1 : Int) + x2) = (z : Nat) := by rw [IntKind.wrap_u32, hget]; omega
                  have HOd : Hid (wr.drew.ownsRow W7.heap.size 48 1 u17 y.length (u32l y)) := HO.out
                  have HBd : Hid (Below W7.heap.size W7 wr.drew) := HB.out.drew
                  clear hget
                  go_wp2_with fail
                  go_region_held3 (fun w' => w'.cell? ⟨bh, oh + j, none⟩ = some (.int .u32 (x1 : Nat)) ∧ w'.cell? ⟨gv, j, none⟩ = some (.int .u32 (x2 : Nat)))
                    (first | exact ⟨hc1, hc2⟩ | exact ⟨cellR _ hc1, cellR _ hc2⟩ | exact ⟨keptBelow hB9 hd1, keptBelow hB9 hd2⟩) (first
                    | (refine step_append_own rfl _ _ 49 rfl W7.heap.size 48 i0 (.int .u32 0) 1 4 Tryd.underlying49 HI0.out HZ0.out HZ1.out HZ2.out rfl (by decide) u17 y.length (u32l y) (by rfl) (HOd.out.alloc _) ⟨wr.heap.size, 0, none⟩ 1 1 [.int .u32 (z : Nat)] (by rfl) rfl (news_val _ _ _) (one_u32 _) (ext_b1 HK.out) (blk_b2 HK.out) (ext_b3 HB.out) (fun v' w9 hown3 hgrow3 => ?_); have hB9 := (app_next32 (b := z) HOd.out HBd.out hown3 hgrow3).2))
                  have HN := Lib.hid (app_next32 (b := z) HOd.out HBd.out hown3 hgrow3)
                  rw [HT.out] at HN
                  clear hown3 hgrow3 hB9 w1
                  go_wp2_with fail
                  go_roundw
                  case rel =>
                    refine ⟨_, _, _, _, _, _, _, _, _, _, _, _, _, _, _, _, _, _, ⟨j + 1, by omega, ?_, ?_, HN.out.2⟩, rfl⟩
                    · go_num
                    · exact HN.out.1
                  case measure => simp [intOf]; omega
                · obtain rfl : j = 8 := by omega
                  rw [List.take_of_length_le (by simp [W8.list])] at HO
                  have HF := Lib.hid (ownsRow_base HO.out HBW.out.size)
                  have HBF := Lib.hid (belowVia HB.out HBW.out)
                  clear hlt hj HO HB
                  go_wp2_with fail
                  go_ret
                  exact ⟨_, rfl, HF.out, HBF.out⟩
end Go.Proofs.YtdhpighnkoamiaaDoor
