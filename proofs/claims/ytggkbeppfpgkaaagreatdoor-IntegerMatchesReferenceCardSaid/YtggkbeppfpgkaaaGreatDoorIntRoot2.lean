/- The contract of the root of a magnitude. -/
import Derived.Test.YtggkbeppfpgkaaaGreatDoorIntRoot1
namespace Go.Proofs.YtggkbeppfpgkaaaGreatDoor
open Go.RowKit Putlog

/-- The root under way, before index k - 1. -/
structure RootAt (A : List Nat) (m k : Nat) (R : List Nat) : Prop where
  len : R.length = m
  dig : DigB 10000 R
  z : ∀ j, j < k → R.getD j 0 = 0
  low : leV 10000 R * leV 10000 R ≤ leV 10000 A
  high : leV 10000 A < (leV 10000 R + 10000 ^ k) * (leV 10000 R + 10000 ^ k)
theorem RootAt.start {A : List Nat} (hA : DigB 10000 A) {m : Nat} (hm : A.length ≤ m + m) : RootAt A m m (List.replicate m 0) := by
  refine ⟨List.length_replicate, digB_zeros _, fun j hj => by simp [List.getD_eq_getElem?_getD, hj], by rw [leV_zeros]; simp, ?_⟩
  rw [leV_zeros, Nat.zero_add, ← Nat.pow_add]
  exact Nat.lt_of_lt_of_le (leV_lt hA) (Nat.pow_le_pow_right (by decide) hm)
def pRoot (A R : List Nat) (i h : Nat) : Bool := decide (leV 10000 A < leV 10000 (R.set i h) * leV 10000 (R.set i h))
theorem RootAt.step {A R : List Nat} {m i r : Nat} (h : RootAt A m (i + 1) R) (hi : i < m) (hr : Firsts (pRoot A R i) 10000 r) : 1 ≤ r ∧ r ≤ 10000 ∧ RootAt A m i (R.set i (r - 1)) := by
  have hv : ∀ x, leV 10000 (R.set i x) = leV 10000 R + 10000 ^ i * x := fun x => leV_set 10000 R i x (by rw [h.len]; exact hi) (h.z i (by omega))
  have he : pRoot A R i = fun g => decide (leV 10000 A < (leV 10000 R + 10000 ^ i * g) * (leV 10000 R + 10000 ^ i * g)) := by
    funext x; unfold pRoot; rw [hv]
  rw [he] at hr
  have h2 := h.high
  rw [Nat.pow_succ] at h2
  obtain ⟨h3, h4, h5⟩ := root_step h.low h2 hr
  refine ⟨h3, hr.1, by rw [List.length_set]; exact h.len, digB_set h.dig i (by have := hr.1; omega), fun j hj => ?_, by rw [hv]; exact h4, by rw [hv]; exact h5⟩
  rw [List.getD_eq_getElem?_getD, List.getElem?_set, if_neg (by omega), ← List.getD_eq_getElem?_getD]
  exact h.z j (by omega)
theorem RootAt.done {A R : List Nat} {m : Nat} (h : RootAt A m 0 R) (hA : DigB 10000 A) (nA : Norm A) (hm : m = (A.length + 1) / 2) : R = digsL 10000 (sqrtN (leV 10000 A)) := by
  have h2 := h.high
  rw [Nat.pow_zero] at h2
  have h3 := root_norm h.dig hA nA (h.len.trans hm) h2
  rw [← sqrtN_unique h.low h2, digsL_leV (by decide) h.dig h3]
/-- What holds between the rounds: the block of the index, the boxes, the row. -/
structure RInv (w wr : World) (bR bA gR : Nat) (a : Option Addr) (ca : Nat) (A R : List Nat) (k bI : Nat) : Prop where
  hI : wr.heap[bI]? = some (.cells #[.int .i64 ((k : Int) - 1)] 3 (0, 0))
  lt : bR < bI
  hR : wr.cell? ⟨bR, 0, none⟩ = some (.slice (some ⟨gR, 0, none⟩) R.length R.length)
  hA : wr.cell? ⟨bA, 0, none⟩ = some (.slice a A.length ca)
  row : RowAt wr gR (ofN R)
  bel : Below w.heap.size w wr
def boxI (w : World) : Value → Int
  | .pointer (some ad) => match w.cell? ad with
    | some (.int _ z) => z
    | _ => 0
  | _ => 0
theorem boxI_at {w : World} {b : Nat} {z : Int} (h : w.heap[b]? = some (.cells #[.int .i64 z] 3 (0, 0))) : boxI w (.pointer (some ⟨b, 0, none⟩)) = z := by
  have := cell_of_one h
  simp only [boxI, this]
theorem RInv.start {w w2 : World} {a : Option Addr} {ca m : Nat} {A : List Nat} {t1 t2 : TypeId} (hB : Below (w.heap.size + 1) (w.alloc (.cells #[.slice a A.length ca] t1)) w2) (hc : RowAt w2 (w.heap.size + 1) (ofN (List.replicate m 0))) :
    RInv w ((w2.alloc (.cells #[.slice (some ⟨w.heap.size + 1, 0, none⟩) m m] t2)).alloc (.cells #[.int .i64 ((m : Int) - 1)] 3)) w2.heap.size w.heap.size (w.heap.size + 1) a ca A (List.replicate m 0) m (w2.heap.size + 1) := by
  have b1 : Below w.heap.size w (w.alloc (.cells #[.slice a A.length ca] t1)) := (Below.refl _ _).alloc (Nat.le_refl _) _
  have c1 := cell_box w (.slice a A.length ca) t1
  have z1 : (w.alloc (.cells #[.slice a A.length ca] t1)).heap.size = w.heap.size + 1 := by simp
  rw [← z1] at hB
  generalize w.alloc (.cells #[.slice a A.length ca] t1) = w1 at *
  have b2 : Below w2.heap.size w2 (w2.alloc (.cells #[.slice (some ⟨w.heap.size + 1, 0, none⟩) m m] t2)) := (Below.refl _ _).alloc (Nat.le_refl _) _
  have c2 := cell_box w2 (.slice (some ⟨w.heap.size + 1, 0, none⟩) m m) t2
  have z2 : (w2.alloc (.cells #[.slice (some ⟨w.heap.size + 1, 0, none⟩) m m] t2)).heap.size = w2.heap.size + 1 := by simp
  generalize w2.alloc (.cells #[.slice (some ⟨w.heap.size + 1, 0, none⟩) m m] t2) = w3 at *
  have b3 : Below w3.heap.size w3 (w3.alloc (.cells #[.int .i64 ((m : Int) - 1)] 3)) := (Below.refl _ _).alloc (Nat.le_refl _) _
  have h4 := heap_alloc_new w3 (.cells #[.int .i64 ((m : Int) - 1)] 3)
  rw [z2] at h4
  refine ⟨h4, by omega, ?_, keptBelow b3 (keptBelow b2 (keptBelow hB c1)), (hc.via b2).via b3, belowVia b3 (belowVia b2 (belowVia hB b1))⟩
  rw [List.length_replicate]
  exact keptBelow b3 c2
/-- The search over the closure. -/
theorem rootS_any (A R : List Nat) (i : Nat) (hA : DigB 10000 A) (nA : Norm A) (hR : DigB 10000 R) (hlA : A.length ≤ 10000) (hlR : R.length ≤ 1000) (bR bI bA gR : Nat) (a : Option Addr) (ca : Nat) (hra : Room A.length ca) (hi : i < R.length) (w0 : World) (k : Apart w0 bR bI bA gR a A) (W : World) (hq : RT w0 W bR bI bA gR a ca A R i) :
    Calls Tryz.prog 63 #[.int .i64 10000, .func (.func 64) #[] #[.pointer (some ⟨bR, 0, none⟩), .pointer (some ⟨bI, 0, none⟩), .pointer (some ⟨bA, 0, none⟩)]] W fun e w' => ∃ r : Nat, e = .returned (.int .i64 r) ∧ Firsts (pRoot A R i) 10000 r ∧ RT w0 w' bR bI bA gR a ca A R i :=
  search_any (g := 64) (enters_of Tryz.func64 (by kernel_rfl) rfl) 10000 (by decide) (pRoot A R i) (fun W => RT w0 W bR bI bA gR a ca A R i) W hq
    fun h W1 hh hI => root1_any w0 bR bI bA gR a ca A R i h hA nA hR hlA hlR hra hi hh k W1 hI
set_option maxRecDepth 100000 in
set_option maxHeartbeats 8000000 in
theorem root_m (A : List Nat) (hA : DigB 10000 A) (nA : Norm A) (hlA : A.length ≤ 1000) (a : Option Addr) (ca : Nat) (w : World) (hra : Room A.length ca) (hva : CellsAt w a (ofN A)) :
    Calls Tryz.prog 47 #[.slice a A.length ca] w fun e w' => (∃ v, e = .returned v ∧ MagAt w' v (digsL 10000 (sqrtN (leV 10000 A)))) ∧ Below w.heap.size w w' := by
  obtain ⟨i0, hi0, hz0, hz1, hz2⟩ := info_parts info_int
  have HI0 := Lib.hid hi0
  have HZ0 := Lib.hid hz0
  have HZ1 := Lib.hid hz1
  have HZ2 := Lib.hid hz2
  have HDA := Lib.hid hA
  have HNA := Lib.hid nA
  have HVA := Lib.hid hva
  have HRA := Lib.hid hra
  have hra1 := hra.1
  obtain ⟨m, hm⟩ : ∃ m, m = (A.length + 1) / 2 := ⟨_, rfl⟩
  have HM := Lib.hid hm
  have HLA : Hid (A.length ≤ 1000) := hlA
  have hnb : (A.length : Int) ≤ 1000 := by omega
  have hmb : (m : Int) ≤ 1000 := by omega
  have hmq : ((A.length : Int) + 1).tdiv 2 = (m : Nat) := by rw [Int.tdiv_eq_ediv_of_nonneg (by omega)]; omega
  have HST := Lib.hid (RootAt.start hA (m := m) (by omega))
  have HCO : Hid (ofN A ≠ [] → ∃ g o, a = some ⟨g, o, none⟩ ∧ g < w.heap.size) := fun h => by
    rcases hva with hva | ⟨g, o, h1, h2⟩
    · exact absurd hva h
    · have h3 : 0 < (ofN A).length := List.length_pos_iff.2 h
      exact ⟨g, o, h1, lt_of_cell (h2 0 h3)⟩
  clear hi0 hz0 hz1 hz2 hA nA hva hm hra hlA
  go_enter Tryz.func47, Tryz.ntmps47
  go_wp2_with (at_make; go_must (refine wpList_make_full _ rfl _ _ 45 rfl _ 3 i0 (.int .i64 0) 1 Tryz.underlying45 HI0.out HZ0.out HZ1.out .i64 .i64 (m : Int) (m : Int) m rfl rfl rfl rfl (by rw [HZ2.out]; omega) (by unfold maxLen; omega) (Nat.le_refl _) ?_); intro w2 hown2 hgrow2; have HC2 := Lib.hid (cols_made hown2); have HB2 := Lib.hid (belowMade hgrow2); clear hown2 hgrow2)
  have hz : (w.alloc (.cells #[.slice a A.length ca] 45)).heap.size = w.heap.size + 1 := by simp
  have HB3 : Hid (Below (w.heap.size + 1) (w.alloc (.cells #[.slice a A.length ca] 45)) w2) := by have := HB2.out; rw [hz] at this; exact this
  have HC3 : Hid (RowAt w2 (w.heap.size + 1) (ofN (List.replicate m 0))) := by
    show RowAt _ _ _
    rcases HC2.out with h | ⟨g, _, hge, hrow⟩
    · intro j hj; rw [ofN_len, List.length_replicate] at hj
      have : (List.replicate m (0 : Int)).length = 0 := by rw [h]; rfl
      rw [List.length_replicate] at this; omega
    · rw [hz] at hge
      cases hge
      simpa [ofN] using hrow
  have HRS := Lib.hid (RInv.start (t2 := 45) HB3.out HC3.out)
  have HSZ : Hid (w.heap.size + 1 ≤ w2.heap.size) := by show _ ≤ _; have := HB2.out.size; rw [hz] at this; exact this
  have HSL : Hid (w.heap.size + 1 = w2.heap.size → m = 0) := fun h => by
    rcases Nat.eq_zero_or_pos m with h0 | h0
    · exact h0
    · exfalso
      have h1 := lt_of_cell (HC3.out 0 (by rw [ofN_len, List.length_replicate]; exact h0)).1
      omega
  clear hz HB2 HC2 HB3 HC3
  go_loopw [4] (fun p wr => ∃ (k bI : Nat) (R : List Nat), k ≤ m ∧ p = .pointer (some ⟨bI, 0, none⟩) ∧ RootAt A m k R ∧ RInv w wr w2.heap.size w.heap.size (w.heap.size + 1) a ca A R k bI) (fun p wr => (1 + boxI wr p).toNat)
  case atStart => exact ⟨m, _, _, Nat.le_refl _, rfl, HST.out, HRS.out⟩
  case round =>
    clear HST HRS hmq
    obtain ⟨k, bI, R, hk, rfl, hroot, hinv⟩ := hrel
    have HRT := Lib.hid hroot
    have HIV := Lib.hid hinv
    have hcI := cell_of_one hinv.hI
    have hcR := hinv.hR
    have hcA := hinv.hA
    clear hroot hinv
    rcases Nat.eq_zero_or_pos k with rfl | hk0
    · go_wp2_with fail
      go_ret
      refine ⟨⟨_, rfl, ?_⟩, HIV.out.bel⟩
      rw [← HRT.out.done HDA.out HNA.out HM.out]
      refine ⟨_, _, rfl, ⟨Nat.le_refl _, ?_⟩, HIV.out.row.cells⟩
      have := HRT.out.len; omega
    · obtain ⟨i, rfl⟩ : ∃ i, k = i + 1 := ⟨k - 1, by omega⟩
      have hie : ((i + 1 : Nat) : Int) - 1 = i := by omega
      rw [hie] at hcI
      have hlR := HRT.out.len
      have hiR : i < R.length := by omega
      have hap : Apart w w2.heap.size bI w.heap.size (w.heap.size + 1) a A := by
        have h1 := HSZ.out
        have h2 := HIV.out.lt
        refine ⟨fun e => ?_, by omega, by omega, fun e => ?_, by omega⟩
        · have := HSL.out e; omega
        · obtain ⟨g, o, h3, h4⟩ := HCO.out e
          exact ⟨g, o, h3, by omega⟩
      have hq : RT w wr w2.heap.size bI w.heap.size (w.heap.size + 1) a ca A R i :=
        ⟨hcR, hcI, hcA, HVA.out.via HIV.out.bel, ⟨R.getD i 0, by rw [show R.set i (R.getD i 0) = R by simp [List.getD_eq_getElem?_getD, hiR]]; exact HIV.out.row⟩, HIV.out.bel⟩
      have HS := Lib.hid (fun W hW => rootS_any A R i HDA.out HNA.out HRT.out.dig (by have := HLA.out; omega) (by omega) _ _ _ _ a ca HRA.out hiR w hap W hW)
      have HQ := Lib.hid hq
      have hin : (i : Int) < R.length := by omega
      have hRb : (R.length : Int) ≤ 1000 := by omega
      have HAP := Lib.hid hap
      have him : i < m := by omega
      have hi0' : (0 : Int) ≤ i := by omega
      clear hq hap hk hk0 hlR hmb
      go_wp2_with fail
      go_region_held3 (fun w' => w'.cell? ⟨w2.heap.size, 0, none⟩ = some (.slice (some ⟨w.heap.size + 1, 0, none⟩) R.length R.length) ∧ w'.cell? ⟨bI, 0, none⟩ = some (.int .i64 (i : Nat))) (first | exact ⟨hcR, hcI⟩ | exact ⟨hq5.hR, hq5.hI⟩ | exact ⟨cell_other hq5.hR HAP.out.nr, cell_other hq5.hI HAP.out.ni⟩) (first
        | (go_at_call 63; (with_reducible refine (HS.out _ ?_).mono ?_); exact RT.via (Below.refl _ _).drew HQ.out; rintro e w5 ⟨r, rfl, hr, hq5⟩; obtain ⟨h1r, h2r, hst⟩ := HRT.out.step him hr; obtain ⟨q, rfl⟩ : ∃ q, r = q + 1 := ⟨r - 1, by omega⟩; have hsub : ((q + 1 : Nat) : Int) - 1 = q := (by omega); have hqb : (q : Int) < 10000 := (by omega); have hwq : IntKind.i64.wrap ((q : Nat) : Int) = (q : Nat) := (by rw [IntKind.wrap_i64]; omega); obtain ⟨vv, hvv⟩ := hq5.row; obtain ⟨hcx5, hfx5⟩ := hvv i (by rw [ofN_len, List.length_set]; exact hiR); have HST := Lib.hid hst; have HRR := Lib.hid hr; clear hst hr hvv h1r h2r))
      obtain ⟨hq6, hrow6⟩ := hq5.store HAP.out hiR q
      have hcI6 := hq6.hI
      have HQ6 := Lib.hid hq6
      have HRW6 := Lib.hid hrow6
      clear hcx5 hfx5 hq5 hcR hcI hcA hq6 hrow6
      generalize w5.setCell ⟨w.heap.size + 1, i, none⟩ (.int .i64 (q : Nat)) = w6 at *
      go_wp2_with fail
      have hn6 := heap_alloc_new w6 (.cells #[.int .i64 ((i : Int) - 1)] 3)
      have hb6 : Below w6.heap.size w6 (w6.alloc (.cells #[.int .i64 ((i : Int) - 1)] 3)) := (Below.refl _ _).alloc (Nat.le_refl _) _
      have hlt6 := lt_of_cell HQ6.out.hI
      have hlt7 := HIV.out.lt
      refine ⟨⟨i, w6.heap.size, R.set i q, by omega, rfl, by have := HST.out; simpa using this, ⟨hn6, by omega, by rw [List.length_set]; exact keptBelow hb6 HQ6.out.hR, keptBelow hb6 HQ6.out.hA, HRW6.out.via hb6, belowVia hb6 HQ6.out.bel⟩⟩, ?_⟩
      rw [boxI_at hn6, boxI_at HIV.out.hI]
      omega
theorem root_any (A : Nat) (hA : A < 10000 ^ 250) (u : Value) (w : World) (hu : MagAt w u (digsL 10000 A)) :
    Calls Tryz.prog 47 #[u] w fun e w' => (∃ v, e = .returned v ∧ MagAt w' v (digsL 10000 (sqrtN A))) ∧ Below w.heap.size w w' := by
  obtain ⟨a, ca, rfl, hra, hca⟩ := hu
  have := root_m (digsL 10000 A) (digsL_dig (by decide) _) (digsL_norm (by decide) _) (Nat.le_trans (digsL_len_le hA) (by decide)) a ca w hra hca
  rwa [leV_digsL (by decide)] at this
end Go.Proofs.YtggkbeppfpgkaaaGreatDoor
