/- Several texts of layers 3 and 4, one behind the other: LinTabX. -/
import Derived.Test.YtbdidkncgklljaaGreatDoorLM4
/- LinTabX: The contract of exchange. -/
namespace Go.Proofs.YtbdidkncgklljaaGreatDoor
open Go.RowKit Putlog

theorem belowB {B : Nat} {a b c : World} (h : Below b.heap.size b c) (k : Below B a b) (hB : B ≤ a.heap.size) : Below B a c := k.trans (h.mono (Nat.le_trans hB k.size))
theorem rowOf_zero (n : Nat) : rowOf n (fun _ _ => 0) 0 = List.replicate (n + 1) 0 := by
  unfold rowOf
  apply List.ext_getElem?
  intro i
  by_cases h : i < n + 1
  · rw [List.getElem?_map, List.getElem?_range h, List.getElem?_replicate, if_pos h]; rfl
  · rw [List.getElem?_eq_none (by simp; omega), List.getElem?_eq_none (by simp; omega)]
/-- The falls of the first rows. -/
def fallsTo (n : Nat) (f : Nat → Int) (k : Nat) : List Int := rowOf n (fun _ i => if i < k then f i else 0) 0
theorem fallsTo_zero (n : Nat) (f : Nat → Int) : fallsTo n f 0 = List.replicate (n + 1) 0 := by
  rw [← rowOf_zero]; exact rowOf_congr fun l _ => if_neg (by omega)
theorem fallsTo_all (n : Nat) (f : Nat → Int) : fallsTo n f (n + 1) = rowOf n (fun _ => f) 0 := rowOf_congr fun l hl => if_pos (by omega)
theorem fallsTo_len (n : Nat) (f : Nat → Int) (k : Nat) : (fallsTo n f k).length = n + 1 := rowOf_len ..
theorem fallsTo_set {n : Nat} (f : Nat → Int) {k : Nat} (hk : k ≤ n) : (fallsTo n f k).set k (f k) = fallsTo n f (k + 1) := by
  have := rowOf_set (n := n) (R := fun _ i => if i < k then f i else 0) (R' := fun _ i => if i < k + 1 then f i else 0) (k := 0) (i := k) hk (fun l _ => by
    show (if l < k + 1 then f l else 0) = if l = k then (if k < k + 1 then f k else 0) else if l < k then f l else 0
    by_cases e : l = k
    · subst e; rw [if_pos rfl]
    · rw [if_neg e]
      by_cases e2 : l < k
      · rw [if_pos e2, if_pos (by omega)]
      · rw [if_neg e2, if_neg (by omega)])
  have e : (if k < k + 1 then f k else 0) = f k := if_pos (by omega)
  rw [e] at this
  exact this
theorem num_there_at {w : World} {g : Nat} {l : List Int} (h : NumB g (rowL l) w) {i : Nat} (hi : i < l.length) : w.there g (i * 10) 10 := fun j hj => by
  rw [h.cell (rowL_get hi hj)]; exact ⟨rfl, h.froz _⟩
theorem DivBox.only {d : Int} {g1 g2 p : Nat} {w w' : World} (h : DivBox d g1 g2 w) (ho : OnlyAt p w w') (h1 : g1 ≠ p) (h2 : g2 ≠ p) : DivBox d g1 g2 w' := by
  obtain ⟨t, q1, q2, q3, q4⟩ := h.twos
  exact ⟨t, ho.cell h1 q1, q2, q3, ho.num q4 h2⟩
section
variable {B n cols : Nat} {A : Nat → Nat → Int} {s : St} {G : Geo}
/-- The rows, exchanged up to a place. -/
def midR (R R' : Nat → Nat → Int) (out k i : Nat) : Nat → Nat → Int := fun r l => if r = out then R r l else if r < k ∨ (r = k ∧ l < i) then R' r l else R r l
theorem midR_step {R R' : Nat → Nat → Int} {out k i : Nat} (ho : k ≠ out) : ∀ r l, midR R R' out k (i + 1) r l = if r = k ∧ l = i then R' k i else midR R R' out k i r l := fun r l => by
  unfold midR
  by_cases e : r = out
  · rw [if_pos e, if_neg (fun h => ho (by rw [← h.1, e])), if_pos e]
  · rw [if_neg e, if_neg e]
    by_cases e2 : r = k ∧ l = i
    · obtain ⟨rfl, rfl⟩ := e2
      rw [if_pos (.inr ⟨rfl, by omega⟩), if_pos ⟨rfl, rfl⟩]
    · rw [if_neg e2]
      by_cases e3 : r < k ∨ (r = k ∧ l < i)
      · rw [if_pos e3, if_pos (by rcases e3 with h | h; exact .inl h; exact .inr ⟨h.1, by omega⟩)]
      · rw [if_neg e3, if_neg (by
          intro h
          rcases h with h | h
          · exact e3 (.inl h)
          · refine e3 (.inr ⟨h.1, ?_⟩)
            have : l ≠ i := fun x => e2 ⟨h.1, x⟩
            omega)]
theorem midR_next {R R' : Nat → Nat → Int} {n out k : Nat} : ∀ r l, l ≤ n → midR R R' out k (n + 1) r l = midR R R' out (k + 1) 0 r l := fun r l hl => by
  unfold midR
  by_cases e : r = out
  · rw [if_pos e, if_pos e]
  · rw [if_neg e, if_neg e]
    by_cases e2 : r ≤ k
    · rw [if_pos (by rcases Nat.lt_or_ge r k with h | h; exact .inl h; exact .inr ⟨by omega, by omega⟩), if_pos (.inl (by omega))]
    · rw [if_neg (by rintro (h | h) <;> omega), if_neg (by rintro (h | h) <;> omega)]
theorem midR_out {R R' : Nat → Nat → Int} {n out : Nat} : ∀ r l, l ≤ n → midR R R' out out 0 r l = midR R R' out (out + 1) 0 r l := fun r l hl => by
  unfold midR
  by_cases e : r = out
  · rw [if_pos e, if_pos e]
  · rw [if_neg e, if_neg e]
    by_cases e2 : r < out
    · rw [if_pos (.inl e2), if_pos (.inl (by omega))]
    · rw [if_neg (by rintro (h | h) <;> omega), if_neg (by rintro (h | h) <;> omega)]
theorem midR_zero {R R' : Nat → Nat → Int} {out : Nat} : ∀ r l, midR R R' out 0 0 r l = R r l := fun r l => by
  unfold midR
  by_cases e : r = out
  · rw [if_pos e]
  · rw [if_neg e, if_neg (by rintro (h | h) <;> omega)]
theorem midR_all {R R' : Nat → Nat → Int} {n out : Nat} (h : ∀ l, R' out l = R out l) : ∀ r l, r ≤ n → midR R R' out (n + 1) 0 r l = R' r l := fun r l hr => by
  unfold midR
  by_cases e : r = out
  · rw [if_pos e, e, h]
  · rw [if_neg e, if_pos (.inl (by omega))]
theorem TabM.congr {w : World} (h : TabM w B n cols A s G) {s' : St} (h1 : ∀ k, k < n → s'.mem k = s.mem k) (h2 : ∀ k, k ≤ n → ∀ l, l ≤ n → s'.R k l = s.R k l) (h3 : s'.d = s.d) (h4 : s'.stalled = s.stalled) : TabM w B n cols A s' G := by
  refine ⟨h.bT, h.bgc, h.bgr, h.cc, h.cms, h.crs, by rw [h3]; exact h.com, by rw [h4]; exact h.stl, h.fz, h.lcm, h.lcr, h.col, ?_, ?_, h.inj⟩
  · rcases h.mem with h0 | ⟨gm, q1, q2, q3, q4, q5⟩
    · exact .inl h0
    · exact .inr ⟨gm, q1, q2, q3, q4, fun k hk => by rw [h1 k hk]; exact q5 k hk⟩
  · intro k hk
    obtain ⟨q1, q2, q3, q4⟩ := h.rows k hk
    exact ⟨q1, by rw [rowOf_congr (R' := s.R) (fun l hl => h2 k hk l hl)]; exact q2, q3, q4⟩
set_option maxRecDepth 100000 in
set_option maxHeartbeats 16000000 in
theorem exchange_c {b : Nat → Int} (W : World) (h : TabM W B n cols A s G) (hg : Putlog.Good n cols (sysC n A b) b s) (hS : SmallT n cols A s) (hA : ∀ j, j < cols → ∀ i, i < n → -30000 ≤ A j i ∧ A j i ≤ 30000) (hn : n ≤ 18) (hcols : cols ≤ 64)
    (q : Nat) (hq : q < cols) (hgain : 0 < fall n s.R (A q) n) (hbl : s.stalled = true → ∀ j, j < q → fall n s.R (A j) n ≤ 0) (hT : TabB W) (hTB : 2 < B) (hBW : B ≤ W.heap.size) :
    Calls Tryz.prog 41 #[.pointer (some ⟨G.T, 0, none⟩), .int .i64 q] W fun e w' => (e = .returned (.tuple #[]) ∧ ∃ s' out, StepT n cols (sysC n A b) s s' q out ∧ TabM w' B n cols A s' G) ∧ Below B W w' := by
  have HH := Lib.hid h
  have HGD := Lib.hid hg
  have HS := Lib.hid hS
  have HA := Lib.hid hA
  have HGA := Lib.hid hgain
  have HBL := Lib.hid hbl
  have HT := Lib.hid hT
  have HTB := Lib.hid (And.intro hTB hBW)
  obtain ⟨i0, hi0, hz0, hz1, hz2⟩ := info_numbers
  have HI0 := Lib.hid hi0
  have HZ0 := Lib.hid hz0
  have HZ1 := Lib.hid hz1
  have HZ2 := Lib.hid hz2
  have c0 := h.cc
  have c1 := h.cms
  have c2 := h.crs
  have hcr := h.lcr
  have hcm := h.lcm
  obtain ⟨m, hm⟩ : ∃ m, m = n + 1 := ⟨_, rfl⟩
  rw [← hm] at c2 hcr
  have hnm : (n : Int) < m := by omega
  have hm19 : (m : Int) ≤ 19 := by omega
  have hw1 : IntKind.i64.wrap ((n : Int) + 1) = m := by rw [IntKind.wrap_i64]; omega
  have hn18 : (n : Int) ≤ 18 := by omega
  have hq64 : (q : Int) < cols := by omega
  have hc64 : (cols : Int) ≤ 64 := by omega
  obtain ⟨hcr1, hcr2⟩ := hcr
  obtain ⟨hcm1, hcm2⟩ := hcm
  have hmc : (m : Int) ≤ G.cr := by omega
  have hncm : (n : Int) ≤ G.cm := by omega
  have HM' := Lib.hid hm
  have HQ := Lib.hid hq
  have HN18 := Lib.hid hn
  have HSZW := Lib.hid (lt_of_cell c0)
  clear h hg hS hA hgain hbl hT hTB hBW hi0 hz0 hz1 hz2 hm hcr1 hcm1 hn hcols hq
  generalize hGT : G.T = T at *
  generalize hGgc : G.gc = gc at *
  generalize hGgr : G.gr = gr at *
  generalize hGam : G.am = am at *
  generalize hGcm : G.cm = cm at *
  generalize hGcr : G.cr = cr at *
  have HG := Lib.hid (And.intro hGT (And.intro hGgc (And.intro hGgr (And.intro hGam (And.intro hGcm hGcr)))))
  clear hGT hGgc hGgr hGam hGcm hGcr
  go_enter Tryz.func41, Tryz.ntmps41
  go_wp2_with (at_make; go_must (refine wpList_make_full _ rfl _ _ 77 rfl W.heap.size 81 i0 (.agg zeroL.toArray) 10 Tryz.underlying77 HI0.out HZ0.out HZ1.out .i64 .i64 (m : Int) (m : Int) m rfl rfl rfl rfl (by rw [HZ2.out]; omega) (by unfold maxLen; omega) (Nat.le_refl _) ?_); intro w1 hown hgrow; have hr0 := num_made hown; have hB1 := belowMadeL hgrow; clear hown hgrow; have c2 := keptBelow hB1 c2; have c0 := keptBelow hB1 c0)
  rw [HM'.out, ← fallsTo_zero n (fun k => fall n s.R (A q) k)] at hr0
  have HR := Lib.hid hr0
  have HB := Lib.hid hB1
  obtain ⟨f, hf⟩ : ∃ f : Nat → Int, f = fun k => fall n s.R (A q) k := ⟨_, rfl⟩
  rw [← hf] at HR
  have HFD := Lib.hid hf
  clear hf hr0 hB1 c0
  go_loopw [27] (fun i wr => ∃ k : Nat, k ≤ m ∧ i = .int .i64 k ∧ NumB W.heap.size (rowL (fallsTo n f k)) wr ∧ Below W.heap.size W wr) (fun i _ => m - (intOf i).toNat)
  case atStart => exact ⟨0, by omega, rfl, HR.out, HB.out⟩
  case round =>
    clear HR HB
    obtain ⟨k, hk, rfl, hr, hB⟩ := hrel
    have HR := Lib.hid hr
    have HB := Lib.hid hB
    clear hr
    by_cases hlt : k < m
    · have hlt' : (k : Int) < m := by omega
      have hkn : k ≤ n := by have := HM'.out; omega
      have hTM := HH.out.via hB
      obtain ⟨ca', cc, f0, f1, f2, f3, f4⟩ := hTM.col q HQ.out
      obtain ⟨r1, r2, r3, r4⟩ := hTM.rows k hkn
      have d0 := hTM.cc
      have d2 := hTM.crs
      rw [HG.out.2.1] at f0
      rw [HG.out.1, HG.out.2.1] at d0
      rw [HG.out.2.2.1, ← HM'.out] at r1
      rw [HG.out.1, HG.out.2.2.1, HG.out.2.2.2.2.2, ← HM'.out] at d2
      have hwe : Calls Tryz.prog 47 #[.slice ca' n cc, .slice (some ⟨G.rb k, 0, none⟩) m m] wr fun e w'' => e = .returned (.agg (numL (f k)).toArray) ∧ Below wr.heap.size wr w'' := by
        have := weighted_num (colOfA n A q) (rowOf n s.R k) ca' cc (G.rb k) 0 m m wr f3 (fun x hx => by
          obtain ⟨i, hi, rfl⟩ := List.mem_map.1 hx
          have := HA.out q HQ.out i (List.mem_range.1 hi)
          omega) r2.nums (by rw [colOfA_len]; omega) (by rw [rowOf_len]; have := HM'.out; omega) (by rw [colOfA_len]; exact ⟨f1, f2⟩) ⟨Nat.le_refl _, by omega⟩
        rw [colOfA_len, dot_fall] at this
        rw [HFD.out]
        exact this
      have HWE := Lib.hid hwe
      have hf1 : (n : Int) ≤ cc := by omega
      have hst : ∀ w, NumB W.heap.size (rowL (fallsTo n f k)) w → _ := fun w h => store_row h (i := k) (by rw [fallsTo_len]; omega) (f k)
      rw [fallsTo_set f hkn] at hst
      have HST := Lib.hid hst
      have hzl := numL_len (f k)
      clear hTM f1 f3 f4 r2 r3 r4 hwe hst hkn c2
      generalize f k = z at *
      generalize G.rb k = rk at *
      go_wp2_with fail
      refine HWE.out.mono ?_
      rintro e w5 ⟨rfl, hB5⟩
      have N5 := Lib.hid (HR.out.via hB5)
      have HB5 := Lib.hid (belowVia hB5 HB.out)
      obtain ⟨hs1, hs2⟩ := HST.out w5 N5.out
      have N6 := Lib.hid hs2
      have HB6 := Lib.hid (below_setCells W.heap.size (Nat.le_refl _) (numL z) w5 (k * 10) HB5.out)
      clear hB5 hB HB HR HST hs2 HWE HB5 N5
      generalize numL z = lz at *
      go_wp2_with fail
      exact ⟨⟨k + 1, by omega, by go_num, N6.out, HB6.out⟩, by simp [intOf]; omega⟩
    · obtain rfl : m = k := by omega
      clear hlt hk
      rw [HM'.out, fallsTo_all] at HR
      have hF := HR.out
      have hTM := HH.out.via hB
      have hfb : ∀ k, k ≤ n → -LIM ≤ f k ∧ f k ≤ LIM := fun k hk => by rw [HFD.out]; exact HS.out.fal k hk q HQ.out
      have hL := leaving_c wr hTM HS.out f W.heap.size hF hfb HN18.out
      rw [← HM'.out, HG.out.1] at hL
      have HLV := Lib.hid hL
      have HFB := Lib.hid hfb
      clear hL hfb hF hTM
      go_wp2_with fail
      refine HLV.out.mono ?_
      rintro e w2 ⟨⟨ov, rfl, hlv⟩, hB2⟩
      obtain ⟨o, rfl, hle, htie⟩ : ∃ o : Nat, ov = o ∧ Putlog.Leaves n (sysC n A b) s.R q o ∧ ∀ k, k < n → 0 < fall n s.R (sysC n A b q) k → s.R k n * fall n s.R (sysC n A b q) o = s.R o n * fall n s.R (sysC n A b q) k → s.mem o ≤ s.mem k := by
        refine Lv.done HGD.out (e := q) ?_ ?_
        · rw [sysC_var]; exact HGA.out
        · rw [sysC_var]; rw [HFD.out] at hlv; exact hlv
      have hon : (o : Int) < n := by have := hle.lt; omega
      have hom : (o : Int) < m := by omega
      have HLE := Lib.hid hle
      have HTIE := Lib.hid htie
      have hBa := belowVia hB2 HB.out
      have hTM := HH.out.via hBa
      obtain ⟨r1, r2, r3, r4⟩ := hTM.rows o (by have := hle.lt; omega)
      have d2 := hTM.crs
      rw [HG.out.2.2.1, ← HM'.out] at r1
      rw [HG.out.1, HG.out.2.2.1, HG.out.2.2.2.2.2, ← HM'.out] at d2
      have x1 := num_range_at r2 (i := n) (by rw [rowOf_len]; omega)
      rw [rowOf_get _ _ (Nat.le_refl _)] at x1
      have hzb := HS.out.ent o (by have := hle.lt; omega) n (Nat.le_refl _)
      have hh := lim_hm
      have h1' := lim_one
      have HSG := Lib.hid (fun w => sign_num (s.R o n) (by omega) (by omega) w)
      have hsz1 := sz_num (s.R o n)
      have hsgz : (sgnZ (s.R o n) == 0) = decide (s.R o n = 0) := by
        unfold sgnZ
        by_cases e : s.R o n = 0
        · simp [e]
        · rw [if_neg e]
          split <;> simp [e]
      have HSZ := Lib.hid hsgz
      have HTM := Lib.hid hTM
      have HBA := Lib.hid hBa
      have HFR := Lib.hid (HR.out.via hB2)
      clear hle htie hlv hB hB2 hBa hTM r2 r3 r4 hzb hh h1' hsgz c1 c2
      generalize numL (s.R o n) = l1 at *
      generalize sgnZ (s.R o n) = sg at *
      generalize hro : G.rb o = ro at *
      have HRO := Lib.hid hro
      clear hro
      go_wp2_with (refine wpList_load_mid rfl _ _ rfl ro (n * 10) rfl l1 _ x1 Tryz.underlying81 rfl hsz1 ?_)
      refine (HSG.out _).mono ?_
      rintro e w3 ⟨rfl, hB3⟩
      have hTM4 := (HTM.out.via hB3).mark (sg == 0)
      rw [HG.out.1] at hTM4
      have x3 := hTM4.com
      rw [HG.out.1] at x3
      have d2 := hTM4.crs
      rw [HG.out.1, HG.out.2.2.1, HG.out.2.2.2.2.2, ← HM'.out] at d2
      have t13 := (HTM.out.via hB3).stl
      rw [HG.out.1] at t13
      have f13 := (HTM.out.via hB3).fz 13
      rw [HG.out.1] at f13
      have hBT : B ≤ T := by have := HH.out.bT; rw [HG.out.1] at this; exact this
      have hB4 : Below B W (w3.setCell ⟨T, 13, none⟩ (.bool (sg == 0))) := ((belowVia hB3 HBA.out).mono HTB.out.2).setCell (p := ⟨T, 13, none⟩) hBT _
      have hF4 : NumB W.heap.size (rowL (rowOf n (fun _ => f) 0)) (w3.setCell ⟨T, 13, none⟩ (.bool (sg == 0))) := (HFR.out.via hB3).other (by have := HSZW.out; omega)
      have hT4 : TabB (w3.setCell ⟨T, 13, none⟩ (.bool (sg == 0))) := ⟨fun j hj => by
        have := hB4.cell (p := ⟨2, j, none⟩) HTB.out.1
        rw [this]; exact HT.out.tab j hj, Nat.lt_of_lt_of_le HT.out.size (by have := HBA.out.size; have := hB3.size; rw [World.size_setCell]; omega)⟩
      have hs4 : W.heap.size < (w3.setCell ⟨T, 13, none⟩ (.bool (sg == 0))).heap.size := (Array.getElem?_eq_some_iff.1 hF4).1
      have HTM4 := Lib.hid hTM4
      have HB4 := Lib.hid hB4
      have HF4 := Lib.hid hF4
      have HT4 := Lib.hid hT4
      have HS4 := Lib.hid hs4
      have hd := HS.out.d
      have hh := lim_hm
      have h1' := lim_one
      have HDI := Lib.hid (fun w h => dividing_num s.d hd.1 (by omega) w h)
      have hsz3 := sz_num s.d
      clear hTM4 hB4 hF4 hT4 hs4 hB3 HTM HBA HFR HSG hd hh h1' hBT x1 HR HB
      dsimp only at x3
      generalize numL s.d = ld at *
      go_wp2_with (refine wpList_load_mid rfl _ _ rfl T 3 rfl ld _ x3 Tryz.underlying81 rfl hsz3 ?_)
      refine (HDI.out _ HT4.out).mono ?_
      rintro e w5 ⟨⟨g1, g2, rfl, hg1, hg2, hdv⟩, hB5⟩
      have HTM5 := Lib.hid (HTM4.out.via hB5)
      have HF5 := Lib.hid (HF4.out.via hB5)
      have HB5 := Lib.hid (belowB hB5 HB4.out HTB.out.2)
      have HDV := Lib.hid hdv
      have hg1' : W.heap.size < g1 := by have := HS4.out; omega
      have hg2' : W.heap.size < g2 := by have := HS4.out; omega
      have d2 := keptBelow hB5 d2
      have HS5 : Hid ((w3.setCell ⟨T, 13, none⟩ (.bool (sg == 0))).heap.size ≤ g1 ∧ (w3.setCell ⟨T, 13, none⟩ (.bool (sg == 0))).heap.size ≤ g2) := Lib.hid ⟨hg1, hg2⟩
      clear hB5 hdv hg1 hg2 HDI HB4 HF4 HT4 x3 t13 f13
      obtain ⟨R', hR'⟩ : ∃ R', R' = pivR n (sysC n A b) s.R s.d q o := ⟨_, rfl⟩
      have HRP := Lib.hid hR'
      have hpq : ∀ k, k ≤ n → k ≠ o → ∀ i, i ≤ n → s.R k i * f o - s.R o i * f k = s.d * R' k i := fun k hk hko i hi => by
        rw [hR', HFD.out]
        have e : ∀ r, fall n s.R (sysC n A b q) r = fall n s.R (A q) r := fun r => by rw [sysC_var]
        by_cases hkn : k < n
        · have := HGD.out.1.pivot_row (q : Int) HLE.out.lt hkn hko hi
          rw [e, e] at this; exact this.symm
        · obtain rfl : k = n := by omega
          have := (HGD.out.1.pivot_all (j := (q : Int)) (by omega) HLE.out.lt hi).1
          rw [e, e] at this; exact this.symm
      have HPQ := Lib.hid hpq
      have hR'o : ∀ l, R' o l = s.R o l := fun l => by rw [hR']; exact pivR_out _ _ _
      have HRO2 := Lib.hid hR'o
      have hTM0 : TabM w5 B n cols A ⟨s.mem, midR s.R R' o 0 0, s.d, sg == 0⟩ G := HTM5.out.congr (fun _ _ => rfl) (fun k _ l _ => midR_zero k l) rfl rfl
      have HTM0 := Lib.hid hTM0
      clear hR' hpq hR'o hTM0 HTM5 HTM4 HS4
      go_wp2_with fail
      clear d2
      go_loopw [74] (fun i wr => ∃ k : Nat, k ≤ m ∧ i = .int .i64 k ∧ TabM wr B n cols A ⟨s.mem, midR s.R R' o k 0, s.d, sg == 0⟩ G ∧ NumB W.heap.size (rowL (rowOf n (fun _ => f) 0)) wr ∧ DivBox s.d g1 g2 wr ∧ Below B W wr) (fun i _ => m - (intOf i).toNat)
      case atStart => exact ⟨0, by omega, rfl, HTM0.out, HF5.out, HDV.out, HB5.out⟩
      case round =>
        clear HTM0 HF5 HDV HB5
        obtain ⟨k, hk, rfl, hTM, hf, hdv, hB⟩ := hrel
        have HTM := Lib.hid hTM
        have HF := Lib.hid hf
        have HDV := Lib.hid hdv
        have HB := Lib.hid hB
        clear hf hdv hB
        by_cases hlt : k < m
        · have hlt' : (k : Int) < m := by omega
          have hkn : k ≤ n := by have := HM'.out; omega
          have r1 := (hTM.rows k hkn).1
          rw [HG.out.2.2.1, ← HM'.out] at r1
          obtain ⟨rk, hrk⟩ : ∃ rk, rk = G.rb k := ⟨_, rfl⟩
          rw [← hrk] at r1
          have HRK := Lib.hid hrk
          clear hrk hTM
          by_cases hko : k = o
          · subst hko
            have hke : ((k : Int) == k) = true := by simp
            have HTM1 : Hid (TabM wr B n cols A ⟨s.mem, midR s.R R' k (k + 1) 0, s.d, sg == 0⟩ G) := Lib.hid (HTM.out.congr (fun _ _ => rfl) (fun r _ l hl => (midR_out r l hl).symm) rfl rfl)
            clear HTM
            go_wp2_with fail
            go_roundw
            case rel => exact ⟨k + 1, by omega, by go_num, HTM1.out, HF.out, HDV.out, HB.out⟩
            case measure => simp [intOf]; omega
          · have hke : ((k : Int) == o) = false := by rw [beq_eq_false_iff_ne]; omega
            have HKO := Lib.hid hko
            have HKN := Lib.hid hkn
            clear hko hkn
            go_wp2_with fail
            clear r1
            go_loopw [84] (fun ix wx => ∃ i : Nat, i ≤ m ∧ ix = .int .i64 i ∧ TabM wx B n cols A ⟨s.mem, midR s.R R' o k i, s.d, sg == 0⟩ G ∧ NumB W.heap.size (rowL (rowOf n (fun _ => f) 0)) wx ∧ DivBox s.d g1 g2 wx ∧ Below B W wx) (fun ix _ => m - (intOf ix).toNat)
            case atStart => exact ⟨0, by omega, rfl, HTM.out, HF.out, HDV.out, HB.out⟩
            case round =>
              clear HTM HF HDV HB
              obtain ⟨i, hi, rfl, hTM, n1, dv, hB⟩ := hrel
              by_cases hit : i < m
              · have hit' : (i : Int) < m := by omega
                have hin : i ≤ n := by have := HM'.out; omega
                obtain ⟨_, q2, q3, _⟩ := hTM.rows k HKN.out
                obtain ⟨_, b2, _, _⟩ := hTM.rows o (by have := HLE.out.lt; omega)
                have hir : i < (rowOf n (midR s.R R' o k i) k).length := by rw [rowOf_len]; omega
                have x1 := num_range_at q2 hir
                rw [rowOf_get _ _ hin, ← HRK.out] at x1
                have x3 := num_range_at b2 (i := i) (by rw [rowOf_len]; omega)
                rw [rowOf_get _ _ hin, HRO.out] at x3
                have e1 : midR s.R R' o k i k i = s.R k i := by unfold midR; rw [if_neg HKO.out, if_neg (by rintro (h | h) <;> omega)]
                have e2 : midR s.R R' o k i o i = s.R o i := by unfold midR; rw [if_pos rfl]
                dsimp only at x1 x3
                rw [e1] at x1
                rw [e2] at x3
                have x2 := num_range_at n1 (i := o) (by rw [rowOf_len]; have := HLE.out.lt; omega)
                have x4 := num_range_at n1 (i := k) (by rw [rowOf_len]; have := HKN.out; omega)
                rw [rowOf_get _ _ (by have := HLE.out.lt; omega)] at x2
                rw [rowOf_get _ _ HKN.out] at x4
                have nr : NumB rk (rowL (rowOf n (midR s.R R' o k i) k)) wr := by rw [HRK.out]; exact q2
                have hx := lim_prod (HS.out.ent k HKN.out i hin) (HFB.out o (by have := HLE.out.lt; omega)) (HS.out.ent o (by have := HLE.out.lt; omega) i hin) (HFB.out k HKN.out)
                have hpq := HPQ.out k HKN.out HKO.out i hin
                rw [hpq] at hx
                have HT1 := Lib.hid (fun w => times_num (s.R k i) (f o) w)
                have HT2 := Lib.hid (fun w => times_num (s.R o i) (f k) w)
                have HMI := Lib.hid (fun w => minus_num (s.R k i * f o) (s.R o i * f k) w)
                rw [hpq] at HMI
                have HDQ := Lib.hid (fun w hD => divide_num s.d (R' k i) g1 g2 (by omega) (by omega) w hD)
                have hmid := midR_step (R := s.R) (R' := R') (i := i) HKO.out
                have HSET : Hid ((rowOf n (midR s.R R' o k i) k).set i (R' k i) = rowOf n (midR s.R R' o k (i + 1)) k) := Lib.hid (by
                  have := rowOf_set (n := n) (R := midR s.R R' o k i) (R' := midR s.R R' o k (i + 1)) (k := k) hin (fun l _ => by
                    rw [hmid k l, hmid k i, if_pos (And.intro rfl rfl)]
                    by_cases e : l = i
                    · rw [if_pos ⟨rfl, e⟩, if_pos e]
                    · rw [if_neg (fun h => e h.2), if_neg e])
                  rw [hmid k i, if_pos (And.intro rfl rfl)] at this
                  exact this)
                have HOTH : Hid (∀ r, r ≤ n → r ≠ k → ∀ l, l ≤ n → midR s.R R' o k (i + 1) r l = midR s.R R' o k i r l) := Lib.hid (fun r _ hrk l _ => by rw [hmid r l, if_neg (fun h => hrk h.1)])
                have hs1 := sz_num (s.R k i)
                have hs2 := sz_num (f o)
                have hs3 := sz_num (s.R o i)
                have hs4 := sz_num (f k)
                have hs8 := sz_num (R' k i)
                have hl8 := numL_len (R' k i)
                have ho8 := numL_one (R' k i)
                have HST : Hid (∀ w, NumB rk (rowL (rowOf n (midR s.R R' o k i) k)) w → NumB rk (rowL (rowOf n (midR s.R R' o k (i + 1)) k)) (w.setCells rk (i * 10) (numL (R' k i)))) := Lib.hid (fun w hw => by have := (store_row hw hir (R' k i)).2; rw [HSET.out] at this; exact this)
                have hBrk : B ≤ rk := by have := HRK.out; have := HH.out.bT; omega
                have hrkW : rk < W.heap.size := by have := HH.out.lts.2.2.1 k HKN.out; have := HRK.out; omega
                clear e1 e2 q2 q3 b2 hx hpq hmid hin
                generalize s.d * R' k i = dq at *
                generalize s.R k i * f o = p1 at *
                generalize s.R o i * f k = p2 at *
                generalize numL dq = l7 at *
                generalize numL p1 = l5 at *
                generalize numL p2 = l6 at *
                generalize numL (s.R k i) = l1 at *
                generalize numL (f o) = l2 at *
                generalize numL (s.R o i) = l3 at *
                generalize numL (f k) = l4 at *
                generalize numL (R' k i) = l8 at *
                go_upto_region 18 with fail
                refine wp_region_K (fun w' => w'.rangeAt rk (i * 10) l1 ∧ w'.rangeAt W.heap.size (o * 10) l2 ∧ w'.rangeAt ro (i * 10) l3 ∧ w'.rangeAt W.heap.size (k * 10) l4) 24 (by kernel_rfl) ?_
                refine wpK_take (i := 0) (d := some 87) (v := ?_) rfl rfl (by kernel_rfl) (by kernel_rfl) (by kernel_rfl) (by kernel_rfl) (by kernel_rfl) rfl (fun _ _ _ h => h) (.inl ⟨by rfl, fun w hw => ?_⟩) ⟨x1, x2, x3, x4⟩ ?_
                rotate_left
                · clear hw; go_simp; with_reducible rfl
                try simp only [Act.put, List.setIfInBounds_toArray, List.set_cons_zero, List.set_cons_succ]
                refine wpK_take (i := 1) (d := some 88) (v := ?_) rfl rfl (by kernel_rfl) (by kernel_rfl) (by kernel_rfl) (by kernel_rfl) (by kernel_rfl) rfl (fun _ _ _ h => h) (.inl ⟨by rfl, fun w hw => ?_⟩) ⟨x1, x2, x3, x4⟩ ?_
                rotate_left
                · clear hw; go_simp; with_reducible rfl
                try simp only [Act.put, List.setIfInBounds_toArray, List.set_cons_zero, List.set_cons_succ]
                refine wpK_take (i := 2) (d := some 89) (v := ?_) rfl rfl (by kernel_rfl) (by kernel_rfl) (by kernel_rfl) (by kernel_rfl) (by kernel_rfl) rfl (fun _ _ _ h => h) (.inl ⟨by rfl, fun w hw => ?_⟩) ⟨x1, x2, x3, x4⟩ ?_
                rotate_left
                · clear hw; go_simp; with_reducible rfl
                try simp only [Act.put, List.setIfInBounds_toArray, List.set_cons_zero, List.set_cons_succ]
                refine wpK_take (i := 3) (d := some 90) (v := ?_) rfl rfl (by kernel_rfl) (by kernel_rfl) (by kernel_rfl) (by kernel_rfl) (by kernel_rfl) rfl (fun _ _ _ h => h) (.inl ⟨by rfl, fun w hw => ?_⟩) ⟨x1, x2, x3, x4⟩ ?_
                rotate_left
                · clear hw; go_simp; with_reducible rfl
                try simp only [Act.put, List.setIfInBounds_toArray, List.set_cons_zero, List.set_cons_succ]
                refine wpK_take (i := 4) (d := some 91) (v := ?_) rfl rfl (by kernel_rfl) (by kernel_rfl) (by kernel_rfl) (by kernel_rfl) (by kernel_rfl) rfl (fun _ _ _ h => h) (.inl ⟨by rfl, fun w hw => ?_⟩) ⟨x1, x2, x3, x4⟩ ?_
                rotate_left
                · clear hw; go_simp; with_reducible rfl
                try simp only [Act.put, List.setIfInBounds_toArray, List.set_cons_zero, List.set_cons_succ]
                refine wpK_take (i := 5) (d := some 92) (v := ?_) rfl rfl (by kernel_rfl) (by kernel_rfl) (by kernel_rfl) (by kernel_rfl) (by kernel_rfl) rfl (fun _ _ _ h => h) (.inl ⟨by rfl, fun w hw => ?_⟩) ⟨x1, x2, x3, x4⟩ ?_
                rotate_left
                · clear hw; go_simp; with_reducible rfl
                try simp only [Act.put, List.setIfInBounds_toArray, List.set_cons_zero, List.set_cons_succ]
                refine wpK_take (i := 6) (d := some 93) rfl rfl (by kernel_rfl) (by kernel_rfl) (by kernel_rfl) (by kernel_rfl) (by kernel_rfl) rfl (fun _ _ _ h => h) (yieldsIf_load_mid (by rfl) _ _ rfl (rk) (i * 10) rfl l1 _ (fun w h => h.1) Tryz.underlying81 rfl (by assumption)) ⟨x1, x2, x3, x4⟩ ?_
                try simp only [Act.put, List.setIfInBounds_toArray, List.set_cons_zero, List.set_cons_succ]
                refine wpK_take (i := 7) (d := some 94) (v := ?_) rfl rfl (by kernel_rfl) (by kernel_rfl) (by kernel_rfl) (by kernel_rfl) (by kernel_rfl) rfl (fun _ _ _ h => h) (.inl ⟨by rfl, fun w hw => ?_⟩) ⟨x1, x2, x3, x4⟩ ?_
                rotate_left
                · clear hw; go_simp; with_reducible rfl
                try simp only [Act.put, List.setIfInBounds_toArray, List.set_cons_zero, List.set_cons_succ]
                refine wpK_take (i := 8) (d := some 95) (v := ?_) rfl rfl (by kernel_rfl) (by kernel_rfl) (by kernel_rfl) (by kernel_rfl) (by kernel_rfl) rfl (fun _ _ _ h => h) (.inl ⟨by rfl, fun w hw => ?_⟩) ⟨x1, x2, x3, x4⟩ ?_
                rotate_left
                · clear hw; go_simp; with_reducible rfl
                try simp only [Act.put, List.setIfInBounds_toArray, List.set_cons_zero, List.set_cons_succ]
                refine wpK_take (i := 9) (d := some 96) (v := ?_) rfl rfl (by kernel_rfl) (by kernel_rfl) (by kernel_rfl) (by kernel_rfl) (by kernel_rfl) rfl (fun _ _ _ h => h) (.inl ⟨by rfl, fun w hw => ?_⟩) ⟨x1, x2, x3, x4⟩ ?_
                rotate_left
                · clear hw; go_simp; with_reducible rfl
                try simp only [Act.put, List.setIfInBounds_toArray, List.set_cons_zero, List.set_cons_succ]
                refine wpK_take (i := 10) (d := some 97) rfl rfl (by kernel_rfl) (by kernel_rfl) (by kernel_rfl) (by kernel_rfl) (by kernel_rfl) rfl (fun _ _ _ h => h) (yieldsIf_load_mid (by rfl) _ _ rfl (W.heap.size) (o * 10) rfl l2 _ (fun w h => h.2.1) Tryz.underlying81 rfl (by assumption)) ⟨x1, x2, x3, x4⟩ ?_
                try simp only [Act.put, List.setIfInBounds_toArray, List.set_cons_zero, List.set_cons_succ]
                refine wpK_take (i := 12) (d := some 99) (v := ?_) rfl rfl (by kernel_rfl) (by kernel_rfl) (by kernel_rfl) (by kernel_rfl) (by kernel_rfl) rfl (fun _ _ _ h => h) (.inl ⟨by rfl, fun w hw => ?_⟩) ⟨x1, x2, x3, x4⟩ ?_
                rotate_left
                · clear hw; go_simp; with_reducible rfl
                try simp only [Act.put, List.setIfInBounds_toArray, List.set_cons_zero, List.set_cons_succ]
                refine wpK_take (i := 13) (d := some 100) (v := ?_) rfl rfl (by kernel_rfl) (by kernel_rfl) (by kernel_rfl) (by kernel_rfl) (by kernel_rfl) rfl (fun _ _ _ h => h) (.inl ⟨by rfl, fun w hw => ?_⟩) ⟨x1, x2, x3, x4⟩ ?_
                rotate_left
                · clear hw; go_simp; with_reducible rfl
                try simp only [Act.put, List.setIfInBounds_toArray, List.set_cons_zero, List.set_cons_succ]
                refine wpK_take (i := 14) (d := some 101) (v := ?_) rfl rfl (by kernel_rfl) (by kernel_rfl) (by kernel_rfl) (by kernel_rfl) (by kernel_rfl) rfl (fun _ _ _ h => h) (.inl ⟨by rfl, fun w hw => ?_⟩) ⟨x1, x2, x3, x4⟩ ?_
                rotate_left
                · clear hw; go_simp; with_reducible rfl
                try simp only [Act.put, List.setIfInBounds_toArray, List.set_cons_zero, List.set_cons_succ]
                refine wpK_take (i := 15) (d := some 102) rfl rfl (by kernel_rfl) (by kernel_rfl) (by kernel_rfl) (by kernel_rfl) (by kernel_rfl) rfl (fun _ _ _ h => h) (yieldsIf_load_mid (by rfl) _ _ rfl (ro) (i * 10) rfl l3 _ (fun w h => h.2.2.1) Tryz.underlying81 rfl (by assumption)) ⟨x1, x2, x3, x4⟩ ?_
                try simp only [Act.put, List.setIfInBounds_toArray, List.set_cons_zero, List.set_cons_succ]
                refine wpK_take (i := 16) (d := some 103) (v := ?_) rfl rfl (by kernel_rfl) (by kernel_rfl) (by kernel_rfl) (by kernel_rfl) (by kernel_rfl) rfl (fun _ _ _ h => h) (.inl ⟨by rfl, fun w hw => ?_⟩) ⟨x1, x2, x3, x4⟩ ?_
                rotate_left
                · clear hw; go_simp; with_reducible rfl
                try simp only [Act.put, List.setIfInBounds_toArray, List.set_cons_zero, List.set_cons_succ]
                refine wpK_take (i := 17) (d := some 104) (v := ?_) rfl rfl (by kernel_rfl) (by kernel_rfl) (by kernel_rfl) (by kernel_rfl) (by kernel_rfl) rfl (fun _ _ _ h => h) (.inl ⟨by rfl, fun w hw => ?_⟩) ⟨x1, x2, x3, x4⟩ ?_
                rotate_left
                · clear hw; go_simp; with_reducible rfl
                try simp only [Act.put, List.setIfInBounds_toArray, List.set_cons_zero, List.set_cons_succ]
                refine wpK_take (i := 18) (d := some 105) (v := ?_) rfl rfl (by kernel_rfl) (by kernel_rfl) (by kernel_rfl) (by kernel_rfl) (by kernel_rfl) rfl (fun _ _ _ h => h) (.inl ⟨by rfl, fun w hw => ?_⟩) ⟨x1, x2, x3, x4⟩ ?_
                rotate_left
                · clear hw; go_simp; with_reducible rfl
                try simp only [Act.put, List.setIfInBounds_toArray, List.set_cons_zero, List.set_cons_succ]
                refine wpK_take (i := 19) (d := some 106) rfl rfl (by kernel_rfl) (by kernel_rfl) (by kernel_rfl) (by kernel_rfl) (by kernel_rfl) rfl (fun _ _ _ h => h) (yieldsIf_load_mid (by rfl) _ _ rfl (W.heap.size) (k * 10) rfl l4 _ (fun w h => h.2.2.2) Tryz.underlying81 rfl (by assumption)) ⟨x1, x2, x3, x4⟩ ?_
                try simp only [Act.put, List.setIfInBounds_toArray, List.set_cons_zero, List.set_cons_succ]
                refine wpK_one (i := 11) (by kernel_rfl) rfl rfl ?_
                go_simp
                refine (HT1.out _).mono ?_
                rintro e w1 ⟨rfl, hBw1⟩
                have x1 := range_via (range_via x1 ((Below.refl _ _).drew)) hBw1
                have x2 := range_via (range_via x2 ((Below.refl _ _).drew)) hBw1
                have x3 := range_via (range_via x3 ((Below.refl _ _).drew)) hBw1
                have x4 := range_via (range_via x4 ((Below.refl _ _).drew)) hBw1
                have hTM := (hTM.via ((Below.refl _ _).drew)).via hBw1
                have n1 := (n1.via ((Below.refl _ _).drew)).via hBw1
                have dv := (dv.via ((Below.refl _ _).drew)).via hBw1
                have nr := (nr.via ((Below.refl _ _).drew)).via hBw1
                have hB := belowB hBw1 (belowB ((Below.refl _ _).drew) hB HTB.out.2) HTB.out.2
                refine ⟨⟨x1, x2, x3, x4⟩, ?_⟩
                try simp only [Act.put, List.setIfInBounds_toArray, List.set_cons_zero, List.set_cons_succ]
                refine wpK_one (i := 20) (by kernel_rfl) rfl rfl ?_
                go_simp
                refine (HT2.out _).mono ?_
                rintro e w2 ⟨rfl, hBw2⟩
                have x1 := range_via x1 hBw2
                have x2 := range_via x2 hBw2
                have x3 := range_via x3 hBw2
                have x4 := range_via x4 hBw2
                have hTM := hTM.via hBw2
                have n1 := n1.via hBw2
                have dv := dv.via hBw2
                have nr := nr.via hBw2
                have hB := belowB hBw2 hB HTB.out.2
                refine ⟨⟨x1, x2, x3, x4⟩, ?_⟩
                try simp only [Act.put, List.setIfInBounds_toArray, List.set_cons_zero, List.set_cons_succ]
                refine wpK_one (i := 21) (by kernel_rfl) rfl rfl ?_
                go_simp
                refine (HMI.out _).mono ?_
                rintro e w3 ⟨rfl, hBw3⟩
                have x1 := range_via x1 hBw3
                have x2 := range_via x2 hBw3
                have x3 := range_via x3 hBw3
                have x4 := range_via x4 hBw3
                have hTM := hTM.via hBw3
                have n1 := n1.via hBw3
                have dv := dv.via hBw3
                have nr := nr.via hBw3
                have hB := belowB hBw3 hB HTB.out.2
                refine ⟨⟨x1, x2, x3, x4⟩, ?_⟩
                try simp only [Act.put, List.setIfInBounds_toArray, List.set_cons_zero, List.set_cons_succ]
                refine wpK_one (i := 22) (by kernel_rfl) rfl rfl ?_
                go_simp
                refine (HDQ.out _ dv).mono ?_
                rintro e w4 ⟨rfl, hBw4⟩
                have x1 := range_via x1 hBw4
                have x2 := range_via x2 hBw4
                have x3 := range_via x3 hBw4
                have x4 := range_via x4 hBw4
                have hTM := hTM.via hBw4
                have n1 := n1.via hBw4
                have dv := dv.via hBw4
                have nr := nr.via hBw4
                have hB := belowB hBw4 hB HTB.out.2
                refine ⟨⟨x1, x2, x3, x4⟩, ?_⟩
                try simp only [Act.put, List.setIfInBounds_toArray, List.set_cons_zero, List.set_cons_succ]
                refine wpK_take (i := 23) (d := some 110) (v := ?_) rfl rfl (by kernel_rfl) (by kernel_rfl) (by kernel_rfl) (by kernel_rfl) (by kernel_rfl) rfl (fun _ _ _ h => h) (.inl ⟨by rfl, fun w hw => ?_⟩) ⟨x1, x2, x3, x4⟩ ?_
                rotate_left
                · clear hw; go_simp; with_reducible rfl
                try simp only [Act.put, List.setIfInBounds_toArray, List.set_cons_zero, List.set_cons_succ]
                refine wpK_store (i := 24) (by kernel_rfl) rfl rfl rfl (by kernel_rfl) (by kernel_rfl) _ _ _ rfl rk (i * 10) l8 rfl rfl (by rw [hl8]; exact num_there_at nr hir) hs8 ho8 ?_
                have ho : OnlyAt rk w4 (w4.setCells rk (i * 10) l8) := only_setCells _ _ _ _ _ (OnlyAt.refl _ _ (Array.getElem?_eq_some_iff.1 nr).1)
                have HN9 := Lib.hid (ho.num n1 (by omega))
                have HDV9 := Lib.hid (dv.only ho (by omega) (by omega))
                have HB9 := Lib.hid (ho.below hB hBrk)
                have HTM9 : Hid (TabM (w4.setCells rk (i * 10) l8) B n cols A ⟨s.mem, midR s.R R' o k (i + 1), s.d, sg == 0⟩ G) := Lib.hid (hTM.row HKN.out (by rw [← HRK.out]; exact ho) (midR s.R R' o k (i + 1)) HOTH.out (by rw [← HRK.out]; exact HST.out _ nr))
                clear ho n1 dv hB hTM nr HST HOTH HSET hs1 hs2 hs3 hs4 hs8 hl8 ho8 x1 x2 x3 x4 HT1 HT2 HMI HDQ hBw1 hBw2 hBw3 hBw4
                generalize w4.setCells rk (i * 10) l8 = w9 at *
                go_wp2_with fail
                go_roundw
                case rel => exact ⟨i + 1, by omega, by go_num, HTM9.out, HN9.out, HDV9.out, HB9.out⟩
                case measure => simp [intOf]; omega
              · obtain rfl : m = i := by omega
                have HTM1 : Hid (TabM wr B n cols A ⟨s.mem, midR s.R R' o (k + 1) 0, s.d, sg == 0⟩ G) := Lib.hid (hTM.congr (fun _ _ => rfl) (fun r _ l hl => by show midR _ _ _ _ _ _ _ = midR _ _ _ _ _ _ _; rw [HM'.out]; exact (midR_next r l hl).symm) rfl rfl)
                have HF := Lib.hid n1
                have HDV := Lib.hid dv
                have HB := Lib.hid hB
                clear hTM n1 dv hB
                go_wp2_with fail
                go_roundw
                case rel => exact ⟨k + 1, by omega, by go_num, HTM1.out, HF.out, HDV.out, HB.out⟩
                case measure => simp [intOf]; omega
        · obtain rfl : m = k := by omega
          obtain ⟨gm, hgm, hgT, hgg, hgr, hmm⟩ : ∃ gm, G.am = some ⟨gm, 0, none⟩ ∧ G.T < gm ∧ gm ≠ G.gr ∧ (∀ k, k ≤ n → G.rb k ≠ gm) ∧ ∀ k, k < n → wr.cell? ⟨gm, k, none⟩ = some (.int .i64 (s.mem k)) ∧ wr.frozen? ⟨gm, k, none⟩ = false := by
            rcases HTM.out.mem with h0 | h1
            · omega
            · exact h1
          have hTME : TabM wr B n cols A ⟨s.mem, R', s.d, sg == 0⟩ G := HTM.out.congr (fun _ _ => rfl) (fun r hr l hl => by show R' r l = midR _ _ _ _ _ _ _; rw [HM'.out]; exact (midR_all HRO2.out r l hr).symm) rfl rfl
          have hgmW : gm < W.heap.size := by
            rcases HH.out.lts.2.2.2 with h0 | ⟨g', e1, e2⟩
            · omega
            · rw [hgm] at e1; cases e1; exact e2
          obtain ⟨dm, df⟩ := hmm o HLE.out.lt
          have d1 := hTME.cms
          rw [HG.out.1, hgm, HG.out.2.2.2.2.1] at d1
          have xp := num_range_at HF.out (i := o) (by rw [rowOf_len]; have := HLE.out.lt; omega)
          rw [rowOf_get _ _ (by have := HLE.out.lt; omega)] at xp
          have hszp := sz_num (f o)
          have hlp := numL_len (f o)
          have hop := numL_one (f o)
          have hth : wr.there T 3 10 := fun z hz => by
            have h1 := hTME.com z (.int .u64 (wd s.d z)) (numL_get s.d hz)
            have h2 := hTME.fz (3 + z)
            rw [HG.out.1] at h1 h2
            exact ⟨by rw [h1]; rfl, h2⟩
          have hlast := (hTME.via (Below.refl wr.heap.size wr).drew).last HLE.out.lt hgm (q : Int) (f o)
          rw [HG.out.1] at hgT hlast
          have HLAST := Lib.hid hlast
          have ho : OnlyAt gm wr.drew (wr.drew.setCell ⟨gm, o, none⟩ (.int .i64 q)) := (OnlyAt.refl gm wr.drew (lt_of_cell dm)).set o _
          have hBT : B ≤ T := by have := HH.out.bT; rw [HG.out.1] at this; exact this
          have hTW := HSZW.out
          rw [HG.out.2.2.2.1] at hgm
          subst hgm
          clear hTME hlast hgg hgr hmm HTM
          obtain ⟨lp, hlpe⟩ : ∃ lp, lp = numL (f o) := ⟨_, rfl⟩
          rw [← hlpe] at xp hszp hlp hop HLAST
          have HLPE := Lib.hid hlpe
          clear hlpe
          go_upto_region 21 with fail
          refine wp_region_K (fun w' => w'.cell? ⟨T, 1, none⟩ = some (.slice (some ⟨gm, 0, none⟩) n cm) ∧ w'.rangeAt W.heap.size (o * 10) lp) 15 (by kernel_rfl) ?_
          refine wpK_take (i := 0) (d := some 113) (v := ?_) rfl rfl (by kernel_rfl) (by kernel_rfl) (by kernel_rfl) (by kernel_rfl) (by kernel_rfl) rfl (fun _ _ _ h => h) (.inl ⟨by rfl, fun w hw => ?_⟩) ⟨d1, xp⟩ ?_
          rotate_left
          · clear hw; go_simp; with_reducible rfl
          try simp only [Act.put, List.setIfInBounds_toArray, List.set_cons_zero, List.set_cons_succ]
          refine wpK_take (i := 1) (d := some 114) (v := ?_) rfl rfl (by kernel_rfl) (by kernel_rfl) (by kernel_rfl) (by kernel_rfl) (by kernel_rfl) rfl (fun _ _ _ h => h) (.inl ⟨by rfl, fun w hw => ?_⟩) ⟨d1, xp⟩ ?_
          rotate_left
          · clear hw; go_simp; with_reducible rfl
          try simp only [Act.put, List.setIfInBounds_toArray, List.set_cons_zero, List.set_cons_succ]
          refine wpK_take (i := 2) (d := some 115) (v := ?_) rfl rfl (by kernel_rfl) (by kernel_rfl) (by kernel_rfl) (by kernel_rfl) (by kernel_rfl) rfl (fun _ _ _ h => h) (.inl ⟨by rfl, fun w hw => ?_⟩) ⟨d1, xp⟩ ?_
          rotate_left
          · clear hw; go_simp; with_reducible rfl
          try simp only [Act.put, List.setIfInBounds_toArray, List.set_cons_zero, List.set_cons_succ]
          refine wpK_take (i := 3) (d := some 116) (v := ?_) rfl rfl (by kernel_rfl) (by kernel_rfl) (by kernel_rfl) (by kernel_rfl) (by kernel_rfl) rfl (fun _ _ _ h => h) (.inl ⟨by rfl, fun w hw => ?_⟩) ⟨d1, xp⟩ ?_
          rotate_left
          · (obtain ⟨_, _⟩ := hw); go_simp; with_reducible rfl
          try simp only [Act.put, List.setIfInBounds_toArray, List.set_cons_zero, List.set_cons_succ]
          refine wpK_take (i := 4) (d := some 117) (v := ?_) rfl rfl (by kernel_rfl) (by kernel_rfl) (by kernel_rfl) (by kernel_rfl) (by kernel_rfl) rfl (fun _ _ _ h => h) (.inl ⟨by rfl, fun w hw => ?_⟩) ⟨d1, xp⟩ ?_
          rotate_left
          · clear hw; go_simp; with_reducible rfl
          try simp only [Act.put, List.setIfInBounds_toArray, List.set_cons_zero, List.set_cons_succ]
          refine wpK_take (i := 5) (d := some 118) (v := ?_) rfl rfl (by kernel_rfl) (by kernel_rfl) (by kernel_rfl) (by kernel_rfl) (by kernel_rfl) rfl (fun _ _ _ h => h) (.inl ⟨by rfl, fun w hw => ?_⟩) ⟨d1, xp⟩ ?_
          rotate_left
          · clear hw; go_simp; with_reducible rfl
          try simp only [Act.put, List.setIfInBounds_toArray, List.set_cons_zero, List.set_cons_succ]
          refine wpK_take (i := 6) (d := some 119) (v := ?_) rfl rfl (by kernel_rfl) (by kernel_rfl) (by kernel_rfl) (by kernel_rfl) (by kernel_rfl) rfl (fun _ _ _ h => h) (.inl ⟨by rfl, fun w hw => ?_⟩) ⟨d1, xp⟩ ?_
          rotate_left
          · clear hw; go_simp; with_reducible rfl
          try simp only [Act.put, List.setIfInBounds_toArray, List.set_cons_zero, List.set_cons_succ]
          refine wpK_take (i := 7) (d := some 120) (v := ?_) rfl rfl (by kernel_rfl) (by kernel_rfl) (by kernel_rfl) (by kernel_rfl) (by kernel_rfl) rfl (fun _ _ _ h => h) (.inl ⟨by rfl, fun w hw => ?_⟩) ⟨d1, xp⟩ ?_
          rotate_left
          · clear hw; go_simp; with_reducible rfl
          try simp only [Act.put, List.setIfInBounds_toArray, List.set_cons_zero, List.set_cons_succ]
          refine wpK_take (i := 8) (d := some 121) (v := ?_) rfl rfl (by kernel_rfl) (by kernel_rfl) (by kernel_rfl) (by kernel_rfl) (by kernel_rfl) rfl (fun _ _ _ h => h) (.inl ⟨by rfl, fun w hw => ?_⟩) ⟨d1, xp⟩ ?_
          rotate_left
          · clear hw; go_simp; with_reducible rfl
          try simp only [Act.put, List.setIfInBounds_toArray, List.set_cons_zero, List.set_cons_succ]
          refine wpK_take (i := 9) (d := some 122) (v := ?_) rfl rfl (by kernel_rfl) (by kernel_rfl) (by kernel_rfl) (by kernel_rfl) (by kernel_rfl) rfl (fun _ _ _ h => h) (.inl ⟨by rfl, fun w hw => ?_⟩) ⟨d1, xp⟩ ?_
          rotate_left
          · clear hw; go_simp; with_reducible rfl
          try simp only [Act.put, List.setIfInBounds_toArray, List.set_cons_zero, List.set_cons_succ]
          refine wpK_take (i := 10) (d := some 123) rfl rfl (by kernel_rfl) (by kernel_rfl) (by kernel_rfl) (by kernel_rfl) (by kernel_rfl) rfl (fun _ _ _ h => h) (yieldsIf_load_mid (by rfl) _ _ rfl (W.heap.size) (o * 10) rfl lp _ (fun w h => h.2) Tryz.underlying81 rfl (by assumption)) ⟨d1, xp⟩ ?_
          try simp only [Act.put, List.setIfInBounds_toArray, List.set_cons_zero, List.set_cons_succ]
          refine wpK_take (i := 11) (d := some 124) (v := ?_) rfl rfl (by kernel_rfl) (by kernel_rfl) (by kernel_rfl) (by kernel_rfl) (by kernel_rfl) rfl (fun _ _ _ h => h) (.inl ⟨by rfl, fun w hw => ?_⟩) ⟨d1, xp⟩ ?_
          rotate_left
          · clear hw; go_simp; with_reducible rfl
          try simp only [Act.put, List.setIfInBounds_toArray, List.set_cons_zero, List.set_cons_succ]
          refine wpK_set (i := 12) (by kernel_rfl) rfl rfl rfl _ _ _ rfl gm o (.int .i64 q) rfl rfl rfl (by show (wr.cell? _).isSome = true; rw [dm]; rfl) df (by kernel_rfl) rfl ?_
          have d1 := ho.cell (by omega) d1
          have xp := ho.range xp (by omega)
          have hth : (wr.drew.setCell ⟨gm, o, none⟩ (.int .i64 q)).there T 3 10 := fun z hz => ⟨by have := (hth z hz).1; obtain ⟨u, hu⟩ := Option.isSome_iff_exists.1 this; rw [ho.cell (by omega) hu]; rfl, ho.froz (hth z hz).2 (by omega)⟩
          refine ⟨(fun _ => ⟨d1, xp⟩), ?_⟩
          try simp only [Act.put, List.setIfInBounds_toArray, List.set_cons_zero, List.set_cons_succ]
          refine wpK_oneY (i := 13) (d := some 125) (v := ?_) (by kernel_rfl) rfl rfl (.inl ⟨by rfl, fun w hw => ?_⟩) ⟨d1, xp⟩ ?_
          rotate_left
          · clear hw; go_simp; with_reducible rfl
          try simp only [Act.put, List.setIfInBounds_toArray, List.set_cons_zero, List.set_cons_succ]
          refine wpK_take (i := 14) (d := some 126) (v := ?_) rfl rfl (by kernel_rfl) (by kernel_rfl) (by kernel_rfl) (by kernel_rfl) (by kernel_rfl) rfl (fun _ _ _ h => h) (.inl ⟨by rfl, fun w hw => ?_⟩) ⟨d1, xp⟩ ?_
          rotate_left
          · clear hw; go_simp; with_reducible rfl
          try simp only [Act.put, List.setIfInBounds_toArray, List.set_cons_zero, List.set_cons_succ]
          refine wpK_store (i := 15) (by kernel_rfl) rfl rfl rfl (by kernel_rfl) (by kernel_rfl) _ _ _ rfl T 3 lp rfl rfl (by rw [hlp]; exact hth) hszp hop ?_
          have HB9 : Hid (Below B W ((wr.drew.setCell ⟨gm, o, none⟩ (.int .i64 q)).setCells T 3 lp)) := Lib.hid (below_setCells T hBT lp _ 3 (ho.below (HB.out.drew) (by omega)))
          clear d1 xp hth hszp hlp hop ho dm df HB HF HDV
          generalize (wr.drew.setCell ⟨gm, o, none⟩ (.int .i64 q)).setCells T 3 lp = w9 at *
          go_wp2_with fail
          have eC : ∀ k, fall n s.R (sysC n A b q) k = f k := fun k => by rw [sysC_var, HFD.out]
          refine ⟨rfl, _, results_0 rfl _ _, ⟨rfl, _, ⟨o, ⟨HQ.out, by rw [eC, HFD.out]; exact HGA.out, fun hst j hj => by rw [sysC_var]; exact HBL.out hst j hj, HLE.out, HTIE.out, rfl⟩⟩, ?_⟩, HB9.out⟩
          exact HLAST.out.congr (s' := ⟨pivM s.mem q o, pivR n (sysC n A b) s.R s.d q o, fall n s.R (sysC n A b q) o, decide (s.R o n = 0)⟩) (fun _ _ => rfl) (fun k _ l _ => by show pivR _ _ _ _ _ _ _ _ = R' k l; rw [HRP.out]) (eC o) (by show decide _ = (sg == 0); rw [HSZ.out])
end
end Go.Proofs.YtbdidkncgklljaaGreatDoor
