/- The contract of the long division of magnitudes. -/
import Derived.Test.YtggkbeppfpgkaaaGreatDoorIntDivPure
namespace Go.Proofs.YtggkbeppfpgkaaaGreatDoor
open Go.RowKit Putlog

theorem slice_loI (g n c i : Nat) (hi : i ≤ n) : ∃ a : Option Addr, (c ≠ i → a = some ⟨g, i, none⟩) ∧ ∀ w, (Instr.slice 45 (.slice (some ⟨g, 0, none⟩) n c) (some (.int .i64 (i : Nat))) none none).run Tryz.prog w = .ok (.slice a (n - i) (c - i)) w := by
  refine ⟨if c = i then some ⟨g, 0, none⟩ else some ⟨g, i, none⟩, fun h => if_neg h, fun w => ?_⟩
  have ht : Tryz.prog.underlying 45 = some (.slice (Tryz.prog.elem 45)) := by kernel_rfl
  have hz : (sizeOf (Tryz.prog.elem 45)).run Tryz.prog w = .ok 1 w := by kernel_rfl
  rw [run_slice_l w 45 (some ⟨g, 0, none⟩) n c ht .i64 i (by omega) (by omega), hz]
  simp only [Result.andThen, sliced, Int.toNat_natCast]
  split <;> simp [Addr.add]
  omega
/-- The uppermost groups of the rest. -/
theorem upper_cells {w : World} {base g c i : Nat} {a : Option Addr} {R : List Nat} (h : w.ownsRow base 3 1 (.slice (some ⟨g, 0, none⟩) R.length c) R.length (i64l R)) (hi : i ≤ R.length) (ha : c ≠ i → a = some ⟨g, i, none⟩) : CellsAt w a (ofN (R.drop i)) ∧ Room (R.drop i).length (c - i) := by
  obtain ⟨⟨h1, h2⟩, _⟩ := owns_cap h
  have hl : (R.drop i).length = R.length - i := by simp
  constructor
  · rcases Nat.lt_or_ge i R.length with h3 | h3
    · refine .inr ⟨g, i, ha (by omega), fun j hj => ?_⟩
      rw [ofN_len, hl] at hj
      rw [owns_cells h (i + j) (by omega), ofN_get]
      simp [List.getD_eq_getElem?_getD]
    · refine .inl ?_
      rw [List.drop_of_length_le (by omega)]; rfl
  · rw [hl]; exact ⟨by omega, by omega⟩
theorem cells_trim {w : World} {a : Option Addr} {l : List Nat} (h : CellsAt w a (ofN l)) : CellsAt w a (ofN (trimL l)) := by
  have h1 := trimL_le l
  rcases Nat.eq_zero_or_pos (trimL l).length with h0 | h0
  · exact .inl (List.length_eq_zero_iff.1 (by rw [ofN_len]; exact h0))
  · obtain ⟨g, o, rfl, h2⟩ := cells_get h (k := 0) (by omega)
    refine .inr ⟨g, o, rfl, fun j hj => ?_⟩
    rw [ofN_len] at hj
    rw [h2 j (by omega), ofN_get]
    conv => rhs; rw [trimL_take l, take_getD l hj]
theorem mag_of_owns2 {w : World} {base g c : Nat} {l : List Nat} (h : w.ownsRow base 3 1 (.slice (some ⟨g, 0, none⟩) l.length c) l.length (i64l l)) : ∃ g' c', (.slice (some ⟨g, 0, none⟩) l.length c : Value) = .slice (some ⟨g', 0, none⟩) l.length c' ∧ base ≤ g' ∧ Room l.length c' ∧ CellsAt w (some ⟨g', 0, none⟩) (ofN l) := by
  obtain ⟨h1, h2⟩ := owns_cap h
  refine ⟨g, c, rfl, h2, h1, ?_⟩
  rcases Nat.eq_zero_or_pos l.length with h0 | h0
  · exact .inl (List.length_eq_zero_iff.1 (by rw [ofN_len]; exact h0))
  · exact .inr ⟨g, 0, rfl, fun j hj => by rw [Nat.zero_add, ofN_get]; rw [ofN_len] at hj; exact owns_cells h j hj⟩
theorem cells_set_other {w : World} {a : Option Addr} {l : List Int} {gq i : Nat} {v : Value} (h : CellsAt w a l) (hne : l ≠ [] → ∃ g o, a = some ⟨g, o, none⟩ ∧ g ≠ gq) : CellsAt (w.setCell ⟨gq, i, none⟩ v) a l := by
  rcases h with h | ⟨g, o, h1, h2⟩
  · exact .inl h
  · by_cases h0 : l = []
    · exact .inl h0
    · obtain ⟨g', o', h3, h4⟩ := hne h0
      rw [h1] at h3
      cases h3
      exact .inr ⟨g, o, h1, fun j hj => by rw [World.cell?_setCell_other _ _ _ _ (fun e => h4 (congrArg Addr.block e).symm)]; exact h2 j hj⟩
theorem cell_grown {w w' : World} {g gr i : Nat} {v : Value} (h : w.cell? ⟨g, i, none⟩ = some v) (hg : w.grownBy w' (some gr)) (hne : g ≠ gr) : w'.cell? ⟨g, i, none⟩ = some v := by
  have h3 := hg.block g (lt_of_cell h) (fun e => hne (Option.some.inj e))
  rw [← h]; simp only [World.cell?, h3]
theorem cells_new {w : World} {g : Nat} {l : List Nat} (h : CellsAt w (some ⟨g, 0, none⟩) (ofN l)) : ∀ j u, (i64l l)[j]? = some u → w.cell? ((⟨g, 0, none⟩ : Addr).add j) = some u := by
  intro j u hj
  have hjl : j < l.length := by have := (List.getElem?_eq_some_iff.1 hj).1; simpa [i64l] using this
  obtain ⟨g', o, h1, h2⟩ := cells_get h hjl
  cases h1
  rw [Addr.add_lit, h2 j hjl]
  rw [i64l_get hjl] at hj
  exact hj
theorem row_ofN_set {w : World} {g : Nat} {Q : List Nat} {i q : Nat} (h : RowAt w g (ofN Q)) (hi : i < Q.length) : RowAt (w.setCell ⟨g, i, none⟩ (.int .i64 (q : Nat))) g (ofN (Q.set i q)) := by
  have := h.set i (by rw [ofN_len]; exact hi) (q : Int)
  have e : ofN (Q.set i q) = (ofN Q).set i (q : Int) := by simp [ofN, List.map_set]
  rw [e]; exact this
/-- The contract of a multiple and of a difference, their results by their cells. -/
theorem scaled_at (B : List Nat) (f : Nat) (hB : DigB 10000 B) (hf : f ≤ 10000) (hl : B.length ≤ 20000) (b : Option Addr) (cb : Nat) (W : World) (hv : CellsAt W b (ofN B)) :
    Calls Tryz.prog 74 #[.slice b B.length cb, .int .i64 f] W fun e w' => (∃ g c, e = .returned (.slice (some ⟨g, 0, none⟩) (digsL 10000 (leV 10000 B * f)).length c) ∧ Room (digsL 10000 (leV 10000 B * f)).length c ∧ CellsAt w' (some ⟨g, 0, none⟩) (ofN (digsL 10000 (leV 10000 B * f)))) ∧ Below W.heap.size W w' :=
  (scaled_any B f hB hf (by omega) b cb W hv).mono fun e w' ⟨⟨v, h1, hn⟩, hb⟩ => by
    obtain ⟨a', c', h2, h3, h4⟩ := hn.mag
    obtain ⟨g, c, rfl, _⟩ := hn
    cases h2
    exact ⟨⟨g, _, h1, h3, h4⟩, hb⟩
theorem minus_at (A B : List Nat) (hA : DigB 10000 A) (hB : DigB 10000 B) (hlA : A.length ≤ 30000) (hlen : B.length ≤ A.length) (hle : leV 10000 B ≤ leV 10000 A) (a b : Option Addr) (ca cb : Nat) (W : World)
    (hra : Room A.length ca) (hrb : Room B.length cb) (hva : CellsAt W a (ofN A)) (hvb : CellsAt W b (ofN B)) :
    Calls Tryz.prog 56 #[.slice a A.length ca, .slice b B.length cb] W fun e w' => (∃ g c, e = .returned (.slice (some ⟨g, 0, none⟩) (digsL 10000 (leV 10000 A - leV 10000 B)).length c) ∧ Room (digsL 10000 (leV 10000 A - leV 10000 B)).length c ∧ CellsAt w' (some ⟨g, 0, none⟩) (ofN (digsL 10000 (leV 10000 A - leV 10000 B)))) ∧ Below W.heap.size W w' :=
  (minus_any A B hA hB hlA hlen hle a b ca cb W hra hrb hva hvb).mono fun e w' ⟨⟨v, h1, hn⟩, hb⟩ => by
    obtain ⟨a', c', h2, h3, h4⟩ := hn.mag
    obtain ⟨g, c, rfl, _⟩ := hn
    cases h2
    exact ⟨⟨g, _, h1, h3, h4⟩, hb⟩
set_option maxRecDepth 100000 in
set_option maxHeartbeats 8000000 in
theorem div_ge (A B : List Nat) (hA : DigB 10000 A) (hB : DigB 10000 B) (nA : Norm A) (nB : Norm B) (h0 : B ≠ []) (hlA : A.length ≤ 5000) (hlen : B.length ≤ A.length) (a b : Option Addr) (ca cb : Nat) (w : World)
    (hra : Room A.length ca) (hrb : Room B.length cb) (hva : CellsAt w a (ofN A)) (hvb : CellsAt w b (ofN B)) :
    Calls Tryz.prog 59 #[.slice a A.length ca, .slice b B.length cb] w fun e w' => (∃ v u, e = .returned (.tuple #[v, u]) ∧ MagAt w' v (digsL 10000 (leV 10000 A / leV 10000 B)) ∧ MagAt w' u (digsL 10000 (leV 10000 A % leV 10000 B))) ∧ Below w.heap.size w w' := by
  have hlen0 : 0 < B.length := List.length_pos_iff.2 h0
  obtain ⟨i0, hi0, hz0, hz1, hz2⟩ := info_parts info_int
  have HI0 := Lib.hid hi0
  have HZ0 := Lib.hid hz0
  have HZ1 := Lib.hid hz1
  have HZ2 := Lib.hid hz2
  have HBp := Lib.hid (leV_pos (B := 10000) (by decide) nB h0)
  have HST := Lib.hid (DivAt.start hA nB h0 hlen)
  have HDB := Lib.hid hB
  have HNB := Lib.hid nB
  have HB0 := Lib.hid h0
  have HVB := Lib.hid hvb
  have HRB := Lib.hid hrb
  have hra1 := hra.1
  have hrb1 := hrb.1
  have HCL := Lib.hid (clone_any A (by omega) a ca w hva)
  have hlA' : (A.length : Int) ≤ 5000 := by omega
  have hlen' : (B.length : Int) ≤ A.length := by omega
  have HLB : Hid (B.length ≤ 5000) := by show _ ≤ _; omega
  have HLA : Hid (A.length ≤ 5000) := hlA
  have HLE : Hid (B.length ≤ A.length) := hlen
  have HA0 : Hid (0 < A.length) := by show _ < _; omega
  have HNA := Lib.hid nA
  obtain ⟨n, hn⟩ : ∃ n, n = A.length - B.length + 1 := ⟨_, rfl⟩
  have hmax : max (0 : Int) ((A.length : Int) - B.length + 1) = (n : Nat) := by omega
  have hnb : (n : Int) ≤ 5001 := by omega
  have hni : (A.length : Int) - B.length = (n : Nat) - 1 := by omega
  have hn1 : (1 : Int) ≤ n := by omega
  rw [← hn] at HST
  clear hi0 hz0 hz1 hz2 hA hB nA nB h0 hlA hlen hra hrb hva hvb hlen0 hn
  go_enter Tryz.func59, Tryz.ntmps59
  go_wp2_with fail
  refine HCL.out.mono ?_
  rintro e w1 ⟨⟨v, rfl, hown⟩, hB1⟩
  obtain ⟨gr, cr, rfl, _⟩ := mag_of_owns hown HA0.out
  have hgr := owns_lt hown
  have HO := Lib.hid hown
  have HB1 := Lib.hid hB1
  have HGR := Lib.hid hgr
  clear hown hB1 hgr HCL
  go_wp2_with (at_make; go_must (refine wpList_make_full _ rfl _ _ 45 rfl w1.heap.size 3 i0 (.int .i64 0) 1 Tryz.underlying45 HI0.out HZ0.out HZ1.out .i64 .i64 (n : Int) (n : Int) n rfl rfl rfl rfl (by rw [HZ2.out]; omega) (by unfold maxLen; omega) (Nat.le_refl _) ?_); intro w2 hown2 hgrow2; have HC2 := Lib.hid (cols_made hown2); have HO2 := Lib.hid (ownsRow_below HO.out (belowMade hgrow2)); have HB2 := Lib.hid (belowVia (belowMade hgrow2) HB1.out); clear hown2 hgrow2)
  have hgq : w1.heap.size ≠ gr := by have := HGR.out; omega
  have HGQ := Lib.hid hgq
  have HBS := Lib.hid HB1.out.size
  have HC3 : Hid (RowAt w2 w1.heap.size (ofN (List.replicate n 0))) := by
    show RowAt _ _ _
    obtain ⟨g, _, hge, hrow⟩ := HC2.out.at (k := 0) (by rw [List.length_replicate]; omega)
    cases hge
    simpa [ofN] using hrow
  generalize w1.heap.size = gq at *
  clear hgq HC2 HO HB1 HGR
  go_loopw [6, 8] (fun v i wr => ∃ (k : Nat) (Q R : List Nat), k ≤ n ∧ i = .int .i64 ((k : Int) - 1) ∧ v = .slice (some ⟨gr, 0, none⟩) R.length cr ∧ DivAt A B n k Q R ∧ wr.ownsRow w.heap.size 3 1 (.slice (some ⟨gr, 0, none⟩) R.length cr) R.length (i64l R) ∧ RowAt wr gq (ofN Q) ∧ Below w.heap.size w wr) (fun _ i _ => (1 + intOf i).toNat)
  case atStart => exact ⟨n, _, A, Nat.le_refl _, rfl, rfl, HST.out, HO2.out, HC3.out, HB2.out⟩
  case round =>
    clear HST HO2 HC3 HB2 hmax hni hlA' hlen' HNA HA0
    obtain ⟨k, Q, R, hk, rfl, rfl, hdiv, hown, hrow, hB⟩ := hrel
    have HD := Lib.hid hdiv
    have HO := Lib.hid hown
    have HQ := Lib.hid hrow
    have HB := Lib.hid hB
    clear hdiv hown hrow hB
    rcases Nat.eq_zero_or_pos k with rfl | hk0
    · have hTR := trimmed_any Q (by rw [HD.out.qlen]; omega) (some ⟨gq, 0, none⟩) n wr (by rw [HD.out.qlen]; exact ⟨Nat.le_refl _, by omega⟩) HQ.out.cells
      rw [HD.out.qlen] at hTR
      obtain ⟨e1, e2⟩ := HD.out.done HBp.out
      have HTR := Lib.hid hTR
      have HE1 := Lib.hid e1
      have HE2 := Lib.hid e2
      clear hTR e1 e2
      go_wp2_with fail
      refine HTR.out.mono ?_
      rintro e w3 ⟨rfl, rfl⟩
      go_wp2_with fail
      go_ret2
      refine ⟨⟨_, _, rfl, ?_, ?_⟩, HB.out⟩
      · rw [← HE1.out]
        refine ⟨_, _, rfl, ⟨?_, ?_⟩, cells_trim HQ.out.cells⟩
        · have := trimL_le Q; rw [HD.out.qlen] at this; exact this
        · omega
      · rw [← HE2.out]
        obtain ⟨g', c', h1, h2, h3, h4⟩ := mag_of_owns2 HO.out
        exact ⟨_, _, h1, h3, h4⟩
    · obtain ⟨i, rfl⟩ : ∃ i, k = i + 1 := ⟨k - 1, by omega⟩
      have hqe : ((i + 1 : Nat) : Int) - 1 = i := by omega
      rw [hqe]
      have hin : i < n := by omega
      have hir : i ≤ R.length := by have := HD.out.kr; omega
      have hRl : R.length ≤ 5000 := by have := HD.out.rlen; have := HLA.out; omega
      obtain ⟨hcap, _⟩ := owns_cap HO.out
      obtain ⟨au, hau, hslice⟩ := slice_loI gr R.length cr i hir
      have hslice2 := slice_hiI (some ⟨gr, 0, none⟩) R.length cr i (by have := hcap.1; omega) (.inr ⟨gr, rfl⟩)
      obtain ⟨hcu, hru⟩ := upper_cells HO.out hir hau
      have hlu : (R.drop i).length = R.length - i := by simp
      have hTR := trimmed_any (R.drop i) (by omega) au (cr - i) wr hru hcu
      obtain ⟨hdu, hlt⟩ := HD.out.upper
      have hcu2 := cells_trim hcu
      have hru2 : Room (trimL (R.drop i)).length (cr - i) := ⟨by have := trimL_le (R.drop i); have := hru.1; omega, hru.2⟩
      have hstep := HD.out.step HBp.out hin
      rw [hdu] at hTR hcu2 hru2
      rw [hlu] at hTR
      obtain ⟨U, hU⟩ : ∃ U, U = leV 10000 R / 10000 ^ i := ⟨_, rfl⟩
      rw [← hU] at hTR hcu2 hru2 hlt hstep
      have hBd := leV_lt HDB.out
      have hDl : (digsL 10000 U).length ≤ B.length + 1 := digsL_len_le (by rw [Nat.pow_succ]; omega)
      have hG := group_any (digsL 10000 U) B (digsL_dig (by decide) _) HDB.out (digsL_norm (by decide) _) HNB.out HB0.out (by have := HLB.out; omega) hDl (by rw [leV_digsL (by decide)]; exact hlt) au b (cr - i) cb hru2 HRB.out wr hcu2 (HVB.out.via HB.out)
      rw [leV_digsL (by decide)] at hG
      have hq : U / leV 10000 B < 10000 := (Nat.div_lt_iff_lt_mul HBp.out).2 hlt
      have hSC := fun W hc => scaled_at B (U / leV 10000 B) HDB.out (by omega) (by have := HLB.out; omega) b cb W hc
      have hbq : leV 10000 B * (U / leV 10000 B) ≤ U := Nat.mul_div_le _ _
      have hmod : U - leV 10000 B * (U / leV 10000 B) = U % leV 10000 B := by have := Nat.div_add_mod U (leV 10000 B); omega
      have hMI := fun W g c hva hr hc => minus_at (digsL 10000 U) (digsL 10000 (leV 10000 B * (U / leV 10000 B))) (digsL_dig (by decide) _) (digsL_dig (by decide) _) (by have := HLB.out; omega)
        (digsL_len_le (Nat.lt_of_le_of_lt hbq (by have := leV_lt (digsL_dig (B := 10000) (by decide) U); rwa [leV_digsL (by decide)] at this))) (by rw [leV_digsL (by decide), leV_digsL (by decide)]; exact hbq) au (some ⟨g, 0, none⟩) (cr - i) c W hru2 hr hva hc
      simp only [leV_digsL (B := 10000) (by decide)] at hMI
      rw [hmod] at hMI
      have hml : (digsL 10000 (U % leV 10000 B)).length ≤ R.length - i := by
        have h1 := hstep.rlen
        have h2 : (R.take i).length = i := by simp; omega
        refine digsL_len_le (Nat.lt_of_le_of_lt (Nat.mod_le _ _) ?_)
        have h3 : leV 10000 (R.drop i) < 10000 ^ (R.drop i).length := leV_lt (fun x hx => HD.out.rdig x (List.mem_of_mem_drop hx))
        rw [leV_drop' HD.out.rdig i, ← hU, hlu] at h3
        exact h3
      have hil : (R.take i).length = i := by simp; omega
      have hqQ : i < Q.length := by rw [HD.out.qlen]; exact hin
      have HAU : Hid (ofN (digsL 10000 U) ≠ [] → ∃ g o, au = some ⟨g, o, none⟩ ∧ g ≠ gq) := fun h => ⟨gr, i, hau (fun e => h (by
        have h1 : R.drop i = [] := List.drop_of_length_le (by have := hcap.1; omega)
        rw [h1] at hdu
        rw [hU, ← hdu]; rfl)), fun e => HGQ.out e.symm⟩
      have HTR := Lib.hid hTR
      have HG := Lib.hid hG
      have HSC := Lib.hid hSC
      have HMI := Lib.hid hMI
      have HNX := Lib.hid hstep
      have HML := Lib.hid hml
      have HIL := Lib.hid hil
      have HCP := Lib.hid hcap
      have HCU := Lib.hid hcu2
      have hrow := HQ.out i (by rw [ofN_len]; exact hqQ)
      have HRW : Hid (∀ W q, Below wr.heap.size wr W → RowAt (W.setCell ⟨gq, i, none⟩ (.int .i64 (q : Nat))) gq (ofN (Q.set i q))) := fun W q hb => row_ofN_set (HQ.out.via hb) hqQ
      have HRC : Hid (∀ W, Below wr.heap.size wr W → W.cell? ⟨gq, i, none⟩ = some (.int .i64 ((ofN Q).getD i 0)) ∧ W.frozen? ⟨gq, i, none⟩ = false) := fun W hb => (HQ.out.via hb) i (by rw [ofN_len]; exact hqQ)
      have hin' : (i : Int) < n := by omega
      have hiR : (i : Int) ≤ R.length := by omega
      have hRb : (R.length : Int) ≤ 5000 := by omega
      clear hdu hlt hbq hmod hml hil hcap hqQ hSC hMI hG hTR hstep hDl hBd hru hcu hlu hru2 hcu2 hau hU hrow hqe
      generalize digsL 10000 (leV 10000 B * (U / leV 10000 B)) = S at *
      generalize digsL 10000 (U % leV 10000 B) = M at *
      generalize digsL 10000 U = D at *
      generalize U / leV 10000 B = q at *
      go_wp2_with fail
      refine HTR.out.mono ?_
      rintro e w3 ⟨rfl, rfl⟩
      go_wp2_with fail
      refine HG.out.mono ?_
      rintro e w3 ⟨rfl, hB3⟩
      obtain ⟨hc3, hf3⟩ := HRC.out w3 hB3
      have HR4 := Lib.hid (HRW.out w3 q hB3)
      have HB4 := Lib.hid (below_set (belowVia hB3 HB.out) HBS.out (i := i) (.int .i64 (q : Nat)))
      have HO4 := Lib.hid (ownsRow_setCell_other (ownsRow_below HO.out hB3) (a := ⟨gq, i, none⟩) (fun e => HGQ.out (by cases e; rfl)) (.int .i64 (q : Nat)))
      have HD4 := Lib.hid (cells_set_other (i := i) (v := .int .i64 (q : Nat)) (HCU.out.via hB3) HAU.out)
      have HV4 := Lib.hid (HVB.out.via HB4.out)
      clear hB3
      go_wp2_with fail
      generalize w3.setCell ⟨gq, i, none⟩ (.int .i64 (q : Nat)) = w4 at *
      have hcq : w4.cell? ⟨gq, i, none⟩ = some (.int .i64 (q : Nat)) := by
        have h1 := (HR4.out i (by rw [ofN_len, List.length_set]; have := HD.out.qlen; omega)).1
        rw [ofN_get] at h1
        rw [h1]
        have h2 : i < Q.length := by have := HD.out.qlen; omega
        simp [List.getD_eq_getElem?_getD, h2]
      clear HRW HRC HG HTR hc3 hf3 HCU HAU HO HQ HB
      go_region_held3 (fun w' => w'.cell? ⟨gq, i, none⟩ = some (.int .i64 (q : Nat))) (first | exact hcq | exact keptBelow hB5 hcq | exact keptBelow hB6 (keptBelow hB5 hcq) | exact cell_grown (keptBelow hB6 (keptBelow hB5 hcq)) hg7 HGQ.out) (first
        | (go_at_call 74; (with_reducible refine (HSC.out _ ?_).mono ?_); exact HV4.out; rintro e w5 ⟨⟨g5, c5, rfl, hr5, hc5⟩, hB5⟩)
        | (go_at_call 56; (with_reducible refine (HMI.out _ _ _ ?_ hr5 ?_).mono ?_); exact CellsAt.via hB5 HD4.out; exact hc5; rintro e w6 ⟨⟨g6, c6, rfl, hr6, hc6⟩, hB6⟩)
        | (refine step_append_fits rfl _ _ 45 rfl w.heap.size 3 i0 1 Tryz.underlying45 HI0.out HZ1.out gr i cr (i64l (R.take i)) (by rfl) (ownsRow_below (ownsRow_below (owns_take HO4.out hir) (undrew hB5)) hB6) ⟨g6, 0, none⟩ M.length c6 (i64l M) (by rfl) (by rw [i64l_len, Nat.mul_one]) (cells_new hc6) (i64l_one M) (by have := HML.out; have := HCP.out.1; omega) (fun w7 hown7 hg7 => ?_)))
      have hB7 := belowVia hB6 (belowVia (undrew hB5) HB4.out)
      have HR7 := Lib.hid (((HR4.out.via (undrew hB5)).via hB6).grown hg7 HGQ.out)
      have HB7 := Lib.hid (hB7.grown hg7 hB7.size (fun k e => by cases e; exact (owns_cap HO4.out).2))
      have hlen : (R.take i ++ M).length = i + M.length := by rw [List.length_append, HIL.out]
      have HO7 : Hid (w7.ownsRow w.heap.size 3 1 (.slice (some ⟨gr, 0, none⟩) (R.take i ++ M).length cr) (R.take i ++ M).length (i64l (R.take i ++ M))) := by
        show World.ownsRow _ _ _ _ _ _ _
        rw [hlen, show i64l (R.take i ++ M) = i64l (R.take i) ++ i64l M by simp [i64l]]
        exact hown7
      clear hB7 hB5 hB6 hown7 hg7 HR4 HB4 HO4 HD4 HV4 hc5 hc6
      go_wp2_with fail
      go_roundw
      case rel => exact ⟨i, Q.set i q, R.take i ++ M, by omega, rfl, by rw [hlen], HNX.out, HO7.out, HR7.out, HB7.out⟩
      case measure => simp [intOf]; omega
end Go.Proofs.YtggkbeppfpgkaaaGreatDoor
