/- Several texts of layers 3 and 4, one behind the other: RatOps, RatMulDiv, RatSum, RatCompare, RatTen, IntConv, IntFrom, RatRound, RatDown, RatText, RatSane, RatHeld, RatSaneW, RatFourP. -/
import Derived.ScopeJumps
import Derived.WalkMore
import Derived.Lib.ItoaNum
import Derived.Lib.AtoiAll
import Derived.Lib.AppendIntMem
import Derived.WalkSmall
import Derived.Deep.DeepCutAuto
import Derived.Deep.MidRow
import Derived.Deep.RegionHeld3
import Derived.Test.YtelckldddflmmaaGreatDoorShelf
import Derived.Test.YtelckldddflmmaaGreatDoorRM3
/- RatOps: The contracts of Make, Mul, Div, Add and Sub. -/
namespace Go.Proofs.YtelckldddflmmaaGreatDoor
open Go.RowKit Putlog

def GivesQ (o : Option Rat) (w : World) (e : Ending) (w' : World) : Prop := e = .returned (.tuple #[.agg #[.string (numB o), .string (denB o)], .int .i64 (errQ o)]) ∧ Below w.heap.size w w'
theorem built_q {V : List Nat} {n d : Nat} {a : Option Addr} {L : List (Value × ((Nat → ByteArray) → (Nat → ByteArray) × Int))} {o : Option Rat} (ca : Nat) (s : Nat → ByteArray) (W : World) (hV : ∀ p, p ∈ V → p < W.heap.size) (hnV : n ∈ V) (hdV : d ∈ V) (hvs : VarsAt V s W) (hL : StepsAt V W a L) (hn : (L.length : Int) ≤ 100)
    (ho : ∀ c, c ∉ V → doneT (builtT (L.map Prod.snd) n d c (upd s c ⟨#[]⟩)) n d = resT o) :
    Calls Tryz.prog 52 #[.pointer (some ⟨n, 0, none⟩), .pointer (some ⟨d, 0, none⟩), .slice a L.length ca] W fun e W' => e = .returned (.tuple #[.agg #[.string (numB o), .string (denB o)], .int .i64 (errQ o)]) ∧ KeptV V W W' := by
  refine (built_any ca s W hV hnV hdV hvs hL hn).mono ?_
  rintro e w' ⟨c, hc, h⟩
  rw [ho c hc] at h
  exact h
/-- The result's box, behind a call that keeps it. -/
structure ResBox (p : Nat) (w : World) : Prop where
  heap : w.heap[p]? = some (.cells #[.string ⟨#[]⟩, .string ⟨#[]⟩] 23 (0, 0))
theorem ResBox.set {p : Nat} {w : World} (h : ResBox p w) (x y : Value) : ((w.setCell ⟨p, 0, none⟩ x).setCell ⟨p, 1, none⟩ y).heap[p]? = some (.cells #[x, y] 23 (0, 0)) :=
  heap_setCell_same _ _ 1 _ _ y (heap_setCell_same w _ 0 _ _ x h.heap)
theorem below_set2 {B p : Nat} {a w : World} (h : Below B a w) (hp : B ≤ p) (x y : Value) : Below B a ((w.setCell ⟨p, 0, none⟩ x).setCell ⟨p, 1, none⟩ y) := (h.setCell (p := ⟨p, 0, none⟩) hp x).setCell (p := ⟨p, 1, none⟩) hp y
theorem new_mem {p : Nat} {W : World} (h : W.heap.size ≤ p) : ∀ q, q ∈ [p] → W.heap.size ≤ q := fun q hq => by simp at hq; omega
set_option maxRecDepth 100000 in
set_option maxHeartbeats 4000000 in
theorem make_q (n d : ByteArray) (hn : Sized n) (hd : Sized d) (W : World) : Calls Tryz.prog 22 #[.string n, .string d] W (GivesQ (makeQ (readI n) (readI d)) W) := by
  have HN := Lib.hid hn
  have HD := Lib.hid hd
  obtain ⟨o, ho⟩ : ∃ o, o = makeQ (readI n) (readI d) := ⟨_, rfl⟩
  rw [← ho]
  have HO := Lib.hid ho
  clear hn hd ho
  go_enter Tryz.func22, Tryz.ntmps22
  go_wp2_with fail
  have z1 := alloc_size W (.cells #[.string n] 9)
  have h1 := heap_alloc_new W (.cells #[.string n] 9)
  have b1 := alloc_below W (.cells #[.string n] 9)
  generalize W.alloc (.cells #[.string n] 9) = w1 at *
  have z2 := alloc_size w1 (.cells #[.string d] 9)
  have h2 := heap_alloc_new w1 (.cells #[.string d] 9)
  have b2 := alloc_below w1 (.cells #[.string d] 9)
  generalize w1.alloc (.cells #[.string d] 9) = w2 at *
  have z3 := alloc_size w2 (.cells #[.string ⟨#[]⟩, .string ⟨#[]⟩] 23)
  have h3 := heap_alloc_new w2 (.cells #[.string ⟨#[]⟩, .string ⟨#[]⟩] 23)
  have b3 := alloc_below w2 (.cells #[.string ⟨#[]⟩, .string ⟨#[]⟩] 23)
  generalize w2.alloc (.cells #[.string ⟨#[]⟩, .string ⟨#[]⟩] 23) = w3 at *
  rw [z1] at h2; rw [z2, z1] at h3
  have hne : W.heap.size + 1 ≠ W.heap.size := by omega
  have HVS : Hid (VarsAt [W.heap.size, W.heap.size + 1] (fun p => if p = W.heap.size then n else d) w3) := by
    refine ⟨fun p hp => ?_, fun p hp => ?_⟩
    · simp only [List.mem_cons, List.not_mem_nil, or_false] at hp
      rcases hp with rfl | rfl
      · rw [if_pos rfl]; exact heap_below b3 (heap_below b2 h1)
      · rw [if_neg hne]; exact heap_below b3 h2
    · split
      · exact HN.out
      · exact HD.out
  have HBW := Lib.hid (belowVia b3 (belowVia b2 b1))
  have HRB : Hid (ResBox (W.heap.size + 1 + 1) w3) := ⟨h3⟩
  have HLT : Hid (∀ p, p ∈ [W.heap.size, W.heap.size + 1] → p < w3.heap.size) := fun p hp => by
    simp only [List.mem_cons, List.not_mem_nil, or_false] at hp; omega
  have HGE : Hid (∀ p, p ∈ [W.heap.size, W.heap.size + 1] → W.heap.size ≤ p) := fun p hp => by
    simp only [List.mem_cons, List.not_mem_nil, or_false] at hp; omega
  have HNO : Hid (W.heap.size + 1 + 1 ∉ [W.heap.size, W.heap.size + 1]) := fun hp => by
    simp only [List.mem_cons, List.not_mem_nil, or_false] at hp; omega
  have HFIN : Hid (∀ c, c ∉ [W.heap.size, W.heap.size + 1] → doneT (builtT [] W.heap.size (W.heap.size + 1) c (upd (fun p => if p = W.heap.size then n else d) c ⟨#[]⟩)) W.heap.size (W.heap.size + 1) = resT o) := fun c hc => by
    simp only [List.mem_cons, List.not_mem_nil, or_false, not_or] at hc
    rw [built_ok (Ne.symm hne) hc.1 hc.2 rfl, upd_other _ _ (Ne.symm hc.1), upd_other _ _ (Ne.symm hc.2)]
    rw [if_pos rfl, if_neg hne, HO.out]
  clear h1 h2 h3 b1 b2 b3 z1 z2 z3 hne
  have hcall := built_q (V := [W.heap.size, W.heap.size + 1]) (L := []) (a := none) 0 _ w3 HLT.out (by simp) (by simp) HVS.out ⟨fun _ hq => (by cases hq), .inl rfl⟩ (by decide) HFIN.out
  refine hcall.mono ?_
  clear hcall
  rintro e w4 ⟨rfl, hk⟩
  have HRB4 : Hid (ResBox (W.heap.size + 1 + 1) w4) := ⟨hk.heap HRB.out.heap HNO.out⟩
  have HB4 : Hid (Below W.heap.size W w4) := hk.below HBW.out HBW.out.size HGE.out
  obtain ⟨q1, f1⟩ := cell2 HRB4.out.heap
  obtain ⟨q2, f2⟩ := cell2b HRB4.out.heap
  clear hk
  go_wp2_with fail
  refine bodyPost_ret (results_qe rfl _ _ (W.heap.size + 1 + 1) _ _ rfl (HRB4.out.set _ _)) rfl ?_
  exact ⟨rfl, below_set2 HB4.out (by omega) _ _⟩
end Go.Proofs.YtelckldddflmmaaGreatDoor
/- RatMulDiv: The contracts of Mul and Div. -/
namespace Go.Proofs.YtelckldddflmmaaGreatDoor
open Go.RowKit Putlog

set_option maxRecDepth 100000 in
set_option maxHeartbeats 4000000 in
theorem mul_q (x1 x2 y1 y2 : ByteArray) (hx1 : Sized x1) (hx2 : Sized x2) (hy1 : Sized y1) (hy2 : Sized y2) (W : World) :
    Calls Tryz.prog 33 #[.agg #[.string x1, .string x2], .agg #[.string y1, .string y2]] W (GivesQ (mulQ (readQ x1 x2) (readQ y1 y2)) W) := by
  have X1 := Lib.hid hx1
  have X2 := Lib.hid hx2
  have Y1 := Lib.hid hy1
  have Y2 := Lib.hid hy2
  obtain ⟨o, ho⟩ : ∃ o, o = mulQ (readQ x1 x2) (readQ y1 y2) := ⟨_, rfl⟩
  rw [← ho]
  have HO := Lib.hid ho
  clear hx1 hx2 hy1 hy2 ho
  go_enter Tryz.func33, Tryz.ntmps33
  go_wp2_with fail
  have z1 := alloc_size W (.cells #[.string x1, .string x2] 23)
  have h1 := heap_alloc_new W (.cells #[.string x1, .string x2] 23)
  have b1 := alloc_below W (.cells #[.string x1, .string x2] 23)
  generalize W.alloc (.cells #[.string x1, .string x2] 23) = w1 at *
  have z2 := alloc_size w1 (.cells #[.string y1, .string y2] 23)
  have h2 := heap_alloc_new w1 (.cells #[.string y1, .string y2] 23)
  have b2 := alloc_below w1 (.cells #[.string y1, .string y2] 23)
  generalize w1.alloc (.cells #[.string y1, .string y2] 23) = w2 at *
  have z3 := alloc_size w2 (.cells #[.string ⟨#[]⟩, .string ⟨#[]⟩] 23)
  have h3 := heap_alloc_new w2 (.cells #[.string ⟨#[]⟩, .string ⟨#[]⟩] 23)
  have b3 := alloc_below w2 (.cells #[.string ⟨#[]⟩, .string ⟨#[]⟩] 23)
  generalize w2.alloc (.cells #[.string ⟨#[]⟩, .string ⟨#[]⟩] 23) = w3 at *
  have z4 := alloc_size w3 (.cells #[.string ⟨#[]⟩] 9)
  have h4 := heap_alloc_new w3 (.cells #[.string ⟨#[]⟩] 9)
  have b4 := alloc_below w3 (.cells #[.string ⟨#[]⟩] 9)
  generalize w3.alloc (.cells #[.string ⟨#[]⟩] 9) = w4 at *
  have z5 := alloc_size w4 (.cells #[.string ⟨#[]⟩] 9)
  have h5 := heap_alloc_new w4 (.cells #[.string ⟨#[]⟩] 9)
  have b5 := alloc_below w4 (.cells #[.string ⟨#[]⟩] 9)
  generalize w4.alloc (.cells #[.string ⟨#[]⟩] 9) = w5 at *
  have z6 := alloc_size w5 (.cells #[.string x1, .string x2, .string y1, .string y2] 23)
  have h6 := heap_alloc_new w5 (.cells #[.string x1, .string x2, .string y1, .string y2] 23)
  have b6 := alloc_below w5 (.cells #[.string x1, .string x2, .string y1, .string y2] 23)
  generalize w5.alloc (.cells #[.string x1, .string x2, .string y1, .string y2] 23) = w6 at *
  rw [z1] at h2
  rw [z2, z1] at h3
  rw [z3, z2, z1] at h4
  rw [z4, z3, z2, z1] at h5
  rw [z5, z4, z3, z2, z1] at h6
  have g0 := heap_below b6 (heap_below b5 (heap_below b4 (heap_below b3 (heap_below b2 (h1)))))
  have g1 := heap_below b6 (heap_below b5 (heap_below b4 (heap_below b3 (h2))))
  have g2 := heap_below b6 (heap_below b5 (heap_below b4 (h3)))
  have g3 := heap_below b6 (heap_below b5 (h4))
  have g4 := heap_below b6 (h5)
  have g5 := h6
  have HBW := Lib.hid (belowVia b6 (belowVia b5 (belowVia b4 (belowVia b3 (belowVia b2 (b1))))))
  have HSZ : w6.heap.size = W.heap.size + 1 + 1 + 1 + 1 + 1 + 1 := by rw [z6, z5, z4, z3, z2, z1]
  clear z1 h1 b1 z2 h2 b2 z3 h3 b3 z4 h4 b4 z5 h5 b5 z6 h6 b6
  have HLT : Hid (∀ p, p ∈ [W.heap.size + 1 + 1 + 1, W.heap.size + 1 + 1 + 1 + 1] → p < w6.heap.size) := fun p hp => by
    simp only [List.mem_cons, List.not_mem_nil, or_false] at hp; omega
  have HGE : Hid (∀ p, p ∈ [W.heap.size + 1 + 1 + 1, W.heap.size + 1 + 1 + 1 + 1] → W.heap.size ≤ p) := fun p hp => by
    simp only [List.mem_cons, List.not_mem_nil, or_false] at hp; omega
  have NA : Hid (W.heap.size ∉ [W.heap.size + 1 + 1 + 1, W.heap.size + 1 + 1 + 1 + 1]) := fun hp => by
    simp only [List.mem_cons, List.not_mem_nil, or_false] at hp; omega
  have NB : Hid (W.heap.size + 1 ∉ [W.heap.size + 1 + 1 + 1, W.heap.size + 1 + 1 + 1 + 1]) := fun hp => by
    simp only [List.mem_cons, List.not_mem_nil, or_false] at hp; omega
  have NR : Hid (W.heap.size + 1 + 1 ∉ [W.heap.size + 1 + 1 + 1, W.heap.size + 1 + 1 + 1 + 1]) := fun hp => by
    simp only [List.mem_cons, List.not_mem_nil, or_false] at hp; omega
  have NG : Hid (W.heap.size + 1 + 1 + 1 + 1 + 1 ∉ [W.heap.size + 1 + 1 + 1, W.heap.size + 1 + 1 + 1 + 1]) := fun hp => by
    simp only [List.mem_cons, List.not_mem_nil, or_false] at hp; omega
  have HVS : Hid (VarsAt [W.heap.size + 1 + 1 + 1, W.heap.size + 1 + 1 + 1 + 1] (fun _ => ⟨#[]⟩) w6) := by
    refine ⟨fun p hp => ?_, fun p hp => sized_nil⟩
    simp only [List.mem_cons, List.not_mem_nil, or_false] at hp
    rcases hp with rfl | rfl
    · exact g3
    · exact g4
  obtain ⟨a0, _⟩ := cell2 g0
  obtain ⟨a1, _⟩ := cell2b g0
  obtain ⟨c0, _⟩ := cell2 g1
  obtain ⟨c1, _⟩ := cell2b g1
  have RA0 := Lib.hid (Reads.const (V := [W.heap.size + 1 + 1 + 1, W.heap.size + 1 + 1 + 1 + 1]) a0 NA.out X1.out)
  have RB0 := Lib.hid (Reads.const (V := [W.heap.size + 1 + 1 + 1, W.heap.size + 1 + 1 + 1 + 1]) c0 NB.out Y1.out)
  have RA1 := Lib.hid (Reads.const (V := [W.heap.size + 1 + 1 + 1, W.heap.size + 1 + 1 + 1 + 1]) a1 NA.out X2.out)
  have RB1 := Lib.hid (Reads.const (V := [W.heap.size + 1 + 1 + 1, W.heap.size + 1 + 1 + 1 + 1]) c1 NB.out Y2.out)
  have HRB : Hid (ResBox (W.heap.size + 1 + 1) w6) := ⟨g2⟩
  have HF : Hid (FracsAt w6 (W.heap.size + 1 + 1 + 1 + 1 + 1) [(x1, x2), (y1, y2)]) := fun j q hj => by
    match j with
    | 0 => cases hj; exact ⟨(cell_of_row w6 _ 0 _ _ _ g5).trans rfl, (cell_of_row w6 _ 1 _ _ _ g5).trans rfl⟩
    | 1 => cases hj; exact ⟨(cell_of_row w6 _ 2 _ _ _ g5).trans rfl, (cell_of_row w6 _ 3 _ _ _ g5).trans rfl⟩
    | j + 2 => simp at hj
  have HLS : Hid (∀ q ∈ [(x1, x2), (y1, y2)], Sized q.1 ∧ Sized q.2) := fun q hq => by
    simp only [List.mem_cons, List.not_mem_nil, or_false] at hq
    rcases hq with rfl | rfl
    · exact ⟨X1.out, X2.out⟩
    · exact ⟨Y1.out, Y2.out⟩
  have HFIN : Hid (∀ c, c ∉ [W.heap.size + 1 + 1 + 1, W.heap.size + 1 + 1 + 1 + 1] → doneT (builtT [checkT (okAll [(x1, x2), (y1, y2)]), setT (W.heap.size + 1 + 1 + 1) (op2 mulF) (fun _ => x1) (fun _ => y1), setT (W.heap.size + 1 + 1 + 1 + 1) (op2 mulF) (fun _ => x2) (fun _ => y2)] (W.heap.size + 1 + 1 + 1) (W.heap.size + 1 + 1 + 1 + 1) c (upd (fun _ => ⟨#[]⟩) c ⟨#[]⟩)) (W.heap.size + 1 + 1 + 1) (W.heap.size + 1 + 1 + 1 + 1) = resT o) := fun c hc => by
    simp only [List.mem_cons, List.not_mem_nil, or_false, not_or] at hc
    rw [HO.out]
    exact mul_pure (by omega) hc.1 hc.2 x1 x2 y1 y2 _
  clear g0 g1 g2 g3 g4 g5 a0 a1 c0 c1 HSZ
  refine (fractions_step (V := [W.heap.size + 1 + 1 + 1, W.heap.size + 1 + 1 + 1 + 1]) (l := [(x1, x2), (y1, y2)]) HF.out NG.out HLS.out (by simp) 2 HLT.out).mono ?_
  rintro e w7 ⟨⟨v0, rfl, s0⟩, hB⟩
  have S0 := Lib.hid s0
  have HB7 := Lib.hid hB
  have HV7 := Lib.hid (lt_via HLT.out hB)
  obtain ⟨f0, k0, rfl⟩ := s0.form
  clear hB s0
  go_wp2_with fail
  refine (set_step op2_mul HV7.out (by simp) (RA0.out.via HB7.out) (RB0.out.via HB7.out)).mono ?_
  rintro e w8 ⟨⟨v1, rfl, s1⟩, hB⟩
  have S1 := Lib.hid s1
  have HB8 := Lib.hid hB
  have HV8 := Lib.hid (lt_via HV7.out hB)
  obtain ⟨f1, k1, rfl⟩ := s1.form
  clear hB s1
  go_wp2_with fail
  refine (set_step op2_mul HV8.out (by simp) ((RA1.out.via HB7.out).via HB8.out) ((RB1.out.via HB7.out).via HB8.out)).mono ?_
  rintro e w9 ⟨⟨v2, rfl, s2⟩, hB⟩
  have S2 := Lib.hid s2
  have HB9 := Lib.hid hB
  have HV9 := Lib.hid (lt_via HV8.out hB)
  obtain ⟨f2, k2, rfl⟩ := s2.form
  clear hB s2
  go_wp2_with fail
  have HR := Lib.hid (alloc_below w9 (.cells #[.func (.func f0) #[] k0, .func (.func f1) #[] k1, .func (.func f2) #[] k2] 72))
  have r0 := cell_rowN w9 #[.func (.func f0) #[] k0, .func (.func f1) #[] k1, .func (.func f2) #[] k2] 72 0 rfl
  have r1 := cell_rowN w9 #[.func (.func f0) #[] k0, .func (.func f1) #[] k1, .func (.func f2) #[] k2] 72 1 rfl
  have r2 := cell_rowN w9 #[.func (.func f0) #[] k0, .func (.func f1) #[] k1, .func (.func f2) #[] k2] 72 2 rfl
  have hg : w9.heap.size ∉ [W.heap.size + 1 + 1 + 1, W.heap.size + 1 + 1 + 1 + 1] := fun e => Nat.lt_irrefl _ (HV9.out _ e)
  have HVX := Lib.hid (lt_via HV9.out HR.out)
  generalize w9.alloc (.cells #[.func (.func f0) #[] k0, .func (.func f1) #[] k1, .func (.func f2) #[] k2] 72) = wx at *
  have HT := Lib.hid (StepsAt.three (((S0.out.via HB8.out).via HB9.out).via HR.out) ((S1.out.via HB9.out).via HR.out) (S2.out.via HR.out) hg r0 r1 r2)
  have HVS2 := Lib.hid ((((HVS.out.via HB7.out).via HB8.out).via HB9.out).via HR.out)
  have HBX := Lib.hid (belowVia HR.out (belowVia HB9.out (belowVia HB8.out (belowVia HB7.out (HBW.out)))))
  have HRX : Hid (ResBox (W.heap.size + 1 + 1) wx) := ⟨heap_below HR.out (heap_below HB9.out (heap_below HB8.out (heap_below HB7.out (HRB.out.heap))))⟩
  clear hg r0 r1 r2
  refine (built_q 3 _ wx HVX.out (by simp) (by simp) HVS2.out HT.out (by simp) HFIN.out).mono ?_
  rintro e wy ⟨rfl, hk⟩
  have HRB4 : Hid (ResBox (W.heap.size + 1 + 1) wy) := ⟨hk.heap HRX.out.heap NR.out⟩
  have HB4 : Hid (Below W.heap.size W wy) := hk.below HBX.out HBX.out.size HGE.out
  obtain ⟨q1, p1⟩ := cell2 HRB4.out.heap
  obtain ⟨q2, p2⟩ := cell2b HRB4.out.heap
  clear hk
  go_wp2_with fail
  refine bodyPost_ret (results_qe rfl _ _ (W.heap.size + 1 + 1) _ _ rfl (HRB4.out.set _ _)) rfl ?_
  exact ⟨rfl, below_set2 HB4.out (by omega) _ _⟩
set_option maxRecDepth 100000 in
set_option maxHeartbeats 4000000 in
theorem div_q (x1 x2 y1 y2 : ByteArray) (hx1 : Sized x1) (hx2 : Sized x2) (hy1 : Sized y1) (hy2 : Sized y2) (W : World) :
    Calls Tryz.prog 36 #[.agg #[.string x1, .string x2], .agg #[.string y1, .string y2]] W (GivesQ (divQ (readQ x1 x2) (readQ y1 y2)) W) := by
  have X1 := Lib.hid hx1
  have X2 := Lib.hid hx2
  have Y1 := Lib.hid hy1
  have Y2 := Lib.hid hy2
  obtain ⟨o, ho⟩ : ∃ o, o = divQ (readQ x1 x2) (readQ y1 y2) := ⟨_, rfl⟩
  rw [← ho]
  have HO := Lib.hid ho
  clear hx1 hx2 hy1 hy2 ho
  go_enter Tryz.func36, Tryz.ntmps36
  go_wp2_with fail
  have z1 := alloc_size W (.cells #[.string x1, .string x2] 23)
  have h1 := heap_alloc_new W (.cells #[.string x1, .string x2] 23)
  have b1 := alloc_below W (.cells #[.string x1, .string x2] 23)
  generalize W.alloc (.cells #[.string x1, .string x2] 23) = w1 at *
  have z2 := alloc_size w1 (.cells #[.string y1, .string y2] 23)
  have h2 := heap_alloc_new w1 (.cells #[.string y1, .string y2] 23)
  have b2 := alloc_below w1 (.cells #[.string y1, .string y2] 23)
  generalize w1.alloc (.cells #[.string y1, .string y2] 23) = w2 at *
  have z3 := alloc_size w2 (.cells #[.string ⟨#[]⟩, .string ⟨#[]⟩] 23)
  have h3 := heap_alloc_new w2 (.cells #[.string ⟨#[]⟩, .string ⟨#[]⟩] 23)
  have b3 := alloc_below w2 (.cells #[.string ⟨#[]⟩, .string ⟨#[]⟩] 23)
  generalize w2.alloc (.cells #[.string ⟨#[]⟩, .string ⟨#[]⟩] 23) = w3 at *
  have z4 := alloc_size w3 (.cells #[.string ⟨#[]⟩] 9)
  have h4 := heap_alloc_new w3 (.cells #[.string ⟨#[]⟩] 9)
  have b4 := alloc_below w3 (.cells #[.string ⟨#[]⟩] 9)
  generalize w3.alloc (.cells #[.string ⟨#[]⟩] 9) = w4 at *
  have z5 := alloc_size w4 (.cells #[.string ⟨#[]⟩] 9)
  have h5 := heap_alloc_new w4 (.cells #[.string ⟨#[]⟩] 9)
  have b5 := alloc_below w4 (.cells #[.string ⟨#[]⟩] 9)
  generalize w4.alloc (.cells #[.string ⟨#[]⟩] 9) = w5 at *
  have z6 := alloc_size w5 (.cells #[.string x1, .string x2, .string y1, .string y2] 23)
  have h6 := heap_alloc_new w5 (.cells #[.string x1, .string x2, .string y1, .string y2] 23)
  have b6 := alloc_below w5 (.cells #[.string x1, .string x2, .string y1, .string y2] 23)
  generalize w5.alloc (.cells #[.string x1, .string x2, .string y1, .string y2] 23) = w6 at *
  rw [z1] at h2
  rw [z2, z1] at h3
  rw [z3, z2, z1] at h4
  rw [z4, z3, z2, z1] at h5
  rw [z5, z4, z3, z2, z1] at h6
  have g0 := heap_below b6 (heap_below b5 (heap_below b4 (heap_below b3 (heap_below b2 (h1)))))
  have g1 := heap_below b6 (heap_below b5 (heap_below b4 (heap_below b3 (h2))))
  have g2 := heap_below b6 (heap_below b5 (heap_below b4 (h3)))
  have g3 := heap_below b6 (heap_below b5 (h4))
  have g4 := heap_below b6 (h5)
  have g5 := h6
  have HBW := Lib.hid (belowVia b6 (belowVia b5 (belowVia b4 (belowVia b3 (belowVia b2 (b1))))))
  have HSZ : w6.heap.size = W.heap.size + 1 + 1 + 1 + 1 + 1 + 1 := by rw [z6, z5, z4, z3, z2, z1]
  clear z1 h1 b1 z2 h2 b2 z3 h3 b3 z4 h4 b4 z5 h5 b5 z6 h6 b6
  have HLT : Hid (∀ p, p ∈ [W.heap.size + 1 + 1 + 1, W.heap.size + 1 + 1 + 1 + 1] → p < w6.heap.size) := fun p hp => by
    simp only [List.mem_cons, List.not_mem_nil, or_false] at hp; omega
  have HGE : Hid (∀ p, p ∈ [W.heap.size + 1 + 1 + 1, W.heap.size + 1 + 1 + 1 + 1] → W.heap.size ≤ p) := fun p hp => by
    simp only [List.mem_cons, List.not_mem_nil, or_false] at hp; omega
  have NA : Hid (W.heap.size ∉ [W.heap.size + 1 + 1 + 1, W.heap.size + 1 + 1 + 1 + 1]) := fun hp => by
    simp only [List.mem_cons, List.not_mem_nil, or_false] at hp; omega
  have NB : Hid (W.heap.size + 1 ∉ [W.heap.size + 1 + 1 + 1, W.heap.size + 1 + 1 + 1 + 1]) := fun hp => by
    simp only [List.mem_cons, List.not_mem_nil, or_false] at hp; omega
  have NR : Hid (W.heap.size + 1 + 1 ∉ [W.heap.size + 1 + 1 + 1, W.heap.size + 1 + 1 + 1 + 1]) := fun hp => by
    simp only [List.mem_cons, List.not_mem_nil, or_false] at hp; omega
  have NG : Hid (W.heap.size + 1 + 1 + 1 + 1 + 1 ∉ [W.heap.size + 1 + 1 + 1, W.heap.size + 1 + 1 + 1 + 1]) := fun hp => by
    simp only [List.mem_cons, List.not_mem_nil, or_false] at hp; omega
  have HVS : Hid (VarsAt [W.heap.size + 1 + 1 + 1, W.heap.size + 1 + 1 + 1 + 1] (fun _ => ⟨#[]⟩) w6) := by
    refine ⟨fun p hp => ?_, fun p hp => sized_nil⟩
    simp only [List.mem_cons, List.not_mem_nil, or_false] at hp
    rcases hp with rfl | rfl
    · exact g3
    · exact g4
  obtain ⟨a0, _⟩ := cell2 g0
  obtain ⟨a1, _⟩ := cell2b g0
  obtain ⟨c0, _⟩ := cell2 g1
  obtain ⟨c1, _⟩ := cell2b g1
  have RA0 := Lib.hid (Reads.const (V := [W.heap.size + 1 + 1 + 1, W.heap.size + 1 + 1 + 1 + 1]) a0 NA.out X1.out)
  have RB0 := Lib.hid (Reads.const (V := [W.heap.size + 1 + 1 + 1, W.heap.size + 1 + 1 + 1 + 1]) c1 NB.out Y2.out)
  have RA1 := Lib.hid (Reads.const (V := [W.heap.size + 1 + 1 + 1, W.heap.size + 1 + 1 + 1 + 1]) a1 NA.out X2.out)
  have RB1 := Lib.hid (Reads.const (V := [W.heap.size + 1 + 1 + 1, W.heap.size + 1 + 1 + 1 + 1]) c0 NB.out Y1.out)
  have HRB : Hid (ResBox (W.heap.size + 1 + 1) w6) := ⟨g2⟩
  have HF : Hid (FracsAt w6 (W.heap.size + 1 + 1 + 1 + 1 + 1) [(x1, x2), (y1, y2)]) := fun j q hj => by
    match j with
    | 0 => cases hj; exact ⟨(cell_of_row w6 _ 0 _ _ _ g5).trans rfl, (cell_of_row w6 _ 1 _ _ _ g5).trans rfl⟩
    | 1 => cases hj; exact ⟨(cell_of_row w6 _ 2 _ _ _ g5).trans rfl, (cell_of_row w6 _ 3 _ _ _ g5).trans rfl⟩
    | j + 2 => simp at hj
  have HLS : Hid (∀ q ∈ [(x1, x2), (y1, y2)], Sized q.1 ∧ Sized q.2) := fun q hq => by
    simp only [List.mem_cons, List.not_mem_nil, or_false] at hq
    rcases hq with rfl | rfl
    · exact ⟨X1.out, X2.out⟩
    · exact ⟨Y1.out, Y2.out⟩
  have HFIN : Hid (∀ c, c ∉ [W.heap.size + 1 + 1 + 1, W.heap.size + 1 + 1 + 1 + 1] → doneT (builtT [checkT (okAll [(x1, x2), (y1, y2)]), setT (W.heap.size + 1 + 1 + 1) (op2 mulF) (fun _ => x1) (fun _ => y2), setT (W.heap.size + 1 + 1 + 1 + 1) (op2 mulF) (fun _ => x2) (fun _ => y1)] (W.heap.size + 1 + 1 + 1) (W.heap.size + 1 + 1 + 1 + 1) c (upd (fun _ => ⟨#[]⟩) c ⟨#[]⟩)) (W.heap.size + 1 + 1 + 1) (W.heap.size + 1 + 1 + 1 + 1) = resT o) := fun c hc => by
    simp only [List.mem_cons, List.not_mem_nil, or_false, not_or] at hc
    rw [HO.out]
    exact div_pure (by omega) hc.1 hc.2 x1 x2 y1 y2 _
  clear g0 g1 g2 g3 g4 g5 a0 a1 c0 c1 HSZ
  refine (fractions_step (V := [W.heap.size + 1 + 1 + 1, W.heap.size + 1 + 1 + 1 + 1]) (l := [(x1, x2), (y1, y2)]) HF.out NG.out HLS.out (by simp) 2 HLT.out).mono ?_
  rintro e w7 ⟨⟨v0, rfl, s0⟩, hB⟩
  have S0 := Lib.hid s0
  have HB7 := Lib.hid hB
  have HV7 := Lib.hid (lt_via HLT.out hB)
  obtain ⟨f0, k0, rfl⟩ := s0.form
  clear hB s0
  go_wp2_with fail
  refine (set_step op2_mul HV7.out (by simp) (RA0.out.via HB7.out) (RB0.out.via HB7.out)).mono ?_
  rintro e w8 ⟨⟨v1, rfl, s1⟩, hB⟩
  have S1 := Lib.hid s1
  have HB8 := Lib.hid hB
  have HV8 := Lib.hid (lt_via HV7.out hB)
  obtain ⟨f1, k1, rfl⟩ := s1.form
  clear hB s1
  go_wp2_with fail
  refine (set_step op2_mul HV8.out (by simp) ((RA1.out.via HB7.out).via HB8.out) ((RB1.out.via HB7.out).via HB8.out)).mono ?_
  rintro e w9 ⟨⟨v2, rfl, s2⟩, hB⟩
  have S2 := Lib.hid s2
  have HB9 := Lib.hid hB
  have HV9 := Lib.hid (lt_via HV8.out hB)
  obtain ⟨f2, k2, rfl⟩ := s2.form
  clear hB s2
  go_wp2_with fail
  have HR := Lib.hid (alloc_below w9 (.cells #[.func (.func f0) #[] k0, .func (.func f1) #[] k1, .func (.func f2) #[] k2] 72))
  have r0 := cell_rowN w9 #[.func (.func f0) #[] k0, .func (.func f1) #[] k1, .func (.func f2) #[] k2] 72 0 rfl
  have r1 := cell_rowN w9 #[.func (.func f0) #[] k0, .func (.func f1) #[] k1, .func (.func f2) #[] k2] 72 1 rfl
  have r2 := cell_rowN w9 #[.func (.func f0) #[] k0, .func (.func f1) #[] k1, .func (.func f2) #[] k2] 72 2 rfl
  have hg : w9.heap.size ∉ [W.heap.size + 1 + 1 + 1, W.heap.size + 1 + 1 + 1 + 1] := fun e => Nat.lt_irrefl _ (HV9.out _ e)
  have HVX := Lib.hid (lt_via HV9.out HR.out)
  generalize w9.alloc (.cells #[.func (.func f0) #[] k0, .func (.func f1) #[] k1, .func (.func f2) #[] k2] 72) = wx at *
  have HT := Lib.hid (StepsAt.three (((S0.out.via HB8.out).via HB9.out).via HR.out) ((S1.out.via HB9.out).via HR.out) (S2.out.via HR.out) hg r0 r1 r2)
  have HVS2 := Lib.hid ((((HVS.out.via HB7.out).via HB8.out).via HB9.out).via HR.out)
  have HBX := Lib.hid (belowVia HR.out (belowVia HB9.out (belowVia HB8.out (belowVia HB7.out (HBW.out)))))
  have HRX : Hid (ResBox (W.heap.size + 1 + 1) wx) := ⟨heap_below HR.out (heap_below HB9.out (heap_below HB8.out (heap_below HB7.out (HRB.out.heap))))⟩
  clear hg r0 r1 r2
  refine (built_q 3 _ wx HVX.out (by simp) (by simp) HVS2.out HT.out (by simp) HFIN.out).mono ?_
  rintro e wy ⟨rfl, hk⟩
  have HRB4 : Hid (ResBox (W.heap.size + 1 + 1) wy) := ⟨hk.heap HRX.out.heap NR.out⟩
  have HB4 : Hid (Below W.heap.size W wy) := hk.below HBX.out HBX.out.size HGE.out
  obtain ⟨q1, p1⟩ := cell2 HRB4.out.heap
  obtain ⟨q2, p2⟩ := cell2b HRB4.out.heap
  clear hk
  go_wp2_with fail
  refine bodyPost_ret (results_qe rfl _ _ (W.heap.size + 1 + 1) _ _ rfl (HRB4.out.set _ _)) rfl ?_
  exact ⟨rfl, below_set2 HB4.out (by omega) _ _⟩
end Go.Proofs.YtelckldddflmmaaGreatDoor
/- RatSum: The contracts of summed, Add and Sub. -/
namespace Go.Proofs.YtelckldddflmmaaGreatDoor
open Go.RowKit Putlog

set_option maxRecDepth 100000 in
set_option maxHeartbeats 4000000 in
theorem summed_q {h : Nat} {f : Int → Int → ByteArray × Int} {g : Int → Int → Int} {Q : Option Rat → Option Rat → Option Rat} (hop : Op2 h (op2 f)) (hso : SumOp f g Q) (x1 x2 y1 y2 : ByteArray) (hx1 : Sized x1) (hx2 : Sized x2) (hy1 : Sized y1) (hy2 : Sized y2) (W : World) :
    Calls Tryz.prog 59 #[.agg #[.string x1, .string x2], .agg #[.string y1, .string y2], .func (.func h) #[] #[]] W (GivesQ (Q (readQ x1 x2) (readQ y1 y2)) W) := by
  have X1 := Lib.hid hx1
  have X2 := Lib.hid hx2
  have Y1 := Lib.hid hy1
  have Y2 := Lib.hid hy2
  have HSO := Lib.hid hso
  have HOP := Lib.hid hop
  obtain ⟨o, ho⟩ : ∃ o, o = Q (readQ x1 x2) (readQ y1 y2) := ⟨_, rfl⟩
  rw [← ho]
  have HO := Lib.hid ho
  clear hx1 hx2 hy1 hy2 ho hso hop
  go_enter Tryz.func59, Tryz.ntmps59
  go_wp2_with fail
  have z1 := alloc_size W (.cells #[.string x1, .string x2] 23)
  have h1 := heap_alloc_new W (.cells #[.string x1, .string x2] 23)
  have b1 := alloc_below W (.cells #[.string x1, .string x2] 23)
  generalize W.alloc (.cells #[.string x1, .string x2] 23) = w1 at *
  have z2 := alloc_size w1 (.cells #[.string y1, .string y2] 23)
  have h2 := heap_alloc_new w1 (.cells #[.string y1, .string y2] 23)
  have b2 := alloc_below w1 (.cells #[.string y1, .string y2] 23)
  generalize w1.alloc (.cells #[.string y1, .string y2] 23) = w2 at *
  have z3 := alloc_size w2 (.cells #[.string ⟨#[]⟩, .string ⟨#[]⟩] 23)
  have h3 := heap_alloc_new w2 (.cells #[.string ⟨#[]⟩, .string ⟨#[]⟩] 23)
  have b3 := alloc_below w2 (.cells #[.string ⟨#[]⟩, .string ⟨#[]⟩] 23)
  generalize w2.alloc (.cells #[.string ⟨#[]⟩, .string ⟨#[]⟩] 23) = w3 at *
  have z4 := alloc_size w3 (.cells #[.string ⟨#[]⟩] 9)
  have h4 := heap_alloc_new w3 (.cells #[.string ⟨#[]⟩] 9)
  have b4 := alloc_below w3 (.cells #[.string ⟨#[]⟩] 9)
  generalize w3.alloc (.cells #[.string ⟨#[]⟩] 9) = w4 at *
  have z5 := alloc_size w4 (.cells #[.string ⟨#[]⟩] 9)
  have h5 := heap_alloc_new w4 (.cells #[.string ⟨#[]⟩] 9)
  have b5 := alloc_below w4 (.cells #[.string ⟨#[]⟩] 9)
  generalize w4.alloc (.cells #[.string ⟨#[]⟩] 9) = w5 at *
  have z6 := alloc_size w5 (.cells #[.string ⟨#[]⟩] 9)
  have h6 := heap_alloc_new w5 (.cells #[.string ⟨#[]⟩] 9)
  have b6 := alloc_below w5 (.cells #[.string ⟨#[]⟩] 9)
  generalize w5.alloc (.cells #[.string ⟨#[]⟩] 9) = w6 at *
  have z7 := alloc_size w6 (.cells #[.string ⟨#[]⟩] 9)
  have h7 := heap_alloc_new w6 (.cells #[.string ⟨#[]⟩] 9)
  have b7 := alloc_below w6 (.cells #[.string ⟨#[]⟩] 9)
  generalize w6.alloc (.cells #[.string ⟨#[]⟩] 9) = w7 at *
  have z8 := alloc_size w7 (.cells #[.string x1, .string x2, .string y1, .string y2] 23)
  have h8 := heap_alloc_new w7 (.cells #[.string x1, .string x2, .string y1, .string y2] 23)
  have b8 := alloc_below w7 (.cells #[.string x1, .string x2, .string y1, .string y2] 23)
  generalize w7.alloc (.cells #[.string x1, .string x2, .string y1, .string y2] 23) = w8 at *
  rw [z1] at h2
  rw [z2, z1] at h3
  rw [z3, z2, z1] at h4
  rw [z4, z3, z2, z1] at h5
  rw [z5, z4, z3, z2, z1] at h6
  rw [z6, z5, z4, z3, z2, z1] at h7
  rw [z7, z6, z5, z4, z3, z2, z1] at h8
  have g0 := heap_below b8 (heap_below b7 (heap_below b6 (heap_below b5 (heap_below b4 (heap_below b3 (heap_below b2 (h1)))))))
  have g1 := heap_below b8 (heap_below b7 (heap_below b6 (heap_below b5 (heap_below b4 (heap_below b3 (h2))))))
  have g2 := heap_below b8 (heap_below b7 (heap_below b6 (heap_below b5 (heap_below b4 (h3)))))
  have g3 := heap_below b8 (heap_below b7 (heap_below b6 (heap_below b5 (h4))))
  have g4 := heap_below b8 (heap_below b7 (heap_below b6 (h5)))
  have g5 := heap_below b8 (heap_below b7 (h6))
  have g6 := heap_below b8 (h7)
  have g7 := h8
  have HBW := Lib.hid (belowVia b8 (belowVia b7 (belowVia b6 (belowVia b5 (belowVia b4 (belowVia b3 (belowVia b2 (b1))))))))
  have HSZ : w8.heap.size = W.heap.size + 1 + 1 + 1 + 1 + 1 + 1 + 1 + 1 := by rw [z8, z7, z6, z5, z4, z3, z2, z1]
  clear z1 h1 b1 z2 h2 b2 z3 h3 b3 z4 h4 b4 z5 h5 b5 z6 h6 b6 z7 h7 b7 z8 h8 b8
  have HLT : Hid (∀ p, p ∈ [W.heap.size + 1 + 1 + 1, W.heap.size + 1 + 1 + 1 + 1, W.heap.size + 1 + 1 + 1 + 1 + 1, W.heap.size + 1 + 1 + 1 + 1 + 1 + 1] → p < w8.heap.size) := fun p hp => by
    simp only [List.mem_cons, List.not_mem_nil, or_false] at hp; omega
  have HGE : Hid (∀ p, p ∈ [W.heap.size + 1 + 1 + 1, W.heap.size + 1 + 1 + 1 + 1, W.heap.size + 1 + 1 + 1 + 1 + 1, W.heap.size + 1 + 1 + 1 + 1 + 1 + 1] → W.heap.size ≤ p) := fun p hp => by
    simp only [List.mem_cons, List.not_mem_nil, or_false] at hp; omega
  have NA : Hid (W.heap.size ∉ [W.heap.size + 1 + 1 + 1, W.heap.size + 1 + 1 + 1 + 1, W.heap.size + 1 + 1 + 1 + 1 + 1, W.heap.size + 1 + 1 + 1 + 1 + 1 + 1]) := fun hp => by
    simp only [List.mem_cons, List.not_mem_nil, or_false] at hp; omega
  have NB : Hid (W.heap.size + 1 ∉ [W.heap.size + 1 + 1 + 1, W.heap.size + 1 + 1 + 1 + 1, W.heap.size + 1 + 1 + 1 + 1 + 1, W.heap.size + 1 + 1 + 1 + 1 + 1 + 1]) := fun hp => by
    simp only [List.mem_cons, List.not_mem_nil, or_false] at hp; omega
  have NR : Hid (W.heap.size + 1 + 1 ∉ [W.heap.size + 1 + 1 + 1, W.heap.size + 1 + 1 + 1 + 1, W.heap.size + 1 + 1 + 1 + 1 + 1, W.heap.size + 1 + 1 + 1 + 1 + 1 + 1]) := fun hp => by
    simp only [List.mem_cons, List.not_mem_nil, or_false] at hp; omega
  have NG : Hid (W.heap.size + 1 + 1 + 1 + 1 + 1 + 1 + 1 ∉ [W.heap.size + 1 + 1 + 1, W.heap.size + 1 + 1 + 1 + 1, W.heap.size + 1 + 1 + 1 + 1 + 1, W.heap.size + 1 + 1 + 1 + 1 + 1 + 1]) := fun hp => by
    simp only [List.mem_cons, List.not_mem_nil, or_false] at hp; omega
  have HVS : Hid (VarsAt [W.heap.size + 1 + 1 + 1, W.heap.size + 1 + 1 + 1 + 1, W.heap.size + 1 + 1 + 1 + 1 + 1, W.heap.size + 1 + 1 + 1 + 1 + 1 + 1] (fun _ => ⟨#[]⟩) w8) := by
    refine ⟨fun p hp => ?_, fun p hp => sized_nil⟩
    simp only [List.mem_cons, List.not_mem_nil, or_false] at hp
    rcases hp with rfl | rfl | rfl | rfl
    · exact g3
    · exact g4
    · exact g5
    · exact g6
  obtain ⟨a0, _⟩ := cell2 g0
  obtain ⟨a1, _⟩ := cell2b g0
  obtain ⟨c0, _⟩ := cell2 g1
  obtain ⟨c1, _⟩ := cell2b g1
  have RA0 := Lib.hid (Reads.const (V := [W.heap.size + 1 + 1 + 1, W.heap.size + 1 + 1 + 1 + 1, W.heap.size + 1 + 1 + 1 + 1 + 1, W.heap.size + 1 + 1 + 1 + 1 + 1 + 1]) a0 NA.out X1.out)
  have RB0 := Lib.hid (Reads.const (V := [W.heap.size + 1 + 1 + 1, W.heap.size + 1 + 1 + 1 + 1, W.heap.size + 1 + 1 + 1 + 1 + 1, W.heap.size + 1 + 1 + 1 + 1 + 1 + 1]) c1 NB.out Y2.out)
  have RA1 := Lib.hid (Reads.const (V := [W.heap.size + 1 + 1 + 1, W.heap.size + 1 + 1 + 1 + 1, W.heap.size + 1 + 1 + 1 + 1 + 1, W.heap.size + 1 + 1 + 1 + 1 + 1 + 1]) c0 NB.out Y1.out)
  have RB1 := Lib.hid (Reads.const (V := [W.heap.size + 1 + 1 + 1, W.heap.size + 1 + 1 + 1 + 1, W.heap.size + 1 + 1 + 1 + 1 + 1, W.heap.size + 1 + 1 + 1 + 1 + 1 + 1]) a1 NA.out X2.out)
  have RA3 := Lib.hid (Reads.const (V := [W.heap.size + 1 + 1 + 1, W.heap.size + 1 + 1 + 1 + 1, W.heap.size + 1 + 1 + 1 + 1 + 1, W.heap.size + 1 + 1 + 1 + 1 + 1 + 1]) a1 NA.out X2.out)
  have RB3 := Lib.hid (Reads.const (V := [W.heap.size + 1 + 1 + 1, W.heap.size + 1 + 1 + 1 + 1, W.heap.size + 1 + 1 + 1 + 1 + 1, W.heap.size + 1 + 1 + 1 + 1 + 1 + 1]) c1 NB.out Y2.out)
  have HRB : Hid (ResBox (W.heap.size + 1 + 1) w8) := ⟨g2⟩
  have HF : Hid (FracsAt w8 (W.heap.size + 1 + 1 + 1 + 1 + 1 + 1 + 1) [(x1, x2), (y1, y2)]) := fun j q hj => by
    match j with
    | 0 => cases hj; exact ⟨(cell_of_row w8 _ 0 _ _ _ g7).trans rfl, (cell_of_row w8 _ 1 _ _ _ g7).trans rfl⟩
    | 1 => cases hj; exact ⟨(cell_of_row w8 _ 2 _ _ _ g7).trans rfl, (cell_of_row w8 _ 3 _ _ _ g7).trans rfl⟩
    | j + 2 => simp at hj
  have HLS : Hid (∀ q ∈ [(x1, x2), (y1, y2)], Sized q.1 ∧ Sized q.2) := fun q hq => by
    simp only [List.mem_cons, List.not_mem_nil, or_false] at hq
    rcases hq with rfl | rfl
    · exact ⟨X1.out, X2.out⟩
    · exact ⟨Y1.out, Y2.out⟩
  have HFIN : Hid (∀ c, c ∉ [W.heap.size + 1 + 1 + 1, W.heap.size + 1 + 1 + 1 + 1, W.heap.size + 1 + 1 + 1 + 1 + 1, W.heap.size + 1 + 1 + 1 + 1 + 1 + 1] → doneT (builtT [checkT (okAll [(x1, x2), (y1, y2)]), setT (W.heap.size + 1 + 1 + 1) (op2 mulF) (fun _ => x1) (fun _ => y2), setT (W.heap.size + 1 + 1 + 1 + 1) (op2 mulF) (fun _ => y1) (fun _ => x2), setT (W.heap.size + 1 + 1 + 1 + 1 + 1) (op2 f) (fun s => s (W.heap.size + 1 + 1 + 1)) (fun s => s (W.heap.size + 1 + 1 + 1 + 1)), setT (W.heap.size + 1 + 1 + 1 + 1 + 1 + 1) (op2 mulF) (fun _ => x2) (fun _ => y2)] (W.heap.size + 1 + 1 + 1 + 1 + 1) (W.heap.size + 1 + 1 + 1 + 1 + 1 + 1) c (upd (fun _ => ⟨#[]⟩) c ⟨#[]⟩)) (W.heap.size + 1 + 1 + 1 + 1 + 1) (W.heap.size + 1 + 1 + 1 + 1 + 1 + 1) = resT o) := fun c hc => by
    simp only [List.mem_cons, List.not_mem_nil, or_false, not_or] at hc
    rw [HO.out]
    exact sum_pure HSO.out (by omega) (by omega) hc.2.2.1 hc.2.2.2 x1 x2 y1 y2 _
  clear g0 g1 g2 g3 g4 g5 g6 g7 a0 a1 c0 c1 HSZ
  refine (fractions_step (V := [W.heap.size + 1 + 1 + 1, W.heap.size + 1 + 1 + 1 + 1, W.heap.size + 1 + 1 + 1 + 1 + 1, W.heap.size + 1 + 1 + 1 + 1 + 1 + 1]) (l := [(x1, x2), (y1, y2)]) HF.out NG.out HLS.out (by simp) 2 HLT.out).mono ?_
  rintro e w9 ⟨⟨v0, rfl, s0⟩, hB⟩
  have S0 := Lib.hid s0
  have HB9 := Lib.hid hB
  have HV9 := Lib.hid (lt_via HLT.out hB)
  obtain ⟨f0, k0, rfl⟩ := s0.form
  clear hB s0
  go_wp2_with fail
  refine (set_step op2_mul HV9.out (by simp) (RA0.out.via HB9.out) (RB0.out.via HB9.out)).mono ?_
  rintro e w10 ⟨⟨v1, rfl, s1⟩, hB⟩
  have S1 := Lib.hid s1
  have HB10 := Lib.hid hB
  have HV10 := Lib.hid (lt_via HV9.out hB)
  obtain ⟨f1, k1, rfl⟩ := s1.form
  clear hB s1
  go_wp2_with fail
  refine (set_step op2_mul HV10.out (by simp) ((RA1.out.via HB9.out).via HB10.out) ((RB1.out.via HB9.out).via HB10.out)).mono ?_
  rintro e w11 ⟨⟨v2, rfl, s2⟩, hB⟩
  have S2 := Lib.hid s2
  have HB11 := Lib.hid hB
  have HV11 := Lib.hid (lt_via HV10.out hB)
  obtain ⟨f2, k2, rfl⟩ := s2.form
  clear hB s2
  go_wp2_with fail
  refine (set_step HOP.out HV11.out (by simp) (Reads.var (by simp)) (Reads.var (by simp))).mono ?_
  rintro e w12 ⟨⟨v3, rfl, s3⟩, hB⟩
  have S3 := Lib.hid s3
  have HB12 := Lib.hid hB
  have HV12 := Lib.hid (lt_via HV11.out hB)
  obtain ⟨f3, k3, rfl⟩ := s3.form
  clear hB s3
  go_wp2_with fail
  refine (set_step op2_mul HV12.out (by simp) ((((RA3.out.via HB9.out).via HB10.out).via HB11.out).via HB12.out) ((((RB3.out.via HB9.out).via HB10.out).via HB11.out).via HB12.out)).mono ?_
  rintro e w13 ⟨⟨v4, rfl, s4⟩, hB⟩
  have S4 := Lib.hid s4
  have HB13 := Lib.hid hB
  have HV13 := Lib.hid (lt_via HV12.out hB)
  obtain ⟨f4, k4, rfl⟩ := s4.form
  clear hB s4
  go_wp2_with fail
  have HR := Lib.hid (alloc_below w13 (.cells #[.func (.func f0) #[] k0, .func (.func f1) #[] k1, .func (.func f2) #[] k2, .func (.func f3) #[] k3, .func (.func f4) #[] k4] 72))
  have r0 := cell_rowN w13 #[.func (.func f0) #[] k0, .func (.func f1) #[] k1, .func (.func f2) #[] k2, .func (.func f3) #[] k3, .func (.func f4) #[] k4] 72 0 rfl
  have r1 := cell_rowN w13 #[.func (.func f0) #[] k0, .func (.func f1) #[] k1, .func (.func f2) #[] k2, .func (.func f3) #[] k3, .func (.func f4) #[] k4] 72 1 rfl
  have r2 := cell_rowN w13 #[.func (.func f0) #[] k0, .func (.func f1) #[] k1, .func (.func f2) #[] k2, .func (.func f3) #[] k3, .func (.func f4) #[] k4] 72 2 rfl
  have r3 := cell_rowN w13 #[.func (.func f0) #[] k0, .func (.func f1) #[] k1, .func (.func f2) #[] k2, .func (.func f3) #[] k3, .func (.func f4) #[] k4] 72 3 rfl
  have r4 := cell_rowN w13 #[.func (.func f0) #[] k0, .func (.func f1) #[] k1, .func (.func f2) #[] k2, .func (.func f3) #[] k3, .func (.func f4) #[] k4] 72 4 rfl
  have hg : w13.heap.size ∉ [W.heap.size + 1 + 1 + 1, W.heap.size + 1 + 1 + 1 + 1, W.heap.size + 1 + 1 + 1 + 1 + 1, W.heap.size + 1 + 1 + 1 + 1 + 1 + 1] := fun e => Nat.lt_irrefl _ (HV13.out _ e)
  have HVX := Lib.hid (lt_via HV13.out HR.out)
  generalize w13.alloc (.cells #[.func (.func f0) #[] k0, .func (.func f1) #[] k1, .func (.func f2) #[] k2, .func (.func f3) #[] k3, .func (.func f4) #[] k4] 72) = wx at *
  have HT := Lib.hid (StepsAt.five (((((S0.out.via HB10.out).via HB11.out).via HB12.out).via HB13.out).via HR.out) ((((S1.out.via HB11.out).via HB12.out).via HB13.out).via HR.out) (((S2.out.via HB12.out).via HB13.out).via HR.out) ((S3.out.via HB13.out).via HR.out) (S4.out.via HR.out) hg r0 r1 r2 r3 r4)
  have HVS2 := Lib.hid ((((((HVS.out.via HB9.out).via HB10.out).via HB11.out).via HB12.out).via HB13.out).via HR.out)
  have HBX := Lib.hid (belowVia HR.out (belowVia HB13.out (belowVia HB12.out (belowVia HB11.out (belowVia HB10.out (belowVia HB9.out (HBW.out)))))))
  have HRX : Hid (ResBox (W.heap.size + 1 + 1) wx) := ⟨heap_below HR.out (heap_below HB13.out (heap_below HB12.out (heap_below HB11.out (heap_below HB10.out (heap_below HB9.out (HRB.out.heap))))))⟩
  clear hg r0 r1 r2 r3 r4
  refine (built_q 5 _ wx HVX.out (by simp) (by simp) HVS2.out HT.out (by simp) HFIN.out).mono ?_
  rintro e wy ⟨rfl, hk⟩
  have HRB4 : Hid (ResBox (W.heap.size + 1 + 1) wy) := ⟨hk.heap HRX.out.heap NR.out⟩
  have HB4 : Hid (Below W.heap.size W wy) := hk.below HBX.out HBX.out.size HGE.out
  obtain ⟨q1, p1⟩ := cell2 HRB4.out.heap
  obtain ⟨q2, p2⟩ := cell2b HRB4.out.heap
  clear hk
  go_wp2_with fail
  refine bodyPost_ret (results_qe rfl _ _ (W.heap.size + 1 + 1) _ _ rfl (HRB4.out.set _ _)) rfl ?_
  exact ⟨rfl, below_set2 HB4.out (by omega) _ _⟩
set_option maxRecDepth 100000 in
set_option maxHeartbeats 4000000 in
theorem add_q (x1 x2 y1 y2 : ByteArray) (hx1 : Sized x1) (hx2 : Sized x2) (hy1 : Sized y1) (hy2 : Sized y2) (W : World) :
    Calls Tryz.prog 32 #[.agg #[.string x1, .string x2], .agg #[.string y1, .string y2]] W (GivesQ (addQ (readQ x1 x2) (readQ y1 y2)) W) := by
  have HC := Lib.hid (fun W => summed_q op2_add sum_add x1 x2 y1 y2 hx1 hx2 hy1 hy2 W)
  generalize addQ (readQ x1 x2) (readQ y1 y2) = o at *
  clear hx1 hx2 hy1 hy2
  go_enter Tryz.func32, Tryz.ntmps32
  go_wp2_with fail
  have z1 := alloc_size W (.cells #[.string x1, .string x2] 23)
  have h1 := heap_alloc_new W (.cells #[.string x1, .string x2] 23)
  have b1 := alloc_below W (.cells #[.string x1, .string x2] 23)
  generalize W.alloc (.cells #[.string x1, .string x2] 23) = w1 at *
  have z2 := alloc_size w1 (.cells #[.string y1, .string y2] 23)
  have h2 := heap_alloc_new w1 (.cells #[.string y1, .string y2] 23)
  have b2 := alloc_below w1 (.cells #[.string y1, .string y2] 23)
  generalize w1.alloc (.cells #[.string y1, .string y2] 23) = w2 at *
  have z3 := alloc_size w2 (.cells #[.string ⟨#[]⟩, .string ⟨#[]⟩] 23)
  have h3 := heap_alloc_new w2 (.cells #[.string ⟨#[]⟩, .string ⟨#[]⟩] 23)
  have b3 := alloc_below w2 (.cells #[.string ⟨#[]⟩, .string ⟨#[]⟩] 23)
  generalize w2.alloc (.cells #[.string ⟨#[]⟩, .string ⟨#[]⟩] 23) = w3 at *
  rw [z1] at h2
  rw [z2, z1] at h3
  have g0 := heap_below b3 (heap_below b2 (h1))
  have g1 := heap_below b3 (h2)
  have g2 := h3
  have HBW := Lib.hid (belowVia b3 (belowVia b2 (b1)))
  have HSZ : w3.heap.size = W.heap.size + 1 + 1 + 1 := by rw [z3, z2, z1]
  clear z1 h1 b1 z2 h2 b2 z3 h3 b3
  have HR3 : Hid (ResBox (W.heap.size + 1 + 1) w3) := ⟨g2⟩
  clear g0 g1 g2 HSZ
  refine (HC.out w3).mono ?_
  rintro e w4 ⟨rfl, hB⟩
  have HRB4 : Hid (ResBox (W.heap.size + 1 + 1) w4) := ⟨heap_below hB HR3.out.heap⟩
  have HB4 := Lib.hid (belowVia hB HBW.out)
  obtain ⟨q1, p1⟩ := cell2 HRB4.out.heap
  obtain ⟨q2, p2⟩ := cell2b HRB4.out.heap
  clear hB
  go_wp2_with fail
  refine bodyPost_ret (results_qe rfl _ _ (W.heap.size + 1 + 1) _ _ rfl (HRB4.out.set _ _)) rfl ?_
  exact ⟨rfl, below_set2 HB4.out (by omega) _ _⟩
set_option maxRecDepth 100000 in
set_option maxHeartbeats 4000000 in
theorem sub_q (x1 x2 y1 y2 : ByteArray) (hx1 : Sized x1) (hx2 : Sized x2) (hy1 : Sized y1) (hy2 : Sized y2) (W : World) :
    Calls Tryz.prog 34 #[.agg #[.string x1, .string x2], .agg #[.string y1, .string y2]] W (GivesQ (subQ (readQ x1 x2) (readQ y1 y2)) W) := by
  have HC := Lib.hid (fun W => summed_q op2_sub sum_sub x1 x2 y1 y2 hx1 hx2 hy1 hy2 W)
  generalize subQ (readQ x1 x2) (readQ y1 y2) = o at *
  clear hx1 hx2 hy1 hy2
  go_enter Tryz.func34, Tryz.ntmps34
  go_wp2_with fail
  have z1 := alloc_size W (.cells #[.string x1, .string x2] 23)
  have h1 := heap_alloc_new W (.cells #[.string x1, .string x2] 23)
  have b1 := alloc_below W (.cells #[.string x1, .string x2] 23)
  generalize W.alloc (.cells #[.string x1, .string x2] 23) = w1 at *
  have z2 := alloc_size w1 (.cells #[.string y1, .string y2] 23)
  have h2 := heap_alloc_new w1 (.cells #[.string y1, .string y2] 23)
  have b2 := alloc_below w1 (.cells #[.string y1, .string y2] 23)
  generalize w1.alloc (.cells #[.string y1, .string y2] 23) = w2 at *
  have z3 := alloc_size w2 (.cells #[.string ⟨#[]⟩, .string ⟨#[]⟩] 23)
  have h3 := heap_alloc_new w2 (.cells #[.string ⟨#[]⟩, .string ⟨#[]⟩] 23)
  have b3 := alloc_below w2 (.cells #[.string ⟨#[]⟩, .string ⟨#[]⟩] 23)
  generalize w2.alloc (.cells #[.string ⟨#[]⟩, .string ⟨#[]⟩] 23) = w3 at *
  rw [z1] at h2
  rw [z2, z1] at h3
  have g0 := heap_below b3 (heap_below b2 (h1))
  have g1 := heap_below b3 (h2)
  have g2 := h3
  have HBW := Lib.hid (belowVia b3 (belowVia b2 (b1)))
  have HSZ : w3.heap.size = W.heap.size + 1 + 1 + 1 := by rw [z3, z2, z1]
  clear z1 h1 b1 z2 h2 b2 z3 h3 b3
  have HR3 : Hid (ResBox (W.heap.size + 1 + 1) w3) := ⟨g2⟩
  clear g0 g1 g2 HSZ
  refine (HC.out w3).mono ?_
  rintro e w4 ⟨rfl, hB⟩
  have HRB4 : Hid (ResBox (W.heap.size + 1 + 1) w4) := ⟨heap_below hB HR3.out.heap⟩
  have HB4 := Lib.hid (belowVia hB HBW.out)
  obtain ⟨q1, p1⟩ := cell2 HRB4.out.heap
  obtain ⟨q2, p2⟩ := cell2b HRB4.out.heap
  clear hB
  go_wp2_with fail
  refine bodyPost_ret (results_qe rfl _ _ (W.heap.size + 1 + 1) _ _ rfl (HRB4.out.set _ _)) rfl ?_
  exact ⟨rfl, below_set2 HB4.out (by omega) _ _⟩
end Go.Proofs.YtelckldddflmmaaGreatDoor
/- RatCompare: The contract of Compare. -/
namespace Go.Proofs.YtelckldddflmmaaGreatDoor
open Go.RowKit Putlog

theorem cmpI_Z (a b : Int) : cmpI a b = cmpZ a b := rfl
/-- The two fractions that are left to compare. -/
structure CmpS (W : World) (r n d m c : Int) (w : World) : Prop where
  fn : Fits n
  fd : Fits d
  fm : Fits m
  fc : Fits c
  d0 : 0 < d
  c0 : 0 < c
  hA : w.heap[W.heap.size]? = some (.cells #[.string (intB n), .string (intB d)] 23 (0, 0))
  hB : w.heap[W.heap.size + 1]? = some (.cells #[.string (intB m), .string (intB c)] 23 (0, 0))
  hW : Below W.heap.size W w
  val : cmpZ (n * c) (m * d) = r
theorem CmpS.via {W : World} {r n d m c : Int} {w w' : World} (h : CmpS W r n d m c w) (hB : Below w.heap.size w w') : CmpS W r n d m c w' :=
  { h with hA := heap_below hB h.hA, hB := heap_below hB h.hB, hW := belowVia hB h.hW }
theorem CmpS.ne {W : World} {r n d m c : Int} {w : World} (h : CmpS W r n d m c w) (hq : n / d ≠ m / c) : cmpI (n / d) (m / c) = r ∧ r ≠ 0 := by
  rw [cmpI_Z, cmp_whole h.d0 h.c0 hq, h.val]
  refine ⟨rfl, fun e => ?_⟩
  rw [← h.val, ← cmp_whole h.d0 h.c0 hq, cmpZ_zero] at e
  exact hq e
theorem rem_lt {n d : Int} (h : 0 < d) : 0 ≤ n % d ∧ n % d < d := ⟨Int.emod_nonneg _ (by omega), Int.emod_lt_of_pos _ h⟩
theorem CmpS.fin {W : World} {r n d m c : Int} {w : World} (h : CmpS W r n d m c w) (hq : n / d = m / c) (hz : n % d = 0 ∨ m % c = 0) : cmpI (n % d) (m % c) = r := by
  rw [cmpI_Z, ← cmp_end h.d0 h.c0 (rem_lt h.d0).1 (rem_lt h.c0).1 hz, ← cmp_rest hq, h.val]
theorem fits_lt {a b : Int} (h0 : 0 ≤ a) (h : a < b) (hb : Fits b) : Fits a := by unfold Fits at *; omega
theorem CmpS.fq {W : World} {r n d m c : Int} {w : World} (h : CmpS W r n d m c w) : Fits (n / d) ∧ Fits (m / c) ∧ Fits (n % d) ∧ Fits (m % c) :=
  ⟨Nat.lt_of_le_of_lt (Int.natAbs_ediv_le_natAbs n d) h.fn, Nat.lt_of_le_of_lt (Int.natAbs_ediv_le_natAbs m c) h.fm, fits_lt (rem_lt h.d0).1 (rem_lt h.d0).2 h.fd, fits_lt (rem_lt h.c0).1 (rem_lt h.c0).2 h.fc⟩
theorem CmpS.next {W : World} {r n d m c : Int} {w w' : World} (h : CmpS W r n d m c w) (hq : n / d = m / c) (hz1 : n % d ≠ 0) (hz2 : m % c ≠ 0)
    (hw : w' = (((w.setCell ⟨W.heap.size, 0, none⟩ (.string (intB c))).setCell ⟨W.heap.size, 1, none⟩ (.string (intB (m % c)))).setCell ⟨W.heap.size + 1, 0, none⟩ (.string (intB d))).setCell ⟨W.heap.size + 1, 1, none⟩ (.string (intB (n % d)))) :
    CmpS W r c (m % c) d (n % d) w' := by
  obtain ⟨a1, a2⟩ := rem_lt (n := n) h.d0
  obtain ⟨b1, b2⟩ := rem_lt (n := m) h.c0
  obtain ⟨_, _, f1, f2⟩ := h.fq
  have hne : W.heap.size ≠ W.heap.size + 1 := by omega
  have g1 := heap_setCell_same w _ 0 _ _ (.string (intB c)) h.hA
  have g2 := heap_setCell_same _ _ 1 _ _ (.string (intB (m % c))) g1
  have e1 : ((w.setCell ⟨W.heap.size, 0, none⟩ (.string (intB c))).setCell ⟨W.heap.size, 1, none⟩ (.string (intB (m % c)))).heap[W.heap.size + 1]? = some (.cells #[.string (intB m), .string (intB c)] 23 (0, 0)) := by
    rw [heap_setCell_other _ _ _ _ hne.symm, heap_setCell_other _ _ _ _ hne.symm]; exact h.hB
  have g3 := heap_setCell_same _ _ 0 _ _ (.string (intB d)) e1
  have g4 := heap_setCell_same _ _ 1 _ _ (.string (intB (n % d))) g3
  refine ⟨h.fc, f2, h.fd, f1, by omega, by omega, ?_, ?_, ?_, ?_⟩
  · rw [hw, heap_setCell_other _ _ _ _ hne, heap_setCell_other _ _ _ _ hne]; exact g2
  · rw [hw]; exact g4
  · rw [hw]; exact below_set2 (below_set2 h.hW (Nat.le_refl _) _ _) (by omega) _ _
  · rw [← h.val, cmp_rest hq, Int.mul_comm (n % d), Int.mul_comm (m % c)]
def numC : Option Value → Nat
  | some (.string s) => (intV s.data.toList).natAbs
  | _ => 0
def cmpM (W : World) (_a : Act) (w : World) : Nat := numC (w.cell? ⟨W.heap.size, 1, none⟩) + numC (w.cell? ⟨W.heap.size + 1, 1, none⟩)
theorem numC_int (z : Int) : numC (some (.string (intB z))) = z.natAbs := by
  show (intV (intB z).data.toList).natAbs = _
  rw [intB_list, intT_val]
theorem CmpS.meas {W : World} {r n d m c : Int} {w : World} (h : CmpS W r n d m c w) (a : Act) : cmpM W a w = d.natAbs + c.natAbs := by
  unfold cmpM
  rw [(cell2b h.hA).1, (cell2b h.hB).1, numC_int, numC_int]
theorem CmpS.less {W : World} {r n d m c : Int} {w w' : World} (h : CmpS W r n d m c w) (k : CmpS W r c (m % c) d (n % d) w') (a a' : Act) : cmpM W a' w' < cmpM W a w := by
  rw [h.meas, k.meas]
  have h1 := rem_lt (n := n) h.d0
  have h2 := rem_lt (n := m) h.c0
  have := h.d0; have := h.c0
  omega
theorem isZ (z : Int) : ((intB z).toList == [48]) = decide (z = 0) := by
  by_cases h : z = 0
  · subst h; decide +kernel
  · rw [isZero_no h, decide_eq_false h]
def CmpJ (W : World) (x1 x2 y1 y2 : ByteArray) (r : Int) (a' : Act) (w' : World) : Prop :=
  (∃ u5 u6 u7 u8 u9 u10 u11 u12 u13 u14 u15 u16 u17 u18 u19 u20 u21 u22 u23 u24 u25 u26 u27 u28 u29 u30 u31 u32 u33 u34 u35 u36 u37 u38 u39 u40 u41 u42 u43 u44 u45 u46 u47 u48 u49 u50 u51 u52 u53 u54 u55 u56 u57 u58 u59 u60, a' = { tmps := #[.agg #[.string x1, .string x2], .agg #[.string y1, .string y2], .pointer (some ⟨W.heap.size, 0, none⟩), .pointer (some ⟨W.heap.size + 1, 0, none⟩), .int .i64 0, u5, u6, u7, u8, u9, u10, u11, u12, u13, u14, u15, u16, u17, u18, u19, u20, u21, u22, u23, u24, u25, u26, u27, u28, u29, u30, u31, u32, u33, u34, u35, u36, u37, u38, u39, u40, u41, u42, u43, u44, u45, u46, u47, u48, u49, u50, u51, u52, u53, u54, u55, u56, u57, u58, u59, u60], defers := [] }) ∧ ∃ n d m c, CmpS W r n d m c w'
set_option maxRecDepth 100000 in
set_option maxHeartbeats 8000000 in
theorem compare_ints (n0 d0 m0 c0 : Int) (fn : Fits n0) (fd : Fits d0) (fm : Fits m0) (fc : Fits c0) (hd0 : 0 < d0) (hc0 : 0 < c0)
    (hx : ∀ W, Calls Tryz.prog 24 #[.agg #[.string (intB n0), .string (intB d0)]] W fun e w' => e = .returned (.bool true) ∧ Below W.heap.size W w')
    (hy : ∀ W, Calls Tryz.prog 24 #[.agg #[.string (intB m0), .string (intB c0)]] W fun e w' => e = .returned (.bool true) ∧ Below W.heap.size W w') (W : World) :
    Calls Tryz.prog 15 #[.agg #[.string (intB n0), .string (intB d0)], .agg #[.string (intB m0), .string (intB c0)]] W fun e w' => e = .returned (.int .i64 (cmpZ (n0 * c0) (m0 * d0))) ∧ Below W.heap.size W w' := by
  have HX := Lib.hid hx
  have HY := Lib.hid hy
  obtain ⟨r, hr⟩ : ∃ r, r = cmpZ (n0 * c0) (m0 * d0) := ⟨_, rfl⟩
  rw [← hr]
  have HS0 : Hid (CmpS W r n0 d0 m0 c0 ((W.alloc (.cells #[.string (intB n0), .string (intB d0)] 23)).alloc (.cells #[.string (intB m0), .string (intB c0)] 23))) := by
    refine ⟨fn, fd, fm, fc, hd0, hc0, heap_below (alloc_below _ _) (heap_alloc_new W _), ?_, belowVia (alloc_below _ _) (alloc_below _ _), hr.symm⟩
    have := heap_alloc_new (W.alloc (.cells #[.string (intB n0), .string (intB d0)] 23)) (.cells #[.string (intB m0), .string (intB c0)] 23)
    rwa [alloc_size] at this
  obtain ⟨x1, hx1⟩ : ∃ x, x = intB n0 := ⟨_, rfl⟩
  obtain ⟨x2, hx2⟩ : ∃ x, x = intB d0 := ⟨_, rfl⟩
  obtain ⟨y1, hy1⟩ : ∃ x, x = intB m0 := ⟨_, rfl⟩
  obtain ⟨y2, hy2⟩ : ∃ x, x = intB c0 := ⟨_, rfl⟩
  rw [← hx1, ← hx2] at HX
  rw [← hy1, ← hy2] at HY
  rw [← hx1, ← hx2, ← hy1, ← hy2] at HS0 ⊢
  have EX1 := Lib.hid hx1
  have EX2 := Lib.hid hx2
  have EY1 := Lib.hid hy1
  have EY2 := Lib.hid hy2
  clear hx hy hr fn fd fm fc hd0 hc0 hx1 hx2 hy1 hy2
  go_enter Tryz.func15, Tryz.ntmps15
  go_wp2_with fail
  generalize (W.alloc (.cells #[.string x1, .string x2] 23)).alloc (.cells #[.string y1, .string y2] 23) = wr at *
  refine wp_scope_jumps 0 (CmpJ W x1 x2 y1 y2 r) (cmpM W) rfl ?_ ?_
  · obtain ⟨n, d, m, c, hs, e1, e2, e3, e4⟩ : ∃ n d m c, CmpS W r n d m c wr ∧ x1 = intB n ∧ x2 = intB d ∧ y1 = intB m ∧ y2 = intB c := ⟨n0, d0, m0, c0, HS0.out, EX1.out, EX2.out, EY1.out, EY2.out⟩
    have HS := Lib.hid hs
    clear hs HS0 EX1 EX2 EY1 EY2
    obtain ⟨k0, _⟩ := cell2 HS.out.hA
    obtain ⟨k1, _⟩ := cell2b HS.out.hA
    obtain ⟨k2, _⟩ := cell2 HS.out.hB
    obtain ⟨k3, _⟩ := cell2b HS.out.hB
    rw [← e1] at k0; rw [← e2] at k1; rw [← e3] at k2; rw [← e4] at k3
    clear e1 e2 e3 e4
    go_wp2_with fail
    refine (HX.out wr).mono ?_
    rintro e wv ⟨rfl, hB⟩
    have k2 := keptBelow hB k2
    have k3 := keptBelow hB k3
    have HSV := Lib.hid (HS.out.via hB)
    clear hB HS k0 k1
    go_wp2_with fail
    refine (HY.out wv).mono ?_
    rintro e wu ⟨rfl, hB⟩
    have HS := Lib.hid (HSV.out.via hB)
    clear hB HSV k2 k3
    go_wp2_with fail
    go_step3
    generalize wu = wr at *
    obtain ⟨k0, _⟩ := cell2 HS.out.hA
    obtain ⟨k1, _⟩ := cell2b HS.out.hA
    obtain ⟨k2, _⟩ := cell2 HS.out.hB
    obtain ⟨k3, _⟩ := cell2b HS.out.hB
    obtain ⟨fq1, fq2, fr1, fr2⟩ := HS.out.fq
    have HD1 := Lib.hid (fun W => div_ok n d HS.out.fn HS.out.fd (Int.ne_of_gt HS.out.d0) W)
    have HD2 := Lib.hid (fun W => div_ok m c HS.out.fm HS.out.fc (Int.ne_of_gt HS.out.c0) W)
    have HC1 := Lib.hid (fun W => cmp_ok (n / d) (m / c) fq1 fq2 W)
    have HC2 := Lib.hid (fun W => cmp_ok (n % d) (m % c) fr1 fr2 W)
    have iz1 := Lib.hid (isZ (n % d))
    have iz2 := Lib.hid (isZ (m % c))
    clear fq1 fq2 fr1 fr2
    go_wp2_with fail
    refine (HD1.out wr).mono ?_
    rintro e w1 ⟨rfl, hB⟩
    have HS1 := Lib.hid (HS.out.via hB)
    clear hB k0 k1 k2 k3
    obtain ⟨k0, f0⟩ := cell2 HS1.out.hA
    obtain ⟨k1, f1⟩ := cell2b HS1.out.hA
    obtain ⟨k2, f2⟩ := cell2 HS1.out.hB
    obtain ⟨k3, f3⟩ := cell2b HS1.out.hB
    clear f0 f1 f2 f3
    go_wp2_with fail
    refine (HD2.out w1).mono ?_
    rintro e w2 ⟨rfl, hB⟩
    have HS2 := Lib.hid (HS1.out.via hB)
    clear hB k0 k1 k2 k3
    obtain ⟨k0, f0⟩ := cell2 HS2.out.hA
    obtain ⟨k1, f1⟩ := cell2b HS2.out.hA
    obtain ⟨k2, f2⟩ := cell2 HS2.out.hB
    obtain ⟨k3, f3⟩ := cell2b HS2.out.hB
    clear f0 f1 f2 f3
    go_wp2_with fail
    refine (HC1.out w2).mono ?_
    rintro e w3 ⟨rfl, hB⟩
    have HS3 := Lib.hid (HS2.out.via hB)
    clear hB k0 k1 k2 k3
    obtain ⟨k0, f0⟩ := cell2 HS3.out.hA
    obtain ⟨k1, f1⟩ := cell2b HS3.out.hA
    obtain ⟨k2, f2⟩ := cell2 HS3.out.hB
    obtain ⟨k3, f3⟩ := cell2b HS3.out.hB
    by_cases hq : n / d = m / c
    · have e0 : cmpI (n / d) (m / c) = 0 := by unfold cmpI; rw [if_neg (by omega), if_neg (by omega)]
      rw [e0]
      clear e0
      by_cases hz : n % d = 0 ∨ m % c = 0
      · have HV := Lib.hid (HS3.out.fin hq hz)
        by_cases hz1 : n % d = 0
        · have t1 := iz1.out
          rw [decide_eq_true hz1] at t1
          clear hz hz1 hq
          go_wp2_with fail
          refine (HC2.out w3).mono ?_
          rintro e w4 ⟨rfl, hB⟩
          have HB4 := Lib.hid (belowVia hB HS3.out.hW)
          clear hB
          go_wp2_with fail
          try simp only [Exit.jump]
          go_ret
          exact ⟨by rw [HV.out]; rfl, HB4.out⟩
        · have hz2 : m % c = 0 := hz.resolve_left hz1
          have t1 := iz1.out
          rw [decide_eq_false hz1] at t1
          have t2 := iz2.out
          rw [decide_eq_true hz2] at t2
          clear hz hz1 hz2 hq
          go_wp2_with fail
          refine (HC2.out w3).mono ?_
          rintro e w4 ⟨rfl, hB⟩
          have HB4 := Lib.hid (belowVia hB HS3.out.hW)
          clear hB
          go_wp2_with fail
          try simp only [Exit.jump]
          go_ret
          exact ⟨by rw [HV.out]; rfl, HB4.out⟩
      · have hz1 : n % d ≠ 0 := fun e => hz (.inl e)
        have hz2 : m % c ≠ 0 := fun e => hz (.inr e)
        have t1 := iz1.out
        rw [decide_eq_false hz1] at t1
        have t2 := iz2.out
        rw [decide_eq_false hz2] at t2
        have HNX := Lib.hid (fun w2 => HS3.out.next (w' := w2) hq hz1 hz2)
        clear hz hz1 hz2 hq
        go_wp2_with fail
        go_step3
        exact ⟨rfl, ⟨_, _, _, _, _, _, _, _, _, _, _, _, _, _, _, _, _, _, _, _, _, _, _, _, _, _, _, _, _, _, _, _, _, _, _, _, _, _, _, _, _, _, _, _, _, _, _, _, _, _, _, _, _, _, _, _, rfl⟩, c, m % c, d, n % d, HNX.out _ rfl⟩
    · obtain ⟨e1, e2⟩ := HS3.out.ne hq
      rw [e1]
      have e3 : (r != 0) = true := by simp [e2]
      clear e1 e2 hq
      go_wp2_with fail
      try simp only [Exit.jump]
      go_ret
      exact ⟨rfl, HS3.out.hW⟩
  · rintro a' wr ⟨⟨u5, u6, u7, u8, u9, u10, u11, u12, u13, u14, u15, u16, u17, u18, u19, u20, u21, u22, u23, u24, u25, u26, u27, u28, u29, u30, u31, u32, u33, u34, u35, u36, u37, u38, u39, u40, u41, u42, u43, u44, u45, u46, u47, u48, u49, u50, u51, u52, u53, u54, u55, u56, u57, u58, u59, u60, rfl⟩, n, d, m, c, hs⟩
    have HS := Lib.hid hs
    clear hs
    obtain ⟨k0, _⟩ := cell2 HS.out.hA
    obtain ⟨k1, _⟩ := cell2b HS.out.hA
    obtain ⟨k2, _⟩ := cell2 HS.out.hB
    obtain ⟨k3, _⟩ := cell2b HS.out.hB
    obtain ⟨fq1, fq2, fr1, fr2⟩ := HS.out.fq
    have HD1 := Lib.hid (fun W => div_ok n d HS.out.fn HS.out.fd (Int.ne_of_gt HS.out.d0) W)
    have HD2 := Lib.hid (fun W => div_ok m c HS.out.fm HS.out.fc (Int.ne_of_gt HS.out.c0) W)
    have HC1 := Lib.hid (fun W => cmp_ok (n / d) (m / c) fq1 fq2 W)
    have HC2 := Lib.hid (fun W => cmp_ok (n % d) (m % c) fr1 fr2 W)
    have iz1 := Lib.hid (isZ (n % d))
    have iz2 := Lib.hid (isZ (m % c))
    clear fq1 fq2 fr1 fr2
    go_wp2_with fail
    refine (HD1.out wr).mono ?_
    rintro e w1 ⟨rfl, hB⟩
    have HS1 := Lib.hid (HS.out.via hB)
    clear hB k0 k1 k2 k3
    obtain ⟨k0, f0⟩ := cell2 HS1.out.hA
    obtain ⟨k1, f1⟩ := cell2b HS1.out.hA
    obtain ⟨k2, f2⟩ := cell2 HS1.out.hB
    obtain ⟨k3, f3⟩ := cell2b HS1.out.hB
    clear f0 f1 f2 f3
    go_wp2_with fail
    refine (HD2.out w1).mono ?_
    rintro e w2 ⟨rfl, hB⟩
    have HS2 := Lib.hid (HS1.out.via hB)
    clear hB k0 k1 k2 k3
    obtain ⟨k0, f0⟩ := cell2 HS2.out.hA
    obtain ⟨k1, f1⟩ := cell2b HS2.out.hA
    obtain ⟨k2, f2⟩ := cell2 HS2.out.hB
    obtain ⟨k3, f3⟩ := cell2b HS2.out.hB
    clear f0 f1 f2 f3
    go_wp2_with fail
    refine (HC1.out w2).mono ?_
    rintro e w3 ⟨rfl, hB⟩
    have HS3 := Lib.hid (HS2.out.via hB)
    clear hB k0 k1 k2 k3
    obtain ⟨k0, f0⟩ := cell2 HS3.out.hA
    obtain ⟨k1, f1⟩ := cell2b HS3.out.hA
    obtain ⟨k2, f2⟩ := cell2 HS3.out.hB
    obtain ⟨k3, f3⟩ := cell2b HS3.out.hB
    by_cases hq : n / d = m / c
    · have e0 : cmpI (n / d) (m / c) = 0 := by unfold cmpI; rw [if_neg (by omega), if_neg (by omega)]
      rw [e0]
      clear e0
      by_cases hz : n % d = 0 ∨ m % c = 0
      · have HV := Lib.hid (HS3.out.fin hq hz)
        by_cases hz1 : n % d = 0
        · have t1 := iz1.out
          rw [decide_eq_true hz1] at t1
          clear hz hz1 hq
          go_wp2_with fail
          refine (HC2.out w3).mono ?_
          rintro e w4 ⟨rfl, hB⟩
          have HB4 := Lib.hid (belowVia hB HS3.out.hW)
          clear hB
          go_wp2_with fail
          try simp only [Exit.jump]
          go_ret
          exact ⟨by rw [HV.out]; rfl, HB4.out⟩
        · have hz2 : m % c = 0 := hz.resolve_left hz1
          have t1 := iz1.out
          rw [decide_eq_false hz1] at t1
          have t2 := iz2.out
          rw [decide_eq_true hz2] at t2
          clear hz hz1 hz2 hq
          go_wp2_with fail
          refine (HC2.out w3).mono ?_
          rintro e w4 ⟨rfl, hB⟩
          have HB4 := Lib.hid (belowVia hB HS3.out.hW)
          clear hB
          go_wp2_with fail
          try simp only [Exit.jump]
          go_ret
          exact ⟨by rw [HV.out]; rfl, HB4.out⟩
      · have hz1 : n % d ≠ 0 := fun e => hz (.inl e)
        have hz2 : m % c ≠ 0 := fun e => hz (.inr e)
        have t1 := iz1.out
        rw [decide_eq_false hz1] at t1
        have t2 := iz2.out
        rw [decide_eq_false hz2] at t2
        have HNX := Lib.hid (fun w2 => HS3.out.next (w' := w2) hq hz1 hz2)
        clear hz hz1 hz2 hq
        go_wp2_with fail
        go_step3
        exact ⟨rfl, ⟨⟨_, _, _, _, _, _, _, _, _, _, _, _, _, _, _, _, _, _, _, _, _, _, _, _, _, _, _, _, _, _, _, _, _, _, _, _, _, _, _, _, _, _, _, _, _, _, _, _, _, _, _, _, _, _, _, _, rfl⟩, c, m % c, d, n % d, HNX.out _ rfl⟩, HS.out.less (HNX.out _ rfl) _ _⟩
    · obtain ⟨e1, e2⟩ := HS3.out.ne hq
      rw [e1]
      have e3 : (r != 0) = true := by simp [e2]
      clear e1 e2 hq
      go_wp2_with fail
      try simp only [Exit.jump]
      go_ret
      exact ⟨rfl, HS3.out.hW⟩
set_option maxRecDepth 100000 in
set_option maxHeartbeats 2000000 in
theorem compare_not (x1 x2 y1 y2 : ByteArray) (p q : Bool) (hpq : (p && q) = false)
    (hx : ∀ W, Calls Tryz.prog 24 #[.agg #[.string x1, .string x2]] W fun e w' => e = .returned (.bool p) ∧ Below W.heap.size W w')
    (hy : ∀ W, Calls Tryz.prog 24 #[.agg #[.string y1, .string y2]] W fun e w' => e = .returned (.bool q) ∧ Below W.heap.size W w') (W : World) :
    Calls Tryz.prog 15 #[.agg #[.string x1, .string x2], .agg #[.string y1, .string y2]] W fun e w' => e = .returned (.int .i64 0) ∧ Below W.heap.size W w' := by
  have HX := Lib.hid hx
  have HY := Lib.hid hy
  clear hx hy
  cases p with
  | false =>
    clear hpq
    go_enter Tryz.func15, Tryz.ntmps15
    go_wp2_with fail
    have HBW := Lib.hid (belowVia (alloc_below (W.alloc (.cells #[.string x1, .string x2] 23)) (.cells #[.string y1, .string y2] 23)) (alloc_below W _))
    obtain ⟨k0, _⟩ := cell2 (heap_below (alloc_below _ (.cells #[.string y1, .string y2] 23)) (heap_alloc_new W (.cells #[.string x1, .string x2] 23)))
    obtain ⟨k1, _⟩ := cell2b (heap_below (alloc_below _ (.cells #[.string y1, .string y2] 23)) (heap_alloc_new W (.cells #[.string x1, .string x2] 23)))
    generalize (W.alloc (.cells #[.string x1, .string x2] 23)).alloc (.cells #[.string y1, .string y2] 23) = wr at *
    refine wp_scope_jumps 0 (fun _ _ => False) (fun _ _ => 0) rfl ?_ (fun _ _ h => h.elim)
    go_wp2_with fail
    refine (HX.out wr).mono ?_
    rintro e w1 ⟨rfl, hB⟩
    have HB1 := Lib.hid (belowVia hB HBW.out)
    clear hB
    go_wp2_with fail
    try simp only [Exit.jump]
    go_ret
    exact ⟨rfl, HB1.out⟩
  | true =>
    obtain rfl : q = false := by simpa using hpq
    clear hpq
    go_enter Tryz.func15, Tryz.ntmps15
    go_wp2_with fail
    have HBW := Lib.hid (belowVia (alloc_below (W.alloc (.cells #[.string x1, .string x2] 23)) (.cells #[.string y1, .string y2] 23)) (alloc_below W _))
    obtain ⟨k0, _⟩ := cell2 (heap_below (alloc_below _ (.cells #[.string y1, .string y2] 23)) (heap_alloc_new W (.cells #[.string x1, .string x2] 23)))
    obtain ⟨k1, _⟩ := cell2b (heap_below (alloc_below _ (.cells #[.string y1, .string y2] 23)) (heap_alloc_new W (.cells #[.string x1, .string x2] 23)))
    have hb := heap_alloc_new (W.alloc (.cells #[.string x1, .string x2] 23)) (.cells #[.string y1, .string y2] 23)
    rw [alloc_size] at hb
    generalize (W.alloc (.cells #[.string x1, .string x2] 23)).alloc (.cells #[.string y1, .string y2] 23) = wr at *
    obtain ⟨k2, _⟩ := cell2 hb
    obtain ⟨k3, _⟩ := cell2b hb
    clear hb
    refine wp_scope_jumps 0 (fun _ _ => False) (fun _ _ => 0) rfl ?_ (fun _ _ h => h.elim)
    go_wp2_with fail
    refine (HX.out wr).mono ?_
    rintro e w1 ⟨rfl, hB⟩
    have k2 := keptBelow hB k2
    have k3 := keptBelow hB k3
    have HB1 := Lib.hid (belowVia hB HBW.out)
    clear hB k0 k1
    go_wp2_with fail
    refine (HY.out w1).mono ?_
    rintro e w2 ⟨rfl, hB⟩
    have HB2 := Lib.hid (belowVia hB HB1.out)
    clear hB
    go_wp2_with fail
    try simp only [Exit.jump]
    go_ret
    exact ⟨rfl, HB2.out⟩
theorem compare_q (x1 x2 y1 y2 : ByteArray) (hx1 : Sized x1) (hx2 : Sized x2) (hy1 : Sized y1) (hy2 : Sized y2) (W : World) :
    Calls Tryz.prog 15 #[.agg #[.string x1, .string x2], .agg #[.string y1, .string y2]] W fun e w' => e = .returned (.int .i64 (cmpO (readQ x1 x2) (readQ y1 y2))) ∧ Below W.heap.size W w' := by
  have hx := fun W => valid_q x1 x2 hx1 hx2 W
  have hy := fun W => valid_q y1 y2 hy1 hy2 W
  rcases readQ_isSome (n := x1) (d := x2) with h1 | ⟨p, h1, rfl, rfl, fp⟩
  · rw [h1] at hx ⊢
    exact compare_not x1 x2 y1 y2 _ _ rfl hx hy W
  · rcases readQ_isSome (n := y1) (d := y2) with h2 | ⟨q, h2, rfl, rfl, fq⟩
    · rw [h2] at hy ⊢
      rw [h1] at hx ⊢
      exact compare_not _ _ _ _ _ _ rfl hx hy W
    · rw [h1] at hx ⊢
      rw [h2] at hy ⊢
      exact compare_ints p.num p.den q.num q.den fp.1 fp.2 fq.1 fq.2 (den_posI p) (den_posI q) hx hy W
end Go.Proofs.YtelckldddflmmaaGreatDoor
/- RatTen: Plain mathematics of layer 4: the texts of powers of ten. Nothing of the program. -/
namespace Putlog

theorem natV_app (l : List UInt8) (c : UInt8) : natV (l ++ [c]) = 10 * natV l + (c.toNat - 48) := by
  unfold natV decT
  rw [List.reverse_append]
  simp only [List.reverse_cons, List.reverse_nil, List.nil_append, List.singleton_append, List.map_cons, leV]
  omega
def tenT (p : Nat) : List UInt8 := 49 :: List.replicate p 48
theorem tenT_succ (p : Nat) : tenT (p + 1) = tenT p ++ [48] := by
  unfold tenT
  rw [List.replicate_succ', List.cons_append]
theorem natV_ten (p : Nat) : natV (tenT p) = 10 ^ p := by
  induction p with
  | zero => decide
  | succ p ih => rw [tenT_succ, natV_app, ih, Nat.pow_succ]; simp; omega
theorem natT_ten (p : Nat) : natT (10 ^ p) = tenT p := by
  rw [← natV_ten]
  refine natT_natV (fun c hc => ?_) (by simp [tenT]) (.inr (by simp [tenT]))
  unfold tenT at hc
  rcases List.mem_cons.1 hc with rfl | hc
  · exact ⟨by decide, by decide⟩
  · rw [(List.mem_replicate.1 hc).2]; exact ⟨by decide, by decide⟩
theorem intT_ten (p : Nat) : intT (10 ^ p) = tenT p := by
  have h := pow_posI p
  unfold intT
  rw [if_neg (by omega), ten_abs, natT_ten]
theorem intB_ten (p : Nat) : intB (10 ^ p) = ⟨(tenT p).toArray⟩ := by
  show (⟨(intT (10 ^ p)).toArray⟩ : ByteArray) = _
  rw [intT_ten]
theorem fits_ten {p : Nat} (h : p < 200) : Fits (10 ^ p) := by
  unfold Fits; rw [ten_abs]; exact Nat.pow_lt_pow_right (by decide) h
theorem fits_ten_iff {p : Nat} : Fits (10 ^ p) ↔ p < 200 := by
  refine ⟨fun h => ?_, fits_ten⟩
  unfold Fits at h
  rw [ten_abs] at h
  exact (Nat.pow_lt_pow_iff_right (by decide)).1 h
end Putlog
/- IntConv: Plain mathematics of layer 3: what strconv writes and reads. Nothing of the program. -/
namespace Putlog
open Go

theorem natT_step {u : Nat} (h : 10 ≤ u) : natT u = natT (u / 10) ++ [chr10 (u % 10)] := by
  unfold natT
  rw [if_neg (by omega), if_neg (by omega), digsL_pos (by decide) (by omega)]
  simp
theorem decDigits_eq (k : Nat) : ∀ u, u ≤ k → Lib.decDigits u = natT u := by
  induction k with
  | zero =>
    intro u hu
    obtain rfl : u = 0 := by omega
    rw [Lib.decDigits]; rfl
  | succ k ih =>
    intro u hu
    rw [Lib.decDigits]
    split
    · rename_i h
      rcases Nat.eq_zero_or_pos u with rfl | h0
      · rfl
      · unfold natT
        rw [if_neg (by omega), digsL_pos (by decide) h0, Nat.div_eq_of_lt h, digsL_zero, Nat.mod_eq_of_lt h]; rfl
    · rw [ih (u / 10) (by omega), natT_step (u := u) (by omega)]; rfl
theorem itoa_eq (n : Int) : Lib.itoa n = intT n := by
  unfold Lib.itoa intT
  split
  · rw [decDigits_eq _ _ (Nat.le_refl _)]
  · rw [decDigits_eq _ _ (Nat.le_refl _), show n.toNat = n.natAbs by omega]
theorem natV_cons (c : UInt8) (r : List UInt8) : natV (c :: r) = natV r + 10 ^ r.length * (c.toNat - 48) := by
  have h : decT (c :: r) = decT r ++ [c.toNat - 48] := by simp [decT]
  have hl : (decT r).length = r.length := by simp [decT]
  rw [natV, h, leV_snoc, hl]; rfl
theorem parse_digits : ∀ (l : List UInt8) (acc : Nat), (∀ c ∈ l, IsDig c) → acc < 18446744073709551616 →
    Lib.parseUint10 acc l = if acc * 10 ^ l.length + natV l < 18446744073709551616 then .ok (acc * 10 ^ l.length + natV l) else .range
  | [], acc, _, ha => by
    have h0 : natV [] = 0 := rfl
    simp only [Lib.parseUint10, List.length_nil, Nat.pow_zero, Nat.mul_one, h0, Nat.add_zero]
    rw [if_pos ha]
  | c :: r, acc, hd, ha => by
    have hc := hd c (List.mem_cons_self ..)
    have hr : ∀ c ∈ r, IsDig c := fun x hx => hd x (List.mem_cons_of_mem _ hx)
    unfold IsDig at hc
    have hp : 0 < 10 ^ r.length := Nat.pow_pos (by decide)
    have hv : acc * 10 ^ (c :: r).length + natV (c :: r) = (acc * 10 + (c.toNat - 48)) * 10 ^ r.length + natV r := by
      rw [natV_cons, List.length_cons, Nat.pow_succ, Nat.add_mul, Nat.mul_comm (10 ^ r.length) (c.toNat - 48), Nat.mul_comm (10 ^ r.length) 10, Nat.mul_assoc]
      omega
    rw [hv]
    simp only [Lib.parseUint10]
    rw [if_pos hc]
    have hge : acc * 10 + (c.toNat - 48) ≤ (acc * 10 + (c.toNat - 48)) * 10 ^ r.length := Nat.le_mul_of_pos_right _ hp
    split
    · rw [if_neg (by omega)]
    · split
      · rw [if_neg (by omega)]
      · rw [parse_digits r _ hr (by omega)]
theorem parse_nat (u : Nat) : Lib.parseMag (natT u) = if u < 18446744073709551616 then .ok u else .range := by
  unfold Lib.parseMag
  rw [if_neg (natT_ne u), parse_digits _ _ (natT_dig u) (by decide), natT_val]
  simp
theorem head_dig (u : Nat) : ∃ c r, natT u = c :: r ∧ IsDig c := by
  cases h : natT u with
  | nil => exact absurd h (natT_ne u)
  | cons c r => exact ⟨c, r, rfl, natT_dig u c (by rw [h]; exact List.mem_cons_self ..)⟩
theorem atoi_eq (z : Int) : Lib.atoiAll (intT z) = if -9223372036854775808 ≤ z ∧ z ≤ 9223372036854775807 then .ok z else .range := by
  unfold intT
  by_cases h : z < 0
  · rw [if_pos h]
    have h45 : (45 : UInt8).toNat = 45 := rfl
    unfold Lib.atoiAll
    simp only [h45, or_true, if_true, true_and, not_true_eq_false, false_and, if_false]
    rw [parse_nat]
    by_cases hu : z.natAbs < 18446744073709551616
    · rw [if_pos hu]
      simp only
      by_cases h2 : 9223372036854775808 < z.natAbs
      · rw [if_pos h2, if_neg (by omega)]
      · rw [if_neg h2, if_pos (by omega)]
        congr 1; omega
    · rw [if_neg hu, if_neg (by omega)]
  · rw [if_neg h]
    obtain ⟨c, r, hcr, hc⟩ := head_dig z.natAbs
    unfold IsDig at hc
    have hp := parse_nat z.natAbs
    rw [hcr] at hp ⊢
    have h43 : ¬ c.toNat = 43 := by omega
    have h45 : ¬ c.toNat = 45 := by omega
    unfold Lib.atoiAll
    simp only [h43, h45, or_self, if_false, hp, false_and, not_false_eq_true, true_and]
    by_cases hu : z.natAbs < 18446744073709551616
    · rw [if_pos hu]
      simp only
      by_cases h2 : 9223372036854775808 ≤ z.natAbs
      · rw [if_pos h2, if_neg (by omega)]
      · rw [if_neg h2, if_pos (by omega)]
        congr 1; omega
    · rw [if_neg hu, if_neg (by omega)]
end Putlog
/- IntFrom: The contract of FromInt. -/
namespace Go.Proofs.YtelckldddflmmaaGreatDoor
open Go.RowKit Putlog

/-- The table of the library that the conversion reads. -/
structure TabP (W : World) : Prop where
  tab : Lib.TabIs Tryz.prog W "internal/strconv.uint64pow10" .u64 Lib.pow10Tab
  size : 1 < W.heap.size
theorem gPow : Tryz.prog.globalNamed "internal/strconv.uint64pow10" = some 1 := by kernel_rfl
theorem TabP.via {w w' : World} (hB : Below w.heap.size w w') (h : TabP w) : TabP w' :=
  ⟨var?_below hB gPow h.size h.tab, Nat.lt_of_lt_of_le h.size hB.size⟩
set_option maxRecDepth 100000 in
set_option maxHeartbeats 2000000 in
theorem fromP_any (n : Int) (h0 : -9223372036854775808 ≤ n) (h1 : n ≤ 9223372036854775807) (w : World) (hT : TabP w) :
    Calls Tryz.prog 56 #[.int .i64 n] w fun e w' => e = .returned (.string (intB n)) ∧ Below w.heap.size w w' := by
  have h := Tryz.strconv_Itoa n h0 h1 w hT.tab
  rw [itoa_eq] at h
  have HI : Hid (Calls Tryz.prog 89 #[.int .i64 n] w fun e w' => e = .returned (.string (intB n)) ∧ Below w.heap.size w w') := h.mono fun e w' ⟨h1, k, os, h2⟩ => ⟨h1, by rw [h2]; exact Lib.below_grow _ _ (Nat.le_refl _) _ _⟩
  clear h h0 h1 hT
  go_enter Tryz.func56, Tryz.ntmps56
  go_wp2_with fail
  refine HI.out.mono ?_
  rintro e w1 ⟨rfl, hB⟩
  go_wp2_with fail
  go_ret
  exact ⟨rfl, hB⟩
def InInt (z : Int) : Prop := -9223372036854775808 ≤ z ∧ z ≤ 9223372036854775807
end Go.Proofs.YtelckldddflmmaaGreatDoor
/- RatRound: The contracts of Of, Down and Up. -/
namespace Go.Proofs.YtelckldddflmmaaGreatDoor
open Go.RowKit Putlog

theorem fits_int {n : Int} (h0 : -9223372036854775808 ≤ n) (h1 : n ≤ 9223372036854775807) : Fits n :=
  Nat.lt_of_lt_of_le (show n.natAbs < 10 ^ 19 by omega) (Nat.pow_le_pow_right (by decide) (by decide))
set_option maxRecDepth 100000 in
set_option maxHeartbeats 4000000 in
theorem of_q (n d : Int) (hn0 : -9223372036854775808 ≤ n) (hn1 : n ≤ 9223372036854775807) (hd0 : -9223372036854775808 ≤ d) (hd1 : d ≤ 9223372036854775807) (W : World) (hT : TabP W) :
    Calls Tryz.prog 26 #[.int .i64 n, .int .i64 d] W (GivesQ (makeQ (some n) (some d)) W) := by
  have fn := fits_int hn0 hn1
  have fd := fits_int hd0 hd1
  have HM := Lib.hid (fun W => make_q (intB n) (intB d) (sized_fits fn) (sized_fits fd) W)
  have HFN := Lib.hid (fun W h => fromP_any n hn0 hn1 W h)
  have HFD := Lib.hid (fun W h => fromP_any d hd0 hd1 W h)
  rw [readI_int fn, readI_int fd] at HM
  generalize makeQ (some n) (some d) = o at *
  generalize intB n = x at *
  generalize intB d = y at *
  have HT := Lib.hid hT
  clear fn fd hn0 hn1 hd0 hd1 hT
  go_enter Tryz.func26, Tryz.ntmps26
  go_wp2_with fail
  have h1 := heap_alloc_new W (.cells #[.string ⟨#[]⟩, .string ⟨#[]⟩] 23)
  have b1 := alloc_below W (.cells #[.string ⟨#[]⟩, .string ⟨#[]⟩] 23)
  generalize W.alloc (.cells #[.string ⟨#[]⟩, .string ⟨#[]⟩] 23) = w1 at *
  have HT1 := Lib.hid (HT.out.via b1)
  refine (HFN.out w1 HT1.out).mono ?_
  rintro e w2 ⟨rfl, hB⟩
  have HT2 := Lib.hid (HT1.out.via hB)
  have HH2 := Lib.hid (heap_below hB h1)
  have HB2 := Lib.hid (belowVia hB b1)
  clear hB h1 b1
  go_wp2_with fail
  refine (HFD.out w2 HT2.out).mono ?_
  rintro e w3 ⟨rfl, hB⟩
  have HH3 := Lib.hid (heap_below hB HH2.out)
  have HB3 := Lib.hid (belowVia hB HB2.out)
  clear hB
  go_wp2_with fail
  refine (HM.out w3).mono ?_
  rintro e w4 ⟨rfl, hB⟩
  have HRB4 : Hid (ResBox W.heap.size w4) := ⟨heap_below hB HH3.out⟩
  have HB4 := Lib.hid (belowVia hB HB3.out)
  obtain ⟨q1, p1⟩ := cell2 HRB4.out.heap
  obtain ⟨q2, p2⟩ := cell2b HRB4.out.heap
  clear hB
  go_wp2_with fail
  refine bodyPost_ret (results_qe rfl _ _ W.heap.size _ _ rfl (HRB4.out.set _ _)) rfl ?_
  exact ⟨rfl, below_set2 HB4.out (Nat.le_refl _) _ _⟩
/-- The step that divides. -/
def divT (sc n rest : Nat) (den : ByteArray) (s : Nat → ByteArray) : (Nat → ByteArray) × Int := (upd (upd s n (divS (s sc) den).1) rest (divS (s sc) den).2.1, (divS (s sc) den).2.2)
set_option maxRecDepth 100000 in
set_option maxHeartbeats 4000000 in
theorem div1_any (x den q r : ByteArray) (k : Int) (sc rb n rest : Nat) (W : World)
    (hop : ∀ W, Calls Tryz.prog 42 #[.string x, .string den] W fun e w' => e = .returned (.tuple #[.string q, .string r, .int .i64 k]) ∧ Below W.heap.size W w')
    (h1 : W.cell? ⟨sc, 0, none⟩ = some (.string x)) (h2 : W.cell? ⟨rb, 1, none⟩ = some (.string den)) (v0 v1 : Value) (hn : W.cell? ⟨n, 0, none⟩ = some v0) (hnf : W.frozen? ⟨n, 0, none⟩ = false) (hr : W.cell? ⟨rest, 0, none⟩ = some v1) (hrf : W.frozen? ⟨rest, 0, none⟩ = false) (hne : rest ≠ n) :
    Calls Tryz.prog 79 #[.pointer (some ⟨sc, 0, none⟩), .pointer (some ⟨rb, 0, none⟩), .pointer (some ⟨n, 0, none⟩), .pointer (some ⟨rest, 0, none⟩)] W fun e W' => e = .returned (.int .i64 k) ∧ ∃ W1, Below W.heap.size W W1 ∧ W' = (W1.setCell ⟨n, 0, none⟩ (.string q)).setCell ⟨rest, 0, none⟩ (.string r) := by
  have HO := Lib.hid hop
  clear hop
  go_enter Tryz.func79, Tryz.ntmps79
  go_wp2_with fail
  refine (HO.out W).mono ?_
  rintro e w1 ⟨rfl, hB⟩
  have c1 := keptBelow hB hn
  have c2 := frozenBelow hB hn hnf
  have c3 := keptBelow hB hr
  have c4 := frozenBelow hB hr hrf
  have HB := Lib.hid hB
  have c5 := cellOther (g := n) (j := 0) (v := .string q) c3 hne
  clear hB h1 h2 hn hnf hr hrf
  go_wp2_with fail
  go_ret
  exact ⟨rfl, _, HB.out, rfl⟩
theorem div_step {V : List Nat} {K : World} {sc rb n rest : Nat} {den : ByteArray} (hsc : sc ∈ V) (hn : n ∈ V) (hr : rest ∈ V) (hne : rest ≠ n) (hd : K.cell? ⟨rb, 1, none⟩ = some (.string den)) (hrb : rb ∉ V) (hs : Sized den) :
    Step V K (.func (.func 79) #[] #[.pointer (some ⟨sc, 0, none⟩), .pointer (some ⟨rb, 0, none⟩), .pointer (some ⟨n, 0, none⟩), .pointer (some ⟨rest, 0, none⟩)]) (divT sc n rest den) := by
  refine ⟨fun s p hp => ?_, _, _, rfl, enters_of Tryz.func79 (by kernel_rfl) rfl, fun s W hk hv => ?_⟩
  · show upd (upd s n _) rest _ p = s p
    rw [upd_other _ _ (fun e => hp (by rw [e]; exact hr)), upd_other _ _ (fun e => hp (by rw [e]; exact hn))]
  · obtain ⟨hc, hf⟩ := cell_one (hv.cell n hn)
    obtain ⟨hc2, hf2⟩ := cell_one (hv.cell rest hr)
    refine (div1_any (s sc) den (divS (s sc) den).1 (divS (s sc) den).2.1 (divS (s sc) den).2.2 sc rb n rest W (fun W => div_str (s sc) den W (hv.sized sc hsc) hs) (cell_one (hv.cell sc hsc)).1 (hk.cell hd hrb) _ _ hc hf hc2 hf2 hne).mono ?_
    rintro e W' ⟨rfl, W1, hB, rfl⟩
    have hz := sized_divS (s sc) den
    exact ⟨rfl, ((KeptV.of_below hB).set hn _).set hr _, ((hv.via hB).set hn hz.1).set hr hz.2⟩
end Go.Proofs.YtelckldddflmmaaGreatDoor
/- RatDown: The contracts of rounded, Down and Up. -/
namespace Go.Proofs.YtelckldddflmmaaGreatDoor
open Go.RowKit Putlog

theorem rep_eq (p : Nat) : Lib.repeatL (⟨#[48]⟩ : ByteArray).data.toList p = List.replicate p 48 := by
  have h := Lib.repeatL_replicate 48 1 p
  rw [Nat.mul_one] at h
  exact h
theorem rep_size (p : Nat) : (⟨(Lib.repeatL (⟨#[48]⟩ : ByteArray).data.toList p).toArray⟩ : ByteArray).size = p := by
  rw [rep_eq]; show (List.replicate p (48 : UInt8)).toArray.size = p
  simp
theorem ten_eq (p : Nat) : (⟨#[49]⟩ : ByteArray) ++ ⟨(Lib.repeatL (⟨#[48]⟩ : ByteArray).data.toList p).toArray⟩ = intB (10 ^ p) := by
  rw [rep_eq, intB_ten]
  apply ByteArray.ext
  rw [ByteArray.data_append]
  apply Array.toList_inj.1
  simp [tenT]
/-- What is asked of a way to round. -/
structure RoundOp (F : ByteArray → ByteArray → ByteArray × Int) (Q : Option Rat → Int → Option Rat) : Prop where
  none : ∀ p, Q none p = none
  small : ∀ o p, p < 0 → Q o p = Option.none
  big : ∀ o p, 30 < p → Q o p = Option.none
  no : ∀ r (p : Nat), ¬ Fits (r.num * 10 ^ p) → Q (some r) p = Option.none
  val : ∀ (r : Rat) (p : Nat), FitsQ r → p ≤ 30 → Fits (r.num * 10 ^ p) →
    (∃ z, F (intB (r.num * 10 ^ p / r.den)) (intB (r.num * 10 ^ p % r.den)) = (intB z, 0) ∧ Fits z ∧ Q (some r) p = makeQ (some z) (some (10 ^ p))) ∨
    ((F (intB (r.num * 10 ^ p / r.den)) (intB (r.num * 10 ^ p % r.den))).2 ≠ 0 ∧ Q (some r) p = Option.none)
theorem downQ_some {r : Rat} {p : Nat} (h : okDown r p) : downQ (some r) p = makeQ (some (downI r p)) (some (10 ^ p)) := by
  rw [downQ_ok h, makeQ_ok (Int.ne_of_gt (pow_posI p))]; rfl
theorem upQ_some {r : Rat} {p : Nat} (h : okUp r p) : upQ (some r) p = makeQ (some (upI r p)) (some (10 ^ p)) := by
  rw [upQ_ok h, makeQ_ok (Int.ne_of_gt (pow_posI p))]; rfl
theorem downQ_no {r : Rat} {p : Int} (h : ¬ (0 ≤ p ∧ okDown r p.toNat)) : downQ (some r) p = none := if_neg h
theorem upQ_no {r : Rat} {p : Int} (h : ¬ (0 ≤ p ∧ okUp r p.toNat)) : upQ (some r) p = none := if_neg h
theorem round_down : RoundOp downF downQ where
  none := fun _ => rfl
  small := fun o p h => by cases o with | none => rfl | some r => exact downQ_no (fun k => by omega)
  big := fun o p h => by cases o with | none => rfl | some r => exact downQ_no (fun k => by have := k.2.1; omega)
  no := fun r p h => downQ_no (fun k => h (by have := k.2.2; simpa using this))
  val := fun r p fr hp h => .inl ⟨_, rfl, Nat.lt_of_le_of_lt (Int.natAbs_ediv_le_natAbs _ _) h, downQ_some ⟨hp, h⟩⟩
theorem round_up : RoundOp upF upQ where
  none := fun _ => rfl
  small := fun o p h => by cases o with | none => rfl | some r => exact upQ_no (fun k => by omega)
  big := fun o p h => by cases o with | none => rfl | some r => exact upQ_no (fun k => by have := k.2.1.1; omega)
  no := fun r p h => upQ_no (fun k => h (by have := k.2.1.2; simpa using this))
  val := fun r p fr hp h => by
    have fq : Fits (r.num * 10 ^ p / r.den) := Nat.lt_of_le_of_lt (Int.natAbs_ediv_le_natAbs _ _) h
    unfold upF
    by_cases hz : r.num * 10 ^ p % r.den = 0
    · have hu : upI r p = r.num * 10 ^ p / r.den := if_pos hz
      rw [if_pos ((is_zero _).2 hz)]
      exact .inl ⟨_, rfl, fq, by rw [← hu]; exact upQ_some ⟨⟨hp, h⟩, by rw [hu]; exact fq⟩⟩
    · have hu : upI r p = r.num * 10 ^ p / r.den + 1 := if_neg hz
      rw [if_neg (fun e => hz ((is_zero _).1 e)), ← intB_one, op2_ints fq (by decide)]
      unfold addF
      by_cases hf : Fits (r.num * 10 ^ p / r.den + 1)
      · rw [okS_fits hf, okE_fits hf]
        exact .inl ⟨_, rfl, hf, by rw [← hu]; exact upQ_some ⟨⟨hp, h⟩, by rw [hu]; exact hf⟩⟩
      · exact .inr ⟨okE_no hf, upQ_no (fun k => hf (by have := k.2.2; rw [← hu]; simpa using this))⟩
theorem round_pure {F : ByteArray → ByteArray → ByteArray × Int} {Q : Option Rat → Int → Option Rat} (H : RoundOp F Q) {t sc n rest c p : Nat} (hp : p ≤ 30) (h1 : t ≠ sc) (h2 : t ≠ n) (h3 : t ≠ rest) (h4 : n ≠ rest) (hcn : c ≠ n) (hct : c ≠ t) (x1 x2 : ByteArray) (s : Nat → ByteArray) (ht : s t = intB (10 ^ p)) :
    doneT (builtT [checkT (okAll [(x1, x2)]), setT sc (op2 mulF) (fun _ => x1) (fun s => s t), divT sc n rest x2, setT n F (fun s => s n) (fun s => s rest)] n t c s) n t = resT (Q (readQ x1 x2) p) := by
  have ft : Fits (10 ^ p) := fits_ten (by omega)
  rw [okAll_one]
  rcases readQ_isSome (n := x1) (d := x2) with e1 | ⟨r, e1, rfl, rfl, fr⟩
  · rw [e1, H.none]; exact built_err (seq_err (show (40 : Int) ≠ 0 by decide))
  · rw [e1, show (some r).isSome = true from rfl]
    by_cases c1 : Fits (r.num * 10 ^ p)
    · have hd : (r.den : Int) ≠ 0 := by have := den_posI r; omega
      have a1 : setT sc (op2 mulF) (fun _ => intB r.num) (fun s => s t) s = (upd s sc (intB (r.num * 10 ^ p)), 0) := set_eq rfl ht (mul_fits fr.1 ft c1)
      have a2 : divT sc n rest (intB r.den) (upd s sc (intB (r.num * 10 ^ p))) = (upd (upd (upd s sc (intB (r.num * 10 ^ p))) n (intB (r.num * 10 ^ p / r.den))) rest (intB (r.num * 10 ^ p % r.den)), 0) := by
        unfold divT; rw [upd_same, divS_ints c1 fr.2 hd]
      have b1 : (upd (upd (upd s sc (intB (r.num * 10 ^ p))) n (intB (r.num * 10 ^ p / r.den))) rest (intB (r.num * 10 ^ p % r.den))) n = intB (r.num * 10 ^ p / r.den) := (upd_other _ _ h4).trans (upd_same ..)
      have b2 : (upd (upd (upd s sc (intB (r.num * 10 ^ p))) n (intB (r.num * 10 ^ p / r.den))) rest (intB (r.num * 10 ^ p % r.den))) rest = intB (r.num * 10 ^ p % r.den) := upd_same ..
      rcases H.val r p fr hp c1 with ⟨z, e, fz, hq⟩ | ⟨e, hq⟩
      · rw [hq, built_ok (Ne.symm h2) hcn hct (s1 := upd (upd (upd (upd s sc (intB (r.num * 10 ^ p))) n (intB (r.num * 10 ^ p / r.den))) rest (intB (r.num * 10 ^ p % r.den))) n (intB z)) (by
          rw [seq_step (check_ok s), seq_step a1, seq_step a2, seq_step (set_eq b1 b2 e)]; rfl)]
        rw [upd_same, upd_other _ _ h2, upd_other _ _ h3, upd_other _ _ h2, upd_other _ _ h1, ht, readI_int fz, readI_int ft]
      · rw [hq]
        refine built_err ?_
        rw [seq_step (check_ok s), seq_step a1, seq_step a2]
        refine seq_err ?_
        rw [set_eq b1 b2 rfl]; exact e
    · rw [H.no r p c1]
      refine built_err ?_
      rw [seq_step (check_ok s)]
      refine seq_err ?_
      rw [set_eq rfl ht (mul_ints fr.1 ft)]; exact okE_no c1
set_option maxRecDepth 100000 in
set_option maxHeartbeats 4000000 in
theorem rounded_in {h : Nat} {F : ByteArray → ByteArray → ByteArray × Int} {Q : Option Rat → Int → Option Rat} (hop : Op2 h F) (hso : RoundOp F Q) (x1 x2 : ByteArray) (hx1 : Sized x1) (hx2 : Sized x2) (p : Nat) (hpp : p ≤ 30) (W : World) :
    Calls Tryz.prog 47 #[.agg #[.string x1, .string x2], .int .i64 p, .func (.func h) #[] #[]] W (GivesQ (Q (readQ x1 x2) p) W) := by
  have X1 := Lib.hid hx1
  have X2 := Lib.hid hx2
  have HSO := Lib.hid hso
  have HOP := Lib.hid hop
  obtain ⟨o, ho⟩ : ∃ o, o = Q (readQ x1 x2) p := ⟨_, rfl⟩
  rw [← ho]
  have HO := Lib.hid ho
  have hp0 : (0 : Int) ≤ p := by omega
  have hp1 : (p : Int) ≤ 30 := by omega
  have hp2 : decide ((p : Int) < 0) = false := by simp
  have hp3 : decide ((30 : Int) < p) = false := by simp; omega
  have HREP := Lib.hid (fun W => Tryz.strings_Repeat ⟨#[48]⟩ p W (by omega) (by show 1 * p ≤ _; omega))
  have hsz := rep_size p
  have HTEN := Lib.hid (ten_eq p)
  generalize (⟨(Lib.repeatL (⟨#[48]⟩ : ByteArray).data.toList p).toArray⟩ : ByteArray) = T at *
  have ht1 : (⟨#[49]⟩ : ByteArray).size = 1 := rfl
  have HPP := Lib.hid hpp
  have hT : (T.size : Int) ≤ 30 := by omega
  clear hx1 hx2 ho hso hop hpp hsz
  go_enter Tryz.func47, Tryz.ntmps47
  go_wp2_with fail
  have zr := alloc_size W (.cells #[.string x1, .string x2] 23)
  have hr := heap_alloc_new W (.cells #[.string x1, .string x2] 23)
  have br := alloc_below W (.cells #[.string x1, .string x2] 23)
  generalize W.alloc (.cells #[.string x1, .string x2] 23) = w1 at *
  have hq := heap_alloc_new w1 (.cells #[.string ⟨#[]⟩, .string ⟨#[]⟩] 23)
  have zq := alloc_size w1 (.cells #[.string ⟨#[]⟩, .string ⟨#[]⟩] 23)
  have bq := alloc_below w1 (.cells #[.string ⟨#[]⟩, .string ⟨#[]⟩] 23)
  generalize w1.alloc (.cells #[.string ⟨#[]⟩, .string ⟨#[]⟩] 23) = w2 at *
  rw [zr] at hq
  have hr2 := heap_below bq hr
  have BW2 := Lib.hid (belowVia bq br)
  have zz : w2.heap.size = W.heap.size + 1 + 1 := by rw [zq, zr]
  clear hr br zr zq bq
  refine (HREP.out w2).mono ?_
  rintro e w3 ⟨rfl, hB⟩
  have hr3 := heap_below hB hr2
  have hq3 := heap_below hB hq
  have hlt : W.heap.size + 1 < w3.heap.size := by have := hB.size; omega
  have BW3 := Lib.hid (belowVia hB BW2.out)
  clear hB hr2 hq zz
  have k0 : ∀ o1 o2 o3 o4, ((((w3.alloc o1).alloc o2).alloc o3).alloc o4).cell? ⟨W.heap.size, 0, none⟩ = some (.string x1) := fun o1 o2 o3 o4 => cellA o4 (cellA o3 (cellA o2 (cellA o1 (cell2 hr3).1)))
  have k1 : ∀ o1 o2 o3 o4, ((((w3.alloc o1).alloc o2).alloc o3).alloc o4).cell? ⟨W.heap.size, 1, none⟩ = some (.string x2) := fun o1 o2 o3 o4 => cellA o4 (cellA o3 (cellA o2 (cellA o1 (cell2b hr3).1)))
  have HR3 := Lib.hid hr3
  have HQ3 := Lib.hid hq3
  have HLW := Lib.hid hlt
  clear hr3 hq3 hlt
  go_wp2_with fail
  generalize ((⟨#[49]⟩ : ByteArray) ++ T) = T1 at *
  have HLW := HLW.out
  have z1 := alloc_size w3 (.cells #[.string T1] 9)
  have h1 := heap_alloc_new w3 (.cells #[.string T1] 9)
  have b1 := alloc_below w3 (.cells #[.string T1] 9)
  generalize w3.alloc (.cells #[.string T1] 9) = w4 at *
  have z2 := alloc_size w4 (.cells #[.string ⟨#[]⟩] 9)
  have h2 := heap_alloc_new w4 (.cells #[.string ⟨#[]⟩] 9)
  have b2 := alloc_below w4 (.cells #[.string ⟨#[]⟩] 9)
  generalize w4.alloc (.cells #[.string ⟨#[]⟩] 9) = w5 at *
  have z3 := alloc_size w5 (.cells #[.string ⟨#[]⟩] 9)
  have h3 := heap_alloc_new w5 (.cells #[.string ⟨#[]⟩] 9)
  have b3 := alloc_below w5 (.cells #[.string ⟨#[]⟩] 9)
  generalize w5.alloc (.cells #[.string ⟨#[]⟩] 9) = w6 at *
  have z4 := alloc_size w6 (.cells #[.string ⟨#[]⟩] 9)
  have h4 := heap_alloc_new w6 (.cells #[.string ⟨#[]⟩] 9)
  have b4 := alloc_below w6 (.cells #[.string ⟨#[]⟩] 9)
  generalize w6.alloc (.cells #[.string ⟨#[]⟩] 9) = w7 at *
  have z5 := alloc_size w7 (.cells #[.string x1, .string x2] 23)
  have h5 := heap_alloc_new w7 (.cells #[.string x1, .string x2] 23)
  have b5 := alloc_below w7 (.cells #[.string x1, .string x2] 23)
  generalize w7.alloc (.cells #[.string x1, .string x2] 23) = w8 at *
  rw [z1] at h2
  rw [z2, z1] at h3
  rw [z3, z2, z1] at h4
  rw [z4, z3, z2, z1] at h5
  have g0 := heap_below b5 (heap_below b4 (heap_below b3 (heap_below b2 (h1))))
  have g1 := heap_below b5 (heap_below b4 (heap_below b3 (h2)))
  have g2 := heap_below b5 (heap_below b4 (h3))
  have g3 := heap_below b5 (h4)
  have g4 := h5
  have HBN := Lib.hid (belowVia b5 (belowVia b4 (belowVia b3 (belowVia b2 (b1)))))
  have HSZ : w8.heap.size = w3.heap.size + 1 + 1 + 1 + 1 + 1 := by rw [z5, z4, z3, z2, z1]
  clear z1 h1 b1 z2 h2 b2 z3 h3 b3 z4 h4 b4 z5 h5 b5
  have HLT : Hid (∀ p, p ∈ [w3.heap.size, w3.heap.size + 1, w3.heap.size + 1 + 1, w3.heap.size + 1 + 1 + 1] → p < w8.heap.size) := fun p hp => by
    simp only [List.mem_cons, List.not_mem_nil, or_false] at hp; omega
  have HGE : Hid (∀ p, p ∈ [w3.heap.size, w3.heap.size + 1, w3.heap.size + 1 + 1, w3.heap.size + 1 + 1 + 1] → W.heap.size ≤ p) := fun p hp => by
    simp only [List.mem_cons, List.not_mem_nil, or_false] at hp; omega
  have NA : Hid (W.heap.size ∉ [w3.heap.size, w3.heap.size + 1, w3.heap.size + 1 + 1, w3.heap.size + 1 + 1 + 1]) := fun hp => by
    simp only [List.mem_cons, List.not_mem_nil, or_false] at hp; omega
  have NR : Hid (W.heap.size + 1 ∉ [w3.heap.size, w3.heap.size + 1, w3.heap.size + 1 + 1, w3.heap.size + 1 + 1 + 1]) := fun hp => by
    simp only [List.mem_cons, List.not_mem_nil, or_false] at hp; omega
  have NG : Hid (w3.heap.size + 1 + 1 + 1 + 1 ∉ [w3.heap.size, w3.heap.size + 1, w3.heap.size + 1 + 1, w3.heap.size + 1 + 1 + 1]) := fun hp => by
    simp only [List.mem_cons, List.not_mem_nil, or_false] at hp; omega
  have fp := fits_ten (p := p) (by have := HPP.out; omega)
  have HVS : Hid (VarsAt [w3.heap.size, w3.heap.size + 1, w3.heap.size + 1 + 1, w3.heap.size + 1 + 1 + 1] (fun q => if q = w3.heap.size then T1 else ⟨#[]⟩) w8) := by
    refine ⟨fun p hp => ?_, fun p hp => ?_⟩
    · simp only [List.mem_cons, List.not_mem_nil, or_false] at hp
      rcases hp with rfl | rfl | rfl | rfl
      · rw [if_pos rfl]; exact g0
      · rw [if_neg (by omega)]; exact g1
      · rw [if_neg (by omega)]; exact g2
      · rw [if_neg (by omega)]; exact g3
    · split
      · rw [HTEN.out]; exact sized_fits fp
      · exact sized_nil
  have hr8 := heap_below HBN.out HR3.out
  have HRB : Hid (ResBox (W.heap.size + 1) w8) := ⟨heap_below HBN.out HQ3.out⟩
  have HBW := Lib.hid (belowVia HBN.out BW3.out)
  have RA := Lib.hid (Reads.const (V := [w3.heap.size, w3.heap.size + 1, w3.heap.size + 1 + 1, w3.heap.size + 1 + 1 + 1]) (cell2 hr8).1 NA.out X1.out)
  have DS := Lib.hid (div_step (V := [w3.heap.size, w3.heap.size + 1, w3.heap.size + 1 + 1, w3.heap.size + 1 + 1 + 1]) (sc := w3.heap.size + 1) (n := w3.heap.size + 1 + 1) (rest := w3.heap.size + 1 + 1 + 1) (by simp) (by simp) (by simp) (by omega) (cell2b hr8).1 NA.out X2.out)
  have HF : Hid (FracsAt w8 (w3.heap.size + 1 + 1 + 1 + 1) [(x1, x2)]) := fun j q hj => by
    match j with
    | 0 => cases hj; exact ⟨(cell_of_row w8 _ 0 _ _ _ g4).trans rfl, (cell_of_row w8 _ 1 _ _ _ g4).trans rfl⟩
    | j + 1 => simp at hj
  have HLS : Hid (∀ q ∈ [(x1, x2)], Sized q.1 ∧ Sized q.2) := fun q hq => by
    simp only [List.mem_cons, List.not_mem_nil, or_false] at hq
    subst hq
    exact ⟨X1.out, X2.out⟩
  have HFIN : Hid (∀ c, c ∉ [w3.heap.size, w3.heap.size + 1, w3.heap.size + 1 + 1, w3.heap.size + 1 + 1 + 1] → doneT (builtT [checkT (okAll [(x1, x2)]), setT (w3.heap.size + 1) (op2 mulF) (fun _ => x1) (fun s => s w3.heap.size), divT (w3.heap.size + 1) (w3.heap.size + 1 + 1) (w3.heap.size + 1 + 1 + 1) x2, setT (w3.heap.size + 1 + 1) F (fun s => s (w3.heap.size + 1 + 1)) (fun s => s (w3.heap.size + 1 + 1 + 1))] (w3.heap.size + 1 + 1) w3.heap.size c (upd (fun q => if q = w3.heap.size then T1 else ⟨#[]⟩) c ⟨#[]⟩)) (w3.heap.size + 1 + 1) w3.heap.size = resT o) := fun c hc => by
    simp only [List.mem_cons, List.not_mem_nil, or_false, not_or] at hc
    rw [HO.out]
    exact round_pure HSO.out HPP.out (by omega) (by omega) (by omega) (by omega) hc.2.2.1 hc.1 x1 x2 _ (by rw [upd_other _ _ (Ne.symm hc.1), if_pos rfl, HTEN.out])
  clear g0 g1 g2 g3 g4 HSZ hr8 fp k0 k1 HLW ht1 hT
  refine (fractions_step (V := [w3.heap.size, w3.heap.size + 1, w3.heap.size + 1 + 1, w3.heap.size + 1 + 1 + 1]) (l := [(x1, x2)]) HF.out NG.out HLS.out (by simp) 1 HLT.out).mono ?_
  rintro e w9 ⟨⟨v0, rfl, s0⟩, hB⟩
  have S0 := Lib.hid s0
  have HB9 := Lib.hid hB
  have HV9 := Lib.hid (lt_via HLT.out hB)
  obtain ⟨f0, j0, rfl⟩ := s0.form
  clear hB s0
  go_wp2_with fail
  refine (set_step op2_mul HV9.out (by simp) (RA.out.via HB9.out) (Reads.var (by simp))).mono ?_
  rintro e w10 ⟨⟨v1, rfl, s1⟩, hB⟩
  have S1 := Lib.hid s1
  have HB10 := Lib.hid hB
  have HV10 := Lib.hid (lt_via HV9.out hB)
  obtain ⟨f1, j1, rfl⟩ := s1.form
  clear hB s1
  go_wp2_with fail
  refine (set_step HOP.out HV10.out (by simp) (Reads.var (by simp)) (Reads.var (by simp))).mono ?_
  rintro e w11 ⟨⟨v3, rfl, s3⟩, hB⟩
  have S3 := Lib.hid s3
  have HB11 := Lib.hid hB
  have HV11 := Lib.hid (lt_via HV10.out hB)
  obtain ⟨f3, j3, rfl⟩ := s3.form
  clear hB s3
  go_wp2_with fail
  have HR := Lib.hid (alloc_below w11 (.cells #[.func (.func f0) #[] j0, .func (.func f1) #[] j1, .func (.func 79) #[] #[.pointer (some ⟨w3.heap.size + 1, 0, none⟩), .pointer (some ⟨W.heap.size, 0, none⟩), .pointer (some ⟨w3.heap.size + 1 + 1, 0, none⟩), .pointer (some ⟨w3.heap.size + 1 + 1 + 1, 0, none⟩)], .func (.func f3) #[] j3] 72))
  have r0 := cell_rowN w11 #[.func (.func f0) #[] j0, .func (.func f1) #[] j1, .func (.func 79) #[] #[.pointer (some ⟨w3.heap.size + 1, 0, none⟩), .pointer (some ⟨W.heap.size, 0, none⟩), .pointer (some ⟨w3.heap.size + 1 + 1, 0, none⟩), .pointer (some ⟨w3.heap.size + 1 + 1 + 1, 0, none⟩)], .func (.func f3) #[] j3] 72 0 rfl
  have r1 := cell_rowN w11 #[.func (.func f0) #[] j0, .func (.func f1) #[] j1, .func (.func 79) #[] #[.pointer (some ⟨w3.heap.size + 1, 0, none⟩), .pointer (some ⟨W.heap.size, 0, none⟩), .pointer (some ⟨w3.heap.size + 1 + 1, 0, none⟩), .pointer (some ⟨w3.heap.size + 1 + 1 + 1, 0, none⟩)], .func (.func f3) #[] j3] 72 1 rfl
  have r2 := cell_rowN w11 #[.func (.func f0) #[] j0, .func (.func f1) #[] j1, .func (.func 79) #[] #[.pointer (some ⟨w3.heap.size + 1, 0, none⟩), .pointer (some ⟨W.heap.size, 0, none⟩), .pointer (some ⟨w3.heap.size + 1 + 1, 0, none⟩), .pointer (some ⟨w3.heap.size + 1 + 1 + 1, 0, none⟩)], .func (.func f3) #[] j3] 72 2 rfl
  have r3 := cell_rowN w11 #[.func (.func f0) #[] j0, .func (.func f1) #[] j1, .func (.func 79) #[] #[.pointer (some ⟨w3.heap.size + 1, 0, none⟩), .pointer (some ⟨W.heap.size, 0, none⟩), .pointer (some ⟨w3.heap.size + 1 + 1, 0, none⟩), .pointer (some ⟨w3.heap.size + 1 + 1 + 1, 0, none⟩)], .func (.func f3) #[] j3] 72 3 rfl
  have hg : w11.heap.size ∉ [w3.heap.size, w3.heap.size + 1, w3.heap.size + 1 + 1, w3.heap.size + 1 + 1 + 1] := fun e => Nat.lt_irrefl _ (HV11.out _ e)
  have HVX := Lib.hid (lt_via HV11.out HR.out)
  generalize w11.alloc (.cells #[.func (.func f0) #[] j0, .func (.func f1) #[] j1, .func (.func 79) #[] #[.pointer (some ⟨w3.heap.size + 1, 0, none⟩), .pointer (some ⟨W.heap.size, 0, none⟩), .pointer (some ⟨w3.heap.size + 1 + 1, 0, none⟩), .pointer (some ⟨w3.heap.size + 1 + 1 + 1, 0, none⟩)], .func (.func f3) #[] j3] 72) = wx at *
  have HT := Lib.hid (StepsAt.four (((S0.out.via HB10.out).via HB11.out).via HR.out) ((S1.out.via HB11.out).via HR.out) ((((DS.out.via HB9.out).via HB10.out).via HB11.out).via HR.out) (S3.out.via HR.out) hg r0 r1 r2 r3)
  have HVS2 := Lib.hid ((((HVS.out.via HB9.out).via HB10.out).via HB11.out).via HR.out)
  have HBX := Lib.hid (belowVia HR.out (belowVia HB11.out (belowVia HB10.out (belowVia HB9.out HBW.out))))
  have HRX : Hid (ResBox (W.heap.size + 1) wx) := ⟨heap_below HR.out (heap_below HB11.out (heap_below HB10.out (heap_below HB9.out HRB.out.heap)))⟩
  clear hg r0 r1 r2 r3
  refine (built_q 4 _ wx HVX.out (by simp) (by simp) HVS2.out HT.out (by simp) HFIN.out).mono ?_
  rintro e wy ⟨rfl, hk⟩
  have HRB4 : Hid (ResBox (W.heap.size + 1) wy) := ⟨hk.heap HRX.out.heap NR.out⟩
  have HB4 : Hid (Below W.heap.size W wy) := hk.below HBX.out HBX.out.size HGE.out
  obtain ⟨q1, p1⟩ := cell2 HRB4.out.heap
  obtain ⟨q2, p2⟩ := cell2b HRB4.out.heap
  clear hk
  go_wp2_with fail
  refine bodyPost_ret (results_qe rfl _ _ (W.heap.size + 1) _ _ rfl (HRB4.out.set _ _)) rfl ?_
  exact ⟨rfl, below_set2 HB4.out (by omega) _ _⟩
set_option maxRecDepth 100000 in
set_option maxHeartbeats 4000000 in
theorem rounded_out {h : Nat} (x1 x2 : ByteArray) (p : Int) (hpp : p < 0 ∨ 30 < p) (W : World) :
    Calls Tryz.prog 47 #[.agg #[.string x1, .string x2], .int .i64 p, .func (.func h) #[] #[]] W (GivesQ none W) := by
  have hb : (decide (p < 0) || decide (30 < p)) = true := by simp; omega
  have hr : ResBox (W.heap.size + 1) ((W.alloc (.cells #[.string x1, .string x2] 23)).alloc (.cells #[.string ⟨#[]⟩, .string ⟨#[]⟩] 23)) := by
    have := heap_alloc_new (W.alloc (.cells #[.string x1, .string x2] 23)) (.cells #[.string ⟨#[]⟩, .string ⟨#[]⟩] 23)
    rw [alloc_size] at this
    exact ⟨this⟩
  have HB := Lib.hid (belowVia (alloc_below (W.alloc (.cells #[.string x1, .string x2] 23)) (.cells #[.string ⟨#[]⟩, .string ⟨#[]⟩] 23)) (alloc_below W _))
  obtain ⟨q1, f1⟩ := cell2 hr.heap
  obtain ⟨q2, f2⟩ := cell2b hr.heap
  have HR := Lib.hid hr
  clear hr
  by_cases h0 : p < 0
  · clear hpp hb
    go_enter Tryz.func47, Tryz.ntmps47
    go_wp2_with fail
    refine bodyPost_ret (results_qe rfl _ _ (W.heap.size + 1) _ _ rfl HR.out.heap) rfl ?_
    exact ⟨rfl, HB.out⟩
  · have h1 : 30 < p := by omega
    have h2 : 0 ≤ p := by omega
    clear hpp h0 hb
    go_enter Tryz.func47, Tryz.ntmps47
    go_wp2_with fail
    refine bodyPost_ret (results_qe rfl _ _ (W.heap.size + 1) _ _ rfl HR.out.heap) rfl ?_
    exact ⟨rfl, HB.out⟩
theorem rounded_q {h : Nat} {F : ByteArray → ByteArray → ByteArray × Int} {Q : Option Rat → Int → Option Rat} (hop : Op2 h F) (hso : RoundOp F Q) (x1 x2 : ByteArray) (hx1 : Sized x1) (hx2 : Sized x2) (p : Int) (W : World) :
    Calls Tryz.prog 47 #[.agg #[.string x1, .string x2], .int .i64 p, .func (.func h) #[] #[]] W (GivesQ (Q (readQ x1 x2) p) W) := by
  by_cases h0 : p < 0
  · rw [hso.small _ _ h0]; exact rounded_out x1 x2 p (.inl h0) W
  · by_cases h1 : 30 < p
    · rw [hso.big _ _ h1]; exact rounded_out x1 x2 p (.inr h1) W
    · obtain ⟨k, rfl⟩ : ∃ k : Nat, p = k := ⟨p.toNat, by omega⟩
      exact rounded_in hop hso x1 x2 hx1 hx2 k (by omega) W
set_option maxRecDepth 100000 in
set_option maxHeartbeats 4000000 in
theorem down_q (x1 x2 : ByteArray) (hx1 : Sized x1) (hx2 : Sized x2) (p : Int) (W : World) :
    Calls Tryz.prog 18 #[.agg #[.string x1, .string x2], .int .i64 p] W (GivesQ (downQ (readQ x1 x2) p) W) := by
  have HC := Lib.hid (fun W => rounded_q op2_down round_down x1 x2 hx1 hx2 p W)
  generalize downQ (readQ x1 x2) p = o at *
  clear hx1 hx2
  go_enter Tryz.func18, Tryz.ntmps18
  go_wp2_with fail
  have hr : ResBox (W.heap.size + 1) ((W.alloc (.cells #[.string x1, .string x2] 23)).alloc (.cells #[.string ⟨#[]⟩, .string ⟨#[]⟩] 23)) := by
    have := heap_alloc_new (W.alloc (.cells #[.string x1, .string x2] 23)) (.cells #[.string ⟨#[]⟩, .string ⟨#[]⟩] 23)
    rw [alloc_size] at this
    exact ⟨this⟩
  have HB := Lib.hid (belowVia (alloc_below (W.alloc (.cells #[.string x1, .string x2] 23)) (.cells #[.string ⟨#[]⟩, .string ⟨#[]⟩] 23)) (alloc_below W _))
  generalize (W.alloc (.cells #[.string x1, .string x2] 23)).alloc (.cells #[.string ⟨#[]⟩, .string ⟨#[]⟩] 23) = w2 at *
  refine (HC.out w2).mono ?_
  rintro e w4 ⟨rfl, hB⟩
  have HRB4 : Hid (ResBox (W.heap.size + 1) w4) := ⟨heap_below hB hr.heap⟩
  have HB4 := Lib.hid (belowVia hB HB.out)
  obtain ⟨q1, p1⟩ := cell2 HRB4.out.heap
  obtain ⟨q2, p2⟩ := cell2b HRB4.out.heap
  clear hB hr
  go_wp2_with fail
  refine bodyPost_ret (results_qe rfl _ _ (W.heap.size + 1) _ _ rfl (HRB4.out.set _ _)) rfl ?_
  exact ⟨rfl, below_set2 HB4.out (by omega) _ _⟩
set_option maxRecDepth 100000 in
set_option maxHeartbeats 4000000 in
theorem up_q (x1 x2 : ByteArray) (hx1 : Sized x1) (hx2 : Sized x2) (p : Int) (W : World) :
    Calls Tryz.prog 20 #[.agg #[.string x1, .string x2], .int .i64 p] W (GivesQ (upQ (readQ x1 x2) p) W) := by
  have HC := Lib.hid (fun W => rounded_q op2_up round_up x1 x2 hx1 hx2 p W)
  generalize upQ (readQ x1 x2) p = o at *
  clear hx1 hx2
  go_enter Tryz.func20, Tryz.ntmps20
  go_wp2_with fail
  have hr : ResBox (W.heap.size + 1) ((W.alloc (.cells #[.string x1, .string x2] 23)).alloc (.cells #[.string ⟨#[]⟩, .string ⟨#[]⟩] 23)) := by
    have := heap_alloc_new (W.alloc (.cells #[.string x1, .string x2] 23)) (.cells #[.string ⟨#[]⟩, .string ⟨#[]⟩] 23)
    rw [alloc_size] at this
    exact ⟨this⟩
  have HB := Lib.hid (belowVia (alloc_below (W.alloc (.cells #[.string x1, .string x2] 23)) (.cells #[.string ⟨#[]⟩, .string ⟨#[]⟩] 23)) (alloc_below W _))
  generalize (W.alloc (.cells #[.string x1, .string x2] 23)).alloc (.cells #[.string ⟨#[]⟩, .string ⟨#[]⟩] 23) = w2 at *
  refine (HC.out w2).mono ?_
  rintro e w4 ⟨rfl, hB⟩
  have HRB4 : Hid (ResBox (W.heap.size + 1) w4) := ⟨heap_below hB hr.heap⟩
  have HB4 := Lib.hid (belowVia hB HB.out)
  obtain ⟨q1, p1⟩ := cell2 HRB4.out.heap
  obtain ⟨q2, p2⟩ := cell2b HRB4.out.heap
  clear hB hr
  go_wp2_with fail
  refine bodyPost_ret (results_qe rfl _ _ (W.heap.size + 1) _ _ rfl (HRB4.out.set _ _)) rfl ?_
  exact ⟨rfl, below_set2 HB4.out (by omega) _ _⟩
end Go.Proofs.YtelckldddflmmaaGreatDoor
/- RatText: The contracts of Print and Parse. -/
namespace Go.Proofs.YtelckldddflmmaaGreatDoor
open Go.RowKit Putlog

theorem den_one (q : Rat) : ((intB q.den).toList == [49]) = decide (q.den = 1) := by
  have h := intB_ne (a := (q.den : Int)) (b := 1)
  rw [show (intB 1).toList = [49] by decide +kernel] at h
  rw [h]
  by_cases e : q.den = 1
  · rw [decide_eq_true e, decide_eq_true (by omega)]
  · rw [decide_eq_false e, decide_eq_false (by omega)]
theorem print_some (q : Rat) : printQ (some q) = if q.den = 1 then intB q.num else intB q.num ++ ⟨#[47]⟩ ++ intB q.den := rfl
set_option maxRecDepth 100000 in
set_option maxHeartbeats 4000000 in
theorem print_q (x1 x2 : ByteArray) (hx1 : Sized x1) (hx2 : Sized x2) (W : World) :
    Calls Tryz.prog 28 #[.agg #[.string x1, .string x2]] W fun e w' => e = .returned (.string (printQ (readQ x1 x2))) ∧ Below W.heap.size W w' := by
  have HV := Lib.hid (fun W => valid_q x1 x2 hx1 hx2 W)
  obtain ⟨k0, k1, kb⟩ := cell_row2 W (.string x1) (.string x2) 23
  rcases readQ_isSome (n := x1) (d := x2) with h1 | ⟨q, h1, e1, e2, fq⟩
  · rw [h1] at HV ⊢
    have KB := Lib.hid kb
    clear hx1 hx2 h1 kb
    go_enter Tryz.func28, Tryz.ntmps28
    go_wp2_with fail
    generalize W.alloc (.cells #[.string x1, .string x2] 23) = w1 at *
    refine (HV.out w1).mono ?_
    rintro e w2 ⟨rfl, hB⟩
    have HB2 := Lib.hid (belowVia hB KB.out)
    clear hB
    go_wp2_with fail
    go_ret
    exact ⟨rfl, HB2.out⟩
  · rw [h1] at HV ⊢
    have s1 : (x1.size : Int) ≤ 201 := by rw [e1]; have := intT_size fq.1 (by decide); omega
    have s2 : (x2.size : Int) ≤ 201 := by rw [e2]; have := intT_size fq.2 (by decide); omega
    have s3 : (⟨#[47]⟩ : ByteArray).size = 1 := rfl
    have hd := den_one q
    have s4 : ((x1 ++ ⟨#[47]⟩ : ByteArray).size : Int) ≤ 202 := by rw [ByteArray.size_append]; omega
    rw [print_some, ← e1, ← e2]
    rw [← e2] at hd
    have KB := Lib.hid kb
    clear e1 e2 fq hx1 hx2 h1 kb
    by_cases c : q.den = 1
    · rw [if_pos c]
      rw [decide_eq_true c] at hd
      clear c
      go_enter Tryz.func28, Tryz.ntmps28
      go_wp2_with fail
      generalize W.alloc (.cells #[.string x1, .string x2] 23) = w1 at *
      refine (HV.out w1).mono ?_
      rintro e w2 ⟨rfl, hB⟩
      have k2 := keptBelow hB k0
      have k3 := keptBelow hB k1
      have HB2 := Lib.hid (belowVia hB KB.out)
      clear hB k0 k1
      go_wp2_with fail
      go_ret
      exact ⟨rfl, HB2.out⟩
    · rw [if_neg c]
      rw [decide_eq_false c] at hd
      clear c
      go_enter Tryz.func28, Tryz.ntmps28
      go_wp2_with fail
      generalize W.alloc (.cells #[.string x1, .string x2] 23) = w1 at *
      refine (HV.out w1).mono ?_
      rintro e w2 ⟨rfl, hB⟩
      have k2 := keptBelow hB k0
      have k3 := keptBelow hB k1
      have HB2 := Lib.hid (belowVia hB KB.out)
      clear hB k0 k1
      go_wp2_with fail
      go_ret
      exact ⟨rfl, HB2.out⟩
/-! ### Parse -/
theorem index_lt (l : List UInt8) (c : UInt8) : Lib.indexByte l c < l.length := by
  induction l with
  | nil => simp [Lib.indexByte]
  | cons b l ih =>
    unfold Lib.indexByte
    rw [List.length_cons]
    split
    · omega
    · split <;> omega
theorem index_ge (l : List UInt8) (c : UInt8) : -1 ≤ Lib.indexByte l c := Lib.indexByte_ge l c
/-- Numerator and denominator, as the text has them. -/
def partsS (s : ByteArray) : ByteArray × ByteArray :=
  if 0 ≤ Lib.indexByte s.data.toList 47 then (s.extract 0 (Lib.indexByte s.data.toList 47).toNat, s.extract ((Lib.indexByte s.data.toList 47).toNat + 1) s.size) else (s, ⟨#[49]⟩)
def cutS (s : ByteArray) : ByteArray × ByteArray × Bool :=
  if 0 ≤ Lib.indexByte s.data.toList 47 then (s.extract 0 (Lib.indexByte s.data.toList 47).toNat, s.extract ((Lib.indexByte s.data.toList 47).toNat + 1) s.size, true) else (s, ⟨#[]⟩, false)
set_option maxRecDepth 100000 in
set_option maxHeartbeats 4000000 in
theorem cut_in (s : ByteArray) (hs : Sized s) (W : World) :
    Calls Tryz.prog 90 #[.string s, .string ⟨#[47]⟩] W fun e w' => e = .returned (.tuple #[.string (cutS s).1, .string (cutS s).2.1, .bool (cutS s).2.2]) ∧ Below W.heap.size W w' := by
  have HI := Lib.hid (fun W => Tryz.stringslite_Index_one s 47 W)
  have h1 := index_lt s.data.toList 47
  have h2 := index_ge s.data.toList 47
  rw [show (s.data.toList.length : Int) = s.size from rfl] at h1
  unfold cutS
  unfold Sized at hs
  have s3 : (⟨#[47]⟩ : ByteArray).size = 1 := rfl
  generalize Lib.indexByte s.data.toList 47 = i at *
  by_cases h0 : 0 ≤ i
  · obtain ⟨k, rfl⟩ : ∃ k : Nat, i = k := ⟨i.toNat, by omega⟩
    rw [if_pos h0, Int.toNat_natCast]
    have hw : IntKind.i64.wrap ((k : Int) + 1) = ((k + 1 : Nat) : Int) := by rw [IntKind.wrap_i64]; omega
    have hk : k < s.size := by omega
    clear h2 h0
    go_enter Tryz.func90, Tryz.ntmps90
    go_wp2_with fail
    refine (HI.out W).mono ?_
    rintro e w1 ⟨rfl, rfl⟩
    go_wp2_with fail
    go_region
    all_goals
      go_wp2_with fail
      go_ret3
      exact ⟨rfl, (Below.refl _ _).drew⟩
  · obtain rfl : i = -1 := by omega
    rw [if_neg (by omega)]
    clear h2 h0 h1
    go_enter Tryz.func90, Tryz.ntmps90
    go_wp2_with fail
    refine (HI.out W).mono ?_
    rintro e w1 ⟨rfl, rfl⟩
    go_wp2_with fail
    go_ret3
    exact ⟨rfl, Below.refl _ _⟩
set_option maxRecDepth 100000 in
set_option maxHeartbeats 4000000 in
theorem cut_any (s : ByteArray) (hs : Sized s) (W : World) :
    Calls Tryz.prog 58 #[.string s, .string ⟨#[47]⟩] W fun e w' => e = .returned (.tuple #[.string (cutS s).1, .string (cutS s).2.1, .bool (cutS s).2.2]) ∧ Below W.heap.size W w' := by
  have HI := Lib.hid (fun W => cut_in s hs W)
  generalize (cutS s).1 = a at *
  generalize (cutS s).2.1 = b at *
  generalize (cutS s).2.2 = c at *
  go_enter Tryz.func58, Tryz.ntmps58
  go_wp2_with fail
  refine (HI.out W).mono ?_
  rintro e w1 ⟨rfl, hB⟩
  go_wp2_with fail
  go_ret3
  exact ⟨rfl, hB⟩
/-- The fraction that a text is. -/
def parseQ (s : ByteArray) : Option Rat := if printQ (readQ (partsS s).1 (partsS s).2) = s then readQ (partsS s).1 (partsS s).2 else none
theorem cut_parts (s : ByteArray) : (cutS s).1 = (partsS s).1 ∧ ((cutS s).2.2 = true → (cutS s).2.1 = (partsS s).2) ∧ ((cutS s).2.2 = false → (partsS s).2 = ⟨#[49]⟩) := by
  unfold cutS partsS
  split <;> simp
theorem sized_extract {s : ByteArray} (h : Sized s) (i j : Nat) : Sized (s.extract i j) := by
  unfold Sized at *
  rw [ByteArray.size_extract]; omega
theorem sized_parts {s : ByteArray} (h : Sized s) : Sized (partsS s).1 ∧ Sized (partsS s).2 := by
  unfold partsS
  split
  · exact ⟨sized_extract h _ _, sized_extract h _ _⟩
  · exact ⟨h, one_sized⟩
theorem parts_empty : partsS ⟨#[]⟩ = (⟨#[]⟩, ⟨#[49]⟩) := by decide +kernel
theorem parse_empty : parseQ ⟨#[]⟩ = none := by
  unfold parseQ
  rw [parts_empty, readQ_no1 readI_empty]
  split <;> rfl
theorem parse_form {s : ByteArray} (h0 : s ≠ ⟨#[]⟩) (h : printQ (readQ (partsS s).1 (partsS s).2) = s) : (partsS s).1 = numB (parseQ s) ∧ (partsS s).2 = denB (parseQ s) ∧ errQ (parseQ s) = 0 := by
  unfold parseQ
  rw [if_pos h]
  rcases readQ_isSome (n := (partsS s).1) (d := (partsS s).2) with e | ⟨q, e, e1, e2, _⟩
  · rw [e] at h; exact absurd h.symm h0
  · rw [e]; exact ⟨e1, e2, rfl⟩
theorem parse_no {s : ByteArray} (h : printQ (readQ (partsS s).1 (partsS s).2) ≠ s) : parseQ s = none := if_neg h
set_option maxRecDepth 100000 in
set_option maxHeartbeats 4000000 in
theorem parse_q (s : ByteArray) (hs : Sized s) (W : World) : Calls Tryz.prog 29 #[.string s] W (GivesQ (parseQ s) W) := by
  have HC := Lib.hid (fun W => cut_any s hs W)
  obtain ⟨p1, p2, p3⟩ := cut_parts s
  obtain ⟨z1, z2⟩ := sized_parts hs
  have HP := Lib.hid (fun W => print_q (partsS s).1 (partsS s).2 z1 z2 W)
  have he0 := str_eq s ⟨#[]⟩
  rw [show (⟨#[]⟩ : ByteArray).toList = [] by decide +kernel] at he0
  have hpr := str_eq (printQ (readQ (partsS s).1 (partsS s).2)) s
  have PF := Lib.hid (fun h0 h => parse_form (s := s) h0 h)
  have PN := Lib.hid (fun h => parse_no (s := s) h)
  have PE : Hid (s = ⟨#[]⟩ → parseQ s = none) := fun e => by rw [e]; exact parse_empty
  rw [p1] at HC
  have hcell := heap_alloc_new W (.cells #[.string ⟨#[]⟩, .string ⟨#[]⟩] 23)
  have hbel := alloc_below W (.cells #[.string ⟨#[]⟩, .string ⟨#[]⟩] 23)
  obtain ⟨o, ho⟩ : ∃ o, o = parseQ s := ⟨_, rfl⟩
  rw [← ho] at PF PN PE ⊢
  clear ho
  generalize printQ (readQ (partsS s).1 (partsS s).2) = t at *
  generalize (cutS s).2.2 = dv at *
  generalize (cutS s).2.1 = y0 at *
  generalize (partsS s).1 = x at *
  generalize (partsS s).2 = y at *
  have P2 := Lib.hid p2
  have P3 := Lib.hid p3
  clear p1 p2 p3 z1 z2 hs
  cases dv with
  | true =>
    obtain rfl := P2.out rfl
    clear P2 P3
    go_enter Tryz.func29, Tryz.ntmps29
    go_wp2_with fail
    generalize W.alloc (.cells #[.string ⟨#[]⟩, .string ⟨#[]⟩] 23) = w1 at *
    refine (HC.out w1).mono ?_
    rintro e w2 ⟨rfl, hB⟩
    have HR2 : Hid (ResBox W.heap.size w2) := ⟨heap_below hB hcell⟩
    have HB2 := Lib.hid (belowVia hB hbel)
    clear hB hcell hbel
    have HR3 : Hid (ResBox W.heap.size (w2.alloc (.cells #[.string x, .string y0] 23))) := ⟨heap_below (alloc_below w2 _) HR2.out.heap⟩
    have HB3 := Lib.hid (belowVia (alloc_below w2 (.cells #[.string x, .string y0] 23)) HB2.out)
    obtain ⟨k0, k1, _⟩ := cell_row2 w2 (.string x) (.string y0) 23
    by_cases c0 : s = ⟨#[]⟩
    · rw [decide_eq_true c0] at he0
      have HN := Lib.hid (PE.out c0)
      obtain ⟨q1, f1⟩ := cell2 HR3.out.heap
      obtain ⟨q2, f2⟩ := cell2b HR3.out.heap
      clear c0 hpr
      go_wp2_with fail
      refine bodyPost_ret (results_qe rfl _ _ W.heap.size _ _ rfl (HR3.out.set _ _)) rfl ?_
      exact ⟨by rw [HN.out]; rfl, below_set2 HB3.out (Nat.le_refl _) _ _⟩
    · rw [decide_eq_false c0] at he0
      by_cases c1 : t = s
      · rw [decide_eq_true c1] at hpr
        have HA := Lib.hid (PF.out c0 c1)
        clear c0 c1
        go_wp2_with fail
        refine (HP.out _).mono ?_
        rintro e w4 ⟨rfl, hB⟩
        have k2 := keptBelow hB k0
        have k3 := keptBelow hB k1
        have HR4 : Hid (ResBox W.heap.size w4) := ⟨heap_below hB HR3.out.heap⟩
        have HB4 := Lib.hid (belowVia hB HB3.out)
        obtain ⟨q1, f1⟩ := cell2 HR4.out.heap
        obtain ⟨q2, f2⟩ := cell2b HR4.out.heap
        clear hB k0 k1
        go_wp2_with fail
        refine bodyPost_ret (results_qe rfl _ _ W.heap.size _ _ rfl (HR4.out.set _ _)) rfl ?_
        obtain ⟨a1, a2, a3⟩ := HA.out
        exact ⟨by rw [← a1, ← a2, a3]; rfl, below_set2 HB4.out (Nat.le_refl _) _ _⟩
      · rw [decide_eq_false c1] at hpr
        have HN := Lib.hid (PN.out c1)
        clear c0 c1
        go_wp2_with fail
        refine (HP.out _).mono ?_
        rintro e w4 ⟨rfl, hB⟩
        have HR4 : Hid (ResBox W.heap.size w4) := ⟨heap_below hB HR3.out.heap⟩
        have HB4 := Lib.hid (belowVia hB HB3.out)
        obtain ⟨q1, f1⟩ := cell2 HR4.out.heap
        obtain ⟨q2, f2⟩ := cell2b HR4.out.heap
        clear hB k0 k1
        go_wp2_with fail
        refine bodyPost_ret (results_qe rfl _ _ W.heap.size _ _ rfl (HR4.out.set _ _)) rfl ?_
        exact ⟨by rw [HN.out]; rfl, below_set2 HB4.out (Nat.le_refl _) _ _⟩
  | false =>
    obtain rfl := P3.out rfl
    clear P2 P3
    go_enter Tryz.func29, Tryz.ntmps29
    go_wp2_with fail
    generalize W.alloc (.cells #[.string ⟨#[]⟩, .string ⟨#[]⟩] 23) = w1 at *
    refine (HC.out w1).mono ?_
    rintro e w2 ⟨rfl, hB⟩
    have HR2 : Hid (ResBox W.heap.size w2) := ⟨heap_below hB hcell⟩
    have HB2 := Lib.hid (belowVia hB hbel)
    clear hB hcell hbel
    have HR3 : Hid (ResBox W.heap.size (w2.alloc (.cells #[.string x, .string ⟨#[49]⟩] 23))) := ⟨heap_below (alloc_below w2 _) HR2.out.heap⟩
    have HB3 := Lib.hid (belowVia (alloc_below w2 (.cells #[.string x, .string ⟨#[49]⟩] 23)) HB2.out)
    obtain ⟨k0, k1, _⟩ := cell_row2 w2 (.string x) (.string ⟨#[49]⟩) 23
    by_cases c0 : s = ⟨#[]⟩
    · rw [decide_eq_true c0] at he0
      have HN := Lib.hid (PE.out c0)
      obtain ⟨q1, f1⟩ := cell2 HR3.out.heap
      obtain ⟨q2, f2⟩ := cell2b HR3.out.heap
      clear c0 hpr
      go_wp2_with fail
      refine bodyPost_ret (results_qe rfl _ _ W.heap.size _ _ rfl (HR3.out.set _ _)) rfl ?_
      exact ⟨by rw [HN.out]; rfl, below_set2 HB3.out (Nat.le_refl _) _ _⟩
    · rw [decide_eq_false c0] at he0
      by_cases c1 : t = s
      · rw [decide_eq_true c1] at hpr
        have HA := Lib.hid (PF.out c0 c1)
        clear c0 c1
        go_wp2_with fail
        refine (HP.out _).mono ?_
        rintro e w4 ⟨rfl, hB⟩
        have k2 := keptBelow hB k0
        have k3 := keptBelow hB k1
        have HR4 : Hid (ResBox W.heap.size w4) := ⟨heap_below hB HR3.out.heap⟩
        have HB4 := Lib.hid (belowVia hB HB3.out)
        obtain ⟨q1, f1⟩ := cell2 HR4.out.heap
        obtain ⟨q2, f2⟩ := cell2b HR4.out.heap
        clear hB k0 k1
        go_wp2_with fail
        refine bodyPost_ret (results_qe rfl _ _ W.heap.size _ _ rfl (HR4.out.set _ _)) rfl ?_
        obtain ⟨a1, a2, a3⟩ := HA.out
        exact ⟨by rw [← a1, ← a2, a3]; rfl, below_set2 HB4.out (Nat.le_refl _) _ _⟩
      · rw [decide_eq_false c1] at hpr
        have HN := Lib.hid (PN.out c1)
        clear c0 c1
        go_wp2_with fail
        refine (HP.out _).mono ?_
        rintro e w4 ⟨rfl, hB⟩
        have HR4 : Hid (ResBox W.heap.size w4) := ⟨heap_below hB HR3.out.heap⟩
        have HB4 := Lib.hid (belowVia hB HB3.out)
        obtain ⟨q1, f1⟩ := cell2 HR4.out.heap
        obtain ⟨q2, f2⟩ := cell2b HR4.out.heap
        clear hB k0 k1
        go_wp2_with fail
        refine bodyPost_ret (results_qe rfl _ _ W.heap.size _ _ rfl (HR4.out.set _ _)) rfl ?_
        exact ⟨by rw [HN.out]; rfl, below_set2 HB4.out (Nat.le_refl _) _ _⟩
end Go.Proofs.YtelckldddflmmaaGreatDoor
/- RatSane: What the laws of layer 4 share: is, pick, and the fixed examples. -/
namespace Go.Proofs.YtelckldddflmmaaGreatDoor
open Go.RowKit Putlog

set_option maxRecDepth 100000 in
set_option maxHeartbeats 2000000 in
theorem is_q (x y : ByteArray) (W : World) : Calls Tryz.prog 35 #[.string x, .string y] W fun e w' => e = .returned (.agg #[.string x, .string y]) ∧ Below W.heap.size W w' := by
  go_enter Tryz.func35, Tryz.ntmps35
  go_wp2_with fail
  refine bodyPost_ret (results_q rfl _ _ W.heap.size _ _ rfl (heap_alloc_new W _)) rfl ?_
  exact ⟨rfl, alloc_below _ _⟩
def pickN (c n : Int) : Int := if c < 0 then -(c + 1) % n else c % n
theorem pickN_bounds (c : Int) {n : Int} (h : 0 < n) : 0 ≤ pickN c n ∧ pickN c n < n := by
  unfold pickN
  split
  · exact ⟨Int.emod_nonneg _ (by omega), Int.emod_lt_of_pos _ h⟩
  · exact ⟨Int.emod_nonneg _ (by omega), Int.emod_lt_of_pos _ h⟩
set_option maxRecDepth 100000 in
set_option maxHeartbeats 2000000 in
theorem pick_q (c n : Int) (h0 : -9223372036854775808 ≤ c) (h1 : c ≤ 9223372036854775807) (hn : 0 < n) (hn2 : n ≤ 9223372036854775807) (W : World) :
    Calls Tryz.prog 17 #[.int .i64 c, .int .i64 n] W fun e w' => e = .returned (.int .i64 (pickN c n)) ∧ w' = W := by
  unfold pickN
  by_cases h : c < 0
  · rw [if_pos h]
    obtain ⟨d, rfl⟩ : ∃ d, c = -d - 1 := ⟨-c - 1, by omega⟩
    have e1 : -(-d - 1 + 1) = d := by omega
    rw [e1]
    have e2 : IntKind.i64.wrap (-d - 1 + 1) = -d := by rw [IntKind.wrap_i64]; omega
    have e3 : wrap64 d = d := by unfold wrap64; omega
    have e4 : d.tmod n = d % n := Int.tmod_eq_emod_of_nonneg (by omega)
    have e5 : IntKind.i64.wrap (d % n) = d % n := by
      have := Int.emod_nonneg d (show n ≠ 0 by omega); have := Int.emod_lt_of_pos d hn
      rw [IntKind.wrap_i64]; omega
    obtain ⟨c2, hc2⟩ : ∃ c2, c2 = -d - 1 := ⟨_, rfl⟩
    rw [← hc2] at h e2 ⊢
    obtain ⟨r, hr⟩ : ∃ r, r = d % n := ⟨_, rfl⟩
    rw [← hr] at e4 e5 ⊢
    clear h0 h1 e1 hc2 hr
    go_enter Tryz.func17, Tryz.ntmps17
    go_wp2_with fail
    go_ret
    exact ⟨rfl, rfl⟩
  · rw [if_neg h]
    have h2 : 0 ≤ c := by omega
    have e4 : c.tmod n = c % n := Int.tmod_eq_emod_of_nonneg h2
    obtain ⟨r, hr⟩ : ∃ r, r = c % n := ⟨_, rfl⟩
    rw [← hr] at e4 ⊢
    clear h0 h1 h hr
    go_enter Tryz.func17, Tryz.ntmps17
    go_wp2_with fail
    go_ret
    exact ⟨rfl, rfl⟩
instance (x : ByteArray) : Decidable (Sized x) := inferInstanceAs (Decidable (_ ≤ _))
theorem e_of1 (W : World) (hT : TabP W) : Calls Tryz.prog 26 #[.int .i64 (6), .int .i64 (-4)] W fun e w' => e = .returned (.tuple #[.agg #[.string ⟨#[45, 51]⟩, .string ⟨#[50]⟩], .int .i64 0]) ∧ Below W.heap.size W w' := by
  have h := of_q (6) (-4) (by decide) (by decide) (by decide) (by decide) W hT
  have e1 : numB (makeQ (some (6)) (some (-4))) = ⟨#[45, 51]⟩ := by decide +kernel
  have e2 : denB (makeQ (some (6)) (some (-4))) = ⟨#[50]⟩ := by decide +kernel
  have e3 : errQ (makeQ (some (6)) (some (-4))) = 0 := by decide +kernel
  unfold GivesQ at h
  rw [e1, e2, e3] at h
  exact h
theorem e_of2 (W : World) (hT : TabP W) : Calls Tryz.prog 26 #[.int .i64 (0), .int .i64 (-5)] W fun e w' => e = .returned (.tuple #[.agg #[.string ⟨#[48]⟩, .string ⟨#[49]⟩], .int .i64 0]) ∧ Below W.heap.size W w' := by
  have h := of_q (0) (-5) (by decide) (by decide) (by decide) (by decide) W hT
  have e1 : numB (makeQ (some (0)) (some (-5))) = ⟨#[48]⟩ := by decide +kernel
  have e2 : denB (makeQ (some (0)) (some (-5))) = ⟨#[49]⟩ := by decide +kernel
  have e3 : errQ (makeQ (some (0)) (some (-5))) = 0 := by decide +kernel
  unfold GivesQ at h
  rw [e1, e2, e3] at h
  exact h
theorem e_of3 (W : World) (hT : TabP W) : Calls Tryz.prog 26 #[.int .i64 (1), .int .i64 (0)] W fun e w' => e = .returned (.tuple #[.agg #[.string ⟨#[]⟩, .string ⟨#[]⟩], .int .i64 40]) ∧ Below W.heap.size W w' := by
  have h := of_q (1) (0) (by decide) (by decide) (by decide) (by decide) W hT
  have e1 : numB (makeQ (some (1)) (some (0))) = ⟨#[]⟩ := by decide +kernel
  have e2 : denB (makeQ (some (1)) (some (0))) = ⟨#[]⟩ := by decide +kernel
  have e3 : errQ (makeQ (some (1)) (some (0))) = 40 := by decide +kernel
  unfold GivesQ at h
  rw [e1, e2, e3] at h
  exact h
theorem e_add (W : World) : Calls Tryz.prog 32 #[.agg #[.string ⟨#[49]⟩, .string ⟨#[50]⟩], .agg #[.string ⟨#[49]⟩, .string ⟨#[51]⟩]] W fun e w' => e = .returned (.tuple #[.agg #[.string ⟨#[53]⟩, .string ⟨#[54]⟩], .int .i64 0]) ∧ Below W.heap.size W w' := by
  have h := add_q ⟨#[49]⟩ ⟨#[50]⟩ ⟨#[49]⟩ ⟨#[51]⟩ (by decide) (by decide) (by decide) (by decide) W
  have e1 : numB (addQ (readQ ⟨#[49]⟩ ⟨#[50]⟩) (readQ ⟨#[49]⟩ ⟨#[51]⟩)) = ⟨#[53]⟩ := by decide +kernel
  have e2 : denB (addQ (readQ ⟨#[49]⟩ ⟨#[50]⟩) (readQ ⟨#[49]⟩ ⟨#[51]⟩)) = ⟨#[54]⟩ := by decide +kernel
  have e3 : errQ (addQ (readQ ⟨#[49]⟩ ⟨#[50]⟩) (readQ ⟨#[49]⟩ ⟨#[51]⟩)) = 0 := by decide +kernel
  unfold GivesQ at h
  rw [e1, e2, e3] at h
  exact h
theorem e_div1 (W : World) : Calls Tryz.prog 36 #[.agg #[.string ⟨#[49]⟩, .string ⟨#[50]⟩], .agg #[.string ⟨#[45, 49]⟩, .string ⟨#[52]⟩]] W fun e w' => e = .returned (.tuple #[.agg #[.string ⟨#[45, 50]⟩, .string ⟨#[49]⟩], .int .i64 0]) ∧ Below W.heap.size W w' := by
  have h := div_q ⟨#[49]⟩ ⟨#[50]⟩ ⟨#[45, 49]⟩ ⟨#[52]⟩ (by decide) (by decide) (by decide) (by decide) W
  have e1 : numB (divQ (readQ ⟨#[49]⟩ ⟨#[50]⟩) (readQ ⟨#[45, 49]⟩ ⟨#[52]⟩)) = ⟨#[45, 50]⟩ := by decide +kernel
  have e2 : denB (divQ (readQ ⟨#[49]⟩ ⟨#[50]⟩) (readQ ⟨#[45, 49]⟩ ⟨#[52]⟩)) = ⟨#[49]⟩ := by decide +kernel
  have e3 : errQ (divQ (readQ ⟨#[49]⟩ ⟨#[50]⟩) (readQ ⟨#[45, 49]⟩ ⟨#[52]⟩)) = 0 := by decide +kernel
  unfold GivesQ at h
  rw [e1, e2, e3] at h
  exact h
theorem e_div2 (W : World) : Calls Tryz.prog 36 #[.agg #[.string ⟨#[49]⟩, .string ⟨#[49]⟩], .agg #[.string ⟨#[48]⟩, .string ⟨#[49]⟩]] W fun e w' => e = .returned (.tuple #[.agg #[.string ⟨#[]⟩, .string ⟨#[]⟩], .int .i64 40]) ∧ Below W.heap.size W w' := by
  have h := div_q ⟨#[49]⟩ ⟨#[49]⟩ ⟨#[48]⟩ ⟨#[49]⟩ (by decide) (by decide) (by decide) (by decide) W
  have e1 : numB (divQ (readQ ⟨#[49]⟩ ⟨#[49]⟩) (readQ ⟨#[48]⟩ ⟨#[49]⟩)) = ⟨#[]⟩ := by decide +kernel
  have e2 : denB (divQ (readQ ⟨#[49]⟩ ⟨#[49]⟩) (readQ ⟨#[48]⟩ ⟨#[49]⟩)) = ⟨#[]⟩ := by decide +kernel
  have e3 : errQ (divQ (readQ ⟨#[49]⟩ ⟨#[49]⟩) (readQ ⟨#[48]⟩ ⟨#[49]⟩)) = 40 := by decide +kernel
  unfold GivesQ at h
  rw [e1, e2, e3] at h
  exact h
theorem e_down (W : World) : Calls Tryz.prog 18 #[.agg #[.string ⟨#[45, 49]⟩, .string ⟨#[51]⟩], .int .i64 2] W fun e w' => e = .returned (.tuple #[.agg #[.string ⟨#[45, 49, 55]⟩, .string ⟨#[53, 48]⟩], .int .i64 0]) ∧ Below W.heap.size W w' := by
  have h := down_q ⟨#[45, 49]⟩ ⟨#[51]⟩ (by decide) (by decide) 2 W
  have e1 : numB (downQ (readQ ⟨#[45, 49]⟩ ⟨#[51]⟩) 2) = ⟨#[45, 49, 55]⟩ := by decide +kernel
  have e2 : denB (downQ (readQ ⟨#[45, 49]⟩ ⟨#[51]⟩) 2) = ⟨#[53, 48]⟩ := by decide +kernel
  have e3 : errQ (downQ (readQ ⟨#[45, 49]⟩ ⟨#[51]⟩) 2) = 0 := by decide +kernel
  unfold GivesQ at h
  rw [e1, e2, e3] at h
  exact h
theorem e_up (W : World) : Calls Tryz.prog 20 #[.agg #[.string ⟨#[49]⟩, .string ⟨#[51]⟩], .int .i64 2] W fun e w' => e = .returned (.tuple #[.agg #[.string ⟨#[49, 55]⟩, .string ⟨#[53, 48]⟩], .int .i64 0]) ∧ Below W.heap.size W w' := by
  have h := up_q ⟨#[49]⟩ ⟨#[51]⟩ (by decide) (by decide) 2 W
  have e1 : numB (upQ (readQ ⟨#[49]⟩ ⟨#[51]⟩) 2) = ⟨#[49, 55]⟩ := by decide +kernel
  have e2 : denB (upQ (readQ ⟨#[49]⟩ ⟨#[51]⟩) 2) = ⟨#[53, 48]⟩ := by decide +kernel
  have e3 : errQ (upQ (readQ ⟨#[49]⟩ ⟨#[51]⟩) 2) = 0 := by decide +kernel
  unfold GivesQ at h
  rw [e1, e2, e3] at h
  exact h
theorem e_parse1 (W : World) : Calls Tryz.prog 29 #[.string ⟨#[45, 51, 47, 50]⟩] W fun e w' => e = .returned (.tuple #[.agg #[.string ⟨#[45, 51]⟩, .string ⟨#[50]⟩], .int .i64 0]) ∧ Below W.heap.size W w' := by
  have h := parse_q ⟨#[45, 51, 47, 50]⟩ (by decide) W
  have e1 : numB (parseQ ⟨#[45, 51, 47, 50]⟩) = ⟨#[45, 51]⟩ := by decide +kernel
  have e2 : denB (parseQ ⟨#[45, 51, 47, 50]⟩) = ⟨#[50]⟩ := by decide +kernel
  have e3 : errQ (parseQ ⟨#[45, 51, 47, 50]⟩) = 0 := by decide +kernel
  unfold GivesQ at h
  rw [e1, e2, e3] at h
  exact h
theorem e_parse2 (W : World) : Calls Tryz.prog 29 #[.string ⟨#[54, 47, 52]⟩] W fun e w' => e = .returned (.tuple #[.agg #[.string ⟨#[]⟩, .string ⟨#[]⟩], .int .i64 40]) ∧ Below W.heap.size W w' := by
  have h := parse_q ⟨#[54, 47, 52]⟩ (by decide) W
  have e1 : numB (parseQ ⟨#[54, 47, 52]⟩) = ⟨#[]⟩ := by decide +kernel
  have e2 : denB (parseQ ⟨#[54, 47, 52]⟩) = ⟨#[]⟩ := by decide +kernel
  have e3 : errQ (parseQ ⟨#[54, 47, 52]⟩) = 40 := by decide +kernel
  unfold GivesQ at h
  rw [e1, e2, e3] at h
  exact h
theorem e_print (W : World) : Calls Tryz.prog 28 #[.agg #[.string ⟨#[45, 51]⟩, .string ⟨#[50]⟩]] W fun e w' => e = .returned (.string ⟨#[45, 51, 47, 50]⟩) ∧ Below W.heap.size W w' := by
  have h := print_q ⟨#[45, 51]⟩ ⟨#[50]⟩ (by decide) (by decide) W
  rw [show printQ (readQ ⟨#[45, 51]⟩ ⟨#[50]⟩) = ⟨#[45, 51, 47, 50]⟩ by decide +kernel] at h
  exact h
theorem e_cmp (W : World) : Calls Tryz.prog 15 #[.agg #[.string ⟨#[49]⟩, .string ⟨#[51]⟩], .agg #[.string ⟨#[51, 51, 51, 51, 51]⟩, .string ⟨#[49, 48, 48, 48, 48, 48]⟩]] W fun e w' => e = .returned (.int .i64 1) ∧ Below W.heap.size W w' := by
  have h := compare_q ⟨#[49]⟩ ⟨#[51]⟩ ⟨#[51, 51, 51, 51, 51]⟩ ⟨#[49, 48, 48, 48, 48, 48]⟩ (by decide) (by decide) (by decide) (by decide) W
  rw [show cmpO (readQ ⟨#[49]⟩ ⟨#[51]⟩) (readQ ⟨#[51, 51, 51, 51, 51]⟩ ⟨#[49, 48, 48, 48, 48, 48]⟩) = 1 by decide +kernel] at h
  exact h
theorem e_val1 (W : World) : Calls Tryz.prog 24 #[.agg #[.string ⟨#[45, 51]⟩, .string ⟨#[50]⟩]] W fun e w' => e = .returned (.bool true) ∧ Below W.heap.size W w' := by
  have h := valid_q ⟨#[45, 51]⟩ ⟨#[50]⟩ (by decide) (by decide) W
  rw [show (readQ ⟨#[45, 51]⟩ ⟨#[50]⟩).isSome = true by decide +kernel] at h
  exact h
theorem e_val2 (W : World) : Calls Tryz.prog 24 #[.agg #[.string ⟨#[]⟩, .string ⟨#[]⟩]] W fun e w' => e = .returned (.bool false) ∧ Below W.heap.size W w' := by
  have h := valid_q ⟨#[]⟩ ⟨#[]⟩ (by decide) (by decide) W
  rw [show (readQ ⟨#[]⟩ ⟨#[]⟩).isSome = false by decide +kernel] at h
  exact h
end Go.Proofs.YtelckldddflmmaaGreatDoor
/- RatHeld: What a region keeps that loads a fraction, calls, and makes a box for the result. -/
namespace Go.Proofs.YtelckldddflmmaaGreatDoor
open Go.RowKit Putlog

theorem s3Keep {v w w1 : World} {p : Nat} {x y : Value} (h : w.cell? ⟨p, 0, none⟩ = some x ∧ w.cell? ⟨p, 1, none⟩ = some y ∧ Below v.heap.size v w) (hB : Below w.heap.size w w1) : w1.cell? ⟨p, 0, none⟩ = some x ∧ w1.cell? ⟨p, 1, none⟩ = some y ∧ Below v.heap.size v w1 := ⟨keptBelow hB h.1, keptBelow hB h.2.1, belowVia hB h.2.2⟩
theorem s3Swap {v w : World} {p : Nat} {x y : Value} {o o' : Obj} (h : (w.alloc o).cell? ⟨p, 0, none⟩ = some x ∧ (w.alloc o).cell? ⟨p, 1, none⟩ = some y ∧ Below v.heap.size v (w.alloc o)) (hp : p < w.heap.size) (hw : v.heap.size ≤ w.heap.size) :
    (w.alloc o').cell? ⟨p, 0, none⟩ = some x ∧ (w.alloc o').cell? ⟨p, 1, none⟩ = some y ∧ Below v.heap.size v (w.alloc o') := by
  have e1 := (alloc_below w o).block p hp
  have e2 := (alloc_below w o').block p hp
  obtain ⟨h1, h2, h3⟩ := h
  refine ⟨?_, ?_, h3.os, h3.tape, h3.output, by rw [alloc_size]; omega, fun k hk => ?_⟩
  · rw [← h1]; simp only [World.cell?, e1, e2]
  · rw [← h2]; simp only [World.cell?, e1, e2]
  · rw [← h3.block k hk, (alloc_below w o).block k (by omega), (alloc_below w o').block k (by omega)]
theorem s3Store {v w : World} {p q : Nat} {x y a b : Value} (h : w.cell? ⟨p, 0, none⟩ = some x ∧ w.cell? ⟨p, 1, none⟩ = some y ∧ Below v.heap.size v w) (hp : p < q) (hq : v.heap.size ≤ q) :
    ((w.setCell ⟨q, 0, none⟩ a).setCell ⟨q, 1, none⟩ b).cell? ⟨p, 0, none⟩ = some x ∧ ((w.setCell ⟨q, 0, none⟩ a).setCell ⟨q, 1, none⟩ b).cell? ⟨p, 1, none⟩ = some y ∧ Below v.heap.size v ((w.setCell ⟨q, 0, none⟩ a).setCell ⟨q, 1, none⟩ b) :=
  ⟨cellOther (cellOther h.1 (by omega)) (by omega), cellOther (cellOther h.2.1 (by omega)) (by omega), below_set2 h.2.2 hq _ _⟩
theorem s3Size {P Q : Prop} {v w w1 : World} {B : Nat} (h : P ∧ Q ∧ Below B v w) (hB : Below w.heap.size w w1) : v.heap.size ≤ w1.heap.size := Nat.le_trans h.2.2.size hB.size
def PairAt (w : World) (q : Nat) (a b : Value) : Prop := w.cell? ⟨q, 0, none⟩ = some a ∧ w.cell? ⟨q, 1, none⟩ = some b ∧ w.frozen? ⟨q, 0, none⟩ = false ∧ w.frozen? ⟨q, 1, none⟩ = false
theorem pairNew (w : World) (a b : Value) (t : TypeId) : PairAt (w.alloc (.cells #[a, b] t)) w.heap.size a b := by
  have h := heap_alloc_new w (.cells #[a, b] t)
  exact ⟨(cell2 h).1, (cell2b h).1, (cell2 h).2, (cell2b h).2⟩
theorem pairVia {w w' : World} {q : Nat} {a b : Value} (hB : Below w.heap.size w w') (h : PairAt w q a b) : PairAt w' q a b :=
  ⟨keptBelow hB h.1, keptBelow hB h.2.1, frozenBelow hB h.1 h.2.2.1, frozenBelow hB h.2.1 h.2.2.2⟩
/-- A fraction in a box. -/
structure BoxQ (p : Nat) (x y : ByteArray) (w : World) : Prop where
  a : w.cell? ⟨p, 0, none⟩ = some (.string x)
  b : w.cell? ⟨p, 1, none⟩ = some (.string y)
theorem BoxQ.via {p : Nat} {x y : ByteArray} {w w' : World} (h : BoxQ p x y w) (hB : Below w.heap.size w w') : BoxQ p x y w' := ⟨keptBelow hB h.a, keptBelow hB h.b⟩
theorem BoxQ.new (w : World) (x y : ByteArray) : BoxQ w.heap.size x y (w.alloc (.cells #[.string x, .string y] 23)) := ⟨(cell_row2 w _ _ _).1, (cell_row2 w _ _ _).2.1⟩
theorem BoxQ.stored {w : World} {q : Nat} {a b : Value} {x y : ByteArray} (h0 : w.cell? ⟨q, 0, none⟩ = some a) (h1 : w.cell? ⟨q, 1, none⟩ = some b) : BoxQ q x y ((w.setCell ⟨q, 0, none⟩ (.string x)).setCell ⟨q, 1, none⟩ (.string y)) := by
  have ne : (⟨q, 0, none⟩ : Addr) ≠ ⟨q, 1, none⟩ := fun e => by have e2 := congrArg Addr.off e; dsimp only at e2; omega
  refine ⟨?_, ?_⟩
  · rw [World.cell?_setCell_other _ _ _ _ (Ne.symm ne)]
    exact World.cell?_setCell_same' _ _ _ (by rw [h0]; rfl)
  · exact World.cell?_setCell_same' _ _ _ (by rw [World.cell?_setCell_other _ _ _ _ ne, h1]; rfl)
theorem BoxQ.lt {p : Nat} {x y : ByteArray} {w : World} (h : BoxQ p x y w) : p < w.heap.size := lt_of_cell h.a
theorem BoxQ.setO {p q : Nat} {x y : ByteArray} {a b : Value} {w : World} (h : BoxQ p x y w) (hne : p ≠ q) : BoxQ p x y ((w.setCell ⟨q, 0, none⟩ a).setCell ⟨q, 1, none⟩ b) := ⟨cellOther (cellOther h.a hne) hne, cellOther (cellOther h.b hne) hne⟩
theorem want_setO {q : Nat} {a b : Value} {w : World} (h : w.heap[q]? = some (.cells #[a, b] 23 (0, 0))) (x y : Value) : ((w.setCell ⟨q, 0, none⟩ x).setCell ⟨q, 1, none⟩ y).heap[q]? = some (.cells #[x, y] 23 (0, 0)) :=
  heap_setCell_same _ _ 1 _ _ y (heap_setCell_same w _ 0 _ _ x h)
end Go.Proofs.YtelckldddflmmaaGreatDoor
/- RatSaneW: The fixed examples of layer 4 hold. -/
namespace Go.Proofs.YtelckldddflmmaaGreatDoor
open Go.RowKit Putlog

theorem s14Keep {v w w1 : World} {p0 p1 p2 p3 p4 p5 p6 : Nat} {x0 y0 x1 y1 x2 y2 x3 y3 x4 y4 x5 y5 x6 y6 : Value} (h : w.cell? ⟨p0, 0, none⟩ = some x0 ∧ w.cell? ⟨p0, 1, none⟩ = some y0 ∧ w.cell? ⟨p1, 0, none⟩ = some x1 ∧ w.cell? ⟨p1, 1, none⟩ = some y1 ∧ w.cell? ⟨p2, 0, none⟩ = some x2 ∧ w.cell? ⟨p2, 1, none⟩ = some y2 ∧ w.cell? ⟨p3, 0, none⟩ = some x3 ∧ w.cell? ⟨p3, 1, none⟩ = some y3 ∧ w.cell? ⟨p4, 0, none⟩ = some x4 ∧ w.cell? ⟨p4, 1, none⟩ = some y4 ∧ w.cell? ⟨p5, 0, none⟩ = some x5 ∧ w.cell? ⟨p5, 1, none⟩ = some y5 ∧ w.cell? ⟨p6, 0, none⟩ = some x6 ∧ w.cell? ⟨p6, 1, none⟩ = some y6 ∧ Below v.heap.size v w) (hB : Below w.heap.size w w1) : w1.cell? ⟨p0, 0, none⟩ = some x0 ∧ w1.cell? ⟨p0, 1, none⟩ = some y0 ∧ w1.cell? ⟨p1, 0, none⟩ = some x1 ∧ w1.cell? ⟨p1, 1, none⟩ = some y1 ∧ w1.cell? ⟨p2, 0, none⟩ = some x2 ∧ w1.cell? ⟨p2, 1, none⟩ = some y2 ∧ w1.cell? ⟨p3, 0, none⟩ = some x3 ∧ w1.cell? ⟨p3, 1, none⟩ = some y3 ∧ w1.cell? ⟨p4, 0, none⟩ = some x4 ∧ w1.cell? ⟨p4, 1, none⟩ = some y4 ∧ w1.cell? ⟨p5, 0, none⟩ = some x5 ∧ w1.cell? ⟨p5, 1, none⟩ = some y5 ∧ w1.cell? ⟨p6, 0, none⟩ = some x6 ∧ w1.cell? ⟨p6, 1, none⟩ = some y6 ∧ Below v.heap.size v w1 := by
  obtain ⟨a0, b0, a1, b1, a2, b2, a3, b3, a4, b4, a5, b5, a6, b6, h⟩ := h
  exact ⟨keptBelow hB a0, keptBelow hB b0, keptBelow hB a1, keptBelow hB b1, keptBelow hB a2, keptBelow hB b2, keptBelow hB a3, keptBelow hB b3, keptBelow hB a4, keptBelow hB b4, keptBelow hB a5, keptBelow hB b5, keptBelow hB a6, keptBelow hB b6, belowVia hB h⟩
set_option maxRecDepth 100000 in
set_option maxHeartbeats 8000000 in
theorem sane_q (W : World) (hT : TabP W) : Calls Tryz.prog 6 #[] W fun e w' => e = .returned (.bool true) ∧ Below W.heap.size W w' := by
  have HW := Lib.hid (Below.refl W.heap.size W)
  have HT := Lib.hid hT
  clear hT
  go_enter Tryz.func6, Tryz.ntmps6
  go_wp2_with fail
  refine (e_of1 _ HT.out).mono ?_
  rintro e w1 ⟨rfl, hB⟩
  have HW := Lib.hid (belowVia hB HW.out)
  have HT := Lib.hid (HT.out.via hB)
  clear hB
  go_wp2_with fail
  have Ba := Lib.hid (BoxQ.new w1 ⟨#[45, 51]⟩ ⟨#[50]⟩)
  have HW := Lib.hid (belowVia (alloc_below w1 (.cells #[.string ⟨#[45, 51]⟩, .string ⟨#[50]⟩] 23)) HW.out)
  have HT := Lib.hid (HT.out.via (alloc_below w1 (.cells #[.string ⟨#[45, 51]⟩, .string ⟨#[50]⟩] 23)))
  generalize w1.alloc (.cells #[.string ⟨#[45, 51]⟩, .string ⟨#[50]⟩] 23) = v1 at *
  generalize w1.heap.size = pBa at *
  refine (e_of2 _ HT.out).mono ?_
  rintro e w2 ⟨rfl, hB⟩
  have Ba := Lib.hid (Ba.out.via hB)
  have HW := Lib.hid (belowVia hB HW.out)
  have HT := Lib.hid (HT.out.via hB)
  clear hB
  go_wp2_with fail
  have Ba := Lib.hid (Ba.out.via (alloc_below w2 (.cells #[.string ⟨#[48]⟩, .string ⟨#[49]⟩] 23)))
  have Bb := Lib.hid (BoxQ.new w2 ⟨#[48]⟩ ⟨#[49]⟩)
  have HW := Lib.hid (belowVia (alloc_below w2 (.cells #[.string ⟨#[48]⟩, .string ⟨#[49]⟩] 23)) HW.out)
  have HT := Lib.hid (HT.out.via (alloc_below w2 (.cells #[.string ⟨#[48]⟩, .string ⟨#[49]⟩] 23)))
  generalize w2.alloc (.cells #[.string ⟨#[48]⟩, .string ⟨#[49]⟩] 23) = v2 at *
  generalize w2.heap.size = pBb at *
  refine (e_of3 _ HT.out).mono ?_
  rintro e w3 ⟨rfl, hB⟩
  have Ba := Lib.hid (Ba.out.via hB)
  have Bb := Lib.hid (Bb.out.via hB)
  have HW := Lib.hid (belowVia hB HW.out)
  have HT := Lib.hid (HT.out.via hB)
  clear hB
  go_wp2_with fail
  have Ba := Lib.hid (Ba.out.via (alloc_below w3 (.cells #[.string ⟨#[]⟩, .string ⟨#[]⟩] 23)))
  have Bb := Lib.hid (Bb.out.via (alloc_below w3 (.cells #[.string ⟨#[]⟩, .string ⟨#[]⟩] 23)))
  have Bx := Lib.hid (BoxQ.new w3 ⟨#[]⟩ ⟨#[]⟩)
  have HW := Lib.hid (belowVia (alloc_below w3 (.cells #[.string ⟨#[]⟩, .string ⟨#[]⟩] 23)) HW.out)
  have HT := Lib.hid (HT.out.via (alloc_below w3 (.cells #[.string ⟨#[]⟩, .string ⟨#[]⟩] 23)))
  generalize w3.alloc (.cells #[.string ⟨#[]⟩, .string ⟨#[]⟩] 23) = v3 at *
  generalize w3.heap.size = pBx at *
  refine (is_q ⟨#[49]⟩ ⟨#[50]⟩ _).mono ?_
  rintro e w4 ⟨rfl, hB⟩
  have Ba := Lib.hid (Ba.out.via hB)
  have Bb := Lib.hid (Bb.out.via hB)
  have Bx := Lib.hid (Bx.out.via hB)
  have HW := Lib.hid (belowVia hB HW.out)
  have HT := Lib.hid (HT.out.via hB)
  clear hB
  go_wp2_with fail
  refine (is_q ⟨#[49]⟩ ⟨#[51]⟩ _).mono ?_
  rintro e w5 ⟨rfl, hB⟩
  have Ba := Lib.hid (Ba.out.via hB)
  have Bb := Lib.hid (Bb.out.via hB)
  have Bx := Lib.hid (Bx.out.via hB)
  have HW := Lib.hid (belowVia hB HW.out)
  have HT := Lib.hid (HT.out.via hB)
  clear hB
  go_wp2_with fail
  refine (e_add _).mono ?_
  rintro e w6 ⟨rfl, hB⟩
  have Ba := Lib.hid (Ba.out.via hB)
  have Bb := Lib.hid (Bb.out.via hB)
  have Bx := Lib.hid (Bx.out.via hB)
  have HW := Lib.hid (belowVia hB HW.out)
  have HT := Lib.hid (HT.out.via hB)
  clear hB
  go_wp2_with fail
  have Ba := Lib.hid (Ba.out.via (alloc_below w6 (.cells #[.string ⟨#[53]⟩, .string ⟨#[54]⟩] 23)))
  have Bb := Lib.hid (Bb.out.via (alloc_below w6 (.cells #[.string ⟨#[53]⟩, .string ⟨#[54]⟩] 23)))
  have Bx := Lib.hid (Bx.out.via (alloc_below w6 (.cells #[.string ⟨#[53]⟩, .string ⟨#[54]⟩] 23)))
  have Bc := Lib.hid (BoxQ.new w6 ⟨#[53]⟩ ⟨#[54]⟩)
  have HW := Lib.hid (belowVia (alloc_below w6 (.cells #[.string ⟨#[53]⟩, .string ⟨#[54]⟩] 23)) HW.out)
  have HT := Lib.hid (HT.out.via (alloc_below w6 (.cells #[.string ⟨#[53]⟩, .string ⟨#[54]⟩] 23)))
  generalize w6.alloc (.cells #[.string ⟨#[53]⟩, .string ⟨#[54]⟩] 23) = v6 at *
  generalize w6.heap.size = pBc at *
  refine (is_q ⟨#[49]⟩ ⟨#[50]⟩ _).mono ?_
  rintro e w7 ⟨rfl, hB⟩
  have Ba := Lib.hid (Ba.out.via hB)
  have Bb := Lib.hid (Bb.out.via hB)
  have Bx := Lib.hid (Bx.out.via hB)
  have Bc := Lib.hid (Bc.out.via hB)
  have HW := Lib.hid (belowVia hB HW.out)
  have HT := Lib.hid (HT.out.via hB)
  clear hB
  go_wp2_with fail
  refine (is_q ⟨#[45, 49]⟩ ⟨#[52]⟩ _).mono ?_
  rintro e w8 ⟨rfl, hB⟩
  have Ba := Lib.hid (Ba.out.via hB)
  have Bb := Lib.hid (Bb.out.via hB)
  have Bx := Lib.hid (Bx.out.via hB)
  have Bc := Lib.hid (Bc.out.via hB)
  have HW := Lib.hid (belowVia hB HW.out)
  have HT := Lib.hid (HT.out.via hB)
  clear hB
  go_wp2_with fail
  refine (e_div1 _).mono ?_
  rintro e w9 ⟨rfl, hB⟩
  have Ba := Lib.hid (Ba.out.via hB)
  have Bb := Lib.hid (Bb.out.via hB)
  have Bx := Lib.hid (Bx.out.via hB)
  have Bc := Lib.hid (Bc.out.via hB)
  have HW := Lib.hid (belowVia hB HW.out)
  have HT := Lib.hid (HT.out.via hB)
  clear hB
  go_wp2_with fail
  have Ba := Lib.hid (Ba.out.via (alloc_below w9 (.cells #[.string ⟨#[45, 50]⟩, .string ⟨#[49]⟩] 23)))
  have Bb := Lib.hid (Bb.out.via (alloc_below w9 (.cells #[.string ⟨#[45, 50]⟩, .string ⟨#[49]⟩] 23)))
  have Bx := Lib.hid (Bx.out.via (alloc_below w9 (.cells #[.string ⟨#[45, 50]⟩, .string ⟨#[49]⟩] 23)))
  have Bc := Lib.hid (Bc.out.via (alloc_below w9 (.cells #[.string ⟨#[45, 50]⟩, .string ⟨#[49]⟩] 23)))
  have Bd := Lib.hid (BoxQ.new w9 ⟨#[45, 50]⟩ ⟨#[49]⟩)
  have HW := Lib.hid (belowVia (alloc_below w9 (.cells #[.string ⟨#[45, 50]⟩, .string ⟨#[49]⟩] 23)) HW.out)
  have HT := Lib.hid (HT.out.via (alloc_below w9 (.cells #[.string ⟨#[45, 50]⟩, .string ⟨#[49]⟩] 23)))
  generalize w9.alloc (.cells #[.string ⟨#[45, 50]⟩, .string ⟨#[49]⟩] 23) = v9 at *
  generalize w9.heap.size = pBd at *
  have LV := Lib.hid Bb.out.lt
  go_cut [11, 12] (fun s11 s12 wx => Hid (∃ q, s11 = .pointer (some ⟨q, 0, none⟩)) ∧ s12 = .int .i64 40 ∧ BoxQ pBa ⟨#[45, 51]⟩ ⟨#[50]⟩ wx ∧ BoxQ pBb ⟨#[48]⟩ ⟨#[49]⟩ wx ∧ BoxQ pBx ⟨#[]⟩ ⟨#[]⟩ wx ∧ BoxQ pBc ⟨#[53]⟩ ⟨#[54]⟩ wx ∧ BoxQ pBd ⟨#[45, 50]⟩ ⟨#[49]⟩ wx ∧ Below W.heap.size W wx ∧ TabP wx)
  case first =>
    obtain ⟨l0, l1⟩ := Bb.out
    have lv := LV.out
    go_region_held3 (fun w' => w'.cell? ⟨pBb, 0, none⟩ = some (.string ⟨#[48]⟩) ∧ w'.cell? ⟨pBb, 1, none⟩ = some (.string ⟨#[49]⟩) ∧ Below v9.heap.size v9 w')
      (first | exact ⟨l0, l1, (Below.refl _ _).drew⟩ | exact s3Keep (by assumption) (alloc_below _ _) | exact s3Keep (by assumption) hB1 | exact s3Keep (by assumption) hB3 | exact s3Swap (by assumption) (by omega) (by omega) | exact s3Store (by assumption) (by omega) (by omega)) (first
      | (go_at_call 35; (with_reducible refine (is_q _ _ _).mono ?_); rintro e u1 ⟨rfl, hB1⟩; have M1 : v9.heap.size ≤ u1.heap.size := s3Size (by assumption) hB1; (first | have X1 := pairVia hB1 (pairNew _ _ _ _) | skip))
      | (go_at_call 36; (with_reducible refine (e_div2 _).mono ?_); rintro e u3 ⟨rfl, hB3⟩; have M3 : v9.heap.size ≤ u3.heap.size := s3Size (by assumption) hB3; (first | have X3 := pairVia hB3 X1 | have X3 := pairVia hB3 (pairNew _ _ _ _) | skip); (first | (obtain ⟨X5, X6, X7, X8⟩ := X3; (try simp only [alloc_size] at X5 X6 X7 X8); (try simp only [drew_size] at X5 X6 X7 X8)) | skip)))
    all_goals
      have HH : Hid (Below v9.heap.size v9 _) := And.right (And.right (by assumption))
      go_wp2_with fail
      go_meet
      case rel => exact ⟨⟨_, rfl⟩, rfl, Ba.out.via HH.out, Bb.out.via HH.out, Bx.out.via HH.out, Bc.out.via HH.out, Bd.out.via HH.out, belowVia HH.out HW.out, HT.out.via HH.out⟩
  case rest =>
    obtain ⟨hq, rfl, Ba, Bb, Bx, Bc, Bd, HW, HT⟩ := hcut
    obtain ⟨q, rfl⟩ := hq.out
    have Ba := Lib.hid Ba
    have Bb := Lib.hid Bb
    have Bx := Lib.hid Bx
    have Bc := Lib.hid Bc
    have Bd := Lib.hid Bd
    have HW := Lib.hid HW
    have HT := Lib.hid HT
    clear hq
    go_wp2_with fail
    refine (is_q ⟨#[45, 49]⟩ ⟨#[51]⟩ _).mono ?_
    rintro e w21 ⟨rfl, hB⟩
    have Ba := Lib.hid (Ba.out.via hB)
    have Bb := Lib.hid (Bb.out.via hB)
    have Bc := Lib.hid (Bc.out.via hB)
    have Bd := Lib.hid (Bd.out.via hB)
    have HW := Lib.hid (belowVia hB HW.out)
    have HT := Lib.hid (HT.out.via hB)
    clear hB
    go_wp2_with fail
    refine (e_down _).mono ?_
    rintro e w22 ⟨rfl, hB⟩
    have Ba := Lib.hid (Ba.out.via hB)
    have Bb := Lib.hid (Bb.out.via hB)
    have Bc := Lib.hid (Bc.out.via hB)
    have Bd := Lib.hid (Bd.out.via hB)
    have HW := Lib.hid (belowVia hB HW.out)
    have HT := Lib.hid (HT.out.via hB)
    clear hB
    go_wp2_with fail
    have Ba := Lib.hid (Ba.out.via (alloc_below w22 (.cells #[.string ⟨#[45, 49, 55]⟩, .string ⟨#[53, 48]⟩] 23)))
    have Bb := Lib.hid (Bb.out.via (alloc_below w22 (.cells #[.string ⟨#[45, 49, 55]⟩, .string ⟨#[53, 48]⟩] 23)))
    have Bc := Lib.hid (Bc.out.via (alloc_below w22 (.cells #[.string ⟨#[45, 49, 55]⟩, .string ⟨#[53, 48]⟩] 23)))
    have Bd := Lib.hid (Bd.out.via (alloc_below w22 (.cells #[.string ⟨#[45, 49, 55]⟩, .string ⟨#[53, 48]⟩] 23)))
    have Be := Lib.hid (BoxQ.new w22 ⟨#[45, 49, 55]⟩ ⟨#[53, 48]⟩)
    have HW := Lib.hid (belowVia (alloc_below w22 (.cells #[.string ⟨#[45, 49, 55]⟩, .string ⟨#[53, 48]⟩] 23)) HW.out)
    have HT := Lib.hid (HT.out.via (alloc_below w22 (.cells #[.string ⟨#[45, 49, 55]⟩, .string ⟨#[53, 48]⟩] 23)))
    generalize w22.alloc (.cells #[.string ⟨#[45, 49, 55]⟩, .string ⟨#[53, 48]⟩] 23) = v22 at *
    generalize w22.heap.size = pBe at *
    refine (is_q ⟨#[49]⟩ ⟨#[51]⟩ _).mono ?_
    rintro e w23 ⟨rfl, hB⟩
    have Ba := Lib.hid (Ba.out.via hB)
    have Bb := Lib.hid (Bb.out.via hB)
    have Bc := Lib.hid (Bc.out.via hB)
    have Bd := Lib.hid (Bd.out.via hB)
    have Be := Lib.hid (Be.out.via hB)
    have HW := Lib.hid (belowVia hB HW.out)
    have HT := Lib.hid (HT.out.via hB)
    clear hB
    go_wp2_with fail
    refine (e_up _).mono ?_
    rintro e w24 ⟨rfl, hB⟩
    have Ba := Lib.hid (Ba.out.via hB)
    have Bb := Lib.hid (Bb.out.via hB)
    have Bc := Lib.hid (Bc.out.via hB)
    have Bd := Lib.hid (Bd.out.via hB)
    have Be := Lib.hid (Be.out.via hB)
    have HW := Lib.hid (belowVia hB HW.out)
    have HT := Lib.hid (HT.out.via hB)
    clear hB
    go_wp2_with fail
    have Ba := Lib.hid (Ba.out.via (alloc_below w24 (.cells #[.string ⟨#[49, 55]⟩, .string ⟨#[53, 48]⟩] 23)))
    have Bb := Lib.hid (Bb.out.via (alloc_below w24 (.cells #[.string ⟨#[49, 55]⟩, .string ⟨#[53, 48]⟩] 23)))
    have Bc := Lib.hid (Bc.out.via (alloc_below w24 (.cells #[.string ⟨#[49, 55]⟩, .string ⟨#[53, 48]⟩] 23)))
    have Bd := Lib.hid (Bd.out.via (alloc_below w24 (.cells #[.string ⟨#[49, 55]⟩, .string ⟨#[53, 48]⟩] 23)))
    have Be := Lib.hid (Be.out.via (alloc_below w24 (.cells #[.string ⟨#[49, 55]⟩, .string ⟨#[53, 48]⟩] 23)))
    have Bf := Lib.hid (BoxQ.new w24 ⟨#[49, 55]⟩ ⟨#[53, 48]⟩)
    have HW := Lib.hid (belowVia (alloc_below w24 (.cells #[.string ⟨#[49, 55]⟩, .string ⟨#[53, 48]⟩] 23)) HW.out)
    have HT := Lib.hid (HT.out.via (alloc_below w24 (.cells #[.string ⟨#[49, 55]⟩, .string ⟨#[53, 48]⟩] 23)))
    generalize w24.alloc (.cells #[.string ⟨#[49, 55]⟩, .string ⟨#[53, 48]⟩] 23) = v24 at *
    generalize w24.heap.size = pBf at *
    refine (e_parse1 _).mono ?_
    rintro e w25 ⟨rfl, hB⟩
    have Ba := Lib.hid (Ba.out.via hB)
    have Bb := Lib.hid (Bb.out.via hB)
    have Bc := Lib.hid (Bc.out.via hB)
    have Bd := Lib.hid (Bd.out.via hB)
    have Be := Lib.hid (Be.out.via hB)
    have Bf := Lib.hid (Bf.out.via hB)
    have HW := Lib.hid (belowVia hB HW.out)
    have HT := Lib.hid (HT.out.via hB)
    clear hB
    go_wp2_with fail
    have Ba := Lib.hid (Ba.out.via (alloc_below w25 (.cells #[.string ⟨#[45, 51]⟩, .string ⟨#[50]⟩] 23)))
    have Bb := Lib.hid (Bb.out.via (alloc_below w25 (.cells #[.string ⟨#[45, 51]⟩, .string ⟨#[50]⟩] 23)))
    have Bc := Lib.hid (Bc.out.via (alloc_below w25 (.cells #[.string ⟨#[45, 51]⟩, .string ⟨#[50]⟩] 23)))
    have Bd := Lib.hid (Bd.out.via (alloc_below w25 (.cells #[.string ⟨#[45, 51]⟩, .string ⟨#[50]⟩] 23)))
    have Be := Lib.hid (Be.out.via (alloc_below w25 (.cells #[.string ⟨#[45, 51]⟩, .string ⟨#[50]⟩] 23)))
    have Bf := Lib.hid (Bf.out.via (alloc_below w25 (.cells #[.string ⟨#[45, 51]⟩, .string ⟨#[50]⟩] 23)))
    have Bg := Lib.hid (BoxQ.new w25 ⟨#[45, 51]⟩ ⟨#[50]⟩)
    have HW := Lib.hid (belowVia (alloc_below w25 (.cells #[.string ⟨#[45, 51]⟩, .string ⟨#[50]⟩] 23)) HW.out)
    have HT := Lib.hid (HT.out.via (alloc_below w25 (.cells #[.string ⟨#[45, 51]⟩, .string ⟨#[50]⟩] 23)))
    generalize w25.alloc (.cells #[.string ⟨#[45, 51]⟩, .string ⟨#[50]⟩] 23) = v25 at *
    generalize w25.heap.size = pBg at *
    refine (e_parse2 _).mono ?_
    rintro e w26 ⟨rfl, hB⟩
    have Ba := Lib.hid (Ba.out.via hB)
    have Bb := Lib.hid (Bb.out.via hB)
    have Bc := Lib.hid (Bc.out.via hB)
    have Bd := Lib.hid (Bd.out.via hB)
    have Be := Lib.hid (Be.out.via hB)
    have Bf := Lib.hid (Bf.out.via hB)
    have Bg := Lib.hid (Bg.out.via hB)
    have HW := Lib.hid (belowVia hB HW.out)
    have HT := Lib.hid (HT.out.via hB)
    clear hB
    go_wp2_with fail
    have Ba := Lib.hid (Ba.out.via (alloc_below w26 (.cells #[.string ⟨#[]⟩, .string ⟨#[]⟩] 23)))
    have Bb := Lib.hid (Bb.out.via (alloc_below w26 (.cells #[.string ⟨#[]⟩, .string ⟨#[]⟩] 23)))
    have Bc := Lib.hid (Bc.out.via (alloc_below w26 (.cells #[.string ⟨#[]⟩, .string ⟨#[]⟩] 23)))
    have Bd := Lib.hid (Bd.out.via (alloc_below w26 (.cells #[.string ⟨#[]⟩, .string ⟨#[]⟩] 23)))
    have Be := Lib.hid (Be.out.via (alloc_below w26 (.cells #[.string ⟨#[]⟩, .string ⟨#[]⟩] 23)))
    have Bf := Lib.hid (Bf.out.via (alloc_below w26 (.cells #[.string ⟨#[]⟩, .string ⟨#[]⟩] 23)))
    have Bg := Lib.hid (Bg.out.via (alloc_below w26 (.cells #[.string ⟨#[]⟩, .string ⟨#[]⟩] 23)))
    have Bz := Lib.hid (BoxQ.new w26 ⟨#[]⟩ ⟨#[]⟩)
    have HW := Lib.hid (belowVia (alloc_below w26 (.cells #[.string ⟨#[]⟩, .string ⟨#[]⟩] 23)) HW.out)
    have HT := Lib.hid (HT.out.via (alloc_below w26 (.cells #[.string ⟨#[]⟩, .string ⟨#[]⟩] 23)))
    generalize w26.alloc (.cells #[.string ⟨#[]⟩, .string ⟨#[]⟩] 23) = v26 at *
    generalize w26.heap.size = pBz at *
    obtain ⟨Ba0, Ba1⟩ := Ba.out
    obtain ⟨Bb0, Bb1⟩ := Bb.out
    obtain ⟨Bc0, Bc1⟩ := Bc.out
    obtain ⟨Bd0, Bd1⟩ := Bd.out
    obtain ⟨Be0, Be1⟩ := Be.out
    obtain ⟨Bf0, Bf1⟩ := Bf.out
    obtain ⟨Bg0, Bg1⟩ := Bg.out
    go_region_held3 (fun w' => w'.cell? ⟨pBa, 0, none⟩ = some (.string ⟨#[45, 51]⟩) ∧ w'.cell? ⟨pBa, 1, none⟩ = some (.string ⟨#[50]⟩) ∧ w'.cell? ⟨pBb, 0, none⟩ = some (.string ⟨#[48]⟩) ∧ w'.cell? ⟨pBb, 1, none⟩ = some (.string ⟨#[49]⟩) ∧ w'.cell? ⟨pBc, 0, none⟩ = some (.string ⟨#[53]⟩) ∧ w'.cell? ⟨pBc, 1, none⟩ = some (.string ⟨#[54]⟩) ∧ w'.cell? ⟨pBd, 0, none⟩ = some (.string ⟨#[45, 50]⟩) ∧ w'.cell? ⟨pBd, 1, none⟩ = some (.string ⟨#[49]⟩) ∧ w'.cell? ⟨pBe, 0, none⟩ = some (.string ⟨#[45, 49, 55]⟩) ∧ w'.cell? ⟨pBe, 1, none⟩ = some (.string ⟨#[53, 48]⟩) ∧ w'.cell? ⟨pBf, 0, none⟩ = some (.string ⟨#[49, 55]⟩) ∧ w'.cell? ⟨pBf, 1, none⟩ = some (.string ⟨#[53, 48]⟩) ∧ w'.cell? ⟨pBg, 0, none⟩ = some (.string ⟨#[45, 51]⟩) ∧ w'.cell? ⟨pBg, 1, none⟩ = some (.string ⟨#[50]⟩) ∧ Below v26.heap.size v26 w')
      (first | exact ⟨Ba0, Ba1, Bb0, Bb1, Bc0, Bc1, Bd0, Bd1, Be0, Be1, Bf0, Bf1, Bg0, Bg1, (Below.refl _ _).drew⟩ | exact s14Keep (by assumption) hB) (first
      | (go_at_call 35; (with_reducible refine (is_q _ _ _).mono ?_); rintro e u ⟨rfl, hB⟩)
      | (go_at_call 28; (with_reducible refine (e_print _).mono ?_); rintro e u ⟨rfl, hB⟩)
      | (go_at_call 15; (with_reducible refine (e_cmp _).mono ?_); rintro e u ⟨rfl, hB⟩)
      | (go_at_call 24; (with_reducible refine (e_val1 _).mono ?_); rintro e u ⟨rfl, hB⟩)
      | (go_at_call 24; (with_reducible refine (e_val2 _).mono ?_); rintro e u ⟨rfl, hB⟩))
    have HH : Hid (Below v26.heap.size v26 _) := And.right (And.right (And.right (And.right (And.right (And.right (And.right (And.right (And.right (And.right (And.right (And.right (And.right (And.right (by assumption))))))))))))))
    go_wp2_with fail
    go_ret
    exact ⟨rfl, belowVia HH.out HW.out⟩
end Go.Proofs.YtelckldddflmmaaGreatDoor
/- RatFourP: The four operations' results, as the law's helper returns them. -/
namespace Go.Proofs.YtelckldddflmmaaGreatDoor
open Go.RowKit Putlog

/-- The six boxes of the helper, one behind the other. -/
structure FourAt (p : Nat) (x1 x2 y1 y2 : ByteArray) (rs es : Array Value) (w : World) : Prop where
  a : w.heap[p]? = some (.cells #[.string x1, .string x2] 23 (0, 0))
  b : w.heap[p + 1]? = some (.cells #[.string y1, .string y2] 23 (0, 0))
  c : w.heap[p + 1 + 1]? = some (.cells #[.string ⟨#[]⟩, .string ⟨#[]⟩, .string ⟨#[]⟩, .string ⟨#[]⟩, .string ⟨#[]⟩, .string ⟨#[]⟩, .string ⟨#[]⟩, .string ⟨#[]⟩] 31 (0, 0))
  d : w.heap[p + 1 + 1 + 1]? = some (.cells #[.int .i64 0, .int .i64 0, .int .i64 0, .int .i64 0] 33 (0, 0))
  r : w.heap[p + 1 + 1 + 1 + 1]? = some (.cells rs 31 (0, 0))
  e : w.heap[p + 1 + 1 + 1 + 1 + 1]? = some (.cells es 33 (0, 0))
theorem FourAt.via {p : Nat} {x1 x2 y1 y2 : ByteArray} {rs es : Array Value} {w w' : World} (h : FourAt p x1 x2 y1 y2 rs es w) (hB : Below w.heap.size w w') : FourAt p x1 x2 y1 y2 rs es w' :=
  ⟨heap_below hB h.a, heap_below hB h.b, heap_below hB h.c, heap_below hB h.d, heap_below hB h.r, heap_below hB h.e⟩
theorem FourAt.setR {p : Nat} {x1 x2 y1 y2 : ByteArray} {rs es : Array Value} {w : World} (h : FourAt p x1 x2 y1 y2 rs es w) (i : Nat) (v : Value) : FourAt p x1 x2 y1 y2 (rs.setIfInBounds i v) es (w.setCell ⟨p + 1 + 1 + 1 + 1, i, none⟩ v) :=
  ⟨(heap_setCell_other _ _ _ _ (by show p ≠ p + 1 + 1 + 1 + 1; omega)).trans h.a, (heap_setCell_other _ _ _ _ (by show p + 1 ≠ p + 1 + 1 + 1 + 1; omega)).trans h.b, (heap_setCell_other _ _ _ _ (by show p + 1 + 1 ≠ p + 1 + 1 + 1 + 1; omega)).trans h.c, (heap_setCell_other _ _ _ _ (by show p + 1 + 1 + 1 ≠ p + 1 + 1 + 1 + 1; omega)).trans h.d, heap_setCell_same _ _ _ _ _ _ h.r, (heap_setCell_other _ _ _ _ (by show p + 1 + 1 + 1 + 1 + 1 ≠ p + 1 + 1 + 1 + 1; omega)).trans h.e⟩
theorem FourAt.setE {p : Nat} {x1 x2 y1 y2 : ByteArray} {rs es : Array Value} {w : World} (h : FourAt p x1 x2 y1 y2 rs es w) (i : Nat) (v : Value) : FourAt p x1 x2 y1 y2 rs (es.setIfInBounds i v) (w.setCell ⟨p + 1 + 1 + 1 + 1 + 1, i, none⟩ v) :=
  ⟨(heap_setCell_other _ _ _ _ (by show p ≠ p + 1 + 1 + 1 + 1 + 1; omega)).trans h.a, (heap_setCell_other _ _ _ _ (by show p + 1 ≠ p + 1 + 1 + 1 + 1 + 1; omega)).trans h.b, (heap_setCell_other _ _ _ _ (by show p + 1 + 1 ≠ p + 1 + 1 + 1 + 1 + 1; omega)).trans h.c, (heap_setCell_other _ _ _ _ (by show p + 1 + 1 + 1 ≠ p + 1 + 1 + 1 + 1 + 1; omega)).trans h.d, (heap_setCell_other _ _ _ _ (by show p + 1 + 1 + 1 + 1 ≠ p + 1 + 1 + 1 + 1 + 1; omega)).trans h.r, heap_setCell_same _ _ _ _ _ _ h.e⟩
theorem FourAt.set3 {p : Nat} {x1 x2 y1 y2 : ByteArray} {rs es : Array Value} {w : World} (h : FourAt p x1 x2 y1 y2 rs es w) (i j k : Nat) (u v z : Value) : FourAt p x1 x2 y1 y2 ((rs.setIfInBounds i u).setIfInBounds j v) (es.setIfInBounds k z) (((w.setCell ⟨p + 1 + 1 + 1 + 1, i, none⟩ u).setCell ⟨p + 1 + 1 + 1 + 1, j, none⟩ v).setCell ⟨p + 1 + 1 + 1 + 1 + 1, k, none⟩ z) := ((h.setR i u).setR j v).setE k z
theorem FourAt.new (w : World) (x1 x2 y1 y2 : ByteArray) : FourAt w.heap.size x1 x2 y1 y2 #[.string ⟨#[]⟩, .string ⟨#[]⟩, .string ⟨#[]⟩, .string ⟨#[]⟩, .string ⟨#[]⟩, .string ⟨#[]⟩, .string ⟨#[]⟩, .string ⟨#[]⟩] #[.int .i64 0, .int .i64 0, .int .i64 0, .int .i64 0]
    ((((((w.alloc (.cells #[.string x1, .string x2] 23)).alloc (.cells #[.string y1, .string y2] 23)).alloc (.cells #[.string ⟨#[]⟩, .string ⟨#[]⟩, .string ⟨#[]⟩, .string ⟨#[]⟩, .string ⟨#[]⟩, .string ⟨#[]⟩, .string ⟨#[]⟩, .string ⟨#[]⟩] 31)).alloc (.cells #[.int .i64 0, .int .i64 0, .int .i64 0, .int .i64 0] 33)).alloc (.cells #[.string ⟨#[]⟩, .string ⟨#[]⟩, .string ⟨#[]⟩, .string ⟨#[]⟩, .string ⟨#[]⟩, .string ⟨#[]⟩, .string ⟨#[]⟩, .string ⟨#[]⟩] 31)).alloc (.cells #[.int .i64 0, .int .i64 0, .int .i64 0, .int .i64 0] 33)) := by
  have n1 := fun (w : World) o => heap_alloc_new w o
  have o1 := fun (w : World) o (r : Nat) (h : r < w.heap.size) => (alloc_below w o).block r h
  refine ⟨?_, ?_, ?_, ?_, ?_, ?_⟩ <;>
  · simp only [World.alloc, Array.getElem?_push, Array.size_push]
    repeat' (first | rfl | omega | split)
theorem four_below (w : World) (a b c d e f : Obj) : Below w.heap.size w ((((((w.alloc a).alloc b).alloc c).alloc d).alloc e).alloc f) :=
  belowVia (alloc_below _ _) (belowVia (alloc_below _ _) (belowVia (alloc_below _ _) (belowVia (alloc_below _ _) (belowVia (alloc_below _ _) (alloc_below _ _)))))
theorem below_set3 {B p : Nat} {a w : World} (h : Below B a w) (hp : B ≤ p) (i j k : Nat) (u v z : Value) : Below B a (((w.setCell ⟨p, i, none⟩ u).setCell ⟨p, j, none⟩ v).setCell ⟨p + 1, k, none⟩ z) :=
  ((h.setCell (p := ⟨p, i, none⟩) hp u).setCell (p := ⟨p, j, none⟩) hp v).setCell (p := ⟨p + 1, k, none⟩) (Nat.le_succ_of_le hp) z
theorem row_there {w : World} {g n : Nat} {cs : Array Value} {t : TypeId} (h : w.heap[g]? = some (.cells cs t (0, 0))) (hn : cs.size = n) : w.there g 0 n := fun j hj => by
  rw [Nat.zero_add, cell_of_row w g j _ _ _ h, Array.getElem?_eq_getElem (by omega)]
  exact ⟨rfl, frozen_of_row w g j _ _ h⟩
theorem row_range {w : World} {g : Nat} {cs : List Value} {t : TypeId} (h : w.heap[g]? = some (.cells cs.toArray t (0, 0))) : w.rangeAt g 0 cs := fun j v hj => by
  rw [Nat.zero_add, cell_of_row w g j _ _ _ h]; simpa using hj
theorem setCells_other (g : Nat) : ∀ (vs : List Value) (w : World) (o k : Nat), k ≠ g → (w.setCells g o vs).heap[k]? = w.heap[k]?
  | [], _, _, _, _ => rfl
  | v :: r, w, o, k, h => by rw [World.setCells, setCells_other g r _ _ _ h]; exact heap_setCell_other _ _ _ _ h
theorem below_setCells {B : Nat} {a : World} (g : Nat) (hg : B ≤ g) : ∀ (vs : List Value) (w : World) (o : Nat), Below B a w → Below B a (w.setCells g o vs)
  | [], _, _, h => h
  | v :: r, w, o, h => by rw [World.setCells]; exact below_setCells g hg r _ _ (h.setCell (p := ⟨g, o, none⟩) hg v)
theorem setCells_row (g : Nat) (t : TypeId) : ∀ (vs : List Value) (w : World) (pre : List Value) (cs : List Value), cs.length = vs.length → w.heap[g]? = some (.cells (pre ++ cs).toArray t (0, 0)) → (w.setCells g pre.length vs).heap[g]? = some (.cells (pre ++ vs).toArray t (0, 0))
  | [], w, pre, cs, hl, h => by
    obtain rfl : cs = [] := List.length_eq_zero_iff.1 hl
    exact h
  | v :: r, w, pre, cs, hl, h => by
    cases cs with
    | nil => cases hl
    | cons c cs =>
      have h1 := heap_setCell_same w g pre.length _ _ v h
      have e : ((pre ++ c :: cs).toArray.setIfInBounds pre.length v) = (pre ++ [v] ++ cs).toArray := by
        rw [List.setIfInBounds_toArray, List.set_append_right _ _ (Nat.le_refl _)]; simp
      rw [e] at h1
      have h2 := setCells_row g t r (w.setCell ⟨g, pre.length, none⟩ v) (pre ++ [v]) cs (by simpa using hl) h1
      rw [World.setCells]
      simpa using h2
theorem setCells_whole {w : World} {g : Nat} {t : TypeId} {cs : Array Value} (vs : List Value) (hl : cs.size = vs.length) (h : w.heap[g]? = some (.cells cs t (0, 0))) : (w.setCells g 0 vs).heap[g]? = some (.cells vs.toArray t (0, 0)) := by
  have := setCells_row g t vs w [] cs.toList (by simpa using hl) (by simpa using h)
  simpa using this
theorem info_four : (Tryz.prog.info? 31).map (·.size) = some 8 := by kernel_rfl
theorem info_errs : (Tryz.prog.info? 33).map (·.size) = some 4 := by kernel_rfl
theorem load_row4 {w : World} {g : Nat} {cs : Array Value} (hn : cs.size = 8) (hg : w.heap[g]? = some (.cells cs 31 (0, 0))) : (loadVar 31 ⟨g, 0, none⟩).run Tryz.prog w = .ok (.agg cs) w :=
  run_loadVar_row w g _ _ _ _ _ hg Tryz.underlying31 rfl (by rw [info_four, hn])
theorem load_errs4 {w : World} {g : Nat} {cs : Array Value} (hn : cs.size = 4) (hg : w.heap[g]? = some (.cells cs 33 (0, 0))) : (loadVar 33 ⟨g, 0, none⟩).run Tryz.prog w = .ok (.agg cs) w :=
  run_loadVar_row w g _ _ _ _ _ hg Tryz.underlying33 rfl (by rw [info_errs, hn])
theorem results_four {fn : Func} {p u : Tmp} (h : fn.results = #[.cell p 31, .cell u 33]) (tmps : Array Value) (w : World) (g k : Nat) (rs es : Array Value) (h8 : rs.size = 8) (h4 : es.size = 4) (hp : tmps.getD p undef = .pointer (some ⟨g, 0, none⟩)) (hu : tmps.getD u undef = .pointer (some ⟨k, 0, none⟩))
    (hg : w.heap[g]? = some (.cells rs 31 (0, 0))) (hk : w.heap[k]? = some (.cells es 33 (0, 0))) :
    (results fn tmps).run Tryz.prog w = .ok (.tuple #[.agg rs, .agg es]) w := by
  have hp' : tmps[p]?.getD undef = .pointer (some ⟨g, 0, none⟩) := by simpa using hp
  have hu' : tmps[u]?.getD undef = .pointer (some ⟨k, 0, none⟩) := by simpa using hu
  simp [results, h, hp', hu', asAddr, load_row4 h8 hg, load_errs4 h4 hk]
end Go.Proofs.YtelckldddflmmaaGreatDoor
