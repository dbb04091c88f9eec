/- Several texts of layers 7 and 8, one behind the other: PlnHullW, PlnMadeP. -/
import Derived.Test.YtcamncipkofgkaaDoorUM2
/- PlnHullW: The contract of the reference's Hull. -/
namespace Go.Proofs.YtcamncipkofgkaaDoor
open Go.RowKit Go.Shelf Pln

/-- One operation alone may come up, and it is wanted. -/
theorem wpT_oneW {F : Fence} {n : Nat} {P : Program} {ops : Array Oper} {Q : Exit → Act → World → Prop} {md : Region.Mode} {S : World → Prop} (i : Nat) {k : Nat} {oi : Oper} {fuel : Nat} {listed : Array Bool} {a : Act} {w : World} (hi : ops[i]? = some oi) (hg : Region.wanted oi (yielded ops a.tmps) = true) (hr : Region.ready md ops listed = [i])
    (h : oi.wpIn F n P a w (fun a' w' => ((listed.setIfInBounds i true).getD k true = false → S w') ∧ wpT F n P md ops Q S k fuel (listed.setIfInBounds i true) a' w') Q) : wpT F n P md ops Q S k (fuel + 1) listed a w := by
  refine ⟨fun h0 => (by rw [hr] at h0; cases h0), fun j hj => ?_⟩
  rw [hr] at hj
  obtain rfl : j = i := by simpa using hj
  unfold wpOpIn
  simp only [hi]
  rw [if_pos hg]
  exact h
/-- A box of one's own that holds a place. -/
def PBox (W : World) (b : Nat) (p : Pt) : Prop := W.heap[b]? = some (.cells #[.int .i64 p.1, .int .i64 p.2] 38 (0, 0))
theorem PBox.new (w : World) (x y : Int) : PBox (w.alloc (.cells #[.int .i64 x, .int .i64 y] 38)) w.heap.size (x, y) := heap_alloc_new w _
theorem PBox.via {W W' : World} {b : Nat} {p : Pt} (h : PBox W b p) (hB : Below W.heap.size W W') : PBox W' b p := heap_below hB h
theorem PBox.set {W : World} {b : Nat} {p : Pt} (h : PBox W b p) (x y : Int) : PBox ((W.setCell ⟨b, 0, none⟩ (.int .i64 x)).setCell ⟨b, 1, none⟩ (.int .i64 y)) b (x, y) :=
  (heap_setCell_same _ b 1 _ _ _ (heap_setCell_same W b 0 _ _ _ h)).trans rfl
theorem PBox.other {W : World} {b b' i : Nat} {p : Pt} (h : PBox W b p) (v : Value) (hn : b ≠ b') : PBox (W.setCell ⟨b', i, none⟩ v) b p := (heap_setCell_other W ⟨b', i, none⟩ b v (by simpa using hn)).trans h
theorem PBox.c0 {W : World} {b : Nat} {p : Pt} (h : PBox W b p) : W.cell? ⟨b, 0, none⟩ = some (.int .i64 p.1) := cell_heap h rfl
theorem PBox.c1 {W : World} {b : Nat} {p : Pt} (h : PBox W b p) : W.cell? ⟨b, 1, none⟩ = some (.int .i64 p.2) := cell_heap h rfl
theorem PBox.f0 {W : World} {b : Nat} {p : Pt} (h : PBox W b p) : W.frozen? ⟨b, 0, none⟩ = false := frozen_of_row _ _ 0 _ _ h
theorem PBox.f1 {W : World} {b : Nat} {p : Pt} (h : PBox W b p) : W.frozen? ⟨b, 1, none⟩ = false := frozen_of_row _ _ 1 _ _ h
/-- How many elements a slice has. -/
def slN : Value → Nat
  | .slice _ n _ => n
  | _ => 0
theorem PBox.grown {W W' : World} {b : Nat} {p : Pt} {row : Option Nat} (h : PBox W b p) (hg : W.grownBy W' row) (hr : ∀ k, row = some k → k ≠ b) : PBox W' b p := (hg.block b (lt_of_cell h.c0) (fun e => hr b e.symm rfl)).trans h
theorem own_lt {W : World} {base e s n : Nat} {v : Value} {xs : List Value} (h : W.ownsRow base e s v n xs) : ∀ k, v.ownBlock = some k → base ≤ k ∧ k < W.heap.size := fun k hk => h.lt k hk
theorem size_set2 (w : World) (a b : Addr) (x y : Value) : ((w.setCell a x).setCell b y).heap.size = w.heap.size := by simp [World.setCell]
theorem own_not_box {W : World} {base n b : Nat} {v : Value} {xs : List Value} {p : Pt} (h : W.ownsRow base 38 2 v n xs) (hn : 2 ≤ n) (hb : PBox W b p) : ∀ k, v.ownBlock = some k → k ≠ b := by
  intro k hk e
  rcases h.2 with ⟨_, h2⟩ | ⟨g, cap, cur, rfl, _, h3, h4, _, h5, _⟩
  · omega
  · have : g = k := by simpa [Value.ownBlock] using hk
    subst this; subst e
    rw [hb] at h3
    have := congrArg (fun o => match o with | some (Obj.cells c _ _) => c.size | _ => 0) h3
    simp at this
    omega
theorem own_set {W : World} {base e s n b i : Nat} {v y : Value} {xs : List Value} (h : W.ownsRow base e s v n xs) (hn : ∀ k, v.ownBlock = some k → k ≠ b) : (W.setCell ⟨b, i, none⟩ y).ownsRow base e s v n xs := by
  refine ⟨h.1, ?_⟩
  rcases h.2 with h2 | ⟨g, cap, cur, rfl, h2, h3, h4⟩
  · exact .inl h2
  · exact .inr ⟨g, cap, cur, rfl, h2, (heap_setCell_other W ⟨b, i, none⟩ g y (hn g rfl)).trans h3, h4⟩
theorem own_first (w : World) (x y : Int) (base : Nat) (h : base ≤ w.heap.size) : (w.alloc (.cells #[.int .i64 x, .int .i64 y] 38)).ownsRow base 38 2 (.slice (some ⟨w.heap.size, 0, none⟩) 1 1) 1 (cellsP [(x, y)]) :=
  ⟨rfl, .inr ⟨w.heap.size, 1, #[.int .i64 x, .int .i64 y], rfl, h, heap_alloc_new w _, Nat.le_refl _, by unfold maxLen; omega, rfl, rfl⟩⟩
theorem own_slN {W : World} {base e s n : Nat} {v : Value} {xs : List Value} (h : W.ownsRow base e s v n xs) : slN v = n := by
  rcases h.2 with ⟨rfl, rfl⟩ | ⟨g, cap, cur, rfl, _⟩
  · rfl
  · rfl
theorem pt_cases (a b c d : Int) : (a = c ∧ b = d) ∨ ¬ a = c ∨ (a = c ∧ ¬ b = d) := by omega
theorem scn_same {l : List Pt} {o : Pt} {k : Nat} (h : vx l k = o) : scn l o (k + 1) = scn l o k := by rw [scn, if_pos h]
theorem scn_yes {l : List Pt} {o : Pt} {k : Nat} (h : vx l k ≠ o) (h2 : scn l o k = o ∨ turn o (scn l o k) (vx l k) < 0 ∨ turn o (scn l o k) (vx l k) = 0 ∧ far o (scn l o k) < far o (vx l k)) : scn l o (k + 1) = vx l k := by rw [scn, if_neg h, if_pos h2]
theorem scn_no {l : List Pt} {o : Pt} {k : Nat} (h : vx l k ≠ o) (h2 : ¬ (scn l o k = o ∨ turn o (scn l o k) (vx l k) < 0 ∨ turn o (scn l o k) (vx l k) = 0 ∧ far o (scn l o k) < far o (vx l k))) : scn l o (k + 1) = scn l o k := by rw [scn, if_neg h, if_neg h2]
theorem scn_mem {l : List Pt} {o : Pt} (ho : o ∈ l) : ∀ {k : Nat}, k ≤ l.length → scn l o k ∈ l
  | 0, _ => ho
  | k + 1, h => by
    rw [scn]
    split
    · exact scn_mem ho (by omega)
    · split
      · exact vx_mem (by omega)
      · exact scn_mem ho (by omega)
theorem fst_yes {l : List Pt} {k : Nat} (h : (vx l k).2 < (fstP l k).2 ∨ (vx l k).2 = (fstP l k).2 ∧ (vx l k).1 < (fstP l k).1) : fstP l (k + 1) = vx l k := by rw [fstP, if_pos h]
theorem fst_no {l : List Pt} {k : Nat} (h : ¬ ((vx l k).2 < (fstP l k).2 ∨ (vx l k).2 = (fstP l k).2 ∧ (vx l k).1 < (fstP l k).1)) : fstP l (k + 1) = fstP l k := by rw [fstP, if_neg h]
/-- Where the corners stand. -/
def HulI (l : List Pt) (out : List Pt) (o : Pt) : Prop := Pln.Way l (fstP l l.length) out o ∧ hulF l (fstP l l.length) (l.length + 1 - out.length) out o = hulP l
theorem hul_start {l : List Pt} (h0 : 0 < l.length) (ho : Ons l) : HulI l [fstP l l.length] (fstP l l.length) := ⟨way_start h0 ho, rfl⟩
theorem HulI.step {l out : List Pt} {o : Pt} (h : HulI l out o) (ho : Ons l) (h1 : nxtP l o ≠ o) (h2 : nxtP l o ≠ fstP l l.length) : HulI l (out ++ [nxtP l o]) (nxtP l o) := by
  refine ⟨way_step ho h.1 h1 h2, ?_⟩
  have := way_len h.1
  rw [← h.2, show l.length + 1 - out.length = (l.length + 1 - (out ++ [nxtP l o]).length) + 1 by rw [List.length_append]; simp; omega]
  conv => rhs; rw [hulF]
  rw [if_neg (by simp [h1, h2])]
theorem HulI.stop {l out : List Pt} {o : Pt} (h : HulI l out o) (h1 : nxtP l o = o ∨ nxtP l o = fstP l l.length) : hulP l = out := by
  have := way_len h.1
  rw [← h.2, show l.length + 1 - out.length = (l.length - out.length) + 1 by omega]
  rw [hulF, if_pos h1]
set_option maxRecDepth 100000 in
set_option maxHeartbeats 4000000 in
theorem hull_w (l : List Pt) (h0 : 0 < l.length) (h8 : l.length ≤ 8) (ho : Ons l) (v : Value) (w : World) (hv : PtsAt w v l) :
    Calls Tryd.prog 98 #[v] w fun e w' => ∃ r, e = .returned r ∧ PtsAt w' r (hulP l) ∧ Below w.heap.size w w' := by
  obtain ⟨g, o, c, rfl, _, _, hcells⟩ := at_some hv h0
  obtain ⟨m, hm⟩ : ∃ m, m = l.length := ⟨_, rfl⟩
  have HM := Lib.hid hm
  have hmb : (m : Int) ≤ 8 := by omega
  have hm0 : 0 < m := by omega
  have h0' := h0
  rw [← hm] at hcells h0 ⊢
  have HC := Lib.hid hcells
  obtain ⟨c0, c1⟩ := hcells 0 h0
  rw [Nat.zero_mul, Nat.add_zero] at c0 c1
  have HF0 : Hid (fstP l 0 = vx l 0) := Lib.hid rfl
  clear hm hcells hv
  go_enter Tryd.func98, Tryd.ntmps98
  generalize hp0 : vx l 0 = p0 at *
  obtain ⟨x0, y0⟩ := p0
  dsimp only at c0 c1
  have z := PBox.new w 0 0
  have z0 := z.f0
  have z1 := z.f1
  have d0 := z.c0
  have d1 := z.c1
  have hBw : Below w.heap.size w ((w.alloc (.cells #[.int .i64 0, .int .i64 0] 38))) := alloc_below _ _
  have HB := Lib.hid (PBox.new w x0 y0)
  have HBW := Lib.hid (alloc_below w (.cells #[.int .i64 x0, .int .i64 y0] 38))
  have e0 := keptBelow hBw c0
  have e1 := keptBelow hBw c1
  clear z hBw
  go_wp2_with fail
  go_loopw [4] (fun i wr => ∃ k : Nat, k ≤ m ∧ i = .int .i64 k ∧ PBox wr w.heap.size (fstP l k) ∧ Below w.heap.size w wr) (fun i _ => m - (intOf i).toNat)
  case atStart => exact ⟨0, by omega, rfl, by rw [HF0.out]; exact HB.out, HBW.out⟩
  case round =>
    obtain ⟨k, hk, rfl, hb, hB⟩ := hrel
    have HBr := Lib.hid hB
    have HPr := Lib.hid hb
    by_cases hlt : k < m
    · have hlt' : (k : Int) < m := by omega
      obtain ⟨c0, c1⟩ := HC.out k hlt
      have c0 := keptBelow hB c0
      have c1 := keptBelow hB c1
      have d0 := hb.c0
      have d1 := hb.c1
      have z0 := hb.f0
      have z1 := hb.f1
      have HY : Hid ((vx l k).2 < (fstP l k).2 ∨ (vx l k).2 = (fstP l k).2 ∧ (vx l k).1 < (fstP l k).1 → fstP l (k + 1) = vx l k) := Lib.hid fst_yes
      have HN : Hid (¬ ((vx l k).2 < (fstP l k).2 ∨ (vx l k).2 = (fstP l k).2 ∧ (vx l k).1 < (fstP l k).1) → fstP l (k + 1) = fstP l k) := Lib.hid fst_no
      clear hb hB
      generalize vx l k = p at *
      generalize fstP l k = f at *
      obtain ⟨p1, p2⟩ := p
      obtain ⟨f1, f2⟩ := f
      dsimp only at c0 c1 d0 d1 HY HN
      rcases Int.lt_trichotomy p2 f2 with h | h | h
      · have HR := Lib.hid (HY.out (.inl h))
        go_wp2_with fail
        go_quiet (fail)
        go_wp2_with fail
        go_roundw
        case rel => exact ⟨k + 1, by omega, by go_num, by rw [HR.out]; exact HPr.out.set _ _, ((below_drewN HBr.out _).setCell (p := ⟨w.heap.size, 0, none⟩) (by simp) _).setCell (p := ⟨w.heap.size, 1, none⟩) (by simp) _⟩
        case measure => simp [intOf]; omega
      · subst h
        have hd : decide (p2 < p2) = false := decide_eq_false (Int.lt_irrefl _)
        by_cases h2 : p1 < f1
        · have HR := Lib.hid (HY.out (.inr ⟨rfl, h2⟩))
          go_wp2_with fail
          go_quiet (fail)
          go_wp2_with fail
          go_roundw
          case rel => exact ⟨k + 1, by omega, by go_num, by rw [HR.out]; exact HPr.out.set _ _, ((below_drewN HBr.out _).setCell (p := ⟨w.heap.size, 0, none⟩) (by simp) _).setCell (p := ⟨w.heap.size, 1, none⟩) (by simp) _⟩
          case measure => simp [intOf]; omega
        · have HR := Lib.hid (HN.out (by omega))
          have h3 : decide (p1 < f1) = false := decide_eq_false h2
          clear h2
          go_wp2_with fail
          go_quiet (fail)
          go_wp2_with fail
          go_roundw
          case rel => exact ⟨k + 1, by omega, by go_num, by rw [HR.out]; exact HPr.out, below_drewN HBr.out _⟩
          case measure => simp [intOf]; omega
      · have HR := Lib.hid (HN.out (by omega))
        have hd : decide (p2 < f2) = false := decide_eq_false (by omega)
        have hd2 : (p2 == f2) = false := by simp; omega
        go_wp2_with fail
        go_quiet (fail)
        go_wp2_with fail
        go_roundw
        case rel => exact ⟨k + 1, by omega, by go_num, by rw [HR.out]; exact HPr.out, below_drewN HBr.out _⟩
        case measure => simp [intOf]; omega
    · obtain rfl : m = k := by omega
      have d0 := hb.c0
      have d1 := hb.c1
      have hsz := lt_of_cell d0
      have HUL := Lib.hid (hul_start h0' ho)
      clear hb hB
      generalize hf : fstP l m = f at *
      obtain ⟨f1, f2⟩ := f
      dsimp only at d0 d1
      have e0 := keptBelow (alloc_below wr (.cells #[.int .i64 f1, .int .i64 f2] 38)) d0
      have e1 := keptBelow (alloc_below wr (.cells #[.int .i64 f1, .int .i64 f2] 38)) d1
      have HFL : Hid (fstP l l.length = (f1, f2)) := Lib.hid (by rw [← HM.out]; exact hf)
      rw [HFL.out] at HUL
      have HO1 := Lib.hid (own_via (own_first wr f1 f2 (w.heap.size + 1) (by have := HBr.out.size; omega)) (alloc_below _ (.cells #[.int .i64 f1, .int .i64 f2] 38)))
      have HB1 := Lib.hid (belowStep HBr.out (belowStep (alloc_below wr (.cells #[.int .i64 f1, .int .i64 f2] 38)) (alloc_below _ (.cells #[.int .i64 f1, .int .i64 f2] 38))))
      have HP1 := Lib.hid ((HPr.out.via (alloc_below wr (.cells #[.int .i64 f1, .int .i64 f2] 38))).via (alloc_below _ (.cells #[.int .i64 f1, .int .i64 f2] 38)))
      clear hf
      go_wp2_with fail
      go_loopw [5, 6] (fun v p wq => ∃ (out : List Pt) (o : Pt) (b : Nat), p = .pointer (some ⟨b, 0, none⟩) ∧ HulI l out o ∧ wq.ownsRow (w.heap.size + 1) 38 2 v out.length (cellsP out) ∧ (∀ k, v.ownBlock = some k → k < b) ∧ w.heap.size < b ∧ PBox wq b o ∧ PBox wq w.heap.size (f1, f2) ∧ Below w.heap.size w wq) (fun v _ _ => l.length + 1 - slN v)
      case atStart => exact ⟨[(f1, f2)], (f1, f2), wr.heap.size + 1, rfl, HUL.out, HO1.out, fun k hk => by simp [Value.ownBlock] at hk; omega, by omega, by have := PBox.new (wr.alloc (.cells #[.int .i64 f1, .int .i64 f2] 38)) f1 f2; rwa [World.size_alloc] at this, HP1.out, HB1.out⟩
      case round =>
        obtain ⟨out, q, b, rfl, hul, hown, hlt, hwb, hpb, hpf, hB⟩ := hrel
        have a0 := hpb.c0
        have a1 := hpb.c1
        have HUL2 := Lib.hid hul
        have HOWN := Lib.hid hown
        have HLT := Lib.hid hlt
        have HPB := Lib.hid hpb
        have HPF := Lib.hid hpf
        have HBQ := Lib.hid hB
        have HNX := Lib.hid (PBox.new wr q.1 q.2)
        have HBN := Lib.hid (alloc_below wr (.cells #[.int .i64 q.1, .int .i64 q.2] 38))
        obtain ⟨W, hW⟩ : ∃ W, W = wr := ⟨_, rfl⟩
        subst hW
        clear hul hown hlt hpb hpf hB
        go_wp2_with fail
        clear a0 a1
        go_loopw [8] (fun i wi => ∃ k : Nat, k ≤ m ∧ i = .int .i64 k ∧ PBox wi W.heap.size (scn l q k) ∧ Below W.heap.size W wi) (fun i _ => m - (intOf i).toNat)
        case atStart => exact ⟨0, by omega, rfl, HNX.out, HBN.out⟩
        case round =>
          obtain ⟨k, hk, rfl, hbx, hBi⟩ := hrel
          have HBi := Lib.hid hBi
          have HPi := Lib.hid hbx
          have HPBi := Lib.hid (HPB.out.via hBi)
          have HBWi := Lib.hid (belowStep HBQ.out hBi)
          by_cases hlt : k < m
          · have hlt' : (k : Int) < m := by omega
            obtain ⟨c0, c1⟩ := HC.out k hlt
            have c0 := keptBelow HBWi.out c0
            have c1 := keptBelow HBWi.out c1
            have a0 := HPBi.out.c0
            have a1 := HPBi.out.c1
            have d0 := hbx.c0
            have d1 := hbx.c1
            have z0 := hbx.f0
            have z1 := hbx.f1
            have hk1 : k < l.length := by rw [← HM.out]; exact hlt
            have HE : Hid (vx l k = q → scn l q (k + 1) = scn l q k) := Lib.hid scn_same
            have HY : Hid (vx l k ≠ q → (scn l q k = q ∨ turn q (scn l q k) (vx l k) < 0 ∨ turn q (scn l q k) (vx l k) = 0 ∧ far q (scn l q k) < far q (vx l k)) → scn l q (k + 1) = vx l k) := Lib.hid scn_yes
            have HN : Hid (vx l k ≠ q → ¬ (scn l q k = q ∨ turn q (scn l q k) (vx l k) < 0 ∨ turn q (scn l q k) (vx l k) = 0 ∧ far q (scn l q k) < far q (vx l k)) → scn l q (k + 1) = scn l q k) := Lib.hid scn_no
            have hq : q ∈ l := by rw [← HUL2.out.1.last]; exact HUL2.out.1.mem _ (by have := HUL2.out.1.pos; omega)
            have hs : scn l q k ∈ l := scn_mem hq (by omega)
            have hp : vx l k ∈ l := vx_mem hk1
            have hq := on_sml (ho _ hq)
            have hs := on_sml (ho _ hs)
            have hp := on_sml (ho _ hp)
            have HT := Lib.hid (turnR_w q (scn l q k) (vx l k) hq hs hp)
            have HF1 := Lib.hid (far_w q (vx l k) hq hp)
            have HF2 := Lib.hid (far_w q (scn l q k) hq hs)
            have HR1 := Lib.hid (turn_in hq hs hp)
            have HR2 := Lib.hid (far_in hq hp)
            have HR3 := Lib.hid (far_in hq hs)
            clear hbx hBi hq hs hp hk1
            generalize vx l k = p at *
            generalize scn l q k = s at *
            unfold pv at HT HF1 HF2
            obtain ⟨p1, p2⟩ := p
            obtain ⟨q1, q2⟩ := q
            obtain ⟨s1, s2⟩ := s
            dsimp only at a0 a1 c0 c1 d0 d1 HT HF1 HF2
            generalize turn (q1, q2) (s1, s2) (p1, p2) = tt at *
            generalize far (q1, q2) (p1, p2) = fa at *
            generalize far (q1, q2) (s1, s2) = fb at *
            rcases pt_cases p1 p2 q1 q2 with ⟨rfl, rfl⟩ | h | ⟨rfl, h⟩
            · have HR := Lib.hid (HE.out rfl)
              go_wp2_with fail
              go_quiet (fail)
              go_wp2_with fail
              go_roundw
              case rel => exact ⟨k + 1, by omega, by go_num, by rw [HR.out]; exact HPi.out, below_drewN HBi.out _⟩
              case measure => simp [intOf]; omega
            · have HPQ : Hid ((p1, p2) ≠ (q1, q2)) := Lib.hid (fun e => h (congrArg Prod.fst e))
              go_wp2_with fail
              go_quiet (fail)
              go_wp2_with fail
              clear h
              have HY2 := Lib.hid (HY.out HPQ.out)
              have HN2 := Lib.hid (HN.out HPQ.out)
              refine (wpIn_wide (n := 5)).1 ?_
              refine wpIn_region_T (fun w' => Below ((wr.drewN nq).drew).heap.size ((wr.drewN nq).drew) w') 6 (by kernel_rfl) ?_
              have hd : Below wr.heap.size wr ((wr.drewN nq).drew) := (below_drewN (Below.refl _ _) _).drew
              generalize ((wr.drewN nq).drew) = wd at *
              have a0 := keptBelow hd a0
              have a1 := keptBelow hd a1
              have c0 := keptBelow hd c0
              have c1 := keptBelow hd c1
              have d0 := keptBelow hd d0
              have d1 := keptBelow hd d1
              refine wpT_tk 0 67 (v := ?_) (Below.refl _ _) rfl rfl (by rfl) (hy := fun w hw => ?_) (h := ?_)
              rotate_left
              · have a0 := keptBelow hw a0; have a1 := keptBelow hw a1; go_simp; with_reducible rfl
              try simp only [Act.put, List.setIfInBounds_toArray, List.set_cons_zero, List.set_cons_succ]
              refine wpT_tk 1 68 (v := ?_) (Below.refl _ _) rfl rfl (by rfl) (hy := fun w hw => ?_) (h := ?_)
              rotate_left
              · have d0 := keptBelow hw d0; have d1 := keptBelow hw d1; go_simp; with_reducible rfl
              try simp only [Act.put, List.setIfInBounds_toArray, List.set_cons_zero, List.set_cons_succ]
              refine wpT_tk 2 69 (v := ?_) (Below.refl _ _) rfl rfl (by rfl) (hy := fun w hw => ?_) (h := ?_)
              rotate_left
              · go_simp; with_reducible rfl
              try simp only [Act.put, List.setIfInBounds_toArray, List.set_cons_zero, List.set_cons_succ]
              refine wpT_tk 3 70 (v := ?_) (Below.refl _ _) rfl rfl (by rfl) (hy := fun w hw => ?_) (h := ?_)
              rotate_left
              · go_simp; with_reducible rfl
              try simp only [Act.put, List.setIfInBounds_toArray, List.set_cons_zero, List.set_cons_succ]
              refine wpT_tk 4 71 (v := ?_) (Below.refl _ _) rfl rfl (by rfl) (hy := fun w hw => ?_) (h := ?_)
              rotate_left
              · go_simp; with_reducible rfl
              try simp only [Act.put, List.setIfInBounds_toArray, List.set_cons_zero, List.set_cons_succ]
              refine wpT_tk 5 72 (v := ?_) (Below.refl _ _) rfl rfl (by rfl) (hy := fun w hw => ?_) (h := ?_)
              rotate_left
              · have c0 := keptBelow hw c0; have c1 := keptBelow hw c1; go_simp; with_reducible rfl
              try simp only [Act.put, List.setIfInBounds_toArray, List.set_cons_zero, List.set_cons_succ]
              refine wpT_one 6 rfl rfl (by kernel_rfl) ?_
              go_simp
              refine ⟨trivial, ?_⟩
              refine (callsIn_wide.2 (HT.out wd)).mono ?_
              rintro e u3 ⟨rfl, hB3⟩
              refine wpT_one 7 rfl rfl (by kernel_rfl) ?_
              go_simp
              refine wpT_done (by kernel_rfl) ?_ _
              have HB5 := Lib.hid (belowStep HBi.out (belowStep hd hB3))
              have HP5 := Lib.hid (HPi.out.via (belowStep hd hB3))
              have a0 := keptBelow hB3 a0
              have a1 := keptBelow hB3 a1
              have c0 := keptBelow hB3 c0
              have c1 := keptBelow hB3 c1
              have d0 := keptBelow hB3 d0
              have d1 := keptBelow hB3 d1
              have z0 := HP5.out.f0
              have z1 := HP5.out.f1
              clear hd hB3
              rcases pt_cases s1 s2 q1 q2 with ⟨rfl, rfl⟩ | h | ⟨rfl, h⟩
              · have HR := Lib.hid (HY2.out (.inl rfl))
                go_wp2_with fail
                go_quiet (fail)
                go_wp2_with fail
                go_roundw
                case rel => exact ⟨k + 1, by omega, by go_num, by rw [HR.out]; exact HP5.out.set _ _, ((below_drewN HB5.out _).setCell (p := ⟨W.heap.size, 0, none⟩) (by simp) _).setCell (p := ⟨W.heap.size, 1, none⟩) (by simp) _⟩
                case measure => simp [intOf]; omega
              · have HSQ : Hid ((s1, s2) ≠ (q1, q2)) := Lib.hid (fun e => h (congrArg Prod.fst e))
                rcases Int.lt_trichotomy tt 0 with h3 | h3 | h3
                · have HR := Lib.hid (HY2.out (.inr (.inl h3)))
                  go_wp2_with fail
                  go_quiet (fail)
                  go_wp2_with fail
                  go_roundw
                  case rel => exact ⟨k + 1, by omega, by go_num, by rw [HR.out]; exact HP5.out.set _ _, ((below_drewN HB5.out _).setCell (p := ⟨W.heap.size, 0, none⟩) (by simp) _).setCell (p := ⟨W.heap.size, 1, none⟩) (by simp) _⟩
                  case measure => simp [intOf]; omega
                · subst h3
                  go_wp2_with fail
                  refine (wpIn_wide (n := 5)).1 ?_
                  refine wpIn_region_T (fun w' => Below ((u3.drew)).heap.size (u3.drew) w') 19 (by kernel_rfl) ?_
                  have hd : Below u3.heap.size u3 u3.drew := (Below.refl _ _).drew
                  generalize u3.drew = wd at *
                  have a0 := keptBelow hd a0
                  have a1 := keptBelow hd a1
                  have c0 := keptBelow hd c0
                  have c1 := keptBelow hd c1
                  have d0 := keptBelow hd d0
                  have d1 := keptBelow hd d1
                  refine wpT_tk 0 74 (v := ?_) (Below.refl _ _) rfl rfl (by rfl) (hy := fun w hw => ?_) (h := ?_)
                  rotate_left
                  · have d0 := keptBelow hw d0; have d1 := keptBelow hw d1; go_simp; with_reducible rfl
                  try simp only [Act.put, List.setIfInBounds_toArray, List.set_cons_zero, List.set_cons_succ]
                  refine wpT_tk 1 75 (v := ?_) (Below.refl _ _) rfl rfl (by rfl) (hy := fun w hw => ?_) (h := ?_)
                  rotate_left
                  · have a0 := keptBelow hw a0; have a1 := keptBelow hw a1; go_simp; with_reducible rfl
                  try simp only [Act.put, List.setIfInBounds_toArray, List.set_cons_zero, List.set_cons_succ]
                  refine wpT_tk 2 76 (v := ?_) (Below.refl _ _) rfl rfl (by rfl) (hy := fun w hw => ?_) (h := ?_)
                  rotate_left
                  · go_simp; with_reducible rfl
                  try simp only [Act.put, List.setIfInBounds_toArray, List.set_cons_zero, List.set_cons_succ]
                  refine wpT_tk 3 77 (v := ?_) (Below.refl _ _) rfl rfl (by rfl) (hy := fun w hw => ?_) (h := ?_)
                  rotate_left
                  · go_simp; with_reducible rfl
                  try simp only [Act.put, List.setIfInBounds_toArray, List.set_cons_zero, List.set_cons_succ]
                  refine wpT_tk 4 78 (v := ?_) (Below.refl _ _) rfl rfl (by rfl) (hy := fun w hw => ?_) (h := ?_)
                  rotate_left
                  · go_simp; with_reducible rfl
                  try simp only [Act.put, List.setIfInBounds_toArray, List.set_cons_zero, List.set_cons_succ]
                  refine wpT_tk 5 79 (v := ?_) (Below.refl _ _) rfl rfl (by rfl) (hy := fun w hw => ?_) (h := ?_)
                  rotate_left
                  · go_simp; with_reducible rfl
                  try simp only [Act.put, List.setIfInBounds_toArray, List.set_cons_zero, List.set_cons_succ]
                  refine wpT_tk 6 80 (v := ?_) (Below.refl _ _) rfl rfl (by rfl) (hy := fun w hw => ?_) (h := ?_)
                  rotate_left
                  · go_simp; with_reducible rfl
                  try simp only [Act.put, List.setIfInBounds_toArray, List.set_cons_zero, List.set_cons_succ]
                  refine wpT_tk 7 81 (v := ?_) (Below.refl _ _) rfl rfl (by rfl) (hy := fun w hw => ?_) (h := ?_)
                  rotate_left
                  · go_simp; with_reducible rfl
                  try simp only [Act.put, List.setIfInBounds_toArray, List.set_cons_zero, List.set_cons_succ]
                  refine wpT_tk 8 82 (v := ?_) (Below.refl _ _) rfl rfl (by rfl) (hy := fun w hw => ?_) (h := ?_)
                  rotate_left
                  · go_simp; with_reducible rfl
                  try simp only [Act.put, List.setIfInBounds_toArray, List.set_cons_zero, List.set_cons_succ]
                  refine wpT_tk 9 83 (v := ?_) (Below.refl _ _) rfl rfl (by rfl) (hy := fun w hw => ?_) (h := ?_)
                  rotate_left
                  · go_simp; with_reducible rfl
                  try simp only [Act.put, List.setIfInBounds_toArray, List.set_cons_zero, List.set_cons_succ]
                  refine wpT_tk 10 84 (v := ?_) (Below.refl _ _) rfl rfl (by rfl) (hy := fun w hw => ?_) (h := ?_)
                  rotate_left
                  · go_simp; with_reducible rfl
                  try simp only [Act.put, List.setIfInBounds_toArray, List.set_cons_zero, List.set_cons_succ]
                  refine wpT_tk 11 85 (v := ?_) (Below.refl _ _) rfl rfl (by rfl) (hy := fun w hw => ?_) (h := ?_)
                  rotate_left
                  · have a0 := keptBelow hw a0; have a1 := keptBelow hw a1; go_simp; with_reducible rfl
                  try simp only [Act.put, List.setIfInBounds_toArray, List.set_cons_zero, List.set_cons_succ]
                  refine wpT_tk 12 86 (v := ?_) (Below.refl _ _) rfl rfl (by rfl) (hy := fun w hw => ?_) (h := ?_)
                  rotate_left
                  · go_simp; with_reducible rfl
                  try simp only [Act.put, List.setIfInBounds_toArray, List.set_cons_zero, List.set_cons_succ]
                  refine wpT_tk 13 87 (v := ?_) (Below.refl _ _) rfl rfl (by rfl) (hy := fun w hw => ?_) (h := ?_)
                  rotate_left
                  · go_simp; with_reducible rfl
                  try simp only [Act.put, List.setIfInBounds_toArray, List.set_cons_zero, List.set_cons_succ]
                  refine wpT_tk 14 88 (v := ?_) (Below.refl _ _) rfl rfl (by rfl) (hy := fun w hw => ?_) (h := ?_)
                  rotate_left
                  · go_simp; with_reducible rfl
                  try simp only [Act.put, List.setIfInBounds_toArray, List.set_cons_zero, List.set_cons_succ]
                  refine wpT_tk 15 89 (v := ?_) (Below.refl _ _) rfl rfl (by rfl) (hy := fun w hw => ?_) (h := ?_)
                  rotate_left
                  · have c0 := keptBelow hw c0; have c1 := keptBelow hw c1; go_simp; with_reducible rfl
                  try simp only [Act.put, List.setIfInBounds_toArray, List.set_cons_zero, List.set_cons_succ]
                  refine wpT_tk 17 91 (v := ?_) (Below.refl _ _) rfl rfl (by rfl) (hy := fun w hw => ?_) (h := ?_)
                  rotate_left
                  · have a0 := keptBelow hw a0; have a1 := keptBelow hw a1; go_simp; with_reducible rfl
                  try simp only [Act.put, List.setIfInBounds_toArray, List.set_cons_zero, List.set_cons_succ]
                  refine wpT_tk 18 92 (v := ?_) (Below.refl _ _) rfl rfl (by rfl) (hy := fun w hw => ?_) (h := ?_)
                  rotate_left
                  · have d0 := keptBelow hw d0; have d1 := keptBelow hw d1; go_simp; with_reducible rfl
                  try simp only [Act.put, List.setIfInBounds_toArray, List.set_cons_zero, List.set_cons_succ]
                  refine wpT_oneW 16 rfl (by rfl) (by kernel_rfl) ?_
                  go_simp
                  refine ⟨trivial, ?_⟩
                  refine (callsIn_wide.2 (HF1.out wd)).mono ?_
                  rintro e u5 ⟨rfl, hB5⟩
                  refine ⟨hB5, ?_⟩
                  refine wpT_oneW 19 rfl (by rfl) (by kernel_rfl) ?_
                  go_simp
                  refine ⟨trivial, ?_⟩
                  refine (callsIn_wide.2 (HF2.out u5)).mono ?_
                  rintro e u6 ⟨rfl, hB6⟩
                  refine wpT_oneW 20 rfl (by rfl) (by kernel_rfl) ?_
                  go_simp
                  refine wpT_oneW 21 rfl (by rfl) (by kernel_rfl) ?_
                  go_simp
                  refine wpT_oneW 22 rfl (by rfl) (by kernel_rfl) ?_
                  go_simp
                  refine wpT_done (by kernel_rfl) ?_ _
                  have HP6 := Lib.hid (HP5.out.via (belowStep hd (belowStep hB5 hB6)))
                  have HB6 := Lib.hid (belowStep HB5.out (belowStep hd (belowStep hB5 hB6)))
                  have c0 := keptBelow (belowStep hB5 hB6) c0
                  have c1 := keptBelow (belowStep hB5 hB6) c1
                  have d0 := keptBelow (belowStep hB5 hB6) d0
                  have d1 := keptBelow (belowStep hB5 hB6) d1
                  have z0 := HP6.out.f0
                  have z1 := HP6.out.f1
                  have HP5 := HP6
                  have HB5 := HB6
                  clear hd hB5 hB6 HB6 HP6
                  by_cases h4 : fb < fa
                  · have HR := Lib.hid (HY2.out (.inr (.inr ⟨trivial, h4⟩)))
                    go_wp2_with fail
                    go_roundw
                    case rel => exact ⟨k + 1, by omega, by go_num, by rw [HR.out]; exact HP5.out.set _ _, ((HB5.out).setCell (p := ⟨W.heap.size, 0, none⟩) (by simp) _).setCell (p := ⟨W.heap.size, 1, none⟩) (by simp) _⟩
                    case measure => simp [intOf]; omega
                  · have HR := Lib.hid (HN2.out (fun e => by rcases e with e | e | ⟨_, e⟩; exact HSQ.out e; omega; exact h4 e))
                    have h5 : fa ≤ fb := by omega
                    clear h4
                    go_wp2_with fail
                    go_roundw
                    case rel => exact ⟨k + 1, by omega, by go_num, by rw [HR.out]; exact HP5.out, HB5.out⟩
                    case measure => simp [intOf]; omega
                · have HR := Lib.hid (HN2.out (fun e => by rcases e with e | e | ⟨e, _⟩; exact HSQ.out e; omega; omega))
                  have hd1 : decide (tt < 0) = false := decide_eq_false (by omega)
                  have hd2 : (tt == 0) = false := by simp; omega
                  go_wp2_with fail
                  go_quiet (fail)
                  go_wp2_with fail
                  go_roundw
                  case rel => exact ⟨k + 1, by omega, by go_num, by rw [HR.out]; exact HP5.out, below_drewN HB5.out _⟩
                  case measure => simp [intOf]; omega
              · have HSQ : Hid ((s1, s2) ≠ (s1, q2)) := Lib.hid (fun e => h (congrArg Prod.snd e))
                rcases Int.lt_trichotomy tt 0 with h3 | h3 | h3
                · have HR := Lib.hid (HY2.out (.inr (.inl h3)))
                  go_wp2_with fail
                  go_quiet (fail)
                  go_wp2_with fail
                  go_roundw
                  case rel => exact ⟨k + 1, by omega, by go_num, by rw [HR.out]; exact HP5.out.set _ _, ((below_drewN HB5.out _).setCell (p := ⟨W.heap.size, 0, none⟩) (by simp) _).setCell (p := ⟨W.heap.size, 1, none⟩) (by simp) _⟩
                  case measure => simp [intOf]; omega
                · subst h3
                  go_wp2_with fail
                  refine (wpIn_wide (n := 5)).1 ?_
                  refine wpIn_region_T (fun w' => Below ((u3.drew)).heap.size (u3.drew) w') 19 (by kernel_rfl) ?_
                  have hd : Below u3.heap.size u3 u3.drew := (Below.refl _ _).drew
                  generalize u3.drew = wd at *
                  have a0 := keptBelow hd a0
                  have a1 := keptBelow hd a1
                  have c0 := keptBelow hd c0
                  have c1 := keptBelow hd c1
                  have d0 := keptBelow hd d0
                  have d1 := keptBelow hd d1
                  refine wpT_tk 0 74 (v := ?_) (Below.refl _ _) rfl rfl (by rfl) (hy := fun w hw => ?_) (h := ?_)
                  rotate_left
                  · have d0 := keptBelow hw d0; have d1 := keptBelow hw d1; go_simp; with_reducible rfl
                  try simp only [Act.put, List.setIfInBounds_toArray, List.set_cons_zero, List.set_cons_succ]
                  refine wpT_tk 1 75 (v := ?_) (Below.refl _ _) rfl rfl (by rfl) (hy := fun w hw => ?_) (h := ?_)
                  rotate_left
                  · have a0 := keptBelow hw a0; have a1 := keptBelow hw a1; go_simp; with_reducible rfl
                  try simp only [Act.put, List.setIfInBounds_toArray, List.set_cons_zero, List.set_cons_succ]
                  refine wpT_tk 2 76 (v := ?_) (Below.refl _ _) rfl rfl (by rfl) (hy := fun w hw => ?_) (h := ?_)
                  rotate_left
                  · go_simp; with_reducible rfl
                  try simp only [Act.put, List.setIfInBounds_toArray, List.set_cons_zero, List.set_cons_succ]
                  refine wpT_tk 3 77 (v := ?_) (Below.refl _ _) rfl rfl (by rfl) (hy := fun w hw => ?_) (h := ?_)
                  rotate_left
                  · go_simp; with_reducible rfl
                  try simp only [Act.put, List.setIfInBounds_toArray, List.set_cons_zero, List.set_cons_succ]
                  refine wpT_tk 4 78 (v := ?_) (Below.refl _ _) rfl rfl (by rfl) (hy := fun w hw => ?_) (h := ?_)
                  rotate_left
                  · go_simp; with_reducible rfl
                  try simp only [Act.put, List.setIfInBounds_toArray, List.set_cons_zero, List.set_cons_succ]
                  refine wpT_tk 5 79 (v := ?_) (Below.refl _ _) rfl rfl (by rfl) (hy := fun w hw => ?_) (h := ?_)
                  rotate_left
                  · go_simp; with_reducible rfl
                  try simp only [Act.put, List.setIfInBounds_toArray, List.set_cons_zero, List.set_cons_succ]
                  refine wpT_tk 6 80 (v := ?_) (Below.refl _ _) rfl rfl (by rfl) (hy := fun w hw => ?_) (h := ?_)
                  rotate_left
                  · go_simp; with_reducible rfl
                  try simp only [Act.put, List.setIfInBounds_toArray, List.set_cons_zero, List.set_cons_succ]
                  refine wpT_tk 7 81 (v := ?_) (Below.refl _ _) rfl rfl (by rfl) (hy := fun w hw => ?_) (h := ?_)
                  rotate_left
                  · go_simp; with_reducible rfl
                  try simp only [Act.put, List.setIfInBounds_toArray, List.set_cons_zero, List.set_cons_succ]
                  refine wpT_tk 8 82 (v := ?_) (Below.refl _ _) rfl rfl (by rfl) (hy := fun w hw => ?_) (h := ?_)
                  rotate_left
                  · go_simp; with_reducible rfl
                  try simp only [Act.put, List.setIfInBounds_toArray, List.set_cons_zero, List.set_cons_succ]
                  refine wpT_tk 9 83 (v := ?_) (Below.refl _ _) rfl rfl (by rfl) (hy := fun w hw => ?_) (h := ?_)
                  rotate_left
                  · go_simp; with_reducible rfl
                  try simp only [Act.put, List.setIfInBounds_toArray, List.set_cons_zero, List.set_cons_succ]
                  refine wpT_tk 10 84 (v := ?_) (Below.refl _ _) rfl rfl (by rfl) (hy := fun w hw => ?_) (h := ?_)
                  rotate_left
                  · go_simp; with_reducible rfl
                  try simp only [Act.put, List.setIfInBounds_toArray, List.set_cons_zero, List.set_cons_succ]
                  refine wpT_tk 11 85 (v := ?_) (Below.refl _ _) rfl rfl (by rfl) (hy := fun w hw => ?_) (h := ?_)
                  rotate_left
                  · have a0 := keptBelow hw a0; have a1 := keptBelow hw a1; go_simp; with_reducible rfl
                  try simp only [Act.put, List.setIfInBounds_toArray, List.set_cons_zero, List.set_cons_succ]
                  refine wpT_tk 12 86 (v := ?_) (Below.refl _ _) rfl rfl (by rfl) (hy := fun w hw => ?_) (h := ?_)
                  rotate_left
                  · go_simp; with_reducible rfl
                  try simp only [Act.put, List.setIfInBounds_toArray, List.set_cons_zero, List.set_cons_succ]
                  refine wpT_tk 13 87 (v := ?_) (Below.refl _ _) rfl rfl (by rfl) (hy := fun w hw => ?_) (h := ?_)
                  rotate_left
                  · go_simp; with_reducible rfl
                  try simp only [Act.put, List.setIfInBounds_toArray, List.set_cons_zero, List.set_cons_succ]
                  refine wpT_tk 14 88 (v := ?_) (Below.refl _ _) rfl rfl (by rfl) (hy := fun w hw => ?_) (h := ?_)
                  rotate_left
                  · go_simp; with_reducible rfl
                  try simp only [Act.put, List.setIfInBounds_toArray, List.set_cons_zero, List.set_cons_succ]
                  refine wpT_tk 15 89 (v := ?_) (Below.refl _ _) rfl rfl (by rfl) (hy := fun w hw => ?_) (h := ?_)
                  rotate_left
                  · have c0 := keptBelow hw c0; have c1 := keptBelow hw c1; go_simp; with_reducible rfl
                  try simp only [Act.put, List.setIfInBounds_toArray, List.set_cons_zero, List.set_cons_succ]
                  refine wpT_tk 17 91 (v := ?_) (Below.refl _ _) rfl rfl (by rfl) (hy := fun w hw => ?_) (h := ?_)
                  rotate_left
                  · have a0 := keptBelow hw a0; have a1 := keptBelow hw a1; go_simp; with_reducible rfl
                  try simp only [Act.put, List.setIfInBounds_toArray, List.set_cons_zero, List.set_cons_succ]
                  refine wpT_tk 18 92 (v := ?_) (Below.refl _ _) rfl rfl (by rfl) (hy := fun w hw => ?_) (h := ?_)
                  rotate_left
                  · have d0 := keptBelow hw d0; have d1 := keptBelow hw d1; go_simp; with_reducible rfl
                  try simp only [Act.put, List.setIfInBounds_toArray, List.set_cons_zero, List.set_cons_succ]
                  refine wpT_oneW 16 rfl (by rfl) (by kernel_rfl) ?_
                  go_simp
                  refine ⟨trivial, ?_⟩
                  refine (callsIn_wide.2 (HF1.out wd)).mono ?_
                  rintro e u5 ⟨rfl, hB5⟩
                  refine ⟨hB5, ?_⟩
                  refine wpT_oneW 19 rfl (by rfl) (by kernel_rfl) ?_
                  go_simp
                  refine ⟨trivial, ?_⟩
                  refine (callsIn_wide.2 (HF2.out u5)).mono ?_
                  rintro e u6 ⟨rfl, hB6⟩
                  refine wpT_oneW 20 rfl (by rfl) (by kernel_rfl) ?_
                  go_simp
                  refine wpT_oneW 21 rfl (by rfl) (by kernel_rfl) ?_
                  go_simp
                  refine wpT_oneW 22 rfl (by rfl) (by kernel_rfl) ?_
                  go_simp
                  refine wpT_done (by kernel_rfl) ?_ _
                  have HP6 := Lib.hid (HP5.out.via (belowStep hd (belowStep hB5 hB6)))
                  have HB6 := Lib.hid (belowStep HB5.out (belowStep hd (belowStep hB5 hB6)))
                  have c0 := keptBelow (belowStep hB5 hB6) c0
                  have c1 := keptBelow (belowStep hB5 hB6) c1
                  have d0 := keptBelow (belowStep hB5 hB6) d0
                  have d1 := keptBelow (belowStep hB5 hB6) d1
                  have z0 := HP6.out.f0
                  have z1 := HP6.out.f1
                  have HP5 := HP6
                  have HB5 := HB6
                  clear hd hB5 hB6 HB6 HP6
                  by_cases h4 : fb < fa
                  · have HR := Lib.hid (HY2.out (.inr (.inr ⟨trivial, h4⟩)))
                    go_wp2_with fail
                    go_roundw
                    case rel => exact ⟨k + 1, by omega, by go_num, by rw [HR.out]; exact HP5.out.set _ _, ((HB5.out).setCell (p := ⟨W.heap.size, 0, none⟩) (by simp) _).setCell (p := ⟨W.heap.size, 1, none⟩) (by simp) _⟩
                    case measure => simp [intOf]; omega
                  · have HR := Lib.hid (HN2.out (fun e => by rcases e with e | e | ⟨_, e⟩; exact HSQ.out e; omega; exact h4 e))
                    have h5 : fa ≤ fb := by omega
                    clear h4
                    go_wp2_with fail
                    go_roundw
                    case rel => exact ⟨k + 1, by omega, by go_num, by rw [HR.out]; exact HP5.out, HB5.out⟩
                    case measure => simp [intOf]; omega
                · have HR := Lib.hid (HN2.out (fun e => by rcases e with e | e | ⟨e, _⟩; exact HSQ.out e; omega; omega))
                  have hd1 : decide (tt < 0) = false := decide_eq_false (by omega)
                  have hd2 : (tt == 0) = false := by simp; omega
                  go_wp2_with fail
                  go_quiet (fail)
                  go_wp2_with fail
                  go_roundw
                  case rel => exact ⟨k + 1, by omega, by go_num, by rw [HR.out]; exact HP5.out, below_drewN HB5.out _⟩
                  case measure => simp [intOf]; omega
            · have HPQ : Hid ((p1, p2) ≠ (p1, q2)) := Lib.hid (fun e => h (congrArg Prod.snd e))
              go_wp2_with fail
              go_quiet (fail)
              go_wp2_with fail
              clear h
              have HY2 := Lib.hid (HY.out HPQ.out)
              have HN2 := Lib.hid (HN.out HPQ.out)
              refine (wpIn_wide (n := 5)).1 ?_
              refine wpIn_region_T (fun w' => Below ((wr.drewN nq).drew).heap.size ((wr.drewN nq).drew) w') 6 (by kernel_rfl) ?_
              have hd : Below wr.heap.size wr ((wr.drewN nq).drew) := (below_drewN (Below.refl _ _) _).drew
              generalize ((wr.drewN nq).drew) = wd at *
              have a0 := keptBelow hd a0
              have a1 := keptBelow hd a1
              have c0 := keptBelow hd c0
              have c1 := keptBelow hd c1
              have d0 := keptBelow hd d0
              have d1 := keptBelow hd d1
              refine wpT_tk 0 67 (v := ?_) (Below.refl _ _) rfl rfl (by rfl) (hy := fun w hw => ?_) (h := ?_)
              rotate_left
              · have a0 := keptBelow hw a0; have a1 := keptBelow hw a1; go_simp; with_reducible rfl
              try simp only [Act.put, List.setIfInBounds_toArray, List.set_cons_zero, List.set_cons_succ]
              refine wpT_tk 1 68 (v := ?_) (Below.refl _ _) rfl rfl (by rfl) (hy := fun w hw => ?_) (h := ?_)
              rotate_left
              · have d0 := keptBelow hw d0; have d1 := keptBelow hw d1; go_simp; with_reducible rfl
              try simp only [Act.put, List.setIfInBounds_toArray, List.set_cons_zero, List.set_cons_succ]
              refine wpT_tk 2 69 (v := ?_) (Below.refl _ _) rfl rfl (by rfl) (hy := fun w hw => ?_) (h := ?_)
              rotate_left
              · go_simp; with_reducible rfl
              try simp only [Act.put, List.setIfInBounds_toArray, List.set_cons_zero, List.set_cons_succ]
              refine wpT_tk 3 70 (v := ?_) (Below.refl _ _) rfl rfl (by rfl) (hy := fun w hw => ?_) (h := ?_)
              rotate_left
              · go_simp; with_reducible rfl
              try simp only [Act.put, List.setIfInBounds_toArray, List.set_cons_zero, List.set_cons_succ]
              refine wpT_tk 4 71 (v := ?_) (Below.refl _ _) rfl rfl (by rfl) (hy := fun w hw => ?_) (h := ?_)
              rotate_left
              · go_simp; with_reducible rfl
              try simp only [Act.put, List.setIfInBounds_toArray, List.set_cons_zero, List.set_cons_succ]
              refine wpT_tk 5 72 (v := ?_) (Below.refl _ _) rfl rfl (by rfl) (hy := fun w hw => ?_) (h := ?_)
              rotate_left
              · have c0 := keptBelow hw c0; have c1 := keptBelow hw c1; go_simp; with_reducible rfl
              try simp only [Act.put, List.setIfInBounds_toArray, List.set_cons_zero, List.set_cons_succ]
              refine wpT_one 6 rfl rfl (by kernel_rfl) ?_
              go_simp
              refine ⟨trivial, ?_⟩
              refine (callsIn_wide.2 (HT.out wd)).mono ?_
              rintro e u3 ⟨rfl, hB3⟩
              refine wpT_one 7 rfl rfl (by kernel_rfl) ?_
              go_simp
              refine wpT_done (by kernel_rfl) ?_ _
              have HB5 := Lib.hid (belowStep HBi.out (belowStep hd hB3))
              have HP5 := Lib.hid (HPi.out.via (belowStep hd hB3))
              have a0 := keptBelow hB3 a0
              have a1 := keptBelow hB3 a1
              have c0 := keptBelow hB3 c0
              have c1 := keptBelow hB3 c1
              have d0 := keptBelow hB3 d0
              have d1 := keptBelow hB3 d1
              have z0 := HP5.out.f0
              have z1 := HP5.out.f1
              clear hd hB3
              rcases pt_cases s1 s2 p1 q2 with ⟨rfl, rfl⟩ | h | ⟨rfl, h⟩
              · have HR := Lib.hid (HY2.out (.inl rfl))
                go_wp2_with fail
                go_quiet (fail)
                go_wp2_with fail
                go_roundw
                case rel => exact ⟨k + 1, by omega, by go_num, by rw [HR.out]; exact HP5.out.set _ _, ((below_drewN HB5.out _).setCell (p := ⟨W.heap.size, 0, none⟩) (by simp) _).setCell (p := ⟨W.heap.size, 1, none⟩) (by simp) _⟩
                case measure => simp [intOf]; omega
              · have HSQ : Hid ((s1, s2) ≠ (p1, q2)) := Lib.hid (fun e => h (congrArg Prod.fst e))
                rcases Int.lt_trichotomy tt 0 with h3 | h3 | h3
                · have HR := Lib.hid (HY2.out (.inr (.inl h3)))
                  go_wp2_with fail
                  go_quiet (fail)
                  go_wp2_with fail
                  go_roundw
                  case rel => exact ⟨k + 1, by omega, by go_num, by rw [HR.out]; exact HP5.out.set _ _, ((below_drewN HB5.out _).setCell (p := ⟨W.heap.size, 0, none⟩) (by simp) _).setCell (p := ⟨W.heap.size, 1, none⟩) (by simp) _⟩
                  case measure => simp [intOf]; omega
                · subst h3
                  go_wp2_with fail
                  refine (wpIn_wide (n := 5)).1 ?_
                  refine wpIn_region_T (fun w' => Below ((u3.drew)).heap.size (u3.drew) w') 19 (by kernel_rfl) ?_
                  have hd : Below u3.heap.size u3 u3.drew := (Below.refl _ _).drew
                  generalize u3.drew = wd at *
                  have a0 := keptBelow hd a0
                  have a1 := keptBelow hd a1
                  have c0 := keptBelow hd c0
                  have c1 := keptBelow hd c1
                  have d0 := keptBelow hd d0
                  have d1 := keptBelow hd d1
                  refine wpT_tk 0 74 (v := ?_) (Below.refl _ _) rfl rfl (by rfl) (hy := fun w hw => ?_) (h := ?_)
                  rotate_left
                  · have d0 := keptBelow hw d0; have d1 := keptBelow hw d1; go_simp; with_reducible rfl
                  try simp only [Act.put, List.setIfInBounds_toArray, List.set_cons_zero, List.set_cons_succ]
                  refine wpT_tk 1 75 (v := ?_) (Below.refl _ _) rfl rfl (by rfl) (hy := fun w hw => ?_) (h := ?_)
                  rotate_left
                  · have a0 := keptBelow hw a0; have a1 := keptBelow hw a1; go_simp; with_reducible rfl
                  try simp only [Act.put, List.setIfInBounds_toArray, List.set_cons_zero, List.set_cons_succ]
                  refine wpT_tk 2 76 (v := ?_) (Below.refl _ _) rfl rfl (by rfl) (hy := fun w hw => ?_) (h := ?_)
                  rotate_left
                  · go_simp; with_reducible rfl
                  try simp only [Act.put, List.setIfInBounds_toArray, List.set_cons_zero, List.set_cons_succ]
                  refine wpT_tk 3 77 (v := ?_) (Below.refl _ _) rfl rfl (by rfl) (hy := fun w hw => ?_) (h := ?_)
                  rotate_left
                  · go_simp; with_reducible rfl
                  try simp only [Act.put, List.setIfInBounds_toArray, List.set_cons_zero, List.set_cons_succ]
                  refine wpT_tk 4 78 (v := ?_) (Below.refl _ _) rfl rfl (by rfl) (hy := fun w hw => ?_) (h := ?_)
                  rotate_left
                  · go_simp; with_reducible rfl
                  try simp only [Act.put, List.setIfInBounds_toArray, List.set_cons_zero, List.set_cons_succ]
                  refine wpT_tk 5 79 (v := ?_) (Below.refl _ _) rfl rfl (by rfl) (hy := fun w hw => ?_) (h := ?_)
                  rotate_left
                  · go_simp; with_reducible rfl
                  try simp only [Act.put, List.setIfInBounds_toArray, List.set_cons_zero, List.set_cons_succ]
                  refine wpT_tk 6 80 (v := ?_) (Below.refl _ _) rfl rfl (by rfl) (hy := fun w hw => ?_) (h := ?_)
                  rotate_left
                  · go_simp; with_reducible rfl
                  try simp only [Act.put, List.setIfInBounds_toArray, List.set_cons_zero, List.set_cons_succ]
                  refine wpT_tk 7 81 (v := ?_) (Below.refl _ _) rfl rfl (by rfl) (hy := fun w hw => ?_) (h := ?_)
                  rotate_left
                  · go_simp; with_reducible rfl
                  try simp only [Act.put, List.setIfInBounds_toArray, List.set_cons_zero, List.set_cons_succ]
                  refine wpT_tk 8 82 (v := ?_) (Below.refl _ _) rfl rfl (by rfl) (hy := fun w hw => ?_) (h := ?_)
                  rotate_left
                  · go_simp; with_reducible rfl
                  try simp only [Act.put, List.setIfInBounds_toArray, List.set_cons_zero, List.set_cons_succ]
                  refine wpT_tk 9 83 (v := ?_) (Below.refl _ _) rfl rfl (by rfl) (hy := fun w hw => ?_) (h := ?_)
                  rotate_left
                  · go_simp; with_reducible rfl
                  try simp only [Act.put, List.setIfInBounds_toArray, List.set_cons_zero, List.set_cons_succ]
                  refine wpT_tk 10 84 (v := ?_) (Below.refl _ _) rfl rfl (by rfl) (hy := fun w hw => ?_) (h := ?_)
                  rotate_left
                  · go_simp; with_reducible rfl
                  try simp only [Act.put, List.setIfInBounds_toArray, List.set_cons_zero, List.set_cons_succ]
                  refine wpT_tk 11 85 (v := ?_) (Below.refl _ _) rfl rfl (by rfl) (hy := fun w hw => ?_) (h := ?_)
                  rotate_left
                  · have a0 := keptBelow hw a0; have a1 := keptBelow hw a1; go_simp; with_reducible rfl
                  try simp only [Act.put, List.setIfInBounds_toArray, List.set_cons_zero, List.set_cons_succ]
                  refine wpT_tk 12 86 (v := ?_) (Below.refl _ _) rfl rfl (by rfl) (hy := fun w hw => ?_) (h := ?_)
                  rotate_left
                  · go_simp; with_reducible rfl
                  try simp only [Act.put, List.setIfInBounds_toArray, List.set_cons_zero, List.set_cons_succ]
                  refine wpT_tk 13 87 (v := ?_) (Below.refl _ _) rfl rfl (by rfl) (hy := fun w hw => ?_) (h := ?_)
                  rotate_left
                  · go_simp; with_reducible rfl
                  try simp only [Act.put, List.setIfInBounds_toArray, List.set_cons_zero, List.set_cons_succ]
                  refine wpT_tk 14 88 (v := ?_) (Below.refl _ _) rfl rfl (by rfl) (hy := fun w hw => ?_) (h := ?_)
                  rotate_left
                  · go_simp; with_reducible rfl
                  try simp only [Act.put, List.setIfInBounds_toArray, List.set_cons_zero, List.set_cons_succ]
                  refine wpT_tk 15 89 (v := ?_) (Below.refl _ _) rfl rfl (by rfl) (hy := fun w hw => ?_) (h := ?_)
                  rotate_left
                  · have c0 := keptBelow hw c0; have c1 := keptBelow hw c1; go_simp; with_reducible rfl
                  try simp only [Act.put, List.setIfInBounds_toArray, List.set_cons_zero, List.set_cons_succ]
                  refine wpT_tk 17 91 (v := ?_) (Below.refl _ _) rfl rfl (by rfl) (hy := fun w hw => ?_) (h := ?_)
                  rotate_left
                  · have a0 := keptBelow hw a0; have a1 := keptBelow hw a1; go_simp; with_reducible rfl
                  try simp only [Act.put, List.setIfInBounds_toArray, List.set_cons_zero, List.set_cons_succ]
                  refine wpT_tk 18 92 (v := ?_) (Below.refl _ _) rfl rfl (by rfl) (hy := fun w hw => ?_) (h := ?_)
                  rotate_left
                  · have d0 := keptBelow hw d0; have d1 := keptBelow hw d1; go_simp; with_reducible rfl
                  try simp only [Act.put, List.setIfInBounds_toArray, List.set_cons_zero, List.set_cons_succ]
                  refine wpT_oneW 16 rfl (by rfl) (by kernel_rfl) ?_
                  go_simp
                  refine ⟨trivial, ?_⟩
                  refine (callsIn_wide.2 (HF1.out wd)).mono ?_
                  rintro e u5 ⟨rfl, hB5⟩
                  refine ⟨hB5, ?_⟩
                  refine wpT_oneW 19 rfl (by rfl) (by kernel_rfl) ?_
                  go_simp
                  refine ⟨trivial, ?_⟩
                  refine (callsIn_wide.2 (HF2.out u5)).mono ?_
                  rintro e u6 ⟨rfl, hB6⟩
                  refine wpT_oneW 20 rfl (by rfl) (by kernel_rfl) ?_
                  go_simp
                  refine wpT_oneW 21 rfl (by rfl) (by kernel_rfl) ?_
                  go_simp
                  refine wpT_oneW 22 rfl (by rfl) (by kernel_rfl) ?_
                  go_simp
                  refine wpT_done (by kernel_rfl) ?_ _
                  have HP6 := Lib.hid (HP5.out.via (belowStep hd (belowStep hB5 hB6)))
                  have HB6 := Lib.hid (belowStep HB5.out (belowStep hd (belowStep hB5 hB6)))
                  have c0 := keptBelow (belowStep hB5 hB6) c0
                  have c1 := keptBelow (belowStep hB5 hB6) c1
                  have d0 := keptBelow (belowStep hB5 hB6) d0
                  have d1 := keptBelow (belowStep hB5 hB6) d1
                  have z0 := HP6.out.f0
                  have z1 := HP6.out.f1
                  have HP5 := HP6
                  have HB5 := HB6
                  clear hd hB5 hB6 HB6 HP6
                  by_cases h4 : fb < fa
                  · have HR := Lib.hid (HY2.out (.inr (.inr ⟨trivial, h4⟩)))
                    go_wp2_with fail
                    go_roundw
                    case rel => exact ⟨k + 1, by omega, by go_num, by rw [HR.out]; exact HP5.out.set _ _, ((HB5.out).setCell (p := ⟨W.heap.size, 0, none⟩) (by simp) _).setCell (p := ⟨W.heap.size, 1, none⟩) (by simp) _⟩
                    case measure => simp [intOf]; omega
                  · have HR := Lib.hid (HN2.out (fun e => by rcases e with e | e | ⟨_, e⟩; exact HSQ.out e; omega; exact h4 e))
                    have h5 : fa ≤ fb := by omega
                    clear h4
                    go_wp2_with fail
                    go_roundw
                    case rel => exact ⟨k + 1, by omega, by go_num, by rw [HR.out]; exact HP5.out, HB5.out⟩
                    case measure => simp [intOf]; omega
                · have HR := Lib.hid (HN2.out (fun e => by rcases e with e | e | ⟨e, _⟩; exact HSQ.out e; omega; omega))
                  have hd1 : decide (tt < 0) = false := decide_eq_false (by omega)
                  have hd2 : (tt == 0) = false := by simp; omega
                  go_wp2_with fail
                  go_quiet (fail)
                  go_wp2_with fail
                  go_roundw
                  case rel => exact ⟨k + 1, by omega, by go_num, by rw [HR.out]; exact HP5.out, below_drewN HB5.out _⟩
                  case measure => simp [intOf]; omega
              · have HSQ : Hid ((s1, s2) ≠ (s1, q2)) := Lib.hid (fun e => h (congrArg Prod.snd e))
                rcases Int.lt_trichotomy tt 0 with h3 | h3 | h3
                · have HR := Lib.hid (HY2.out (.inr (.inl h3)))
                  go_wp2_with fail
                  go_quiet (fail)
                  go_wp2_with fail
                  go_roundw
                  case rel => exact ⟨k + 1, by omega, by go_num, by rw [HR.out]; exact HP5.out.set _ _, ((below_drewN HB5.out _).setCell (p := ⟨W.heap.size, 0, none⟩) (by simp) _).setCell (p := ⟨W.heap.size, 1, none⟩) (by simp) _⟩
                  case measure => simp [intOf]; omega
                · subst h3
                  go_wp2_with fail
                  refine (wpIn_wide (n := 5)).1 ?_
                  refine wpIn_region_T (fun w' => Below ((u3.drew)).heap.size (u3.drew) w') 19 (by kernel_rfl) ?_
                  have hd : Below u3.heap.size u3 u3.drew := (Below.refl _ _).drew
                  generalize u3.drew = wd at *
                  have a0 := keptBelow hd a0
                  have a1 := keptBelow hd a1
                  have c0 := keptBelow hd c0
                  have c1 := keptBelow hd c1
                  have d0 := keptBelow hd d0
                  have d1 := keptBelow hd d1
                  refine wpT_tk 0 74 (v := ?_) (Below.refl _ _) rfl rfl (by rfl) (hy := fun w hw => ?_) (h := ?_)
                  rotate_left
                  · have d0 := keptBelow hw d0; have d1 := keptBelow hw d1; go_simp; with_reducible rfl
                  try simp only [Act.put, List.setIfInBounds_toArray, List.set_cons_zero, List.set_cons_succ]
                  refine wpT_tk 1 75 (v := ?_) (Below.refl _ _) rfl rfl (by rfl) (hy := fun w hw => ?_) (h := ?_)
                  rotate_left
                  · have a0 := keptBelow hw a0; have a1 := keptBelow hw a1; go_simp; with_reducible rfl
                  try simp only [Act.put, List.setIfInBounds_toArray, List.set_cons_zero, List.set_cons_succ]
                  refine wpT_tk 2 76 (v := ?_) (Below.refl _ _) rfl rfl (by rfl) (hy := fun w hw => ?_) (h := ?_)
                  rotate_left
                  · go_simp; with_reducible rfl
                  try simp only [Act.put, List.setIfInBounds_toArray, List.set_cons_zero, List.set_cons_succ]
                  refine wpT_tk 3 77 (v := ?_) (Below.refl _ _) rfl rfl (by rfl) (hy := fun w hw => ?_) (h := ?_)
                  rotate_left
                  · go_simp; with_reducible rfl
                  try simp only [Act.put, List.setIfInBounds_toArray, List.set_cons_zero, List.set_cons_succ]
                  refine wpT_tk 4 78 (v := ?_) (Below.refl _ _) rfl rfl (by rfl) (hy := fun w hw => ?_) (h := ?_)
                  rotate_left
                  · go_simp; with_reducible rfl
                  try simp only [Act.put, List.setIfInBounds_toArray, List.set_cons_zero, List.set_cons_succ]
                  refine wpT_tk 5 79 (v := ?_) (Below.refl _ _) rfl rfl (by rfl) (hy := fun w hw => ?_) (h := ?_)
                  rotate_left
                  · go_simp; with_reducible rfl
                  try simp only [Act.put, List.setIfInBounds_toArray, List.set_cons_zero, List.set_cons_succ]
                  refine wpT_tk 6 80 (v := ?_) (Below.refl _ _) rfl rfl (by rfl) (hy := fun w hw => ?_) (h := ?_)
                  rotate_left
                  · go_simp; with_reducible rfl
                  try simp only [Act.put, List.setIfInBounds_toArray, List.set_cons_zero, List.set_cons_succ]
                  refine wpT_tk 7 81 (v := ?_) (Below.refl _ _) rfl rfl (by rfl) (hy := fun w hw => ?_) (h := ?_)
                  rotate_left
                  · go_simp; with_reducible rfl
                  try simp only [Act.put, List.setIfInBounds_toArray, List.set_cons_zero, List.set_cons_succ]
                  refine wpT_tk 8 82 (v := ?_) (Below.refl _ _) rfl rfl (by rfl) (hy := fun w hw => ?_) (h := ?_)
                  rotate_left
                  · go_simp; with_reducible rfl
                  try simp only [Act.put, List.setIfInBounds_toArray, List.set_cons_zero, List.set_cons_succ]
                  refine wpT_tk 9 83 (v := ?_) (Below.refl _ _) rfl rfl (by rfl) (hy := fun w hw => ?_) (h := ?_)
                  rotate_left
                  · go_simp; with_reducible rfl
                  try simp only [Act.put, List.setIfInBounds_toArray, List.set_cons_zero, List.set_cons_succ]
                  refine wpT_tk 10 84 (v := ?_) (Below.refl _ _) rfl rfl (by rfl) (hy := fun w hw => ?_) (h := ?_)
                  rotate_left
                  · go_simp; with_reducible rfl
                  try simp only [Act.put, List.setIfInBounds_toArray, List.set_cons_zero, List.set_cons_succ]
                  refine wpT_tk 11 85 (v := ?_) (Below.refl _ _) rfl rfl (by rfl) (hy := fun w hw => ?_) (h := ?_)
                  rotate_left
                  · have a0 := keptBelow hw a0; have a1 := keptBelow hw a1; go_simp; with_reducible rfl
                  try simp only [Act.put, List.setIfInBounds_toArray, List.set_cons_zero, List.set_cons_succ]
                  refine wpT_tk 12 86 (v := ?_) (Below.refl _ _) rfl rfl (by rfl) (hy := fun w hw => ?_) (h := ?_)
                  rotate_left
                  · go_simp; with_reducible rfl
                  try simp only [Act.put, List.setIfInBounds_toArray, List.set_cons_zero, List.set_cons_succ]
                  refine wpT_tk 13 87 (v := ?_) (Below.refl _ _) rfl rfl (by rfl) (hy := fun w hw => ?_) (h := ?_)
                  rotate_left
                  · go_simp; with_reducible rfl
                  try simp only [Act.put, List.setIfInBounds_toArray, List.set_cons_zero, List.set_cons_succ]
                  refine wpT_tk 14 88 (v := ?_) (Below.refl _ _) rfl rfl (by rfl) (hy := fun w hw => ?_) (h := ?_)
                  rotate_left
                  · go_simp; with_reducible rfl
                  try simp only [Act.put, List.setIfInBounds_toArray, List.set_cons_zero, List.set_cons_succ]
                  refine wpT_tk 15 89 (v := ?_) (Below.refl _ _) rfl rfl (by rfl) (hy := fun w hw => ?_) (h := ?_)
                  rotate_left
                  · have c0 := keptBelow hw c0; have c1 := keptBelow hw c1; go_simp; with_reducible rfl
                  try simp only [Act.put, List.setIfInBounds_toArray, List.set_cons_zero, List.set_cons_succ]
                  refine wpT_tk 17 91 (v := ?_) (Below.refl _ _) rfl rfl (by rfl) (hy := fun w hw => ?_) (h := ?_)
                  rotate_left
                  · have a0 := keptBelow hw a0; have a1 := keptBelow hw a1; go_simp; with_reducible rfl
                  try simp only [Act.put, List.setIfInBounds_toArray, List.set_cons_zero, List.set_cons_succ]
                  refine wpT_tk 18 92 (v := ?_) (Below.refl _ _) rfl rfl (by rfl) (hy := fun w hw => ?_) (h := ?_)
                  rotate_left
                  · have d0 := keptBelow hw d0; have d1 := keptBelow hw d1; go_simp; with_reducible rfl
                  try simp only [Act.put, List.setIfInBounds_toArray, List.set_cons_zero, List.set_cons_succ]
                  refine wpT_oneW 16 rfl (by rfl) (by kernel_rfl) ?_
                  go_simp
                  refine ⟨trivial, ?_⟩
                  refine (callsIn_wide.2 (HF1.out wd)).mono ?_
                  rintro e u5 ⟨rfl, hB5⟩
                  refine ⟨hB5, ?_⟩
                  refine wpT_oneW 19 rfl (by rfl) (by kernel_rfl) ?_
                  go_simp
                  refine ⟨trivial, ?_⟩
                  refine (callsIn_wide.2 (HF2.out u5)).mono ?_
                  rintro e u6 ⟨rfl, hB6⟩
                  refine wpT_oneW 20 rfl (by rfl) (by kernel_rfl) ?_
                  go_simp
                  refine wpT_oneW 21 rfl (by rfl) (by kernel_rfl) ?_
                  go_simp
                  refine wpT_oneW 22 rfl (by rfl) (by kernel_rfl) ?_
                  go_simp
                  refine wpT_done (by kernel_rfl) ?_ _
                  have HP6 := Lib.hid (HP5.out.via (belowStep hd (belowStep hB5 hB6)))
                  have HB6 := Lib.hid (belowStep HB5.out (belowStep hd (belowStep hB5 hB6)))
                  have c0 := keptBelow (belowStep hB5 hB6) c0
                  have c1 := keptBelow (belowStep hB5 hB6) c1
                  have d0 := keptBelow (belowStep hB5 hB6) d0
                  have d1 := keptBelow (belowStep hB5 hB6) d1
                  have z0 := HP6.out.f0
                  have z1 := HP6.out.f1
                  have HP5 := HP6
                  have HB5 := HB6
                  clear hd hB5 hB6 HB6 HP6
                  by_cases h4 : fb < fa
                  · have HR := Lib.hid (HY2.out (.inr (.inr ⟨trivial, h4⟩)))
                    go_wp2_with fail
                    go_roundw
                    case rel => exact ⟨k + 1, by omega, by go_num, by rw [HR.out]; exact HP5.out.set _ _, ((HB5.out).setCell (p := ⟨W.heap.size, 0, none⟩) (by simp) _).setCell (p := ⟨W.heap.size, 1, none⟩) (by simp) _⟩
                    case measure => simp [intOf]; omega
                  · have HR := Lib.hid (HN2.out (fun e => by rcases e with e | e | ⟨_, e⟩; exact HSQ.out e; omega; exact h4 e))
                    have h5 : fa ≤ fb := by omega
                    clear h4
                    go_wp2_with fail
                    go_roundw
                    case rel => exact ⟨k + 1, by omega, by go_num, by rw [HR.out]; exact HP5.out, HB5.out⟩
                    case measure => simp [intOf]; omega
                · have HR := Lib.hid (HN2.out (fun e => by rcases e with e | e | ⟨e, _⟩; exact HSQ.out e; omega; omega))
                  have hd1 : decide (tt < 0) = false := decide_eq_false (by omega)
                  have hd2 : (tt == 0) = false := by simp; omega
                  go_wp2_with fail
                  go_quiet (fail)
                  go_wp2_with fail
                  go_roundw
                  case rel => exact ⟨k + 1, by omega, by go_num, by rw [HR.out]; exact HP5.out, below_drewN HB5.out _⟩
                  case measure => simp [intOf]; omega
          · obtain rfl : m = k := by omega
            obtain ⟨i0, hi, hz0, hz1, hz2⟩ := info_parts info_pt
            have HI := Lib.hid hi
            have HZ0 := Lib.hid hz0
            have HZ1 := Lib.hid hz1
            have HZ2 := Lib.hid hz2
            have HO5 := Lib.hid (own_via HOWN.out hBi)
            have HPF5 := Lib.hid (HPF.out.via hBi)
            have hlen := way_len HUL2.out.1
            have HLEN := Lib.hid hlen
            have hpos := HUL2.out.1.pos
            have HOKO : Hid (PtsOk out) := Lib.hid (fun r hr => by obtain ⟨j, hj, rfl⟩ := mem_vx hr; exact on_i64 (ho _ (HUL2.out.1.mem j hj)))
            have hsn : scn l q m = nxtP l q := by rw [HM.out]; rfl
            have HSTOP : Hid (scn l q m = q ∨ scn l q m = (f1, f2) → hulP l = out) := Lib.hid (by rw [hsn, ← HFL.out]; exact HUL2.out.stop)
            have HSTEP : Hid (scn l q m ≠ q → scn l q m ≠ (f1, f2) → HulI l (out ++ [scn l q m]) (scn l q m)) := Lib.hid (by rw [hsn, ← HFL.out]; exact HUL2.out.step ho)
            have a0 := HPBi.out.c0
            have a1 := HPBi.out.c1
            have d0 := hbx.c0
            have d1 := hbx.c1
            have g0 := HPF5.out.c0
            have g1 := HPF5.out.c1
            clear hi hz0 hz1 hz2 hbx hBi hsn
            generalize scn l q m = s at *
            obtain ⟨q1, q2⟩ := q
            obtain ⟨s1, s2⟩ := s
            dsimp only at a0 a1 d0 d1 g0 g1
            rcases pt_cases s1 s2 q1 q2 with ⟨rfl, rfl⟩ | h | ⟨rfl, h⟩
            · have HR := Lib.hid (HSTOP.out (.inl rfl))
              go_wp2_with fail
              go_ret
              exact ⟨_, rfl, by rw [HR.out]; exact owns_at HO5.out HOKO.out, HBWi.out⟩
            · have HSQ : Hid ((s1, s2) ≠ (q1, q2)) := Lib.hid (fun e => h (congrArg Prod.fst e))
              rcases pt_cases s1 s2 f1 f2 with ⟨rfl, rfl⟩ | h2 | ⟨rfl, h2⟩
              · have HR := Lib.hid (HSTOP.out (.inr rfl))
                go_wp2_with fail
                go_ret
                exact ⟨_, rfl, by rw [HR.out]; exact owns_at HO5.out HOKO.out, HBWi.out⟩
              · have HSF : Hid ((s1, s2) ≠ (f1, f2)) := Lib.hid (fun e => h2 (congrArg Prod.fst e))
                have HST := Lib.hid (HSTEP.out HSQ.out HSF.out)
                have hpos2 := HUL2.out.1.pos
                have HO6 := Lib.hid (own_via HO5.out (alloc_below wr (.cells #[.int .i64 s1, .int .i64 s2] 38)))
                have HN := Lib.hid (news_in (w := wr.alloc (.cells #[.int .i64 s1, .int .i64 s2] 38)) (g := wr.heap.size) (o := 0) (l := [(s1, s2)]) (fun j hj => by obtain rfl : j = 0 := (by simp at hj; omega); exact ⟨cell_rowN wr _ _ 0 rfl, cell_rowN wr _ _ 1 rfl⟩))
                have HA := Lib.hid (app_ok (n := out.length) (m := 1) (by omega))
                have HBZ : Hid (w.heap.size + 1 ≤ (wr.alloc (.cells #[.int .i64 s1, .int .i64 s2] 38)).heap.size) := Lib.hid (by have := HBWi.out.size; simp; omega)
                have HP7 := Lib.hid (HPi.out.via (alloc_below wr (.cells #[.int .i64 s1, .int .i64 s2] 38)))
                have HP6 := Lib.hid (HPBi.out.via (alloc_below wr (.cells #[.int .i64 s1, .int .i64 s2] 38)))
                have HPF6 := Lib.hid (HPF5.out.via (alloc_below wr (.cells #[.int .i64 s1, .int .i64 s2] 38)))
                have HB6 := Lib.hid (belowStep HBWi.out (alloc_below wr (.cells #[.int .i64 s1, .int .i64 s2] 38)))
                go_wp2_with (at_builtin; refine wpList_append_own _ rfl _ _ 25 rfl (w.heap.size + 1) 38 i0 (.agg #[.int .i64 0, .int .i64 0]) 2 16 Tryd.underlying25 HI.out HZ0.out HZ1.out HZ2.out rfl (by decide) _ out.length (cellsP out) rfl HO6.out ⟨wr.heap.size, 0, none⟩ 1 1 (cellsP [(s1, s2)]) rfl rfl HN.out (cellsP_one _) HA.out.1 HA.out.2 HBZ.out ?_)
                intro v' w5 hown5 hgrow5 _
                have hlt5 := HLT.out
                have HP75 := Lib.hid (HP7.out.grown hgrow5 (fun k hk => by have := hlt5 k hk; have := lt_of_cell HPB.out.c0; omega))
                have HP65 := Lib.hid (HP6.out.grown hgrow5 (fun k hk => by have := hlt5 k hk; omega))
                have HPF7 := Lib.hid (HPF6.out.grown hgrow5 (fun k hk => by have := (own_lt HO6.out k hk).1; omega))
                have HB7 := Lib.hid (HB6.out.grown hgrow5 (by have := HBZ.out; omega) (fun k hk => by have := (own_lt HO6.out k hk).1; omega))
                have HNB := Lib.hid (own_not_box hown5 (by omega) HP65.out)
                have HO8 := Lib.hid (own_set (i := 1) (y := .int .i64 s2) (own_set (i := 0) (y := .int .i64 s1) hown5 HNB.out) HNB.out)
                clear hown5 hgrow5 hlt5 hpos2 a0 a1 d0 d1 g0 g1
                have d0 := HP75.out.c0
                have d1 := HP75.out.c1
                have a0 := HP65.out.c0
                have a1 := HP65.out.c1
                have z0 := HP65.out.f0
                have z1 := HP65.out.f1
                dsimp only at d0 d1 a0 a1
                have HP8 := Lib.hid (HP65.out.set s1 s2)
                have e0 := HP8.out.c0
                have e1 := HP8.out.c1
                have HPF8 := Lib.hid ((HPF7.out.other (b' := b) (i := 0) (.int .i64 s1) (by omega)).other (b' := b) (i := 1) (.int .i64 s2) (by omega))
                have HB8 := Lib.hid ((HB7.out.setCell (p := ⟨b, 0, none⟩) (by show w.heap.size ≤ b; omega) (.int .i64 s1)).setCell (p := ⟨b, 1, none⟩) (by show w.heap.size ≤ b; omega) (.int .i64 s2))
                have HL8 := Lib.hid (lt_of_cell a0)
                go_wp2_with fail
                go_roundw
                case rel => exact ⟨out ++ [(s1, s2)], (s1, s2), w5.heap.size, rfl, HST.out, by rw [List.length_append, cellsP_app]; exact own_via HO8.out (alloc_below _ _), fun k hk => by have := (own_lt HO8.out k hk).2; simp at this; exact this, by have := HL8.out; omega, by have := PBox.new ((w5.setCell ⟨b, 0, none⟩ (.int .i64 s1)).setCell ⟨b, 1, none⟩ (.int .i64 s2)) s1 s2; rw [size_set2] at this; exact this, HPF8.out.via (alloc_below _ _), belowStep HB8.out (alloc_below _ _)⟩
                case measure => have h9 := way_len HST.out.1; rw [own_slN HO8.out, own_slN HOWN.out]; rw [List.length_append] at h9; simp at h9; omega
              · have HSF : Hid ((s1, s2) ≠ (s1, f2)) := Lib.hid (fun e => h2 (congrArg Prod.snd e))
                have HST := Lib.hid (HSTEP.out HSQ.out HSF.out)
                have hpos2 := HUL2.out.1.pos
                have HO6 := Lib.hid (own_via HO5.out (alloc_below wr (.cells #[.int .i64 s1, .int .i64 s2] 38)))
                have HN := Lib.hid (news_in (w := wr.alloc (.cells #[.int .i64 s1, .int .i64 s2] 38)) (g := wr.heap.size) (o := 0) (l := [(s1, s2)]) (fun j hj => by obtain rfl : j = 0 := (by simp at hj; omega); exact ⟨cell_rowN wr _ _ 0 rfl, cell_rowN wr _ _ 1 rfl⟩))
                have HA := Lib.hid (app_ok (n := out.length) (m := 1) (by omega))
                have HBZ : Hid (w.heap.size + 1 ≤ (wr.alloc (.cells #[.int .i64 s1, .int .i64 s2] 38)).heap.size) := Lib.hid (by have := HBWi.out.size; simp; omega)
                have HP7 := Lib.hid (HPi.out.via (alloc_below wr (.cells #[.int .i64 s1, .int .i64 s2] 38)))
                have HP6 := Lib.hid (HPBi.out.via (alloc_below wr (.cells #[.int .i64 s1, .int .i64 s2] 38)))
                have HPF6 := Lib.hid (HPF5.out.via (alloc_below wr (.cells #[.int .i64 s1, .int .i64 s2] 38)))
                have HB6 := Lib.hid (belowStep HBWi.out (alloc_below wr (.cells #[.int .i64 s1, .int .i64 s2] 38)))
                go_wp2_with (at_builtin; refine wpList_append_own _ rfl _ _ 25 rfl (w.heap.size + 1) 38 i0 (.agg #[.int .i64 0, .int .i64 0]) 2 16 Tryd.underlying25 HI.out HZ0.out HZ1.out HZ2.out rfl (by decide) _ out.length (cellsP out) rfl HO6.out ⟨wr.heap.size, 0, none⟩ 1 1 (cellsP [(s1, s2)]) rfl rfl HN.out (cellsP_one _) HA.out.1 HA.out.2 HBZ.out ?_)
                intro v' w5 hown5 hgrow5 _
                have hlt5 := HLT.out
                have HP75 := Lib.hid (HP7.out.grown hgrow5 (fun k hk => by have := hlt5 k hk; have := lt_of_cell HPB.out.c0; omega))
                have HP65 := Lib.hid (HP6.out.grown hgrow5 (fun k hk => by have := hlt5 k hk; omega))
                have HPF7 := Lib.hid (HPF6.out.grown hgrow5 (fun k hk => by have := (own_lt HO6.out k hk).1; omega))
                have HB7 := Lib.hid (HB6.out.grown hgrow5 (by have := HBZ.out; omega) (fun k hk => by have := (own_lt HO6.out k hk).1; omega))
                have HNB := Lib.hid (own_not_box hown5 (by omega) HP65.out)
                have HO8 := Lib.hid (own_set (i := 1) (y := .int .i64 s2) (own_set (i := 0) (y := .int .i64 s1) hown5 HNB.out) HNB.out)
                clear hown5 hgrow5 hlt5 hpos2 a0 a1 d0 d1 g0 g1
                have d0 := HP75.out.c0
                have d1 := HP75.out.c1
                have a0 := HP65.out.c0
                have a1 := HP65.out.c1
                have z0 := HP65.out.f0
                have z1 := HP65.out.f1
                dsimp only at d0 d1 a0 a1
                have HP8 := Lib.hid (HP65.out.set s1 s2)
                have e0 := HP8.out.c0
                have e1 := HP8.out.c1
                have HPF8 := Lib.hid ((HPF7.out.other (b' := b) (i := 0) (.int .i64 s1) (by omega)).other (b' := b) (i := 1) (.int .i64 s2) (by omega))
                have HB8 := Lib.hid ((HB7.out.setCell (p := ⟨b, 0, none⟩) (by show w.heap.size ≤ b; omega) (.int .i64 s1)).setCell (p := ⟨b, 1, none⟩) (by show w.heap.size ≤ b; omega) (.int .i64 s2))
                have HL8 := Lib.hid (lt_of_cell a0)
                go_wp2_with fail
                go_roundw
                case rel => exact ⟨out ++ [(s1, s2)], (s1, s2), w5.heap.size, rfl, HST.out, by rw [List.length_append, cellsP_app]; exact own_via HO8.out (alloc_below _ _), fun k hk => by have := (own_lt HO8.out k hk).2; simp at this; exact this, by have := HL8.out; omega, by have := PBox.new ((w5.setCell ⟨b, 0, none⟩ (.int .i64 s1)).setCell ⟨b, 1, none⟩ (.int .i64 s2)) s1 s2; rw [size_set2] at this; exact this, HPF8.out.via (alloc_below _ _), belowStep HB8.out (alloc_below _ _)⟩
                case measure => have h9 := way_len HST.out.1; rw [own_slN HO8.out, own_slN HOWN.out]; rw [List.length_append] at h9; simp at h9; omega
            · have HSQ : Hid ((s1, s2) ≠ (s1, q2)) := Lib.hid (fun e => h (congrArg Prod.snd e))
              rcases pt_cases s1 s2 f1 f2 with ⟨rfl, rfl⟩ | h2 | ⟨rfl, h2⟩
              · have HR := Lib.hid (HSTOP.out (.inr rfl))
                go_wp2_with fail
                go_ret
                exact ⟨_, rfl, by rw [HR.out]; exact owns_at HO5.out HOKO.out, HBWi.out⟩
              · have HSF : Hid ((s1, s2) ≠ (f1, f2)) := Lib.hid (fun e => h2 (congrArg Prod.fst e))
                have HST := Lib.hid (HSTEP.out HSQ.out HSF.out)
                have hpos2 := HUL2.out.1.pos
                have HO6 := Lib.hid (own_via HO5.out (alloc_below wr (.cells #[.int .i64 s1, .int .i64 s2] 38)))
                have HN := Lib.hid (news_in (w := wr.alloc (.cells #[.int .i64 s1, .int .i64 s2] 38)) (g := wr.heap.size) (o := 0) (l := [(s1, s2)]) (fun j hj => by obtain rfl : j = 0 := (by simp at hj; omega); exact ⟨cell_rowN wr _ _ 0 rfl, cell_rowN wr _ _ 1 rfl⟩))
                have HA := Lib.hid (app_ok (n := out.length) (m := 1) (by omega))
                have HBZ : Hid (w.heap.size + 1 ≤ (wr.alloc (.cells #[.int .i64 s1, .int .i64 s2] 38)).heap.size) := Lib.hid (by have := HBWi.out.size; simp; omega)
                have HP7 := Lib.hid (HPi.out.via (alloc_below wr (.cells #[.int .i64 s1, .int .i64 s2] 38)))
                have HP6 := Lib.hid (HPBi.out.via (alloc_below wr (.cells #[.int .i64 s1, .int .i64 s2] 38)))
                have HPF6 := Lib.hid (HPF5.out.via (alloc_below wr (.cells #[.int .i64 s1, .int .i64 s2] 38)))
                have HB6 := Lib.hid (belowStep HBWi.out (alloc_below wr (.cells #[.int .i64 s1, .int .i64 s2] 38)))
                go_wp2_with (at_builtin; refine wpList_append_own _ rfl _ _ 25 rfl (w.heap.size + 1) 38 i0 (.agg #[.int .i64 0, .int .i64 0]) 2 16 Tryd.underlying25 HI.out HZ0.out HZ1.out HZ2.out rfl (by decide) _ out.length (cellsP out) rfl HO6.out ⟨wr.heap.size, 0, none⟩ 1 1 (cellsP [(s1, s2)]) rfl rfl HN.out (cellsP_one _) HA.out.1 HA.out.2 HBZ.out ?_)
                intro v' w5 hown5 hgrow5 _
                have hlt5 := HLT.out
                have HP75 := Lib.hid (HP7.out.grown hgrow5 (fun k hk => by have := hlt5 k hk; have := lt_of_cell HPB.out.c0; omega))
                have HP65 := Lib.hid (HP6.out.grown hgrow5 (fun k hk => by have := hlt5 k hk; omega))
                have HPF7 := Lib.hid (HPF6.out.grown hgrow5 (fun k hk => by have := (own_lt HO6.out k hk).1; omega))
                have HB7 := Lib.hid (HB6.out.grown hgrow5 (by have := HBZ.out; omega) (fun k hk => by have := (own_lt HO6.out k hk).1; omega))
                have HNB := Lib.hid (own_not_box hown5 (by omega) HP65.out)
                have HO8 := Lib.hid (own_set (i := 1) (y := .int .i64 s2) (own_set (i := 0) (y := .int .i64 s1) hown5 HNB.out) HNB.out)
                clear hown5 hgrow5 hlt5 hpos2 a0 a1 d0 d1 g0 g1
                have d0 := HP75.out.c0
                have d1 := HP75.out.c1
                have a0 := HP65.out.c0
                have a1 := HP65.out.c1
                have z0 := HP65.out.f0
                have z1 := HP65.out.f1
                dsimp only at d0 d1 a0 a1
                have HP8 := Lib.hid (HP65.out.set s1 s2)
                have e0 := HP8.out.c0
                have e1 := HP8.out.c1
                have HPF8 := Lib.hid ((HPF7.out.other (b' := b) (i := 0) (.int .i64 s1) (by omega)).other (b' := b) (i := 1) (.int .i64 s2) (by omega))
                have HB8 := Lib.hid ((HB7.out.setCell (p := ⟨b, 0, none⟩) (by show w.heap.size ≤ b; omega) (.int .i64 s1)).setCell (p := ⟨b, 1, none⟩) (by show w.heap.size ≤ b; omega) (.int .i64 s2))
                have HL8 := Lib.hid (lt_of_cell a0)
                go_wp2_with fail
                go_roundw
                case rel => exact ⟨out ++ [(s1, s2)], (s1, s2), w5.heap.size, rfl, HST.out, by rw [List.length_append, cellsP_app]; exact own_via HO8.out (alloc_below _ _), fun k hk => by have := (own_lt HO8.out k hk).2; simp at this; exact this, by have := HL8.out; omega, by have := PBox.new ((w5.setCell ⟨b, 0, none⟩ (.int .i64 s1)).setCell ⟨b, 1, none⟩ (.int .i64 s2)) s1 s2; rw [size_set2] at this; exact this, HPF8.out.via (alloc_below _ _), belowStep HB8.out (alloc_below _ _)⟩
                case measure => have h9 := way_len HST.out.1; rw [own_slN HO8.out, own_slN HOWN.out]; rw [List.length_append] at h9; simp at h9; omega
              · have HSF : Hid ((s1, s2) ≠ (s1, f2)) := Lib.hid (fun e => h2 (congrArg Prod.snd e))
                have HST := Lib.hid (HSTEP.out HSQ.out HSF.out)
                have hpos2 := HUL2.out.1.pos
                have HO6 := Lib.hid (own_via HO5.out (alloc_below wr (.cells #[.int .i64 s1, .int .i64 s2] 38)))
                have HN := Lib.hid (news_in (w := wr.alloc (.cells #[.int .i64 s1, .int .i64 s2] 38)) (g := wr.heap.size) (o := 0) (l := [(s1, s2)]) (fun j hj => by obtain rfl : j = 0 := (by simp at hj; omega); exact ⟨cell_rowN wr _ _ 0 rfl, cell_rowN wr _ _ 1 rfl⟩))
                have HA := Lib.hid (app_ok (n := out.length) (m := 1) (by omega))
                have HBZ : Hid (w.heap.size + 1 ≤ (wr.alloc (.cells #[.int .i64 s1, .int .i64 s2] 38)).heap.size) := Lib.hid (by have := HBWi.out.size; simp; omega)
                have HP7 := Lib.hid (HPi.out.via (alloc_below wr (.cells #[.int .i64 s1, .int .i64 s2] 38)))
                have HP6 := Lib.hid (HPBi.out.via (alloc_below wr (.cells #[.int .i64 s1, .int .i64 s2] 38)))
                have HPF6 := Lib.hid (HPF5.out.via (alloc_below wr (.cells #[.int .i64 s1, .int .i64 s2] 38)))
                have HB6 := Lib.hid (belowStep HBWi.out (alloc_below wr (.cells #[.int .i64 s1, .int .i64 s2] 38)))
                go_wp2_with (at_builtin; refine wpList_append_own _ rfl _ _ 25 rfl (w.heap.size + 1) 38 i0 (.agg #[.int .i64 0, .int .i64 0]) 2 16 Tryd.underlying25 HI.out HZ0.out HZ1.out HZ2.out rfl (by decide) _ out.length (cellsP out) rfl HO6.out ⟨wr.heap.size, 0, none⟩ 1 1 (cellsP [(s1, s2)]) rfl rfl HN.out (cellsP_one _) HA.out.1 HA.out.2 HBZ.out ?_)
                intro v' w5 hown5 hgrow5 _
                have hlt5 := HLT.out
                have HP75 := Lib.hid (HP7.out.grown hgrow5 (fun k hk => by have := hlt5 k hk; have := lt_of_cell HPB.out.c0; omega))
                have HP65 := Lib.hid (HP6.out.grown hgrow5 (fun k hk => by have := hlt5 k hk; omega))
                have HPF7 := Lib.hid (HPF6.out.grown hgrow5 (fun k hk => by have := (own_lt HO6.out k hk).1; omega))
                have HB7 := Lib.hid (HB6.out.grown hgrow5 (by have := HBZ.out; omega) (fun k hk => by have := (own_lt HO6.out k hk).1; omega))
                have HNB := Lib.hid (own_not_box hown5 (by omega) HP65.out)
                have HO8 := Lib.hid (own_set (i := 1) (y := .int .i64 s2) (own_set (i := 0) (y := .int .i64 s1) hown5 HNB.out) HNB.out)
                clear hown5 hgrow5 hlt5 hpos2 a0 a1 d0 d1 g0 g1
                have d0 := HP75.out.c0
                have d1 := HP75.out.c1
                have a0 := HP65.out.c0
                have a1 := HP65.out.c1
                have z0 := HP65.out.f0
                have z1 := HP65.out.f1
                dsimp only at d0 d1 a0 a1
                have HP8 := Lib.hid (HP65.out.set s1 s2)
                have e0 := HP8.out.c0
                have e1 := HP8.out.c1
                have HPF8 := Lib.hid ((HPF7.out.other (b' := b) (i := 0) (.int .i64 s1) (by omega)).other (b' := b) (i := 1) (.int .i64 s2) (by omega))
                have HB8 := Lib.hid ((HB7.out.setCell (p := ⟨b, 0, none⟩) (by show w.heap.size ≤ b; omega) (.int .i64 s1)).setCell (p := ⟨b, 1, none⟩) (by show w.heap.size ≤ b; omega) (.int .i64 s2))
                have HL8 := Lib.hid (lt_of_cell a0)
                go_wp2_with fail
                go_roundw
                case rel => exact ⟨out ++ [(s1, s2)], (s1, s2), w5.heap.size, rfl, HST.out, by rw [List.length_append, cellsP_app]; exact own_via HO8.out (alloc_below _ _), fun k hk => by have := (own_lt HO8.out k hk).2; simp at this; exact this, by have := HL8.out; omega, by have := PBox.new ((w5.setCell ⟨b, 0, none⟩ (.int .i64 s1)).setCell ⟨b, 1, none⟩ (.int .i64 s2)) s1 s2; rw [size_set2] at this; exact this, HPF8.out.via (alloc_below _ _), belowStep HB8.out (alloc_below _ _)⟩
                case measure => have h9 := way_len HST.out.1; rw [own_slN HO8.out, own_slN HOWN.out]; rw [List.length_append] at h9; simp at h9; omega
end Go.Proofs.YtcamncipkofgkaaDoor
/- PlnMadeP: Plain mathematics of layer 7: the polygons that integers determine. Nothing of the program. -/
namespace Pln

/-- An index out of any integer. -/
def pkI (c n : Int) : Int := if c < 0 then (-(c + 1)).tmod n else c.tmod n
theorem pkI_in {c n : Int} (h : 0 < n) : 0 ≤ pkI c n ∧ pkI c n < n := by
  unfold pkI
  split
  · rw [Int.tmod_eq_emod_of_nonneg (by omega)]; exact ⟨Int.emod_nonneg _ (by omega), Int.emod_lt_of_pos _ h⟩
  · rw [Int.tmod_eq_emod_of_nonneg (by omega)]; exact ⟨Int.emod_nonneg _ (by omega), Int.emod_lt_of_pos _ h⟩
def mkP (low high : Int) (p : Pt) : Pt := (low + pkI p.1 (high - low + 1), pkI p.2 41)
def someP (x : List Pt) (low high : Int) : List Pt := (x.take 8).map (mkP low high)
def triP (low high : Int) : List Pt := [(low, 10), (high, 10), (low, 20)]
def baseP (x : List Pt) (low high : Int) : List Pt := if 3 ≤ (hulP (someP x low high)).length then hulP (someP x low high) else triP low high
def turnK (x : List Pt) (n : Nat) : Nat := if x.length = 0 then 0 else (pkI ((vx x 0).1.tdiv 41) n).toNat
def madeP (x : List Pt) (low high : Int) : List Pt := rot (baseP x low high) (turnK x (baseP x low high).length)

theorem mkP_on {low high : Int} (h0 : 0 ≤ low) (h1 : low < high) (h2 : high ≤ 40) (p : Pt) : On (mkP low high p) := by
  have a := pkI_in (c := p.1) (n := high - low + 1) (by omega)
  have b := pkI_in (c := p.2) (n := 41) (by omega)
  exact ⟨by show 0 ≤ low + _; omega, by show low + _ ≤ 40; omega, by show 0 ≤ pkI _ _; omega, by show pkI _ _ ≤ 40; omega⟩
theorem someP_ons {low high : Int} (h0 : 0 ≤ low) (h1 : low < high) (h2 : high ≤ 40) (x : List Pt) : Ons (someP x low high) := fun p hp => by
  obtain ⟨q, _, rfl⟩ := List.mem_map.1 hp; exact mkP_on h0 h1 h2 q
theorem someP_len (x : List Pt) (low high : Int) : (someP x low high).length = min 8 x.length := by unfold someP; rw [List.length_map, List.length_take]
theorem triP_val {low high : Int} (h0 : 0 ≤ low) (h1 : low < high) (h2 : high ≤ 40) : Val (triP low high) := by
  refine ⟨by simp [triP], by simp [triP], fun i hi => ?_, fun i hi j hj a b => ?_⟩
  · have : i = 0 ∨ i = 1 ∨ i = 2 := by simp [triP] at hi; omega
    rcases this with rfl | rfl | rfl <;> exact ⟨by simp [triP, vx]; try omega, by simp [triP, vx]; try omega, by simp [triP, vx], by simp [triP, vx]⟩
  · have hi' : i = 0 ∨ i = 1 ∨ i = 2 := by simp [triP] at hi; omega
    have hj' : j = 0 ∨ j = 1 ∨ j = 2 := by simp [triP] at hj; omega
    rcases hi' with rfl | rfl | rfl <;> rcases hj' with rfl | rfl | rfl <;> simp [triP, vx, nx, turn] at a b ⊢ <;> omega
theorem hulP_none : (hulP ([] : List Pt)).length = 1 := rfl
theorem baseP_val {low high : Int} (h0 : 0 ≤ low) (h1 : low < high) (h2 : high ≤ 40) (x : List Pt) : Val (baseP x low high) := by
  unfold baseP
  split
  · rename_i h
    by_cases hx : (someP x low high).length = 0
    · rw [List.length_eq_zero_iff.1 hx, hulP_none] at h; omega
    · exact hul_val (by omega) (by rw [someP_len]; omega) (someP_ons h0 h1 h2 x) h
  · exact triP_val h0 h1 h2
theorem turnK_le {x : List Pt} {n : Nat} (h : 0 < n) : turnK x n ≤ n := by
  unfold turnK
  split
  · omega
  · have := pkI_in (c := (vx x 0).1.tdiv 41) (n := n) (by omega); omega
theorem madeP_val {low high : Int} (h0 : 0 ≤ low) (h1 : low < high) (h2 : high ≤ 40) (x : List Pt) : Val (madeP x low high) := by
  have v := baseP_val h0 h1 h2 x
  exact rot_val v (turnK_le (by have := v.lo; omega))
end Pln
