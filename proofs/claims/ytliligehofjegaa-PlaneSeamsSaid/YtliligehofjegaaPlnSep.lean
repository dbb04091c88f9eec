/- The contract of separating. -/
import Derived.Test.YtliligehofjegaaPlnFunc
namespace Go.Proofs.Ytliligehofjegaa
open Go.RowKit Go.Shelf Pln
attribute [local go_sem] Oper.semAt_some

/-- What separating returns. -/
def sepV : Option Nat → Value
  | some i => .tuple #[.int .i64 i, .bool true]
  | none => .tuple #[.int .i64 0, .bool false]
structure SepI (w : World) (v vo : Value) (x : Int) (y : Bool) (A : World) : Prop where
  other : A.cell? ⟨w.heap.size, 0, none⟩ = some vo
  num : Boxed A (w.heap.size + 1) 3 (.int .i64 x)
  flag : Boxed A (w.heap.size + 1 + 1) 4 (.bool y)
  held : A.cell? ⟨w.heap.size + 1 + 1 + 1, 0, none⟩ = some v
  below : Below w.heap.size w A
theorem SepI.held_ {w : World} {v vo : Value} {l : List Pt} {x : Int} {y : Bool} {A : World} (h : SepI w v vo x y A) (hv : PtsAt w v l) : Held (w.heap.size + 1 + 1 + 1) v l A := ⟨h.held, hv.via h.below⟩
theorem SepI.via {w w0 : World} {v vo : Value} {x : Int} {y : Bool} {A A' : World} (h : SepI w v vo x y A) (hB : Below w0.heap.size A A') (hs : w.heap.size + 1 + 1 + 1 < w0.heap.size) : SepI w v vo x y A' :=
  ⟨kept_n hB (by omega) h.other, (hB.block _ (by omega)).trans h.num, (hB.block _ (by omega)).trans h.flag, kept_n hB hs h.held, h.below.trans (below_of_le hB (by omega))⟩
theorem boxed_ne {A : World} {b b' i : Nat} {t : TypeId} {x y : Value} (h : Boxed A b t x) (hn : b ≠ b') : Boxed (A.setCell ⟨b', i, none⟩ y) b t x := (heap_setCell_other A ⟨b', i, none⟩ b y (by simpa using hn)).trans h
theorem SepI.set {w : World} {v vo : Value} {x : Int} {y : Bool} {A : World} (h : SepI w v vo x y A) (x' : Int) (y' : Bool) : SepI w v vo x' y' ((A.setCell ⟨w.heap.size + 1, 0, none⟩ (.int .i64 x')).setCell ⟨w.heap.size + 1 + 1, 0, none⟩ (.bool y')) :=
  ⟨(cell_set_ne (by omega)).trans ((cell_set_ne (by omega)).trans h.other), boxed_ne (h.num.set _) (by omega), (boxed_ne h.flag (by omega)).set _, (cell_set_ne (by omega)).trans ((cell_set_ne (by omega)).trans h.held),
    (h.below.setCell (p := ⟨w.heap.size + 1, 0, none⟩) (by simp) _).setCell (p := ⟨w.heap.size + 1 + 1, 0, none⟩) (by simp; omega) _⟩
theorem sep_is {l o : List Pt} {k : Nat} (hk : k < l.length) (h : sepB l o k = true) (hf : ∀ j, j < k → sepB l o j = false) : sep l o = some k := by
  rcases e : sep l o with _ | i
  · have := sep_none e k hk; rw [h] at this; exact Bool.noConfusion this
  · obtain ⟨_, h2, h3⟩ := sep_some e
    rcases Nat.lt_trichotomy i k with h4 | h4 | h4
    · rw [hf i h4] at h2; exact Bool.noConfusion h2
    · rw [h4]
    · rw [h3 k h4] at h; exact Bool.noConfusion h

/-- The end: the deferred calls, of which there are none, and the two results. -/
theorem sep_end {w w0 W : World} {D : Nat} {v vo : Value} {x : Int} {y : Bool} {s : Option Nat} {tm : Array Value} (hD : w0.heap.size ≤ D) (hsz : w0.heap.size = w.heap.size + 1 + 1 + 1 + 1) (hI : SepI w v vo x y W) (hK : W.heap[D]? = some (.deferred (some []))) (hs : sepV s = .tuple #[.int .i64 x, .bool y])
    (h4 : tm[4]?.getD undef = .pointer (some ⟨w.heap.size + 1, 0, none⟩) := by rfl) (h5 : tm[5]?.getD undef = .pointer (some ⟨w.heap.size + 1 + 1, 0, none⟩) := by rfl) :
    bodyPostM Fence.wide 5 Try.prog Try.f59 (fun e w' => e = .returned (sepV s) ∧ Below w.heap.size w w') .ret { tmps := tm, defers := [{ target := .collected D, args := #[] }] } W := by
  have hDl : D < W.heap.size := (Array.getElem?_eq_some_iff.1 hK).1
  refine ⟨by simp, .inl ⟨_, _, rfl, run_takeDeferred hK, ?_⟩⟩
  have c1 : (W.putObj D (.deferred none)).cell? ⟨w.heap.size + 1, 0, none⟩ = some (.int .i64 x) := (World.cell?_of_block (World.putObj_heap_other (by simp; omega))).trans hI.num.cell
  have c2 : (W.putObj D (.deferred none)).cell? ⟨w.heap.size + 1 + 1, 0, none⟩ = some (.bool y) := (World.cell?_of_block (World.putObj_heap_other (by simp; omega))).trans hI.flag.cell
  refine ⟨.tuple #[.int .i64 x, .bool y], ?_, by rw [hs], hI.below.trans (belowK_b (w := w) (Nat.le_refl _) W D _ _ (by omega) hK rfl rfl)⟩
  simp [results, Try.results59, go_sem, h4, h5, c1, c2]
set_option maxRecDepth 100000 in
set_option maxHeartbeats 4000000 in
theorem separating_in (l o : List Pt) (v vo : Value) (w : World) (hv : PtsAt w v l) (hvo : PtsAt w vo o) (hl : l.length ≤ 100) (hol : o.length ≤ 100) (hs : Smls l) (hos : Smls o) :
    CallsIn Fence.wide 5 Try.prog 59 #[v, vo] w fun e w' => e = .returned (sepV (sep l o)) ∧ Below w.heap.size w w' := by
  have HV := Lib.hid hv
  have HVO := Lib.hid hvo
  obtain ⟨⟨a, c, rfl, _, _, _⟩, _⟩ := hv
  obtain ⟨⟨ao, co, rfl, _, _, _⟩, _⟩ := hvo
  obtain ⟨mo, hmo⟩ : ∃ mo, mo = o.length := ⟨_, rfl⟩
  have HMO := Lib.hid hmo
  have hol0 := hol
  rw [← hmo] at HVO ⊢
  clear hmo
  obtain ⟨m, hm⟩ : ∃ m, m = l.length := ⟨_, rfl⟩
  have HM := Lib.hid hm
  have hl0 := hl
  rw [← hm] at HV ⊢
  clear hm
  refine callsIn_of_wp_marks Try.func59 rfl trivial ?_ rfl
  simp only [Try.ntmps59, List.size_toArray, List.length_cons, List.length_nil, Nat.reduceAdd, Nat.reduceSub, Array.replicate_succ, Array.replicate_zero, List.push_toArray, List.append_toArray, List.nil_append, List.cons_append]
  gi_wp2_with fail
  refine ⟨trivial, ?_⟩
  refine (callsIn_wide.2 (edges_w _ _ _ _)).mono ?_
  rintro e w1 ⟨rfl, rfl⟩
  gi_wp2_with fail
  obtain ⟨w0, hw0⟩ : ∃ w0 : World, w0 = (((w.alloc (.cells #[.slice ao mo co] 23)).alloc (.cells #[.int .i64 0] 3)).alloc (.cells #[.bool false] 4)).alloc (.cells #[.slice a m c] 23) := ⟨_, rfl⟩
  have hsz : w0.heap.size = w.heap.size + 1 + 1 + 1 + 1 := by rw [hw0, World.size_alloc, World.size_alloc, World.size_alloc, World.size_alloc]
  have hB0 : Below w.heap.size w w0 := by rw [hw0]; exact ((((Below.refl _ w).alloc (Nat.le_refl _) _).alloc (by simp) _).alloc (by simp; omega) _).alloc (by simp; omega) _
  have hI0 : SepI w (.slice a m c) (.slice ao mo co) 0 false w0 := by
    rw [hw0]
    have e1 : (w.alloc (.cells #[.slice ao mo co] 23)).heap.size = w.heap.size + 1 := World.size_alloc _ _
    have e2 : ((w.alloc (.cells #[.slice ao mo co] 23)).alloc (.cells #[.int .i64 0] 3)).heap.size = w.heap.size + 1 + 1 := by rw [World.size_alloc, e1]
    have e3 : (((w.alloc (.cells #[.slice ao mo co] 23)).alloc (.cells #[.int .i64 0] 3)).alloc (.cells #[.bool false] 4)).heap.size = w.heap.size + 1 + 1 + 1 := by rw [World.size_alloc, e2]
    refine ⟨cellA _ (cellA _ (cellA _ (cell_rowN w _ _ 0 rfl))), ?_, ?_, ?_, by rw [← hw0]; exact hB0⟩
    · rw [← e1]; exact ((Boxed.new _ _ _).alloc _).alloc _
    · rw [← e2]; exact (Boxed.new _ _ _).alloc _
    · rw [← e3]; exact cell_rowN _ _ _ 0 rfl
  rw [← hw0]
  have HI0 := Lib.hid hI0
  clear hw0 hI0 hB0
  refine wpIn_rangeFunc_yields rfl (by omega) (gf := 70) (lb := #[.pointer (some ⟨w.heap.size + 1 + 1 + 1, 0, none⟩)]) rfl trivial (enters_of Try.func70 (by kernel_rfl) rfl)
    (edges1_yields 4 (w.heap.size + 1 + 1 + 1) (.slice a m c) l hl0) (fun _ => rfl)
    (fun k A => SepI w (.slice a m c) (.slice ao mo co) 0 false A ∧ ∀ j, j < k → sepB l o j = false) (fun c' k A => c' = .ret ∧ SepI w (.slice a m c) (.slice ao mo co) k true A ∧ sepB l o k = true ∧ ∀ j, j < k → sepB l o j = false)
    (fun k A A' h hB => ⟨h.1.via hB (by omega), h.2⟩) (fun _ _ A A' h hB => ⟨h.1, h.2.1.via hB (by omega), h.2.2⟩) (fun k A h => h.1.held_ HV.out) ⟨HI0.out, fun j hj => by omega⟩
    (fun k a' A => ∃ Be, Be ≠ w0.heap.size + 1 ∧ w.heap.size + 1 + 1 + 1 < Be ∧ A.heap[Be]? = some (.cells #[.int .i64 (vx l k).1, .int .i64 (vx l k).2, .int .i64 (nx l k).1, .int .i64 (nx l k).2] 71 (0, 0)) ∧ a' = { tmps := #[.slice a m c, .slice ao mo co, undef, .pointer (some ⟨w.heap.size, 0, none⟩), .pointer (some ⟨w.heap.size + 1, 0, none⟩), .pointer (some ⟨w.heap.size + 1 + 1, 0, none⟩), .int .i64 k, .pointer (some ⟨Be, 0, none⟩), .slice a m c, .func (.func 70) #[] #[.pointer (some ⟨w.heap.size + 1 + 1 + 1, 0, none⟩)], .int .i64 k, ev (vx l k) (nx l k), undef, undef, undef, undef, undef, undef], defers := [] })
    (fun k a' A A' ⟨Be, h1, h2, h3, h4⟩ hk => ⟨Be, h1, h2, (hk Be h1).trans h3, h4⟩) ?assign ?body ?done ?stop
  case assign =>
    rintro L k W hk hlt hI
    have HI := Lib.hid hI
    clear hI
    have HE : Hid (encE l k = #[.int .i64 k, ev (vx l k) (nx l k)]) := Lib.hid rfl
    rw [HE.out]
    unfold ev
    gi_wp2
    have hb2 : Below W.heap.size W (W.alloc (.cells #[.int .i64 (vx l k).1, .int .i64 (vx l k).2, .int .i64 (nx l k).1, .int .i64 (nx l k).2] 71)) := alloc_below _ _
    exact ⟨Above.of_below hb2, ⟨HI.out.1.via (w0 := w0) (below_of_le hb2 (by omega)) (by omega), HI.out.2⟩, W.heap.size, by omega, by omega, heap_alloc_new _ _, rfl⟩
  case body =>
    rintro L k a' W hk hlt hI ⟨Be, hne, hlt2, hE, rfl⟩
    have hE2 := EdgeIn.of_heap hE
    have hF := fun w => leftOf_w (vx l k) (nx l k) w
    have hX := any_left o (vx l k) (nx l k)
    have hXB : (o.any fun c => decide (0 < turn (vx l k) (nx l k) c)) = !sepB l o k := by
      unfold sepB
      rw [Bool.eq_iff_iff]
      simp
    rw [hXB] at hX
    have hL := fun (B : Nat) (j : Nat) (hj : j < o.length) (w : World) (h : EdgeIn w B (vx l k) (nx l k)) => left1_w (vx l k) (nx l k) (vx o j) B (hs k hk) (hs _ (mod_lt' hk)) (hos j hj) w h
    have k0 : W.drew.cell? ⟨w.heap.size, 0, none⟩ = some (.slice ao mo co) := hI.1.other
    have hvo : PtsAt W.drew (.slice ao mo co) o := HVO.out.via hI.1.below.drew
    have e0 : W.drew.cell? ⟨Be, 0, none⟩ = some (.int .i64 (vx l k).1) := hE2.c0
    have e1 : W.drew.cell? ⟨Be, 1, none⟩ = some (.int .i64 (vx l k).2) := hE2.c1
    have e2 : W.drew.cell? ⟨Be, 2, none⟩ = some (.int .i64 (nx l k).1) := hE2.c2
    have e3 : W.drew.cell? ⟨Be, 3, none⟩ = some (.int .i64 (nx l k).2) := hE2.c3
    have HF := Lib.hid hF
    have HX := Lib.hid hX
    have HL := Lib.hid hL
    have HI := Lib.hid hI
    have HP := Lib.hid hvo
    clear hF hX hXB hL hI hvo hE2 hE HI0
    unfold ev at HF ⊢
    gi_wp2
    have hB : Below W.heap.size W W.drew := (Below.refl _ _).drew
    refine wpIn_region_T (fun w' => Below W.drew.heap.size W.drew w') 4 (by kernel_rfl) ?_
    generalize W.drew = wd at *
    refine wpT_tk 0 12 (v := ?_) (Below.refl _ _) rfl rfl (by rfl) (hy := fun w hw => ?_) (h := ?_)
    rotate_left
    · have k0 := keptBelow hw k0; go_simp; with_reducible rfl
    try simp only [Act.put, List.setIfInBounds_toArray, List.set_cons_zero, List.set_cons_succ]
    refine wpT_tk 1 13 (v := ?_) (Below.refl _ _) rfl rfl (by rfl) (hy := fun w hw => ?_) (h := ?_)
    rotate_left
    · have e0 := keptBelow hw e0; have e1 := keptBelow hw e1; have e2 := keptBelow hw e2; have e3 := keptBelow hw e3; go_simp; with_reducible rfl
    try simp only [Act.put, List.setIfInBounds_toArray, List.set_cons_zero, List.set_cons_succ]
    refine wpT_one 2 rfl rfl (by kernel_rfl) ?_
    go_simp
    refine ⟨trivial, ?_⟩
    refine ((callsIn_wide.2 (HF.out _)).inRound L).mono ?_
    rintro e w3 ⟨rfl, h3⟩
    have hE3 : EdgeIn w3 wd.heap.size (vx l k) (nx l k) := by rw [h3]; exact EdgeIn.new _ _ _
    have hB3 : Below wd.heap.size wd w3 := by rw [h3]; exact alloc_below _ _
    have hc := contains_w o (by omega) (fun j => decide (0 < turn (vx l k) (nx l k) (vx o j))) 71 #[.pointer (some ⟨wd.heap.size, 0, none⟩)] (enters_of Try.func71 (by kernel_rfl) rfl) (.slice ao mo co) w3 (HP.out.via hB3)
      (fun j hj w4 hB4 => HL.out wd.heap.size j hj w4 (hE3.via hB4))
    rw [HX.out] at hc
    have HC := Lib.hid hc
    clear hc h3 hE3 k0 e0 e1 e2 e3
    refine ⟨hB3, ?_⟩
    refine wpT_one 3 rfl rfl (by kernel_rfl) ?_
    go_simp
    refine ⟨trivial, ?_⟩
    refine ((callsIn_wide.2 HC.out).inRound L).mono ?_
    rintro e w5 ⟨rfl, hB5⟩
    have hB := belowVia hB5 (belowVia hB3 hB)
    have hB' := belowVia hB5 hB3
    have hI3 := HI.out.1.via (w0 := W) hB (by omega)
    have HI3 := Lib.hid hI3
    have c1 := hI3.num.frozen
    have c2 := hI3.flag.frozen
    have c1' := hI3.num.cell
    have c2' := hI3.flag.cell
    have HA := Lib.hid (Above.of_below (B := w0.heap.size) hB)
    clear hB3 hB5 hI3 hB HC HX
    refine ⟨hB', ?_⟩
    clear hB'
    refine wpT_one 4 rfl rfl (by kernel_rfl) ?_
    rcases hsb : sepB l o k with _ | _
    · have HSB := Lib.hid hsb
      clear hsb c1 c2 c1' c2'
      go_simp
      refine wpT_done (by kernel_rfl) ?_ _
      gi_wp2
      exact ⟨HA.out, HI3.out, fun j hj => by
        by_cases e : j = k
        · rw [e]; exact HSB.out
        · exact HI.out.2 j (by omega)⟩
    · have HSB := Lib.hid hsb
      clear hsb
      go_simp
      refine wpT_done (by kernel_rfl) ?_ _
      gi_wp2
      exact ⟨(HA.out.trans (Above.setCell _ _ _ _ (by omega))).trans (Above.setCell _ _ _ _ (by omega)), rfl, HI3.out.set _ _, HSB.out, HI.out.2⟩
  case done =>
    rintro D W hD ⟨hI, hF⟩ hK
    have hn : sep l o = none := sep_none_iff.2 hF
    have HN := Lib.hid hn
    have hB := hI.below
    have hDl : D < W.heap.size := (Array.getElem?_eq_some_iff.1 hK).1
    have HK := Lib.hid hK
    have HI := Lib.hid hI
    have c1 := hI.num.frozen
    have c2 := hI.flag.frozen
    have c1' := hI.num.cell
    have c2' := hI.flag.cell
    clear hI hK hn hF HI0
    gi_wp2
    have hI5 := HI.out.set 0 false
    have hK5 : ((W.setCell ⟨w.heap.size + 1, 0, none⟩ (.int .i64 0)).setCell ⟨w.heap.size + 1 + 1, 0, none⟩ (.bool false)).heap[D]? = some (.deferred (some [])) := (heap_setCell_other _ _ _ _ (by simp; omega)).trans ((heap_setCell_other _ _ _ _ (by simp; omega)).trans HK.out)
    generalize (W.setCell ⟨w.heap.size + 1, 0, none⟩ (.int .i64 0)).setCell ⟨w.heap.size + 1 + 1, 0, none⟩ (.bool false) = W5 at *
    exact sep_end hD hsz hI5 hK5 (by rw [HN.out]; rfl)
  case stop =>
    rintro D c' k W hD hk ⟨rfl, hI, hb, hF⟩ hK
    have hn : sep l o = some k := sep_is hk hb hF
    have HN := Lib.hid hn
    have hB := hI.below
    have hDl : D < W.heap.size := (Array.getElem?_eq_some_iff.1 hK).1
    have HK := Lib.hid hK
    have HI := Lib.hid hI
    have c1' := hI.num.cell
    have c2' := hI.flag.cell
    clear hI hK hn hF HI0
    gi_wp2
    exact sep_end hD hsz HI.out HK.out (by rw [HN.out]; rfl)
theorem separating_w (l o : List Pt) (v vo : Value) (w : World) (hv : PtsAt w v l) (hvo : PtsAt w vo o) (hl : l.length ≤ 100) (hol : o.length ≤ 100) (hs : Smls l) (hos : Smls o) :
    Calls Try.prog 59 #[v, vo] w fun e w' => e = .returned (sepV (sep l o)) ∧ Below w.heap.size w w' :=
  callsIn_wide.1 (separating_in l o v vo w hv hvo hl hol hs hos)
end Go.Proofs.Ytliligehofjegaa
