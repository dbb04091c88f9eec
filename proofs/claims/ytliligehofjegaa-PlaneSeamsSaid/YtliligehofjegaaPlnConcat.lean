/- The contract of slices.Concat at two lists of places. -/
import Derived.Test.YtliligehofjegaaPlnCat
namespace Go.Proofs.Ytliligehofjegaa
open Go.RowKit Go.Shelf Pln

/-- A list of places that is not empty: where it lies. -/
theorem at_some {w : World} {v : Value} {l : List Pt} (h : PtsAt w v l) (hn : 0 < l.length) : ∃ g o c, v = .slice (some ⟨g, o, none⟩) l.length c ∧ l.length ≤ c ∧ (c : Int) ≤ 9223372036854775807 ∧ ∀ j, j < l.length → w.cell? ⟨g, o + j * 2, none⟩ = some (.int .i64 (vx l j).1) ∧ w.cell? ⟨g, o + j * 2 + 1, none⟩ = some (.int .i64 (vx l j).2) := by
  obtain ⟨⟨a, c, rfl, h1, h2, hin⟩, _⟩ := h
  rcases hin with h | ⟨g, o, rfl, h3⟩
  · subst h; simp at hn
  · exact ⟨g, o, c, rfl, h1, h2, h3⟩
/-- An append of places to a row of one's own: what the law asks. -/
theorem both_ok {la lb : List Pt} (ha : PtsOk la) (hb : PtsOk lb) : PtsOk (la ++ lb) := fun r hr => by
  rcases List.mem_append.1 hr with h | h
  · exact ha r h
  · exact hb r h
theorem app_ok {n m : Nat} (h : n + m ≤ 1000) : n + m ≤ maxLen ∧ (n + m) * 16 ≤ 140737488355328 := by unfold maxLen; omega
set_option maxRecDepth 100000 in
set_option maxHeartbeats 2000000 in
theorem concat_w (la lb : List Pt) (ha : 0 < la.length) (hb : 0 < lb.length) (ha2 : la.length ≤ 100) (hb2 : lb.length ≤ 100) (va vb : Value) (G c : Nat) (w : World) (hva : PtsAt w va la) (hvb : PtsAt w vb lb)
    (c0 : w.cell? ⟨G, 0, none⟩ = some va) (c1 : w.cell? ⟨G, 1, none⟩ = some vb) :
    Calls Try.prog 54 #[.slice (some ⟨G, 0, none⟩) 2 c] w fun e w' => ∃ r, e = .returned r ∧ w'.ownsRow w.heap.size 26 2 r (la ++ lb).length (cellsP (la ++ lb)) ∧ Below w.heap.size w w' := by
  have HVA := Lib.hid hva
  have HVB := Lib.hid hvb
  obtain ⟨ga, oa, ca, rfl, _, _, _⟩ := at_some hva ha
  obtain ⟨gb, ob, cb, rfl, _, _, _⟩ := at_some hvb hb
  have HE : Hid ((la ++ lb).length = la.length + lb.length) := Lib.hid List.length_append
  have HLA := Lib.hid (cellsP_len la)
  have HLB := Lib.hid (cellsP_len lb)
  obtain ⟨na, hna⟩ : ∃ na, na = la.length := ⟨_, rfl⟩
  obtain ⟨nb, hnb⟩ : ∃ nb, nb = lb.length := ⟨_, rfl⟩
  rw [← hna] at HVA HLA HE ha ha2 c0
  rw [← hnb] at HVB HLB HE hb hb2 c1
  have HNA := Lib.hid hna
  have HNB := Lib.hid hnb
  have a1 : (na : Int) ≤ 100 := by omega
  have b1 : (nb : Int) ≤ 100 := by omega
  have hg := grow_w (na + nb) (by omega) (by omega)
  have hcast : ((na + nb : Nat) : Int) = (na : Int) + (nb : Int) := by omega
  rw [hcast] at hg
  have HG := Lib.hid hg
  have HA1 := Lib.hid (app_ok (n := 0) (m := na) (by omega))
  have HB1 := Lib.hid (app_ok (n := na) (m := nb) (by omega))
  obtain ⟨i0, hi, hz0, hz1, hz2⟩ := info_parts info_pt
  have HI := Lib.hid hi
  have HZ0 := Lib.hid hz0
  have HZ1 := Lib.hid hz1
  have HZ2 := Lib.hid hz2
  have C0 := Lib.hid c0
  have C1 := Lib.hid c1
  clear hva hvb hna hnb hg hcast hi hz0 hz1 hz2
  go_enter Try.func54, Try.ntmps54
  clear c0 c1
  go_wp2_with fail
  go_loop [3, 11] (fun s i => (s = .int .i64 0 ∧ i = .int .i64 0) ∨ (s = .int .i64 na ∧ i = .int .i64 1) ∨ (s = .int .i64 ((na : Int) + nb) ∧ i = .int .i64 2)) (fun _ i => 2 - (intOf i).toNat)
  case atStart => exact .inl ⟨rfl, rfl⟩
  case round =>
    rcases hrel with ⟨rfl, rfl⟩ | ⟨rfl, rfl⟩ | ⟨rfl, rfl⟩
    · have c0 := C0.out
      go_wp2_with fail
      go_round
      case rel => exact .inr (.inl ⟨by go_num, by go_num⟩)
      case measure => simp [intOf]
    · have c1 := C1.out
      go_wp2_with fail
      go_round
      case rel => exact .inr (.inr ⟨by go_num, by go_num⟩)
      case measure => simp [intOf]
    · go_wp2_with (go_at_call 74; (with_reducible refine (HG.out _).mono ?_); rintro e w1 ⟨v0, rfl, hown, hB⟩)
      have HO := Lib.hid hown
      have HBB := Lib.hid hB
      clear hown hB
      go_loopw [6, 27] (fun v i wr => Below w.heap.size w wr ∧ ((i = .int .i64 0 ∧ wr.ownsRow w.heap.size 26 2 v 0 []) ∨ (i = .int .i64 1 ∧ wr.ownsRow w.heap.size 26 2 v na (cellsP la)) ∨ (i = .int .i64 2 ∧ wr.ownsRow w.heap.size 26 2 v (na + nb) (cellsP la ++ cellsP lb)))) (fun _ i _ => 2 - (intOf i).toNat)
      case atStart => exact ⟨HBB.out, .inl ⟨rfl, HO.out⟩⟩
      case round =>
        obtain ⟨hB, hrel⟩ := hrel
        obtain ⟨v, hv⟩ : ∃ v, v = u6 := ⟨_, rfl⟩
        rw [← hv] at hrel ⊢
        clear hv
        have HBZ := Lib.hid hB.size
        have HBW := Lib.hid hB
        rcases hrel with ⟨rfl, hown⟩ | ⟨rfl, hown⟩ | ⟨rfl, hown⟩
        · have HOW := Lib.hid hown
          have hva := HVA.out.via hB
          rw [HNA.out] at hva
          obtain ⟨g, o, c', he, _, _, hcells⟩ := at_some hva (by have := HNA.out; omega)
          cases he
          have HN := Lib.hid (news_in hcells)
          have c0 := keptBelow hB C0.out
          clear hva hown hB hcells
          go_wp2_with (at_builtin; refine wpList_append_own _ rfl _ _ 23 rfl w.heap.size 26 i0 (.agg #[.int .i64 0, .int .i64 0]) 2 16 Try.underlying23 HI.out HZ0.out HZ1.out HZ2.out rfl (by decide) v 0 [] rfl HOW.out ⟨ga, oa, none⟩ na ca (cellsP la) rfl HLA.out (HN.out) (cellsP_one la) HA1.out.1 HA1.out.2 HBZ.out ?_)
          intro v' w5 hown5 hgrow5 _
          have HB5 := Lib.hid (HBW.out.grown hgrow5 HBZ.out (fun k e => (HOW.out.lt k e).1))
          have HO5 := Lib.hid hown5
          clear hown5 hgrow5
          go_wp2_with fail
          go_roundw
          case rel => exact ⟨HB5.out, .inr (.inl ⟨by go_num, HO5.out⟩)⟩
          case measure => simp [intOf]
        · have HOW := Lib.hid hown
          have hvb := HVB.out.via hB
          rw [HNB.out] at hvb
          obtain ⟨g, o, c', he, _, _, hcells⟩ := at_some hvb (by have := HNB.out; omega)
          cases he
          have HN := Lib.hid (news_in hcells)
          have c1 := keptBelow hB C1.out
          clear hvb hown hB hcells
          go_wp2_with (at_builtin; refine wpList_append_own _ rfl _ _ 23 rfl w.heap.size 26 i0 (.agg #[.int .i64 0, .int .i64 0]) 2 16 Try.underlying23 HI.out HZ0.out HZ1.out HZ2.out rfl (by decide) v na (cellsP la) rfl HOW.out ⟨gb, ob, none⟩ nb cb (cellsP lb) rfl HLB.out (HN.out) (cellsP_one lb) HB1.out.1 HB1.out.2 HBZ.out ?_)
          intro v' w5 hown5 hgrow5 _
          have HB5 := Lib.hid (HBW.out.grown hgrow5 HBZ.out (fun k e => (HOW.out.lt k e).1))
          have HO5 := Lib.hid hown5
          clear hown5 hgrow5
          go_wp2_with fail
          go_roundw
          case rel => exact ⟨HB5.out, .inr (.inr ⟨by go_num, HO5.out⟩)⟩
          case measure => simp [intOf]
        · have HR : Hid (wr.ownsRow w.heap.size 26 2 v (la ++ lb).length (cellsP (la ++ lb))) := Lib.hid (by rw [cellsP_app, HE.out]; exact hown)
          clear hown hB
          go_wp2_with fail
          go_ret
          exact ⟨_, rfl, HR.out, HBW.out⟩
end Go.Proofs.Ytliligehofjegaa
