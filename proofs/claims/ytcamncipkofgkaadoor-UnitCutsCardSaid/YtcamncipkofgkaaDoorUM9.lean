/- Several texts of layers 7 and 8, one behind the other: UntCodeP, UntDecode, UntFaces, PlnMovB, UntVol, UntStuff, UntSaneC, UntSane, PlnShfP, PlnCutsP. -/
import Derived.Test.YtcamncipkofgkaaDoorUM8
/- UntCodeP: Plain mathematics of UnitDecodes: a unit and its encoding. -/
namespace Go.Proofs.YtcamncipkofgkaaDoor
open Go.RowKit Go.Shelf Pln Unt Putlog
/-- What lies behind an offset. -/
structure Cut (S : List UInt8) (p : Nat) (E : List UInt8) (q : Nat) : Prop where
  at_ : S.drop p = E ++ S.drop q
  len : q = p + E.length
  le : q ≤ S.length
theorem Cut.nil {S : List UInt8} {p : Nat} (h : p ≤ S.length) : Cut S p [] p := ⟨rfl, rfl, h⟩
theorem Cut.app {S : List UInt8} {p q r : Nat} {E F : List UInt8} (h : Cut S p E q) (k : Cut S q F r) : Cut S p (E ++ F) r :=
  ⟨by rw [h.at_, k.at_, List.append_assoc], by rw [k.len, h.len, List.length_append]; omega, k.le⟩
theorem rd_cut {S : List UInt8} {p q : Nat} {x : Int} (h : rd S p = some (x, q)) (hp : p ≤ S.length) : Cut S p (enc x) q := by
  have hq := rd_some h hp
  unfold rd at h
  rcases e : dec 0 0 (S.drop p) with _ | ⟨z, k⟩
  · rw [e] at h; cases h
  · rw [e] at h
    cases h
    obtain ⟨h1, h2, h3⟩ := dec_some e
    have he : enc (zag z) = leb z := by unfold enc; rw [zig_zag]
    refine ⟨?_, by rw [he, h2], hq.2.1⟩
    rw [he, ← h3, ← List.drop_drop, List.take_append_drop]
theorem cut_rd {S : List UInt8} {p q : Nat} {x : Int} (h : Cut S p (enc x) q) (h1 : -4611686018427387903 ≤ x) (h2 : x ≤ 4611686018427387903) : rd S p = some (x, q) := by
  have hd := dec_leb (zig x) (S.drop q) (zig_lt h1 h2)
  have e : enc x = leb (zig x) := rfl
  unfold rd
  rw [h.at_, e, hd]
  dsimp only
  rw [zag_zig, h.len, e]
theorem rd_det {S : List UInt8} {p q : Nat} {x : Int} (h : Cut S p (enc x) q) (h1 : -4611686018427387903 ≤ x) (h2 : x ≤ 4611686018427387903) {y : Int} {r : Nat} (g : rd S p = some (y, r)) : y = x ∧ r = q := by
  rw [cut_rd h h1 h2] at g
  cases g
  exact ⟨rfl, rfl⟩
theorem encs_one (a : Int) : encs [a] = enc a := by simp [encs]
theorem coords_one (l : List Pt) (p : Pt) : coords (l ++ [p]) = coords l ++ [p.1, p.2] := by rw [coords_app]; rfl
theorem pairs_cut {S : List UInt8} {p : Nat} (hp : p ≤ S.length) : ∀ {i : Nat} {l : List Pt} {q : Nat}, pairsP S p i = some (l, q) → l.length = i ∧ Cut S p (encs (coords l)) q
  | 0, l, q, h => by cases h; exact ⟨rfl, Cut.nil hp⟩
  | i + 1, l, q, h => by
    rw [pairsP] at h
    rcases e : pairsP S p i with _ | ⟨l', q'⟩
    · rw [e] at h; cases h
    · rw [e] at h
      obtain ⟨hl, hc⟩ := pairs_cut hp e
      dsimp only at h
      rcases e1 : rd S q' with _ | ⟨x, q1⟩
      · rw [e1] at h; cases h
      · rw [e1] at h
        dsimp only at h
        rcases e2 : rd S q1 with _ | ⟨y, q2⟩
        · rw [e2] at h; cases h
        · rw [e2] at h
          cases h
          have c1 := rd_cut e1 hc.le
          have c2 := rd_cut e2 c1.le
          refine ⟨by simp [hl], ?_⟩
          rw [coords_one, encs_app, encs_two]
          exact hc.app (c1.app c2)
theorem cut_pre {S A B : List UInt8} {p r : Nat} (h : Cut S p (A ++ B) r) : Cut S p A (p + A.length) ∧ Cut S (p + A.length) B r := by
  have hq := h.len
  rw [List.length_append] at hq
  have hle := h.le
  have e : S.drop (p + A.length) = B ++ S.drop r := by
    rw [← List.drop_drop, h.at_, List.append_assoc, List.drop_append_of_le_length (Nat.le_refl _), List.drop_length, List.nil_append]
  exact ⟨⟨by rw [e, h.at_, List.append_assoc], rfl, by omega⟩, ⟨e, by omega, hle⟩⟩
theorem cut_pairs {S : List UInt8} {p q : Nat} {l : List Pt} (hok : EncOk (coords l)) (h : Cut S p (encs (coords l)) q) : ∀ i, i ≤ l.length → pairsP S p i = some (l.take i, p + (encs (coords (l.take i))).length)
  | 0, _ => by simp [pairsP, coords, encs]
  | i + 1, hi => by
    have ih := cut_pairs hok h i (by omega)
    have e : encs (coords l) = encs (coords (l.take i)) ++ (enc (vx l i).1 ++ (enc (vx l i).2 ++ encs (coords (l.drop (i + 1))))) := by
      have : l = l.take i ++ [vx l i] ++ l.drop (i + 1) := by
        rw [vx_eq (by omega : i < l.length), List.append_assoc, List.singleton_append, ← List.drop_eq_getElem_cons, List.take_append_drop]
      rw [show coords l = coords (l.take i ++ [vx l i] ++ l.drop (i + 1)) from congrArg coords this, coords_app, coords_app, encs_app, encs_app, List.append_assoc]
      simp [coords, encs]
    rw [e] at h
    obtain ⟨_, h1⟩ := cut_pre h
    obtain ⟨h2, h3⟩ := cut_pre h1
    obtain ⟨h4, _⟩ := cut_pre h3
    have hx : (vx l i).1 ∈ coords l ∧ (vx l i).2 ∈ coords l := by
      have : l = l.take i ++ [vx l i] ++ l.drop (i + 1) := by
        rw [vx_eq (by omega : i < l.length), List.append_assoc, List.singleton_append, ← List.drop_eq_getElem_cons, List.take_append_drop]
      rw [show coords l = coords (l.take i ++ [vx l i] ++ l.drop (i + 1)) from congrArg coords this, coords_app, coords_app]
      simp [coords]
    have b1 := hok _ hx.1
    have b2 := hok _ hx.2
    rw [pairsP, ih]
    dsimp only
    rw [cut_rd h2 b1.1 b1.2]
    dsimp only
    rw [cut_rd h4 b2.1 b2.2]
    dsimp only
    have e2 : l.take (i + 1) = l.take i ++ [vx l i] := by rw [List.take_add_one, List.getElem?_eq_getElem (by omega), vx_eq (by omega : i < l.length)]; rfl
    rw [e2, coords_one, encs_app, encs_two]
    simp only [List.length_append, Nat.add_assoc]
theorem coords_val {u : U} (v : ValU u) : EncOk (coords u.shape) := coords_ok (fun i hi => v.v.on i hi)
theorem len_val {u : U} (v : ValU u) : 3 ≤ u.shape.length ∧ u.shape.length ≤ 100 := ⟨v.v.lo, by have := v.v.hi; omega⟩
theorem encU_eq (u : U) : encU u = enc u.id ++ (enc u.kind ++ (enc u.mat ++ (enc u.back ++ (enc u.front ++ (enc (u.shape.length : Int) ++ encs (coords u.shape)))))) := by
  unfold encU numsU headU; simp [encs, encs_app]
/-- What Encode returns leads, followed by whatever, to what was encoded. -/
theorem five_cut {S : List UInt8} {u : U} {q : Nat} (v : ValU u) (h : Cut S 0 (encU u) q) : ∃ p, five S = some ((u.id, u.kind, u.mat, u.back, u.front), p) ∧ shpP S p = some (u.shape, q) := by
  rw [encU_eq] at h
  have := v.id0; have := v.id1; have := v.k0; have := v.k1; have := v.m0; have := v.m1; have := v.b0; have := v.bf; have := v.f1
  obtain ⟨hl1, hl2⟩ := len_val v
  obtain ⟨a1, h⟩ := cut_pre h
  obtain ⟨a2, h⟩ := cut_pre h
  obtain ⟨a3, h⟩ := cut_pre h
  obtain ⟨a4, h⟩ := cut_pre h
  obtain ⟨a5, h⟩ := cut_pre h
  obtain ⟨a6, h⟩ := cut_pre h
  refine ⟨0 + (enc u.id).length + (enc u.kind).length + (enc u.mat).length + (enc u.back).length + (enc u.front).length, ?_, ?_⟩
  · unfold five
    rw [cut_rd a1 (by omega) (by omega)]; dsimp only
    rw [cut_rd a2 (by omega) (by omega)]; dsimp only
    rw [cut_rd a3 (by omega) (by omega)]; dsimp only
    rw [cut_rd a4 (by omega) (by omega)]; dsimp only
    rw [cut_rd a5 (by omega) (by omega)]
  · unfold shpP
    rw [cut_rd a6 (by omega) (by omega)]; dsimp only
    have := cut_pairs (coords_val v) h u.shape.length (Nat.le_refl _)
    rw [List.take_length] at this
    rw [Int.toNat_natCast, this, h.len]
theorem cut_whole (S : List UInt8) : Cut S 0 S S.length := ⟨by simp, by simp, Nat.le_refl _⟩
theorem dec_encU {u : U} (v : ValU u) : decU (encU u) = some u := by
  obtain ⟨p, h1, h2⟩ := five_cut v (cut_whole (encU u))
  unfold decU
  rw [h1]; dsimp only
  rw [h2]; dsimp only
  rw [if_pos ⟨rfl, (valU_iff u).2 v⟩]
/-- No encoding is the beginning of another one. -/
theorem enc_prefix {u t : U} (v : ValU u) (x : ValU t) (h : (encU t).take (encU u).length = encU u) : u = t := by
  have hle : (encU u).length ≤ (encU t).length := by
    have := congrArg List.length h
    rw [List.length_take] at this; omega
  have c1 : Cut (encU t) 0 (encU u) (encU u).length := ⟨by rw [List.drop_zero, ← h, List.length_take, Nat.min_eq_left hle, List.take_append_drop], by simp, hle⟩
  obtain ⟨p, h1, h2⟩ := five_cut v c1
  obtain ⟨q, h3, h4⟩ := five_cut x (cut_whole (encU t))
  rw [h1] at h3
  simp only [Option.some.injEq, Prod.mk.injEq] at h3
  obtain ⟨⟨e1, e2, e3, e4, e5⟩, rfl⟩ := h3
  rw [h2] at h4
  simp only [Option.some.injEq, Prod.mk.injEq] at h4
  obtain ⟨e6, _⟩ := h4
  cases u; cases t
  dsimp only at e1 e2 e3 e4 e5 e6
  subst e1; subst e2; subst e3; subst e4; subst e5; subst e6
  rfl
/-- What Decode accepts is what Encode returns. -/
theorem dec_sound {S : List UInt8} {u : U} (h : decU S = some u) : ValU u ∧ S = encU u := by
  unfold decU at h
  rcases e : five S with _ | ⟨⟨a1, a2, a3, a4, a5⟩, p⟩
  · rw [e] at h; cases h
  · rw [e] at h
    dsimp only at h
    rcases e2 : shpP S p with _ | ⟨l, q⟩
    · rw [e2] at h; cases h
    · rw [e2] at h
      dsimp only at h
      split at h
      · rename_i hq
        cases h
        have v := (valU_iff _).1 hq.2
        refine ⟨v, ?_⟩
        unfold five at e
        rcases b1 : rd S 0 with _ | ⟨x1, p1⟩
        · rw [b1] at e; cases e
        rw [b1] at e; dsimp only at e
        have c1 := rd_cut b1 (Nat.zero_le _)
        rcases b2 : rd S p1 with _ | ⟨x2, p2⟩
        · rw [b2] at e; cases e
        rw [b2] at e; dsimp only at e
        have c2 := rd_cut b2 c1.le
        rcases b3 : rd S p2 with _ | ⟨x3, p3⟩
        · rw [b3] at e; cases e
        rw [b3] at e; dsimp only at e
        have c3 := rd_cut b3 c2.le
        rcases b4 : rd S p3 with _ | ⟨x4, p4⟩
        · rw [b4] at e; cases e
        rw [b4] at e; dsimp only at e
        have c4 := rd_cut b4 c3.le
        rcases b5 : rd S p4 with _ | ⟨x5, p5⟩
        · rw [b5] at e; cases e
        rw [b5] at e; dsimp only at e
        have c5 := rd_cut b5 c4.le
        cases e
        unfold shpP at e2
        rcases b6 : rd S p with _ | ⟨x6, p6⟩
        · rw [b6] at e2; cases e2
        rw [b6] at e2; dsimp only at e2
        have c6 := rd_cut b6 c5.le
        obtain ⟨hl, c7⟩ := pairs_cut c6.le e2
        have hpos := v.v.lo
        dsimp only at hpos
        have hx6 : x6 = (l.length : Int) := by omega
        have hc := c1.app (c2.app (c3.app (c4.app (c5.app (c6.app c7)))))
        have := hc.at_
        rw [hq.1, List.drop_length, List.append_nil, List.drop_zero] at this
        rw [encU_eq, ← hx6]
        exact this
      · cases h
theorem encU_inj {u t : U} (v : ValU u) (h : encU u = encU t) (x : ValU t) : u = t := enc_prefix v x (by rw [h, List.take_length])
theorem encU_len {u : U} (v : ValU u) : 0 < (encU u).length ∧ (encU u).length ≤ 1000 := by
  rw [encU_eq]
  have h1 := enc_len_pos u.id
  have := v.id0; have := v.id1; have := v.k0; have := v.k1; have := v.m0; have := v.m1; have := v.b0; have := v.bf; have := v.f1
  obtain ⟨hl1, hl2⟩ := len_val v
  have hh := v.v.hi
  have e1 := enc_len_le (n := u.id) (by omega) (by omega)
  have e2 := enc_len_le (n := u.kind) (by omega) (by omega)
  have e3 := enc_len_le (n := u.mat) (by omega) (by omega)
  have e4 := enc_len_le (n := u.back) (by omega) (by omega)
  have e5 := enc_len_le (n := u.front) (by omega) (by omega)
  have e6 := enc_len_le (n := (u.shape.length : Int)) (by omega) (by omega)
  have e7 := encs_len (coords_val v)
  rw [coords_len] at e7
  simp only [List.length_append]
  omega
end Go.Proofs.YtcamncipkofgkaaDoor
/- UntDecode: The contract of Decode. -/
namespace Go.Proofs.YtcamncipkofgkaaDoor
open Go.RowKit Go.Shelf Pln Unt Putlog
theorem decode_end {W : World} {b : Nat} {x0 x1 x2 x3 x4 x5 y : Value} {tm : Array Value} {Q : Ending → World → Prop} (hz : W.heap[b]? = some (.cells #[x0, x1, x2, x3, x4, x5] 27 (0, 0)))
    (hQ : Q (.returned (.tuple #[.agg #[x0, x1, x2, x3, x4, x5], y])) W)
    (h4 : tm[2]?.getD undef = .pointer (some ⟨b, 0, none⟩) := by rfl) (h5 : tm[3]?.getD undef = y := by rfl) :
    bodyPost Tryd.prog Tryd.f37 Q Exit.ret { tmps := tm, defers := [] } W := by
  have z0 := cell_heap hz (i := 0) rfl
  have z1 := cell_heap hz (i := 1) rfl
  have z2 := cell_heap hz (i := 2) rfl
  have z3 := cell_heap hz (i := 3) rfl
  have z4 := cell_heap hz (i := 4) rfl
  have z5 := cell_heap hz (i := 5) rfl
  exact bodyPost_ret (v := .tuple #[.agg #[x0, x1, x2, x3, x4, x5], y]) (by simp [results, Tryd.results37, go_sem, h4, h5, z0, z1, z2, z3, z4, z5]) rfl hQ
theorem below_butD {w W w1 : World} {b : Nat} (h : Below w.heap.size w W) (hb : ButB b W w1) (hw : w.heap.size ≤ b) : Below w.heap.size w w1 where
  os := hb.g.os.trans h.os
  tape := hb.g.tape.trans h.tape
  output := hb.g.output.trans h.output
  size := Nat.le_trans h.size hb.g.size
  block := fun i hi => (hb.g.block i (Nat.lt_of_lt_of_le hi h.size) (fun e => by cases e; omega)).trans (h.block i hi)
theorem below_sets {w w1 : World} {y0 y1 y2 y3 y4 y5 : Value} (hB : Below w.heap.size w w1) : Below w.heap.size w (((((((w1.setCell ⟨w.heap.size, 0, none⟩ (y0)).setCell ⟨w.heap.size, 1, none⟩ (y1)).setCell ⟨w.heap.size, 2, none⟩ (y2)).setCell ⟨w.heap.size, 3, none⟩ (y3)).setCell ⟨w.heap.size, 4, none⟩ (y4)).setCell ⟨w.heap.size, 5, none⟩ (y5))) :=
  (((((hB.setCell (p := ⟨w.heap.size, 0, none⟩) (by simp) _).setCell (p := ⟨w.heap.size, 1, none⟩) (by simp) _).setCell (p := ⟨w.heap.size, 2, none⟩) (by simp) _).setCell (p := ⟨w.heap.size, 3, none⟩) (by simp) _).setCell (p := ⟨w.heap.size, 4, none⟩) (by simp) _).setCell (p := ⟨w.heap.size, 5, none⟩) (by simp) _
def DecodeR (S : List UInt8) (w : World) (e : Ending) (w' : World) : Prop :=
  ((∃ u r, decU S = some u ∧ e = .returned (.tuple #[uv u r, .int .i64 0]) ∧ PtsAt w' r u.shape) ∨
  (decU S = none ∧ e = .returned (.tuple #[zeroU', .int .i64 80]))) ∧ Below w.heap.size w w'
set_option maxRecDepth 100000 in
set_option maxHeartbeats 1000000 in
theorem decode_w (S : List UInt8) (hS : S.length ≤ 1000) (w : World) :
    Calls Tryd.prog 37 #[.string ⟨S.toArray⟩] w (DecodeR S w) := by
  obtain ⟨W1, hW1⟩ : ∃ W1, W1 = w.alloc (.cells #[.int .i64 0, .int .i64 0, .int .i64 0, .slice none 0 0, .int .i64 0, .int .i64 0] 27) := ⟨_, rfl⟩
  obtain ⟨W, hW⟩ : ∃ W, W = W1.alloc (.cells #[.string ⟨S.toArray⟩, .int .i64 0] 100) := ⟨_, rfl⟩
  have hA1 : Below w.heap.size w W1 := by rw [hW1]; exact alloc_below _ _
  have hA2 : Below W1.heap.size W1 W := by rw [hW]; exact alloc_below _ _
  have hs1 : W1.heap.size = w.heap.size + 1 := by rw [hW1]; simp
  have hs2 : W.heap.size = w.heap.size + 2 := by rw [hW]; simp [hs1]
  have hz : W.heap[w.heap.size]? = some (.cells #[.int .i64 0, .int .i64 0, .int .i64 0, .slice none 0 0, .int .i64 0, .int .i64 0] 27 (0, 0)) := heap_below hA2 (by rw [hW1]; exact heap_alloc_new _ _)
  have hd : DBox W (w.heap.size + 1) S ((0 : Nat) : Int) := by unfold DBox; rw [← hs1, hW]; exact heap_alloc_new _ _
  have HZ := Lib.hid hz
  have HB := Lib.hid (belowStep hA1 hA2)
  have HS2 := Lib.hid hs2
  have HC := Lib.hid (decUnit_w (w.heap.size + 1) S hS W hd)
  rw [hW1] at hW
  clear hA1 hA2 hs1 hs2 hz hd hW1
  go_enter Tryd.func37, Tryd.ntmps37
  go_wp2_with fail
  rw [← hW]
  clear hW
  refine HC.out.mono ?_
  rintro e w1 (⟨u, r, hu, rfl, hat, hown, hbb⟩ | ⟨hu, rfl, hbb⟩)
  · obtain ⟨a1, a2, a3, l, a4, a5⟩ := u
    obtain ⟨ra, rn, rc, hr⟩ : ∃ a n c, r = .slice a n c := by
      obtain ⟨⟨a, c', he, _⟩, _⟩ := hat
      exact ⟨_, _, _, he⟩
    subst hr
    unfold uv
    dsimp only at hat ⊢
    have HZ1 := Lib.hid (but_row hbb HZ.out (by omega))
    have HU := Lib.hid hu
    have HB1 : Hid (Below w.heap.size w w1) := Lib.hid (below_butD HB.out hbb (by omega))
    have HAT := Lib.hid hat
    have HOW : Hid (∀ k, (Value.slice ra rn rc).ownBlock = some k → k ≠ w.heap.size) := Lib.hid (fun k hk => by have := hown k hk; have := HS2.out; omega)
    clear hbb hu hat hown
    have c0 := cell_heap HZ1.out (i := 0) rfl
    have c1 := cell_heap HZ1.out (i := 1) rfl
    have c2 := cell_heap HZ1.out (i := 2) rfl
    have c3 := cell_heap HZ1.out (i := 3) rfl
    have c4 := cell_heap HZ1.out (i := 4) rfl
    have c5 := cell_heap HZ1.out (i := 5) rfl
    have f0 := frozen_of_row _ _ 0 _ _ HZ1.out
    have f1 := frozen_of_row _ _ 1 _ _ HZ1.out
    have f2 := frozen_of_row _ _ 2 _ _ HZ1.out
    have f3 := frozen_of_row _ _ 3 _ _ HZ1.out
    have f4 := frozen_of_row _ _ 4 _ _ HZ1.out
    have f5 := frozen_of_row _ _ 5 _ _ HZ1.out
    go_wp2_with fail
    exact decode_end (sets_row HZ1.out) ⟨.inl ⟨_, _, HU.out, rfl, pts_sets HAT.out HOW.out⟩, below_sets HB1.out⟩
  · unfold zeroU'
    have HZ1 := Lib.hid (but_row hbb HZ.out (by omega))
    have HU := Lib.hid hu
    have HB1 : Hid (Below w.heap.size w w1) := Lib.hid (below_butD HB.out hbb (by omega))
    clear hbb hu
    have c0 := cell_heap HZ1.out (i := 0) rfl
    have c1 := cell_heap HZ1.out (i := 1) rfl
    have c2 := cell_heap HZ1.out (i := 2) rfl
    have c3 := cell_heap HZ1.out (i := 3) rfl
    have c4 := cell_heap HZ1.out (i := 4) rfl
    have c5 := cell_heap HZ1.out (i := 5) rfl
    have f0 := frozen_of_row _ _ 0 _ _ HZ1.out
    have f1 := frozen_of_row _ _ 1 _ _ HZ1.out
    have f2 := frozen_of_row _ _ 2 _ _ HZ1.out
    have f3 := frozen_of_row _ _ 3 _ _ HZ1.out
    have f4 := frozen_of_row _ _ 4 _ _ HZ1.out
    have f5 := frozen_of_row _ _ 5 _ _ HZ1.out
    go_wp2_with fail
    exact decode_end (sets_row HZ1.out) ⟨.inr ⟨HU.out, rfl⟩, below_sets HB1.out⟩
end Go.Proofs.YtcamncipkofgkaaDoor
/- UntFaces: The contract of unit.Faces. -/
namespace Unt
open Pln
def sideL (id : Int) : Nat → List Pt
  | 0 => []
  | n + 1 => sideL id n ++ [(id, (n : Int))]
theorem sideL_len (id : Int) : ∀ n, (sideL id n).length = n
  | 0 => rfl
  | n + 1 => by rw [sideL, List.length_append, sideL_len id n]; rfl
def facP (u : U) : List Pt := if valU u = true then sideL u.id u.shape.length ++ [(u.id, -1), (u.id, -2)] else []
end Unt
namespace Go.Proofs.YtcamncipkofgkaaDoor
open Go.RowKit Go.Shelf Pln Unt
theorem info_face : (Tryd.prog.info? 36).map (fun i => (i.zero, i.size, i.bytes)) = some (some (.agg #[.int .i64 0, .int .i64 0]), 2, 16) := by kernel_rfl
theorem sideL_ok {id : Int} (h0 : 0 ≤ id) (h1 : id ≤ 99) : ∀ n, n ≤ 100 → PtsOk (sideL id n)
  | 0, _ => fun r hr => by simp [sideL] at hr
  | n + 1, hn => fun r hr => by
    rw [sideL, List.mem_append] at hr
    rcases hr with hr | hr
    · exact sideL_ok h0 h1 n (by omega) r hr
    · simp at hr; subst hr; exact ⟨⟨by dsimp only; omega, by dsimp only; omega⟩, by dsimp only; omega, by dsimp only; omega⟩
set_option maxRecDepth 100000 in
set_option maxHeartbeats 1000000 in
theorem faces_w (u : U) (s : Value) (w : World) (h : UAt w s u) :
    Calls Tryd.prog 13 #[uv u s] w fun e w' => ∃ r, e = .returned r ∧ PtsAt w' r (facP u) ∧ Below w.heap.size w w' := by
  have HV := Lib.hid (fun w1 (hB : Below w.heap.size w w1) => validU_w u s w1 (h.via hB))
  have HU := Lib.hid (UBox.new w u s)
  have HB := Lib.hid (alloc_below w (uo u s))
  obtain ⟨as_, cs_, hs, _⟩ := h.at_.at_
  subst hs
  have hlen := h.ok.len
  clear h
  rcases hv : valU u with _ | _
  · have HR : Hid (facP u = []) := Lib.hid (by unfold facP; rw [hv]; rfl)
    rw [hv] at HV
    generalize facP u = r at *
    clear hv
    unfold uo at HU HB
    unfold uv at *
    obtain ⟨i, k, m, sh, b, f⟩ := u
    dsimp only at *
    obtain ⟨W, hW⟩ : ∃ W, W = w.alloc (.cells #[.int .i64 i, .int .i64 k, .int .i64 m, .slice as_ sh.length cs_, .int .i64 b, .int .i64 f] 27) := ⟨_, rfl⟩
    obtain ⟨bx, hbx⟩ : ∃ bx, bx = w.heap.size := ⟨_, rfl⟩
    go_enter Tryd.func13, Tryd.ntmps13
    go_upto_region 1 with fail
    rw [← hW, ← hbx]
    rw [← hW] at HU HB
    rw [← hbx] at HU
    clear hW hbx
    obtain ⟨c0, c1, c2, c3, c4, c5⟩ := HU.out
    dsimp only at c0 c1 c2 c3 c4 c5
    go_wp2_with fail
    refine (HV.out _ HB.out).mono ?_
    rintro e w1 ⟨rfl, hB1⟩
    have HB1 := Lib.hid (belowStep HB.out hB1)
    clear hB1
    go_wp2_with fail
    go_ret
    exact ⟨_, rfl, by rw [HR.out]; exact ⟨⟨none, 0, rfl, Nat.le_refl _, by omega, .inl rfl⟩, fun x hx => by simp at hx⟩, HB1.out⟩
  · have vu := (valU_iff u).1 hv
    have hi0 := vu.id0
    have hi1 := vu.id1
    have hn8 := vu.v.hi
    have HR : Hid (facP u = sideL u.id u.shape.length ++ [(u.id, -1), (u.id, -2)]) := Lib.hid (by unfold facP; rw [hv]; rfl)
    rw [hv] at HV
    generalize facP u = r at *
    obtain ⟨i0, hi, hz0, hz1, hz2⟩ := info_parts info_face
    have HI := Lib.hid hi
    have HZ0 := Lib.hid hz0
    have HZ1 := Lib.hid hz1
    have HZ2 := Lib.hid hz2
    clear hv vu hi hz0 hz1 hz2
    unfold uo at HU HB
    unfold uv at *
    obtain ⟨i, k, m, sh, b, f⟩ := u
    dsimp only at *
    obtain ⟨W, hW⟩ : ∃ W, W = w.alloc (.cells #[.int .i64 i, .int .i64 k, .int .i64 m, .slice as_ sh.length cs_, .int .i64 b, .int .i64 f] 27) := ⟨_, rfl⟩
    obtain ⟨bx, hbx⟩ : ∃ bx, bx = w.heap.size := ⟨_, rfl⟩
    generalize sh.length = n at *
    have hnb : (n : Int) ≤ 8 := by omega
    have HSO := Lib.hid (fun n hn => sideL_ok hi0 hi1 n hn)
    go_enter Tryd.func13, Tryd.ntmps13
    go_upto_region 1 with fail
    rw [← hW, ← hbx]
    rw [← hW] at HU HB
    rw [← hbx] at HU
    clear hW hbx
    obtain ⟨c0, c1, c2, c3, c4, c5⟩ := HU.out
    dsimp only at c0 c1 c2 c3 c4 c5
    go_wp2_with fail
    refine (HV.out _ HB.out).mono ?_
    rintro e w1 ⟨rfl, hB1⟩
    have HB1 := Lib.hid (belowStep HB.out hB1)
    have HU1 := Lib.hid (HU.out.via hB1)
    obtain ⟨c0, c1, c2, c3, c4, c5⟩ := HU1.out
    dsimp only at c0 c1 c2 c3 c4 c5
    clear hB1
    go_wp2_with fail
    go_loopw [3, 11] (fun l x wr => ∃ j : Nat, j ≤ n ∧ x = .int .i64 j ∧ wr.ownsRow w1.heap.size 36 2 l j (cellsP (sideL i j)) ∧ Below w1.heap.size w1 wr) (fun _ x _ => n - (intOf x).toNat)
    case atStart => exact ⟨0, by omega, rfl, ⟨rfl, .inl ⟨rfl, rfl⟩⟩, Below.refl _ _⟩
    case round =>
      obtain ⟨j, hj, rfl, hown, hB⟩ := hrel
      have HBr := Lib.hid hB
      have HO := Lib.hid hown
      have HUr := Lib.hid (HU1.out.via hB)
      clear hown hB c0 c1 c2 c3 c4 c5
      obtain ⟨c0, c1, c2, c3, c4, c5⟩ := HUr.out
      dsimp only at c0 c1 c2 c3 c4 c5
      by_cases hlt : j < n
      · have hlt' : (j : Int) < n := by omega
        have HO6 := Lib.hid (own_via HO.out (alloc_below wr (.cells #[.int .i64 i, .int .i64 j] 36)))
        have HNW := Lib.hid (news_in (w := wr.alloc (.cells #[.int .i64 i, .int .i64 j] 36)) (g := wr.heap.size) (o := 0) (l := [(i, (j : Int))]) (fun j hj => by obtain rfl : j = 0 := (by simp at hj; omega); exact ⟨cell_rowN wr _ _ 0 rfl, cell_rowN wr _ _ 1 rfl⟩))
        have HA := Lib.hid (app_ok (n := j) (m := 1) (by omega))
        have HBZ : Hid (w1.heap.size ≤ (wr.alloc (.cells #[.int .i64 i, .int .i64 j] 36)).heap.size) := Lib.hid (by have := HBr.out.size; simp; omega)
        go_wp2_with (at_builtin; refine wpList_append_own _ rfl _ _ 33 rfl w1.heap.size 36 i0 (.agg #[.int .i64 0, .int .i64 0]) 2 16 Tryd.underlying33 HI.out HZ0.out HZ1.out HZ2.out rfl (by decide) _ j (cellsP (sideL i j)) rfl HO6.out ⟨wr.heap.size, 0, none⟩ 1 1 (cellsP [(i, (j : Int))]) rfl rfl HNW.out (cellsP_one _) HA.out.1 HA.out.2 HBZ.out ?_)
        intro v5 w5 hown5 hgrow5 _
        have HB5 := Lib.hid ((belowStep HBr.out (alloc_below wr (.cells #[.int .i64 i, .int .i64 j] 36))).grown hgrow5 HBZ.out (fun k hk => (own_lt HO6.out k hk).1))
        rw [← cellsP_app] at hown5
        have HO5 := Lib.hid hown5
        clear hown5 hgrow5
        go_wp2_with fail
        go_roundw
        case rel => exact ⟨j + 1, by omega, by go_num, HO5.out, HB5.out⟩
        case measure => simp [intOf]; omega
      · obtain rfl : n = j := by omega
        have HO6 := Lib.hid (own_via HO.out (alloc_below wr (.cells #[.int .i64 i, .int .i64 (-1), .int .i64 i, .int .i64 (-2)] 36)))
        have HNW := Lib.hid (news_in (w := wr.alloc (.cells #[.int .i64 i, .int .i64 (-1), .int .i64 i, .int .i64 (-2)] 36)) (g := wr.heap.size) (o := 0) (l := [(i, -1), (i, -2)]) (fun j hj => by
          have hj2 : j = 0 ∨ j = 1 := (by simp at hj; omega)
          rcases hj2 with rfl | rfl
          · exact ⟨cell_rowN wr _ _ 0 rfl, cell_rowN wr _ _ 1 rfl⟩
          · exact ⟨cell_rowN wr _ _ 2 rfl, cell_rowN wr _ _ 3 rfl⟩))
        have HA := Lib.hid (app_ok (n := n) (m := 2) (by omega))
        have HBZ : Hid (w1.heap.size ≤ (wr.alloc (.cells #[.int .i64 i, .int .i64 (-1), .int .i64 i, .int .i64 (-2)] 36)).heap.size) := Lib.hid (by have := HBr.out.size; simp; omega)
        go_wp2_with (at_builtin; refine wpList_append_own _ rfl _ _ 33 rfl w1.heap.size 36 i0 (.agg #[.int .i64 0, .int .i64 0]) 2 16 Tryd.underlying33 HI.out HZ0.out HZ1.out HZ2.out rfl (by decide) _ n (cellsP (sideL i n)) rfl HO6.out ⟨wr.heap.size, 0, none⟩ 2 2 (cellsP [(i, -1), (i, -2)]) rfl rfl HNW.out (cellsP_one _) HA.out.1 HA.out.2 HBZ.out ?_)
        intro v5 w5 hown5 hgrow5 _
        have HB5 := Lib.hid ((belowStep HBr.out (alloc_below wr (.cells #[.int .i64 i, .int .i64 (-1), .int .i64 i, .int .i64 (-2)] 36))).grown hgrow5 HBZ.out (fun k hk => (own_lt HO6.out k hk).1))
        rw [← cellsP_app] at hown5
        have HO5 := Lib.hid hown5
        clear hown5 hgrow5
        have HL : Hid ((sideL i n ++ [(i, -1), (i, -2)]).length = n + 2) := Lib.hid (by rw [List.length_append, sideL_len]; rfl)
        have HOK : Hid (PtsOk (sideL i n ++ [(i, -1), (i, -2)])) := Lib.hid (fun r hr => by
          rw [List.mem_append] at hr
          rcases hr with hr | hr
          · exact HSO.out n (by omega) r hr
          · simp at hr
            rcases hr with rfl | rfl
            · exact ⟨⟨by dsimp only; omega, by dsimp only; omega⟩, by dsimp only; omega, by dsimp only; omega⟩
            · exact ⟨⟨by dsimp only; omega, by dsimp only; omega⟩, by dsimp only; omega, by dsimp only; omega⟩)
        go_wp2_with fail
        go_ret
        exact ⟨_, rfl, by rw [HR.out]; exact owns_at2 (by rw [HL.out]; exact HO5.out) HOK.out, belowStep HB1.out HB5.out⟩
end Go.Proofs.YtcamncipkofgkaaDoor
/- PlnMovB: Bounds of areas and moments. -/
namespace Go.Proofs.YtcamncipkofgkaaDoor
open Go.RowKit Go.Shelf Pln
theorem area_bd {a : List Pt} (v : Val a) : -3200000000 ≤ areaP a ∧ areaP a ≤ 3200000000 := by
  unfold areaP; rw [if_pos ((valB_iff a).2 v)]; exact crs_sum v _ (Nat.le_refl _)
theorem mx_bd {a : List Pt} (v : Val a) : -3200000000 ≤ mxP a ∧ mxP a ≤ 3200000000 := by
  unfold mxP; rw [if_pos ((valB_iff a).2 v)]; exact mx_sum v _ (Nat.le_refl _)
theorem my_bd {a : List Pt} (v : Val a) : -3200000000 ≤ myP a ∧ myP a ≤ 3200000000 := by
  unfold myP; rw [if_pos ((valB_iff a).2 v)]; exact my_sum v _ (Nat.le_refl _)
theorem mul_bd2 {x n : Int} (h1 : -40 ≤ x) (h2 : x ≤ 40) (h3 : -3200000000 ≤ n) (h4 : n ≤ 3200000000) : -400000000000 ≤ 3 * x * n ∧ 3 * x * n ≤ 400000000000 := by
  have e3 : 3 * x * n = 3 * (x * n) := Int.mul_assoc _ _ _
  rw [e3]
  have h5 : -(40 * 3200000000) ≤ x * n ∧ x * n ≤ 40 * 3200000000 := by
    rcases Int.le_total 0 x with h | h <;> rcases Int.le_total 0 n with k | k
    · have a := Int.mul_le_mul h2 h4 k (by omega); have b := Int.mul_nonneg h k; omega
    · have a := Int.mul_le_mul h2 (by omega : -n ≤ 3200000000) (by omega) (by omega); have b := Int.mul_nonneg h (by omega : 0 ≤ -n); rw [Int.mul_neg] at a b; omega
    · have a := Int.mul_le_mul (by omega : -x ≤ 40) h4 k (by omega); have b := Int.mul_nonneg (by omega : 0 ≤ -x) k; rw [Int.neg_mul] at a b; omega
    · have a := Int.mul_le_mul (by omega : -x ≤ 40) (by omega : -n ≤ 3200000000) (by omega) (by omega); have b := Int.mul_nonneg (by omega : 0 ≤ -x) (by omega : 0 ≤ -n); rw [Int.neg_mul_neg] at a b; omega
  omega
end Go.Proofs.YtcamncipkofgkaaDoor
/- UntVol: The contracts of Volume2, Weight6 and Moment6. -/
namespace Unt
open Pln
/-- What the materials are, all numbers in a row. -/
def matT : List Int := [9, 3, 9, 1, 0, 8, 3, 6, 4, 1, 7, 3, 5, 5, 1, 6, 3, 4, 6, 3, 3, 2, 5, 3, 0, 5, 2, 2, 7, 1, 8, 3, 8, 1, 4, 10, 1, 9, 0, 0]
def dens (m : Int) : Int := matT.getD (m.toNat * 5) 0
theorem dens_bd {m : Int} (h0 : 0 ≤ m) (h1 : m ≤ 7) : 3 ≤ dens m ∧ dens m ≤ 10 := by
  have : m = 0 ∨ m = 1 ∨ m = 2 ∨ m = 3 ∨ m = 4 ∨ m = 5 ∨ m = 6 ∨ m = 7 := by omega
  rcases this with rfl | rfl | rfl | rfl | rfl | rfl | rfl | rfl <;> decide
def volP (u : U) : Int := if valU u = true then areaP u.shape * (u.front - u.back) else 0
def wtP (u : U) : Int := if valU u = true then 3 * (areaP u.shape * (u.front - u.back)) * dens u.mat else 0
def momP (u : U) : Int := if valU u = true then mxP u.shape * (u.front - u.back) * dens u.mat else 0
theorem mul_bd3 {x n M N : Int} (h1 : -M ≤ x) (h2 : x ≤ M) (h3 : 0 ≤ n) (h4 : n ≤ N) (hM : 0 ≤ M) : -(M * N) ≤ x * n ∧ x * n ≤ M * N := by
  have a := Int.mul_le_mul_of_nonneg_right h2 h3
  have b := Int.mul_le_mul_of_nonneg_right h1 h3
  have c := Int.mul_le_mul_of_nonneg_left h4 hM
  rw [Int.neg_mul] at b
  omega
end Unt
namespace Go.Proofs.YtcamncipkofgkaaDoor
open Go.RowKit Go.Shelf Pln Unt
/-- The table of materials lies in its variable. -/
def TabU (w : World) : Prop := ∀ k, k < 40 → w.cell? ⟨0, k, none⟩ = some (.int .i64 (matT.getD k 0))
theorem TabU.via {w w' : World} (h : TabU w) (hB : Below w.heap.size w w') : TabU w' := fun k hk => keptBelow hB (h k hk)

set_option maxRecDepth 100000 in
set_option maxHeartbeats 1000000 in
theorem volume_w (u : U) (s : Value) (w : World) (h : UAt w s u) :
    Calls Tryd.prog 19 #[uv u s] w fun e w' => e = .returned (.int .i64 (volP u)) ∧ Below w.heap.size w w' := by
  have HV := Lib.hid (fun w1 (hB : Below w.heap.size w w1) => validU_w u s w1 (h.via hB))
  have HAR := Lib.hid (fun w1 (hB : Below w.heap.size w w1) => area_w u.shape h.ok.len s w1 (h.at_.via hB))
  have HU := Lib.hid (UBox.new w u s)
  have HB := Lib.hid (alloc_below w (uo u s))
  clear h
  rcases hv : valU u with _ | _
  · have HR : Hid (volP u = 0) := Lib.hid (by unfold volP; rw [hv]; rfl)
    rw [hv] at HV
    generalize volP u = r at *
    clear hv HAR
    unfold uo at HU HB
    unfold uv at *
    obtain ⟨i, k, m, sh, b, f⟩ := u
    dsimp only at *
    obtain ⟨W, hW⟩ : ∃ W, W = w.alloc (.cells #[.int .i64 i, .int .i64 k, .int .i64 m, s, .int .i64 b, .int .i64 f] 27) := ⟨_, rfl⟩
    obtain ⟨bx, hbx⟩ : ∃ bx, bx = w.heap.size := ⟨_, rfl⟩
    go_enter Tryd.func19, Tryd.ntmps19
    go_upto_region 1 with fail
    rw [← hW, ← hbx]
    rw [← hW] at HU HB
    rw [← hbx] at HU
    clear hW hbx
    obtain ⟨c0, c1, c2, c3, c4, c5⟩ := HU.out
    dsimp only at c0 c1 c2 c3 c4 c5
    go_wp2_with fail
    refine (HV.out _ HB.out).mono ?_
    rintro e w1 ⟨rfl, hB1⟩
    have HB1 := Lib.hid (belowStep HB.out hB1)
    clear hB1
    go_wp2_with fail
    go_ret
    exact ⟨ret_int (by rw [HR.out]), HB1.out⟩
  · have vu := (valU_iff u).1 hv
    have HDP := Lib.hid (fun w1 => depth_w u s ⟨by have := vu.f1; have := vu.bf; have := vu.b0; omega, by have := vu.f1; omega⟩ vu.b0 (by have := vu.bf; omega) w1)
    have HR : Hid (volP u = areaP u.shape * (u.front - u.back)) := Lib.hid (by unfold volP; rw [hv]; rfl)
    have ab := area_bd vu.v
    have mb := mul_bd3 (x := areaP u.shape) (n := u.front - u.back) (M := 3200000000) (N := 8) (by omega) ab.2 (by have := vu.bf; omega) (by have := vu.f1; have := vu.b0; omega) (by omega)
    have hw : IntKind.i64.wrap (areaP u.shape * (u.front - u.back)) = areaP u.shape * (u.front - u.back) := IntWalk.i64_in _ (by omega)
    rw [hv] at HV
    generalize volP u = r at *
    generalize areaP u.shape = ar at *
    clear hv ab mb vu
    unfold uo at HU HB
    unfold uv at *
    obtain ⟨i, k, m, sh, b, f⟩ := u
    dsimp only at *
    obtain ⟨W, hW⟩ : ∃ W, W = w.alloc (.cells #[.int .i64 i, .int .i64 k, .int .i64 m, s, .int .i64 b, .int .i64 f] 27) := ⟨_, rfl⟩
    obtain ⟨bx, hbx⟩ : ∃ bx, bx = w.heap.size := ⟨_, rfl⟩
    go_enter Tryd.func19, Tryd.ntmps19
    go_upto_region 1 with fail
    rw [← hW, ← hbx]
    rw [← hW] at HU HB
    rw [← hbx] at HU
    clear hW hbx
    obtain ⟨c0, c1, c2, c3, c4, c5⟩ := HU.out
    dsimp only at c0 c1 c2 c3 c4 c5
    go_wp2_with fail
    refine (HV.out _ HB.out).mono ?_
    rintro e w1 ⟨rfl, hB1⟩
    have HB1 := Lib.hid (belowStep HB.out hB1)
    obtain ⟨c0, c1, c2, c3, c4, c5⟩ := HU.out.via hB1
    dsimp only at c0 c1 c2 c3 c4 c5
    clear hB1
    go_wp2_with fail
    refine (wpIn_wide (n := 5)).1 ?_
    refine wpIn_region_T (fun w' => Below w1.drew.heap.size w1.drew w') 4 (by kernel_rfl) ?_
    have hd : Below w1.heap.size w1 w1.drew := (Below.refl _ _).drew
    have HBD := Lib.hid (belowStep HB1.out hd)
    generalize w1.drew = wd at *
    have c0 := keptBelow hd c0
    have c1 := keptBelow hd c1
    have c2 := keptBelow hd c2
    have c3 := keptBelow hd c3
    have c4 := keptBelow hd c4
    have c5 := keptBelow hd c5
    refine wpT_tk 0 6 (v := ?_) (Below.refl _ _) rfl rfl (by rfl) (hy := fun w hw => ?_) (h := ?_)
    rotate_left
    · go_simp; with_reducible rfl
    try simp only [Act.put, List.setIfInBounds_toArray, List.set_cons_zero, List.set_cons_succ]
    refine wpT_tk 1 7 (v := ?_) (Below.refl _ _) rfl rfl (by rfl) (hy := fun w hw => ?_) (h := ?_)
    rotate_left
    · have c3 := keptBelow hw c3; go_simp; with_reducible rfl
    try simp only [Act.put, List.setIfInBounds_toArray, List.set_cons_zero, List.set_cons_succ]
    refine wpT_tk 3 9 (v := ?_) (Below.refl _ _) rfl rfl (by rfl) (hy := fun w hw => ?_) (h := ?_)
    rotate_left
    · have c0 := keptBelow hw c0; have c1 := keptBelow hw c1; have c2 := keptBelow hw c2; have c3 := keptBelow hw c3; have c4 := keptBelow hw c4; have c5 := keptBelow hw c5; go_simp; with_reducible rfl
    try simp only [Act.put, List.setIfInBounds_toArray, List.set_cons_zero, List.set_cons_succ]
    refine wpT_one 2 rfl rfl (by kernel_rfl) ?_
    go_simp
    refine ⟨trivial, ?_⟩
    refine (callsIn_wide.2 (HAR.out wd HBD.out)).mono ?_
    rintro e u3 ⟨rfl, hB3⟩
    refine ⟨hB3, ?_⟩
    have HB3 := Lib.hid hB3
    clear hB3
    refine wpT_one 4 rfl rfl (by kernel_rfl) ?_
    go_simp
    refine ⟨trivial, ?_⟩
    refine (callsIn_wide.2 (HDP.out u3)).mono ?_
    rintro e u4 ⟨rfl, hB4⟩
    have HB4 := Lib.hid (belowStep HBD.out (belowStep HB3.out hB4))
    clear hB4
    refine wpT_one 5 rfl rfl (by kernel_rfl) ?_
    go_simp
    refine wpT_one 6 rfl rfl (by kernel_rfl) ?_
    go_simp
    refine wpT_done (by kernel_rfl) ?_ _
    go_wp2_with fail
    go_ret
    exact ⟨ret_int (by rw [HR.out]), HB4.out⟩
set_option maxRecDepth 100000 in
set_option maxHeartbeats 1000000 in
theorem weight_w (u : U) (s : Value) (w : World) (h : UAt w s u) (hT : TabU w) :
    Calls Tryd.prog 21 #[uv u s] w fun e w' => e = .returned (.int .i64 (wtP u)) ∧ Below w.heap.size w w' := by
  have HV := Lib.hid (fun w1 (hB : Below w.heap.size w w1) => validU_w u s w1 (h.via hB))
  have HVO := Lib.hid (fun w1 (hB : Below w.heap.size w w1) => volume_w u s w1 (h.via hB))
  have HT := Lib.hid hT
  clear hT
  have HU := Lib.hid (UBox.new w u s)
  have HB := Lib.hid (alloc_below w (uo u s))
  clear h
  rcases hv : valU u with _ | _
  · have HR : Hid (wtP u = 0) := Lib.hid (by unfold wtP; rw [hv]; rfl)
    rw [hv] at HV
    generalize wtP u = r at *
    clear hv HVO
    unfold uo at HU HB
    unfold uv at *
    obtain ⟨i, k, m, sh, b, f⟩ := u
    dsimp only at *
    obtain ⟨W, hW⟩ : ∃ W, W = w.alloc (.cells #[.int .i64 i, .int .i64 k, .int .i64 m, s, .int .i64 b, .int .i64 f] 27) := ⟨_, rfl⟩
    obtain ⟨bx, hbx⟩ : ∃ bx, bx = w.heap.size := ⟨_, rfl⟩
    go_enter Tryd.func21, Tryd.ntmps21
    go_upto_region 1 with fail
    rw [← hW, ← hbx]
    rw [← hW] at HU HB
    rw [← hbx] at HU
    clear hW hbx
    obtain ⟨c0, c1, c2, c3, c4, c5⟩ := HU.out
    dsimp only at c0 c1 c2 c3 c4 c5
    go_wp2_with fail
    refine (HV.out _ HB.out).mono ?_
    rintro e w1 ⟨rfl, hB1⟩
    have HB1 := Lib.hid (belowStep HB.out hB1)
    clear hB1
    go_wp2_with fail
    go_ret
    exact ⟨ret_int (by rw [HR.out]), HB1.out⟩
  · have vu := (valU_iff u).1 hv
    have hm0 := vu.m0
    have hm1 := vu.m1
    have db := dens_bd hm0 hm1
    have HR : Hid (wtP u = 3 * volP u * dens u.mat) := Lib.hid (by unfold wtP volP; rw [hv]; rfl)
    have vb : -25600000000 ≤ volP u ∧ volP u ≤ 25600000000 := by
      unfold volP; rw [if_pos hv]
      have ab := area_bd vu.v
      have mb := mul_bd3 (x := areaP u.shape) (n := u.front - u.back) (M := 3200000000) (N := 8) (by omega) ab.2 (by have := vu.bf; omega) (by have := vu.f1; have := vu.b0; omega) (by omega)
      omega
    have mb := mul_bd3 (x := 3 * volP u) (n := dens u.mat) (M := 76800000000) (N := 10) (by omega) (by omega) (by omega) (by omega) (by omega)
    have hw1 : IntKind.i64.wrap (3 * volP u) = 3 * volP u := IntWalk.i64_in _ (by omega)
    have hw2 : IntKind.i64.wrap (3 * volP u * dens u.mat) = 3 * volP u * dens u.mat := IntWalk.i64_in _ (by omega)
    rw [hv] at HV
    generalize wtP u = r at *
    generalize volP u = vo at *
    clear hv mb vu vb db
    unfold uo at HU HB
    unfold uv at *
    obtain ⟨i, k, m, sh, b, f⟩ := u
    dsimp only at *
    obtain ⟨W, hW⟩ : ∃ W, W = w.alloc (.cells #[.int .i64 i, .int .i64 k, .int .i64 m, s, .int .i64 b, .int .i64 f] 27) := ⟨_, rfl⟩
    obtain ⟨bx, hbx⟩ : ∃ bx, bx = w.heap.size := ⟨_, rfl⟩
    obtain ⟨mN, rfl⟩ : ∃ mN : Nat, m = mN := ⟨m.toNat, by omega⟩
    have hm8 : mN < 8 := by omega
    have hgl := fun z (hB : Below w.heap.size w z) => (HT.out.via hB) (mN * 5) (by omega)
    have hde : dens mN = matT.getD (mN * 5) 0 := by unfold dens; simp
    rw [← hde] at hgl
    have HG := Lib.hid hgl
    clear hgl hde
    generalize dens mN = dn at *
    go_enter Tryd.func21, Tryd.ntmps21
    go_upto_region 1 with fail
    rw [← hW, ← hbx]
    rw [← hW] at HU HB
    rw [← hbx] at HU
    clear hW hbx
    obtain ⟨c0, c1, c2, c3, c4, c5⟩ := HU.out
    dsimp only at c0 c1 c2 c3 c4 c5
    go_wp2_with fail
    refine (HV.out _ HB.out).mono ?_
    rintro e w1 ⟨rfl, hB1⟩
    have HB1 := Lib.hid (belowStep HB.out hB1)
    have HU := Lib.hid (HU.out.via hB1)
    obtain ⟨c0, c1, c2, c3, c4, c5⟩ := HU.out
    dsimp only at c0 c1 c2 c3 c4 c5
    clear hB1
    have hm8b : (mN : Int) < 8 := by omega
    go_wp2_with fail
    refine (wpIn_wide (n := 5)).1 ?_
    refine wpIn_region_T (fun w' => Below w1.drew.heap.size w1.drew w') 8 (by kernel_rfl) ?_
    have hd : Below w1.heap.size w1 w1.drew := (Below.refl _ _).drew
    have HBD := Lib.hid (belowStep HB1.out hd)
    have hg := HG.out _ HBD.out
    generalize w1.drew = wd at *
    have c0 := keptBelow hd c0
    have c1 := keptBelow hd c1
    have c2 := keptBelow hd c2
    have c3 := keptBelow hd c3
    have c4 := keptBelow hd c4
    have c5 := keptBelow hd c5
    refine wpT_tk 0 6 (v := ?_) (Below.refl _ _) rfl rfl (by rfl) (hy := fun w hw => ?_) (h := ?_)
    rotate_left
    · have c0 := keptBelow hw c0; have c1 := keptBelow hw c1; have c2 := keptBelow hw c2; have c3 := keptBelow hw c3; have c4 := keptBelow hw c4; have c5 := keptBelow hw c5; go_simp; with_reducible rfl
    try simp only [Act.put, List.setIfInBounds_toArray, List.set_cons_zero, List.set_cons_succ]
    refine wpT_tk 3 9 (v := ?_) (Below.refl _ _) rfl rfl (by rfl) (hy := fun w hw => ?_) (h := ?_)
    rotate_left
    · go_simp; with_reducible rfl
    try simp only [Act.put, List.setIfInBounds_toArray, List.set_cons_zero, List.set_cons_succ]
    refine wpT_tk 4 10 (v := ?_) (Below.refl _ _) rfl rfl (by rfl) (hy := fun w hw => ?_) (h := ?_)
    rotate_left
    · have c2 := keptBelow hw c2; go_simp; with_reducible rfl
    try simp only [Act.put, List.setIfInBounds_toArray, List.set_cons_zero, List.set_cons_succ]
    refine wpT_tk 5 11 (v := ?_) (Below.refl _ _) rfl rfl (by rfl) (hy := fun w hw => ?_) (h := ?_)
    rotate_left
    · go_simp; with_reducible rfl
    try simp only [Act.put, List.setIfInBounds_toArray, List.set_cons_zero, List.set_cons_succ]
    refine wpT_tk 6 12 (v := ?_) (Below.refl _ _) rfl rfl (by rfl) (hy := fun w hw => ?_) (h := ?_)
    rotate_left
    · go_simp; with_reducible rfl
    try simp only [Act.put, List.setIfInBounds_toArray, List.set_cons_zero, List.set_cons_succ]
    refine wpT_tk 7 13 (v := ?_) (Below.refl _ _) rfl rfl (by rfl) (hy := fun w hw => ?_) (h := ?_)
    rotate_left
    · have hg := keptBelow hw hg; go_simp; with_reducible rfl
    try simp only [Act.put, List.setIfInBounds_toArray, List.set_cons_zero, List.set_cons_succ]
    refine wpT_one 1 rfl rfl (by kernel_rfl) ?_
    go_simp
    refine ⟨trivial, ?_⟩
    refine (callsIn_wide.2 (HVO.out wd HBD.out)).mono ?_
    rintro e u3 ⟨rfl, hB3⟩
    have HS := Lib.hid hB3
    have HB4 := Lib.hid (belowStep HBD.out hB3)
    clear hB3
    refine ⟨HS.out, ?_⟩
    refine wpT_one 2 rfl rfl (by kernel_rfl) ?_
    go_simp
    refine ⟨HS.out, ?_⟩
    refine wpT_one 8 rfl rfl (by kernel_rfl) ?_
    go_simp
    refine wpT_one 9 rfl rfl (by kernel_rfl) ?_
    go_simp
    refine wpT_done (by kernel_rfl) ?_ _
    go_wp2_with fail
    go_ret
    exact ⟨ret_int (by rw [HR.out]), HB4.out⟩
set_option maxRecDepth 100000 in
set_option maxHeartbeats 1000000 in
theorem moment_w (u : U) (s : Value) (w : World) (h : UAt w s u) (hT : TabU w) :
    Calls Tryd.prog 23 #[uv u s] w fun e w' => e = .returned (.int .i64 (momP u)) ∧ Below w.heap.size w w' := by
  have HV := Lib.hid (fun w1 (hB : Below w.heap.size w w1) => validU_w u s w1 (h.via hB))
  have HMO := Lib.hid (fun w1 (hB : Below w.heap.size w w1) => moments_w u.shape h.ok.len s w1 (h.at_.via hB))
  have HT := Lib.hid hT
  clear hT
  have HU := Lib.hid (UBox.new w u s)
  have HB := Lib.hid (alloc_below w (uo u s))
  clear h
  rcases hv : valU u with _ | _
  · have HR : Hid (momP u = 0) := Lib.hid (by unfold momP; rw [hv]; rfl)
    rw [hv] at HV
    generalize momP u = r at *
    clear hv HMO
    unfold uo at HU HB
    unfold uv at *
    obtain ⟨i, k, m, sh, b, f⟩ := u
    dsimp only at *
    obtain ⟨W, hW⟩ : ∃ W, W = w.alloc (.cells #[.int .i64 i, .int .i64 k, .int .i64 m, s, .int .i64 b, .int .i64 f] 27) := ⟨_, rfl⟩
    obtain ⟨bx, hbx⟩ : ∃ bx, bx = w.heap.size := ⟨_, rfl⟩
    go_enter Tryd.func23, Tryd.ntmps23
    go_upto_region 1 with fail
    rw [← hW, ← hbx]
    rw [← hW] at HU HB
    rw [← hbx] at HU
    clear hW hbx
    obtain ⟨c0, c1, c2, c3, c4, c5⟩ := HU.out
    dsimp only at c0 c1 c2 c3 c4 c5
    go_wp2_with fail
    refine (HV.out _ HB.out).mono ?_
    rintro e w1 ⟨rfl, hB1⟩
    have HB1 := Lib.hid (belowStep HB.out hB1)
    clear hB1
    go_wp2_with fail
    go_ret
    exact ⟨ret_int (by rw [HR.out]), HB1.out⟩
  · have vu := (valU_iff u).1 hv
    have hm0 := vu.m0
    have hm1 := vu.m1
    have db := dens_bd hm0 hm1
    have HDP := Lib.hid (fun w1 => depth_w u s ⟨by have := vu.f1; have := vu.bf; have := vu.b0; omega, by have := vu.f1; omega⟩ vu.b0 (by have := vu.bf; omega) w1)
    have HR : Hid (momP u = mxP u.shape * (u.front - u.back) * dens u.mat) := Lib.hid (by unfold momP; rw [hv]; rfl)
    have ab := mx_bd vu.v
    have mb1 := mul_bd3 (x := mxP u.shape) (n := u.front - u.back) (M := 3200000000) (N := 8) (by omega) ab.2 (by have := vu.bf; omega) (by have := vu.f1; have := vu.b0; omega) (by omega)
    have mb2 := mul_bd3 (x := mxP u.shape * (u.front - u.back)) (n := dens u.mat) (M := 25600000000) (N := 10) (by omega) (by omega) (by omega) (by omega) (by omega)
    have hw1 : IntKind.i64.wrap (mxP u.shape * (u.front - u.back)) = mxP u.shape * (u.front - u.back) := IntWalk.i64_in _ (by omega)
    have hw2 : IntKind.i64.wrap (mxP u.shape * (u.front - u.back) * dens u.mat) = mxP u.shape * (u.front - u.back) * dens u.mat := IntWalk.i64_in _ (by omega)
    rw [hv] at HV
    generalize momP u = r at *
    generalize mxP u.shape = mx at *
    generalize myP u.shape = my at *
    clear hv ab mb1 mb2 vu db
    unfold uo at HU HB
    unfold uv at *
    obtain ⟨i, k, m, sh, b, f⟩ := u
    dsimp only at *
    obtain ⟨W, hW⟩ : ∃ W, W = w.alloc (.cells #[.int .i64 i, .int .i64 k, .int .i64 m, s, .int .i64 b, .int .i64 f] 27) := ⟨_, rfl⟩
    obtain ⟨bx, hbx⟩ : ∃ bx, bx = w.heap.size := ⟨_, rfl⟩
    obtain ⟨mN, rfl⟩ : ∃ mN : Nat, m = mN := ⟨m.toNat, by omega⟩
    have hm8 : mN < 8 := by omega
    have hgl := fun z (hB : Below w.heap.size w z) => (HT.out.via hB) (mN * 5) (by omega)
    have hde : dens mN = matT.getD (mN * 5) 0 := by unfold dens; simp
    rw [← hde] at hgl
    have HG := Lib.hid hgl
    clear hgl hde
    generalize dens mN = dn at *
    go_enter Tryd.func23, Tryd.ntmps23
    go_upto_region 1 with fail
    rw [← hW, ← hbx]
    rw [← hW] at HU HB
    rw [← hbx] at HU
    clear hW hbx
    obtain ⟨c0, c1, c2, c3, c4, c5⟩ := HU.out
    dsimp only at c0 c1 c2 c3 c4 c5
    go_wp2_with fail
    refine (HV.out _ HB.out).mono ?_
    rintro e w1 ⟨rfl, hB1⟩
    have HB1 := Lib.hid (belowStep HB.out hB1)
    have HU := Lib.hid (HU.out.via hB1)
    obtain ⟨c0, c1, c2, c3, c4, c5⟩ := HU.out
    dsimp only at c0 c1 c2 c3 c4 c5
    clear hB1
    go_wp2_with fail
    refine (HMO.out _ HB1.out).mono ?_
    rintro e w2 ⟨rfl, hB2⟩
    have HB2 := Lib.hid (belowStep HB1.out hB2)
    have HU := Lib.hid (HU.out.via hB2)
    obtain ⟨c0, c1, c2, c3, c4, c5⟩ := HU.out
    dsimp only at c0 c1 c2 c3 c4 c5
    clear hB2
    have hm8b : (mN : Int) < 8 := by omega
    go_wp2_with fail
    refine (wpIn_wide (n := 5)).1 ?_
    refine wpIn_region_T (fun w' => Below w2.drew.heap.size w2.drew w') 9 (by kernel_rfl) ?_
    have hd : Below w2.heap.size w2 w2.drew := (Below.refl _ _).drew
    have HBD := Lib.hid (belowStep HB2.out hd)
    have hg := HG.out _ HBD.out
    generalize w2.drew = wd at *
    have c0 := keptBelow hd c0
    have c1 := keptBelow hd c1
    have c2 := keptBelow hd c2
    have c3 := keptBelow hd c3
    have c4 := keptBelow hd c4
    have c5 := keptBelow hd c5
    refine wpT_tk 0 14 (v := ?_) (Below.refl _ _) rfl rfl (by rfl) (hy := fun w hw => ?_) (h := ?_)
    rotate_left
    · go_simp; with_reducible rfl
    try simp only [Act.put, List.setIfInBounds_toArray, List.set_cons_zero, List.set_cons_succ]
    refine wpT_tk 1 15 (v := ?_) (Below.refl _ _) rfl rfl (by rfl) (hy := fun w hw => ?_) (h := ?_)
    rotate_left
    · have c0 := keptBelow hw c0; have c1 := keptBelow hw c1; have c2 := keptBelow hw c2; have c3 := keptBelow hw c3; have c4 := keptBelow hw c4; have c5 := keptBelow hw c5; go_simp; with_reducible rfl
    try simp only [Act.put, List.setIfInBounds_toArray, List.set_cons_zero, List.set_cons_succ]
    refine wpT_tk 4 18 (v := ?_) (Below.refl _ _) rfl rfl (by rfl) (hy := fun w hw => ?_) (h := ?_)
    rotate_left
    · go_simp; with_reducible rfl
    try simp only [Act.put, List.setIfInBounds_toArray, List.set_cons_zero, List.set_cons_succ]
    refine wpT_tk 5 19 (v := ?_) (Below.refl _ _) rfl rfl (by rfl) (hy := fun w hw => ?_) (h := ?_)
    rotate_left
    · have c2 := keptBelow hw c2; go_simp; with_reducible rfl
    try simp only [Act.put, List.setIfInBounds_toArray, List.set_cons_zero, List.set_cons_succ]
    refine wpT_tk 6 20 (v := ?_) (Below.refl _ _) rfl rfl (by rfl) (hy := fun w hw => ?_) (h := ?_)
    rotate_left
    · go_simp; with_reducible rfl
    try simp only [Act.put, List.setIfInBounds_toArray, List.set_cons_zero, List.set_cons_succ]
    refine wpT_tk 7 21 (v := ?_) (Below.refl _ _) rfl rfl (by rfl) (hy := fun w hw => ?_) (h := ?_)
    rotate_left
    · go_simp; with_reducible rfl
    try simp only [Act.put, List.setIfInBounds_toArray, List.set_cons_zero, List.set_cons_succ]
    refine wpT_tk 8 22 (v := ?_) (Below.refl _ _) rfl rfl (by rfl) (hy := fun w hw => ?_) (h := ?_)
    rotate_left
    · have hg := keptBelow hw hg; go_simp; with_reducible rfl
    try simp only [Act.put, List.setIfInBounds_toArray, List.set_cons_zero, List.set_cons_succ]
    refine wpT_one 2 rfl rfl (by kernel_rfl) ?_
    go_simp
    refine ⟨trivial, ?_⟩
    refine (callsIn_wide.2 (HDP.out wd)).mono ?_
    rintro e u3 ⟨rfl, hB3⟩
    have HS := Lib.hid hB3
    have HB4 := Lib.hid (belowStep HBD.out hB3)
    clear hB3
    refine ⟨HS.out, ?_⟩
    refine wpT_one 3 rfl rfl (by kernel_rfl) ?_
    go_simp
    refine ⟨HS.out, ?_⟩
    refine wpT_one 9 rfl rfl (by kernel_rfl) ?_
    go_simp
    refine wpT_one 10 rfl rfl (by kernel_rfl) ?_
    go_simp
    refine wpT_done (by kernel_rfl) ?_ _
    go_wp2_with fail
    go_ret
    exact ⟨ret_int (by rw [HR.out]), HB4.out⟩
end Go.Proofs.YtcamncipkofgkaaDoor
/- UntStuff: The contract of unit.Stuff. -/
namespace Unt
def stf (m j : Int) : Int := matT.getD (m.toNat * 5 + j.toNat) 0
end Unt
namespace Go.Proofs.YtcamncipkofgkaaDoor
open Go.RowKit Go.Shelf Pln Unt
def stfV (m : Int) : Value := if 0 ≤ m ∧ m ≤ 7 then .tuple #[.agg #[.int .i64 (stf m 0), .int .i64 (stf m 1), .int .i64 (stf m 2), .int .i64 (stf m 3), .int .i64 (stf m 4)], .int .i64 0] else .tuple #[.agg #[.int .i64 0, .int .i64 0, .int .i64 0, .int .i64 0, .int .i64 0], .int .i64 80]
theorem stuff_end {w W : World} {x0 x1 x2 x3 x4 : Value} {y : Int} {tm : Array Value} {Q : Ending → World → Prop} (hz : W.heap[w.heap.size]? = some (.cells #[.int .i64 0, .int .i64 0, .int .i64 0, .int .i64 0, .int .i64 0] 57 (0, 0)))
    (hQ : Q (.returned (.tuple #[.agg #[x0, x1, x2, x3, x4], .int .i64 y])) (((((W.setCell ⟨w.heap.size, 0, none⟩ x0).setCell ⟨w.heap.size, 1, none⟩ x1).setCell ⟨w.heap.size, 2, none⟩ x2).setCell ⟨w.heap.size, 3, none⟩ x3).setCell ⟨w.heap.size, 4, none⟩ x4))
    (h4 : tm[2]?.getD undef = .pointer (some ⟨w.heap.size, 0, none⟩) := by rfl) (h5 : tm[3]?.getD undef = .int .i64 y := by rfl) :
    bodyPost Tryd.prog Tryd.f35 Q .ret { tmps := tm, defers := [] }
      (((((W.setCell ⟨w.heap.size, 0, none⟩ x0).setCell ⟨w.heap.size, 1, none⟩ x1).setCell ⟨w.heap.size, 2, none⟩ x2).setCell ⟨w.heap.size, 3, none⟩ x3).setCell ⟨w.heap.size, 4, none⟩ x4) := by
  have z0 := cell_heap hz (i := 0) rfl
  have z1 := cell_heap hz (i := 1) rfl
  have z2 := cell_heap hz (i := 2) rfl
  have z3 := cell_heap hz (i := 3) rfl
  have z4 := cell_heap hz (i := 4) rfl
  have f0 := frozen_of_row _ _ 0 _ _ hz
  have f1 := frozen_of_row _ _ 1 _ _ hz
  have f2 := frozen_of_row _ _ 2 _ _ hz
  have f3 := frozen_of_row _ _ 3 _ _ hz
  have f4 := frozen_of_row _ _ 4 _ _ hz
  exact bodyPost_ret (v := .tuple #[.agg #[x0, x1, x2, x3, x4], .int .i64 y]) (by simp [results, Tryd.results35, go_sem, h4, h5, z0, z1, z2, z3, z4]) rfl hQ
theorem below_five {w W : World} {x0 x1 x2 x3 x4 : Value} (hB : Below w.heap.size w W) : Below w.heap.size w (((((W.setCell ⟨w.heap.size, 0, none⟩ x0).setCell ⟨w.heap.size, 1, none⟩ x1).setCell ⟨w.heap.size, 2, none⟩ x2).setCell ⟨w.heap.size, 3, none⟩ x3).setCell ⟨w.heap.size, 4, none⟩ x4) :=
  (((((hB.setCell (p := ⟨w.heap.size, 0, none⟩) (by simp) _).setCell (p := ⟨w.heap.size, 1, none⟩) (by simp) _).setCell (p := ⟨w.heap.size, 2, none⟩) (by simp) _).setCell (p := ⟨w.heap.size, 3, none⟩) (by simp) _).setCell (p := ⟨w.heap.size, 4, none⟩) (by simp) _)
set_option maxRecDepth 100000 in
set_option maxHeartbeats 1000000 in
theorem stuff_w (m : Int) (w : World) (hT : TabU w) :
    Calls Tryd.prog 35 #[.int .i64 m] w fun e w' => e = .returned (stfV m) ∧ Below w.heap.size w w' := by
  obtain ⟨W, hW⟩ : ∃ W, W = w.alloc (.cells #[.int .i64 0, .int .i64 0, .int .i64 0, .int .i64 0, .int .i64 0] 57) := ⟨_, rfl⟩
  have hA : Below w.heap.size w W := by rw [hW]; exact alloc_below _ _
  have hz := heap_alloc_new w (.cells #[.int .i64 0, .int .i64 0, .int .i64 0, .int .i64 0, .int .i64 0] 57)
  rw [← hW] at hz
  have HZ := Lib.hid hz
  have HB := Lib.hid hA
  have HT := Lib.hid (hT.via hA)
  clear hA hz hT
  by_cases hm : 0 ≤ m ∧ m ≤ 7
  · have HE : Hid (stfV m = .tuple #[.agg #[.int .i64 (stf m 0), .int .i64 (stf m 1), .int .i64 (stf m 2), .int .i64 (stf m 3), .int .i64 (stf m 4)], .int .i64 0]) := Lib.hid (by unfold stfV; rw [if_pos hm])
    obtain ⟨h0, h7⟩ := hm
    have hb : (decide (0 ≤ m) && decide (m ≤ 7)) = true := by rw [decide_eq_true h0, decide_eq_true h7]; rfl
    have HM := Lib.hid (isMaterial_w m)
    rw [hb] at HM
    clear hb
    generalize stfV m = sv at *
    obtain ⟨mN, rfl⟩ : ∃ mN : Nat, m = mN := ⟨m.toNat, by omega⟩
    have hm8 : (mN : Int) < 8 := by omega
    have t0 := HT.out (mN * 5) (by omega)
    have t1 := HT.out (mN * 5 + 1) (by omega)
    have t2 := HT.out (mN * 5 + 2) (by omega)
    have t3 := HT.out (mN * 5 + 3) (by omega)
    have t4 := HT.out (mN * 5 + 4) (by omega)
    have e0 : stf mN 0 = matT.getD (mN * 5) 0 := by unfold stf; simp
    have e1 : stf mN 1 = matT.getD (mN * 5 + 1) 0 := by unfold stf; simp
    have e2 : stf mN 2 = matT.getD (mN * 5 + 2) 0 := by unfold stf; simp
    have e3 : stf mN 3 = matT.getD (mN * 5 + 3) 0 := by unfold stf; simp
    have e4 : stf mN 4 = matT.getD (mN * 5 + 4) 0 := by unfold stf; simp
    rw [← e0] at t0
    rw [← e1] at t1
    rw [← e2] at t2
    rw [← e3] at t3
    rw [← e4] at t4
    clear e0 e1 e2 e3 e4 h0 h7
    generalize stf mN 0 = s0 at *
    generalize stf mN 1 = s1 at *
    generalize stf mN 2 = s2 at *
    generalize stf mN 3 = s3 at *
    generalize stf mN 4 = s4 at *
    have z0 := cell_heap HZ.out (i := 0) rfl
    have z1 := cell_heap HZ.out (i := 1) rfl
    have z2 := cell_heap HZ.out (i := 2) rfl
    have z3 := cell_heap HZ.out (i := 3) rfl
    have z4 := cell_heap HZ.out (i := 4) rfl
    have f0 := frozen_of_row _ _ 0 _ _ HZ.out
    have f1 := frozen_of_row _ _ 1 _ _ HZ.out
    have f2 := frozen_of_row _ _ 2 _ _ HZ.out
    have f3 := frozen_of_row _ _ 3 _ _ HZ.out
    have f4 := frozen_of_row _ _ 4 _ _ HZ.out
    go_enter Tryd.func35, Tryd.ntmps35
    go_upto_region 1 with fail
    rw [← hW]
    clear hW
    go_wp2_with fail
    refine (HM.out _).mono ?_
    rintro e w1 ⟨rfl, rfl⟩
    go_wp2_with fail
    exact stuff_end HZ.out ⟨by rw [HE.out], below_five HB.out⟩
  · have HE : Hid (stfV m = .tuple #[.agg #[.int .i64 0, .int .i64 0, .int .i64 0, .int .i64 0, .int .i64 0], .int .i64 80]) := Lib.hid (by unfold stfV; rw [if_neg hm])
    have hb : (decide (0 ≤ m) && decide (m ≤ 7)) = false := by
      rcases h : (decide (0 ≤ m) && decide (m ≤ 7)) with _ | _
      · rfl
      · exact absurd (by simpa using h) hm
    have HM := Lib.hid (isMaterial_w m)
    rw [hb] at HM
    clear hb hm
    generalize stfV m = sv at *
    have z0 := cell_heap HZ.out (i := 0) rfl
    have z1 := cell_heap HZ.out (i := 1) rfl
    have z2 := cell_heap HZ.out (i := 2) rfl
    have z3 := cell_heap HZ.out (i := 3) rfl
    have z4 := cell_heap HZ.out (i := 4) rfl
    have f0 := frozen_of_row _ _ 0 _ _ HZ.out
    have f1 := frozen_of_row _ _ 1 _ _ HZ.out
    have f2 := frozen_of_row _ _ 2 _ _ HZ.out
    have f3 := frozen_of_row _ _ 3 _ _ HZ.out
    have f4 := frozen_of_row _ _ 4 _ _ HZ.out
    go_enter Tryd.func35, Tryd.ntmps35
    go_upto_region 1 with fail
    rw [← hW]
    clear hW
    go_wp2_with fail
    refine (HM.out _).mono ?_
    rintro e w1 ⟨rfl, rfl⟩
    go_wp2_with fail
    exact stuff_end HZ.out ⟨by rw [HE.out], below_five HB.out⟩
end Go.Proofs.YtcamncipkofgkaaDoor
/- UntSaneC: The contracts of package unit at the examples of the chapter. -/
namespace Unt
open Pln
def exN8 : U := ⟨5, 3, 3, [(4, 2), (8, 2), (8, 6), (4, 6)], 2, 4⟩
def exM8 : U := ⟨5, 3, 3, [(0, 0), (4, 0), (4, 4), (0, 4)], 1, 4⟩
def exO8 : U := ⟨0, 0, 0, [], 0, 0⟩
theorem vS8 : valU exS8 = true := by decide +kernel
theorem vT8 : valU exT8 = true := by decide +kernel
end Unt
namespace Go.Proofs.YtcamncipkofgkaaDoor
open Go.RowKit Go.Shelf Pln Unt
theorem u_tou : touV exS8 exT8 = .tuple #[.agg #[.int .i64 3, .int .i64 5, .int .i64 4, .int .i64 2, .int .i64 4, .int .i64 4, .int .i64 1, .int .i64 2], .bool true] := by
  unfold touV
  rw [show touU exS8 exT8 = some ((4, 2), (4, 4)) by decide +kernel]
  rfl
theorem u_tou2 : touV exS8 exN8 = .tuple #[.agg #[.int .i64 0, .int .i64 0, .int .i64 0, .int .i64 0, .int .i64 0, .int .i64 0, .int .i64 0, .int .i64 0], .bool false] := by
  unfold touV
  rw [show touU exS8 exN8 = none by decide +kernel]
  rfl
theorem u_std : stdV exS8 = .tuple #[.agg #[.int .i64 3, .int .i64 (-1), .int .i64 0, .int .i64 0, .int .i64 4, .int .i64 0, .int .i64 0, .int .i64 2], .bool true] := by
  unfold stdV
  rw [show stdU exS8 = some ((0, 0), (4, 0)) by decide +kernel]
  rfl
theorem u_std2 : stdV exT8 = .tuple #[.agg #[.int .i64 0, .int .i64 0, .int .i64 0, .int .i64 0, .int .i64 0, .int .i64 0, .int .i64 0, .int .i64 0], .bool false] := by
  unfold stdV
  rw [show stdU exT8 = none by decide +kernel]
  rfl
section
variable (va vb : Value) (w : World)
theorem su_touch (ha : UAt w va exS8) (hb : UAt w vb exT8) : Calls Tryd.prog 25 #[uv exS8 va, uv exT8 vb] w fun e w' => e = .returned (.tuple #[.agg #[.int .i64 3, .int .i64 5, .int .i64 4, .int .i64 2, .int .i64 4, .int .i64 4, .int .i64 1, .int .i64 2], .bool true]) ∧ Below w.heap.size w w' := by
  have := touch_w exS8 exT8 va vb w ha hb; rwa [u_tou] at this
theorem su_touch2 (ha : UAt w va exS8) (hb : UAt w vb exN8) : Calls Tryd.prog 25 #[uv exS8 va, uv exN8 vb] w fun e w' => e = .returned (.tuple #[.agg #[.int .i64 0, .int .i64 0, .int .i64 0, .int .i64 0, .int .i64 0, .int .i64 0, .int .i64 0, .int .i64 0], .bool false]) ∧ Below w.heap.size w w' := by
  have := touch_w exS8 exN8 va vb w ha hb; rwa [u_tou2] at this
theorem su_std (ha : UAt w va exS8) : Calls Tryd.prog 15 #[uv exS8 va] w fun e w' => e = .returned (.tuple #[.agg #[.int .i64 3, .int .i64 (-1), .int .i64 0, .int .i64 0, .int .i64 4, .int .i64 0, .int .i64 0, .int .i64 2], .bool true]) ∧ Below w.heap.size w w' := by
  have := stands_w exS8 va w ha; rwa [u_std] at this
theorem su_std2 (ha : UAt w va exT8) : Calls Tryd.prog 15 #[uv exT8 va] w fun e w' => e = .returned (.tuple #[.agg #[.int .i64 0, .int .i64 0, .int .i64 0, .int .i64 0, .int .i64 0, .int .i64 0, .int .i64 0, .int .i64 0], .bool false]) ∧ Below w.heap.size w w' := by
  have := stands_w exT8 va w ha; rwa [u_std2] at this
theorem su_stuff (hT : TabU w) : Calls Tryd.prog 35 #[.int .i64 3] w fun e w' => e = .returned (.tuple #[.agg #[.int .i64 6, .int .i64 3, .int .i64 4, .int .i64 6, .int .i64 3], .int .i64 0]) ∧ Below w.heap.size w w' := by
  have := stuff_w 3 w hT
  rwa [show stfV 3 = .tuple #[.agg #[.int .i64 6, .int .i64 3, .int .i64 4, .int .i64 6, .int .i64 3], .int .i64 0] from rfl] at this
theorem su_stuff2 (hT : TabU w) : Calls Tryd.prog 35 #[.int .i64 8] w fun e w' => e = .returned (.tuple #[.agg #[.int .i64 0, .int .i64 0, .int .i64 0, .int .i64 0, .int .i64 0], .int .i64 80]) ∧ Below w.heap.size w w' := by
  have := stuff_w 8 w hT
  rwa [show stfV 8 = .tuple #[.agg #[.int .i64 0, .int .i64 0, .int .i64 0, .int .i64 0, .int .i64 0], .int .i64 80] from rfl] at this
theorem su_enc (ha : UAt w va exS8) : Calls Tryd.prog 33 #[uv exS8 va] w fun e w' => e = .returned (.tuple #[.string ⟨(encU exS8).toArray⟩, .int .i64 0]) ∧ Below w.heap.size w w' := by
  have := encode_w exS8 va w ha
  rwa [show encUV exS8 = .tuple #[.string ⟨(encU exS8).toArray⟩, .int .i64 0] from if_pos vS8] at this
theorem su_dec : Calls Tryd.prog 37 #[.string ⟨(encU exS8).toArray⟩] w fun e w' => ∃ r, e = .returned (.tuple #[uv exS8 r, .int .i64 0]) ∧ UAt w' r exS8 ∧ Below w.heap.size w w' := by
  have v := (valU_iff _).1 vS8
  refine (decode_w (encU exS8) (encU_len v).2 w).mono ?_
  rintro e w' ⟨⟨u, r, h, rfl, hp⟩ | ⟨h, _⟩, hB⟩
  · rw [dec_encU v] at h
    cases h
    exact ⟨r, rfl, ⟨valU_ok v, hp⟩, hB⟩
  · rw [dec_encU v] at h; cases h
theorem su_move (ha : UAt w va exT8) : Calls Tryd.prog 30 #[uv exT8 va, .int .i64 (-4), .int .i64 (-2)] w fun e w' => ∃ r, e = .returned (.tuple #[uv exM8 r, .int .i64 0]) ∧ UAt w' r exM8 ∧ Below w.heap.size w w' := by
  have hm : movU exT8 (-4) (-2) = some exM8 := by
    have h1 : moveP exT8.shape (-4) (-2) = some exM8.shape := by decide +kernel
    unfold movU; rw [if_pos vT8, h1]; rfl
  refine (moveU_w exT8 va (-4) (-2) ⟨by omega, by omega⟩ ⟨by omega, by omega⟩ w ha).mono ?_
  rintro e w' (⟨m, r, h, rfl, hp, hB⟩ | ⟨h, _⟩)
  · rw [hm] at h
    cases h
    exact ⟨r, rfl, ⟨valU_ok ((valU_iff _).1 (by decide +kernel)), hp⟩, hB⟩
  · rw [hm] at h; cases h
theorem su_faces (ha : UAt w va exS8) : Calls Tryd.prog 13 #[uv exS8 va] w fun e w' => ∃ r, e = .returned r ∧ PtsAt w' r [(3, 0), (3, 1), (3, 2), (3, 3), (3, -1), (3, -2)] ∧ Below w.heap.size w w' := by
  have := faces_w exS8 va w ha
  rwa [show facP exS8 = [(3, 0), (3, 1), (3, 2), (3, 3), (3, -1), (3, -2)] by decide +kernel] at this
theorem su_same (ha : UAt w va exS8) (hb : UAt w vb exS8) : Calls Tryd.prog 32 #[uv exS8 va, uv exS8 vb] w fun e w' => e = .returned (.bool true) ∧ Below w.heap.size w w' := by
  have := sameU_w exS8 exS8 va vb w ha hb
  rwa [show sameU exS8 exS8 = true from (sameU_iff _ _).2 rfl] at this
theorem su_vol (ha : UAt w va exS8) : Calls Tryd.prog 19 #[uv exS8 va] w fun e w' => e = .returned (.int .i64 64) ∧ Below w.heap.size w w' := by
  have := volume_w exS8 va w ha
  rwa [show volP exS8 = 64 by decide +kernel] at this
theorem su_wt (ha : UAt w va exS8) (hT : TabU w) : Calls Tryd.prog 21 #[uv exS8 va] w fun e w' => e = .returned (.int .i64 1728) ∧ Below w.heap.size w w' := by
  have := weight_w exS8 va w ha hT
  rwa [show wtP exS8 = 1728 by decide +kernel] at this
theorem su_mom (ha : UAt w va exS8) (hT : TabU w) : Calls Tryd.prog 23 #[uv exS8 va] w fun e w' => e = .returned (.int .i64 3456) ∧ Below w.heap.size w w' := by
  have := moment_w exS8 va w ha hT
  rwa [show momP exS8 = 3456 by decide +kernel] at this
theorem su_over (ha : UAt w va exS8) (hb : UAt w vb exM8) : Calls Tryd.prog 27 #[uv exS8 va, uv exM8 vb] w fun e w' => e = .returned (.bool true) ∧ Below w.heap.size w w' := by
  have := overU_w exS8 exM8 va vb w ha hb
  rwa [show overU exS8 exM8 = true by decide +kernel] at this
theorem su_over2 (ha : UAt w va exS8) (hb : UAt w vb exN8) : Calls Tryd.prog 27 #[uv exS8 va, uv exN8 vb] w fun e w' => e = .returned (.bool false) ∧ Below w.heap.size w w' := by
  have := overU_w exS8 exN8 va vb w ha hb
  rwa [show overU exS8 exN8 = false by decide +kernel] at this
theorem su_valid (ha : UAt w va exS8) : Calls Tryd.prog 17 #[uv exS8 va] w fun e w' => e = .returned (.bool true) ∧ Below w.heap.size w w' := by
  have := validU_w exS8 va w ha; rwa [vS8] at this
theorem su_valid2 : Calls Tryd.prog 17 #[.agg #[.int .i64 0, .int .i64 0, .int .i64 0, .slice none 0 0, .int .i64 0, .int .i64 0]] w fun e w' => e = .returned (.bool false) ∧ Below w.heap.size w w' := by
  have h : UAt w (.slice none 0 0) exO8 := ⟨⟨⟨by decide, by decide⟩, ⟨by decide, by decide⟩, ⟨by decide, by decide⟩, ⟨by decide, by decide⟩, ⟨by decide, by decide⟩, by unfold Len exO8; simp⟩, ⟨⟨none, 0, rfl, Nat.le_refl _, by omega, .inl rfl⟩, fun r hr => by cases hr⟩⟩
  have := validU_w exO8 (.slice none 0 0) w h
  rwa [show valU exO8 = false by decide +kernel] at this
end
theorem exN_at {w : World} {s : Value} (h : UAt w s exT8) : UAt w s exN8 := ⟨⟨h.ok.id, h.ok.kind, h.ok.mat, ⟨by decide, by decide⟩, h.ok.front, h.ok.len⟩, h.at_⟩
end Go.Proofs.YtcamncipkofgkaaDoor
/- UntSane: The contract of sane. -/
namespace Go.Proofs.YtcamncipkofgkaaDoor
open Go.RowKit Go.Shelf Pln Unt
theorem UAt.set {w : World} {s : Value} {u : U} (h : UAt w s u) (hl : 3 ≤ u.shape.length) {b i : Nat} {y x0 x1 x2 x4 x5 : Value} {a' : Option Addr} {n' c' : Nat} {t : TypeId} {fr : Nat × Nat} (hb : w.heap[b]? = some (.cells #[x0, x1, x2, .slice a' n' c', x4, x5] t fr)) : UAt (w.setCell ⟨b, i, none⟩ y) s u := by
  refine ⟨h.ok, ?_⟩
  have hp := h.at_
  obtain ⟨⟨a, c, rfl, h2, h3, h4⟩, h5⟩ := h.at_
  rcases h4 with h4 | ⟨g, o, rfl, h6⟩
  · rw [h4] at hl; simp at hl
  · exact pts_set hp (pts_apart hp hl hb)

set_option maxRecDepth 100000 in
set_option maxHeartbeats 4000000 in
theorem sane8_w (w : World) (hT : TabU w) : Calls Tryd.prog 10 #[] w fun e w' => e = .returned (.bool true) ∧ Below w.heap.size w w' := by
  have HB := Lib.hid (Below.refl w.heap.size w)
  have HT := Lib.hid hT
  have HT0 := Lib.hid hT
  clear hT
  go_enter Tryd.func10, Tryd.ntmps10
  go_wp2_with fail
  refine (examples_w _).mono ?_
  rintro e w1 ⟨ra, rb, rfl, hS, hU, hB⟩
  have HS := Lib.hid hS
  have HU := Lib.hid hU
  clear hS hU
  obtain ⟨a1, c1, rfl⟩ : ∃ a c, ra = .slice a 4 c := by obtain ⟨⟨a, c, h, _⟩, _⟩ := HS.out.at_; exact ⟨a, c, h⟩
  obtain ⟨a2, c2, rfl⟩ : ∃ a c, rb = .slice a 4 c := by obtain ⟨⟨a, c, h, _⟩, _⟩ := HU.out.at_; exact ⟨a, c, h⟩
  have HW := Lib.hid hB.size
  replace HT := Lib.hid (HT.out.via hB)
  replace HB := Lib.hid (belowStep HB.out hB)
  clear hB
  unfold uv exS8 exT8
  dsimp only
  go_upto_region 2 with fail
  obtain ⟨v1, hv1⟩ : ∃ v : World, v = (w1.alloc (.cells #[.int .i64 3, .int .i64 2, .int .i64 0, .slice a1 4 c1, .int .i64 0, .int .i64 2] 27)).alloc (.cells #[.int .i64 5, .int .i64 3, .int .i64 3, .slice a2 4 c2, .int .i64 1, .int .i64 4] 27) := ⟨_, rfl⟩
  have hB1 : Below w1.heap.size w1 (w1.alloc (.cells #[.int .i64 3, .int .i64 2, .int .i64 0, .slice a1 4 c1, .int .i64 0, .int .i64 2] 27)) := alloc_below _ _
  have hB2 : Below (w1.alloc (.cells #[.int .i64 3, .int .i64 2, .int .i64 0, .slice a1 4 c1, .int .i64 0, .int .i64 2] 27)).heap.size (w1.alloc (.cells #[.int .i64 3, .int .i64 2, .int .i64 0, .slice a1 4 c1, .int .i64 0, .int .i64 2] 27)) v1 := by rw [hv1]; exact alloc_below _ _
  have hs1 : (w1.alloc (.cells #[.int .i64 3, .int .i64 2, .int .i64 0, .slice a1 4 c1, .int .i64 0, .int .i64 2] 27)).heap.size = w1.heap.size + 1 := by simp
  have HX1 : Hid (v1.heap[w1.heap.size]? = some (.cells #[.int .i64 3, .int .i64 2, .int .i64 0, .slice a1 4 c1, .int .i64 0, .int .i64 2] 27 (0, 0))) := Lib.hid (heap_below hB2 (heap_alloc_new w1 (.cells #[.int .i64 3, .int .i64 2, .int .i64 0, .slice a1 4 c1, .int .i64 0, .int .i64 2] 27)))
  have HX2 : Hid (v1.heap[w1.heap.size + 1]? = some (.cells #[.int .i64 5, .int .i64 3, .int .i64 3, .slice a2 4 c2, .int .i64 1, .int .i64 4] 27 (0, 0))) := Lib.hid (by rw [← hs1, hv1]; exact heap_alloc_new _ _)
  have HZ : Hid (w1.heap.size + 2 ≤ v1.heap.size) := Lib.hid (by rw [hv1]; simp)
  have hB := belowStep hB1 hB2
  rw [← hv1]
  clear hB1 hB2 hs1 hv1
  replace HS := Lib.hid (HS.out.via hB)
  replace HU := Lib.hid (HU.out.via hB)
  replace HT := Lib.hid (HT.out.via hB)
  replace HB := Lib.hid (belowStep HB.out hB)
  clear hB
  have x0 := cell_heap HX1.out (i := 0) rfl
  have x1 := cell_heap HX1.out (i := 1) rfl
  have x2 := cell_heap HX1.out (i := 2) rfl
  have x3 := cell_heap HX1.out (i := 3) rfl
  have x4 := cell_heap HX1.out (i := 4) rfl
  have x5 := cell_heap HX1.out (i := 5) rfl
  have y0 := cell_heap HX2.out (i := 0) rfl
  have y1 := cell_heap HX2.out (i := 1) rfl
  have y2 := cell_heap HX2.out (i := 2) rfl
  have y3 := cell_heap HX2.out (i := 3) rfl
  have y4 := cell_heap HX2.out (i := 4) rfl
  have y5 := cell_heap HX2.out (i := 5) rfl
  go_wp2_with fail
  clear x0 x1 x2 x3 x4 x5
  clear y0 y1 y2 y3 y4 y5
  refine (su_touch _ _ _ HS.out HU.out).mono ?_
  rintro e w2 ⟨rfl, hB⟩
  replace HS := Lib.hid (HS.out.via hB)
  replace HU := Lib.hid (HU.out.via hB)
  replace HX1 := Lib.hid (heap_below hB HX1.out)
  replace HX2 := Lib.hid (heap_below hB HX2.out)
  replace HT := Lib.hid (HT.out.via hB)
  replace HB := Lib.hid (belowStep HB.out hB)
  replace HZ := Lib.hid (Nat.le_trans HZ.out hB.size)
  clear hB
  have hB := alloc_below w2 (.cells #[.int .i64 3, .int .i64 5, .int .i64 4, .int .i64 2, .int .i64 4, .int .i64 4, .int .i64 1, .int .i64 2] 42)
  have HX3 := Lib.hid (heap_alloc_new w2 (.cells #[.int .i64 3, .int .i64 5, .int .i64 4, .int .i64 2, .int .i64 4, .int .i64 4, .int .i64 1, .int .i64 2] 42))
  replace HS := Lib.hid (HS.out.via hB)
  replace HU := Lib.hid (HU.out.via hB)
  replace HX1 := Lib.hid (heap_below hB HX1.out)
  replace HX2 := Lib.hid (heap_below hB HX2.out)
  replace HT := Lib.hid (HT.out.via hB)
  replace HB := Lib.hid (belowStep HB.out hB)
  replace HZ := Lib.hid (Nat.le_trans HZ.out hB.size)
  clear hB
  have x0 := cell_heap HX1.out (i := 0) rfl
  have x1 := cell_heap HX1.out (i := 1) rfl
  have x2 := cell_heap HX1.out (i := 2) rfl
  have x3 := cell_heap HX1.out (i := 3) rfl
  have x4 := cell_heap HX1.out (i := 4) rfl
  have x5 := cell_heap HX1.out (i := 5) rfl
  go_wp2_with fail
  clear x0 x1 x2 x3 x4 x5
  refine (su_std _ _ HS.out).mono ?_
  rintro e w3 ⟨rfl, hB⟩
  replace HS := Lib.hid (HS.out.via hB)
  replace HU := Lib.hid (HU.out.via hB)
  replace HX1 := Lib.hid (heap_below hB HX1.out)
  replace HX2 := Lib.hid (heap_below hB HX2.out)
  replace HX3 := Lib.hid (heap_below hB HX3.out)
  replace HT := Lib.hid (HT.out.via hB)
  replace HB := Lib.hid (belowStep HB.out hB)
  replace HZ := Lib.hid (Nat.le_trans HZ.out hB.size)
  clear hB
  have hB := alloc_below w3 (.cells #[.int .i64 3, .int .i64 (-1), .int .i64 0, .int .i64 0, .int .i64 4, .int .i64 0, .int .i64 0, .int .i64 2] 42)
  have HX5 := Lib.hid (heap_alloc_new w3 (.cells #[.int .i64 3, .int .i64 (-1), .int .i64 0, .int .i64 0, .int .i64 4, .int .i64 0, .int .i64 0, .int .i64 2] 42))
  replace HS := Lib.hid (HS.out.via hB)
  replace HU := Lib.hid (HU.out.via hB)
  replace HX1 := Lib.hid (heap_below hB HX1.out)
  replace HX2 := Lib.hid (heap_below hB HX2.out)
  replace HX3 := Lib.hid (heap_below hB HX3.out)
  replace HT := Lib.hid (HT.out.via hB)
  replace HB := Lib.hid (belowStep HB.out hB)
  replace HZ := Lib.hid (Nat.le_trans HZ.out hB.size)
  clear hB
  have y0 := cell_heap HX2.out (i := 0) rfl
  have y1 := cell_heap HX2.out (i := 1) rfl
  have y2 := cell_heap HX2.out (i := 2) rfl
  have y3 := cell_heap HX2.out (i := 3) rfl
  have y4 := cell_heap HX2.out (i := 4) rfl
  have y5 := cell_heap HX2.out (i := 5) rfl
  go_wp2_with fail
  clear y0 y1 y2 y3 y4 y5
  refine (su_std2 _ _ HU.out).mono ?_
  rintro e w4 ⟨rfl, hB⟩
  replace HS := Lib.hid (HS.out.via hB)
  replace HU := Lib.hid (HU.out.via hB)
  replace HX1 := Lib.hid (heap_below hB HX1.out)
  replace HX2 := Lib.hid (heap_below hB HX2.out)
  replace HX3 := Lib.hid (heap_below hB HX3.out)
  replace HX5 := Lib.hid (heap_below hB HX5.out)
  replace HT := Lib.hid (HT.out.via hB)
  replace HB := Lib.hid (belowStep HB.out hB)
  replace HZ := Lib.hid (Nat.le_trans HZ.out hB.size)
  clear hB
  have hB := alloc_below w4 (.cells #[.int .i64 0, .int .i64 0, .int .i64 0, .int .i64 0, .int .i64 0, .int .i64 0, .int .i64 0, .int .i64 0] 42)
  replace HS := Lib.hid (HS.out.via hB)
  replace HU := Lib.hid (HU.out.via hB)
  replace HX1 := Lib.hid (heap_below hB HX1.out)
  replace HX2 := Lib.hid (heap_below hB HX2.out)
  replace HX3 := Lib.hid (heap_below hB HX3.out)
  replace HX5 := Lib.hid (heap_below hB HX5.out)
  replace HT := Lib.hid (HT.out.via hB)
  replace HB := Lib.hid (belowStep HB.out hB)
  replace HZ := Lib.hid (Nat.le_trans HZ.out hB.size)
  clear hB
  go_wp2_with fail
  refine (su_stuff _ HT.out).mono ?_
  rintro e w5 ⟨rfl, hB⟩
  replace HS := Lib.hid (HS.out.via hB)
  replace HU := Lib.hid (HU.out.via hB)
  replace HX1 := Lib.hid (heap_below hB HX1.out)
  replace HX2 := Lib.hid (heap_below hB HX2.out)
  replace HX3 := Lib.hid (heap_below hB HX3.out)
  replace HX5 := Lib.hid (heap_below hB HX5.out)
  replace HT := Lib.hid (HT.out.via hB)
  replace HB := Lib.hid (belowStep HB.out hB)
  replace HZ := Lib.hid (Nat.le_trans HZ.out hB.size)
  clear hB
  have hB := alloc_below w5 (.cells #[.int .i64 6, .int .i64 3, .int .i64 4, .int .i64 6, .int .i64 3] 57)
  have HX9 := Lib.hid (heap_alloc_new w5 (.cells #[.int .i64 6, .int .i64 3, .int .i64 4, .int .i64 6, .int .i64 3] 57))
  replace HS := Lib.hid (HS.out.via hB)
  replace HU := Lib.hid (HU.out.via hB)
  replace HX1 := Lib.hid (heap_below hB HX1.out)
  replace HX2 := Lib.hid (heap_below hB HX2.out)
  replace HX3 := Lib.hid (heap_below hB HX3.out)
  replace HX5 := Lib.hid (heap_below hB HX5.out)
  replace HT := Lib.hid (HT.out.via hB)
  replace HB := Lib.hid (belowStep HB.out hB)
  replace HZ := Lib.hid (Nat.le_trans HZ.out hB.size)
  clear hB
  go_wp2_with fail
  refine (su_stuff2 _ HT.out).mono ?_
  rintro e w6 ⟨rfl, hB⟩
  replace HS := Lib.hid (HS.out.via hB)
  replace HU := Lib.hid (HU.out.via hB)
  replace HX1 := Lib.hid (heap_below hB HX1.out)
  replace HX2 := Lib.hid (heap_below hB HX2.out)
  replace HX3 := Lib.hid (heap_below hB HX3.out)
  replace HX5 := Lib.hid (heap_below hB HX5.out)
  replace HX9 := Lib.hid (heap_below hB HX9.out)
  replace HT := Lib.hid (HT.out.via hB)
  replace HB := Lib.hid (belowStep HB.out hB)
  replace HZ := Lib.hid (Nat.le_trans HZ.out hB.size)
  clear hB
  have hB := alloc_below w6 (.cells #[.int .i64 0, .int .i64 0, .int .i64 0, .int .i64 0, .int .i64 0] 57)
  replace HS := Lib.hid (HS.out.via hB)
  replace HU := Lib.hid (HU.out.via hB)
  replace HX1 := Lib.hid (heap_below hB HX1.out)
  replace HX2 := Lib.hid (heap_below hB HX2.out)
  replace HX3 := Lib.hid (heap_below hB HX3.out)
  replace HX5 := Lib.hid (heap_below hB HX5.out)
  replace HX9 := Lib.hid (heap_below hB HX9.out)
  replace HT := Lib.hid (HT.out.via hB)
  replace HB := Lib.hid (belowStep HB.out hB)
  replace HZ := Lib.hid (Nat.le_trans HZ.out hB.size)
  clear hB
  have x0 := cell_heap HX1.out (i := 0) rfl
  have x1 := cell_heap HX1.out (i := 1) rfl
  have x2 := cell_heap HX1.out (i := 2) rfl
  have x3 := cell_heap HX1.out (i := 3) rfl
  have x4 := cell_heap HX1.out (i := 4) rfl
  have x5 := cell_heap HX1.out (i := 5) rfl
  go_wp2_with fail
  clear x0 x1 x2 x3 x4 x5
  refine (su_enc _ _ HS.out).mono ?_
  rintro e w7 ⟨rfl, hB⟩
  replace HS := Lib.hid (HS.out.via hB)
  replace HU := Lib.hid (HU.out.via hB)
  replace HX1 := Lib.hid (heap_below hB HX1.out)
  replace HX2 := Lib.hid (heap_below hB HX2.out)
  replace HX3 := Lib.hid (heap_below hB HX3.out)
  replace HX5 := Lib.hid (heap_below hB HX5.out)
  replace HX9 := Lib.hid (heap_below hB HX9.out)
  replace HT := Lib.hid (HT.out.via hB)
  replace HB := Lib.hid (belowStep HB.out hB)
  replace HZ := Lib.hid (Nat.le_trans HZ.out hB.size)
  clear hB
  go_wp2_with fail
  refine (su_dec _).mono ?_
  rintro e w8 ⟨rk, rfl, hk, hB⟩
  replace HS := Lib.hid (HS.out.via hB)
  replace HU := Lib.hid (HU.out.via hB)
  replace HX1 := Lib.hid (heap_below hB HX1.out)
  replace HX2 := Lib.hid (heap_below hB HX2.out)
  replace HX3 := Lib.hid (heap_below hB HX3.out)
  replace HX5 := Lib.hid (heap_below hB HX5.out)
  replace HX9 := Lib.hid (heap_below hB HX9.out)
  replace HT := Lib.hid (HT.out.via hB)
  replace HB := Lib.hid (belowStep HB.out hB)
  replace HZ := Lib.hid (Nat.le_trans HZ.out hB.size)
  clear hB
  have HK := Lib.hid hk
  clear hk
  obtain ⟨a3, c3, rfl⟩ : ∃ a c, rk = .slice a 4 c := by obtain ⟨⟨a, c, h, _⟩, _⟩ := HK.out.at_; exact ⟨a, c, h⟩
  unfold uv exS8
  dsimp only
  have hB := alloc_below w8 (.cells #[.int .i64 3, .int .i64 2, .int .i64 0, .slice a3 4 c3, .int .i64 0, .int .i64 2] 27)
  have HX15 := Lib.hid (heap_alloc_new w8 (.cells #[.int .i64 3, .int .i64 2, .int .i64 0, .slice a3 4 c3, .int .i64 0, .int .i64 2] 27))
  have NHX15 : Hid (w1.heap.size + 1 < w8.heap.size) := Lib.hid (by have := HZ.out; omega)
  replace HS := Lib.hid (HS.out.via hB)
  replace HU := Lib.hid (HU.out.via hB)
  replace HK := Lib.hid (HK.out.via hB)
  replace HX1 := Lib.hid (heap_below hB HX1.out)
  replace HX2 := Lib.hid (heap_below hB HX2.out)
  replace HX3 := Lib.hid (heap_below hB HX3.out)
  replace HX5 := Lib.hid (heap_below hB HX5.out)
  replace HX9 := Lib.hid (heap_below hB HX9.out)
  replace HT := Lib.hid (HT.out.via hB)
  replace HB := Lib.hid (belowStep HB.out hB)
  replace HZ := Lib.hid (Nat.le_trans HZ.out hB.size)
  clear hB
  have y0 := cell_heap HX2.out (i := 0) rfl
  have y1 := cell_heap HX2.out (i := 1) rfl
  have y2 := cell_heap HX2.out (i := 2) rfl
  have y3 := cell_heap HX2.out (i := 3) rfl
  have y4 := cell_heap HX2.out (i := 4) rfl
  have y5 := cell_heap HX2.out (i := 5) rfl
  go_wp2_with fail
  clear y0 y1 y2 y3 y4 y5
  refine (su_move _ _ HU.out).mono ?_
  rintro e w9 ⟨rm, rfl, hk, hB⟩
  replace HS := Lib.hid (HS.out.via hB)
  replace HU := Lib.hid (HU.out.via hB)
  replace HK := Lib.hid (HK.out.via hB)
  replace HX1 := Lib.hid (heap_below hB HX1.out)
  replace HX2 := Lib.hid (heap_below hB HX2.out)
  replace HX3 := Lib.hid (heap_below hB HX3.out)
  replace HX5 := Lib.hid (heap_below hB HX5.out)
  replace HX9 := Lib.hid (heap_below hB HX9.out)
  replace HX15 := Lib.hid (heap_below hB HX15.out)
  replace HT := Lib.hid (HT.out.via hB)
  replace HB := Lib.hid (belowStep HB.out hB)
  replace HZ := Lib.hid (Nat.le_trans HZ.out hB.size)
  clear hB
  have HM := Lib.hid hk
  clear hk
  obtain ⟨a4, c4, rfl⟩ : ∃ a c, rm = .slice a 4 c := by obtain ⟨⟨a, c, h, _⟩, _⟩ := HM.out.at_; exact ⟨a, c, h⟩
  unfold uv exM8
  dsimp only
  have hB := alloc_below w9 (.cells #[.int .i64 5, .int .i64 3, .int .i64 3, .slice a4 4 c4, .int .i64 1, .int .i64 4] 27)
  have HX17 := Lib.hid (heap_alloc_new w9 (.cells #[.int .i64 5, .int .i64 3, .int .i64 3, .slice a4 4 c4, .int .i64 1, .int .i64 4] 27))
  have NHX17 : Hid (w1.heap.size + 1 < w9.heap.size) := Lib.hid (by have := HZ.out; omega)
  replace HS := Lib.hid (HS.out.via hB)
  replace HU := Lib.hid (HU.out.via hB)
  replace HK := Lib.hid (HK.out.via hB)
  replace HM := Lib.hid (HM.out.via hB)
  replace HX1 := Lib.hid (heap_below hB HX1.out)
  replace HX2 := Lib.hid (heap_below hB HX2.out)
  replace HX3 := Lib.hid (heap_below hB HX3.out)
  replace HX5 := Lib.hid (heap_below hB HX5.out)
  replace HX9 := Lib.hid (heap_below hB HX9.out)
  replace HX15 := Lib.hid (heap_below hB HX15.out)
  replace HT := Lib.hid (HT.out.via hB)
  replace HB := Lib.hid (belowStep HB.out hB)
  replace HZ := Lib.hid (Nat.le_trans HZ.out hB.size)
  clear hB
  have y0 := cell_heap HX2.out (i := 0) rfl
  have y1 := cell_heap HX2.out (i := 1) rfl
  have y2 := cell_heap HX2.out (i := 2) rfl
  have y3 := cell_heap HX2.out (i := 3) rfl
  have y4 := cell_heap HX2.out (i := 4) rfl
  have y5 := cell_heap HX2.out (i := 5) rfl
  have f0 := frozen_of_row _ _ 0 _ _ HX2.out
  have f1 := frozen_of_row _ _ 1 _ _ HX2.out
  have f2 := frozen_of_row _ _ 2 _ _ HX2.out
  have f3 := frozen_of_row _ _ 3 _ _ HX2.out
  have f4 := frozen_of_row _ _ 4 _ _ HX2.out
  have f5 := frozen_of_row _ _ 5 _ _ HX2.out
  go_upto_region 11 with fail
  clear y0 f0 y1 f1 y2 f2 y3 f3 y4 f4 y5 f5
  obtain ⟨v2, hv2⟩ : ∃ v : World, v = (w9.alloc (.cells #[.int .i64 5, .int .i64 3, .int .i64 3, .slice a4 4 c4, .int .i64 1, .int .i64 4] 27)).setCell ⟨w1.heap.size + 1, 4, none⟩ (.int .i64 2) := ⟨_, rfl⟩
  rw [← hv2]
  replace HS := Lib.hid (HS.out.set (i := 4) (y := .int .i64 2) (by decide) HX2.out)
  replace HU := Lib.hid (HU.out.set (i := 4) (y := .int .i64 2) (by decide) HX2.out)
  replace HK := Lib.hid (HK.out.set (i := 4) (y := .int .i64 2) (by decide) HX2.out)
  replace HM := Lib.hid (HM.out.set (i := 4) (y := .int .i64 2) (by decide) HX2.out)
  replace HU := Lib.hid (exN_at HU.out)
  have HHX1 := HX1.out
  replace HX1 := Lib.hid ((heap_setCell_other _ ⟨w1.heap.size + 1, 4, none⟩ w1.heap.size (.int .i64 2) (by simp)).trans HX1.out)
  clear HHX1
  have HHX3 := HX3.out
  replace HX3 := Lib.hid ((heap_setCell_other _ ⟨w1.heap.size + 1, 4, none⟩ _ (.int .i64 2) (fun e => by dsimp only at e; have h := HX3.out; rw [e, HX2.out] at h; cases h)).trans HX3.out)
  clear HHX3
  have HHX5 := HX5.out
  replace HX5 := Lib.hid ((heap_setCell_other _ ⟨w1.heap.size + 1, 4, none⟩ _ (.int .i64 2) (fun e => by dsimp only at e; have h := HX5.out; rw [e, HX2.out] at h; cases h)).trans HX5.out)
  clear HHX5
  have HHX9 := HX9.out
  replace HX9 := Lib.hid ((heap_setCell_other _ ⟨w1.heap.size + 1, 4, none⟩ _ (.int .i64 2) (fun e => by dsimp only at e; have h := HX9.out; rw [e, HX2.out] at h; cases h)).trans HX9.out)
  clear HHX9
  have HHX15 := HX15.out
  replace HX15 := Lib.hid ((heap_setCell_other _ ⟨w1.heap.size + 1, 4, none⟩ _ (.int .i64 2) (by have := NHX15.out; simp; omega)).trans HX15.out)
  clear HHX15
  have HHX17 := HX17.out
  replace HX17 := Lib.hid ((heap_setCell_other _ ⟨w1.heap.size + 1, 4, none⟩ _ (.int .i64 2) (by have := NHX17.out; simp; omega)).trans HX17.out)
  clear HHX17
  have HX2 := Lib.hid (heap_setCell_same _ (w1.heap.size + 1) 4 _ _ (.int .i64 2) HX2.out)
  replace HB := Lib.hid (HB.out.setCell (p := ⟨w1.heap.size + 1, 4, none⟩) (by have := HW.out; simp; omega) (.int .i64 2))
  replace HZ : Hid (w1.heap.size + 2 ≤ v2.heap.size) := Lib.hid (by have := HZ.out; rw [hv2]; simpa using this)
  rw [← hv2] at *
  clear hv2
  replace HT := Lib.hid (HT0.out.via HB.out)
  have x0 := cell_heap HX1.out (i := 0) rfl
  have x1 := cell_heap HX1.out (i := 1) rfl
  have x2 := cell_heap HX1.out (i := 2) rfl
  have x3 := cell_heap HX1.out (i := 3) rfl
  have x4 := cell_heap HX1.out (i := 4) rfl
  have x5 := cell_heap HX1.out (i := 5) rfl
  have y0 := cell_heap HX2.out (i := 0) rfl
  have y1 := cell_heap HX2.out (i := 1) rfl
  have y2 := cell_heap HX2.out (i := 2) rfl
  have y3 := cell_heap HX2.out (i := 3) rfl
  have y4 := cell_heap HX2.out (i := 4) rfl
  have y5 := cell_heap HX2.out (i := 5) rfl
  go_wp2_with fail
  clear x0 x1 x2 x3 x4 x5
  clear y0 y1 y2 y3 y4 y5
  refine (su_touch2 _ _ _ HS.out HU.out).mono ?_
  rintro e w10 ⟨rfl, hB⟩
  replace HS := Lib.hid (HS.out.via hB)
  replace HU := Lib.hid (HU.out.via hB)
  replace HK := Lib.hid (HK.out.via hB)
  replace HM := Lib.hid (HM.out.via hB)
  replace HX1 := Lib.hid (heap_below hB HX1.out)
  replace HX2 := Lib.hid (heap_below hB HX2.out)
  replace HX3 := Lib.hid (heap_below hB HX3.out)
  replace HX5 := Lib.hid (heap_below hB HX5.out)
  replace HX9 := Lib.hid (heap_below hB HX9.out)
  replace HX15 := Lib.hid (heap_below hB HX15.out)
  replace HX17 := Lib.hid (heap_below hB HX17.out)
  replace HT := Lib.hid (HT.out.via hB)
  replace HB := Lib.hid (belowStep HB.out hB)
  replace HZ := Lib.hid (Nat.le_trans HZ.out hB.size)
  clear hB
  have hB := alloc_below w10 (.cells #[.int .i64 0, .int .i64 0, .int .i64 0, .int .i64 0, .int .i64 0, .int .i64 0, .int .i64 0, .int .i64 0] 42)
  replace HS := Lib.hid (HS.out.via hB)
  replace HU := Lib.hid (HU.out.via hB)
  replace HK := Lib.hid (HK.out.via hB)
  replace HM := Lib.hid (HM.out.via hB)
  replace HX1 := Lib.hid (heap_below hB HX1.out)
  replace HX2 := Lib.hid (heap_below hB HX2.out)
  replace HX3 := Lib.hid (heap_below hB HX3.out)
  replace HX5 := Lib.hid (heap_below hB HX5.out)
  replace HX9 := Lib.hid (heap_below hB HX9.out)
  replace HX15 := Lib.hid (heap_below hB HX15.out)
  replace HX17 := Lib.hid (heap_below hB HX17.out)
  replace HT := Lib.hid (HT.out.via hB)
  replace HB := Lib.hid (belowStep HB.out hB)
  replace HZ := Lib.hid (Nat.le_trans HZ.out hB.size)
  clear hB
  have x0 := cell_heap HX1.out (i := 0) rfl
  have x1 := cell_heap HX1.out (i := 1) rfl
  have x2 := cell_heap HX1.out (i := 2) rfl
  have x3 := cell_heap HX1.out (i := 3) rfl
  have x4 := cell_heap HX1.out (i := 4) rfl
  have x5 := cell_heap HX1.out (i := 5) rfl
  go_wp2_with fail
  clear x0 x1 x2 x3 x4 x5
  refine (su_faces _ _ HS.out).mono ?_
  rintro e w11 ⟨rl, rfl, hk, hB⟩
  replace HS := Lib.hid (HS.out.via hB)
  replace HU := Lib.hid (HU.out.via hB)
  replace HK := Lib.hid (HK.out.via hB)
  replace HM := Lib.hid (HM.out.via hB)
  replace HX1 := Lib.hid (heap_below hB HX1.out)
  replace HX2 := Lib.hid (heap_below hB HX2.out)
  replace HX3 := Lib.hid (heap_below hB HX3.out)
  replace HX5 := Lib.hid (heap_below hB HX5.out)
  replace HX9 := Lib.hid (heap_below hB HX9.out)
  replace HX15 := Lib.hid (heap_below hB HX15.out)
  replace HX17 := Lib.hid (heap_below hB HX17.out)
  replace HT := Lib.hid (HT.out.via hB)
  replace HB := Lib.hid (belowStep HB.out hB)
  replace HZ := Lib.hid (Nat.le_trans HZ.out hB.size)
  clear hB
  have HL := Lib.hid hk
  obtain ⟨g5, o5, c5, rfl, l30, l31, l50, l51⟩ : ∃ g o c, rl = .slice (some ⟨g, o, none⟩) 6 c ∧ w11.cell? ⟨g, o + 6, none⟩ = some (.int .i64 3) ∧ w11.cell? ⟨g, o + 7, none⟩ = some (.int .i64 3) ∧ w11.cell? ⟨g, o + 10, none⟩ = some (.int .i64 3) ∧ w11.cell? ⟨g, o + 11, none⟩ = some (.int .i64 (-2)) := by
    obtain ⟨⟨a, c, h, _, _, hin⟩, _⟩ := hk
    obtain ⟨g, o, rfl, h1, h2⟩ := hin.get (k := 3) (by decide)
    obtain ⟨g', o', he, h3, h4⟩ := hin.get (k := 5) (by decide)
    cases he
    exact ⟨g, o, c, h, h1, h2, h3, h4⟩
  clear hk HL
  replace l30 := Lib.hid l30
  replace l31 := Lib.hid l31
  replace l50 := Lib.hid l50
  replace l51 := Lib.hid l51
  have x0 := cell_heap HX1.out (i := 0) rfl
  have x1 := cell_heap HX1.out (i := 1) rfl
  have x2 := cell_heap HX1.out (i := 2) rfl
  have x3 := cell_heap HX1.out (i := 3) rfl
  have x4 := cell_heap HX1.out (i := 4) rfl
  have x5 := cell_heap HX1.out (i := 5) rfl
  have z0 := cell_heap HX15.out (i := 0) rfl
  have z1 := cell_heap HX15.out (i := 1) rfl
  have z2 := cell_heap HX15.out (i := 2) rfl
  have z3 := cell_heap HX15.out (i := 3) rfl
  have z4 := cell_heap HX15.out (i := 4) rfl
  have z5 := cell_heap HX15.out (i := 5) rfl
  go_wp2_with fail
  clear x0 x1 x2 x3 x4 x5
  clear z0 z1 z2 z3 z4 z5
  refine (su_same _ _ _ HK.out HS.out).mono ?_
  rintro e w12 ⟨rfl, hB⟩
  replace l30 := Lib.hid (keptBelow hB l30.out)
  replace l31 := Lib.hid (keptBelow hB l31.out)
  replace l50 := Lib.hid (keptBelow hB l50.out)
  replace l51 := Lib.hid (keptBelow hB l51.out)
  replace HS := Lib.hid (HS.out.via hB)
  replace HU := Lib.hid (HU.out.via hB)
  replace HK := Lib.hid (HK.out.via hB)
  replace HM := Lib.hid (HM.out.via hB)
  replace HX1 := Lib.hid (heap_below hB HX1.out)
  replace HX2 := Lib.hid (heap_below hB HX2.out)
  replace HX3 := Lib.hid (heap_below hB HX3.out)
  replace HX5 := Lib.hid (heap_below hB HX5.out)
  replace HX9 := Lib.hid (heap_below hB HX9.out)
  replace HX15 := Lib.hid (heap_below hB HX15.out)
  replace HX17 := Lib.hid (heap_below hB HX17.out)
  replace HT := Lib.hid (HT.out.via hB)
  replace HB := Lib.hid (belowStep HB.out hB)
  replace HZ := Lib.hid (Nat.le_trans HZ.out hB.size)
  clear hB
  have x0 := cell_heap HX1.out (i := 0) rfl
  have x1 := cell_heap HX1.out (i := 1) rfl
  have x2 := cell_heap HX1.out (i := 2) rfl
  have x3 := cell_heap HX1.out (i := 3) rfl
  have x4 := cell_heap HX1.out (i := 4) rfl
  have x5 := cell_heap HX1.out (i := 5) rfl
  have c0 := cell_heap HX3.out (i := 0) rfl
  have c1 := cell_heap HX3.out (i := 1) rfl
  have c2 := cell_heap HX3.out (i := 2) rfl
  have c3 := cell_heap HX3.out (i := 3) rfl
  have c4 := cell_heap HX3.out (i := 4) rfl
  have c5 := cell_heap HX3.out (i := 5) rfl
  have c6 := cell_heap HX3.out (i := 6) rfl
  have c7 := cell_heap HX3.out (i := 7) rfl
  have d0 := cell_heap HX5.out (i := 0) rfl
  have d1 := cell_heap HX5.out (i := 1) rfl
  have d2 := cell_heap HX5.out (i := 2) rfl
  have d3 := cell_heap HX5.out (i := 3) rfl
  have d4 := cell_heap HX5.out (i := 4) rfl
  have d5 := cell_heap HX5.out (i := 5) rfl
  have d6 := cell_heap HX5.out (i := 6) rfl
  have d7 := cell_heap HX5.out (i := 7) rfl
  go_wp2_with fail
  clear x0 x1 x2 x3 x4 x5
  clear c0 c1 c2 c3 c4 c5 c6 c7
  clear d0 d1 d2 d3 d4 d5 d6 d7
  refine (su_vol _ _ HS.out).mono ?_
  rintro e w13 ⟨rfl, hB⟩
  replace l30 := Lib.hid (keptBelow hB l30.out)
  replace l31 := Lib.hid (keptBelow hB l31.out)
  replace l50 := Lib.hid (keptBelow hB l50.out)
  replace l51 := Lib.hid (keptBelow hB l51.out)
  replace HS := Lib.hid (HS.out.via hB)
  replace HU := Lib.hid (HU.out.via hB)
  replace HK := Lib.hid (HK.out.via hB)
  replace HM := Lib.hid (HM.out.via hB)
  replace HX1 := Lib.hid (heap_below hB HX1.out)
  replace HX2 := Lib.hid (heap_below hB HX2.out)
  replace HX3 := Lib.hid (heap_below hB HX3.out)
  replace HX5 := Lib.hid (heap_below hB HX5.out)
  replace HX9 := Lib.hid (heap_below hB HX9.out)
  replace HX15 := Lib.hid (heap_below hB HX15.out)
  replace HX17 := Lib.hid (heap_below hB HX17.out)
  replace HT := Lib.hid (HT.out.via hB)
  replace HB := Lib.hid (belowStep HB.out hB)
  replace HZ := Lib.hid (Nat.le_trans HZ.out hB.size)
  clear hB
  have x0 := cell_heap HX1.out (i := 0) rfl
  have x1 := cell_heap HX1.out (i := 1) rfl
  have x2 := cell_heap HX1.out (i := 2) rfl
  have x3 := cell_heap HX1.out (i := 3) rfl
  have x4 := cell_heap HX1.out (i := 4) rfl
  have x5 := cell_heap HX1.out (i := 5) rfl
  go_wp2_with fail
  clear x0 x1 x2 x3 x4 x5
  refine (su_wt _ _ HS.out HT.out).mono ?_
  rintro e w14 ⟨rfl, hB⟩
  replace l30 := Lib.hid (keptBelow hB l30.out)
  replace l31 := Lib.hid (keptBelow hB l31.out)
  replace l50 := Lib.hid (keptBelow hB l50.out)
  replace l51 := Lib.hid (keptBelow hB l51.out)
  replace HS := Lib.hid (HS.out.via hB)
  replace HU := Lib.hid (HU.out.via hB)
  replace HK := Lib.hid (HK.out.via hB)
  replace HM := Lib.hid (HM.out.via hB)
  replace HX1 := Lib.hid (heap_below hB HX1.out)
  replace HX2 := Lib.hid (heap_below hB HX2.out)
  replace HX3 := Lib.hid (heap_below hB HX3.out)
  replace HX5 := Lib.hid (heap_below hB HX5.out)
  replace HX9 := Lib.hid (heap_below hB HX9.out)
  replace HX15 := Lib.hid (heap_below hB HX15.out)
  replace HX17 := Lib.hid (heap_below hB HX17.out)
  replace HT := Lib.hid (HT.out.via hB)
  replace HB := Lib.hid (belowStep HB.out hB)
  replace HZ := Lib.hid (Nat.le_trans HZ.out hB.size)
  clear hB
  have x0 := cell_heap HX1.out (i := 0) rfl
  have x1 := cell_heap HX1.out (i := 1) rfl
  have x2 := cell_heap HX1.out (i := 2) rfl
  have x3 := cell_heap HX1.out (i := 3) rfl
  have x4 := cell_heap HX1.out (i := 4) rfl
  have x5 := cell_heap HX1.out (i := 5) rfl
  go_wp2_with fail
  clear x0 x1 x2 x3 x4 x5
  refine (su_mom _ _ HS.out HT.out).mono ?_
  rintro e w15 ⟨rfl, hB⟩
  replace l30 := Lib.hid (keptBelow hB l30.out)
  replace l31 := Lib.hid (keptBelow hB l31.out)
  replace l50 := Lib.hid (keptBelow hB l50.out)
  replace l51 := Lib.hid (keptBelow hB l51.out)
  replace HS := Lib.hid (HS.out.via hB)
  replace HU := Lib.hid (HU.out.via hB)
  replace HK := Lib.hid (HK.out.via hB)
  replace HM := Lib.hid (HM.out.via hB)
  replace HX1 := Lib.hid (heap_below hB HX1.out)
  replace HX2 := Lib.hid (heap_below hB HX2.out)
  replace HX3 := Lib.hid (heap_below hB HX3.out)
  replace HX5 := Lib.hid (heap_below hB HX5.out)
  replace HX9 := Lib.hid (heap_below hB HX9.out)
  replace HX15 := Lib.hid (heap_below hB HX15.out)
  replace HX17 := Lib.hid (heap_below hB HX17.out)
  replace HT := Lib.hid (HT.out.via hB)
  replace HB := Lib.hid (belowStep HB.out hB)
  replace HZ := Lib.hid (Nat.le_trans HZ.out hB.size)
  clear hB
  have l30 := l30.out
  have l31 := l31.out
  have l50 := l50.out
  have l51 := l51.out
  have x0 := cell_heap HX1.out (i := 0) rfl
  have x1 := cell_heap HX1.out (i := 1) rfl
  have x2 := cell_heap HX1.out (i := 2) rfl
  have x3 := cell_heap HX1.out (i := 3) rfl
  have x4 := cell_heap HX1.out (i := 4) rfl
  have x5 := cell_heap HX1.out (i := 5) rfl
  have z0 := cell_heap HX17.out (i := 0) rfl
  have z1 := cell_heap HX17.out (i := 1) rfl
  have z2 := cell_heap HX17.out (i := 2) rfl
  have z3 := cell_heap HX17.out (i := 3) rfl
  have z4 := cell_heap HX17.out (i := 4) rfl
  have z5 := cell_heap HX17.out (i := 5) rfl
  have d0 := cell_heap HX9.out (i := 0) rfl
  have d1 := cell_heap HX9.out (i := 1) rfl
  have d2 := cell_heap HX9.out (i := 2) rfl
  have d3 := cell_heap HX9.out (i := 3) rfl
  have d4 := cell_heap HX9.out (i := 4) rfl
  go_wp2_with fail
  clear x0 x1 x2 x3 x4 x5
  clear z0 z1 z2 z3 z4 z5
  clear d0 d1 d2 d3 d4
  refine (su_over _ _ _ HS.out HM.out).mono ?_
  rintro e w16 ⟨rfl, hB⟩
  have l30 := Lib.hid l30
  have l31 := Lib.hid l31
  have l50 := Lib.hid l50
  have l51 := Lib.hid l51
  replace l30 := Lib.hid (keptBelow hB l30.out)
  replace l31 := Lib.hid (keptBelow hB l31.out)
  replace l50 := Lib.hid (keptBelow hB l50.out)
  replace l51 := Lib.hid (keptBelow hB l51.out)
  replace HS := Lib.hid (HS.out.via hB)
  replace HU := Lib.hid (HU.out.via hB)
  replace HK := Lib.hid (HK.out.via hB)
  replace HM := Lib.hid (HM.out.via hB)
  replace HX1 := Lib.hid (heap_below hB HX1.out)
  replace HX2 := Lib.hid (heap_below hB HX2.out)
  replace HX3 := Lib.hid (heap_below hB HX3.out)
  replace HX5 := Lib.hid (heap_below hB HX5.out)
  replace HX9 := Lib.hid (heap_below hB HX9.out)
  replace HX15 := Lib.hid (heap_below hB HX15.out)
  replace HX17 := Lib.hid (heap_below hB HX17.out)
  replace HT := Lib.hid (HT.out.via hB)
  replace HB := Lib.hid (belowStep HB.out hB)
  replace HZ := Lib.hid (Nat.le_trans HZ.out hB.size)
  clear hB
  have x0 := cell_heap HX1.out (i := 0) rfl
  have x1 := cell_heap HX1.out (i := 1) rfl
  have x2 := cell_heap HX1.out (i := 2) rfl
  have x3 := cell_heap HX1.out (i := 3) rfl
  have x4 := cell_heap HX1.out (i := 4) rfl
  have x5 := cell_heap HX1.out (i := 5) rfl
  have y0 := cell_heap HX2.out (i := 0) rfl
  have y1 := cell_heap HX2.out (i := 1) rfl
  have y2 := cell_heap HX2.out (i := 2) rfl
  have y3 := cell_heap HX2.out (i := 3) rfl
  have y4 := cell_heap HX2.out (i := 4) rfl
  have y5 := cell_heap HX2.out (i := 5) rfl
  go_wp2_with fail
  clear x0 x1 x2 x3 x4 x5
  clear y0 y1 y2 y3 y4 y5
  refine (su_over2 _ _ _ HS.out HU.out).mono ?_
  rintro e w17 ⟨rfl, hB⟩
  replace l30 := Lib.hid (keptBelow hB l30.out)
  replace l31 := Lib.hid (keptBelow hB l31.out)
  replace l50 := Lib.hid (keptBelow hB l50.out)
  replace l51 := Lib.hid (keptBelow hB l51.out)
  replace HS := Lib.hid (HS.out.via hB)
  replace HU := Lib.hid (HU.out.via hB)
  replace HK := Lib.hid (HK.out.via hB)
  replace HM := Lib.hid (HM.out.via hB)
  replace HX1 := Lib.hid (heap_below hB HX1.out)
  replace HX2 := Lib.hid (heap_below hB HX2.out)
  replace HX3 := Lib.hid (heap_below hB HX3.out)
  replace HX5 := Lib.hid (heap_below hB HX5.out)
  replace HX9 := Lib.hid (heap_below hB HX9.out)
  replace HX15 := Lib.hid (heap_below hB HX15.out)
  replace HX17 := Lib.hid (heap_below hB HX17.out)
  replace HT := Lib.hid (HT.out.via hB)
  replace HB := Lib.hid (belowStep HB.out hB)
  replace HZ := Lib.hid (Nat.le_trans HZ.out hB.size)
  clear hB
  have x0 := cell_heap HX1.out (i := 0) rfl
  have x1 := cell_heap HX1.out (i := 1) rfl
  have x2 := cell_heap HX1.out (i := 2) rfl
  have x3 := cell_heap HX1.out (i := 3) rfl
  have x4 := cell_heap HX1.out (i := 4) rfl
  have x5 := cell_heap HX1.out (i := 5) rfl
  go_wp2_with fail
  clear x0 x1 x2 x3 x4 x5
  refine (su_valid _ _ HS.out).mono ?_
  rintro e w18 ⟨rfl, hB⟩
  replace l30 := Lib.hid (keptBelow hB l30.out)
  replace l31 := Lib.hid (keptBelow hB l31.out)
  replace l50 := Lib.hid (keptBelow hB l50.out)
  replace l51 := Lib.hid (keptBelow hB l51.out)
  replace HS := Lib.hid (HS.out.via hB)
  replace HU := Lib.hid (HU.out.via hB)
  replace HK := Lib.hid (HK.out.via hB)
  replace HM := Lib.hid (HM.out.via hB)
  replace HX1 := Lib.hid (heap_below hB HX1.out)
  replace HX2 := Lib.hid (heap_below hB HX2.out)
  replace HX3 := Lib.hid (heap_below hB HX3.out)
  replace HX5 := Lib.hid (heap_below hB HX5.out)
  replace HX9 := Lib.hid (heap_below hB HX9.out)
  replace HX15 := Lib.hid (heap_below hB HX15.out)
  replace HX17 := Lib.hid (heap_below hB HX17.out)
  replace HT := Lib.hid (HT.out.via hB)
  replace HB := Lib.hid (belowStep HB.out hB)
  replace HZ := Lib.hid (Nat.le_trans HZ.out hB.size)
  clear hB
  go_wp2_with fail
  refine (su_valid2 _).mono ?_
  rintro e w19 ⟨rfl, hB⟩
  replace l30 := Lib.hid (keptBelow hB l30.out)
  replace l31 := Lib.hid (keptBelow hB l31.out)
  replace l50 := Lib.hid (keptBelow hB l50.out)
  replace l51 := Lib.hid (keptBelow hB l51.out)
  replace HS := Lib.hid (HS.out.via hB)
  replace HU := Lib.hid (HU.out.via hB)
  replace HK := Lib.hid (HK.out.via hB)
  replace HM := Lib.hid (HM.out.via hB)
  replace HX1 := Lib.hid (heap_below hB HX1.out)
  replace HX2 := Lib.hid (heap_below hB HX2.out)
  replace HX3 := Lib.hid (heap_below hB HX3.out)
  replace HX5 := Lib.hid (heap_below hB HX5.out)
  replace HX9 := Lib.hid (heap_below hB HX9.out)
  replace HX15 := Lib.hid (heap_below hB HX15.out)
  replace HX17 := Lib.hid (heap_below hB HX17.out)
  replace HT := Lib.hid (HT.out.via hB)
  replace HB := Lib.hid (belowStep HB.out hB)
  replace HZ := Lib.hid (Nat.le_trans HZ.out hB.size)
  clear hB
  go_wp2_with fail
  go_ret
  exact ⟨rfl, HB.out⟩
end Go.Proofs.YtcamncipkofgkaaDoor
/- PlnShfP: Plain mathematics of layer 7: a polygon that is moved. Nothing of the program. -/
namespace Pln

def mv (dx dy : Int) (p : Pt) : Pt := (p.1 + dx, p.2 + dy)
theorem shf_eq (l : List Pt) (dx dy : Int) : shf l dx dy = l.map (mv dx dy) := rfl
theorem shf_len (l : List Pt) (dx dy : Int) : (shf l dx dy).length = l.length := by unfold shf; simp
theorem shf_vx {l : List Pt} {dx dy : Int} {i : Nat} (h : i < l.length) : vx (shf l dx dy) i = mv dx dy (vx l i) := by
  rw [vx_eq (by rw [shf_len]; exact h), vx_eq h]; unfold shf mv; simp
theorem shf_nx {l : List Pt} {dx dy : Int} {i : Nat} (h : i < l.length) : nx (shf l dx dy) i = mv dx dy (nx l i) := by
  unfold nx; rw [shf_len, shf_vx (mod_lt' h)]
theorem mv_turn (dx dy : Int) (a b c : Pt) : turn (mv dx dy a) (mv dx dy b) (mv dx dy c) = turn a b c := by unfold turn mv; grind
theorem sum_shf (l : List Pt) (dx dy : Int) (F : Pt → Pt → Int) : sumE (shf l dx dy) F l.length = sumE l (fun a b => F (mv dx dy a) (mv dx dy b)) l.length :=
  sm_congr fun i hi => by rw [shf_vx hi, shf_nx hi]
theorem sumE_add (l : List Pt) (F G : Pt → Pt → Int) (n : Nat) : sumE l (fun a b => F a b + G a b) n = sumE l F n + sumE l G n := sm_add _ _ n
theorem sumE_mul (l : List Pt) (c : Int) (F : Pt → Pt → Int) (n : Nat) : sumE l (fun a b => c * F a b) n = c * sumE l F n := sm_mul c _ n
theorem sumE_congr {l : List Pt} {F G : Pt → Pt → Int} (h : ∀ a b, F a b = G a b) (n : Nat) : sumE l F n = sumE l G n := sm_congr fun _ _ => h _ _
/-- The area stays. -/
theorem area_shf (l : List Pt) (dx dy : Int) : sumE (shf l dx dy) crs l.length = sumE l crs l.length := by
  rw [sum_shf]
  have e : ∀ a b, crs (mv dx dy a) (mv dx dy b) = crs a b + ((dx * b.2 - dy * b.1) - (dx * a.2 - dy * a.1)) := fun a b => by unfold crs mv; grind
  rw [sumE_congr e, sumE_add, sumE_tele l (fun p => dx * p.2 - dy * p.1), Int.add_zero]
/-- The moments change by three times the distance times the area. -/
theorem mx_shf (l : List Pt) (dx dy : Int) : sumE (shf l dx dy) (fun a b => (a.1 + b.1) * crs a b) l.length = sumE l (fun a b => (a.1 + b.1) * crs a b) l.length + 3 * dx * sumE l crs l.length := by
  rw [sum_shf]
  have e : ∀ a b : Pt, ((mv dx dy a).1 + (mv dx dy b).1) * crs (mv dx dy a) (mv dx dy b) = ((a.1 + b.1) * crs a b + (3 * dx) * crs a b) +
      ((dx * (b.1 * b.2) - dy * (b.1 * b.1) + 2 * dx * (dx * b.2 - dy * b.1)) - (dx * (a.1 * a.2) - dy * (a.1 * a.1) + 2 * dx * (dx * a.2 - dy * a.1))) := fun a b => by unfold crs mv; grind
  rw [sumE_congr e, sumE_add, sumE_add, sumE_mul, sumE_tele l (fun p => dx * (p.1 * p.2) - dy * (p.1 * p.1) + 2 * dx * (dx * p.2 - dy * p.1)), Int.add_zero]
theorem my_shf (l : List Pt) (dx dy : Int) : sumE (shf l dx dy) (fun a b => (a.2 + b.2) * crs a b) l.length = sumE l (fun a b => (a.2 + b.2) * crs a b) l.length + 3 * dy * sumE l crs l.length := by
  rw [sum_shf]
  have e : ∀ a b : Pt, ((mv dx dy a).2 + (mv dx dy b).2) * crs (mv dx dy a) (mv dx dy b) = ((a.2 + b.2) * crs a b + (3 * dy) * crs a b) +
      ((dx * (b.2 * b.2) - dy * (b.1 * b.2) + 2 * dy * (dx * b.2 - dy * b.1)) - (dx * (a.2 * a.2) - dy * (a.1 * a.2) + 2 * dy * (dx * a.2 - dy * a.1))) := fun a b => by unfold crs mv; grind
  rw [sumE_congr e, sumE_add, sumE_add, sumE_mul, sumE_tele l (fun p => dx * (p.2 * p.2) - dy * (p.1 * p.2) + 2 * dy * (dx * p.2 - dy * p.1)), Int.add_zero]
theorem stp_shf (l : List Pt) (dx dy : Int) : sumE (shf l dx dy) stp l.length = sumE l stp l.length := by
  rw [sum_shf]
  refine sumE_congr (fun a b => ?_) _
  unfold stp mv
  rw [show b.1 + dx - (a.1 + dx) = b.1 - a.1 by omega, show b.2 + dy - (a.2 + dy) = b.2 - a.2 by omega]
theorem val_shf {l : List Pt} {dx dy : Int} (v : Val l) (h : ∀ p ∈ shf l dx dy, On p) : Val (shf l dx dy) := by
  have e := shf_len l dx dy
  refine ⟨by rw [e]; exact v.lo, by rw [e]; exact v.hi, fun i hi => h _ (vx_mem hi), fun i hi j hj h1 h2 => ?_⟩
  rw [e] at hi hj h2
  rw [shf_vx hi, shf_nx hi, shf_vx hj, mv_turn]
  exact v.left i hi j hj h1 h2
theorem sepB_shf (a b : List Pt) (dx dy : Int) {i : Nat} (hi : i < a.length) : sepB (shf a dx dy) (shf b dx dy) i = sepB a b i := by
  unfold sepB
  rw [shf_vx hi, shf_nx hi, shf_eq b, List.all_map]
  congr 1
  funext c
  simp only [Function.comp, mv_turn]
theorem sepF_congr {l o l' o' : List Pt} : ∀ {n k : Nat}, (∀ j, k ≤ j → j < k + n → sepB l o j = sepB l' o' j) → sepF l o n k = sepF l' o' n k
  | 0, _, _ => rfl
  | n + 1, k, h => by
    rw [sepF, sepF, h k (Nat.le_refl _) (by omega), sepF_congr (n := n) (k := k + 1) fun j h1 h2 => h j (by omega) (by omega)]
theorem sep_shf (a b : List Pt) (dx dy : Int) : sep (shf a dx dy) (shf b dx dy) = sep a b := by
  unfold sep
  rw [shf_len]
  exact sepF_congr fun j _ h => sepB_shf a b dx dy (by omega)
theorem side_shf {a b : List Pt} {dx dy : Int} (va : Val a) (vb : Val b) (va' : Val (shf a dx dy)) (vb' : Val (shf b dx dy)) : sideP (shf a dx dy) (shf b dx dy) = sideP a b := by
  unfold sideP
  rw [if_pos ⟨(valB_iff _).2 va', (valB_iff _).2 vb'⟩, if_pos ⟨(valB_iff _).2 va, (valB_iff _).2 vb⟩, sep_shf, sep_shf]
theorem over_shf {a b : List Pt} {dx dy : Int} (va : Val a) (vb : Val b) (va' : Val (shf a dx dy)) (vb' : Val (shf b dx dy)) : overP (shf a dx dy) (shf b dx dy) = overP a b := by
  unfold overP
  rw [side_shf va vb va' vb', (valB_iff _).2 va, (valB_iff _).2 vb, (valB_iff _).2 va', (valB_iff _).2 vb']
theorem lst_shf (l : List Pt) (dx dy : Int) (p : Pt) : ∀ {k : Nat}, k ≤ l.length → lst (shf l dx dy) (mv dx dy p) k = lst l p k
  | 0, _ => rfl
  | k + 1, h => by rw [lst, lst, lst_shf l dx dy p (by omega), shf_vx (by omega), shf_nx (by omega), mv_turn]
theorem pos_shf (l : List Pt) (dx dy : Int) (p : Pt) : posP (shf l dx dy) (mv dx dy p) = posP l p := by
  unfold posP; rw [shf_len, lst_shf l dx dy p (Nat.le_refl _)]
theorem com_shf (a b : List Pt) (dx dy : Int) : comP (shf a dx dy) (shf b dx dy) = (comP a b).map (mv dx dy) := by
  unfold comP
  rw [shf_eq a, shf_eq b, ← List.map_append, List.filter_map]
  congr 1
  apply List.filter_congr
  intro c _
  simp only [Function.comp, ← shf_eq, pos_shf]
theorem mv_inj {dx dy : Int} {p q : Pt} : mv dx dy p = mv dx dy q ↔ p = q := by
  obtain ⟨a, b⟩ := p; obtain ⟨c, d⟩ := q
  unfold mv; simp only [Prod.mk.injEq]; omega
theorem dir_shf (s e : Pt) (l : List Pt) (dx dy : Int) : dirP (mv dx dy s) (mv dx dy e) (shf l dx dy) = (mv dx dy (dirP s e l).1, mv dx dy (dirP s e l).2) := by
  unfold dirP
  rw [shf_eq, List.any_map]
  have : ((fun c => decide (0 < turn (mv dx dy s) (mv dx dy e) c)) ∘ mv dx dy) = fun c => decide (0 < turn s e c) := by
    funext c; simp only [Function.comp, mv_turn]
  rw [this]
  split <;> rfl
/-- The seam is moved along. -/
theorem seam_shf {a b : List Pt} {dx dy : Int} (va : Val a) (vb : Val b) (va' : Val (shf a dx dy)) (vb' : Val (shf b dx dy)) : seamP (shf a dx dy) (shf b dx dy) = (seamP a b).map fun s => (mv dx dy s.1, mv dx dy s.2) := by
  unfold seamP
  rw [side_shf va vb va' vb', com_shf]
  split
  · rcases comP a b with _ | ⟨f, r⟩
    · rfl
    · simp only [List.map_cons]
      rw [← List.map_cons, List.find?_map]
      have : ((fun c => decide (mv dx dy f ≠ c)) ∘ mv dx dy) = fun c => decide (f ≠ c) := by
        funext c
        simp only [Function.comp]
        by_cases e : f = c
        · simp [e]
        · have : mv dx dy f ≠ mv dx dy c := fun h => e (mv_inj.1 h)
          simp [e, this]
      rw [this]
      rcases (f :: r).find? fun c => decide (f ≠ c) with _ | c
      · rfl
      · simp only [Option.map_some]
        rw [dir_shf]
  · rfl
theorem shf_back (l : List Pt) (dx dy : Int) : shf (shf l dx dy) (-dx) (-dy) = l := by
  rw [shf_eq, shf_eq, List.map_map]
  have : mv (-dx) (-dy) ∘ mv dx dy = id := by
    funext p; unfold mv; simp only [Function.comp, id]
    exact Prod.ext (by dsimp only; omega) (by dsimp only; omega)
  rw [this, List.map_id]
/-- Off the map, one corner after the other. -/
def offB (l : List Pt) (dx dy : Int) : Nat → Bool
  | 0 => false
  | k + 1 => offB l dx dy k || !onB (mv dx dy (vx l k))
theorem offB_iff (l : List Pt) (dx dy : Int) : ∀ k, offB l dx dy k = false ↔ ∀ i, i < k → onB (mv dx dy (vx l i)) = true
  | 0 => ⟨fun _ i hi => by omega, fun _ => rfl⟩
  | k + 1 => by
    rw [offB, Bool.or_eq_false_iff, offB_iff l dx dy k]
    refine ⟨fun ⟨h1, h2⟩ i hi => ?_, fun h => ⟨fun i hi => h i (by omega), by rw [h k (by omega)]; rfl⟩⟩
    by_cases e : i = k
    · rw [e]; simpa using h2
    · exact h1 i (by omega)
theorem all_shf (l : List Pt) (dx dy : Int) : (shf l dx dy).all onB = !offB l dx dy l.length := by
  rcases e : offB l dx dy l.length with _ | _
  · rw [offB_iff] at e
    rw [List.all_eq_true.2]
    · rfl
    · intro p hp
      obtain ⟨i, hi, rfl⟩ := mem_vx hp
      rw [shf_len] at hi
      rw [shf_vx hi]; exact e i hi
  · rcases e2 : (shf l dx dy).all onB with _ | _
    · rfl
    · have : offB l dx dy l.length = false := (offB_iff l dx dy l.length).2 fun i hi => by
        rw [← shf_vx hi]; exact List.all_eq_true.1 e2 _ (vx_mem (by rw [shf_len]; exact hi))
      rw [this] at e; cases e
theorem move_eq {l : List Pt} (v : Val l) (dx dy : Int) : moveP l dx dy = if offB l dx dy l.length = true then none else some (shf l dx dy) := by
  unfold moveP
  rw [if_pos ((valB_iff l).2 v), all_shf]
  rcases offB l dx dy l.length with _ | _ <;> rfl
end Pln
/- PlnCutsP: Plain mathematics of layer 7: what the parts of a cut are (areas, moments, overlap, seam, interiors). Nothing of the program. -/
namespace Pln

theorem sm_rot (f : Nat → Int) (n k : Nat) (h : k ≤ n) : sm (fun i => f ((i + k) % n)) n = sm f n := by
  rcases Nat.eq_zero_or_pos n with rfl | hn
  · rfl
  · obtain ⟨m, rfl⟩ : ∃ m, n = m + k := ⟨n - k, by omega⟩
    rw [sm_split]
    have e1 : sm (fun i => f ((i + k) % (m + k))) m = sm (fun i => f (k + i)) m := sm_congr fun i hi => by rw [Nat.mod_eq_of_lt (by omega), Nat.add_comm]
    have e2 : sm (fun i => f ((m + i + k) % (m + k))) k = sm f k := sm_congr fun i hi => by
      rw [show m + i + k = i + (m + k) by omega, Nat.add_mod_right, Nat.mod_eq_of_lt (by omega)]
    rw [e1, e2, Nat.add_comm m k, sm_split]; omega
theorem sum_rot (l : List Pt) {k : Nat} (h : k ≤ l.length) (F : Pt → Pt → Int) : sumE (rot l k) F l.length = sumE l F l.length := by
  unfold sumE
  rw [← sm_rot (fun i => F (vx l i) (nx l i)) l.length k h]
  exact sm_congr fun i hi => by rw [rot_vx h hi, rot_nx h hi]
/-- The one part: from the first corner to the corner d. -/
def fpt (r : List Pt) (d : Nat) : List Pt := r.take (d + 1)
def spt (r : List Pt) (d : Nat) : List Pt := r.drop d ++ [vx r 0]
theorem fpt_len {r : List Pt} {d : Nat} (h : d < r.length) : (fpt r d).length = d + 1 := by unfold fpt; rw [List.length_take]; omega
theorem spt_len {r : List Pt} {d : Nat} (h : d < r.length) : (spt r d).length = r.length - d + 1 := by unfold spt; simp
theorem fpt_vx {r : List Pt} {d j : Nat} (h : j ≤ d) : vx (fpt r d) j = vx r j := take_vx (by omega)
theorem spt_vx {r : List Pt} {d j : Nat} (h : d < r.length) (hj : j ≤ r.length - d) : vx (spt r d) j = vx r ((d + j) % r.length) := by
  unfold spt
  by_cases e : j = r.length - d
  · subst e
    rw [show d + (r.length - d) = r.length by omega, Nat.mod_self]
    have := vx_app_r (a := r.drop d) (b := [vx r 0]) 0
    rw [List.length_drop, Nat.add_zero] at this
    rw [this]; rfl
  · rw [vx_app_l (by rw [List.length_drop]; omega), Nat.mod_eq_of_lt (by omega)]
    unfold vx; rw [List.getD_eq_getElem?_getD, List.getD_eq_getElem?_getD, List.getElem?_drop]
theorem fpt_nx {r : List Pt} {d j : Nat} (h : d < r.length) (hj : j < d) : nx (fpt r d) j = vx r (j + 1) := by
  rw [nx_in (by rw [fpt_len h]; omega), fpt_vx (by omega)]
theorem fpt_nx_last {r : List Pt} {d : Nat} (h : d < r.length) : nx (fpt r d) d = vx r 0 := by
  rw [nx_last (by rw [fpt_len h]), fpt_vx (by omega)]
theorem spt_nx {r : List Pt} {d j : Nat} (h : d < r.length) (hj : j < r.length - d) : nx (spt r d) j = nx r (d + j) := by
  rw [nx_in (by rw [spt_len h]; omega), spt_vx h (by omega)]; unfold nx; rw [show d + (j + 1) = d + j + 1 by omega]
theorem spt_nx_last {r : List Pt} {d : Nat} (h : d < r.length) : nx (spt r d) (r.length - d) = vx r d := by
  rw [nx_last (by rw [spt_len h]), spt_vx h (by omega), Nat.add_zero, Nat.mod_eq_of_lt h]
/-- What goes back is taken off. -/
theorem sum_parts {r : List Pt} {d : Nat} (h : d < r.length) {F : Pt → Pt → Int} (hF : ∀ a b, F a b + F b a = 0) :
    sumE (fpt r d) F (d + 1) + sumE (spt r d) F (r.length - d + 1) = sumE r F r.length := by
  have e1 : sumE (fpt r d) F (d + 1) = sm (fun i => F (vx r i) (nx r i)) d + F (vx r d) (vx r 0) := by
    rw [sumE_succ, fpt_nx_last h, fpt_vx (Nat.le_refl d)]
    congr 1
    exact sm_congr fun i hi => by rw [fpt_vx (by omega), fpt_nx h hi, nx_in (by omega)]
  have e2 : sumE (spt r d) F (r.length - d + 1) = sm (fun i => F (vx r (d + i)) (nx r (d + i))) (r.length - d) + F (vx r 0) (vx r d) := by
    rw [sumE_succ, spt_nx_last h, spt_vx h (Nat.le_refl _), show d + (r.length - d) = r.length by omega, Nat.mod_self]
    congr 1
    exact sm_congr fun i hi => by rw [spt_vx h (by omega), spt_nx h hi, Nat.mod_eq_of_lt (by omega)]
  have e3 : sumE r F r.length = sm (fun i => F (vx r i) (nx r i)) d + sm (fun i => F (vx r (d + i)) (nx r (d + i))) (r.length - d) := by
    unfold sumE
    have := sm_split (fun i => F (vx r i) (nx r i)) d (r.length - d)
    rw [show d + (r.length - d) = r.length by omega] at this
    exact this
  have := hF (vx r d) (vx r 0)
  rw [e1, e2, e3]; omega
theorem run_fpt {l : List Pt} {i k : Nat} (hi : i < l.length) (hk : k < l.length) : ∃ d, d < l.length ∧ (i + d) % l.length = k ∧ runP l i k = fpt (rot l i) d ∧ (0 < d → runP l k i = spt (rot l i) d) := by
  have hd : (l.drop i).length = l.length - i := List.length_drop
  have hd2 : (l.drop k).length = l.length - k := List.length_drop
  have h0 : vx (rot l i) 0 = vx l i := by rw [rot_vx (by omega) (by omega), Nat.zero_add, Nat.mod_eq_of_lt hi]
  have ht : l.take (i + 1) = l.take i ++ [vx l i] := by rw [List.take_add_one, vx_eq hi, List.getElem?_eq_getElem hi]; rfl
  unfold fpt spt
  rw [h0]
  unfold runP rot
  by_cases h : i ≤ k
  · refine ⟨k - i, by omega, by rw [show i + (k - i) = k by omega, Nat.mod_eq_of_lt hk], ?_, fun hp => ?_⟩
    · rw [if_pos h, List.take_append_of_le_length (by rw [hd]; omega), List.drop_take, show k + 1 - i = k - i + 1 by omega]
    · rw [if_neg (by omega), List.drop_append_of_le_length (by rw [hd]; omega), List.drop_drop, show i + (k - i) = k by omega, ht, List.append_assoc]
  · refine ⟨k + l.length - i, by omega, by rw [show i + (k + l.length - i) = k + l.length by omega, Nat.add_mod_right, Nat.mod_eq_of_lt hk], ?_, fun hp => ?_⟩
    · rw [if_neg h, List.take_append, List.take_of_length_le (l := l.drop i) (by rw [hd]; omega), hd, List.take_take, show min (k + l.length - i + 1 - (l.length - i)) i = k + 1 by omega]
    · rw [if_pos (by omega), ht, List.drop_append_of_le_length (by rw [List.length_take]; omega), List.drop_append, List.drop_of_length_le (l := l.drop i) (by rw [hd]; omega), hd, List.nil_append, show k + l.length - i - (l.length - i) = k by omega]
/-- When a cut is none. -/
def AdjP (n i k : Nat) : Prop := i = k ∨ (i + 1) % n = k ∨ (k + 1) % n = i
theorem cut_parts {l : List Pt} (v : Val l) {i k : Nat} (hi : i < l.length) (hk : k < l.length) :
    (AdjP l.length i k ∧ cutP l i k = none) ∨ (¬ AdjP l.length i k ∧ ∃ d, 2 ≤ d ∧ d + 2 ≤ l.length ∧ (i + d) % l.length = k ∧ cutP l i k = some (fpt (rot l i) d, spt (rot l i) d)) := by
  have := v.lo
  obtain ⟨d, hd, hm, e1, e2⟩ := run_fpt hi hk
  have hr : (rot l i).length = l.length := rot_len (by omega)
  have hc : cutP l i k = if min (runP l i k).length (runP l k i).length < 3 then none else some (runP l i k, runP l k i) := by
    unfold cutP; rw [if_pos ⟨(valB_iff l).2 v, by omega, by omega⟩]; simp
  have hadj : AdjP l.length i k ↔ d = 0 ∨ d = 1 ∨ d + 1 = l.length := by
    unfold AdjP
    have m1 : (i + d) % l.length = if i + d < l.length then i + d else i + d - l.length := by
      split
      · rw [Nat.mod_eq_of_lt (by assumption)]
      · rw [show i + d = (i + d - l.length) + l.length by omega, Nat.add_mod_right, Nat.mod_eq_of_lt (by omega)]; omega
    have m2 : (i + 1) % l.length = if i + 1 < l.length then i + 1 else 0 := by
      split
      · rw [Nat.mod_eq_of_lt (by assumption)]
      · rw [show i + 1 = l.length by omega, Nat.mod_self]
    have m3 : (k + 1) % l.length = if k + 1 < l.length then k + 1 else 0 := by
      split
      · rw [Nat.mod_eq_of_lt (by assumption)]
      · rw [show k + 1 = l.length by omega, Nat.mod_self]
    rw [m2, m3]; rw [m1] at hm
    split at hm <;> split <;> split <;> omega
  have l1 : (runP l i k).length = d + 1 := by rw [e1, fpt_len (by omega)]
  by_cases h : AdjP l.length i k
  · refine .inl ⟨h, ?_⟩
    rw [hc, if_pos]
    rcases hadj.1 h with h | h | h
    · rw [l1]; omega
    · rw [l1]; omega
    · rw [e2 (by omega), spt_len (by omega), hr]; omega
  · refine .inr ⟨h, d, ?_⟩
    have hn : ¬ (d = 0 ∨ d = 1 ∨ d + 1 = l.length) := fun x => h (hadj.2 x)
    have hd2 : 2 ≤ d := by omega
    refine ⟨hd2, by omega, hm, ?_⟩
    rw [hc, if_neg (by rw [l1, e2 (by omega), spt_len (by omega), hr]; omega), e1, e2 (by omega)]
end Pln
