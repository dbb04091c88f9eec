/- Several texts of layers 3 and 4, one behind the other: LinMix, LinSaneP, LinTwo, RegionJ, LinMixNo, LinSolveNo, LinValues, LinCheck, LinRefutes, LinCheckC, LinSane, LinSolves. -/
import Derived.Deep.DeepCutAuto
import Derived.Test.YtofmjkgaaphnkaaGreatDoorLP6
/- LinMix: The contract of Mix. -/
namespace Go.Proofs.YtofmjkgaaphnkaaGreatDoor
open Go.RowKit Putlog

theorem one_strC (x : ByteArray) : ∀ u ∈ [Value.string x], u.oneCell' = true := by intro u hu; simp at hu; subst hu; rfl
theorem own_room {w : World} {base : Nat} {e : TypeId} {g n c : Nat} {xs : List Value} (h : w.ownsRow base e 1 (.slice (some ⟨g, 0, none⟩) n c) n xs) {i : Nat} (hi : i < c) : (w.cell? ⟨g, i, none⟩).isSome = true ∧ w.frozen? ⟨g, i, none⟩ = false ∧ base ≤ g := by
 rcases h.2 with ⟨h0, _⟩ | ⟨g', cap, cur, hs, hb, hg, h1, h2, h3, h4⟩
 ·cases h0
 ·cases hs
  refine ⟨?_, frozen_of_row w g i _ _ hg, hb⟩
  rw [cell_of_row w g i cur _ (0, 0) hg]
  simp; omega
def sumT (x y : ByteArray) : ByteArray := (op2 addF x y).1
theorem sized_prodT {x y : ByteArray} (h1 : Sized x) (h2 : Sized y) : Sized (prodT x y) := op2_mul.2.1 x y h1 h2
theorem sized_sumT {x y : ByteArray} (h1 : Sized x) (h2 : Sized y) : Sized (sumT x y) := op2_add.2.1 x y h1 h2
def mixDen (v u : VecP) (p q : Int) : ByteArray := prodT (intB (p + q)) (prodT v.den u.den)
def mixNum (v u : VecP) (p q : Int) (i : Nat) : ByteArray := sumT (prodT (prodT (intB p) u.den) (v.nums.getD i ByteArray.empty)) (prodT (prodT (intB q) v.den) (u.nums.getD i ByteArray.empty))
def mixN (v u : VecP) (p q : Int) : List ByteArray := (List.range v.nums.length).map (mixNum v u p q)
def mixAll (v u : VecP) (p q : Int) : List ByteArray := divL (mixN v u p q ++ [mixDen v u p q])
def mixV (v u : VecP) (p q : Int) : VecP := ⟨(mixAll v u p q).take v.nums.length, (mixAll v u p q).getD v.nums.length ByteArray.empty⟩
theorem sized_divL {l : List ByteArray} : ∀ t ∈ divL l, Sized t := fun t ht => by
 unfold divL at ht
 obtain ⟨x, _, rfl⟩ := List.mem_map.1 ht
 exact (sized_divS _ _).1
theorem mixAll_len (v u : VecP) (p q : Int) : (mixAll v u p q).length = v.nums.length + 1 := by unfold mixAll divL mixN; simp
theorem mixV_len (v u : VecP) (p q : Int) : (mixV v u p q).nums.length = v.nums.length := by
 show ((mixAll v u p q).take v.nums.length).length = _
 rw [List.length_take, mixAll_len]; omega
theorem mixV_mem {v u : VecP} {p q : Int} {r c : Nat} {w : World} (h : BlkB 9 r (strV (mixAll v u p q)) w) (hc : v.nums.length ≤ c) (hc2 : c ≤ 1000) : VecM w (mixV v u p q) (some ⟨r, 0, none⟩) c := by
 refine ⟨.inr ⟨r, 0, rfl, fun j hj => ?_⟩, by rw [mixV_len]; exact hc, by omega, ?_, fun t ht => sized_divL t (List.mem_of_mem_take ht)⟩
 ·have hl := mixV_len v u p q
  have ha := mixAll_len v u p q
  rw [Nat.zero_add, List.getD_eq_getElem?_getD]
  show _ = some (Value.string (((mixAll v u p q).take v.nums.length)[j]?.getD ByteArray.empty))
  rw [List.getElem?_take, if_pos (by omega), List.getElem?_eq_getElem (by omega)]
  exact h.cell (by unfold strV; rw [List.getElem?_map, List.getElem?_eq_getElem (by omega)]; rfl)
 ·have ha := mixAll_len v u p q
  show Sized ((mixAll v u p q).getD v.nums.length ByteArray.empty)
  rw [List.getD_eq_getElem?_getD, List.getElem?_eq_getElem (by omega)]
  exact sized_divL _ (List.getElem_mem _)
theorem results_vec2 {fn : Func} {p q : Tmp} (h : fn.results = #[.cell p 30, .tmp q]) (tmps : Array Value) (w : World) (g : Nat) (l : List Value) (z : Value) (hl : l.length = 2) (hp : tmps.getD p undef = .pointer (some ⟨g, 0, none⟩)) (hq : tmps.getD q undef = z) (hg : BlkB 30 g l w) :
  (results fn tmps).run Tryz.prog w = .ok (.tuple #[.agg l.toArray, z]) w := by
 have hp' : tmps[p]?.getD undef = .pointer (some ⟨g, 0, none⟩) := by simpa using hp
 have hq' : tmps[q]?.getD undef = z := by simpa using hq
 simp [results, h, hp', hq', asAddr, run_loadVar_row w g _ _ _ _ _ hg Tryz.underlying30 rfl (by rw [info_vec, List.size_toArray, hl])]
set_option maxRecDepth 100000 in
set_option maxHeartbeats 8000000 in
theorem mix_go (v u : VecP) (p q : Int) (a b : Option Addr) (ca cb : Nat) (W : World) (hv : VecM W v a ca) (hu : VecM W u b cb) (hal : alikeV v u = true) (hp1 : 1 ≤ p) (hp2 : p ≤ 1000) (hq1 : 1 ≤ q) (hq2 : q ≤ 1000) (hT : TabP W) :
  Calls Tryz.prog 23 #[.agg #[.slice a v.nums.length ca, .string v.den], .agg #[.slice b u.nums.length cb, .string u.den], .int .i64 p, .int .i64 q] W fun e w' => (if formedV (mixV v u p q) = true then ∃ g c, e = .returned (.tuple #[.agg #[.slice (some ⟨g, 0, none⟩) v.nums.length c, .string (mixV v u p q).den], .int .i64 0]) ∧ W.heap.size ≤ g ∧ BlkB 9 g (strV (mixAll v u p q)) w' ∧ v.nums.length ≤ c ∧ c ≤ 1000 else e = .returned (.tuple #[.agg #[.slice none 0 0, .string ⟨#[]⟩], .int .i64 60])) ∧ Below W.heap.size W w' := by
 obtain ⟨n, hn⟩ : ∃ n, n = v.nums.length := ⟨_, rfl⟩
 have hmn : u.nums.length = n := by
  unfold alikeV at hal
  simp only [Bool.and_eq_true, decide_eq_true_eq] at hal
  have := hal.2.2; omega
 have hn64 : n ≤ 64 := by
  unfold alikeV formedV at hal
  simp only [Bool.and_eq_true, decide_eq_true_eq] at hal
  have := hal.1.1; omega
 obtain ⟨j0, hj0, hy0, hy1, hy2⟩ := info_ex inf_str
 have HJ0 := Lib.hid hj0
 have HY0 := Lib.hid hy0
 have HY1 := Lib.hid hy1
 have HY2 := Lib.hid hy2
 clear hj0 hy0 hy1 hy2
 have HV := Lib.hid hv
 have HU := Lib.hid hu
 have HT := Lib.hid hT
 have hca := hv.cap
 have hcb := hu.cap
 have hnc : (n : Int) ≤ ca := by have := hv.len; omega
 have hmc : (n : Int) ≤ cb := by have := hu.len; omega
 have HAL := Lib.hid (fun w h => alike_c v u a b ca cb w (hv.via h) (hu.via h))
 rw [hal, hmn, ← hn] at HAL
 rw [hmn, ← hn]
 obtain ⟨vd, hvd⟩ : ∃ vd, vd = v.den := ⟨_, rfl⟩
 obtain ⟨ud, hud⟩ : ∃ ud, ud = u.den := ⟨_, rfl⟩
 rw [← hvd, ← hud] at HAL ⊢
 have hb1 := alloc_belowL W (.cells #[.slice a n ca, .string vd] 30)
 have hb2 := alloc_belowL (W.alloc (.cells #[.slice a n ca, .string vd] 30)) (.cells #[.slice b n cb, .string ud] 30)
 have hb3 := alloc_belowL ((W.alloc (.cells #[.slice a n ca, .string vd] 30)).alloc (.cells #[.slice b n cb, .string ud] 30)) (.cells #[.slice none 0 0, .string ⟨#[]⟩] 30)
 have g1 : BlkB 30 W.heap.size [.slice a n ca, .string vd] (W.alloc (.cells #[.slice a n ca, .string vd] 30)) := heap_alloc_new W _
 have g2 : BlkB 30 (W.heap.size + 1) [.slice b n cb, .string ud] ((W.alloc (.cells #[.slice a n ca, .string vd] 30)).alloc (.cells #[.slice b n cb, .string ud] 30)) := by
  have := heap_alloc_new (W.alloc (.cells #[.slice a n ca, .string vd] 30)) (.cells #[.slice b n cb, .string ud] 30)
  rw [alloc_sizeL] at this; exact this
 have g3 : BlkB 30 (W.heap.size + 1 + 1) [.slice none 0 0, .string ⟨#[]⟩] (((W.alloc (.cells #[.slice a n ca, .string vd] 30)).alloc (.cells #[.slice b n cb, .string ud] 30)).alloc (.cells #[.slice none 0 0, .string ⟨#[]⟩] 30)) := by
  have := heap_alloc_new ((W.alloc (.cells #[.slice a n ca, .string vd] 30)).alloc (.cells #[.slice b n cb, .string ud] 30)) (.cells #[.slice none 0 0, .string ⟨#[]⟩] 30)
  rw [alloc_sizeL, alloc_sizeL] at this; exact this
 have HB := Lib.hid (belowVia hb3 (belowVia hb2 hb1))
 have g1' := (g1.via hb2).via hb3
 have g2' := g2.via hb3
 have k0 := g1'.cell (i := 0) rfl
 have k1 := g1'.cell (i := 1) rfl
 have k2 := g2'.cell (i := 0) rfl
 have k3 := g2'.cell (i := 1) rfl
 have HBX := Lib.hid g3
 have hsv := hv.den
 have hsu := hu.den
 rw [← hvd] at hsv
 rw [← hud] at hsu
 have hp' : ∀ x : Int, 1 ≤ x → x ≤ 2000 → Sized (intB x) := fun x h1 h2 => sized_fits (fits_100 (Nat.lt_of_lt_of_le (show x.natAbs < 10 ^ 4 by omega) (Nat.pow_le_pow_right (by decide) (by decide))))
 have HFI : Hid (∀ x w, Below W.heap.size W w → 1 ≤ x → x ≤ 1000 → Calls Tryz.prog 54 #[.int .i64 x] w fun e w' => e = .returned (.string (intB x)) ∧ Below w.heap.size w w') := Lib.hid (fun x w h h1 h2 => fromP_any x (by omega) (by omega) w (TabP.via h hT))
 have HFS : Hid (∀ w, Below W.heap.size W w → Calls Tryz.prog 54 #[.int .i64 (p + q)] w fun e w' => e = .returned (.string (intB (p + q))) ∧ Below w.heap.size w w') := Lib.hid (fun w h => fromP_any (p + q) (by omega) (by omega) w (TabP.via h hT))
 have HPA : Hid (∀ w, Calls Tryz.prog 52 #[.string (intB p), .string ud] w fun e w' => e = .returned (.string (prodT (intB p) ud)) ∧ Below w.heap.size w w') := Lib.hid (fun w => product_c _ _ w (hp' p hp1 (by omega)) hsu)
 have HPB : Hid (∀ w, Calls Tryz.prog 52 #[.string (intB q), .string vd] w fun e w' => e = .returned (.string (prodT (intB q) vd)) ∧ Below w.heap.size w w') := Lib.hid (fun w => product_c _ _ w (hp' q hq1 (by omega)) hsv)
 have HPD : Hid (∀ w, Calls Tryz.prog 52 #[.string vd, .string ud] w fun e w' => e = .returned (.string (prodT vd ud)) ∧ Below w.heap.size w w') := Lib.hid (fun w => product_c _ _ w hsv hsu)
 have hsp := sized_prodT hsv hsu
 have HPE : Hid (∀ w, Calls Tryz.prog 52 #[.string (intB (p + q)), .string (prodT vd ud)] w fun e w' => e = .returned (.string (prodT (intB (p + q)) (prodT vd ud))) ∧ Below w.heap.size w w') := Lib.hid (fun w => product_c _ _ w (hp' _ (by omega) (by omega)) hsp)
 have HSA := Lib.hid (sized_prodT (hp' p hp1 (by omega)) hsu)
 have HSB := Lib.hid (sized_prodT (hp' q hq1 (by omega)) hsv)
 have HSD := Lib.hid (sized_prodT (hp' (p + q) (by omega) (by omega)) hsp)
 obtain ⟨PA, hPA⟩ : ∃ x, x = prodT (intB p) ud := ⟨_, rfl⟩
 obtain ⟨PB, hPB⟩ : ∃ x, x = prodT (intB q) vd := ⟨_, rfl⟩
 obtain ⟨DN, hDN⟩ : ∃ x, x = prodT (intB (p + q)) (prodT vd ud) := ⟨_, rfl⟩
 rw [← hPA] at HPA HSA
 rw [← hPB] at HPB HSB
 rw [← hDN] at HPE HSD
 have HN := Lib.hid (And.intro hn (And.intro hmn (And.intro hvd hud)))
 have HD := Lib.hid (And.intro hPA (And.intro hPB hDN))
 have HN64 := Lib.hid hn64
 have hpq : IntKind.i64.wrap (p + q) = p + q := by rw [IntKind.wrap_i64]; omega
 clear hv hu hn hmn hvd hud hPA hPB hDN hal hb1 hb2 hb3 g1 g2 g1' g2' g3 hsv hsu hsp hp' hT hn64
 go_enter Tryz.func23, Tryz.ntmps23
 go_upto_region 1 with fail
 generalize ((W.alloc (.cells #[.slice a n ca, .string vd] 30)).alloc (.cells #[.slice b n cb, .string ud] 30)).alloc (.cells #[.slice none 0 0, .string ⟨#[]⟩] 30) = w0 at *
 go_wp2_with fail
 refine (HAL.out _ HB.out).mono ?_
 rintro e w1 ⟨rfl, hB1⟩
 have hB := belowVia hB1 HB.out
 have k0 := keptBelow hB1 k0
 have k1 := keptBelow hB1 k1
 have k2 := keptBelow hB1 k2
 have k3 := keptBelow hB1 k3
 have hbx := HBX.out.via hB1
 clear hB1 HB HBX HAL
 go_upto_region 3 with fail
 have k0 : w1.drew.cell? ⟨W.heap.size, 0, none⟩ = some (.slice a n ca) := k0
 have k1 : w1.drew.cell? ⟨W.heap.size, 1, none⟩ = some (.string vd) := k1
 have k2 : w1.drew.cell? ⟨W.heap.size + 1, 0, none⟩ = some (.slice b n cb) := k2
 have k3 : w1.drew.cell? ⟨W.heap.size + 1, 1, none⟩ = some (.string ud) := k3
 have hbx := hbx.via (Below.refl _ _).drew
 have hB := hB.drew
 refine wp_region_S (fun w' => w'.cell? ⟨W.heap.size, 0, none⟩ = some (.slice a n ca) ∧ w'.cell? ⟨W.heap.size, 1, none⟩ = some (.string vd) ∧ w'.cell? ⟨W.heap.size + 1, 0, none⟩ = some (.slice b n cb) ∧ w'.cell? ⟨W.heap.size + 1, 1, none⟩ = some (.string ud)) (by kernel_rfl) ?_
 generalize w1.drew = wd at *
 refine wpS_take (i := 0) (d := some 32) (v := ?_) rfl (by kernel_rfl) (by kernel_rfl) (by kernel_rfl) rfl (fun _ _ _ h => h) (.inl ⟨by rfl, fun w hw => ?_⟩) ⟨k0, k1, k2, k3⟩ ?_
 rotate_left
 ·clear hw; go_simp; with_reducible rfl
 try simp only [Act.put, tA, tB, tC]
 refine wpS_take (i := 2) (d := some 34) (v := ?_) rfl (by kernel_rfl) (by kernel_rfl) (by kernel_rfl) rfl (fun _ _ _ h => h) (.inl ⟨by rfl, fun w hw => ?_⟩) ⟨k0, k1, k2, k3⟩ ?_
 rotate_left
 ·clear hw; go_simp; with_reducible rfl
 try simp only [Act.put, tA, tB, tC]
 refine wpS_take (i := 3) (d := some 35) (v := ?_) rfl (by kernel_rfl) (by kernel_rfl) (by kernel_rfl) rfl (fun _ _ _ h => h) (.inl ⟨by rfl, fun w hw => ?_⟩) ⟨k0, k1, k2, k3⟩ ?_
 rotate_left
 ·(obtain ⟨_, _, _, _⟩ := hw); go_simp; with_reducible rfl
 try simp only [Act.put, tA, tB, tC]
 refine wpS_take (i := 5) (d := some 37) (v := ?_) rfl (by kernel_rfl) (by kernel_rfl) (by kernel_rfl) rfl (fun _ _ _ h => h) (.inl ⟨by rfl, fun w hw => ?_⟩) ⟨k0, k1, k2, k3⟩ ?_
 rotate_left
 ·clear hw; go_simp; with_reducible rfl
 try simp only [Act.put, tA, tB, tC]
 refine wpS_take (i := 7) (d := some 39) (v := ?_) rfl (by kernel_rfl) (by kernel_rfl) (by kernel_rfl) rfl (fun _ _ _ h => h) (.inl ⟨by rfl, fun w hw => ?_⟩) ⟨k0, k1, k2, k3⟩ ?_
 rotate_left
 ·clear hw; go_simp; with_reducible rfl
 try simp only [Act.put, tA, tB, tC]
 refine wpS_take (i := 8) (d := some 40) (v := ?_) rfl (by kernel_rfl) (by kernel_rfl) (by kernel_rfl) rfl (fun _ _ _ h => h) (.inl ⟨by rfl, fun w hw => ?_⟩) ⟨k0, k1, k2, k3⟩ ?_
 rotate_left
 ·(obtain ⟨_, _, _, _⟩ := hw); go_simp; with_reducible rfl
 try simp only [Act.put, tA, tB, tC]
 refine wpS_one (i := 1) (by kernel_rfl) rfl rfl ?_
 go_simp
 refine (HFI.out p _ hB hp1 hp2).mono ?_
 rintro e wm1 ⟨rfl, hBx⟩
 have k0 := keptBelow hBx k0
 have k1 := keptBelow hBx k1
 have k2 := keptBelow hBx k2
 have k3 := keptBelow hBx k3
 have hbx := hbx.via hBx
 have hB := belowVia hBx hB
 clear hBx
 first | refine ⟨⟨k0, k1, k2, k3⟩, ?_⟩ | skip
 try simp only [Act.put, tA, tB, tC]
 refine wpS_one (i := 4) (by kernel_rfl) rfl rfl ?_
 go_simp
 refine (HPA.out _).mono ?_
 rintro e wm2 ⟨rfl, hBx⟩
 have k0 := keptBelow hBx k0
 have k1 := keptBelow hBx k1
 have k2 := keptBelow hBx k2
 have k3 := keptBelow hBx k3
 have hbx := hbx.via hBx
 have hB := belowVia hBx hB
 clear hBx
 first | refine ⟨⟨k0, k1, k2, k3⟩, ?_⟩ | skip
 try simp only [Act.put, tA, tB, tC]
 refine wpS_one (i := 6) (by kernel_rfl) rfl rfl ?_
 go_simp
 refine (HFI.out q _ hB hq1 hq2).mono ?_
 rintro e wm3 ⟨rfl, hBx⟩
 have k0 := keptBelow hBx k0
 have k1 := keptBelow hBx k1
 have k2 := keptBelow hBx k2
 have k3 := keptBelow hBx k3
 have hbx := hbx.via hBx
 have hB := belowVia hBx hB
 clear hBx
 first | refine ⟨⟨k0, k1, k2, k3⟩, ?_⟩ | skip
 try simp only [Act.put, tA, tB, tC]
 refine wpS_one (i := 9) (by kernel_rfl) rfl rfl ?_
 go_simp
 refine (HPB.out _).mono ?_
 rintro e wm4 ⟨rfl, hBx⟩
 have k0 := keptBelow hBx k0
 have k1 := keptBelow hBx k1
 have k2 := keptBelow hBx k2
 have k3 := keptBelow hBx k3
 have hbx := hbx.via hBx
 have hB := belowVia hBx hB
 clear hBx
 first | refine ⟨⟨k0, k1, k2, k3⟩, ?_⟩ | skip
 try simp only [Act.put, tA, tB, tC]
 refine wpS_take (i := 10) (d := some 10) (v := ?_) rfl (by kernel_rfl) (by kernel_rfl) (by kernel_rfl) rfl (fun _ _ _ h => h) (.inl ⟨by rfl, fun w hw => ?_⟩) ⟨k0, k1, k2, k3⟩ ?_
 rotate_left
 ·clear hw; go_simp; with_reducible rfl
 try simp only [Act.put, tA, tB, tC]
 refine wpS_lastY (i := 11) (d := some 11) (v := ?_) (by kernel_rfl) rfl rfl (by kernel_rfl) (.inl ⟨by rfl, fun w hw => ?_⟩) ⟨k0, k1, k2, k3⟩ ?_
 rotate_left
 ·clear hw; go_simp; with_reducible rfl
 try simp only [Act.put, tA, tB, tC]
 go_upto_region 4 with fail
 have k0 : wm4.drew.cell? ⟨W.heap.size, 0, none⟩ = some (.slice a n ca) := k0
 have k1 : wm4.drew.cell? ⟨W.heap.size, 1, none⟩ = some (.string vd) := k1
 have k2 : wm4.drew.cell? ⟨W.heap.size + 1, 0, none⟩ = some (.slice b n cb) := k2
 have k3 : wm4.drew.cell? ⟨W.heap.size + 1, 1, none⟩ = some (.string ud) := k3
 have hbx := hbx.via (Below.refl _ _).drew
 have hB := hB.drew
 refine wp_region_S (fun w' => w'.cell? ⟨W.heap.size, 0, none⟩ = some (.slice a n ca) ∧ w'.cell? ⟨W.heap.size, 1, none⟩ = some (.string vd) ∧ w'.cell? ⟨W.heap.size + 1, 0, none⟩ = some (.slice b n cb) ∧ w'.cell? ⟨W.heap.size + 1, 1, none⟩ = some (.string ud)) (by kernel_rfl) ?_
 generalize wm4.drew = wd2 at *
 refine wpS_take (i := 0) (d := some 42) (v := ?_) rfl (by kernel_rfl) (by kernel_rfl) (by kernel_rfl) rfl (fun _ _ _ h => h) (.inl ⟨by rfl, fun w hw => ?_⟩) ⟨k0, k1, k2, k3⟩ ?_
 rotate_left
 ·clear hw; go_simp; with_reducible rfl
 try simp only [Act.put, tA, tB, tC]
 refine wpS_take (i := 1) (d := some 43) (v := ?_) rfl (by kernel_rfl) (by kernel_rfl) (by kernel_rfl) rfl (fun _ _ _ h => h) (.inl ⟨by rfl, fun w hw => ?_⟩) ⟨k0, k1, k2, k3⟩ ?_
 rotate_left
 ·clear hw; go_simp; with_reducible rfl
 try simp only [Act.put, tA, tB, tC]
 refine wpS_take (i := 2) (d := some 44) (v := ?_) rfl (by kernel_rfl) (by kernel_rfl) (by kernel_rfl) rfl (fun _ _ _ h => h) (.inl ⟨by rfl, fun w hw => ?_⟩) ⟨k0, k1, k2, k3⟩ ?_
 rotate_left
 ·clear hw; go_simp; with_reducible rfl
 try simp only [Act.put, tA, tB, tC]
 refine wpS_take (i := 4) (d := some 46) (v := ?_) rfl (by kernel_rfl) (by kernel_rfl) (by kernel_rfl) rfl (fun _ _ _ h => h) (.inl ⟨by rfl, fun w hw => ?_⟩) ⟨k0, k1, k2, k3⟩ ?_
 rotate_left
 ·clear hw; go_simp; with_reducible rfl
 try simp only [Act.put, tA, tB, tC]
 refine wpS_take (i := 5) (d := some 47) (v := ?_) rfl (by kernel_rfl) (by kernel_rfl) (by kernel_rfl) rfl (fun _ _ _ h => h) (.inl ⟨by rfl, fun w hw => ?_⟩) ⟨k0, k1, k2, k3⟩ ?_
 rotate_left
 ·(obtain ⟨_, _, _, _⟩ := hw); go_simp; with_reducible rfl
 try simp only [Act.put, tA, tB, tC]
 refine wpS_take (i := 6) (d := some 48) (v := ?_) rfl (by kernel_rfl) (by kernel_rfl) (by kernel_rfl) rfl (fun _ _ _ h => h) (.inl ⟨by rfl, fun w hw => ?_⟩) ⟨k0, k1, k2, k3⟩ ?_
 rotate_left
 ·clear hw; go_simp; with_reducible rfl
 try simp only [Act.put, tA, tB, tC]
 refine wpS_take (i := 7) (d := some 49) (v := ?_) rfl (by kernel_rfl) (by kernel_rfl) (by kernel_rfl) rfl (fun _ _ _ h => h) (.inl ⟨by rfl, fun w hw => ?_⟩) ⟨k0, k1, k2, k3⟩ ?_
 rotate_left
 ·(obtain ⟨_, _, _, _⟩ := hw); go_simp; with_reducible rfl
 try simp only [Act.put, tA, tB, tC]
 refine wpS_one (i := 3) (by kernel_rfl) rfl rfl ?_
 go_simp
 refine (HFS.out _ hB).mono ?_
 rintro e wm5 ⟨rfl, hBx⟩
 have k0 := keptBelow hBx k0
 have k1 := keptBelow hBx k1
 have k2 := keptBelow hBx k2
 have k3 := keptBelow hBx k3
 have hbx := hbx.via hBx
 have hB := belowVia hBx hB
 clear hBx
 first | refine ⟨⟨k0, k1, k2, k3⟩, ?_⟩ | skip
 try simp only [Act.put, tA, tB, tC]
 refine wpS_one (i := 8) (by kernel_rfl) rfl rfl ?_
 go_simp
 refine (HPD.out _).mono ?_
 rintro e wm6 ⟨rfl, hBx⟩
 have k0 := keptBelow hBx k0
 have k1 := keptBelow hBx k1
 have k2 := keptBelow hBx k2
 have k3 := keptBelow hBx k3
 have hbx := hbx.via hBx
 have hB := belowVia hBx hB
 clear hBx
 first | refine ⟨⟨k0, k1, k2, k3⟩, ?_⟩ | skip
 try simp only [Act.put, tA, tB, tC]
 refine wpS_one (i := 9) (by kernel_rfl) rfl rfl ?_
 go_simp
 refine (HPE.out _).mono ?_
 rintro e wm7 ⟨rfl, hBx⟩
 have k0 := keptBelow hBx k0
 have k1 := keptBelow hBx k1
 have k2 := keptBelow hBx k2
 have k3 := keptBelow hBx k3
 have hbx := hbx.via hBx
 have hB := belowVia hBx hB
 clear hBx
 first | refine ⟨⟨k0, k1, k2, k3⟩, ?_⟩ | skip
 try simp only [Act.put, tA, tB, tC]
 refine wpS_one (i := 10) (by kernel_rfl) rfl rfl ?_
 go_simp
 have hsz9 : W.heap.size + 1 + 1 < wm7.heap.size := hbx.lt
 have hBx := alloc_belowL wm7 (.cells #[.string DN] 9)
 have k0 := keptBelow hBx k0
 have k1 := keptBelow hBx k1
 have k2 := keptBelow hBx k2
 have k3 := keptBelow hBx k3
 have hbx := hbx.via hBx
 have hB := belowVia hBx hB
 have hnew := heap_alloc_new wm7 (.cells #[.string DN] 9)
 generalize hg9 : wm7.heap.size = g0 at *
 generalize wm7.alloc (.cells #[.string DN] 9) = w9 at *
 clear hBx
 first | refine ⟨⟨k0, k1, k2, k3⟩, ?_⟩ | skip
 try simp only [Act.put, tA, tB, tC]
 refine wpS_lastY (i := 11) (d := some 12) (v := ?_) (by kernel_rfl) rfl rfl (by kernel_rfl) (.inl ⟨by rfl, fun w hw => ?_⟩) ⟨k0, k1, k2, k3⟩ ?_
 rotate_left
 ·clear hw; go_simp; with_reducible rfl
 try simp only [Act.put, tA, tB, tC]
 have hown : w9.ownsRow (W.heap.size + 3) 9 1 (.slice (some ⟨g0, 0, none⟩) 1 1) 1 (strV (DN :: (List.range 0).map (mixNum v u p q))) := ⟨rfl, .inr ⟨g0, 1, #[.string DN], rfl, by omega, hnew, Nat.le_refl _, by decide, rfl, rfl⟩⟩
 have HK := Lib.hid (And.intro k0 (And.intro k1 (And.intro k2 k3)))
 have HO := Lib.hid hown
 have HBX := Lib.hid hbx
 have HB := Lib.hid hB
 clear hown hbx hB hnew hsz9 hg9 k1 k2 k3 HFI HFS HPA HPB HPD HPE
 go_wp2_with fail
 clear k0
 go_loopw [12, 13, 56] (fun av x i wr => ∃ k : Nat, k ≤ n ∧ i = .int .i64 k ∧ (∃ vv : Value, vv = av) ∧ wr.ownsRow (W.heap.size + 3) 9 1 av (k + 1) (strV (DN :: (List.range k).map (mixNum v u p q))) ∧ (wr.cell? ⟨W.heap.size, 0, none⟩ = some (.slice a n ca) ∧ wr.cell? ⟨W.heap.size, 1, none⟩ = some (.string vd) ∧ wr.cell? ⟨W.heap.size + 1, 0, none⟩ = some (.slice b n cb) ∧ wr.cell? ⟨W.heap.size + 1, 1, none⟩ = some (.string ud)) ∧ BlkB 30 (W.heap.size + 1 + 1) [.slice none 0 0, .string ⟨#[]⟩] wr ∧ Below W.heap.size W wr) (fun _ _ i _ => n - (intOf i).toNat)
 case atStart => exact ⟨0, Nat.zero_le _, rfl, ⟨_, rfl⟩, HO.out, HK.out, HBX.out, HB.out⟩
 case round =>
 clear HO HK HBX HB
 obtain ⟨k, hk, rfl, ⟨av, rfl⟩, hown, ⟨k0, k1, k2, k3⟩, hbx, hB⟩ := hrel
 by_cases hlt : k < n
 ·have hlt' : (k : Int) < n := by omega
  have hkv : k < v.nums.length := by have := HN.out.1; omega
  have hku : k < u.nums.length := by have := HN.out.2.1; omega
  have hn64 : (n : Int) ≤ 64 := by have := HN64.out; omega
  obtain ⟨ga, oa, rfl, e1⟩ := HV.out.strs.get hkv
  obtain ⟨gb, ob, rfl, e2⟩ := HU.out.strs.get hku
  have hga := lt_of_cell e1
  have hgb := lt_of_cell e2
  have e1 := keptBelow hB e1
  have e2 := keptBelow hB e2
  have hs1 := sized_prodT HSA.out (HV.out.sz _ (List.getElem_mem hkv))
  have hs2 := sized_prodT HSB.out (HU.out.sz _ (List.getElem_mem hku))
  have HQ1 : Hid (∀ w, Calls Tryz.prog 52 #[.string PA, .string v.nums[k]] w fun e w' => e = .returned (.string (prodT PA v.nums[k])) ∧ Below w.heap.size w w') := Lib.hid (fun w => product_c _ _ w HSA.out (HV.out.sz _ (List.getElem_mem hkv)))
  have HQ2 : Hid (∀ w, Calls Tryz.prog 52 #[.string PB, .string u.nums[k]] w fun e w' => e = .returned (.string (prodT PB u.nums[k])) ∧ Below w.heap.size w w') := Lib.hid (fun w => product_c _ _ w HSB.out (HU.out.sz _ (List.getElem_mem hku)))
  have HQ3 : Hid (∀ w, Calls Tryz.prog 55 #[.string (prodT PA v.nums[k]), .string (prodT PB u.nums[k])] w fun e w' => e = .returned (.string (sumT (prodT PA v.nums[k]) (prodT PB u.nums[k]))) ∧ Below w.heap.size w w') := Lib.hid (fun w => sum_c _ _ w hs1 hs2)
  have HMN : Hid (mixNum v u p q k = sumT (prodT PA v.nums[k]) (prodT PB u.nums[k])) := Lib.hid (by
   unfold mixNum
   rw [List.getD_eq_getElem?_getD, List.getD_eq_getElem?_getD, List.getElem?_eq_getElem hkv, List.getElem?_eq_getElem hku, HD.out.1, HD.out.2.1, HN.out.2.2.1, HN.out.2.2.2]; rfl)
  clear hs1 hs2
  generalize v.nums[k] = t1 at *
  generalize u.nums[k] = t2 at *
  generalize prodT PA t1 = q1 at *
  generalize prodT PB t2 = q2 at *
  generalize sumT q1 q2 = q3 at *
  have hLk : (DN :: (List.range k).map (mixNum v u p q)).length = k + 1 := by simp
  have HLN : Hid (strV (DN :: (List.range (k + 1)).map (mixNum v u p q)) = strV (DN :: (List.range k).map (mixNum v u p q)) ++ [.string q3]) := Lib.hid (by
   rw [← HMN.out, List.range_succ, List.map_append]; unfold strV; simp)
  clear hkv hku
  generalize DN :: (List.range k).map (mixNum v u p q) = L at *
  go_upto_region 8 with fail
  have k0 : wr.drew.cell? ⟨W.heap.size, 0, none⟩ = some (.slice (some ⟨ga, oa, none⟩) n ca) := k0
  have k1 : wr.drew.cell? ⟨W.heap.size, 1, none⟩ = some (.string vd) := k1
  have k2 : wr.drew.cell? ⟨W.heap.size + 1, 0, none⟩ = some (.slice (some ⟨gb, ob, none⟩) n cb) := k2
  have k3 : wr.drew.cell? ⟨W.heap.size + 1, 1, none⟩ = some (.string ud) := k3
  have e1 : wr.drew.cell? ⟨ga, oa + k, none⟩ = some (.string t1) := e1
  have e2 : wr.drew.cell? ⟨gb, ob + k, none⟩ = some (.string t2) := e2
  have hown := owns_below hown (Below.refl _ _).drew
  have hbx := hbx.via (Below.refl _ _).drew
  have hB := hB.drew
  refine wp_region_S (fun w' => w'.cell? ⟨W.heap.size, 0, none⟩ = some (.slice (some ⟨ga, oa, none⟩) n ca) ∧ w'.cell? ⟨W.heap.size, 1, none⟩ = some (.string vd) ∧ w'.cell? ⟨W.heap.size + 1, 0, none⟩ = some (.slice (some ⟨gb, ob, none⟩) n cb) ∧ w'.cell? ⟨W.heap.size + 1, 1, none⟩ = some (.string ud) ∧ w'.cell? ⟨ga, oa + k, none⟩ = some (.string t1) ∧ w'.cell? ⟨gb, ob + k, none⟩ = some (.string t2)) (by kernel_rfl) ?_
  generalize wr.drew = wd3 at *
  refine wpS_take (i := 0) (d := some 59) (v := ?_) rfl (by kernel_rfl) (by kernel_rfl) (by kernel_rfl) rfl (fun _ _ _ h => h) (.inl ⟨by rfl, fun w hw => ?_⟩) ⟨k0, k1, k2, k3, e1, e2⟩ ?_
  rotate_left
  ·clear hw; go_simp; with_reducible rfl
  try simp only [Act.put, tA, tB, tC]
  refine wpS_take (i := 1) (d := some 60) (v := ?_) rfl (by kernel_rfl) (by kernel_rfl) (by kernel_rfl) rfl (fun _ _ _ h => h) (.inl ⟨by rfl, fun w hw => ?_⟩) ⟨k0, k1, k2, k3, e1, e2⟩ ?_
  rotate_left
  ·clear hw; go_simp; with_reducible rfl
  try simp only [Act.put, tA, tB, tC]
  refine wpS_take (i := 2) (d := some 61) (v := ?_) rfl (by kernel_rfl) (by kernel_rfl) (by kernel_rfl) rfl (fun _ _ _ h => h) (.inl ⟨by rfl, fun w hw => ?_⟩) ⟨k0, k1, k2, k3, e1, e2⟩ ?_
  rotate_left
  ·clear hw; go_simp; with_reducible rfl
  try simp only [Act.put, tA, tB, tC]
  refine wpS_take (i := 3) (d := some 62) (v := ?_) rfl (by kernel_rfl) (by kernel_rfl) (by kernel_rfl) rfl (fun _ _ _ h => h) (.inl ⟨by rfl, fun w hw => ?_⟩) ⟨k0, k1, k2, k3, e1, e2⟩ ?_
  rotate_left
  ·(obtain ⟨_, _, _, _, _, _⟩ := hw); go_simp; with_reducible rfl
  try simp only [Act.put, tA, tB, tC]
  refine wpS_take (i := 4) (d := some 63) (v := ?_) rfl (by kernel_rfl) (by kernel_rfl) (by kernel_rfl) rfl (fun _ _ _ h => h) (.inl ⟨by rfl, fun w hw => ?_⟩) ⟨k0, k1, k2, k3, e1, e2⟩ ?_
  rotate_left
  ·clear hw; go_simp; with_reducible rfl
  try simp only [Act.put, tA, tB, tC]
  refine wpS_take (i := 5) (d := some 64) (v := ?_) rfl (by kernel_rfl) (by kernel_rfl) (by kernel_rfl) rfl (fun _ _ _ h => h) (.inl ⟨by rfl, fun w hw => ?_⟩) ⟨k0, k1, k2, k3, e1, e2⟩ ?_
  rotate_left
  ·(obtain ⟨_, _, _, _, _, _⟩ := hw); go_simp; with_reducible rfl
  try simp only [Act.put, tA, tB, tC]
  refine wpS_take (i := 6) (d := some 65) (v := ?_) rfl (by kernel_rfl) (by kernel_rfl) (by kernel_rfl) rfl (fun _ _ _ h => h) (.inl ⟨by rfl, fun w hw => ?_⟩) ⟨k0, k1, k2, k3, e1, e2⟩ ?_
  rotate_left
  ·(obtain ⟨_, _, _, _, _, _⟩ := hw); go_simp; with_reducible rfl
  try simp only [Act.put, tA, tB, tC]
  refine wpS_take (i := 8) (d := some 67) (v := ?_) rfl (by kernel_rfl) (by kernel_rfl) (by kernel_rfl) rfl (fun _ _ _ h => h) (.inl ⟨by rfl, fun w hw => ?_⟩) ⟨k0, k1, k2, k3, e1, e2⟩ ?_
  rotate_left
  ·clear hw; go_simp; with_reducible rfl
  try simp only [Act.put, tA, tB, tC]
  refine wpS_take (i := 9) (d := some 68) (v := ?_) rfl (by kernel_rfl) (by kernel_rfl) (by kernel_rfl) rfl (fun _ _ _ h => h) (.inl ⟨by rfl, fun w hw => ?_⟩) ⟨k0, k1, k2, k3, e1, e2⟩ ?_
  rotate_left
  ·clear hw; go_simp; with_reducible rfl
  try simp only [Act.put, tA, tB, tC]
  refine wpS_take (i := 10) (d := some 69) (v := ?_) rfl (by kernel_rfl) (by kernel_rfl) (by kernel_rfl) rfl (fun _ _ _ h => h) (.inl ⟨by rfl, fun w hw => ?_⟩) ⟨k0, k1, k2, k3, e1, e2⟩ ?_
  rotate_left
  ·(obtain ⟨_, _, _, _, _, _⟩ := hw); go_simp; with_reducible rfl
  try simp only [Act.put, tA, tB, tC]
  refine wpS_take (i := 11) (d := some 70) (v := ?_) rfl (by kernel_rfl) (by kernel_rfl) (by kernel_rfl) rfl (fun _ _ _ h => h) (.inl ⟨by rfl, fun w hw => ?_⟩) ⟨k0, k1, k2, k3, e1, e2⟩ ?_
  rotate_left
  ·clear hw; go_simp; with_reducible rfl
  try simp only [Act.put, tA, tB, tC]
  refine wpS_take (i := 12) (d := some 71) (v := ?_) rfl (by kernel_rfl) (by kernel_rfl) (by kernel_rfl) rfl (fun _ _ _ h => h) (.inl ⟨by rfl, fun w hw => ?_⟩) ⟨k0, k1, k2, k3, e1, e2⟩ ?_
  rotate_left
  ·(obtain ⟨_, _, _, _, _, _⟩ := hw); go_simp; with_reducible rfl
  try simp only [Act.put, tA, tB, tC]
  refine wpS_take (i := 13) (d := some 72) (v := ?_) rfl (by kernel_rfl) (by kernel_rfl) (by kernel_rfl) rfl (fun _ _ _ h => h) (.inl ⟨by rfl, fun w hw => ?_⟩) ⟨k0, k1, k2, k3, e1, e2⟩ ?_
  rotate_left
  ·(obtain ⟨_, _, _, _, _, _⟩ := hw); go_simp; with_reducible rfl
  try simp only [Act.put, tA, tB, tC]
  refine wpS_one (i := 7) (by kernel_rfl) rfl rfl ?_
  go_simp
  refine (HQ1.out _).mono ?_
  rintro e wm8 ⟨rfl, hBx⟩
  have k0 := keptBelow hBx k0
  have k1 := keptBelow hBx k1
  have k2 := keptBelow hBx k2
  have k3 := keptBelow hBx k3
  have e1 := keptBelow hBx e1
  have e2 := keptBelow hBx e2
  have hbx := hbx.via hBx
  have hB := belowVia hBx hB
  have hown := owns_below hown hBx
  clear hBx
  first | refine ⟨⟨k0, k1, k2, k3, e1, e2⟩, ?_⟩ | skip
  try simp only [Act.put, tA, tB, tC]
  refine wpS_one (i := 14) (by kernel_rfl) rfl rfl ?_
  go_simp
  refine (HQ2.out _).mono ?_
  rintro e wm9 ⟨rfl, hBx⟩
  have k0 := keptBelow hBx k0
  have k1 := keptBelow hBx k1
  have k2 := keptBelow hBx k2
  have k3 := keptBelow hBx k3
  have e1 := keptBelow hBx e1
  have e2 := keptBelow hBx e2
  have hbx := hbx.via hBx
  have hB := belowVia hBx hB
  have hown := owns_below hown hBx
  clear hBx
  first | refine ⟨⟨k0, k1, k2, k3, e1, e2⟩, ?_⟩ | skip
  try simp only [Act.put, tA, tB, tC]
  refine wpS_one (i := 15) (by kernel_rfl) rfl rfl ?_
  go_simp
  refine (HQ3.out _).mono ?_
  rintro e wm10 ⟨rfl, hBx⟩
  have k0 := keptBelow hBx k0
  have k1 := keptBelow hBx k1
  have k2 := keptBelow hBx k2
  have k3 := keptBelow hBx k3
  have e1 := keptBelow hBx e1
  have e2 := keptBelow hBx e2
  have hbx := hbx.via hBx
  have hB := belowVia hBx hB
  have hown := owns_below hown hBx
  clear hBx
  first | refine ⟨⟨k0, k1, k2, k3, e1, e2⟩, ?_⟩ | skip
  try simp only [Act.put, tA, tB, tC]
  refine wpS_one (i := 16) (by kernel_rfl) rfl rfl ?_
  go_simp
  have hBx := alloc_belowL wm10 (.cells #[.string q3] 9)
  have k0 := keptBelow hBx k0
  have k1 := keptBelow hBx k1
  have k2 := keptBelow hBx k2
  have k3 := keptBelow hBx k3
  have e1 := keptBelow hBx e1
  have e2 := keptBelow hBx e2
  have hbx := hbx.via hBx
  have hB := belowVia hBx hB
  have hown := owns_below hown hBx
  have n16 : (wm10.alloc (.cells #[.string q3] 9)).cell? ⟨wm10.heap.size, 0, none⟩ = some (.string q3) := (cell_of_row _ _ 0 _ _ _ (heap_alloc_new wm10 (.cells #[.string q3] 9))).trans rfl
  have hbs := hbx.lt
  generalize wm10.heap.size = p16 at *
  generalize wm10.alloc (.cells #[.string q3] 9) = w16 at *
  clear hBx
  first | refine ⟨⟨k0, k1, k2, k3, e1, e2⟩, ?_⟩ | skip
  try simp only [Act.put, tA, tB, tC]
  refine wpS_append (i := 17) (dt := 76) (by kernel_rfl) rfl rfl rfl _ _ _ rfl (W.heap.size + 3) 9 j0 (.string ⟨#[]⟩) 1 16 Tryz.underlying28 HJ0.out HY0.out HY1.out HY2.out rfl (by decide) av (k + 1) (strV L) rfl hown ⟨p16, 0, none⟩ 1 1 [.string q3] rfl rfl (news_of_cell n16) (one_strC _) (by decide) (by unfold maxLen; omega) (by omega) (by omega) ?_
  intro g' c' w17 hown17 hgr hat hlt17
  have hol := own_lt hown
  have k0 := kept_own hgr k0 (fun p e => by have := hol p e; omega)
  have k1 := kept_own hgr k1 (fun p e => by have := hol p e; omega)
  have k2 := kept_own hgr k2 (fun p e => by have := hol p e; omega)
  have k3 := kept_own hgr k3 (fun p e => by have := hol p e; omega)
  have e1 := kept_own hgr e1 (fun p e => by have := hol p e; omega)
  have e2 := kept_own hgr e2 (fun p e => by have := hol p e; omega)
  have hbx := kept_blk hgr hbx (fun p e => by have := hol p e; omega)
  have hB := hB.grown hgr hB.size (fun p e => by have := hol p e; omega)
  refine ⟨⟨k0, k1, k2, k3, e1, e2⟩, ?_⟩
  try simp only [Act.put, tA, tB, tC]
  refine wpS_lastY (i := 18) (d := some 12) (v := ?_) (by kernel_rfl) rfl rfl (by kernel_rfl) (.inl ⟨by rfl, fun w hw => ?_⟩) ⟨k0, k1, k2, k3, e1, e2⟩ ?_
  rotate_left
  ·clear hw; go_simp; with_reducible rfl
  try simp only [Act.put, tA, tB, tC]
  have HO2 : Hid (w17.ownsRow (W.heap.size + 3) 9 1 (.slice (some ⟨g', 0, none⟩) (k + 1 + 1) c') (k + 1 + 1) (strV (DN :: (List.range (k + 1)).map (mixNum v u p q)))) := Lib.hid (by rw [HLN.out]; exact hown17)
  have HK := Lib.hid (And.intro k0 (And.intro k1 (And.intro k2 k3)))
  have HBX := Lib.hid hbx
  have HB := Lib.hid hB
  clear k0 k1 k2 k3 e1 e2 hbx hB hown17 hgr hat hlt17 hol hown n16 HLN HMN HQ1 HQ2 HQ3
  go_wp2_with fail
  go_roundw
  case rel => exact ⟨k + 1, by omega, by go_num, ⟨_, rfl⟩, HO2.out, HK.out, HBX.out, HB.out⟩
  case measure => simp [intOf]; omega
 ·obtain rfl : n = k := by omega
  obtain ⟨m, hm⟩ : ∃ m, m = n + 1 := ⟨_, rfl⟩
  have hown' := hown
  obtain ⟨_, hx | ⟨g, cap, cur, rfl, hg, hh, h1, h2, h3, h4⟩⟩ := hown
  ·have := hx.2; omega
  have q0 : wr.cell? ⟨g, 0, none⟩ = some (.string DN) := (own_cell hown' rfl).1
  rw [← hm] at h1 hown' ⊢
  have hmc1 : (m : Int) ≤ cap := by omega
  have hm1 : (1 : Int) ≤ m := by omega
  have hm0 : (0 : Int) < m := by omega
  have hcx : (cap : Int) ≤ 9223372036854775807 := by unfold maxLen at h2; omega
  have h11 : (1 : Int) ≤ (n : Int) + 1 := by omega
  have h10 : (0 : Int) < (n : Int) + 1 := by omega
  have eL : (List.range n).map (mixNum v u p q) = mixN v u p q := by unfold mixN; rw [← HN.out.1]
  rw [eL] at hown'
  have hLen : (mixN v u p q).length = n := by unfold mixN; rw [List.length_map, List.length_range]; exact HN.out.1.symm
  have hLS : ∀ t ∈ mixN v u p q, Sized t := fun t ht => by
   unfold mixN at ht
   obtain ⟨j, hj, rfl⟩ := List.mem_map.1 ht
   have hj := List.mem_range.1 hj
   have hj2 : j < u.nums.length := by have := HN.out.1; have := HN.out.2.1; omega
   unfold mixNum
   refine sized_sumT (sized_prodT ?_ ?_) (sized_prodT ?_ ?_)
   ·rw [← HN.out.2.2.2, ← HD.out.1]; exact HSA.out
   ·rw [List.getD_eq_getElem?_getD, List.getElem?_eq_getElem hj]; exact HV.out.sz _ (List.getElem_mem hj)
   ·rw [← HN.out.2.2.1, ← HD.out.2.1]; exact HSB.out
   ·rw [List.getD_eq_getElem?_getD, List.getElem?_eq_getElem hj2]; exact HU.out.sz _ (List.getElem_mem hj2)
  have e1 : divL (mixN v u p q ++ [DN]) = mixAll v u p q := by unfold mixAll mixDen; rw [← HN.out.2.2.1, ← HN.out.2.2.2, ← HD.out.2.2]
  have e2 : (mixAll v u p q).getD n ByteArray.empty = (mixV v u p q).den := by unfold mixV; rw [← HN.out.1]
  have hn64 := HN64.out
  have HLOW : Hid (∀ w, w.ownsRow (W.heap.size + 3) 9 1 (.slice (some ⟨g, 0, none⟩) m cap) m (strV (DN :: mixN v u p q)) → W.heap.size + 3 ≤ w.heap.size → Calls Tryz.prog 56 #[.slice (if cap = 1 then some ⟨g, 0, none⟩ else some ⟨g, 1, none⟩) n (cap - 1), .string DN] w fun e w' => (∃ r : Nat, e = .returned (.agg #[.slice (some ⟨r, 0, none⟩) n (n + 1), .string (mixV v u p q).den]) ∧ w.heap.size ≤ r ∧ BlkB 9 r (strV (mixAll v u p q)) w') ∧ Below (W.heap.size + 3) w w' ∧ ∀ k, k < w.heap.size → k ≠ g → w'.heap[k]? = w.heap[k]?) := Lib.hid (fun w ho hle => by
   have fin : ∀ o, (∀ j (hj : j < (mixN v u p q).length), w.cell? ⟨g, o + j, none⟩ = some (.string (mixN v u p q)[j])) → ((mixN v u p q).length + 1 ≤ cap - 1 → (w.cell? ⟨g, o + (mixN v u p q).length, none⟩).isSome = true ∧ w.frozen? ⟨g, o + (mixN v u p q).length, none⟩ = false ∧ W.heap.size + 3 ≤ g) → Calls Tryz.prog 56 #[.slice (some ⟨g, o, none⟩) n (cap - 1), .string DN] w fun e w' => (∃ r : Nat, e = .returned (.agg #[.slice (some ⟨r, 0, none⟩) n (n + 1), .string (mixV v u p q).den]) ∧ w.heap.size ≤ r ∧ BlkB 9 r (strV (mixAll v u p q)) w') ∧ Below (W.heap.size + 3) w w' ∧ ∀ k, k < w.heap.size → k ≠ g → w'.heap[k]? = w.heap[k]? := fun o hl hsp => by
    have := lowest_f (mixN v u p q) DN g o (cap - 1) (W.heap.size + 3) w hl hLS HSD.out (by omega) (by omega) (by omega) hsp hle
    rw [hLen, e1, e2] at this
    exact this
   by_cases hc : cap = 1
   ·rw [if_pos hc]
    exact fin 0 (fun j hj => by omega) (fun h => by omega)
   ·rw [if_neg hc]
    exact fin 1 (fun j hj => (own_cell ho (j := 1 + j) (by unfold strV; rw [List.getElem?_map, Nat.add_comm, List.getElem?_cons_succ, List.getElem?_eq_getElem hj]; rfl)).1) (fun h => own_room ho (by omega)))
  clear h3 h4 hh k1 k2 k3 e1 e2 eL hLen hLS
  go_upto_region 10 with fail
  have q0 : wr.drew.cell? ⟨g, 0, none⟩ = some (.string DN) := q0
  have hown' := owns_below hown' (Below.refl _ _).drew
  have hbx := hbx.via (Below.refl _ _).drew
  have hB := hB.drew
  refine wp_region_K (fun w' => w'.cell? ⟨g, 0, none⟩ = some (.string DN)) 5 (by kernel_rfl) ?_
  generalize wr.drew = wd4 at *
  refine wpK_takeP (i := 0) (d := some 78) (v := ?_) rfl (by kernel_rfl) (by kernel_rfl) (by kernel_rfl) (by kernel_rfl) rfl (fun _ _ _ h => h) (.inl ⟨by rfl, fun w hw => ?_⟩) (fun h => q0) ?_
  rotate_left
  ·clear hw; go_simp; with_reducible rfl
  try simp only [Act.put, tA, tB, tC]
  refine wpK_tk (i := 1) (d := some 79) (v := ?_) rfl rfl (.inl ⟨by rfl, fun w hw => ?_⟩) q0 ?_
  rotate_left
  ·clear hw; go_simp; with_reducible rfl
  try simp only [Act.put, tA, tB, tC]
  refine wpK_takeP (i := 2) (d := some 80) (v := ?_) rfl (by kernel_rfl) (by kernel_rfl) (by kernel_rfl) (by kernel_rfl) rfl (fun _ _ _ h => h) (.inl ⟨by rfl, fun w hw => ?_⟩) (fun h => q0) ?_
  rotate_left
  ·clear hw; go_simp; with_reducible rfl
  try simp only [Act.put, tA, tB, tC]
  refine wpK_takeP (i := 3) (d := some 81) (v := ?_) rfl (by kernel_rfl) (by kernel_rfl) (by kernel_rfl) (by kernel_rfl) rfl (fun _ _ _ h => h) (.inl ⟨by rfl, fun w hw => ?_⟩) (fun h => q0) ?_
  rotate_left
  ·clear hw; go_simp; with_reducible rfl
  try simp only [Act.put, tA, tB, tC]
  refine wpK_tk (i := 4) (d := some 82) (v := ?_) rfl rfl (.inl ⟨by rfl, fun w hw => ?_⟩) q0 ?_
  rotate_left
  ·(skip); go_simp; with_reducible rfl
  try simp only [Act.put, tA, tB, tC]
  refine wpK_two (i := 5) (j := 6) (by kernel_rfl) ?_ ?_
  focus
   refine wpOp_one (i := 5) rfl rfl ?_
   go_simp
   have hszw := hbx.lt
   refine (HLOW.out _ hown' (by have := hbx.lt; omega)).mono ?_
   rintro e w5 ⟨⟨r, rfl, hr, hbl⟩, hBx, hfr⟩
   have hbx : BlkB 30 (W.heap.size + 1 + 1) [.slice none 0 0, .string ⟨#[]⟩] w5 := (hBx.block _ (by omega)).trans hbx
   have hB : Below W.heap.size W w5 := hB.trans (hBx.mono (by omega))
   have hrW : W.heap.size + 3 ≤ r := by omega
   clear hBx hfr hszw
   try simp only [Act.put, tA, tB, tC]
   have hr5 := hbl.lt
   refine wpK_one (i := 6) (by kernel_rfl) rfl rfl ?_
   go_simp
   have hBx := alloc_belowL w5 (.cells #[.slice none 0 0, .string ⟨#[]⟩] 30)
   have g14 : BlkB 30 w5.heap.size [.slice none 0 0, .string ⟨#[]⟩] (w5.alloc (.cells #[.slice none 0 0, .string ⟨#[]⟩] 30)) := heap_alloc_new w5 _
   have hsx : (w5.alloc (.cells #[.slice none 0 0, .string ⟨#[]⟩] 30)).heap.size = w5.heap.size + 1 := alloc_sizeL _ _
   have hbx0 := hbx.lt
   have hbx := hbx.via hBx
   have hB := belowVia hBx hB
   have hbl := hbl.via hBx
   generalize hp14 : w5.heap.size = p14 at *
   generalize w5.alloc (.cells #[.slice none 0 0, .string ⟨#[]⟩] 30) = w14 at *
   clear hBx hsx
   have hrp : r ≠ p14 := by omega
   have hpw : W.heap.size + 1 + 1 < p14 := by omega
   try simp only [Act.put, tA, tB, tC]
  rotate_left
  focus
   have hgl := (own_lt hown' g rfl).2
   refine wpOp_one (i := 6) rfl rfl ?_
   go_simp
   have hBx := alloc_belowL wd4 (.cells #[.slice none 0 0, .string ⟨#[]⟩] 30)
   have g14 : BlkB 30 wd4.heap.size [.slice none 0 0, .string ⟨#[]⟩] (wd4.alloc (.cells #[.slice none 0 0, .string ⟨#[]⟩] 30)) := heap_alloc_new wd4 _
   have hsx : (wd4.alloc (.cells #[.slice none 0 0, .string ⟨#[]⟩] 30)).heap.size = wd4.heap.size + 1 := alloc_sizeL _ _
   have hbx0 := hbx.lt
   have hbx := hbx.via hBx
   have hB := belowVia hBx hB
   have q0 := keptBelow hBx q0
   have hown' := owns_below hown' hBx
   have hs6 := hsx
   generalize hp14 : wd4.heap.size = p14 at *
   generalize wd4.alloc (.cells #[.slice none 0 0, .string ⟨#[]⟩] 30) = w6 at *
   clear hBx hsx
   try simp only [Act.put, tA, tB, tC]
   refine wpK_one (i := 5) (by kernel_rfl) rfl rfl ?_
   go_simp
   have hszw := hbx.lt
   refine (HLOW.out _ hown' (by have := hbx.lt; omega)).mono ?_
   rintro e w14 ⟨⟨r, rfl, hr, hbl⟩, hBx, hfr⟩
   have hbx : BlkB 30 (W.heap.size + 1 + 1) [.slice none 0 0, .string ⟨#[]⟩] w14 := (hBx.block _ (by omega)).trans hbx
   have hB : Below W.heap.size W w14 := hB.trans (hBx.mono (by omega))
   have g14 : BlkB 30 p14 [.slice none 0 0, .string ⟨#[]⟩] w14 := (hfr p14 (by omega) (by omega)).trans g14
   have hrW : W.heap.size + 3 ≤ r := by omega
   clear hBx hfr hszw
   have hrp : r ≠ p14 := by omega
   have hpw : W.heap.size + 1 + 1 < p14 := by omega
   try simp only [Act.put, tA, tB, tC]
  all_goals (
   refine wpK_store (i := 7) (by kernel_rfl) rfl rfl rfl (by kernel_rfl) (by kernel_rfl) _ _ _ rfl p14 0 [.slice (some ⟨r, 0, none⟩) n (n + 1), .string (mixV v u p q).den] rfl rfl (by intro j hj; rw [Nat.zero_add]; exact ⟨by have : j < 2 := hj; rw [g14.cell (i := j) (List.getElem?_eq_getElem (by simpa using this))]; rfl, g14.froz j⟩) (by rw [info_vec]; rfl) (by intro x hx; simp at hx; rcases hx with rfl | rfl <;> rfl) ?_
   have ho := only_setCells p14 [.slice (some ⟨r, 0, none⟩) n (n + 1), .string (mixV v u p q).den] w14 w14 0 (OnlyAt.refl _ _ g14.lt)
   have hv14 : BlkB 30 p14 [.slice (some ⟨r, 0, none⟩) n (n + 1), .string (mixV v u p q).den] (w14.setCells p14 0 [.slice (some ⟨r, 0, none⟩) n (n + 1), .string (mixV v u p q).den]) := setCells_whole (cs := #[.slice none 0 0, .string ⟨#[]⟩]) [.slice (some ⟨r, 0, none⟩) n (n + 1), .string (mixV v u p q).den] rfl g14
   have hbl14 : BlkB 9 r (strV (mixAll v u p q)) (w14.setCells p14 0 [.slice (some ⟨r, 0, none⟩) n (n + 1), .string (mixV v u p q).den]) := (ho.rest r hrp).trans hbl
   have hbx14 : BlkB 30 (W.heap.size + 1 + 1) [.slice none 0 0, .string ⟨#[]⟩] (w14.setCells p14 0 [.slice (some ⟨r, 0, none⟩) n (n + 1), .string (mixV v u p q).den]) := (ho.rest (W.heap.size + 1 + 1) (by omega)).trans hbx
   have hB14 := below_setCells p14 (by omega : W.heap.size ≤ p14) [.slice (some ⟨r, 0, none⟩) n (n + 1), .string (mixV v u p q).den] w14 0 hB
   generalize w14.setCells p14 0 [.slice (some ⟨r, 0, none⟩) n (n + 1), .string (mixV v u p q).den] = wz at *
   have hml : (mixV v u p q).nums.length = n := by rw [mixV_len]; exact HN.out.1.symm
   have HFO : Hid (∀ w, BlkB 9 r (strV (mixAll v u p q)) w → Calls Tryz.prog 45 #[.agg #[.slice (some ⟨r, 0, none⟩) n (n + 1), .string (mixV v u p q).den]] w fun e w' => e = .returned (.bool (formedV (mixV v u p q))) ∧ Below w.heap.size w w') := Lib.hid (fun w h => by
    have := formed_c (mixV v u p q) (some ⟨r, 0, none⟩) (n + 1) w (mixV_mem h (by have := HN.out.1; omega) (by omega))
    rw [hml] at this; exact this)
   have c0 := hv14.cell (i := 0) rfl
   have c1 := hv14.cell (i := 1) rfl
   clear ho hbl hbx hB hv14 g14 hml
   have HRW := Lib.hid hrW
   have HN6 := Lib.hid hn64
   clear hrW hn64 HLOW HD HT hown' q0
   go_wp2_with fail
   all_goals (
    refine (HFO.out _ hbl14).mono ?_
    rintro e wf ⟨rfl, hBf⟩
    have hbx := hbx14.via hBf
    have HBL := Lib.hid (hbl14.via hBf)
    have HB := Lib.hid (belowVia hBf hB14)
    have c0 := keptBelow hBf c0
    have c1 := keptBelow hBf c1
    have p0 := hbx.cell (i := 0) rfl
    have p1 := hbx.cell (i := 1) rfl
    have f0 := hbx.froz 0
    have f1 := hbx.froz 1
    have hle : W.heap.size ≤ W.heap.size + 1 + 1 := by omega
    have hrq : r ≠ W.heap.size + 1 + 1 := by have := HRW.out; omega
    clear hBf hbx14 hbl14 hB14 HFO
    by_cases hfm : formedV (mixV v u p q) = true
    ·rw [hfm]
     have HE := Lib.hid ((hbx.set 0 (.slice (some ⟨r, 0, none⟩) n (n + 1))).set 1 (.string (mixV v u p q).den))
     have HL2 : Hid (BlkB 9 r (strV (mixAll v u p q)) ((wf.setCell ⟨W.heap.size + 1 + 1, 0, none⟩ (.slice (some ⟨r, 0, none⟩) n (n + 1))).setCell ⟨W.heap.size + 1 + 1, 1, none⟩ (.string (mixV v u p q).den))) := Lib.hid ((heap_setCell_other _ _ _ _ hrq).trans ((heap_setCell_other _ _ _ _ hrq).trans HBL.out))
     have HB2 := Lib.hid ((HB.out.setCell (p := ⟨W.heap.size + 1 + 1, 0, none⟩) hle (.slice (some ⟨r, 0, none⟩) n (n + 1))).setCell (p := ⟨W.heap.size + 1 + 1, 1, none⟩) hle (.string (mixV v u p q).den))
     have HFM := Lib.hid hfm
     clear hbx hfm HB HBL
     go_wp2_with fail
     refine bodyPost_ret (results_vec2 rfl _ _ (W.heap.size + 1 + 1) [.slice (some ⟨r, 0, none⟩) n (n + 1), .string (mixV v u p q).den] (.int .i64 0) rfl rfl rfl HE.out) rfl ?_
     try rw [if_pos HFM.out]
     exact ⟨⟨r, n + 1, rfl, by have := HRW.out; omega, HL2.out, by omega, by have := HN6.out; omega⟩, HB2.out⟩
    ·have hff : formedV (mixV v u p q) = false := by simpa using hfm
     rw [hff]
     have HE := Lib.hid ((hbx.set 0 (.slice none 0 0)).set 1 (.string ⟨#[]⟩))
     have HB2 := Lib.hid ((HB.out.setCell (p := ⟨W.heap.size + 1 + 1, 0, none⟩) hle (.slice none 0 0)).setCell (p := ⟨W.heap.size + 1 + 1, 1, none⟩) hle (.string ⟨#[]⟩))
     have HFM := Lib.hid hfm
     clear hbx hfm hff HB HBL
     go_wp2_with fail
     refine bodyPost_ret (results_vec2 rfl _ _ (W.heap.size + 1 + 1) [.slice none 0 0, .string ⟨#[]⟩] (.int .i64 60) rfl rfl rfl HE.out) rfl ?_
     try rw [if_neg HFM.out]
     exact ⟨rfl, HB2.out⟩))
end Go.Proofs.YtofmjkgaaphnkaaGreatDoor
/- LinSaneP: The chapter's examples: plain mathematics. -/
namespace Go.Proofs.YtofmjkgaaphnkaaGreatDoor
open Putlog

def twoS (a b : Int) : SysP := ⟨2, [([1, 1], a), ([1, -1], b)]⟩
def vEx : VecP := ⟨[⟨#[52]⟩, ⟨#[50]⟩], ⟨#[50]⟩⟩
def noneS : SysP := ⟨0, [([], 0)]⟩
def oneS : SysP := ⟨0, [([], 1)]⟩
def badS : SysP := ⟨1, [([], 0)]⟩
theorem ib1 : intB 1 = ⟨#[49]⟩ := by decide +kernel
theorem ib2 : intB 2 = ⟨#[50]⟩ := by decide +kernel
theorem ib4 : intB 4 = ⟨#[52]⟩ := by decide +kernel
theorem ibm : intB (-1) = ⟨#[45, 49]⟩ := by decide +kernel
theorem vEx_eq : vEx = ⟨[4, 2].map intB, intB 2⟩ := by unfold vEx; rw [← ib2, ← ib4]; rfl
theorem two_valid1 : ValidP (twoS 3 1) := valid_iff.1 (by decide)
theorem two_valid4 : ValidP (twoS 3 4) := valid_iff.1 (by decide)
theorem none_valid : ValidP noneS := valid_iff.1 (by decide)
theorem one_valid : ValidP oneS := valid_iff.1 (by decide)
theorem bad_valid : validS badS = false := by decide
theorem two_valid11 : validS (twoS 1 1) = true := by decide
theorem v65 : validS ⟨65, []⟩ = false := by decide
theorem small_l {l : List Int} (h : ∀ z ∈ l, -9 ≤ z ∧ z ≤ 9) : ∀ z ∈ l, z.natAbs < L100 := fun z hz => by
 have h1 := h z hz
 have h2 : 10 ≤ L100 := by unfold L100; exact Nat.le_self_pow (by decide) 10
 omega
theorem small_1 {z : Int} (h : -9 ≤ z ∧ z ≤ 9) : z.natAbs < L100 := small_l (l := [z]) (fun y hy => by rw [List.mem_singleton] at hy; subst hy; exact h) z (List.mem_singleton.2 rfl)
theorem all_rows2 {p : Nat → Prop} (h0 : p 0) (h1 : p 1) : ∀ r, r < 2 → p r := fun r hr => by
 rcases (by omega : r = 0 ∨ r = 1) with rfl | rfl
 ·exact h0
 ·exact h1
theorem check_31 : checkS (twoS 3 1) vEx = true := check_iff.2 ⟨two_valid1, [4, 2], 2, vEx_eq, small_l (by decide), small_1 (by decide), by decide, by decide, by decide, all_rows2 (by decide) (by decide)⟩
theorem check_32 : checkS (twoS 3 2) vEx = false := by
 rw [Bool.eq_false_iff]
 intro h
 obtain ⟨_, l, d, hv, h1, h2, h3⟩ := check_iff.1 h
 rw [vEx_eq] at hv
 injection hv with e1 e2
 obtain rfl := intB_inj e2
 have e3 : l = [4, 2] := by
  have := congrArg (List.map valI) e1
  rw [valI_ints (by decide), valI_ints (fun z hz => fits_100 (h1 z hz))] at this
  exact this.symm
 subst e3
 have := h3.eqs 1 (by decide)
 revert this; decide
theorem ref_34 : RefP (twoS 3 4) [1, -1] := ⟨by decide, all_rows2 (by decide) (by decide), by decide⟩
theorem refutes_34 : refS (twoS 3 4) [⟨#[49]⟩, ⟨#[45, 49]⟩] = true := ref_iff.2 ⟨two_valid4, [1, -1], by rw [← ib1, ← ibm]; rfl, small_l (by decide), ref_34⟩
theorem refs_of {s : SysP} {w : List ByteArray} {l : List Int} (hw : w = l.map intB) (hl : ∀ z ∈ l, z.natAbs < L100) (h : ¬ RefP s l) : refS s w = false := by
 rw [Bool.eq_false_iff]
 intro h0
 obtain ⟨_, k, hk, h1, h2⟩ := ref_iff.1 h0
 rw [hw] at hk
 have := congrArg (List.map valI) hk
 rw [valI_ints (fun z hz => fits_100 (hl z hz)), valI_ints (fun z hz => fits_100 (h1 z hz))] at this
 rw [this] at h
 exact h h2
theorem refutes_no : refS (twoS 3 4) [⟨#[45, 49]⟩, ⟨#[49]⟩] = false := refs_of (l := [-1, 1]) (by rw [← ib1, ← ibm]; rfl) (small_l (by decide)) (fun h => absurd h.val (by decide))
theorem sol_31 : SolP (twoS 3 1) [4, 2] 2 := ⟨by decide, by decide, by decide, all_rows2 (by decide) (by decide)⟩
theorem refutes_31 : refS (twoS 3 1) [⟨#[49]⟩, ⟨#[45, 49]⟩] = false := refs_of (l := [1, -1]) (by rw [← ib1, ← ibm]; rfl) (small_l (by decide)) (fun h => sol_31.not_ref h)
theorem sol_none : SolP noneS [] 1 := ⟨by decide, by decide, by decide, fun r hr => by
 obtain rfl : r = 0 := by have : r < 1 := hr; omega
 decide⟩
theorem ref_one : RefP oneS [-1] := ⟨by decide, fun j hj => absurd hj (by unfold oneS; simp), by decide⟩
theorem sol_two {l : List Int} {d : Int} (h : SolP (twoS 3 1) l d) : l = [2 * d, d] := by
 have hl : l.length = 2 := by have := h.len; show l.length = 2; unfold twoS at this; simp only at this; omega
 match l, hl with
 | [a, b], _ =>
  have h0 := h.eqs 0 (by decide)
  have h1 := h.eqs 1 (by decide)
  have e0 : sumZ (fun j => sysA (twoS 3 1) j 0 * [a, b].getD j 0) 2 = a + b := by simp [sumZ, sysA, twoS]
  have e1 : sumZ (fun j => sysA (twoS 3 1) j 1 * [a, b].getD j 0) 2 = a - b := by simp [sumZ, sysA, twoS]; omega
  have f0 : sysB (twoS 3 1) 0 = 3 := by decide
  have f1 : sysB (twoS 3 1) 1 = 1 := by decide
  have hc : (twoS 3 1).cols.toNat = 2 := by decide
  rw [hc] at h0 h1
  rw [e0, f0] at h0
  rw [e1, f1] at h1
  have hb : b = d := by omega
  have ha : a = 2 * d := by omega
  rw [hb, ha]
theorem equal_two {l : List Int} {d : Int} (h : SolP (twoS 3 1) l d) (hl : ∀ z ∈ l, z.natAbs < L100) (hd : d.natAbs < L100) : equalS ⟨l.map intB, intB d⟩ vEx = true := by
 rw [vEx_eq]
 have e := sol_two h
 have hlen : l.length = 2 := by rw [e]; rfl
 refine (equal_ints (formed_ints (by omega) hl h.nn hd h.pos) (formed_ints (by decide) (small_l (by decide)) (by decide) (small_1 (by decide)) (by decide)) hl (small_l (by decide)) hd (small_1 (by decide))).2 ⟨hlen, fun i hi => ?_⟩
 rw [hlen] at hi
 subst e
 rcases (by omega : i = 0 ∨ i = 1) with rfl | rfl
 ·show 2 * d * 2 = 4 * d; omega
 ·show d * 2 = 2 * d; omega
def mA : VecP := ⟨[⟨#[49]⟩, ⟨#[48]⟩], ⟨#[49]⟩⟩
def mB : VecP := ⟨[⟨#[48]⟩, ⟨#[49]⟩], ⟨#[49]⟩⟩
theorem mix_alike : alikeV mA mB = true := by decide +kernel
theorem mix_all : mixAll mA mB 1 3 = [⟨#[49]⟩, ⟨#[51]⟩, ⟨#[52]⟩] := by decide +kernel
theorem mix_formed : formedV (mixV mA mB 1 3) = true := by decide +kernel
end Go.Proofs.YtofmjkgaaphnkaaGreatDoor
/- LinTwo: The contracts of two, Strings and Same. -/
namespace Go.Proofs.YtofmjkgaaphnkaaGreatDoor
open Go.RowKit Putlog

theorem below_drewL {B : Nat} {a w : World} (h : Below B a w) (n : Nat) : Below B a (w.drewN n) := ⟨h.os, h.tape, h.output, h.size, h.block⟩
theorem info_sysE : (Tryz.prog.info? 27).map (·.size) = some 2 := by kernel_rfl
theorem ints_blk {w : World} {p : Nat} {l : List Int} {t : TypeId} (h : BlkB t p (intsV l) w) : IntsFrom w (some ⟨p, 0, none⟩) l := .inr ⟨p, 0, rfl, fun j hj => by
 rw [Nat.zero_add]
 exact h.cell (by unfold intsV; rw [List.getElem?_map, List.getElem?_eq_getElem hj, List.getD_eq_getElem?_getD, List.getElem?_eq_getElem hj]; rfl)⟩
theorem two_rows {w : World} {p q r : Nat} {t t' : TypeId} {x y : Int} (h1 : BlkB t p (intsV [1, 1]) w) (h2 : BlkB t q (intsV [1, -1]) w) (h3 : BlkB t' r [.slice (some ⟨p, 0, none⟩) 2 2, .int .i64 x, .slice (some ⟨q, 0, none⟩) 2 2, .int .i64 y] w) (hx : I64 x) (hy : I64 y) : SysM w (twoS x y) (some ⟨r, 0, none⟩) 2 := by
 refine ⟨Nat.le_refl 2, by decide, (show I64 2 by unfold I64; omega), .inr ⟨r, 0, rfl, fun k hk => ?_⟩⟩
 have hk2 : k < 2 := hk
 have hb : ∀ z ∈ ([1, 1] : List Int), I64 z := fun z hz => by simp at hz; subst hz; unfold I64; omega
 have hb2 : ∀ z ∈ ([1, -1] : List Int), I64 z := fun z hz => by simp at hz; unfold I64; omega
 rcases (by omega : k = 0 ∨ k = 1) with rfl | rfl
 ·exact ⟨⟨_, 2, h3.cell rfl, h3.cell rfl, Nat.le_refl 2, by decide, ints_blk h1⟩, hb, hx⟩
 ·exact ⟨⟨_, 2, h3.cell rfl, h3.cell rfl, Nat.le_refl 2, by decide, ints_blk h2⟩, hb2, hy⟩
set_option maxRecDepth 100000 in
set_option maxHeartbeats 1000000 in
theorem two_c (x y : Int) (W : World) (hx : I64 x) (hy : I64 y) :
  Calls Tryz.prog 34 #[.int .i64 x, .int .i64 y] W fun e w' => (∃ a, e = .returned (.agg #[.int .i64 2, .slice a 2 2]) ∧ SysM w' (twoS x y) a 2) ∧ Below W.heap.size W w' := by
 have HX := Lib.hid hx
 have HY := Lib.hid hy
 clear hx hy
 go_enter Tryz.func34, Tryz.ntmps34
 go_wp2_with fail
 have b0 := heap_alloc_new W (.cells #[.int .i64 2, .slice (some ⟨W.heap.size + 1 + 1 + 1, 0, none⟩) 2 2] 27)
 have k0 := alloc_belowL W (.cells #[.int .i64 2, .slice (some ⟨W.heap.size + 1 + 1 + 1, 0, none⟩) 2 2] 27)
 have z0 := alloc_sizeL W (.cells #[.int .i64 2, .slice (some ⟨W.heap.size + 1 + 1 + 1, 0, none⟩) 2 2] 27)
 generalize W.alloc (.cells #[.int .i64 2, .slice (some ⟨W.heap.size + 1 + 1 + 1, 0, none⟩) 2 2] 27) = w0 at *
 have b1 := heap_alloc_new w0 (.cells #[.int .i64 1, .int .i64 1] 3)
 have k1 := alloc_belowL w0 (.cells #[.int .i64 1, .int .i64 1] 3)
 have z1 := alloc_sizeL w0 (.cells #[.int .i64 1, .int .i64 1] 3)
 rw [z0] at b1 z1
 generalize w0.alloc (.cells #[.int .i64 1, .int .i64 1] 3) = w1 at *
 have b2 := heap_alloc_new w1 (.cells #[.int .i64 1, .int .i64 (-1)] 3)
 have k2 := alloc_belowL w1 (.cells #[.int .i64 1, .int .i64 (-1)] 3)
 have z2 := alloc_sizeL w1 (.cells #[.int .i64 1, .int .i64 (-1)] 3)
 rw [z1] at b2 z2
 generalize w1.alloc (.cells #[.int .i64 1, .int .i64 (-1)] 3) = w2 at *
 have b3 := heap_alloc_new w2 (.cells #[.slice (some ⟨W.heap.size + 1, 0, none⟩) 2 2, .int .i64 x, .slice (some ⟨W.heap.size + 1 + 1, 0, none⟩) 2 2, .int .i64 y] 60)
 have k3 := alloc_belowL w2 (.cells #[.slice (some ⟨W.heap.size + 1, 0, none⟩) 2 2, .int .i64 x, .slice (some ⟨W.heap.size + 1 + 1, 0, none⟩) 2 2, .int .i64 y] 60)
 rw [z2] at b3
 generalize w2.alloc (.cells #[.slice (some ⟨W.heap.size + 1, 0, none⟩) 2 2, .int .i64 x, .slice (some ⟨W.heap.size + 1 + 1, 0, none⟩) 2 2, .int .i64 y] 60) = w3 at *
 have B0 : BlkB 27 W.heap.size [.int .i64 2, .slice (some ⟨W.heap.size + 1 + 1 + 1, 0, none⟩) 2 2] w3 := ((BlkB.via (show BlkB _ _ _ w0 from b0) k1).via k2).via k3
 have B1 : BlkB 3 (W.heap.size + 1) (intsV [1, 1]) w3 := (BlkB.via (show BlkB _ _ (intsV [1, 1]) w1 from b1) k2).via k3
 have B2 : BlkB 3 (W.heap.size + 1 + 1) (intsV [1, -1]) w3 := BlkB.via (show BlkB _ _ (intsV [1, -1]) w2 from b2) k3
 refine bodyPost_ret (results_cell_row rfl _ _ W.heap.size _ _ _ _ rfl B0 Tryz.underlying27 rfl info_sysE) rfl ⟨⟨_, rfl, two_rows B1 B2 b3 HX.out HY.out⟩, belowVia k3 (belowVia k2 (belowVia k1 k0))⟩
theorem take_snocS {l m : List ByteArray} {k : Nat} (h1 : k < l.length) (h2 : k < m.length) (h : l.take k = m.take k) (hk : l.getD k ByteArray.empty = m.getD k ByteArray.empty) : l.take (k + 1) = m.take (k + 1) := by
 rw [List.getD_eq_getElem?_getD, List.getD_eq_getElem?_getD, List.getElem?_eq_getElem h1, List.getElem?_eq_getElem h2] at hk
 rw [List.take_succ_eq_append_getElem h1, List.take_succ_eq_append_getElem h2, h]
 simp at hk; rw [hk]
set_option maxRecDepth 100000 in
set_option maxHeartbeats 4000000 in
theorem strings_eq (l m : List ByteArray) (a b : Option Addr) (ca cb : Nat) (W : World) (hl : StrsFrom W a l) (hm : StrsFrom W b m) (h1 : l.length ≤ ca) (h2 : m.length ≤ cb) (h3 : (ca : Int) ≤ 9223372036854775807) (h4 : (cb : Int) ≤ 9223372036854775807) :
  Calls Tryz.prog 61 #[.slice a l.length ca, .slice b m.length cb] W fun e w' => e = .returned (.bool (decide (l = m))) ∧ Below W.heap.size W w' := by
 obtain ⟨n, hn⟩ : ∃ n, n = l.length := ⟨_, rfl⟩
 obtain ⟨q, hq⟩ : ∃ q, q = m.length := ⟨_, rfl⟩
 obtain ⟨res, hres⟩ : ∃ res, res = decide (l = m) := ⟨_, rfl⟩
 have HN := Lib.hid hn
 have HQ := Lib.hid hq
 have HL := Lib.hid hl
 have HM := Lib.hid hm
 have HR := Lib.hid hres
 rw [← hn] at h1 ⊢
 rw [← hq] at h2 ⊢
 rw [← hres]
 clear hn hq hl hm hres
 have hnc : (n : Int) ≤ ca := by omega
 have hqc : (q : Int) ≤ cb := by omega
 clear h1 h2
 by_cases hnq : n = q
 ·obtain rfl : n = q := hnq
  have hne : ((n : Int) != n) = false := by simp
  go_enter Tryz.func61, Tryz.ntmps61
  go_wp2_with fail
  clear hne
  go_loopw [5] (fun i wr => ∃ k : Nat, k ≤ n ∧ i = .int .i64 k ∧ l.take k = m.take k ∧ Below W.heap.size W wr) (fun i _ => n - (intOf i).toNat)
  case atStart => exact ⟨0, Nat.zero_le _, rfl, rfl, Below.refl _ _⟩
  case round =>
   obtain ⟨k, hk, rfl, ht, hB⟩ := hrel
   have HT := Lib.hid ht
   have HB := Lib.hid hB
   clear ht hB
   by_cases hlt : k < n
   ·have hlt' : (k : Int) < n := by omega
    have hk1 : k < l.length := by have := HN.out; omega
    have hk2 : k < m.length := by have := HQ.out; omega
    obtain ⟨g, o, rfl, c0⟩ := HL.out.get hk1
    obtain ⟨g2, o2, rfl, c1⟩ := HM.out.get hk2
    replace c0 := keptBelow HB.out c0
    replace c1 := keptBelow HB.out c1
    have HTS := Lib.hid (take_snocS hk1 hk2 HT.out)
    have HNE : Hid (l[k] ≠ m[k] → l ≠ m) := Lib.hid (fun h e => h (by subst e; rfl))
    rw [List.getD_eq_getElem?_getD, List.getD_eq_getElem?_getD, List.getElem?_eq_getElem hk1, List.getElem?_eq_getElem hk2] at HTS
    simp only [Option.getD_some] at HTS
    generalize l[k] = x at *
    generalize m[k] = y at *
    clear hk1 hk2
    by_cases hxy : x = y
    ·subst hxy
     have hb : (x.toList != x.toList) = false := by simp
     have hb2 : (x.toList == x.toList) = true := by simp
     go_wp2_with fail
     go_quiet (fail)
     go_wp2_with fail
     go_roundw
     case rel => exact ⟨k + 1, by omega, by go_num, HTS.out (by first | rfl | trivial), below_drewL HB.out _⟩
     case measure => simp [intOf]; omega
    ·have hbn : ¬ x.toList = y.toList := fun h => hxy (toList_eqL h)
     have hb : (x.toList != y.toList) = true := by simpa using hbn
     have hb2 : (x.toList == y.toList) = false := by simpa using hbn
     have HF : Hid (res = false) := Lib.hid (by rw [HR.out]; exact decide_eq_false (HNE.out hxy))
     clear hbn
     go_wp2_with fail
     go_quiet (fail)
     go_wp2_with fail
     go_ret
     exact ⟨by rw [HF.out]; rfl, below_drewL HB.out _⟩
   ·obtain rfl : k = n := by omega
    have HF : Hid (res = true) := Lib.hid (by
     rw [HR.out]; refine decide_eq_true ?_
     have := HT.out
     rwa [List.take_of_length_le (by have := HN.out; omega), List.take_of_length_le (by have := HQ.out; omega)] at this)
    clear hlt
    go_wp2_with fail
    go_ret
    exact ⟨by rw [HF.out]; rfl, HB.out⟩
 ·have hne : ((n : Int) != q) = true := by rw [bne_iff_ne]; omega
  have HF : Hid (res = false) := Lib.hid (by
   rw [HR.out]; exact decide_eq_false (fun e => hnq (by rw [HN.out, HQ.out, e])))
  clear hnq
  go_enter Tryz.func61, Tryz.ntmps61
  go_wp2_with fail
  go_ret
  exact ⟨by rw [HF.out]; rfl, Below.refl _ _⟩
/-- Whether two vectors have the same numbers. -/
def sameV (v u : VecP) : Bool := decide (v.den = u.den) && decide (v.nums = u.nums)
set_option maxRecDepth 100000 in
set_option maxHeartbeats 4000000 in
theorem same_c (v u : VecP) (a b : Option Addr) (ca cb : Nat) (W : World) (hv : VecM W v a ca) (hu : VecM W u b cb) :
  Calls Tryz.prog 26 #[.agg #[.slice a v.nums.length ca, .string v.den], .agg #[.slice b u.nums.length cb, .string u.den]] W fun e w' => e = .returned (.bool (sameV v u)) ∧ Below W.heap.size W w' := by
 have HS := Lib.hid (fun w (hB : Below W.heap.size W w) => strings_eq v.nums u.nums a b ca cb w (hv.strs.via hB) (hu.strs.via hB) hv.len hu.len hv.cap hu.cap)
 have HR : Hid (sameV v u = (decide (v.den = u.den) && decide (v.nums = u.nums))) := Lib.hid rfl
 generalize decide (v.nums = u.nums) = rs at *
 generalize v.nums.length = n at *
 generalize u.nums.length = m at *
 generalize sameV v u = res at *
 have hb1 := alloc_belowL W (.cells #[.slice a n ca, .string v.den] 30)
 have b1 : BlkB 30 W.heap.size [.slice a n ca, .string v.den] (W.alloc (.cells #[.slice a n ca, .string v.den] 30)) := heap_alloc_new W _
 have z1 := alloc_sizeL W (.cells #[.slice a n ca, .string v.den] 30)
 have hb2 := alloc_belowL (W.alloc (.cells #[.slice a n ca, .string v.den] 30)) (.cells #[.slice b m cb, .string u.den] 30)
 have b2 : BlkB 30 (W.heap.size + 1) [.slice b m cb, .string u.den] ((W.alloc (.cells #[.slice a n ca, .string v.den] 30)).alloc (.cells #[.slice b m cb, .string u.den] 30)) := by
  rw [← z1]; exact heap_alloc_new _ _
 have b1 := b1.via hb2
 have HB := Lib.hid (belowVia hb2 hb1)
 have c0 := b1.cell (i := 0) rfl
 have c1 := b1.cell (i := 1) rfl
 have d0 := b2.cell (i := 0) rfl
 have d1 := b2.cell (i := 1) rfl
 clear hb1 hb2 b1 b2 z1 hv hu
 generalize hw2 : (W.alloc (.cells #[.slice a n ca, .string v.den] 30)).alloc (.cells #[.slice b m cb, .string u.den] 30) = w2 at *
 have HW2 := Lib.hid hw2
 clear hw2
 generalize v.den = x at *
 generalize u.den = y at *
 by_cases hxy : x = y
 ·subst hxy
  have hb : (x.toList == x.toList) = true := by simp
  go_enter Tryz.func26, Tryz.ntmps26
  go_upto_region 1 with fail
  rw [HW2.out]
  go_wp2_with fail
  refine (HS.out _ HB.out).mono ?_
  rintro e w3 ⟨rfl, hB⟩
  have HB := Lib.hid (belowVia hB HB.out)
  clear hB
  go_wp2_with fail
  go_ret
  exact ⟨by rw [HR.out]; simp, HB.out⟩
 ·have hb : (x.toList == y.toList) = false := by
   rw [beq_eq_false_iff_ne]; exact fun h => hxy (toList_eqL h)
  have HF : Hid (res = false) := Lib.hid (by rw [HR.out]; simp [hxy])
  go_enter Tryz.func26, Tryz.ntmps26
  go_upto_region 1 with fail
  rw [HW2.out]
  go_wp2_with fail
  go_ret
  exact ⟨by rw [HF.out]; rfl, HB.out⟩
end Go.Proofs.YtofmjkgaaphnkaaGreatDoor
/- RegionJ: A region that draws its order: an operation with a guard that is met; two operations in either order, that meet again. Of no program. -/
namespace Putlog
open Go

section
variable {P : Program} {ops : Array Oper} {Q : Exit → Act → World → Prop} {md : Region.Mode} {S : World → Prop}
theorem wpOp_want {i : Nat} {oi : Oper} {K : Act → World → Prop} {a : Act} {w : World} (hi : ops[i]? = some oi) (hw : Region.wanted oi (yielded ops a.tmps) = true) (h : oi.wp P a w K Q) : wpOp P ops Q i K a w := by
 unfold wpOp
 simp only [hi]
 rw [if_pos hw]
 exact .inl h
/-- One operation alone may come up, and it is wanted. -/
theorem wpS_want {i : Nat} {oi : Oper} {fuel : Nat} {listed : Array Bool} {a : Act} {w : World} (hr : Region.ready md ops listed = [i]) (hi : ops[i]? = some oi) (hw : Region.wanted oi (yielded ops a.tmps) = true)
  (h : oi.wp P a w (fun a' w' => S w' ∧ wpS P md ops Q S fuel (listed.setIfInBounds i true) a' w') Q) : wpS P md ops Q S (fuel + 1) listed a w := by
 refine ⟨fun h0 => (by rw [hr] at h0; cases h0), fun j hj => ?_⟩
 rw [hr] at hj
 obtain rfl : j = i := by simpa using hj
 exact wpOp_want hi hw h
theorem put_comm (a : Act) {i j : Tmp} (h : i ≠ j) (x y : Value) : (a.put (some i) x).put (some j) y = (a.put (some j) y).put (some i) x := by
 simp only [Act.put]
 rw [Array.setIfInBounds_comm _ _ h]
/-- Two operations in either order, that meet again in R. -/
theorem wpS_join {i j : Nat} {di dj : Tmp} {fuel : Nat} {listed : Array Bool} {a : Act} {w : World} (R : World → Value → Value → Prop) (hr : Region.ready md ops listed = [i, j])
  (hri : Region.ready md ops (listed.setIfInBounds i true) = [j]) (hrj : Region.ready md ops (listed.setIfInBounds j true) = [i]) (hij : i ≠ j) (hd : di ≠ dj)
  (h1 : ∀ K : Act → World → Prop, (∀ x w', S w' → (∀ K2 : Act → World → Prop, (∀ y w'', S w'' → R w'' x y → K2 ((a.put (some di) x).put (some dj) y) w'') → wpOp P ops Q j K2 (a.put (some di) x) w') → K (a.put (some di) x) w') → wpOp P ops Q i K a w)
  (h2 : ∀ K : Act → World → Prop, (∀ y w', S w' → (∀ K2 : Act → World → Prop, (∀ x w'', S w'' → R w'' x y → K2 ((a.put (some dj) y).put (some di) x) w'') → wpOp P ops Q i K2 (a.put (some dj) y) w') → K (a.put (some dj) y) w') → wpOp P ops Q j K a w)
  (h : ∀ w' x y, R w' x y → S w' → wpS P md ops Q S fuel ((listed.setIfInBounds i true).setIfInBounds j true) ((a.put (some di) x).put (some dj) y) w') : wpS P md ops Q S (fuel + 2) listed a w := by
 refine ⟨fun h0 => (by rw [hr] at h0; cases h0), fun q hq => ?_⟩
 rw [hr] at hq
 rcases List.mem_cons.1 hq with rfl | hq
 ·refine h1 _ fun x w' hs h3 => ⟨hs, fun h0 => (by rw [hri] at h0; cases h0), fun q hq => ?_⟩
  rw [hri] at hq
  obtain rfl : q = j := by simpa using hq
  exact h3 _ fun y w'' hs' hR => ⟨hs', h w'' x y hR hs'⟩
 ·obtain rfl : q = j := by simpa using hq
  refine h2 _ fun y w' hs h3 => ⟨hs, fun h0 => (by rw [hrj] at h0; cases h0), fun q' hq' => ?_⟩
  rw [hrj] at hq'
  obtain rfl : q' = i := by simpa using hq'
  refine h3 _ fun x w'' hs' hR => ⟨hs', ?_⟩
  rw [put_comm a (Ne.symm hd) y x, Array.setIfInBounds_comm _ _ (Ne.symm hij)]
  exact h w'' x y hR hs'
end
end Putlog
/- LinMixNo: Mix of what it refuses. -/
namespace Go.Proofs.YtofmjkgaaphnkaaGreatDoor
open Go.RowKit Putlog

end Go.Proofs.YtofmjkgaaphnkaaGreatDoor
/- LinSolveNo: Solve of a system that is not valid. -/
namespace Go.Proofs.YtofmjkgaaphnkaaGreatDoor
open Go.RowKit Putlog

set_option maxRecDepth 100000 in
set_option maxHeartbeats 4000000 in
theorem solve_no (s : SysP) (a : Option Addr) (ca : Nat) (W : World) (hs : SysM W s a ca) (hv : validS s = false) :
  Calls Tryz.prog 14 #[.agg #[.int .i64 s.cols, .slice a s.rows.length ca]] W fun e w' => e = .returned (.tuple #[.agg zeroA.toArray, .int .i64 60]) ∧ Below W.heap.size W w' := by
 have hb1 := alloc_belowL W (.cells #[.int .i64 s.cols, .slice a s.rows.length ca] 27)
 have hb2 := alloc_belowL (W.alloc (.cells #[.int .i64 s.cols, .slice a s.rows.length ca] 27)) (.cells zeroA.toArray 38)
 have g1 : BlkB 27 W.heap.size [.int .i64 s.cols, .slice a s.rows.length ca] (W.alloc (.cells #[.int .i64 s.cols, .slice a s.rows.length ca] 27)) := heap_alloc_new W _
 have g2 : BlkB 38 (W.heap.size + 1) zeroA ((W.alloc (.cells #[.int .i64 s.cols, .slice a s.rows.length ca] 27)).alloc (.cells zeroA.toArray 38)) := by
  have := heap_alloc_new (W.alloc (.cells #[.int .i64 s.cols, .slice a s.rows.length ca] 27)) (.cells zeroA.toArray 38)
  rw [alloc_sizeL] at this; exact this
 have hbb := belowVia hb2 hb1
 have hsm := hs.via hbb
 have hbx := g1.via hb2
 have k0 := hbx.cell (i := 0) rfl
 have k1 := hbx.cell (i := 1) rfl
 have HSV := Lib.hid (fun w h => valid_c s a ca w h)
 rw [hv] at HSV
 have HBB := Lib.hid hbb
 have HSM := Lib.hid hsm
 have HG2 := Lib.hid g2
 clear hv hb1 hb2 g1 g2 hbb hsm hbx hs
 go_enter Tryz.func14, Tryz.ntmps14
 go_upto_region 1 with fail
 change Code.wp _ _ _ _ ((W.alloc (.cells #[.int .i64 s.cols, .slice a s.rows.length ca] 27)).alloc (.cells zeroA.toArray 38))
 generalize (W.alloc (.cells #[.int .i64 s.cols, .slice a s.rows.length ca] 27)).alloc (.cells zeroA.toArray 38) = w0 at *
 refine wp_scope_index 0 (fun _ _ _ => False) rfl (fun _ _ _ h => h.elim) (fun _ => ?_)
 go_wp2_with fail
 refine (HSV.out _ HSM.out).mono ?_
 rintro e w1 ⟨rfl, hB1⟩
 have hbx := HG2.out.via hB1
 have HB1 := Lib.hid (belowVia hB1 HBB.out)
 have p0 := hbx.cell (i := 0) rfl
 have p1 := hbx.cell (i := 1) rfl
 have p2 := hbx.cell (i := 2) rfl
 have p3 := hbx.cell (i := 3) rfl
 have f0 := hbx.froz 0
 have f1 := hbx.froz 1
 have f2 := hbx.froz 2
 have f3 := hbx.froz 3
 have HBXE := Lib.hid ((((hbx.set 0 (.bool false)).set 1 (.slice none 0 0)).set 2 (.string ⟨#[]⟩)).set 3 (.slice none 0 0))
 have hle : W.heap.size ≤ W.heap.size + 1 := Nat.le_succ _
 have HBE := Lib.hid ((((HB1.out.setCell (p := ⟨W.heap.size + 1, 0, none⟩) hle (.bool false)).setCell (p := ⟨W.heap.size + 1, 1, none⟩) hle (.slice none 0 0)).setCell (p := ⟨W.heap.size + 1, 2, none⟩) hle (.string ⟨#[]⟩)).setCell (p := ⟨W.heap.size + 1, 3, none⟩) hle (.slice none 0 0))
 clear hbx hB1 HG2 HB1 hle HBB HSM k0 k1 HSV
 go_wp2_with fail
 try simp only [Exit.jump]
 refine bodyPost_ret (results_ans rfl _ _ (W.heap.size + 1) zeroA (.int .i64 60) rfl rfl rfl HBXE.out) rfl ?_
 exact ⟨rfl, HBE.out⟩
end Go.Proofs.YtofmjkgaaphnkaaGreatDoor
/- LinValues: The contract of values. -/
namespace Go.Proofs.YtofmjkgaaphnkaaGreatDoor
open Go.RowKit Putlog

theorem valL_take {s : SysP} {k : Nat} (h : k < s.rows.length) : (valL s).take (k + 1) = (valL s).take k ++ [(s.rows.getD k ([], 0)).2] := by
 rw [List.take_add_one]
 congr 1
 unfold valL
 rw [List.getElem?_map, List.getElem?_eq_getElem h, List.getD_eq_getElem?_getD, List.getElem?_eq_getElem h]; rfl
theorem valL_len (s : SysP) : (valL s).length = s.rows.length := by simp [valL]
set_option maxRecDepth 100000 in
set_option maxHeartbeats 4000000 in
theorem values_c (s : SysP) (a : Option Addr) (ca : Nat) (W : World) (hs : SysM W s a ca) (hn18 : s.rows.length ≤ 18) :
  Calls Tryz.prog 65 #[.agg #[.int .i64 s.cols, .slice a s.rows.length ca]] W fun e w' => (∃ a' c, e = .returned (.slice a' s.rows.length c) ∧ s.rows.length ≤ c ∧ (c : Int) ≤ 9223372036854775807 ∧ IntsFrom w' a' (valL s)) ∧ Below W.heap.size W w' := by
 obtain ⟨n, hn⟩ : ∃ n, n = s.rows.length := ⟨_, rfl⟩
 obtain ⟨c, hc⟩ : ∃ c, c = s.cols := ⟨_, rfl⟩
 obtain ⟨j0, hj0, hy0, hy1, hy2⟩ := info_ex inf_int
 have HJ0 := Lib.hid hj0
 have HY0 := Lib.hid hy0
 have HY1 := Lib.hid hy1
 have HY2 := Lib.hid hy2
 have HS := Lib.hid hs
 have HN := Lib.hid hn
 have hca := hs.cap
 have hnc : (n : Int) ≤ ca := by have := hs.len; omega
 have hn1 : (n : Int) ≤ 18 := by omega
 rw [← hn, ← hc]
 have hb1 := alloc_belowL W (.cells #[.int .i64 c, .slice a n ca] 27)
 have g1 : BlkB 27 W.heap.size [.int .i64 c, .slice a n ca] (W.alloc (.cells #[.int .i64 c, .slice a n ca] 27)) := heap_alloc_new W _
 have HB := Lib.hid hb1
 have c1 := g1.cell (i := 1) rfl
 clear hs hn hc hn18 hj0 hy0 hy1 hy2 hb1 g1
 go_enter Tryz.func65, Tryz.ntmps65
 go_wp2_with fail
 generalize W.alloc (.cells #[.int .i64 c, .slice a n ca] 27) = w0 at *
 clear c1
 go_loopw [3, 9] (fun v i wr => ∃ k : Nat, k ≤ n ∧ i = .int .i64 k ∧ (∃ vv : Value, vv = v) ∧ wr.ownsRow W.heap.size 3 1 v k (intsV ((valL s).take k)) ∧ Below W.heap.size W wr) (fun _ i _ => n - (intOf i).toNat)
 case atStart => exact ⟨0, by omega, rfl, ⟨_, rfl⟩, World.ownsRow_nil _ _ _ _, HB.out⟩
 case round =>
  clear HB
  obtain ⟨k, hk, rfl, ⟨v, rfl⟩, hown, hB⟩ := hrel
  by_cases hlt : k < n
  ·have hlt' : (k : Int) < n := by omega
   have hkl : k < s.rows.length := by have := HN.out; omega
   obtain ⟨g, o, rfl, hr⟩ := HS.out.row hkl
   obtain ⟨ra, rc, e0, e1, e2, e3, e4⟩ := hr.ex
   have e0 := keptBelow hB e0
   have e1 := keptBelow hB e1
   have htk := valL_take hkl
   obtain ⟨r, hr'⟩ : ∃ r, r = s.rows.getD k ([], 0) := ⟨_, rfl⟩
   rw [← hr'] at e0 e1 e2 htk
   clear hr hr' e4
   obtain ⟨l, y⟩ := r
   dsimp only at e0 e1 e2 htk
   obtain ⟨m, hm⟩ : ∃ m, m = l.length := ⟨_, rfl⟩
   rw [← hm] at e0 e2
   have hmrc : (m : Int) ≤ rc := by omega
   have hLl : ((valL s).take k).length = k := by rw [List.length_take, valL_len]; have := HN.out; omega
   have HTK := Lib.hid htk
   have hby := alloc_belowL wr (.cells #[.slice ra m rc, .int .i64 y] 60)
   have gby := heap_alloc_new wr (.cells #[.slice ra m rc, .int .i64 y] 60)
   have d1 : (wr.alloc (.cells #[.slice ra m rc, .int .i64 y] 60)).cell? ⟨wr.heap.size, 1, none⟩ = some (.int .i64 y) := (cell_of_row _ _ 1 _ _ _ gby).trans rfl
   have HO2 := Lib.hid (hown.alloc (.cells #[.slice ra m rc, .int .i64 y] 60))
   have HB2 := Lib.hid (belowVia hby hB)
   have HLL := Lib.hid hLl
   clear hm e2 htk hLl hby gby hown hB hkl
   generalize (valL s).take k = L at *
   go_upto_region 5 with fail
   generalize wr.alloc (.cells #[.slice ra m rc, .int .i64 y] 60) = wy at *
   generalize wr.heap.size = q0 at *
   clear e0 e1
   have hb3 := alloc_belowL wy (.cells #[.int .i64 y] 3)
   have n3 : (wy.alloc (.cells #[.int .i64 y] 3)).cell? ⟨wy.heap.size, 0, none⟩ = some (.int .i64 y) := (cell_of_row _ _ 0 _ _ _ (heap_alloc_new wy (.cells #[.int .i64 y] 3))).trans rfl
   have HO3 := Lib.hid (HO2.out.alloc (.cells #[.int .i64 y] 3))
   have HB3 := Lib.hid (belowVia hb3 HB2.out)
   have HN3 := Lib.hid n3
   clear hb3 n3 HO2 HB2
   go_wp2_with (at_builtin; go_must (refine wpList_append_lies _ rfl _ _ 22 rfl W.heap.size 3 j0 (.int .i64 0) 1 8 Tryz.underlying22 HJ0.out HY0.out HY1.out HY2.out rfl (by decide) v k (intsV L) rfl HO3.out ⟨wy.heap.size, 0, none⟩ 1 1 [.int .i64 y] rfl rfl (news_of_cell HN3.out) (one_intC _) (by decide) (by unfold maxLen; omega) (by omega) HB3.out.size _ rfl ?_); intro g' c' w5 hown5 hgr hat hlt5)
   have hB5 := HB3.out.grown hgr HB3.out.size (fun p e => (own_lt HO3.out p e).1)
   have HO5 : Hid (w5.ownsRow W.heap.size 3 1 (.slice (some ⟨g', 0, none⟩) (k + 1) c') (k + 1) (intsV ((valL s).take (k + 1)))) := Lib.hid (by
    rw [HTK.out]; unfold intsV at hown5 ⊢; rw [List.map_append]; exact hown5)
   have HB5 := Lib.hid hB5
   clear hown5 hgr hat hlt5 hB5 HO3 HB3 HN3 HTK d1
   go_wp2_with fail
   go_roundw
   case rel => exact ⟨k + 1, by omega, by go_num, ⟨_, rfl⟩, HO5.out, HB5.out⟩
   case measure => simp [intOf]; omega
  ·obtain rfl : k = n := by omega
   rw [List.take_of_length_le (by rw [valL_len]; have := HN.out; omega)] at hown
   obtain ⟨a', c', rfl, h1, h2, h3, _⟩ := owns_ints (by rw [valL_len]; exact HN.out) hown
   have HX := Lib.hid (And.intro h1 (And.intro h2 h3))
   have HB := Lib.hid hB
   clear h1 h2 h3 hown hB
   go_wp2_with fail
   go_ret
   exact ⟨⟨_, _, rfl, HX.out.1, HX.out.2.1, HX.out.2.2⟩, HB.out⟩
end Go.Proofs.YtofmjkgaaphnkaaGreatDoor
/- LinCheck: The contract of Check. -/
namespace Go.Proofs.YtofmjkgaaphnkaaGreatDoor
open Go.RowKit Putlog

theorem same_words {a b : Int} (h1 : -HM < a ∧ a < HM) (h2 : -HM < b ∧ b < HM) : ((List.range 10).all fun i => wd a i == wd b i) = decide (a = b) := by
 have h := hm_two
 by_cases e : a = b
 ·rw [decide_eq_true e, e]; simp
 ·rw [decide_eq_false e, Bool.eq_false_iff]
  intro k
  have k2 : lowP a 10 = lowP b 10 := lowP_ext 10 (fun i hi => by
   have := List.all_eq_true.1 k i (List.mem_range.2 hi)
   simpa using this)
  unfold lowP at k2
  obtain ⟨q, hq⟩ := Int.dvd_of_emod_eq_zero (Int.emod_eq_emod_iff_emod_sub_eq_zero.1 k2)
  rw [← h] at hq
  generalize HM = M at *
  rcases Int.lt_trichotomy q 0 with c | c | c
  ·have := Int.mul_le_mul_of_nonneg_left (show q ≤ -1 by omega) (show 0 ≤ M + M by omega)
   omega
  ·subst c; omega
  ·have := Int.mul_le_mul_of_nonneg_left (show 1 ≤ q by omega) (show 0 ≤ M + M by omega)
   omega
theorem num_eq {a b : Int} (h1 : -HM < a ∧ a < HM) (h2 : -HM < b ∧ b < HM) (w : World) : (Op.equalIn 10000 81 (.agg (numL a).toArray) (.agg (numL b).toArray)).run Tryz.prog w = .ok (decide (a = b)) w := by
 rw [words_eq, same_words h1 h2]
theorem getD_bnd {l : List Int} {X : Int} (h : ∀ z ∈ l, -X ≤ z ∧ z ≤ X) (hX : 0 ≤ X) (j : Nat) : -X ≤ l.getD j 0 ∧ l.getD j 0 ≤ X := by
 rw [List.getD_eq_getElem?_getD]
 cases e : l[j]? with
 | none => exact ⟨by simpa using hX, by simpa using hX⟩
 | some z => exact h z (List.mem_of_getElem? e)
theorem dot_hm {c l : List Int} (hc : ∀ x ∈ c, -1000000000 ≤ x ∧ x ≤ 1000000000) (hl : ∀ z ∈ l, z.natAbs < L100) {k : Nat} (hk : k ≤ 64) : -HM < dotN c l k ∧ dotN c l k < HM := by
 have h := sumZ_bound (f := fun i => c.getD i 0 * l.getD i 0) (X := 1000000000 * (L100 : Int)) (n := k) (fun i _ => mul_bound (getD_bnd hc (by decide) i) (getD_bnd (X := (L100 : Int)) (fun z hz => by have := hl z hz; omega) (by omega) i))
 rw [← dotN_sum] at h
 have h2 : (k : Int) * (1000000000 * (L100 : Int)) ≤ 64 * (1000000000 * (L100 : Int)) := Int.mul_le_mul_of_nonneg_right (by omega) (by decide)
 have h3 : (64 : Int) * (1000000000 * (L100 : Int)) < HM := by decide
 generalize (k : Int) * (1000000000 * (L100 : Int)) = Y at *
 generalize (64 : Int) * (1000000000 * (L100 : Int)) = Z at *
 omega
theorem len_100 {z : Int} (h : z.natAbs < L100) : (natT z.natAbs).length ≤ 1000 := Nat.le_trans ((natT_len z.natAbs 100 (by decide)).2 h) (by decide)
set_option maxRecDepth 100000 in
set_option maxHeartbeats 8000000 in
theorem check_go (s : SysP) (a : Option Addr) (ca : Nat) (l : List Int) (d : Int) (b : Option Addr) (cb : Nat) (W : World) (hs : SysM W s a ca) (hv : VecM W ⟨l.map intB, intB d⟩ b cb) (hval : ValidP s) (hform : formedV ⟨l.map intB, intB d⟩ = true) (hl : ∀ z ∈ l, z.natAbs < L100) (hd : d.natAbs < L100) (hlen : (l.length : Int) = s.cols) :
  Calls Tryz.prog 19 #[.agg #[.int .i64 s.cols, .slice a s.rows.length ca], .agg #[.slice b l.length cb, .string (intB d)]] W fun e w' => e = .returned (.bool (s.rows.all (solvesR l d))) ∧ Below W.heap.size W w' := by
 obtain ⟨n, hn⟩ : ∃ n, n = s.rows.length := ⟨_, rfl⟩
 obtain ⟨m, hm⟩ : ∃ m, m = l.length := ⟨_, rfl⟩
 obtain ⟨c, hc⟩ : ∃ c, c = s.cols := ⟨_, rfl⟩
 have HS := Lib.hid hs
 have HV := Lib.hid hv
 have HVAL := Lib.hid hval
 have HLB : Hid (l.length ≤ 1000000) := Lib.hid (by have := hval.hi; omega)
 have HL := Lib.hid hl
 have HD := Lib.hid hd
 have HVC := Lib.hid (fun w h => valid_c s a ca w (hs.via h))
 rw [valid_iff.2 hval] at HVC
 have HFC := Lib.hid (fun w h => formed_c ⟨l.map intB, intB d⟩ b cb w (hv.via h))
 rw [hform] at HFC
 have hcb := hv.cap
 have hmc : (m : Int) ≤ cb := by have := hv.len; simp at this; omega
 have hca := hs.cap
 have hnc : (n : Int) ≤ ca := by have := hs.len; omega
 have hmb : (cb : Int) ≤ 1000000 ∨ True := .inr trivial
 have HNN := Lib.hid hn
 have HMM := Lib.hid hm
 have HCC := Lib.hid hc
 have HLEN := Lib.hid hlen
 have hmc2 : (m : Int) = c := by omega
 dsimp only at HFC
 rw [List.length_map] at HFC
 rw [← hn, ← hc] at HVC
 rw [← hm] at HFC
 rw [← hn, ← hm, ← hc]
 have hb1 := alloc_belowL W (.cells #[.int .i64 c, .slice a n ca] 27)
 have hb2 := alloc_belowL (W.alloc (.cells #[.int .i64 c, .slice a n ca] 27)) (.cells #[.slice b m cb, .string (intB d)] 30)
 have g1 : BlkB 27 W.heap.size [.int .i64 c, .slice a n ca] (W.alloc (.cells #[.int .i64 c, .slice a n ca] 27)) := heap_alloc_new W _
 have g2 : BlkB 30 (W.heap.size + 1) [.slice b m cb, .string (intB d)] ((W.alloc (.cells #[.int .i64 c, .slice a n ca] 27)).alloc (.cells #[.slice b m cb, .string (intB d)] 30)) := by
  have := heap_alloc_new (W.alloc (.cells #[.int .i64 c, .slice a n ca] 27)) (.cells #[.slice b m cb, .string (intB d)] 30)
  rw [alloc_sizeL] at this; exact this
 have HB := Lib.hid (belowVia hb2 hb1)
 have g1' := g1.via hb2
 have c0 := g1'.cell (i := 0) rfl
 have c1 := g1'.cell (i := 1) rfl
 have k0 := g2.cell (i := 0) rfl
 have k1 := g2.cell (i := 1) rfl
 clear hs hv hval hform hl hd hn hm hc hlen hb1 hb2 g1 g2 g1' hmb
 go_enter Tryz.func19, Tryz.ntmps19
 go_upto_region 1 with fail
 generalize (W.alloc (.cells #[.int .i64 c, .slice a n ca] 27)).alloc (.cells #[.slice b m cb, .string (intB d)] 30) = w0 at *
 go_wp2_with fail
 refine (HVC.out _ HB.out).mono ?_
 rintro e w1 ⟨rfl, hB1⟩
 have HB1 := Lib.hid (belowVia hB1 HB.out)
 have c0 := keptBelow hB1 c0
 have c1 := keptBelow hB1 c1
 have k0 := keptBelow hB1 k0
 have k1 := keptBelow hB1 k1
 clear hB1 HB
 go_wp2_with fail
 refine (HFC.out _ HB1.out).mono ?_
 rintro e w2 ⟨rfl, hB2⟩
 have HB2 := Lib.hid (belowVia hB2 HB1.out)
 have c0 := keptBelow hB2 c0
 have c1 := keptBelow hB2 c1
 have k0 := keptBelow hB2 k0
 have k1 := keptBelow hB2 k1
 clear hB2 HB1
 have hne : ((m : Int) != c) = false := by simp [hmc2]
 have HRA : Hid (∀ w, StrsFrom w b (l.map intB) → Calls Tryz.prog 46 #[.slice b m cb] w fun e w' => (∃ g, e = .returned (.slice (some ⟨g, 0, none⟩) m m) ∧ w.heap.size ≤ g ∧ NumB g (rowL l) w') ∧ Below w.heap.size w w') := Lib.hid (fun w h => by
  have := readAll_num l b cb w h (fun z hz => len_100 (HL.out z hz)) (by have := HMM.out; omega) HLB.out hcb
  rw [← HMM.out] at this; exact this)
 have HRD : Hid (∀ w g, w.cell? ⟨g, 0, none⟩ = some (.string (intB d)) → Calls Tryz.prog 46 #[.slice (some ⟨g, 0, none⟩) 1 1] w fun e w' => (∃ g, e = .returned (.slice (some ⟨g, 0, none⟩) 1 1) ∧ w.heap.size ≤ g ∧ NumB g (rowL [d]) w') ∧ Below w.heap.size w w') := Lib.hid (fun w g h => readAll_num [d] (some ⟨g, 0, none⟩) 1 w (.inr ⟨g, 0, rfl, fun j hj => by
  obtain rfl : j = 0 := by simpa using hj
  exact h⟩) (fun z hz => by rw [List.mem_singleton] at hz; subst hz; exact len_100 HD.out) (Nat.le_refl _) (by simp) (by decide))
 go_upto_region 3 with fail
 have hst := HV.out.strs.via HB2.out.drew
 dsimp only at hst
 have hB := HB2.out.drew
 have k0 : w2.drew.cell? ⟨W.heap.size + 1, 0, none⟩ = some (.slice b m cb) := k0
 have k1 : w2.drew.cell? ⟨W.heap.size + 1, 1, none⟩ = some (.string (intB d)) := k1
 have c1 : w2.drew.cell? ⟨W.heap.size, 1, none⟩ = some (.slice a n ca) := c1
 clear c0 HB2 HVC HFC
 refine wp_region_K (fun w' => w'.cell? ⟨W.heap.size + 1, 0, none⟩ = some (.slice b m cb) ∧ w'.cell? ⟨W.heap.size + 1, 1, none⟩ = some (.string (intB d))) 8 (by kernel_rfl) ?_
 generalize w2.drew = wd at *
 refine wpK_tk (i := 0) (d := some 25) (v := ?_) rfl rfl (.inl ⟨by rfl, fun w hw => ?_⟩) ⟨k0, k1⟩ ?_
 rotate_left
 ·clear hw; go_simp; with_reducible rfl
 try simp only [Act.put, tA, tB, tC]
 refine wpK_tk (i := 1) (d := some 26) (v := ?_) rfl rfl (.inl ⟨by rfl, fun w hw => ?_⟩) ⟨k0, k1⟩ ?_
 rotate_left
 ·(obtain ⟨_, _⟩ := hw); go_simp; with_reducible rfl
 try simp only [Act.put, tA, tB, tC]
 refine wpK_tk (i := 3) (d := some 28) (v := ?_) rfl rfl (.inl ⟨by rfl, fun w hw => ?_⟩) ⟨k0, k1⟩ ?_
 rotate_left
 ·clear hw; go_simp; with_reducible rfl
 try simp only [Act.put, tA, tB, tC]
 refine wpK_tk (i := 4) (d := some 29) (v := ?_) rfl rfl (.inl ⟨by rfl, fun w hw => ?_⟩) ⟨k0, k1⟩ ?_
 rotate_left
 ·(obtain ⟨_, _⟩ := hw); go_simp; with_reducible rfl
 try simp only [Act.put, tA, tB, tC]
 refine wpK_two (i := 2) (j := 5) (by kernel_rfl) ?_ ?_
 focus
  refine wpOp_one (i := 2) rfl rfl ?_
  go_simp
  refine (HRA.out _ hst).mono ?_
  rintro e wx1 ⟨⟨g1, rfl, hg1, h1⟩, hBx⟩
  have k0 := keptBelow hBx k0
  have k1 := keptBelow hBx k1
  have c1 := keptBelow hBx c1
  have hst := hst.via hBx
  have hB := belowVia hBx hB
  try have n5 := keptBelow hBx n5
  clear hBx hg1
  refine ⟨⟨k0, k1⟩, ?_⟩
  try simp only [Act.put, tA, tB, tC]
  refine wpK_one (i := 5) (by kernel_rfl) rfl rfl ?_
  go_simp
  have hBx := alloc_belowL wx1 (.cells #[.string (intB d)] 9)
  have k0 := keptBelow hBx k0
  have k1 := keptBelow hBx k1
  have c1 := keptBelow hBx c1
  have hst := hst.via hBx
  have hB := belowVia hBx hB
  try have h1 := h1.via hBx
  have n5 : (wx1.alloc (.cells #[.string (intB d)] 9)).cell? ⟨wx1.heap.size, 0, none⟩ = some (.string (intB d)) := (cell_of_row _ _ 0 _ _ _ (heap_alloc_new wx1 (.cells #[.string (intB d)] 9))).trans rfl
  generalize wx1.heap.size = p5 at *
  generalize wx1.alloc (.cells #[.string (intB d)] 9) = wx2 at *
  clear hBx
  refine ⟨⟨k0, k1⟩, ?_⟩
  try simp only [Act.put, tA, tB, tC]
  refine wpK_one (i := 6) (by kernel_rfl) rfl rfl ?_
  go_simp
  refine (HRD.out _ _ n5).mono ?_
  rintro e w3 ⟨⟨g2, rfl, hg2, h2⟩, hBx⟩
  have k0 := keptBelow hBx k0
  have k1 := keptBelow hBx k1
  have c1 := keptBelow hBx c1
  have hst := hst.via hBx
  have hB := belowVia hBx hB
  have h1 := h1.via hBx
  clear hBx hg2 n5
  refine ⟨⟨k0, k1⟩, ?_⟩
  try simp only [Act.put, tA, tB, tC]
  refine wpK_tk (i := 7) (d := some 5) (v := ?_) rfl rfl (.inl ⟨by rfl, fun w hw => ?_⟩) ⟨k0, k1⟩ ?_
  rotate_left
  ·clear hw; go_simp; with_reducible rfl
  try simp only [Act.put, tA, tB, tC]
  refine wpK_lastY (i := 8) (d := some 6) (v := ?_) (by kernel_rfl) rfl rfl (by kernel_rfl) (by kernel_rfl) (.inl ⟨by rfl, fun w hw => ?_⟩) ⟨k0, k1⟩ ?_
  rotate_left
  ·clear hw; go_simp; with_reducible rfl
  try simp only [Act.put, tA, tB, tC]
 rotate_left 1
 focus
  refine wpOp_one (i := 5) rfl rfl ?_
  go_simp
  have hBx := alloc_belowL wd (.cells #[.string (intB d)] 9)
  have k0 := keptBelow hBx k0
  have k1 := keptBelow hBx k1
  have c1 := keptBelow hBx c1
  have hst := hst.via hBx
  have hB := belowVia hBx hB
  try have h1 := h1.via hBx
  have n5 : (wd.alloc (.cells #[.string (intB d)] 9)).cell? ⟨wd.heap.size, 0, none⟩ = some (.string (intB d)) := (cell_of_row _ _ 0 _ _ _ (heap_alloc_new wd (.cells #[.string (intB d)] 9))).trans rfl
  generalize wd.heap.size = p5 at *
  generalize wd.alloc (.cells #[.string (intB d)] 9) = wx3 at *
  clear hBx
  refine ⟨⟨k0, k1⟩, ?_⟩
  try simp only [Act.put, tA, tB, tC]
  refine wpK_one (i := 2) (by kernel_rfl) rfl rfl ?_
  go_simp
  refine (HRA.out _ hst).mono ?_
  rintro e wx4 ⟨⟨g1, rfl, hg1, h1⟩, hBx⟩
  have k0 := keptBelow hBx k0
  have k1 := keptBelow hBx k1
  have c1 := keptBelow hBx c1
  have hst := hst.via hBx
  have hB := belowVia hBx hB
  try have n5 := keptBelow hBx n5
  clear hBx hg1
  refine ⟨⟨k0, k1⟩, ?_⟩
  try simp only [Act.put, tA, tB, tC]
  refine wpK_one (i := 6) (by kernel_rfl) rfl rfl ?_
  go_simp
  refine (HRD.out _ _ n5).mono ?_
  rintro e w3 ⟨⟨g2, rfl, hg2, h2⟩, hBx⟩
  have k0 := keptBelow hBx k0
  have k1 := keptBelow hBx k1
  have c1 := keptBelow hBx c1
  have hst := hst.via hBx
  have hB := belowVia hBx hB
  have h1 := h1.via hBx
  clear hBx hg2 n5
  refine ⟨⟨k0, k1⟩, ?_⟩
  try simp only [Act.put, tA, tB, tC]
  refine wpK_tk (i := 7) (d := some 5) (v := ?_) rfl rfl (.inl ⟨by rfl, fun w hw => ?_⟩) ⟨k0, k1⟩ ?_
  rotate_left
  ·clear hw; go_simp; with_reducible rfl
  try simp only [Act.put, tA, tB, tC]
  refine wpK_lastY (i := 8) (d := some 6) (v := ?_) (by kernel_rfl) rfl rfl (by kernel_rfl) (by kernel_rfl) (.inl ⟨by rfl, fun w hw => ?_⟩) ⟨k0, k1⟩ ?_
  rotate_left
  ·clear hw; go_simp; with_reducible rfl
  try simp only [Act.put, tA, tB, tC]
 all_goals (
  go_wp2_with fail
  have H1 := Lib.hid h1
  have H2 := Lib.hid h2
  have C1 := Lib.hid c1
  have HB := Lib.hid hB
  clear h1 h2 c1 k0 k1 hst hB HRA HRD
  go_loopw [35] (fun i wr => ∃ k : Nat, k ≤ n ∧ i = .int .i64 k ∧ (s.rows.take k).all (solvesR l d) = true ∧ NumB g1 (rowL l) wr ∧ NumB g2 (rowL [d]) wr ∧ wr.cell? ⟨W.heap.size, 1, none⟩ = some (.slice a n ca) ∧ Below W.heap.size W wr) (fun i _ => n - (intOf i).toNat)
  case atStart => exact ⟨0, by omega, rfl, rfl, H1.out, H2.out, C1.out, HB.out⟩
  case round =>
   clear H1 H2 C1 HB
   obtain ⟨k, hk, rfl, hall, h1, h2, c1, hB⟩ := hrel
   have HALL := Lib.hid hall
   clear hall
   by_cases hlt : k < n
   ·have hlt' : (k : Int) < n := by omega
    have hkl : k < s.rows.length := by have := HNN.out; omega
    obtain ⟨g, o, rfl, hr⟩ := HS.out.row hkl
    obtain ⟨ra, rc, d0, d1, d2, d3, d4⟩ := hr.ex
    have d0 := keptBelow hB d0
    have d1 := keptBelow hB d1
    have hra := d4.via hB
    have hmem := getD_memR hkl
    have hrl := HVAL.out.len _ hmem
    have hco := HVAL.out.coef _ hmem
    have hva := HVAL.out.val _ hmem
    have hge := getD_rows hkl
    have HAT := Lib.hid (fun h => all_take (p := solvesR l d) HALL.out hkl h)
    have HNA := Lib.hid (fun h => not_all (p := solvesR l d) hkl h)
    rw [← hge] at HAT HNA
    obtain ⟨r, hr⟩ : ∃ r, r = s.rows.getD k ([], 0) := ⟨_, rfl⟩
    rw [← hr] at d0 d1 d2 hra HAT HNA hrl hco hva
    obtain ⟨lr, v⟩ := r
    dsimp only at d0 d1 d2 hra hrl hco hva
    have hrm : lr.length = m := by have := HCC.out; have := HMM.out; omega
    rw [hrm] at d0 d2
    have hmrc : (m : Int) ≤ rc := by omega
    have HWE : Hid (∀ w, IntsFrom w ra lr → NumB g1 (rowL l) w → Calls Tryz.prog 47 #[.slice ra m rc, .slice (some ⟨g1, 0, none⟩) m m] w fun e w' => e = .returned (.agg (numL (dotN lr l m)).toArray) ∧ Below w.heap.size w w') := Lib.hid (fun w h h' => by
     have := weighted_num lr l ra rc g1 0 m m w h (fun x hx => by have := hco x hx; omega) h'.nums (by omega) (by have := HMM.out; omega) ⟨by omega, d3⟩ ⟨Nat.le_refl _, by omega⟩
     rw [hrm] at this; exact this)
    have HWV : Hid (∀ w p, w.cell? ⟨p, 0, none⟩ = some (.int .i64 v) → NumB g2 (rowL [d]) w → Calls Tryz.prog 47 #[.slice (some ⟨p, 0, none⟩) 1 1, .slice (some ⟨g2, 0, none⟩) 1 1] w fun e w' => e = .returned (.agg (numL (v * d)).toArray) ∧ Below w.heap.size w w') := Lib.hid (fun w p h h' => by
     have := weighted_num [v] [d] (some ⟨p, 0, none⟩) 1 g2 0 1 1 w (.inr ⟨p, 0, rfl, fun j hj => by
      obtain rfl : j = 0 := by simpa using hj
      exact h⟩) (fun x hx => by rw [List.mem_singleton] at hx; subst hx; omega) h'.nums (Nat.le_refl _) (Nat.le_refl _) ⟨Nat.le_refl _, by decide⟩ ⟨Nat.le_refl _, by decide⟩
     have e : dotN [v] [d] 1 = v * d := by show 0 + v * d = v * d; omega
     rw [show ([v] : List Int).length = 1 from rfl, e] at this; exact this)
    have HSO : Hid (solvesR l d (lr, v) = decide (dotN lr l m = v * d)) := Lib.hid (by unfold solvesR; rw [hrm])
    have HEQ : Hid (∀ w, (Op.equalIn 10000 81 (.agg (numL (dotN lr l m)).toArray) (.agg (numL (v * d)).toArray)).run Tryz.prog w = .ok (decide (dotN lr l m = v * d)) w) := Lib.hid (fun w => num_eq (dot_hm (fun x hx => by have := hco x hx; omega) HL.out (by have := HVAL.out.hi; omega)) (by
     have e : dotN [v] [d] 1 = v * d := by show 0 + v * d = v * d; omega
     rw [← e]
     exact dot_hm (fun x hx => by rw [List.mem_singleton] at hx; subst hx; exact hva) (fun z hz => by rw [List.mem_singleton] at hz; subst hz; exact HD.out) (by decide)) w)
    have hb2 := alloc_belowL wr (.cells #[.slice ra m rc, .int .i64 v] 60)
    have g2' : BlkB 60 wr.heap.size [.slice ra m rc, .int .i64 v] (wr.alloc (.cells #[.slice ra m rc, .int .i64 v] 60)) := heap_alloc_new wr _
    have r0 := g2'.cell (i := 0) rfl
    have r1 := g2'.cell (i := 1) rfl
    have HCO := Lib.hid (And.intro hrm (And.intro hco hva))
    have H1 := Lib.hid (h1.via hb2)
    have H2 := Lib.hid (h2.via hb2)
    have C1 := Lib.hid (keptBelow hb2 c1)
    have HRA := Lib.hid (hra.via hb2)
    have HB := Lib.hid (belowVia hb2 hB)
    clear d4 hmem hrl hco hva hge hr hkl hb2 g2' hra hrm h1 h2 c1 hB d2 d3 HALL
    go_upto_region 7 with fail
    generalize wr.alloc (.cells #[.slice ra m rc, .int .i64 v] 60) = wq at *
    generalize wr.heap.size = pr at *
    have h1 := H1.out.via (Below.refl _ _).drew
    have h2 := H2.out.via (Below.refl _ _).drew
    have c1 : wq.drew.cell? ⟨W.heap.size, 1, none⟩ = some (.slice (some ⟨g, o, none⟩) n ca) := C1.out
    have r0 : wq.drew.cell? ⟨pr, 0, none⟩ = some (.slice ra m rc) := r0
    have r1 : wq.drew.cell? ⟨pr, 1, none⟩ = some (.int .i64 v) := r1
    have hra := HRA.out.via (Below.refl _ _).drew
    have hB := HB.out.drew
    clear H1 H2 C1 HRA HB d0 d1
    refine wp_region_K (fun w' => w'.cell? ⟨pr, 0, none⟩ = some (.slice ra m rc) ∧ w'.cell? ⟨pr, 1, none⟩ = some (.int .i64 v)) 9 (by kernel_rfl) ?_
    generalize wq.drew = wd at *
    refine wpK_takeP (i := 0) (d := some 39) (v := ?_) rfl (by kernel_rfl) (by kernel_rfl) (by kernel_rfl) (by kernel_rfl) rfl (fun _ _ _ h => h) (.inl ⟨by rfl, fun w hw => ?_⟩) (fun h => ⟨r0, r1⟩) ?_
    rotate_left
    ·clear hw; go_simp; with_reducible rfl
    try simp only [Act.put, tA, tB, tC]
    refine wpK_takeP (i := 2) (d := some 41) (v := ?_) rfl (by kernel_rfl) (by kernel_rfl) (by kernel_rfl) (by kernel_rfl) rfl (fun _ _ _ h => h) (.inl ⟨by rfl, fun w hw => ?_⟩) (fun h => ⟨r0, r1⟩) ?_
    rotate_left
    ·clear hw; go_simp; with_reducible rfl
    try simp only [Act.put, tA, tB, tC]
    refine wpK_takeP (i := 4) (d := some 43) (v := ?_) rfl (by kernel_rfl) (by kernel_rfl) (by kernel_rfl) (by kernel_rfl) rfl (fun _ _ _ h => h) (.inl ⟨by rfl, fun w hw => ?_⟩) (fun h => ⟨r0, r1⟩) ?_
    rotate_left
    ·clear hw; go_simp; with_reducible rfl
    try simp only [Act.put, tA, tB, tC]
    refine wpK_takeP (i := 7) (d := some 46) (v := ?_) rfl (by kernel_rfl) (by kernel_rfl) (by kernel_rfl) (by kernel_rfl) rfl (fun _ _ _ h => h) (.inl ⟨by rfl, fun w hw => ?_⟩) (fun h => ⟨r0, r1⟩) ?_
    rotate_left
    ·clear hw; go_simp; with_reducible rfl
    try simp only [Act.put, tA, tB, tC]
    refine wpK_two (i := 1) (j := 5) (by kernel_rfl) ?_ ?_
    focus
     refine wpOp_one (i := 1) rfl rfl ?_
     go_simp
     first | refine ⟨⟨r0, r1⟩, ?_⟩ | skip
     try simp only [Act.put, tA, tB, tC]
     refine wpK_two (i := 3) (j := 5) (by kernel_rfl) ?_ ?_
     focus
      refine wpOp_one (i := 3) rfl rfl ?_
      go_simp
      refine (HWE.out _ hra h1).mono ?_
      rintro e wx5 ⟨rfl, hBx⟩
      have r0 := keptBelow hBx r0
      have r1 := keptBelow hBx r1
      have h1 := h1.via hBx
      have h2 := h2.via hBx
      have c1 := keptBelow hBx c1
      have hra := hra.via hBx
      have hB := belowVia hBx hB
      try have n6 := keptBelow hBx n6
      clear hBx
      first | refine ⟨⟨r0, r1⟩, ?_⟩ | skip
      try simp only [Act.put, tA, tB, tC]
      refine wpK_one (i := 5) (by kernel_rfl) rfl rfl ?_
      go_simp
      first | refine ⟨⟨r0, r1⟩, ?_⟩ | skip
      try simp only [Act.put, tA, tB, tC]
      refine wpK_one (i := 6) (by kernel_rfl) rfl rfl ?_
      go_simp
      have hBx := alloc_belowL wx5 (.cells #[.int .i64 v] 3)
      have r0 := keptBelow hBx r0
      have r1 := keptBelow hBx r1
      have h1 := h1.via hBx
      have h2 := h2.via hBx
      have c1 := keptBelow hBx c1
      have hra := hra.via hBx
      have hB := belowVia hBx hB
      have n6 : (wx5.alloc (.cells #[.int .i64 v] 3)).cell? ⟨wx5.heap.size, 0, none⟩ = some (.int .i64 v) := (cell_of_row _ _ 0 _ _ _ (heap_alloc_new wx5 (.cells #[.int .i64 v] 3))).trans rfl
      generalize wx5.heap.size = p6 at *
      generalize wx5.alloc (.cells #[.int .i64 v] 3) = wx6 at *
      clear hBx
      first | refine ⟨⟨r0, r1⟩, ?_⟩ | skip
      try simp only [Act.put, tA, tB, tC]
      refine wpK_one (i := 8) (by kernel_rfl) rfl rfl ?_
      go_simp
      refine (HWV.out _ _ n6 h2).mono ?_
      rintro e w7 ⟨rfl, hBx⟩
      have r0 := keptBelow hBx r0
      have r1 := keptBelow hBx r1
      have h1 := h1.via hBx
      have h2 := h2.via hBx
      have c1 := keptBelow hBx c1
      have hra := hra.via hBx
      have hB := belowVia hBx hB
      clear hBx n6
      first | refine ⟨⟨r0, r1⟩, ?_⟩ | skip
      try simp only [Act.put, tA, tB, tC]
      refine wpK_lastY (i := 9) (d := some 48) (v := ?_) (by kernel_rfl) rfl rfl (by kernel_rfl) (by kernel_rfl) (.inl ⟨by rfl, fun w hw => ?_⟩) ⟨r0, r1⟩ ?_
      rotate_left
      ·clear hw; go_simp; simp only [HEQ.out, Result.andThen_ok]; rfl
      try simp only [Act.put, tA, tB, tC]
     rotate_left 1
     focus
      refine wpOp_one (i := 5) rfl rfl ?_
      go_simp
      first | refine ⟨⟨r0, r1⟩, ?_⟩ | skip
      try simp only [Act.put, tA, tB, tC]
      refine wpK_two (i := 3) (j := 6) (by kernel_rfl) ?_ ?_
      focus
       refine wpOp_one (i := 3) rfl rfl ?_
       go_simp
       refine (HWE.out _ hra h1).mono ?_
       rintro e wx7 ⟨rfl, hBx⟩
       have r0 := keptBelow hBx r0
       have r1 := keptBelow hBx r1
       have h1 := h1.via hBx
       have h2 := h2.via hBx
       have c1 := keptBelow hBx c1
       have hra := hra.via hBx
       have hB := belowVia hBx hB
       try have n6 := keptBelow hBx n6
       clear hBx
       first | refine ⟨⟨r0, r1⟩, ?_⟩ | skip
       try simp only [Act.put, tA, tB, tC]
       refine wpK_one (i := 6) (by kernel_rfl) rfl rfl ?_
       go_simp
       have hBx := alloc_belowL wx7 (.cells #[.int .i64 v] 3)
       have r0 := keptBelow hBx r0
       have r1 := keptBelow hBx r1
       have h1 := h1.via hBx
       have h2 := h2.via hBx
       have c1 := keptBelow hBx c1
       have hra := hra.via hBx
       have hB := belowVia hBx hB
       have n6 : (wx7.alloc (.cells #[.int .i64 v] 3)).cell? ⟨wx7.heap.size, 0, none⟩ = some (.int .i64 v) := (cell_of_row _ _ 0 _ _ _ (heap_alloc_new wx7 (.cells #[.int .i64 v] 3))).trans rfl
       generalize wx7.heap.size = p6 at *
       generalize wx7.alloc (.cells #[.int .i64 v] 3) = wx8 at *
       clear hBx
       first | refine ⟨⟨r0, r1⟩, ?_⟩ | skip
       try simp only [Act.put, tA, tB, tC]
       refine wpK_one (i := 8) (by kernel_rfl) rfl rfl ?_
       go_simp
       refine (HWV.out _ _ n6 h2).mono ?_
       rintro e w7 ⟨rfl, hBx⟩
       have r0 := keptBelow hBx r0
       have r1 := keptBelow hBx r1
       have h1 := h1.via hBx
       have h2 := h2.via hBx
       have c1 := keptBelow hBx c1
       have hra := hra.via hBx
       have hB := belowVia hBx hB
       clear hBx n6
       first | refine ⟨⟨r0, r1⟩, ?_⟩ | skip
       try simp only [Act.put, tA, tB, tC]
       refine wpK_lastY (i := 9) (d := some 48) (v := ?_) (by kernel_rfl) rfl rfl (by kernel_rfl) (by kernel_rfl) (.inl ⟨by rfl, fun w hw => ?_⟩) ⟨r0, r1⟩ ?_
       rotate_left
       ·clear hw; go_simp; simp only [HEQ.out, Result.andThen_ok]; rfl
       try simp only [Act.put, tA, tB, tC]
      rotate_left 1
      focus
       refine wpOp_one (i := 6) rfl rfl ?_
       go_simp
       have hBx := alloc_belowL wd (.cells #[.int .i64 v] 3)
       have r0 := keptBelow hBx r0
       have r1 := keptBelow hBx r1
       have h1 := h1.via hBx
       have h2 := h2.via hBx
       have c1 := keptBelow hBx c1
       have hra := hra.via hBx
       have hB := belowVia hBx hB
       have n6 : (wd.alloc (.cells #[.int .i64 v] 3)).cell? ⟨wd.heap.size, 0, none⟩ = some (.int .i64 v) := (cell_of_row _ _ 0 _ _ _ (heap_alloc_new wd (.cells #[.int .i64 v] 3))).trans rfl
       generalize wd.heap.size = p6 at *
       generalize wd.alloc (.cells #[.int .i64 v] 3) = wx9 at *
       clear hBx
       first | refine ⟨⟨r0, r1⟩, ?_⟩ | skip
       try simp only [Act.put, tA, tB, tC]
       refine wpK_one (i := 3) (by kernel_rfl) rfl rfl ?_
       go_simp
       refine (HWE.out _ hra h1).mono ?_
       rintro e wx10 ⟨rfl, hBx⟩
       have r0 := keptBelow hBx r0
       have r1 := keptBelow hBx r1
       have h1 := h1.via hBx
       have h2 := h2.via hBx
       have c1 := keptBelow hBx c1
       have hra := hra.via hBx
       have hB := belowVia hBx hB
       try have n6 := keptBelow hBx n6
       clear hBx
       first | refine ⟨⟨r0, r1⟩, ?_⟩ | skip
       try simp only [Act.put, tA, tB, tC]
       refine wpK_one (i := 8) (by kernel_rfl) rfl rfl ?_
       go_simp
       refine (HWV.out _ _ n6 h2).mono ?_
       rintro e w7 ⟨rfl, hBx⟩
       have r0 := keptBelow hBx r0
       have r1 := keptBelow hBx r1
       have h1 := h1.via hBx
       have h2 := h2.via hBx
       have c1 := keptBelow hBx c1
       have hra := hra.via hBx
       have hB := belowVia hBx hB
       clear hBx n6
       first | refine ⟨⟨r0, r1⟩, ?_⟩ | skip
       try simp only [Act.put, tA, tB, tC]
       refine wpK_lastY (i := 9) (d := some 48) (v := ?_) (by kernel_rfl) rfl rfl (by kernel_rfl) (by kernel_rfl) (.inl ⟨by rfl, fun w hw => ?_⟩) ⟨r0, r1⟩ ?_
       rotate_left
       ·clear hw; go_simp; simp only [HEQ.out, Result.andThen_ok]; rfl
       try simp only [Act.put, tA, tB, tC]
    rotate_left 3
    focus
     refine wpOp_one (i := 5) rfl rfl ?_
     go_simp
     first | refine ⟨⟨r0, r1⟩, ?_⟩ | skip
     try simp only [Act.put, tA, tB, tC]
     refine wpK_two (i := 1) (j := 6) (by kernel_rfl) ?_ ?_
     focus
      refine wpOp_one (i := 1) rfl rfl ?_
      go_simp
      first | refine ⟨⟨r0, r1⟩, ?_⟩ | skip
      try simp only [Act.put, tA, tB, tC]
      refine wpK_two (i := 3) (j := 6) (by kernel_rfl) ?_ ?_
      focus
       refine wpOp_one (i := 3) rfl rfl ?_
       go_simp
       refine (HWE.out _ hra h1).mono ?_
       rintro e wx11 ⟨rfl, hBx⟩
       have r0 := keptBelow hBx r0
       have r1 := keptBelow hBx r1
       have h1 := h1.via hBx
       have h2 := h2.via hBx
       have c1 := keptBelow hBx c1
       have hra := hra.via hBx
       have hB := belowVia hBx hB
       try have n6 := keptBelow hBx n6
       clear hBx
       first | refine ⟨⟨r0, r1⟩, ?_⟩ | skip
       try simp only [Act.put, tA, tB, tC]
       refine wpK_one (i := 6) (by kernel_rfl) rfl rfl ?_
       go_simp
       have hBx := alloc_belowL wx11 (.cells #[.int .i64 v] 3)
       have r0 := keptBelow hBx r0
       have r1 := keptBelow hBx r1
       have h1 := h1.via hBx
       have h2 := h2.via hBx
       have c1 := keptBelow hBx c1
       have hra := hra.via hBx
       have hB := belowVia hBx hB
       have n6 : (wx11.alloc (.cells #[.int .i64 v] 3)).cell? ⟨wx11.heap.size, 0, none⟩ = some (.int .i64 v) := (cell_of_row _ _ 0 _ _ _ (heap_alloc_new wx11 (.cells #[.int .i64 v] 3))).trans rfl
       generalize wx11.heap.size = p6 at *
       generalize wx11.alloc (.cells #[.int .i64 v] 3) = wx12 at *
       clear hBx
       first | refine ⟨⟨r0, r1⟩, ?_⟩ | skip
       try simp only [Act.put, tA, tB, tC]
       refine wpK_one (i := 8) (by kernel_rfl) rfl rfl ?_
       go_simp
       refine (HWV.out _ _ n6 h2).mono ?_
       rintro e w7 ⟨rfl, hBx⟩
       have r0 := keptBelow hBx r0
       have r1 := keptBelow hBx r1
       have h1 := h1.via hBx
       have h2 := h2.via hBx
       have c1 := keptBelow hBx c1
       have hra := hra.via hBx
       have hB := belowVia hBx hB
       clear hBx n6
       first | refine ⟨⟨r0, r1⟩, ?_⟩ | skip
       try simp only [Act.put, tA, tB, tC]
       refine wpK_lastY (i := 9) (d := some 48) (v := ?_) (by kernel_rfl) rfl rfl (by kernel_rfl) (by kernel_rfl) (.inl ⟨by rfl, fun w hw => ?_⟩) ⟨r0, r1⟩ ?_
       rotate_left
       ·clear hw; go_simp; simp only [HEQ.out, Result.andThen_ok]; rfl
       try simp only [Act.put, tA, tB, tC]
      rotate_left 1
      focus
       refine wpOp_one (i := 6) rfl rfl ?_
       go_simp
       have hBx := alloc_belowL wd (.cells #[.int .i64 v] 3)
       have r0 := keptBelow hBx r0
       have r1 := keptBelow hBx r1
       have h1 := h1.via hBx
       have h2 := h2.via hBx
       have c1 := keptBelow hBx c1
       have hra := hra.via hBx
       have hB := belowVia hBx hB
       have n6 : (wd.alloc (.cells #[.int .i64 v] 3)).cell? ⟨wd.heap.size, 0, none⟩ = some (.int .i64 v) := (cell_of_row _ _ 0 _ _ _ (heap_alloc_new wd (.cells #[.int .i64 v] 3))).trans rfl
       generalize wd.heap.size = p6 at *
       generalize wd.alloc (.cells #[.int .i64 v] 3) = wx13 at *
       clear hBx
       first | refine ⟨⟨r0, r1⟩, ?_⟩ | skip
       try simp only [Act.put, tA, tB, tC]
       refine wpK_one (i := 3) (by kernel_rfl) rfl rfl ?_
       go_simp
       refine (HWE.out _ hra h1).mono ?_
       rintro e wx14 ⟨rfl, hBx⟩
       have r0 := keptBelow hBx r0
       have r1 := keptBelow hBx r1
       have h1 := h1.via hBx
       have h2 := h2.via hBx
       have c1 := keptBelow hBx c1
       have hra := hra.via hBx
       have hB := belowVia hBx hB
       try have n6 := keptBelow hBx n6
       clear hBx
       first | refine ⟨⟨r0, r1⟩, ?_⟩ | skip
       try simp only [Act.put, tA, tB, tC]
       refine wpK_one (i := 8) (by kernel_rfl) rfl rfl ?_
       go_simp
       refine (HWV.out _ _ n6 h2).mono ?_
       rintro e w7 ⟨rfl, hBx⟩
       have r0 := keptBelow hBx r0
       have r1 := keptBelow hBx r1
       have h1 := h1.via hBx
       have h2 := h2.via hBx
       have c1 := keptBelow hBx c1
       have hra := hra.via hBx
       have hB := belowVia hBx hB
       clear hBx n6
       first | refine ⟨⟨r0, r1⟩, ?_⟩ | skip
       try simp only [Act.put, tA, tB, tC]
       refine wpK_lastY (i := 9) (d := some 48) (v := ?_) (by kernel_rfl) rfl rfl (by kernel_rfl) (by kernel_rfl) (.inl ⟨by rfl, fun w hw => ?_⟩) ⟨r0, r1⟩ ?_
       rotate_left
       ·clear hw; go_simp; simp only [HEQ.out, Result.andThen_ok]; rfl
       try simp only [Act.put, tA, tB, tC]
     rotate_left 2
     focus
      refine wpOp_one (i := 6) rfl rfl ?_
      go_simp
      have hBx := alloc_belowL wd (.cells #[.int .i64 v] 3)
      have r0 := keptBelow hBx r0
      have r1 := keptBelow hBx r1
      have h1 := h1.via hBx
      have h2 := h2.via hBx
      have c1 := keptBelow hBx c1
      have hra := hra.via hBx
      have hB := belowVia hBx hB
      have n6 : (wd.alloc (.cells #[.int .i64 v] 3)).cell? ⟨wd.heap.size, 0, none⟩ = some (.int .i64 v) := (cell_of_row _ _ 0 _ _ _ (heap_alloc_new wd (.cells #[.int .i64 v] 3))).trans rfl
      generalize wd.heap.size = p6 at *
      generalize wd.alloc (.cells #[.int .i64 v] 3) = wx15 at *
      clear hBx
      first | refine ⟨⟨r0, r1⟩, ?_⟩ | skip
      try simp only [Act.put, tA, tB, tC]
      refine wpK_one (i := 1) (by kernel_rfl) rfl rfl ?_
      go_simp
      first | refine ⟨⟨r0, r1⟩, ?_⟩ | skip
      try simp only [Act.put, tA, tB, tC]
      refine wpK_one (i := 3) (by kernel_rfl) rfl rfl ?_
      go_simp
      refine (HWE.out _ hra h1).mono ?_
      rintro e wx16 ⟨rfl, hBx⟩
      have r0 := keptBelow hBx r0
      have r1 := keptBelow hBx r1
      have h1 := h1.via hBx
      have h2 := h2.via hBx
      have c1 := keptBelow hBx c1
      have hra := hra.via hBx
      have hB := belowVia hBx hB
      try have n6 := keptBelow hBx n6
      clear hBx
      first | refine ⟨⟨r0, r1⟩, ?_⟩ | skip
      try simp only [Act.put, tA, tB, tC]
      refine wpK_one (i := 8) (by kernel_rfl) rfl rfl ?_
      go_simp
      refine (HWV.out _ _ n6 h2).mono ?_
      rintro e w7 ⟨rfl, hBx⟩
      have r0 := keptBelow hBx r0
      have r1 := keptBelow hBx r1
      have h1 := h1.via hBx
      have h2 := h2.via hBx
      have c1 := keptBelow hBx c1
      have hra := hra.via hBx
      have hB := belowVia hBx hB
      clear hBx n6
      first | refine ⟨⟨r0, r1⟩, ?_⟩ | skip
      try simp only [Act.put, tA, tB, tC]
      refine wpK_lastY (i := 9) (d := some 48) (v := ?_) (by kernel_rfl) rfl rfl (by kernel_rfl) (by kernel_rfl) (.inl ⟨by rfl, fun w hw => ?_⟩) ⟨r0, r1⟩ ?_
      rotate_left
      ·clear hw; go_simp; simp only [HEQ.out, Result.andThen_ok]; rfl
      try simp only [Act.put, tA, tB, tC]
    all_goals (
     have H1 := Lib.hid h1
     have H2 := Lib.hid h2
     have C1 := Lib.hid c1
     have HB := Lib.hid hB
     clear h1 h2 c1 hB r0 r1 hra HWE HWV HEQ
     by_cases heq : dotN lr l m = v * d
     ·rw [decide_eq_true heq]
      have HT := Lib.hid (HAT.out (by rw [HSO.out, decide_eq_true heq]))
      clear heq HAT HNA HSO
      go_wp2_with fail
      go_roundw
      case rel => exact ⟨k + 1, by omega, by go_num, HT.out, H1.out, H2.out, C1.out, HB.out⟩
      case measure => simp [intOf]; omega
     ·rw [decide_eq_false heq]
      have HF : Hid (s.rows.all (solvesR l d) = false) := Lib.hid (HNA.out (by rw [HSO.out, decide_eq_false heq]))
      clear heq HAT HNA HSO
      go_wp2_with fail
      go_ret
      exact ⟨by rw [HF.out]; rfl, HB.out⟩)
   ·obtain rfl : k = n := by omega
    go_wp2_with fail
    go_ret
    refine ⟨?_, hB⟩
    have := HALL.out
    rw [HNN.out, List.take_length] at this
    rw [this]
    rfl)
end Go.Proofs.YtofmjkgaaphnkaaGreatDoor
/- LinRefutes: The contract of Refutes. -/
namespace Go.Proofs.YtofmjkgaaphnkaaGreatDoor
open Go.RowKit Putlog

/-- Weights in memory. -/
structure WtsM (w : World) (l : List ByteArray) (a : Option Addr) (ca : Nat) : Prop where
 strs : StrsFrom w a l
 len : l.length ≤ ca
 cap : (ca : Int) ≤ 9223372036854775807
 sz : ∀ t ∈ l, Sized t
theorem WtsM.via {w w' : World} {l : List ByteArray} {a : Option Addr} {ca : Nat} (h : WtsM w l a ca) (hB : Below w.heap.size w w') : WtsM w' l a ca := ⟨h.strs.via hB, h.len, h.cap, h.sz⟩
theorem colL_bnd {s : SysP} (h : ValidP s) (j : Nat) : ∀ x ∈ colL s j, -1000000000 ≤ x ∧ x ≤ 1000000000 := fun x hx => by
 unfold colL at hx
 obtain ⟨r, hr, rfl⟩ := List.mem_map.1 hx
 have := getD_bnd (X := 30000) (fun z hz => h.coef r hr z hz) (by decide) j
 omega
theorem valL_bnd {s : SysP} (h : ValidP s) : ∀ x ∈ valL s, -1000000000 ≤ x ∧ x ≤ 1000000000 := fun x hx => by
 unfold valL at hx
 obtain ⟨r, hr, rfl⟩ := List.mem_map.1 hx
 exact h.val r hr
theorem sgnZ_neg (z : Int) : decide (sgnZ z < 0) = decide (z < 0) := by
 unfold sgnZ
 by_cases e : z = 0
 ·simp [e]
 ·rw [if_neg e]
  split
  ·rw [decide_eq_true (by decide), decide_eq_true (by omega)]
  ·rw [decide_eq_false (by decide), decide_eq_false (by omega)]
set_option maxRecDepth 100000 in
set_option maxHeartbeats 8000000 in
theorem refutes_c (s : SysP) (a : Option Addr) (ca : Nat) (wl : List ByteArray) (b : Option Addr) (cb : Nat) (W : World) (hs : SysM W s a ca) (hw : WtsM W wl b cb) :
  Calls Tryz.prog 28 #[.agg #[.int .i64 s.cols, .slice a s.rows.length ca], .slice b wl.length cb] W fun e w' => e = .returned (.bool (refS s wl)) ∧ Below W.heap.size W w' := by
 obtain ⟨n, hn⟩ : ∃ n, n = s.rows.length := ⟨_, rfl⟩
 obtain ⟨m, hm⟩ : ∃ m, m = wl.length := ⟨_, rfl⟩
 obtain ⟨c, hc⟩ : ∃ c, c = s.cols := ⟨_, rfl⟩
 have HS := Lib.hid hs
 have HW := Lib.hid hw
 have HVC := Lib.hid (fun w h => valid_c s a ca w (hs.via h))
 have hcb := hw.cap
 have hmc : (m : Int) ≤ cb := by have := hw.len; omega
 have hca := hs.cap
 have hnc : (n : Int) ≤ ca := by have := hs.len; omega
 obtain ⟨res, hres⟩ : ∃ res, res = refS s wl := ⟨_, rfl⟩
 rw [← hn, ← hc] at HVC
 rw [← hn, ← hm, ← hc, ← hres]
 have HR := Lib.hid hres
 have HNN := Lib.hid hn
 have HMM := Lib.hid hm
 have HCC := Lib.hid hc
 have hb1 := alloc_belowL W (.cells #[.int .i64 c, .slice a n ca] 27)
 have g1 : BlkB 27 W.heap.size [.int .i64 c, .slice a n ca] (W.alloc (.cells #[.int .i64 c, .slice a n ca] 27)) := heap_alloc_new W _
 have HB := Lib.hid hb1
 have c0 := g1.cell (i := 0) rfl
 have c1 := g1.cell (i := 1) rfl
 clear hs hw hn hm hc hres hb1 g1
 go_enter Tryz.func28, Tryz.ntmps28
 go_upto_region 1 with fail
 generalize W.alloc (.cells #[.int .i64 c, .slice a n ca] 27) = w0 at *
 cases h1 : validS s with
 | false =>
  rw [h1] at HVC
  go_wp2_with fail
  refine (HVC.out _ HB.out).mono ?_
  rintro e w1 ⟨rfl, hB1⟩
  have HB1 := Lib.hid (belowVia hB1 HB.out)
  clear hB1
  go_wp2_with fail
  go_ret
  exact ⟨by rw [HR.out]; unfold refS; rw [h1]; rfl, HB1.out⟩
 | true =>
  rw [h1] at HVC
  have HVAL := Lib.hid (valid_iff.1 h1)
  go_wp2_with fail
  refine (HVC.out _ HB.out).mono ?_
  rintro e w1 ⟨rfl, hB1⟩
  have HB1 := Lib.hid (belowVia hB1 HB.out)
  have c0 := keptBelow hB1 c0
  have c1 := keptBelow hB1 c1
  clear hB1 HB
  by_cases hmn : m = n
  ·obtain rfl : n = m := hmn.symm
   have hne : ((n : Int) != n) = false := by simp
   have HRS : Hid (res = (wl.all bnd && ((List.range s.cols.toNat).all (refC s (wl.map valI)) && decide (dotN (valL s) (wl.map valI) s.rows.length < 0)))) := Lib.hid (by
    rw [HR.out]; unfold refS; rw [h1, decide_eq_true (by have := HNN.out; have := HMM.out; omega)]; rfl)
   clear h1
   go_wp2_with fail
   clear hne
   have HC01 := Lib.hid (And.intro c0 c1)
   clear c0 c1
   go_loopw [6, 23] (fun x i wr => ∃ k : Nat, k ≤ n ∧ i = .int .i64 k ∧ (wl.take k).all bnd = true ∧ wr = w1) (fun _ i _ => n - (intOf i).toNat)
   case atStart => exact ⟨0, by omega, rfl, rfl, rfl⟩
   case round =>
   obtain ⟨k, hk, rfl, hall, rfl⟩ := hrel
   have HALL := Lib.hid hall
   clear hall
   by_cases hlt : k < n
   ·have hlt' : (k : Int) < n := by omega
    have hkl : k < wl.length := by have := HMM.out; omega
    obtain ⟨gb, ob, rfl, e1⟩ := HW.out.strs.get hkl
    have e1 := keptBelow HB1.out e1
    have HBO := Lib.hid (fun w => bounded_c wl[k] (HW.out.sz _ (List.getElem_mem hkl)) w)
    cases hp : bnd wl[k] with
    | true =>
     rw [hp] at HBO
     have HT := Lib.hid (all_take HALL.out hkl hp)
     clear hp
     generalize wl[k] = t at *
     go_wp2_with fail
     refine (HBO.out _).mono ?_
     rintro e w2 ⟨rfl, rfl⟩
     go_wp2_with fail
     go_roundw
     case rel => exact ⟨k + 1, by omega, by go_num, HT.out, by trivial⟩
     case measure => simp [intOf]; omega
    | false =>
     rw [hp] at HBO
     have HF : Hid (wl.all bnd = false) := Lib.hid (not_all hkl hp)
     clear hp
     generalize wl[k] = t at *
     go_wp2_with fail
     refine (HBO.out _).mono ?_
     rintro e w2 ⟨rfl, rfl⟩
     go_wp2_with fail
     go_ret
     exact ⟨by rw [HRS.out, HF.out]; rfl, HB1.out⟩
   ·obtain rfl : k = n := by omega
    have hab : wl.all bnd = true := by
     have := HALL.out
     rwa [List.take_of_length_le (by have := HMM.out; omega)] at this
    obtain ⟨zs, hz, hzb⟩ := weights_iff.1 hab
    have HZ := Lib.hid hz
    have HZB := Lib.hid hzb
    have hzl : zs.length = k := by have := HMM.out; rw [hz, List.length_map] at this; exact this.symm
    have HZL := Lib.hid hzl
    have HRS2 : Hid (res = ((List.range s.cols.toNat).all (refC s zs) && decide (dotN (valL s) zs s.rows.length < 0))) := Lib.hid (by
     rw [HRS.out, hab, hz, valI_ints (fun z hz => fits_100 (hzb z hz))]; rfl)
    have HRA : Hid (∀ w, StrsFrom w b wl → Calls Tryz.prog 46 #[.slice b k cb] w fun e w' => (∃ g, e = .returned (.slice (some ⟨g, 0, none⟩) k k) ∧ w.heap.size ≤ g ∧ NumB g (rowL zs) w') ∧ Below w.heap.size w w') := Lib.hid (fun w h => by
     rw [hz] at h
     have := readAll_num zs b cb w h (fun z hz => len_100 (hzb z hz)) (by omega) (by have h8 := HVAL.out.rows; have h9 := HNN.out; omega) hcb
     rw [hzl] at this; exact this)
    clear hab hz hzb hzl HRS HALL
    go_wp2_with fail
    refine (HRA.out _ (HW.out.strs.via HB1.out)).mono ?_
    rintro e w2 ⟨⟨g1, rfl, hg1, hnum⟩, hB2⟩
    have HB2 := Lib.hid (belowVia hB2 HB1.out)
    have c0 := keptBelow hB2 HC01.out.1
    have c1 := keptBelow hB2 HC01.out.2
    have HNU := Lib.hid hnum
    have HCO : Hid (Calls Tryz.prog 63 #[.agg #[.int .i64 c, .slice a k ca]] w2 fun e w' => (∃ gl vs, e = .returned (.slice (some ⟨gl, 0, none⟩) s.cols.toNat s.cols.toNat) ∧ w2.heap.size ≤ gl ∧ vs.length = s.cols.toNat ∧ BlkB 22 gl vs w' ∧ ∀ j, j < s.cols.toNat → ColOK w' gl k (vs.getD j undef) (colL s j)) ∧ Below w2.heap.size w2 w') := Lib.hid (by
     have := columns_c s a ca w2 (HS.out.via HB2.out) HVAL.out
     rw [← HNN.out, ← HCC.out] at this; rw [HCC.out] at this ⊢; exact this)
    clear hB2 hnum hg1 HB1 HC01 HRA
    go_wp2_with fail
    refine HCO.out.mono ?_
    rintro e w3 ⟨⟨gl, vs, rfl, hgl, hvl, hblk, hcol⟩, hB3⟩
    have HB3 := Lib.hid (belowVia hB3 HB2.out)
    have HC3 := Lib.hid (And.intro (keptBelow hB3 c0) (keptBelow hB3 c1))
    have HN3 := Lib.hid (HNU.out.via hB3)
    obtain ⟨cn, hcn⟩ : ∃ cn, cn = s.cols.toNat := ⟨_, rfl⟩
    rw [← hcn] at hvl hcol HRS2 ⊢
    have hcn64 : (cn : Int) ≤ 64 := by have := HVAL.out.hi; omega
    have hk18 : (k : Int) ≤ 18 := by have := HVAL.out.rows; have := HNN.out; omega
    have HCN := Lib.hid hcn
    have HVL := Lib.hid hvl
    have HBK := Lib.hid hblk
    have HCL := Lib.hid hcol
    clear hB3 hgl hvl hblk hcol c0 c1 HB2 HNU hcn HCO
    go_wp2_with fail
    go_loopw [9, 36] (fun x i wr => ∃ j : Nat, j ≤ cn ∧ i = .int .i64 j ∧ (List.range j).all (refC s zs) = true ∧ Below w3.heap.size w3 wr) (fun _ i _ => cn - (intOf i).toNat)
    case atStart => exact ⟨0, by omega, rfl, rfl, Below.refl _ _⟩
    case round =>
    obtain ⟨j, hj, rfl, hall, hB4⟩ := hrel
    have HALL := Lib.hid hall
    clear hall
    by_cases hjt : j < cn
    ·have hjt' : (j : Int) < cn := by omega
     obtain ⟨a', c', hv, hc1, hc2, hint, _⟩ := HCL.out j hjt
     have f1 : wr.cell? ⟨gl, j, none⟩ = some (.slice a' k c') := by
      have := HBK.out.cell (i := j) (v := vs.getD j undef) (by rw [List.getD_eq_getElem?_getD, List.getElem?_eq_getElem (by have := HVL.out; omega)]; rfl)
      rw [hv] at this
      exact keptBelow hB4 this
     have hz1 := dot_hm (k := k) (colL_bnd HVAL.out j) HZB.out (by omega)
     have HWE : Hid (Calls Tryz.prog 47 #[.slice a' k c', .slice (some ⟨g1, 0, none⟩) k k] wr fun e w'' => e = .returned (.agg (numL (dotN (colL s j) zs k)).toArray) ∧ Below wr.heap.size wr w'') := Lib.hid (by
      have h18 := HNN.out
      have := weighted_num (colL s j) zs a' c' g1 0 k k wr (hint.via hB4) (fun x hx => by have := colL_bnd HVAL.out j x hx; omega) (HN3.out.nums.via hB4) (by rw [colL_len]; omega) (by have := HZL.out; omega) (by rw [colL_len]; omega) ⟨Nat.le_refl _, by omega⟩
      rw [colL_len, ← HNN.out] at this; exact this)
     have HSG := Lib.hid (fun w => sign_num (dotN (colL s j) zs k) (Int.le_of_lt hz1.1) hz1.2 w)
     have HRC : Hid (refC s zs j = decide (0 ≤ dotN (colL s j) zs k)) := Lib.hid (by unfold refC; rw [← HNN.out])
     have hsn := sgnZ_neg (dotN (colL s j) zs k)
     have hc1' : (k : Int) ≤ c' := by omega
     have HB4 := Lib.hid hB4
     clear hv hc1 hint hz1 hB4
     generalize dotN (colL s j) zs k = z at *
     go_wp2_with fail
     refine HWE.out.mono ?_
     rintro e w5 ⟨rfl, hB5⟩
     have HB5 := Lib.hid (belowVia hB5 HB4.out)
     clear hB5
     go_wp2_with fail
     refine (HSG.out _).mono ?_
     rintro e w6 ⟨rfl, hB6⟩
     have HB6 := Lib.hid (belowVia hB6 HB5.out)
     clear hB6 HB5 HB4 HWE HSG f1
     by_cases hneg : z < 0
     ·have hs1 : sgnZ z < 0 := by rw [decide_eq_true hneg] at hsn; simpa using hsn
      have HF : Hid ((List.range cn).all (refC s zs) = false) := Lib.hid (range_not hjt (by rw [HRC.out]; simp; omega))
      generalize sgnZ z = sz at *
      clear hsn
      go_wp2_with fail
      go_ret
      exact ⟨by rw [HRS2.out, HF.out]; rfl, belowVia HB6.out HB3.out⟩
     ·have hs1 : ¬ sgnZ z < 0 := by rw [decide_eq_false hneg] at hsn; simpa using hsn
      have HT := Lib.hid (range_all (p := refC s zs) HALL.out (by rw [HRC.out]; simp; omega))
      generalize sgnZ z = sz at *
      clear hsn
      go_wp2_with fail
      go_roundw
      case rel => exact ⟨j + 1, by omega, by go_num, HT.out, HB6.out⟩
      case measure => simp [intOf]; omega
    ·obtain rfl : j = cn := by omega
     have HB4 := Lib.hid (belowVia hB4 HB3.out)
     have HN4 := Lib.hid (HN3.out.via hB4)
     have c0 := keptBelow hB4 HC3.out.1
     have c1 := keptBelow hB4 HC3.out.2
     have HVA : Hid (Calls Tryz.prog 65 #[.agg #[.int .i64 c, .slice a k ca]] wr fun e w' => (∃ a' c', e = .returned (.slice a' k c') ∧ k ≤ c' ∧ (c' : Int) ≤ 9223372036854775807 ∧ IntsFrom w' a' (valL s)) ∧ Below wr.heap.size wr w') := Lib.hid (by
      have := values_c s a ca wr (HS.out.via HB4.out) HVAL.out.rows
      rw [← HNN.out, ← HCC.out] at this; exact this)
     clear hB4 HC3 HN3
     go_wp2_with fail
     refine HVA.out.mono ?_
     rintro e w5 ⟨⟨a', c', rfl, hc1, hc2, hint⟩, hB5⟩
     have HB5 := Lib.hid (belowVia hB5 HB4.out)
     have hz1 := dot_hm (k := k) (valL_bnd HVAL.out) HZB.out (by omega)
     have HWE : Hid (Calls Tryz.prog 47 #[.slice a' k c', .slice (some ⟨g1, 0, none⟩) k k] w5 fun e w'' => e = .returned (.agg (numL (dotN (valL s) zs k)).toArray) ∧ Below w5.heap.size w5 w'') := Lib.hid (by
      have h18 := HNN.out
      have := weighted_num (valL s) zs a' c' g1 0 k k w5 hint (fun x hx => by have := valL_bnd HVAL.out x hx; omega) ((HN4.out.via hB5).nums) (by rw [valL_len]; omega) (by have := HZL.out; omega) (by rw [valL_len]; omega) ⟨Nat.le_refl _, by omega⟩
      rw [valL_len, ← HNN.out] at this; exact this)
     have HSG := Lib.hid (fun w => sign_num (dotN (valL s) zs k) (Int.le_of_lt hz1.1) hz1.2 w)
     have HRC : Hid (res = decide (dotN (valL s) zs k < 0)) := Lib.hid (by rw [HRS2.out, HALL.out, ← HNN.out]; rfl)
     have HSN := Lib.hid (sgnZ_neg (dotN (valL s) zs k))
     have hc1' : (k : Int) ≤ c' := by omega
     clear hc1 hint hz1 hB5 c0 c1 HVA
     generalize dotN (valL s) zs k = z at *
     go_wp2_with fail
     refine HWE.out.mono ?_
     rintro e w6 ⟨rfl, hB6⟩
     have HB6 := Lib.hid (belowVia hB6 HB5.out)
     clear hB6
     go_wp2_with fail
     refine (HSG.out _).mono ?_
     rintro e w7 ⟨rfl, hB7⟩
     have HB7 := Lib.hid (belowVia hB7 HB6.out)
     clear hB7 HB6 HB5 HB4 HWE HSG
     go_wp2_with fail
     go_ret
     exact ⟨by rw [HRC.out, ← HSN.out]; rfl, HB7.out⟩
  ·have hne : ((m : Int) != n) = true := by simp; omega
   have HF : Hid (res = false) := Lib.hid (by
    rw [HR.out]; unfold refS; rw [decide_eq_false (by have := HNN.out; have := HMM.out; omega)]; simp)
   clear h1
   go_wp2_with fail
   go_ret
   exact ⟨by rw [HF.out]; rfl, HB1.out⟩
end Go.Proofs.YtofmjkgaaphnkaaGreatDoor
/- LinCheckC: The contract of Check, whatever the system and the vector. -/
namespace Go.Proofs.YtofmjkgaaphnkaaGreatDoor
open Go.RowKit Putlog

set_option maxRecDepth 100000 in
set_option maxHeartbeats 4000000 in
theorem check_no (s : SysP) (a : Option Addr) (ca : Nat) (v : VecP) (b : Option Addr) (cb : Nat) (W : World) (hs : SysM W s a ca) (hv : VecM W v b cb) (hno : ¬ (validS s = true ∧ formedV v = true ∧ (v.nums.length : Int) = s.cols)) :
  Calls Tryz.prog 19 #[.agg #[.int .i64 s.cols, .slice a s.rows.length ca], .agg #[.slice b v.nums.length cb, .string v.den]] W fun e w' => e = .returned (.bool false) ∧ Below W.heap.size W w' := by
 obtain ⟨n, hn⟩ : ∃ n, n = s.rows.length := ⟨_, rfl⟩
 obtain ⟨m, hm⟩ : ∃ m, m = v.nums.length := ⟨_, rfl⟩
 obtain ⟨c, hc⟩ : ∃ c, c = s.cols := ⟨_, rfl⟩
 obtain ⟨dn, hdn⟩ : ∃ dn, dn = v.den := ⟨_, rfl⟩
 have HVC := Lib.hid (fun w h => valid_c s a ca w (hs.via h))
 have HFC := Lib.hid (fun w h => formed_c v b cb w (hv.via h))
 have hcb := hv.cap
 have hmc : (m : Int) ≤ cb := by have := hv.len; omega
 have hca := hs.cap
 have hnc : (n : Int) ≤ ca := by have := hs.len; omega
 rw [← hn, ← hc] at HVC
 rw [← hm, ← hdn] at HFC
 rw [← hm, ← hc] at hno
 rw [← hn, ← hm, ← hc, ← hdn]
 have hb1 := alloc_belowL W (.cells #[.int .i64 c, .slice a n ca] 27)
 have hb2 := alloc_belowL (W.alloc (.cells #[.int .i64 c, .slice a n ca] 27)) (.cells #[.slice b m cb, .string dn] 30)
 have g1 : BlkB 27 W.heap.size [.int .i64 c, .slice a n ca] (W.alloc (.cells #[.int .i64 c, .slice a n ca] 27)) := heap_alloc_new W _
 have g2 : BlkB 30 (W.heap.size + 1) [.slice b m cb, .string dn] ((W.alloc (.cells #[.int .i64 c, .slice a n ca] 27)).alloc (.cells #[.slice b m cb, .string dn] 30)) := by
  have := heap_alloc_new (W.alloc (.cells #[.int .i64 c, .slice a n ca] 27)) (.cells #[.slice b m cb, .string dn] 30)
  rw [alloc_sizeL] at this; exact this
 have HB := Lib.hid (belowVia hb2 hb1)
 have g1' := g1.via hb2
 have c0 := g1'.cell (i := 0) rfl
 have c1 := g1'.cell (i := 1) rfl
 have k0 := g2.cell (i := 0) rfl
 have k1 := g2.cell (i := 1) rfl
 clear hs hv hn hm hc hdn hb1 hb2 g1 g2 g1'
 go_enter Tryz.func19, Tryz.ntmps19
 go_upto_region 1 with fail
 generalize (W.alloc (.cells #[.int .i64 c, .slice a n ca] 27)).alloc (.cells #[.slice b m cb, .string dn] 30) = w0 at *
 cases h1 : validS s with
 | false =>
  rw [h1] at HVC
  clear hno
  go_wp2_with fail
  refine (HVC.out _ HB.out).mono ?_
  rintro e w1 ⟨rfl, hB1⟩
  have HB1 := Lib.hid (belowVia hB1 HB.out)
  clear hB1
  go_wp2_with fail
  go_ret
  exact ⟨rfl, HB1.out⟩
 | true =>
  rw [h1] at HVC
  go_wp2_with fail
  refine (HVC.out _ HB.out).mono ?_
  rintro e w1 ⟨rfl, hB1⟩
  have HB1 := Lib.hid (belowVia hB1 HB.out)
  have c0 := keptBelow hB1 c0
  have k0 := keptBelow hB1 k0
  have k1 := keptBelow hB1 k1
  clear hB1 HB
  cases h2 : formedV v with
  | false =>
   rw [h2] at HFC
   clear hno
   go_wp2_with fail
   refine (HFC.out _ HB1.out).mono ?_
   rintro e w2 ⟨rfl, hB2⟩
   have HB2 := Lib.hid (belowVia hB2 HB1.out)
   clear hB2
   go_wp2_with fail
   go_ret
   exact ⟨rfl, HB2.out⟩
  | true =>
   rw [h2] at HFC
   have hne' : ¬ (m : Int) = c := fun e => hno ⟨h1, h2, e⟩
   have hne : ((m : Int) != c) = true := by simp [hne']
   clear hno hne' h1 h2
   go_wp2_with fail
   refine (HFC.out _ HB1.out).mono ?_
   rintro e w2 ⟨rfl, hB2⟩
   have HB2 := Lib.hid (belowVia hB2 HB1.out)
   have c0 := keptBelow hB2 c0
   have k0 := keptBelow hB2 k0
   clear hB2
   go_wp2_with fail
   go_ret
   exact ⟨rfl, HB2.out⟩
/-- The contract of Check. -/
theorem check_c (s : SysP) (a : Option Addr) (ca : Nat) (v : VecP) (b : Option Addr) (cb : Nat) (W : World) (hs : SysM W s a ca) (hv : VecM W v b cb) :
  Calls Tryz.prog 19 #[.agg #[.int .i64 s.cols, .slice a s.rows.length ca], .agg #[.slice b v.nums.length cb, .string v.den]] W fun e w' => e = .returned (.bool (checkS s v)) ∧ Below W.heap.size W w' := by
 by_cases h : validS s = true ∧ formedV v = true ∧ (v.nums.length : Int) = s.cols
 ·obtain ⟨h1, h2, h3⟩ := h
  obtain ⟨l, d, e, hl, hln, hd, hd0⟩ := formed_iff.1 h2
  subst e
  have hfit : ∀ z ∈ l, Fits z := fun z hz => fits_100 (hln z hz).1
  have e1 : checkS s ⟨l.map intB, intB d⟩ = s.rows.all (solvesR l d) := by
   unfold checkS
   rw [h1, h2, decide_eq_true h3, valI_ints hfit, valI_int (fits_100 hd)]; rfl
  dsimp only at h3
  rw [List.length_map] at h3
  have := check_go s a ca l d b cb W hs hv (valid_iff.1 h1) h2 (fun z hz => (hln z hz).1) hd h3
  rw [e1]; dsimp only; rw [List.length_map]; exact this
 ·have e1 : checkS s v = false := by
   unfold checkS
   cases h1 : validS s with
   | false => rfl
   | true =>
    cases h2 : formedV v with
    | false => rfl
    | true => rw [decide_eq_false (fun e => h ⟨h1, h2, e⟩)]; rfl
  rw [e1]; exact check_no s a ca v b cb W hs hv h
end Go.Proofs.YtofmjkgaaphnkaaGreatDoor
/- LinSane: The fixed examples of layer 6 hold. -/
namespace Go.Proofs.YtofmjkgaaphnkaaGreatDoor
open Go.RowKit Putlog

theorem strs_blk {w : World} {g : Nat} {l l' : List ByteArray} (h : BlkB 9 g (strV (l ++ l')) w) : StrsFrom w (some ⟨g, 0, none⟩) l := .inr ⟨g, 0, rfl, fun j hj => by
 rw [Nat.zero_add]
 refine h.cell ?_
 unfold strV
 rw [List.getElem?_map, List.getElem?_append_left hj, List.getElem?_eq_getElem hj, List.getD_eq_getElem?_getD, List.getElem?_eq_getElem hj]; rfl⟩
theorem vec_blk {w : World} {g : Nat} {l l' : List ByteArray} {d : ByteArray} {c : Nat} (h : BlkB 9 g (strV (l ++ l')) w) (hc : l.length ≤ c) (hc2 : (c : Int) ≤ 9223372036854775807) (hd : Sized d) (hs : ∀ t ∈ l, Sized t) : VecM w ⟨l, d⟩ (some ⟨g, 0, none⟩) c := ⟨strs_blk h, hc, hc2, hd, hs⟩
theorem wts_blk {w : World} {g : Nat} {l : List ByteArray} {c : Nat} (h : BlkB 9 g (strV l) w) (hc : l.length ≤ c) (hc2 : (c : Int) ≤ 9223372036854775807) (hs : ∀ t ∈ l, Sized t) : WtsM w l (some ⟨g, 0, none⟩) c := ⟨strs_blk (l' := []) (by rw [List.append_nil]; exact h), hc, hc2, hs⟩
theorem sized_ints {l : List Int} (h : ∀ z ∈ l, z.natAbs < L100) : ∀ t ∈ l.map intB, Sized t := fun t ht => by
 obtain ⟨z, hz, rfl⟩ := List.mem_map.1 ht
 exact sized_fits (fits_100 (h z hz))
theorem sized_1 (x : UInt8) : Sized ⟨#[x]⟩ := by show ((1 : Nat) : Int) ≤ 9223372036854775807; decide
theorem sized_2 (x y : UInt8) : ∀ t ∈ [(⟨#[x]⟩ : ByteArray), ⟨#[y]⟩], Sized t := by
 intro t ht
 simp only [List.mem_cons, List.not_mem_nil, or_false] at ht
 rcases ht with rfl | rfl
 ·exact sized_1 x
 ·exact sized_1 y
theorem sized_m : Sized ⟨#[45, 49]⟩ := by show ((2 : Nat) : Int) ≤ 9223372036854775807; decide
theorem sized_12 : ∀ t ∈ [(⟨#[49]⟩ : ByteArray), ⟨#[45, 49]⟩], Sized t := by
 intro t ht
 simp only [List.mem_cons, List.not_mem_nil, or_false] at ht
 rcases ht with rfl | rfl
 ·exact sized_1 _
 ·exact sized_m
theorem sized_21 : ∀ t ∈ [(⟨#[45, 49]⟩ : ByteArray), ⟨#[49]⟩], Sized t := by
 intro t ht
 simp only [List.mem_cons, List.not_mem_nil, or_false] at ht
 rcases ht with rfl | rfl
 ·exact sized_m
 ·exact sized_1 _
theorem i64_s {z : Int} (h : -1000 ≤ z ∧ z ≤ 1000) : I64 z := by unfold I64; omega
theorem one_row {w : World} {g : Nat} {t : TypeId} {v c : Int} (h : BlkB t g [.slice none 0 0, .int .i64 v] w) (hv : I64 v) (hc : I64 c) : SysM w ⟨c, [([], v)]⟩ (some ⟨g, 0, none⟩) 1 :=
 ⟨Nat.le_refl 1, by decide, hc, .inr ⟨g, 0, rfl, fun k hk => by
  obtain rfl : k = 0 := by have : k < 1 := hk; omega
  exact ⟨⟨none, 0, h.cell rfl, h.cell rfl, Nat.le_refl _, by decide, .inl rfl⟩, fun x hx => by simp at hx, hv⟩⟩⟩
theorem e_solve31 (a : Option Addr) (W : World) (hs : SysM W (twoS 3 1) a 2) (hT : TabP W) (hTB : TabB W) : Calls Tryz.prog 14 #[.agg #[.int .i64 2, .slice a 2 2]] W fun e w' => (∃ (q : Nat) (l : List Int) (d : Int), e = .returned (.tuple #[.agg #[.bool true, .slice (some ⟨q, 0, none⟩) 2 3, .string (intB d), .slice none 0 0], .int .i64 0]) ∧ VecM w' ⟨l.map intB, intB d⟩ (some ⟨q, 0, none⟩) 3 ∧ l.length = 2 ∧ equalS ⟨l.map intB, intB d⟩ vEx = true) ∧ Below W.heap.size W w' := by
 refine (solve_c (twoS 3 1) a 2 W hs two_valid1 (by decide) hT hTB).mono ?_
 rintro e w' ⟨⟨v, rfl, hA⟩, hB⟩
 refine ⟨?_, hB⟩
 rcases hA with ⟨q, l, d, rfl, _, hb, hl, hd, hsol⟩ | ⟨q, l, _, _, _, _, hr⟩
 ·have hlen : l.length = 2 := by rw [sol_two hsol]; rfl
  exact ⟨q, l, d, rfl, vec_blk hb (by rw [List.length_map]; omega) (by decide) (sized_fits (fits_100 hd)) (sized_ints hl), hlen, equal_two hsol hl hd⟩
 ·exact absurd hr (fun h => sol_31.not_ref h)
theorem e_solve34 (a : Option Addr) (W : World) (hs : SysM W (twoS 3 4) a 2) (hT : TabP W) (hTB : TabB W) : Calls Tryz.prog 14 #[.agg #[.int .i64 2, .slice a 2 2]] W fun e w' => (∃ (q : Nat) (l : List Int), e = .returned (.tuple #[.agg #[.bool false, .slice none 0 0, .string ⟨#[]⟩, .slice (some ⟨q, 0, none⟩) 2 2], .int .i64 0]) ∧ WtsM w' (l.map intB) (some ⟨q, 0, none⟩) 2 ∧ l.length = 2 ∧ refS (twoS 3 4) (l.map intB) = true) ∧ Below W.heap.size W w' := by
 refine (solve_c (twoS 3 4) a 2 W hs two_valid4 (by decide) hT hTB).mono ?_
 rintro e w' ⟨⟨v, rfl, hA⟩, hB⟩
 refine ⟨?_, hB⟩
 rcases hA with ⟨q, l, d, rfl, _, hb, hl, hd, hsol⟩ | ⟨q, l, rfl, _, hb, hl, hr⟩
 ·exact absurd ref_34 (fun h => hsol.not_ref h)
 ·have hlen : l.length = 2 := hr.len
  exact ⟨q, l, rfl, wts_blk hb (by rw [List.length_map]; omega) (by decide) (sized_ints hl), hlen, ref_iff.2 ⟨two_valid4, l, rfl, hl, hr⟩⟩
theorem e_solve0 (a : Option Addr) (W : World) (hs : SysM W noneS a 1) (hT : TabP W) (hTB : TabB W) : Calls Tryz.prog 14 #[.agg #[.int .i64 0, .slice a 1 1]] W fun e w' => (∃ (q : Nat) (d : ByteArray), e = .returned (.tuple #[.agg #[.bool true, .slice (some ⟨q, 0, none⟩) 0 1, .string d, .slice none 0 0], .int .i64 0])) ∧ Below W.heap.size W w' := by
 refine (solve_c noneS a 1 W hs none_valid (by decide) hT hTB).mono ?_
 rintro e w' ⟨⟨v, rfl, hA⟩, hB⟩
 refine ⟨?_, hB⟩
 rcases hA with ⟨q, l, d, rfl, _⟩ | ⟨q, l, _, _, _, _, hr⟩
 ·exact ⟨q, intB d, rfl⟩
 ·exact absurd hr (fun h => sol_none.not_ref h)
theorem e_solve1 (a : Option Addr) (W : World) (hs : SysM W oneS a 1) (hT : TabP W) (hTB : TabB W) : Calls Tryz.prog 14 #[.agg #[.int .i64 0, .slice a 1 1]] W fun e w' => (∃ q : Nat, e = .returned (.tuple #[.agg #[.bool false, .slice none 0 0, .string ⟨#[]⟩, .slice (some ⟨q, 0, none⟩) 1 1], .int .i64 0])) ∧ Below W.heap.size W w' := by
 refine (solve_c oneS a 1 W hs one_valid (by decide) hT hTB).mono ?_
 rintro e w' ⟨⟨v, rfl, hA⟩, hB⟩
 refine ⟨?_, hB⟩
 rcases hA with ⟨q, l, d, rfl, _, _, _, _, hsol⟩ | ⟨q, l, rfl, _⟩
 ·exact absurd ref_one (fun h => hsol.not_ref h)
 ·exact ⟨q, rfl⟩
theorem e_solve_bad (a : Option Addr) (W : World) (hs : SysM W badS a 1) : Calls Tryz.prog 14 #[.agg #[.int .i64 1, .slice a 1 1]] W fun e w' => e = .returned (.tuple #[.agg #[.bool false, .slice none 0 0, .string ⟨#[]⟩, .slice none 0 0], .int .i64 60]) ∧ Below W.heap.size W w' :=
 solve_no badS a 1 W hs bad_valid
def mixR : VecP := ⟨[⟨#[49]⟩, ⟨#[51]⟩], ⟨#[52]⟩⟩
theorem e_mix (a b : Option Addr) (W : World) (hv : VecM W mA a 2) (hu : VecM W mB b 2) (hT : TabP W) : Calls Tryz.prog 23 #[.agg #[.slice a 2 2, .string ⟨#[49]⟩], .agg #[.slice b 2 2, .string ⟨#[49]⟩], .int .i64 1, .int .i64 3] W fun e w' => (∃ g c, e = .returned (.tuple #[.agg #[.slice (some ⟨g, 0, none⟩) 2 c, .string ⟨#[52]⟩], .int .i64 0]) ∧ VecM w' mixR (some ⟨g, 0, none⟩) c) ∧ Below W.heap.size W w' := by
 refine (mix_go mA mB 1 3 a b 2 2 W hv hu mix_alike (by decide) (by decide) (by decide) (by decide) hT).mono ?_
 rintro e w' ⟨h, hB⟩
 refine ⟨?_, hB⟩
 rw [if_pos mix_formed] at h
 obtain ⟨g, c, rfl, _, hb, h1, h2⟩ := h
 rw [mix_all] at hb
 have hden : (mixV mA mB 1 3).den = ⟨#[52]⟩ := by unfold mixV; rw [mix_all]; rfl
 rw [hden]
 exact ⟨g, c, rfl, vec_blk (l' := [⟨#[52]⟩]) hb h1 (by have : (mA.nums.length : Nat) = 2 := rfl; omega) (sized_1 _) (sized_2 _ _)⟩
theorem blk_new2 (w : World) (x y : Value) (t : TypeId) : BlkB t w.heap.size [x, y] (w.alloc (.cells #[x, y] t)) := heap_alloc_new w _
theorem ref_lit1 (a : Option Addr) (g : Nat) (w : World) (hs : SysM w (twoS 3 4) a 2) (hb : BlkB 9 g [.string ⟨#[49]⟩, .string ⟨#[45, 49]⟩] w) : Calls Tryz.prog 28 #[.agg #[.int .i64 2, .slice a 2 2], .slice (some ⟨g, 0, none⟩) 2 2] w fun e w' => e = .returned (.bool true) ∧ Below w.heap.size w w' := by
 have h := refutes_c (twoS 3 4) a 2 [⟨#[49]⟩, ⟨#[45, 49]⟩] (some ⟨g, 0, none⟩) 2 w hs (wts_blk hb (Nat.le_refl 2) (by decide) (sized_12))
 rw [refutes_34] at h; exact h
theorem ref_lit2 (a : Option Addr) (g : Nat) (w : World) (hs : SysM w (twoS 3 4) a 2) (hb : BlkB 9 g [.string ⟨#[45, 49]⟩, .string ⟨#[49]⟩] w) : Calls Tryz.prog 28 #[.agg #[.int .i64 2, .slice a 2 2], .slice (some ⟨g, 0, none⟩) 2 2] w fun e w' => e = .returned (.bool false) ∧ Below w.heap.size w w' := by
 have h := refutes_c (twoS 3 4) a 2 [⟨#[45, 49]⟩, ⟨#[49]⟩] (some ⟨g, 0, none⟩) 2 w hs (wts_blk hb (Nat.le_refl 2) (by decide) (sized_21))
 rw [refutes_no] at h; exact h
theorem ref_lit3 (a : Option Addr) (g : Nat) (w : World) (hs : SysM w (twoS 3 1) a 2) (hb : BlkB 9 g [.string ⟨#[49]⟩, .string ⟨#[45, 49]⟩] w) : Calls Tryz.prog 28 #[.agg #[.int .i64 2, .slice a 2 2], .slice (some ⟨g, 0, none⟩) 2 2] w fun e w' => e = .returned (.bool false) ∧ Below w.heap.size w w' := by
 have h := refutes_c (twoS 3 1) a 2 [⟨#[49]⟩, ⟨#[45, 49]⟩] (some ⟨g, 0, none⟩) 2 w hs (wts_blk hb (Nat.le_refl 2) (by decide) (sized_12))
 rw [refutes_31] at h; exact h

theorem s12Keep {v w w1 : World} {p0 p1 p2 p3 p4 p5 p6 p7 p8 p9 p10 p11 o0 o1 o2 o3 o4 o5 o6 o7 o8 o9 o10 o11 : Nat} {x0 x1 x2 x3 x4 x5 x6 x7 x8 x9 x10 x11 : Value} (h : w.cell? ⟨p0, o0, none⟩ = some x0 ∧ w.cell? ⟨p1, o1, none⟩ = some x1 ∧ w.cell? ⟨p2, o2, none⟩ = some x2 ∧ w.cell? ⟨p3, o3, none⟩ = some x3 ∧ w.cell? ⟨p4, o4, none⟩ = some x4 ∧ w.cell? ⟨p5, o5, none⟩ = some x5 ∧ w.cell? ⟨p6, o6, none⟩ = some x6 ∧ w.cell? ⟨p7, o7, none⟩ = some x7 ∧ w.cell? ⟨p8, o8, none⟩ = some x8 ∧ w.cell? ⟨p9, o9, none⟩ = some x9 ∧ w.cell? ⟨p10, o10, none⟩ = some x10 ∧ w.cell? ⟨p11, o11, none⟩ = some x11 ∧ Below v.heap.size v w) (hB : Below w.heap.size w w1) : w1.cell? ⟨p0, o0, none⟩ = some x0 ∧ w1.cell? ⟨p1, o1, none⟩ = some x1 ∧ w1.cell? ⟨p2, o2, none⟩ = some x2 ∧ w1.cell? ⟨p3, o3, none⟩ = some x3 ∧ w1.cell? ⟨p4, o4, none⟩ = some x4 ∧ w1.cell? ⟨p5, o5, none⟩ = some x5 ∧ w1.cell? ⟨p6, o6, none⟩ = some x6 ∧ w1.cell? ⟨p7, o7, none⟩ = some x7 ∧ w1.cell? ⟨p8, o8, none⟩ = some x8 ∧ w1.cell? ⟨p9, o9, none⟩ = some x9 ∧ w1.cell? ⟨p10, o10, none⟩ = some x10 ∧ w1.cell? ⟨p11, o11, none⟩ = some x11 ∧ Below v.heap.size v w1 := by
 obtain ⟨a0, a1, a2, a3, a4, a5, a6, a7, a8, a9, a10, a11, h⟩ := h
 exact ⟨keptBelow hB a0, keptBelow hB a1, keptBelow hB a2, keptBelow hB a3, keptBelow hB a4, keptBelow hB a5, keptBelow hB a6, keptBelow hB a7, keptBelow hB a8, keptBelow hB a9, keptBelow hB a10, keptBelow hB a11, belowVia hB h⟩
theorem s12Below {v w : World} {p0 p1 p2 p3 p4 p5 p6 p7 p8 p9 p10 p11 o0 o1 o2 o3 o4 o5 o6 o7 o8 o9 o10 o11 : Nat} {x0 x1 x2 x3 x4 x5 x6 x7 x8 x9 x10 x11 : Value} (h : w.cell? ⟨p0, o0, none⟩ = some x0 ∧ w.cell? ⟨p1, o1, none⟩ = some x1 ∧ w.cell? ⟨p2, o2, none⟩ = some x2 ∧ w.cell? ⟨p3, o3, none⟩ = some x3 ∧ w.cell? ⟨p4, o4, none⟩ = some x4 ∧ w.cell? ⟨p5, o5, none⟩ = some x5 ∧ w.cell? ⟨p6, o6, none⟩ = some x6 ∧ w.cell? ⟨p7, o7, none⟩ = some x7 ∧ w.cell? ⟨p8, o8, none⟩ = some x8 ∧ w.cell? ⟨p9, o9, none⟩ = some x9 ∧ w.cell? ⟨p10, o10, none⟩ = some x10 ∧ w.cell? ⟨p11, o11, none⟩ = some x11 ∧ Below v.heap.size v w) : Below v.heap.size v w := by
 obtain ⟨_, _, _, _, _, _, _, _, _, _, _, _, h⟩ := h
 exact h
set_option maxRecDepth 100000 in
set_option maxHeartbeats 8000000 in
theorem sane_c (W : World) (hT : TabP W) (hTB : TabB W) : Calls Tryz.prog 9 #[] W fun e w' => e = .returned (.bool true) ∧ Below W.heap.size W w' := by
 have HW := Lib.hid (Below.refl W.heap.size W)
 have HT := Lib.hid hT
 have HTB := Lib.hid hTB
 clear hT hTB
 go_enter Tryz.func9, Tryz.ntmps9
 go_wp2_with fail
 have hB := alloc_belowL W (.cells #[.string ⟨#[52]⟩, .string ⟨#[50]⟩] 9)
 have Bn : BlkB 9 W.heap.size [.string ⟨#[52]⟩, .string ⟨#[50]⟩] (W.alloc (.cells #[.string ⟨#[52]⟩, .string ⟨#[50]⟩] 9)) := heap_alloc_new W _
 have Zw0 := Lib.hid (alloc_sizeL W (.cells #[.string ⟨#[52]⟩, .string ⟨#[50]⟩] 9))
 have HW := Lib.hid (belowVia hB HW.out)
 have HT := Lib.hid (TabP.via hB HT.out)
 have HTB := Lib.hid (TabB.via hB HTB.out)
 have Bn := Lib.hid Bn
 clear hB
 generalize W.alloc (.cells #[.string ⟨#[52]⟩, .string ⟨#[50]⟩] 9) = w0 at *
 have Mv : Hid (VecM w0 vEx (some ⟨W.heap.size, 0, none⟩) 2) := Lib.hid (vec_blk (l' := []) Bn.out (by decide) (by decide) (sized_1 _) (sized_2 _ _))
 have hB := alloc_belowL w0 (.cells #[.slice (some ⟨W.heap.size, 0, none⟩) 2 2, .string ⟨#[50]⟩] 30)
 have Bv : BlkB 30 w0.heap.size [.slice (some ⟨W.heap.size, 0, none⟩) 2 2, .string ⟨#[50]⟩] (w0.alloc (.cells #[.slice (some ⟨W.heap.size, 0, none⟩) 2 2, .string ⟨#[50]⟩] 30)) := heap_alloc_new w0 _
 have Zw1 := Lib.hid (alloc_sizeL w0 (.cells #[.slice (some ⟨W.heap.size, 0, none⟩) 2 2, .string ⟨#[50]⟩] 30))
 rw [Zw0.out] at Bv
 have Mv := Lib.hid (Mv.out.via hB)
 have HW := Lib.hid (belowVia hB HW.out)
 have HT := Lib.hid (TabP.via hB HT.out)
 have HTB := Lib.hid (TabB.via hB HTB.out)
 have Bv := Lib.hid Bv
 clear hB
 generalize w0.alloc (.cells #[.slice (some ⟨W.heap.size, 0, none⟩) 2 2, .string ⟨#[50]⟩] 30) = w1 at *
 have Zw1 := Lib.hid ((Zw1.out).trans (congrArg (· + 1) Zw0.out))
 generalize hpv : W.heap.size + 1 = pv at *
 clear hpv
 clear Bn
 refine (two_c 3 1 w1 (i64_s (by decide)) (i64_s (by decide))).mono ?_
 rintro e w2 ⟨⟨sa, rfl, hs⟩, hB⟩
 have Mv := Lib.hid (Mv.out.via hB)
 have Bv := Lib.hid (Bv.out.via hB)
 have HW := Lib.hid (belowVia hB HW.out)
 have HT := Lib.hid (TabP.via hB HT.out)
 have HTB := Lib.hid (TabB.via hB HTB.out)
 clear hB
 go_wp2_with fail
 refine (e_solve31 sa w2 hs HT.out HTB.out).mono ?_
 rintro e w3 ⟨⟨qa, la, da, rfl, Ma, hla, heq⟩, hB⟩
 have Mv := Lib.hid (Mv.out.via hB)
 have Bv := Lib.hid (Bv.out.via hB)
 have HW := Lib.hid (belowVia hB HW.out)
 have HT := Lib.hid (TabP.via hB HT.out)
 have HTB := Lib.hid (TabB.via hB HTB.out)
 have Ma := Lib.hid Ma
 have HLA := Lib.hid hla
 have HEQ := Lib.hid heq
 clear hB hs hla heq
 go_wp2_with fail
 have hB := alloc_belowL w3 (.cells #[.bool true, .slice (some ⟨qa, 0, none⟩) 2 3, .string (intB da), .slice none 0 0] 38)
 have Ba : BlkB 38 w3.heap.size [.bool true, .slice (some ⟨qa, 0, none⟩) 2 3, .string (intB da), .slice none 0 0] (w3.alloc (.cells #[.bool true, .slice (some ⟨qa, 0, none⟩) 2 3, .string (intB da), .slice none 0 0] 38)) := heap_alloc_new w3 _
 have Zw4 := Lib.hid (alloc_sizeL w3 (.cells #[.bool true, .slice (some ⟨qa, 0, none⟩) 2 3, .string (intB da), .slice none 0 0] 38))
 have Mv := Lib.hid (Mv.out.via hB)
 have Bv := Lib.hid (Bv.out.via hB)
 have Ma := Lib.hid (Ma.out.via hB)
 have HW := Lib.hid (belowVia hB HW.out)
 have HT := Lib.hid (TabP.via hB HT.out)
 have HTB := Lib.hid (TabB.via hB HTB.out)
 have Ba := Lib.hid Ba
 clear hB
 generalize w3.alloc (.cells #[.bool true, .slice (some ⟨qa, 0, none⟩) 2 3, .string (intB da), .slice none 0 0] 38) = w4 at *
 generalize w3.heap.size = pa at *
 refine (two_c 3 4 w4 (i64_s (by decide)) (i64_s (by decide))).mono ?_
 rintro e w5 ⟨⟨sa, rfl, hs⟩, hB⟩
 have Mv := Lib.hid (Mv.out.via hB)
 have Bv := Lib.hid (Bv.out.via hB)
 have Ma := Lib.hid (Ma.out.via hB)
 have Ba := Lib.hid (Ba.out.via hB)
 have HW := Lib.hid (belowVia hB HW.out)
 have HT := Lib.hid (TabP.via hB HT.out)
 have HTB := Lib.hid (TabB.via hB HTB.out)
 clear hB
 go_wp2_with fail
 refine (e_solve34 sa w5 hs HT.out HTB.out).mono ?_
 rintro e w6 ⟨⟨qb, lb, rfl, Mb, hlb, href⟩, hB⟩
 have Mv := Lib.hid (Mv.out.via hB)
 have Bv := Lib.hid (Bv.out.via hB)
 have Ma := Lib.hid (Ma.out.via hB)
 have Ba := Lib.hid (Ba.out.via hB)
 have HW := Lib.hid (belowVia hB HW.out)
 have HT := Lib.hid (TabP.via hB HT.out)
 have HTB := Lib.hid (TabB.via hB HTB.out)
 have Mb := Lib.hid Mb
 have HLB := Lib.hid hlb
 have HRF := Lib.hid href
 clear hB hs hlb href
 go_wp2_with fail
 have hB := alloc_belowL w6 (.cells #[.bool false, .slice none 0 0, .string ⟨#[]⟩, .slice (some ⟨qb, 0, none⟩) 2 2] 38)
 have Bb : BlkB 38 w6.heap.size [.bool false, .slice none 0 0, .string ⟨#[]⟩, .slice (some ⟨qb, 0, none⟩) 2 2] (w6.alloc (.cells #[.bool false, .slice none 0 0, .string ⟨#[]⟩, .slice (some ⟨qb, 0, none⟩) 2 2] 38)) := heap_alloc_new w6 _
 have Zw7 := Lib.hid (alloc_sizeL w6 (.cells #[.bool false, .slice none 0 0, .string ⟨#[]⟩, .slice (some ⟨qb, 0, none⟩) 2 2] 38))
 have Mv := Lib.hid (Mv.out.via hB)
 have Bv := Lib.hid (Bv.out.via hB)
 have Ma := Lib.hid (Ma.out.via hB)
 have Ba := Lib.hid (Ba.out.via hB)
 have Mb := Lib.hid (Mb.out.via hB)
 have HW := Lib.hid (belowVia hB HW.out)
 have HT := Lib.hid (TabP.via hB HT.out)
 have HTB := Lib.hid (TabB.via hB HTB.out)
 have Bb := Lib.hid Bb
 clear hB
 generalize w6.alloc (.cells #[.bool false, .slice none 0 0, .string ⟨#[]⟩, .slice (some ⟨qb, 0, none⟩) 2 2] 38) = w7 at *
 generalize w6.heap.size = pb at *
 have hB := alloc_belowL w7 (.cells #[.slice none 0 0, .int .i64 0] 60)
 have Br : BlkB 60 w7.heap.size [.slice none 0 0, .int .i64 0] (w7.alloc (.cells #[.slice none 0 0, .int .i64 0] 60)) := heap_alloc_new w7 _
 have Zw8 := Lib.hid (alloc_sizeL w7 (.cells #[.slice none 0 0, .int .i64 0] 60))
 rw [Zw7.out] at Br
 have Mv := Lib.hid (Mv.out.via hB)
 have Bv := Lib.hid (Bv.out.via hB)
 have Ma := Lib.hid (Ma.out.via hB)
 have Ba := Lib.hid (Ba.out.via hB)
 have Mb := Lib.hid (Mb.out.via hB)
 have Bb := Lib.hid (Bb.out.via hB)
 have HW := Lib.hid (belowVia hB HW.out)
 have HT := Lib.hid (TabP.via hB HT.out)
 have HTB := Lib.hid (TabB.via hB HTB.out)
 have Br := Lib.hid Br
 clear hB
 generalize w7.alloc (.cells #[.slice none 0 0, .int .i64 0] 60) = w8 at *
 have Zw8 := Lib.hid ((Zw8.out).trans (congrArg (· + 1) Zw7.out))
 generalize hpr0 : pb + 1 = pr0 at *
 clear hpr0
 refine (e_solve0 (some ⟨pr0, 0, none⟩) w8 (one_row Br.out (i64_s (by decide)) (i64_s (by decide))) HT.out HTB.out).mono ?_
 rintro e w9 ⟨⟨qc, dc, rfl⟩, hB⟩
 have Mv := Lib.hid (Mv.out.via hB)
 have Bv := Lib.hid (Bv.out.via hB)
 have Ma := Lib.hid (Ma.out.via hB)
 have Ba := Lib.hid (Ba.out.via hB)
 have Mb := Lib.hid (Mb.out.via hB)
 have Bb := Lib.hid (Bb.out.via hB)
 have HW := Lib.hid (belowVia hB HW.out)
 have HT := Lib.hid (TabP.via hB HT.out)
 have HTB := Lib.hid (TabB.via hB HTB.out)
 clear hB Br
 go_wp2_with fail
 have hB := alloc_belowL w9 (.cells #[.bool true, .slice (some ⟨qc, 0, none⟩) 0 1, .string dc, .slice none 0 0] 38)
 have Bc : BlkB 38 w9.heap.size [.bool true, .slice (some ⟨qc, 0, none⟩) 0 1, .string dc, .slice none 0 0] (w9.alloc (.cells #[.bool true, .slice (some ⟨qc, 0, none⟩) 0 1, .string dc, .slice none 0 0] 38)) := heap_alloc_new w9 _
 have Zw10 := Lib.hid (alloc_sizeL w9 (.cells #[.bool true, .slice (some ⟨qc, 0, none⟩) 0 1, .string dc, .slice none 0 0] 38))
 have Mv := Lib.hid (Mv.out.via hB)
 have Bv := Lib.hid (Bv.out.via hB)
 have Ma := Lib.hid (Ma.out.via hB)
 have Ba := Lib.hid (Ba.out.via hB)
 have Mb := Lib.hid (Mb.out.via hB)
 have Bb := Lib.hid (Bb.out.via hB)
 have HW := Lib.hid (belowVia hB HW.out)
 have HT := Lib.hid (TabP.via hB HT.out)
 have HTB := Lib.hid (TabB.via hB HTB.out)
 have Bc := Lib.hid Bc
 clear hB
 generalize w9.alloc (.cells #[.bool true, .slice (some ⟨qc, 0, none⟩) 0 1, .string dc, .slice none 0 0] 38) = w10 at *
 generalize w9.heap.size = pc at *
 have hB := alloc_belowL w10 (.cells #[.slice none 0 0, .int .i64 1] 60)
 have Br : BlkB 60 w10.heap.size [.slice none 0 0, .int .i64 1] (w10.alloc (.cells #[.slice none 0 0, .int .i64 1] 60)) := heap_alloc_new w10 _
 have Zw11 := Lib.hid (alloc_sizeL w10 (.cells #[.slice none 0 0, .int .i64 1] 60))
 rw [Zw10.out] at Br
 have Mv := Lib.hid (Mv.out.via hB)
 have Bv := Lib.hid (Bv.out.via hB)
 have Ma := Lib.hid (Ma.out.via hB)
 have Ba := Lib.hid (Ba.out.via hB)
 have Mb := Lib.hid (Mb.out.via hB)
 have Bb := Lib.hid (Bb.out.via hB)
 have Bc := Lib.hid (Bc.out.via hB)
 have HW := Lib.hid (belowVia hB HW.out)
 have HT := Lib.hid (TabP.via hB HT.out)
 have HTB := Lib.hid (TabB.via hB HTB.out)
 have Br := Lib.hid Br
 clear hB
 generalize w10.alloc (.cells #[.slice none 0 0, .int .i64 1] 60) = w11 at *
 have Zw11 := Lib.hid ((Zw11.out).trans (congrArg (· + 1) Zw10.out))
 generalize hpr1 : pc + 1 = pr1 at *
 clear hpr1
 refine (e_solve1 (some ⟨pr1, 0, none⟩) w11 (one_row Br.out (i64_s (by decide)) (i64_s (by decide))) HT.out HTB.out).mono ?_
 rintro e w12 ⟨⟨qd, rfl⟩, hB⟩
 have Mv := Lib.hid (Mv.out.via hB)
 have Bv := Lib.hid (Bv.out.via hB)
 have Ma := Lib.hid (Ma.out.via hB)
 have Ba := Lib.hid (Ba.out.via hB)
 have Mb := Lib.hid (Mb.out.via hB)
 have Bb := Lib.hid (Bb.out.via hB)
 have Bc := Lib.hid (Bc.out.via hB)
 have HW := Lib.hid (belowVia hB HW.out)
 have HT := Lib.hid (TabP.via hB HT.out)
 have HTB := Lib.hid (TabB.via hB HTB.out)
 clear hB Br
 go_wp2_with fail
 have hB := alloc_belowL w12 (.cells #[.bool false, .slice none 0 0, .string ⟨#[]⟩, .slice (some ⟨qd, 0, none⟩) 1 1] 38)
 have Bd : BlkB 38 w12.heap.size [.bool false, .slice none 0 0, .string ⟨#[]⟩, .slice (some ⟨qd, 0, none⟩) 1 1] (w12.alloc (.cells #[.bool false, .slice none 0 0, .string ⟨#[]⟩, .slice (some ⟨qd, 0, none⟩) 1 1] 38)) := heap_alloc_new w12 _
 have Zw13 := Lib.hid (alloc_sizeL w12 (.cells #[.bool false, .slice none 0 0, .string ⟨#[]⟩, .slice (some ⟨qd, 0, none⟩) 1 1] 38))
 have Mv := Lib.hid (Mv.out.via hB)
 have Bv := Lib.hid (Bv.out.via hB)
 have Ma := Lib.hid (Ma.out.via hB)
 have Ba := Lib.hid (Ba.out.via hB)
 have Mb := Lib.hid (Mb.out.via hB)
 have Bb := Lib.hid (Bb.out.via hB)
 have Bc := Lib.hid (Bc.out.via hB)
 have HW := Lib.hid (belowVia hB HW.out)
 have HT := Lib.hid (TabP.via hB HT.out)
 have HTB := Lib.hid (TabB.via hB HTB.out)
 have Bd := Lib.hid Bd
 clear hB
 generalize w12.alloc (.cells #[.bool false, .slice none 0 0, .string ⟨#[]⟩, .slice (some ⟨qd, 0, none⟩) 1 1] 38) = w13 at *
 generalize w12.heap.size = pd at *
 have hB := alloc_belowL w13 (.cells #[.string ⟨#[49]⟩, .string ⟨#[48]⟩] 9)
 have B1 : BlkB 9 w13.heap.size [.string ⟨#[49]⟩, .string ⟨#[48]⟩] (w13.alloc (.cells #[.string ⟨#[49]⟩, .string ⟨#[48]⟩] 9)) := heap_alloc_new w13 _
 have Zw14 := Lib.hid (alloc_sizeL w13 (.cells #[.string ⟨#[49]⟩, .string ⟨#[48]⟩] 9))
 rw [Zw13.out] at B1
 have Mv := Lib.hid (Mv.out.via hB)
 have Bv := Lib.hid (Bv.out.via hB)
 have Ma := Lib.hid (Ma.out.via hB)
 have Ba := Lib.hid (Ba.out.via hB)
 have Mb := Lib.hid (Mb.out.via hB)
 have Bb := Lib.hid (Bb.out.via hB)
 have Bc := Lib.hid (Bc.out.via hB)
 have Bd := Lib.hid (Bd.out.via hB)
 have HW := Lib.hid (belowVia hB HW.out)
 have HT := Lib.hid (TabP.via hB HT.out)
 have HTB := Lib.hid (TabB.via hB HTB.out)
 have B1 := Lib.hid B1
 clear hB
 generalize w13.alloc (.cells #[.string ⟨#[49]⟩, .string ⟨#[48]⟩] 9) = w14 at *
 have Zw14 := Lib.hid ((Zw14.out).trans (congrArg (· + 1) Zw13.out))
 generalize hq1 : pd + 1 = q1 at *
 clear hq1
 have hB := alloc_belowL w14 (.cells #[.string ⟨#[48]⟩, .string ⟨#[49]⟩] 9)
 have B2 : BlkB 9 w14.heap.size [.string ⟨#[48]⟩, .string ⟨#[49]⟩] (w14.alloc (.cells #[.string ⟨#[48]⟩, .string ⟨#[49]⟩] 9)) := heap_alloc_new w14 _
 have Zw15 := Lib.hid (alloc_sizeL w14 (.cells #[.string ⟨#[48]⟩, .string ⟨#[49]⟩] 9))
 rw [Zw14.out] at B2
 have Mv := Lib.hid (Mv.out.via hB)
 have Bv := Lib.hid (Bv.out.via hB)
 have Ma := Lib.hid (Ma.out.via hB)
 have Ba := Lib.hid (Ba.out.via hB)
 have Mb := Lib.hid (Mb.out.via hB)
 have Bb := Lib.hid (Bb.out.via hB)
 have Bc := Lib.hid (Bc.out.via hB)
 have Bd := Lib.hid (Bd.out.via hB)
 have B1 := Lib.hid (B1.out.via hB)
 have HW := Lib.hid (belowVia hB HW.out)
 have HT := Lib.hid (TabP.via hB HT.out)
 have HTB := Lib.hid (TabB.via hB HTB.out)
 have B2 := Lib.hid B2
 clear hB
 generalize w14.alloc (.cells #[.string ⟨#[48]⟩, .string ⟨#[49]⟩] 9) = w15 at *
 have Zw15 := Lib.hid ((Zw15.out).trans (congrArg (· + 1) Zw14.out))
 generalize hq2 : q1 + 1 = q2 at *
 clear hq2
 refine (e_mix (some ⟨q1, 0, none⟩) (some ⟨q2, 0, none⟩) w15 (vec_blk (l' := []) B1.out (by decide) (by decide) (sized_1 _) (sized_2 _ _)) (vec_blk (l' := []) B2.out (by decide) (by decide) (sized_1 _) (sized_2 _ _)) HT.out).mono ?_
 rintro e w16 ⟨⟨qm, cm, rfl, Mm⟩, hB⟩
 have Mv := Lib.hid (Mv.out.via hB)
 have Bv := Lib.hid (Bv.out.via hB)
 have Ma := Lib.hid (Ma.out.via hB)
 have Ba := Lib.hid (Ba.out.via hB)
 have Mb := Lib.hid (Mb.out.via hB)
 have Bb := Lib.hid (Bb.out.via hB)
 have Bc := Lib.hid (Bc.out.via hB)
 have Bd := Lib.hid (Bd.out.via hB)
 have B1 := Lib.hid (B1.out.via hB)
 have B2 := Lib.hid (B2.out.via hB)
 have HW := Lib.hid (belowVia hB HW.out)
 have HT := Lib.hid (TabP.via hB HT.out)
 have HTB := Lib.hid (TabB.via hB HTB.out)
 have Mm := Lib.hid Mm
 clear hB B1 B2
 go_wp2_with fail
 have hB := alloc_belowL w16 (.cells #[.slice (some ⟨qm, 0, none⟩) 2 cm, .string ⟨#[52]⟩] 30)
 have Bm : BlkB 30 w16.heap.size [.slice (some ⟨qm, 0, none⟩) 2 cm, .string ⟨#[52]⟩] (w16.alloc (.cells #[.slice (some ⟨qm, 0, none⟩) 2 cm, .string ⟨#[52]⟩] 30)) := heap_alloc_new w16 _
 have Zw17 := Lib.hid (alloc_sizeL w16 (.cells #[.slice (some ⟨qm, 0, none⟩) 2 cm, .string ⟨#[52]⟩] 30))
 have Mv := Lib.hid (Mv.out.via hB)
 have Bv := Lib.hid (Bv.out.via hB)
 have Ma := Lib.hid (Ma.out.via hB)
 have Ba := Lib.hid (Ba.out.via hB)
 have Mb := Lib.hid (Mb.out.via hB)
 have Bb := Lib.hid (Bb.out.via hB)
 have Bc := Lib.hid (Bc.out.via hB)
 have Bd := Lib.hid (Bd.out.via hB)
 have Mm := Lib.hid (Mm.out.via hB)
 have HW := Lib.hid (belowVia hB HW.out)
 have HT := Lib.hid (TabP.via hB HT.out)
 have HTB := Lib.hid (TabB.via hB HTB.out)
 have Bm := Lib.hid Bm
 clear hB
 generalize w16.alloc (.cells #[.slice (some ⟨qm, 0, none⟩) 2 cm, .string ⟨#[52]⟩] 30) = w17 at *
 generalize w16.heap.size = pm at *
 have hB := alloc_belowL w17 (.cells #[.slice none 0 0, .int .i64 0] 60)
 have Br : BlkB 60 w17.heap.size [.slice none 0 0, .int .i64 0] (w17.alloc (.cells #[.slice none 0 0, .int .i64 0] 60)) := heap_alloc_new w17 _
 have Zw18 := Lib.hid (alloc_sizeL w17 (.cells #[.slice none 0 0, .int .i64 0] 60))
 rw [Zw17.out] at Br
 have Mv := Lib.hid (Mv.out.via hB)
 have Bv := Lib.hid (Bv.out.via hB)
 have Ma := Lib.hid (Ma.out.via hB)
 have Ba := Lib.hid (Ba.out.via hB)
 have Mb := Lib.hid (Mb.out.via hB)
 have Bb := Lib.hid (Bb.out.via hB)
 have Bc := Lib.hid (Bc.out.via hB)
 have Bd := Lib.hid (Bd.out.via hB)
 have Mm := Lib.hid (Mm.out.via hB)
 have Bm := Lib.hid (Bm.out.via hB)
 have HW := Lib.hid (belowVia hB HW.out)
 have HT := Lib.hid (TabP.via hB HT.out)
 have HTB := Lib.hid (TabB.via hB HTB.out)
 have Br := Lib.hid Br
 clear hB
 generalize w17.alloc (.cells #[.slice none 0 0, .int .i64 0] 60) = w18 at *
 have Zw18 := Lib.hid ((Zw18.out).trans (congrArg (· + 1) Zw17.out))
 generalize hpr2 : pm + 1 = pr2 at *
 clear hpr2
 refine (e_solve_bad (some ⟨pr2, 0, none⟩) w18 (one_row Br.out (i64_s (by decide)) (i64_s (by decide)))).mono ?_
 rintro e w19 ⟨rfl, hB⟩
 have Mv := Lib.hid (Mv.out.via hB)
 have Bv := Lib.hid (Bv.out.via hB)
 have Ma := Lib.hid (Ma.out.via hB)
 have Ba := Lib.hid (Ba.out.via hB)
 have Mb := Lib.hid (Mb.out.via hB)
 have Bb := Lib.hid (Bb.out.via hB)
 have Bc := Lib.hid (Bc.out.via hB)
 have Bd := Lib.hid (Bd.out.via hB)
 have Mm := Lib.hid (Mm.out.via hB)
 have Bm := Lib.hid (Bm.out.via hB)
 have HW := Lib.hid (belowVia hB HW.out)
 have HT := Lib.hid (TabP.via hB HT.out)
 have HTB := Lib.hid (TabB.via hB HTB.out)
 clear hB Br
 go_wp2_with fail
 have hB := alloc_belowL w19 (.cells #[.bool false, .slice none 0 0, .string ⟨#[]⟩, .slice none 0 0] 38)
 have Be : BlkB 38 w19.heap.size [.bool false, .slice none 0 0, .string ⟨#[]⟩, .slice none 0 0] (w19.alloc (.cells #[.bool false, .slice none 0 0, .string ⟨#[]⟩, .slice none 0 0] 38)) := heap_alloc_new w19 _
 have Zw20 := Lib.hid (alloc_sizeL w19 (.cells #[.bool false, .slice none 0 0, .string ⟨#[]⟩, .slice none 0 0] 38))
 have Mv := Lib.hid (Mv.out.via hB)
 have Bv := Lib.hid (Bv.out.via hB)
 have Ma := Lib.hid (Ma.out.via hB)
 have Ba := Lib.hid (Ba.out.via hB)
 have Mb := Lib.hid (Mb.out.via hB)
 have Bb := Lib.hid (Bb.out.via hB)
 have Bc := Lib.hid (Bc.out.via hB)
 have Bd := Lib.hid (Bd.out.via hB)
 have Mm := Lib.hid (Mm.out.via hB)
 have Bm := Lib.hid (Bm.out.via hB)
 have HW := Lib.hid (belowVia hB HW.out)
 have HT := Lib.hid (TabP.via hB HT.out)
 have HTB := Lib.hid (TabB.via hB HTB.out)
 have Be := Lib.hid Be
 clear hB
 generalize w19.alloc (.cells #[.bool false, .slice none 0 0, .string ⟨#[]⟩, .slice none 0 0] 38) = w20 at *
 generalize w19.heap.size = pe at *
 clear Be
 go_cut [14] (fun s14 wx => s14 = .bool true ∧ BlkB 30 pv [.slice (some ⟨W.heap.size, 0, none⟩) 2 2, .string ⟨#[50]⟩] wx ∧ VecM wx vEx (some ⟨W.heap.size, 0, none⟩) 2 ∧ BlkB 30 pm [.slice (some ⟨qm, 0, none⟩) 2 cm, .string ⟨#[52]⟩] wx ∧ VecM wx mixR (some ⟨qm, 0, none⟩) cm ∧ Below W.heap.size W wx)
 case first =>
  have HEC : Hid (∀ w, Below w20.heap.size w20 w → Calls Tryz.prog 21 #[.agg #[.slice (some ⟨qa, 0, none⟩) 2 3, .string (intB da)], .agg #[.slice (some ⟨W.heap.size, 0, none⟩) 2 2, .string ⟨#[50]⟩]] w fun e w' => e = .returned (.bool true) ∧ Below w.heap.size w w') := Lib.hid (fun w hB => by
   have h := equal_c ⟨la.map intB, intB da⟩ vEx _ _ _ _ w (Ma.out.via hB) (Mv.out.via hB)
   have hl : (⟨la.map intB, intB da⟩ : VecP).nums.length = 2 := by show (la.map intB).length = 2; rw [List.length_map]; exact HLA.out
   rw [hl, HEQ.out] at h
   exact h)
  have HRC : Hid (∀ w a, Below w20.heap.size w20 w → SysM w (twoS 3 4) a 2 → Calls Tryz.prog 28 #[.agg #[.int .i64 2, .slice a 2 2], .slice (some ⟨qb, 0, none⟩) 2 2] w fun e w' => e = .returned (.bool true) ∧ Below w.heap.size w w') := Lib.hid (fun w a hB hs => by
   have h := refutes_c (twoS 3 4) a 2 (lb.map intB) _ _ w hs (Mb.out.via hB)
   have hl : (lb.map intB).length = 2 := by rw [List.length_map]; exact HLB.out
   rw [hl, HRF.out] at h
   exact h)
  have c0 := Bv.out.cell (i := 0) rfl
  have c1 := Bv.out.cell (i := 1) rfl
  have c2 := Ba.out.cell (i := 0) rfl
  have c3 := Ba.out.cell (i := 1) rfl
  have c4 := Ba.out.cell (i := 2) rfl
  have c5 := Ba.out.cell (i := 3) rfl
  have c6 := Bb.out.cell (i := 0) rfl
  have c7 := Bb.out.cell (i := 3) rfl
  have c8 := Bc.out.cell (i := 0) rfl
  have c9 := Bc.out.cell (i := 1) rfl
  have c10 := Bd.out.cell (i := 0) rfl
  have c11 := Bd.out.cell (i := 3) rfl
  go_region_held3 (fun w' => w'.cell? ⟨pv, 0, none⟩ = some (.slice (some ⟨W.heap.size, 0, none⟩) 2 2) ∧ w'.cell? ⟨pv, 1, none⟩ = some (.string ⟨#[50]⟩) ∧ w'.cell? ⟨pa, 0, none⟩ = some (.bool true) ∧ w'.cell? ⟨pa, 1, none⟩ = some (.slice (some ⟨qa, 0, none⟩) 2 3) ∧ w'.cell? ⟨pa, 2, none⟩ = some (.string (intB da)) ∧ w'.cell? ⟨pa, 3, none⟩ = some (.slice none 0 0) ∧ w'.cell? ⟨pb, 0, none⟩ = some (.bool false) ∧ w'.cell? ⟨pb, 3, none⟩ = some (.slice (some ⟨qb, 0, none⟩) 2 2) ∧ w'.cell? ⟨pc, 0, none⟩ = some (.bool true) ∧ w'.cell? ⟨pc, 1, none⟩ = some (.slice (some ⟨qc, 0, none⟩) 0 1) ∧ w'.cell? ⟨pd, 0, none⟩ = some (.bool false) ∧ w'.cell? ⟨pd, 3, none⟩ = some (.slice (some ⟨qd, 0, none⟩) 1 1) ∧ Below w20.heap.size w20 w')
   (first | exact ⟨c0, c1, c2, c3, c4, c5, c6, c7, c8, c9, c10, c11, (Below.refl _ _).drew⟩ | exact s12Keep (by assumption) hB1 | exact s12Keep (by assumption) hB2 | exact s12Keep (by assumption) hB3) (first
   | (go_at_call 21; (with_reducible refine (HEC.out _ (s12Below (by assumption))).mono ?_); rintro e u1 ⟨rfl, hB1⟩)
   | (go_at_call 34; (with_reducible refine (two_c 3 4 _ (i64_s (by decide)) (i64_s (by decide))).mono ?_); rintro e u2 ⟨⟨sa, rfl, hs⟩, hB2⟩)
   | (go_at_call 28; (with_reducible refine (HRC.out _ _ (s12Below (by assumption)) hs).mono ?_); rintro e u3 ⟨rfl, hB3⟩))
  all_goals
   have HH : Hid (Below w20.heap.size w20 _) := s12Below (by assumption)
   go_wp2_with fail
   go_meet
   case rel => exact ⟨rfl, Bv.out.via HH.out, Mv.out.via HH.out, Bm.out.via HH.out, Mm.out.via HH.out, belowVia HH.out HW.out⟩
 case rest =>
 obtain ⟨rfl, bv, mv, bm, mm, hW⟩ := hcut
 have Bv := Lib.hid bv
 have Mv := Lib.hid mv
 have Bm := Lib.hid bm
 have Mm := Lib.hid mm
 have HW := Lib.hid hW
 clear bv mv bm mm hW Ma Mb Ba Bb Bc Bd HT HTB HLA HEQ HLB HRF
 go_wp2_with fail

 go_cut [15] (fun s15 wx => s15 = .bool true ∧ BlkB 30 pm [.slice (some ⟨qm, 0, none⟩) 2 cm, .string ⟨#[52]⟩] wx ∧ VecM wx mixR (some ⟨qm, 0, none⟩) cm ∧ Below wc.heap.size wc wx)
 case first =>
  have HC1 : Hid (∀ w a, Below wc.heap.size wc w → SysM w (twoS 3 1) a 2 → Calls Tryz.prog 19 #[.agg #[.int .i64 2, .slice a 2 2], .agg #[.slice (some ⟨W.heap.size, 0, none⟩) 2 2, .string ⟨#[50]⟩]] w fun e w' => e = .returned (.bool true) ∧ Below w.heap.size w w') := Lib.hid (fun w a hB hs => by
   have h := check_c (twoS 3 1) a 2 vEx _ _ w hs (Mv.out.via hB)
   rw [check_31] at h; exact h)
  have HC2 : Hid (∀ w a, Below wc.heap.size wc w → SysM w (twoS 3 2) a 2 → Calls Tryz.prog 19 #[.agg #[.int .i64 2, .slice a 2 2], .agg #[.slice (some ⟨W.heap.size, 0, none⟩) 2 2, .string ⟨#[50]⟩]] w fun e w' => e = .returned (.bool false) ∧ Below w.heap.size w w') := Lib.hid (fun w a hB hs => by
   have h := check_c (twoS 3 2) a 2 vEx _ _ w hs (Mv.out.via hB)
   rw [check_32] at h; exact h)
  have c0 := Bv.out.cell (i := 0) rfl
  have c1 := Bv.out.cell (i := 1) rfl

  refine wp_region_S (fun w' => w'.cell? ⟨pv, 0, none⟩ = some (.slice (some ⟨W.heap.size, 0, none⟩) 2 2) ∧ w'.cell? ⟨pv, 1, none⟩ = some (.string ⟨#[50]⟩)) (by kernel_rfl) ?_
  have hB := (Below.refl wc.heap.size wc).drew
  have c0 := keptBelow hB c0
  have c1 := keptBelow hB c1
  generalize wc.drew = wd at *
  refine wpS_take (i := 1) (d := some 127) (v := ?_) rfl (by kernel_rfl) (by kernel_rfl) (by kernel_rfl) rfl (fun _ _ _ h => h) (.inl ⟨by rfl, fun w hw => ?_⟩) ⟨c0, c1⟩ ?_
  rotate_left
  ·(obtain ⟨_, _⟩ := hw); go_simp; with_reducible rfl
  try simp only [Act.put, tA, tB, tC]
  refine wpS_one (i := 0) (by kernel_rfl) rfl rfl ?_
  go_simp
  refine (two_c 3 1 _ (i64_s (by decide)) (i64_s (by decide))).mono ?_
  rintro e wj1 ⟨⟨sa, rfl, hs⟩, hBx⟩
  have c0 := keptBelow hBx c0
  have c1 := keptBelow hBx c1
  have hB := belowVia hBx hB
  clear hBx
  first | refine ⟨⟨c0, c1⟩, ?_⟩ | skip
  try simp only [Act.put, tA, tB, tC]
  refine wpS_one (i := 2) (by kernel_rfl) rfl rfl ?_
  go_simp
  refine (HC1.out _ _ hB hs).mono ?_
  rintro e wj2 ⟨rfl, hBx⟩
  have c0 := keptBelow hBx c0
  have c1 := keptBelow hBx c1
  have hB := belowVia hBx hB
  clear hBx hs
  first | refine ⟨⟨c0, c1⟩, ?_⟩ | skip
  try simp only [Act.put, tA, tB, tC]
  refine wpS_take (i := 3) (d := some 129) (v := ?_) rfl (by kernel_rfl) (by kernel_rfl) (by kernel_rfl) rfl (fun _ _ _ h => h) (.inl ⟨by rfl, fun w hw => ?_⟩) ⟨c0, c1⟩ ?_
  rotate_left
  ·clear hw; go_simp; with_reducible rfl
  try simp only [Act.put, tA, tB, tC]
  refine wpS_take (i := 5) (d := some 131) (v := ?_) rfl (by kernel_rfl) (by kernel_rfl) (by kernel_rfl) rfl (fun _ _ _ h => h) (.inl ⟨by rfl, fun w hw => ?_⟩) ⟨c0, c1⟩ ?_
  rotate_left
  ·(obtain ⟨_, _⟩ := hw); go_simp; with_reducible rfl
  try simp only [Act.put, tA, tB, tC]
  refine wpS_want (i := 4) (by kernel_rfl) rfl (by rfl) ?_
  go_simp
  refine (two_c 3 2 _ (i64_s (by decide)) (i64_s (by decide))).mono ?_
  rintro e wj3 ⟨⟨sa, rfl, hs⟩, hBx⟩
  have c0 := keptBelow hBx c0
  have c1 := keptBelow hBx c1
  have hB := belowVia hBx hB
  clear hBx
  first | refine ⟨⟨c0, c1⟩, ?_⟩ | skip
  try simp only [Act.put, tA, tB, tC]
  refine wpS_want (i := 6) (by kernel_rfl) rfl (by rfl) ?_
  go_simp
  refine (HC2.out _ _ hB hs).mono ?_
  rintro e wj4 ⟨rfl, hBx⟩
  have c0 := keptBelow hBx c0
  have c1 := keptBelow hBx c1
  have hB := belowVia hBx hB
  clear hBx hs
  first | refine ⟨⟨c0, c1⟩, ?_⟩ | skip
  try simp only [Act.put, tA, tB, tC]
  refine wpS_take (i := 7) (d := some 133) (v := ?_) rfl (by kernel_rfl) (by kernel_rfl) (by kernel_rfl) rfl (fun _ _ _ h => h) (.inl ⟨by rfl, fun w hw => ?_⟩) ⟨c0, c1⟩ ?_
  rotate_left
  ·clear hw; go_simp; with_reducible rfl
  try simp only [Act.put, tA, tB, tC]
  refine wpS_take (i := 8) (d := some 134) (v := ?_) rfl (by kernel_rfl) (by kernel_rfl) (by kernel_rfl) rfl (fun _ _ _ h => h) (.inl ⟨by rfl, fun w hw => ?_⟩) ⟨c0, c1⟩ ?_
  rotate_left
  ·clear hw; go_simp; with_reducible rfl
  try simp only [Act.put, tA, tB, tC]
  refine wpS_take (i := 9) (d := some 135) (v := ?_) rfl (by kernel_rfl) (by kernel_rfl) (by kernel_rfl) rfl (fun _ _ _ h => h) (.inl ⟨by rfl, fun w hw => ?_⟩) ⟨c0, c1⟩ ?_
  rotate_left
  ·clear hw; go_simp; with_reducible rfl
  try simp only [Act.put, tA, tB, tC]
  refine wpS_join (i := 10) (j := 11) (di := 136) (dj := 137) (fun w' u z => ∃ a g, u = .agg #[.int .i64 2, .slice a 2 2] ∧ z = .slice (some ⟨g, 0, none⟩) 2 2 ∧ SysM w' (twoS 3 4) a 2 ∧ BlkB 9 g [.string ⟨#[49]⟩, .string ⟨#[45, 49]⟩] w' ∧ Below wc.heap.size wc w') (by kernel_rfl) (by kernel_rfl) (by kernel_rfl) (by decide) (by decide) ?_ ?_ ?_
  ·intro K hK
   try simp only [Act.put, tA, tB, tC] at hK
   refine wpOp_want rfl (by rfl) ?_
   go_simp
   refine (two_c 3 4 _ (i64_s (by decide)) (i64_s (by decide))).mono ?_
   rintro e wj5 ⟨⟨sa, rfl, hs⟩, hBx⟩
   have c0 := keptBelow hBx c0
   have c1 := keptBelow hBx c1
   have hB := belowVia hBx hB
   clear hBx
   refine hK (.agg #[.int .i64 2, .slice sa 2 2]) _ ⟨c0, c1⟩ ?_
   intro K2 hK2
   try simp only [Act.put, tA, tB, tC] at hK2 ⊢
   refine wpOp_want rfl (by rfl) ?_
   go_simp
   have hBx := alloc_belowL wj5 (.cells #[.string ⟨#[49]⟩, .string ⟨#[45, 49]⟩] 9)
   have c0 := keptBelow hBx c0
   have c1 := keptBelow hBx c1
   have hB := belowVia hBx hB
   have hb : BlkB 9 wj5.heap.size [.string ⟨#[49]⟩, .string ⟨#[45, 49]⟩] (wj5.alloc (.cells #[.string ⟨#[49]⟩, .string ⟨#[45, 49]⟩] 9)) := heap_alloc_new wj5 (.cells #[.string ⟨#[49]⟩, .string ⟨#[45, 49]⟩] 9)
   have hs := hs.via hBx
   generalize wj5.alloc (.cells #[.string ⟨#[49]⟩, .string ⟨#[45, 49]⟩] 9) = wj6 at *
   clear hBx
   exact hK2 (.slice (some ⟨wj5.heap.size, 0, none⟩) 2 2) _ ⟨c0, c1⟩ ⟨_, _, rfl, rfl, hs, hb, hB⟩
  ·intro K hK
   try simp only [Act.put, tA, tB, tC] at hK
   refine wpOp_want rfl (by rfl) ?_
   go_simp
   have hBx := alloc_belowL wj4 (.cells #[.string ⟨#[49]⟩, .string ⟨#[45, 49]⟩] 9)
   have c0 := keptBelow hBx c0
   have c1 := keptBelow hBx c1
   have hB := belowVia hBx hB
   have hb : BlkB 9 wj4.heap.size [.string ⟨#[49]⟩, .string ⟨#[45, 49]⟩] (wj4.alloc (.cells #[.string ⟨#[49]⟩, .string ⟨#[45, 49]⟩] 9)) := heap_alloc_new wj4 (.cells #[.string ⟨#[49]⟩, .string ⟨#[45, 49]⟩] 9)
   generalize wj4.alloc (.cells #[.string ⟨#[49]⟩, .string ⟨#[45, 49]⟩] 9) = wj7 at *
   clear hBx
   refine hK (.slice (some ⟨wj4.heap.size, 0, none⟩) 2 2) _ ⟨c0, c1⟩ ?_
   intro K2 hK2
   try simp only [Act.put, tA, tB, tC] at hK2 ⊢
   refine wpOp_want rfl (by rfl) ?_
   go_simp
   refine (two_c 3 4 _ (i64_s (by decide)) (i64_s (by decide))).mono ?_
   rintro e wj8 ⟨⟨sa, rfl, hs⟩, hBx⟩
   have c0 := keptBelow hBx c0
   have c1 := keptBelow hBx c1
   have hB := belowVia hBx hB
   have hb := hb.via hBx
   clear hBx
   exact hK2 (.agg #[.int .i64 2, .slice sa 2 2]) _ ⟨c0, c1⟩ ⟨_, _, rfl, rfl, hs, hb, hB⟩
  intro wj xj yj hR hS
  clear c0 c1 hB
  obtain ⟨c0, c1⟩ := hS
  obtain ⟨sa, sg, rfl, rfl, hs, hb, hB⟩ := hR
  try simp only [Act.put, tA, tB, tC]
  refine wpS_want (i := 12) (by kernel_rfl) rfl (by rfl) ?_
  go_simp
  refine (ref_lit1 _ _ _ hs hb).mono ?_
  rintro e wj9 ⟨rfl, hBx⟩
  have c0 := keptBelow hBx c0
  have c1 := keptBelow hBx c1
  have hB := belowVia hBx hB
  clear hBx hs hb
  first | refine ⟨⟨c0, c1⟩, ?_⟩ | skip
  try simp only [Act.put, tA, tB, tC]
  refine wpS_take (i := 13) (d := some 139) (v := ?_) rfl (by kernel_rfl) (by kernel_rfl) (by kernel_rfl) rfl (fun _ _ _ h => h) (.inl ⟨by rfl, fun w hw => ?_⟩) ⟨c0, c1⟩ ?_
  rotate_left
  ·clear hw; go_simp; with_reducible rfl
  try simp only [Act.put, tA, tB, tC]
  refine wpS_take (i := 14) (d := some 140) (v := ?_) rfl (by kernel_rfl) (by kernel_rfl) (by kernel_rfl) rfl (fun _ _ _ h => h) (.inl ⟨by rfl, fun w hw => ?_⟩) ⟨c0, c1⟩ ?_
  rotate_left
  ·clear hw; go_simp; with_reducible rfl
  try simp only [Act.put, tA, tB, tC]
  refine wpS_join (i := 15) (j := 16) (di := 141) (dj := 142) (fun w' u z => ∃ a g, u = .agg #[.int .i64 2, .slice a 2 2] ∧ z = .slice (some ⟨g, 0, none⟩) 2 2 ∧ SysM w' (twoS 3 4) a 2 ∧ BlkB 9 g [.string ⟨#[45, 49]⟩, .string ⟨#[49]⟩] w' ∧ Below wc.heap.size wc w') (by kernel_rfl) (by kernel_rfl) (by kernel_rfl) (by decide) (by decide) ?_ ?_ ?_
  ·intro K hK
   try simp only [Act.put, tA, tB, tC] at hK
   refine wpOp_want rfl (by rfl) ?_
   go_simp
   refine (two_c 3 4 _ (i64_s (by decide)) (i64_s (by decide))).mono ?_
   rintro e wj10 ⟨⟨sa, rfl, hs⟩, hBx⟩
   have c0 := keptBelow hBx c0
   have c1 := keptBelow hBx c1
   have hB := belowVia hBx hB
   clear hBx
   refine hK (.agg #[.int .i64 2, .slice sa 2 2]) _ ⟨c0, c1⟩ ?_
   intro K2 hK2
   try simp only [Act.put, tA, tB, tC] at hK2 ⊢
   refine wpOp_want rfl (by rfl) ?_
   go_simp
   have hBx := alloc_belowL wj10 (.cells #[.string ⟨#[45, 49]⟩, .string ⟨#[49]⟩] 9)
   have c0 := keptBelow hBx c0
   have c1 := keptBelow hBx c1
   have hB := belowVia hBx hB
   have hb : BlkB 9 wj10.heap.size [.string ⟨#[45, 49]⟩, .string ⟨#[49]⟩] (wj10.alloc (.cells #[.string ⟨#[45, 49]⟩, .string ⟨#[49]⟩] 9)) := heap_alloc_new wj10 (.cells #[.string ⟨#[45, 49]⟩, .string ⟨#[49]⟩] 9)
   have hs := hs.via hBx
   generalize wj10.alloc (.cells #[.string ⟨#[45, 49]⟩, .string ⟨#[49]⟩] 9) = wj11 at *
   clear hBx
   exact hK2 (.slice (some ⟨wj10.heap.size, 0, none⟩) 2 2) _ ⟨c0, c1⟩ ⟨_, _, rfl, rfl, hs, hb, hB⟩
  ·intro K hK
   try simp only [Act.put, tA, tB, tC] at hK
   refine wpOp_want rfl (by rfl) ?_
   go_simp
   have hBx := alloc_belowL wj9 (.cells #[.string ⟨#[45, 49]⟩, .string ⟨#[49]⟩] 9)
   have c0 := keptBelow hBx c0
   have c1 := keptBelow hBx c1
   have hB := belowVia hBx hB
   have hb : BlkB 9 wj9.heap.size [.string ⟨#[45, 49]⟩, .string ⟨#[49]⟩] (wj9.alloc (.cells #[.string ⟨#[45, 49]⟩, .string ⟨#[49]⟩] 9)) := heap_alloc_new wj9 (.cells #[.string ⟨#[45, 49]⟩, .string ⟨#[49]⟩] 9)
   generalize wj9.alloc (.cells #[.string ⟨#[45, 49]⟩, .string ⟨#[49]⟩] 9) = wj12 at *
   clear hBx
   refine hK (.slice (some ⟨wj9.heap.size, 0, none⟩) 2 2) _ ⟨c0, c1⟩ ?_
   intro K2 hK2
   try simp only [Act.put, tA, tB, tC] at hK2 ⊢
   refine wpOp_want rfl (by rfl) ?_
   go_simp
   refine (two_c 3 4 _ (i64_s (by decide)) (i64_s (by decide))).mono ?_
   rintro e wj13 ⟨⟨sa, rfl, hs⟩, hBx⟩
   have c0 := keptBelow hBx c0
   have c1 := keptBelow hBx c1
   have hB := belowVia hBx hB
   have hb := hb.via hBx
   clear hBx
   exact hK2 (.agg #[.int .i64 2, .slice sa 2 2]) _ ⟨c0, c1⟩ ⟨_, _, rfl, rfl, hs, hb, hB⟩
  intro wj xj yj hR hS
  clear c0 c1 hB
  obtain ⟨c0, c1⟩ := hS
  obtain ⟨sa, sg, rfl, rfl, hs, hb, hB⟩ := hR
  try simp only [Act.put, tA, tB, tC]
  refine wpS_want (i := 17) (by kernel_rfl) rfl (by rfl) ?_
  go_simp
  refine (ref_lit2 _ _ _ hs hb).mono ?_
  rintro e wj14 ⟨rfl, hBx⟩
  have c0 := keptBelow hBx c0
  have c1 := keptBelow hBx c1
  have hB := belowVia hBx hB
  clear hBx hs hb
  first | refine ⟨⟨c0, c1⟩, ?_⟩ | skip
  try simp only [Act.put, tA, tB, tC]
  refine wpS_take (i := 18) (d := some 144) (v := ?_) rfl (by kernel_rfl) (by kernel_rfl) (by kernel_rfl) rfl (fun _ _ _ h => h) (.inl ⟨by rfl, fun w hw => ?_⟩) ⟨c0, c1⟩ ?_
  rotate_left
  ·clear hw; go_simp; with_reducible rfl
  try simp only [Act.put, tA, tB, tC]
  refine wpS_take (i := 19) (d := some 145) (v := ?_) rfl (by kernel_rfl) (by kernel_rfl) (by kernel_rfl) rfl (fun _ _ _ h => h) (.inl ⟨by rfl, fun w hw => ?_⟩) ⟨c0, c1⟩ ?_
  rotate_left
  ·clear hw; go_simp; with_reducible rfl
  try simp only [Act.put, tA, tB, tC]
  refine wpS_take (i := 20) (d := some 146) (v := ?_) rfl (by kernel_rfl) (by kernel_rfl) (by kernel_rfl) rfl (fun _ _ _ h => h) (.inl ⟨by rfl, fun w hw => ?_⟩) ⟨c0, c1⟩ ?_
  rotate_left
  ·clear hw; go_simp; with_reducible rfl
  try simp only [Act.put, tA, tB, tC]
  refine wpS_join (i := 21) (j := 22) (di := 147) (dj := 148) (fun w' u z => ∃ a g, u = .agg #[.int .i64 2, .slice a 2 2] ∧ z = .slice (some ⟨g, 0, none⟩) 2 2 ∧ SysM w' (twoS 3 1) a 2 ∧ BlkB 9 g [.string ⟨#[49]⟩, .string ⟨#[45, 49]⟩] w' ∧ Below wc.heap.size wc w') (by kernel_rfl) (by kernel_rfl) (by kernel_rfl) (by decide) (by decide) ?_ ?_ ?_
  ·intro K hK
   try simp only [Act.put, tA, tB, tC] at hK
   refine wpOp_want rfl (by rfl) ?_
   go_simp
   refine (two_c 3 1 _ (i64_s (by decide)) (i64_s (by decide))).mono ?_
   rintro e wj15 ⟨⟨sa, rfl, hs⟩, hBx⟩
   have c0 := keptBelow hBx c0
   have c1 := keptBelow hBx c1
   have hB := belowVia hBx hB
   clear hBx
   refine hK (.agg #[.int .i64 2, .slice sa 2 2]) _ ⟨c0, c1⟩ ?_
   intro K2 hK2
   try simp only [Act.put, tA, tB, tC] at hK2 ⊢
   refine wpOp_want rfl (by rfl) ?_
   go_simp
   have hBx := alloc_belowL wj15 (.cells #[.string ⟨#[49]⟩, .string ⟨#[45, 49]⟩] 9)
   have c0 := keptBelow hBx c0
   have c1 := keptBelow hBx c1
   have hB := belowVia hBx hB
   have hb : BlkB 9 wj15.heap.size [.string ⟨#[49]⟩, .string ⟨#[45, 49]⟩] (wj15.alloc (.cells #[.string ⟨#[49]⟩, .string ⟨#[45, 49]⟩] 9)) := heap_alloc_new wj15 (.cells #[.string ⟨#[49]⟩, .string ⟨#[45, 49]⟩] 9)
   have hs := hs.via hBx
   generalize wj15.alloc (.cells #[.string ⟨#[49]⟩, .string ⟨#[45, 49]⟩] 9) = wj16 at *
   clear hBx
   exact hK2 (.slice (some ⟨wj15.heap.size, 0, none⟩) 2 2) _ ⟨c0, c1⟩ ⟨_, _, rfl, rfl, hs, hb, hB⟩
  ·intro K hK
   try simp only [Act.put, tA, tB, tC] at hK
   refine wpOp_want rfl (by rfl) ?_
   go_simp
   have hBx := alloc_belowL wj14 (.cells #[.string ⟨#[49]⟩, .string ⟨#[45, 49]⟩] 9)
   have c0 := keptBelow hBx c0
   have c1 := keptBelow hBx c1
   have hB := belowVia hBx hB
   have hb : BlkB 9 wj14.heap.size [.string ⟨#[49]⟩, .string ⟨#[45, 49]⟩] (wj14.alloc (.cells #[.string ⟨#[49]⟩, .string ⟨#[45, 49]⟩] 9)) := heap_alloc_new wj14 (.cells #[.string ⟨#[49]⟩, .string ⟨#[45, 49]⟩] 9)
   generalize wj14.alloc (.cells #[.string ⟨#[49]⟩, .string ⟨#[45, 49]⟩] 9) = wj17 at *
   clear hBx
   refine hK (.slice (some ⟨wj14.heap.size, 0, none⟩) 2 2) _ ⟨c0, c1⟩ ?_
   intro K2 hK2
   try simp only [Act.put, tA, tB, tC] at hK2 ⊢
   refine wpOp_want rfl (by rfl) ?_
   go_simp
   refine (two_c 3 1 _ (i64_s (by decide)) (i64_s (by decide))).mono ?_
   rintro e wj18 ⟨⟨sa, rfl, hs⟩, hBx⟩
   have c0 := keptBelow hBx c0
   have c1 := keptBelow hBx c1
   have hB := belowVia hBx hB
   have hb := hb.via hBx
   clear hBx
   exact hK2 (.agg #[.int .i64 2, .slice sa 2 2]) _ ⟨c0, c1⟩ ⟨_, _, rfl, rfl, hs, hb, hB⟩
  intro wj xj yj hR hS
  clear c0 c1 hB
  obtain ⟨c0, c1⟩ := hS
  obtain ⟨sa, sg, rfl, rfl, hs, hb, hB⟩ := hR
  try simp only [Act.put, tA, tB, tC]
  refine wpS_want (i := 23) (by kernel_rfl) rfl (by rfl) ?_
  go_simp
  refine (ref_lit3 _ _ _ hs hb).mono ?_
  rintro e wj19 ⟨rfl, hBx⟩
  have c0 := keptBelow hBx c0
  have c1 := keptBelow hBx c1
  have hB := belowVia hBx hB
  clear hBx hs hb
  first | refine ⟨⟨c0, c1⟩, ?_⟩ | skip
  try simp only [Act.put, tA, tB, tC]
  refine wpS_take (i := 24) (d := some 150) (v := ?_) rfl (by kernel_rfl) (by kernel_rfl) (by kernel_rfl) rfl (fun _ _ _ h => h) (.inl ⟨by rfl, fun w hw => ?_⟩) ⟨c0, c1⟩ ?_
  rotate_left
  ·clear hw; go_simp; with_reducible rfl
  try simp only [Act.put, tA, tB, tC]
  refine wpS_take (i := 25) (d := some 151) (v := ?_) rfl (by kernel_rfl) (by kernel_rfl) (by kernel_rfl) rfl (fun _ _ _ h => h) (.inl ⟨by rfl, fun w hw => ?_⟩) ⟨c0, c1⟩ ?_
  rotate_left
  ·clear hw; go_simp; with_reducible rfl
  try simp only [Act.put, tA, tB, tC]
  refine wpS_lastY (i := 26) (d := some 15) (v := ?_) (by kernel_rfl) rfl rfl (by kernel_rfl) (.inl ⟨by rfl, fun w hw => ?_⟩) ⟨c0, c1⟩ ?_
  rotate_left
  ·clear hw; go_simp; with_reducible rfl
  try simp only [Act.put, tA, tB, tC]
  have HH := Lib.hid hB
  clear hB
  go_wp2_with fail
  go_meet
  case rel => exact ⟨rfl, Bm.out.via HH.out, Mm.out.via HH.out, HH.out⟩
 case rest =>
 obtain ⟨rfl, bm, mm, hW2⟩ := hcut
 have Bm := Lib.hid bm
 have Mm := Lib.hid mm
 have HW := Lib.hid (belowVia hW2 HW.out)
 clear bm mm hW2 Bv Mv
 have c0 := Bm.out.cell (i := 0) rfl
 have c1 := Bm.out.cell (i := 1) rfl
 go_wp2_with fail
 have hB := alloc_belowL wc (.cells #[.string ⟨#[49]⟩, .string ⟨#[51]⟩] 9)
 have hb := blk_new2 wc (.string ⟨#[49]⟩) (.string ⟨#[51]⟩) 9
 have Mm := Lib.hid (Mm.out.via hB)
 have HW := Lib.hid (belowVia hB HW.out)
 have hm2 : VecM _ mixR _ 2 := vec_blk (l' := []) hb (Nat.le_refl 2) (by decide) (sized_1 _) (sized_2 _ _)
 have HS := Lib.hid (same_c mixR mixR (some ⟨qm, 0, none⟩) (some ⟨wc.heap.size, 0, none⟩) cm 2 _ Mm.out hm2)
 have hse : sameV mixR mixR = true := by unfold sameV; simp
 rw [hse] at HS
 clear hB hb hm2 hse Bm c0 c1
 refine HS.out.mono ?_
 rintro e u1 ⟨rfl, hB⟩
 have HW := Lib.hid (belowVia hB HW.out)
 clear hB HS
 go_wp2_with fail
 refine (two_c 1 1 _ (i64_s (by decide)) (i64_s (by decide))).mono ?_
 rintro e u2 ⟨⟨sa, rfl, hs⟩, hB⟩
 have HW := Lib.hid (belowVia hB HW.out)
 clear hB
 have HV : Hid (Calls Tryz.prog 15 #[.agg #[.int .i64 2, .slice sa 2 2]] u2 fun e w' => e = .returned (.bool true) ∧ Below u2.heap.size u2 w') := Lib.hid (by
  have h := valid_c (twoS 1 1) sa 2 u2 hs
  rw [two_valid11] at h; exact h)
 clear hs
 go_wp2_with fail
 refine HV.out.mono ?_
 rintro e u3 ⟨rfl, hB⟩
 have HW := Lib.hid (belowVia hB HW.out)
 clear hB HV
 have HV : Hid (Calls Tryz.prog 15 #[.agg #[.int .i64 65, .slice none 0 0]] u3 fun e w' => e = .returned (.bool false) ∧ Below u3.heap.size u3 w') := Lib.hid (by
  have h := valid_c ⟨65, []⟩ none 0 u3 ⟨Nat.le_refl 0, by decide, i64_s (by decide), .inl rfl⟩
  rw [v65] at h; exact h)
 go_wp2_with fail
 refine HV.out.mono ?_
 rintro e u4 ⟨rfl, hB⟩
 have HW := Lib.hid (belowVia hB HW.out)
 clear hB HV
 go_wp2_with fail
 go_ret
 exact ⟨rfl, HW.out⟩
end Go.Proofs.YtofmjkgaaphnkaaGreatDoor
/- LinSolves: LinearSolves: what the law's body answers. -/
namespace Go.Proofs.YtofmjkgaaphnkaaGreatDoor
open Go.RowKit Putlog

theorem made_len9 (x : NumX) : (madeS x).rows.length ≤ 9 := by rw [made_rows]; have := x.m_bounds; omega
theorem answers_made (x : NumX) (a : Option Addr) (ca : Nat) (W : World) (hs : SysM W (madeS x) a ca) (hT : TabP W) (hTB : TabB W) :
  Calls Tryz.prog 14 #[.agg #[.int .i64 (x.n : Nat), .slice a x.m ca]] W fun e w' => (∃ v, e = .returned (.tuple #[v, .int .i64 0]) ∧ AnsP (madeS x) W.heap.size w' v) ∧ Below W.heap.size W w' := by
 have h := solve_c (madeS x) a ca W hs (made_valid x) (made_len9 x) hT hTB
 rw [made_rows] at h
 exact h
end Go.Proofs.YtofmjkgaaphnkaaGreatDoor
