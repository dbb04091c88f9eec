/- Plain mathematics of layer 2: the digest of a string of bytes. Nothing of the program. -/
namespace Putlog

/-- The eight bytes of a number, the highest one first. -/
def be64 (m : Nat) : List UInt8 := (List.range 8).map fun i => UInt8.ofNat (m / 2 ^ (8 * (7 - i)))
theorem be64_len (m : Nat) : (be64 m).length = 8 := by simp [be64]
theorem be64_get {m k : Nat} (h : k < 8) : ((be64 m).getD (7 - k) 0).toNat = m / 2 ^ (8 * k) % 256 := by
  simp [be64, List.getD_eq_getElem?_getD, show 7 - k < 8 by omega, show 7 - (7 - k) = k by omega]
theorem be64_step (l : List UInt8) (m k : Nat) (hl : l.length = 64) (hk : k < 8) :
    (l.take (64 - k) ++ (be64 m).drop (8 - k)).set (63 - k) ((be64 m).getD (7 - k) 0) = l.take (64 - (k + 1)) ++ (be64 m).drop (8 - (k + 1)) := by
  have h8 := be64_len m
  have hl1 : (l.take (64 - (k + 1))).length = 63 - k := by simp [hl]; omega
  have e : l.take (64 - k) = l.take (64 - (k + 1)) ++ [l[63 - k]'(by omega)] := by
    rw [show 64 - k = (63 - k) + 1 by omega, show 64 - (k + 1) = 63 - k by omega, List.take_succ_eq_append_getElem (by omega)]
  rw [e, List.append_assoc, List.set_append_right _ _ (by omega), hl1, Nat.sub_self]
  rw [show 8 - (k + 1) = 7 - k by omega, List.drop_eq_getElem_cons (i := 7 - k) (by omega), show 7 - k + 1 = 8 - k by omega]
  simp [List.getD_eq_getElem?_getD, h8, show 7 - k < 8 by omega]

/-- A word rotated right. -/
def rotr (x k : Nat) : Nat := x / 2 ^ k + x % 2 ^ k * 2 ^ (32 - k)
theorem rotr_lt {x k : Nat} (hx : x < 4294967296) (hk : k ≤ 32) : rotr x k < 4294967296 := by
  have e : 2 ^ k * 2 ^ (32 - k) = 4294967296 := by rw [← Nat.pow_add, show k + (32 - k) = 32 by omega]
  have h1 : x % 2 ^ k < 2 ^ k := Nat.mod_lt _ (Nat.two_pow_pos _)
  have h2 : x / 2 ^ k < 2 ^ (32 - k) := Nat.div_lt_of_lt_mul (by omega)
  have h3 : (x % 2 ^ k + 1) * 2 ^ (32 - k) ≤ 2 ^ k * 2 ^ (32 - k) := Nat.mul_le_mul_right _ h1
  rw [e, Nat.add_mul, Nat.one_mul] at h3
  unfold rotr
  omega
/-- The shifts and the 'or' of the program, as a rotation. -/
theorem rotl_or {x s : Nat} (hx : x < 4294967296) (hs : s ≤ 32) : (x * 2 ^ s % 4294967296 ||| x / 2 ^ (32 - s)) = rotr x (32 - s) := by
  have e : 2 ^ (32 - s) * 2 ^ s = 4294967296 := by rw [← Nat.pow_add, show 32 - s + s = 32 by omega]
  have h2 : x / 2 ^ (32 - s) < 2 ^ s := Nat.div_lt_of_lt_mul (by omega)
  have h1 : x * 2 ^ s % 4294967296 = 2 ^ s * (x % 2 ^ (32 - s)) := by rw [← e, Nat.mul_mod_mul_right, Nat.mul_comm]
  rw [h1, ← Nat.two_pow_add_eq_or_of_lt h2]
  unfold rotr
  rw [show 32 - (32 - s) = s by omega, Nat.mul_comm]; omega

/-- The sixteen words of a block. -/
def word4 (a b c d : Nat) : Nat := a * 16777216 + b * 65536 + c * 256 + d
def words (l : List UInt8) : List Nat := (List.range 16).map fun i => word4 (l.getD (4 * i) 0).toNat (l.getD (4 * i + 1) 0).toNat (l.getD (4 * i + 2) 0).toNat (l.getD (4 * i + 3) 0).toNat
theorem words_len (l : List UInt8) : (words l).length = 16 := by simp [words]
def sig0 (x : Nat) : Nat := rotr x 7 ^^^ rotr x 18 ^^^ x / 8
def sig1 (x : Nat) : Nat := rotr x 17 ^^^ rotr x 19 ^^^ x / 1024
theorem sig0_lt {x : Nat} (hx : x < 4294967296) : sig0 x < 4294967296 := Nat.xor_lt_two_pow (n := 32) (Nat.xor_lt_two_pow (n := 32) (rotr_lt hx (by decide)) (rotr_lt hx (by decide))) (by omega)
theorem sig1_lt {x : Nat} (hx : x < 4294967296) : sig1 x < 4294967296 := Nat.xor_lt_two_pow (n := 32) (Nat.xor_lt_two_pow (n := 32) (rotr_lt hx (by decide)) (rotr_lt hx (by decide))) (by omega)
/-- The words behind the first sixteen. -/
def nextWord (v : List Nat) : Nat := (((v.getD (v.length - 16) 0 + sig0 (v.getD (v.length - 15) 0)) % 4294967296 + v.getD (v.length - 7) 0) % 4294967296 + sig1 (v.getD (v.length - 2) 0)) % 4294967296
def wext : Nat → List Nat → List Nat
  | 0, v => v
  | n + 1, v => wext n (v ++ [nextWord v])
def sched (l : List UInt8) : List Nat := wext 48 (words l)
theorem wext_snoc : ∀ (n : Nat) (v : List Nat), wext (n + 1) v = wext n v ++ [nextWord (wext n v)]
  | 0, _ => rfl
  | n + 1, v => by rw [wext, wext_snoc n, wext]
theorem wext_len : ∀ (n : Nat) (v : List Nat), (wext n v).length = v.length + n
  | 0, _ => rfl
  | n + 1, v => by rw [wext, wext_len n]; simp; omega
theorem word4_lt {a b c d : Nat} (ha : a < 256) (hb : b < 256) (hc : c < 256) (hd : d < 256) : word4 a b c d < 4294967296 := by unfold word4; omega
theorem words_lt (l : List UInt8) : ∀ x ∈ words l, x < 4294967296 := by
  intro x hx
  simp only [words, List.mem_map] at hx
  obtain ⟨i, _, rfl⟩ := hx
  exact word4_lt (UInt8.toNat_lt _) (UInt8.toNat_lt _) (UInt8.toNat_lt _) (UInt8.toNat_lt _)
theorem wext_lt : ∀ (n : Nat) (v : List Nat), (∀ x ∈ v, x < 4294967296) → ∀ x ∈ wext n v, x < 4294967296
  | 0, _, h => h
  | n + 1, v, h => wext_lt n _ fun x hx => by
    rcases List.mem_append.1 hx with hx | hx
    · exact h x hx
    · simp at hx; subst hx; exact Nat.mod_lt _ (by decide)
theorem getD_lt {v : List Nat} (h : ∀ x ∈ v, x < 4294967296) (i : Nat) : v.getD i 0 < 4294967296 := by
  rw [List.getD_eq_getElem?_getD]
  cases e : v[i]? with
  | none => decide
  | some x => exact h x (List.mem_of_getElem? e)
theorem word4_or {a b c d : Nat} (hb : b < 256) (hc : c < 256) (hd : d < 256) : ((a * 16777216 ||| b * 65536) ||| c * 256) ||| d = word4 a b c d := by
  have e1 : a * 16777216 ||| b * 65536 = 2 ^ 16 * (a * 256 + b) := by
    rw [show a * 16777216 = 2 ^ 24 * a by omega, ← Nat.two_pow_add_eq_or_of_lt (by omega)]; omega
  have e2 : 2 ^ 16 * (a * 256 + b) ||| c * 256 = 2 ^ 8 * ((a * 256 + b) * 256 + c) := by
    rw [← Nat.two_pow_add_eq_or_of_lt (by omega)]; omega
  rw [e1, e2, ← Nat.two_pow_add_eq_or_of_lt (by omega)]
  unfold word4; omega
theorem words_get {l : List UInt8} {k : Nat} (h : k < 16) : (words l)[k]? = some (word4 (l.getD (4 * k) 0).toNat (l.getD (4 * k + 1) 0).toNat (l.getD (4 * k + 2) 0).toNat (l.getD (4 * k + 3) 0).toNat) := by
  simp [words, h]
/-- The next place of a list that is filled from its head. -/
theorem fill_set (v : List Nat) (k n : Nat) (hk : k < v.length) (hn : k < n) : (v.take k ++ List.replicate (n - k) 0).set k (v[k]) = v.take (k + 1) ++ List.replicate (n - (k + 1)) 0 := by
  have hl : (v.take k).length = k := by simp; omega
  rw [List.set_append_right _ _ (by omega), hl, Nat.sub_self, show n - k = (n - (k + 1)) + 1 by omega, List.replicate_succ, List.set_cons_zero, List.take_succ_eq_append_getElem hk, List.append_assoc]
  rfl
theorem fill_snoc (v : List Nat) (n x : Nat) : (v ++ List.replicate (n + 1) 0).set v.length x = v ++ [x] ++ List.replicate n 0 := by
  rw [List.set_append_right _ _ (Nat.le_refl _), Nat.sub_self, List.replicate_succ, List.set_cons_zero]
  simp

/-- The eight words. -/
structure W8 where
  (a b c d e f g h : Nat)
def W8.list (v : W8) : List Nat := [v.a, v.b, v.c, v.d, v.e, v.f, v.g, v.h]
theorem W8.list_len (v : W8) : v.list.length = 8 := rfl
def W8.ok (v : W8) : Prop := v.a < 4294967296 ∧ v.b < 4294967296 ∧ v.c < 4294967296 ∧ v.d < 4294967296 ∧ v.e < 4294967296 ∧ v.f < 4294967296 ∧ v.g < 4294967296 ∧ v.h < 4294967296
def bsig1 (e : Nat) : Nat := rotr e 6 ^^^ rotr e 11 ^^^ rotr e 25
def bsig0 (a : Nat) : Nat := rotr a 2 ^^^ rotr a 13 ^^^ rotr a 22
def chw (e f g : Nat) : Nat := (e &&& f) ^^^ ((4294967295 - e) &&& g)
def majw (a b c : Nat) : Nat := (a &&& b) ^^^ (a &&& c) ^^^ (b &&& c)
def tw (v : W8) (k w : Nat) : Nat := (v.h + bsig1 v.e + chw v.e v.f v.g + k + w) % 4294967296
def rnd (v : W8) (k w : Nat) : W8 :=
  { a := (tw v k w + (bsig0 v.a + majw v.a v.b v.c) % 4294967296) % 4294967296, b := v.a, c := v.b, d := v.c, e := (v.d + tw v k w) % 4294967296, f := v.e, g := v.f, h := v.g }
def shaK : List Nat := [
  0x428a2f98, 0x71374491, 0xb5c0fbcf, 0xe9b5dba5, 0x3956c25b, 0x59f111f1, 0x923f82a4, 0xab1c5ed5,
  0xd807aa98, 0x12835b01, 0x243185be, 0x550c7dc3, 0x72be5d74, 0x80deb1fe, 0x9bdc06a7, 0xc19bf174,
  0xe49b69c1, 0xefbe4786, 0x0fc19dc6, 0x240ca1cc, 0x2de92c6f, 0x4a7484aa, 0x5cb0a9dc, 0x76f988da,
  0x983e5152, 0xa831c66d, 0xb00327c8, 0xbf597fc7, 0xc6e00bf3, 0xd5a79147, 0x06ca6351, 0x14292967,
  0x27b70a85, 0x2e1b2138, 0x4d2c6dfc, 0x53380d13, 0x650a7354, 0x766a0abb, 0x81c2c92e, 0x92722c85,
  0xa2bfe8a1, 0xa81a664b, 0xc24b8b70, 0xc76c51a3, 0xd192e819, 0xd6990624, 0xf40e3585, 0x106aa070,
  0x19a4c116, 0x1e376c08, 0x2748774c, 0x34b0bcb5, 0x391c0cb3, 0x4ed8aa4a, 0x5b9cca4f, 0x682e6ff3,
  0x748f82ee, 0x78a5636f, 0x84c87814, 0x8cc70208, 0x90befffa, 0xa4506ceb, 0xbef9a3f7, 0xc67178f2]
theorem shaK_lt : ∀ x ∈ shaK, x < 4294967296 := by decide
/-- What stands behind n rounds. -/
def rnds (w : List Nat) (v : W8) : Nat → W8
  | 0 => v
  | n + 1 => rnd (rnds w v n) (shaK.getD n 0) (w.getD n 0)
theorem bsig1_lt {x : Nat} (hx : x < 4294967296) : bsig1 x < 4294967296 := Nat.xor_lt_two_pow (n := 32) (Nat.xor_lt_two_pow (n := 32) (rotr_lt hx (by decide)) (rotr_lt hx (by decide))) (rotr_lt hx (by decide))
theorem bsig0_lt {x : Nat} (hx : x < 4294967296) : bsig0 x < 4294967296 := Nat.xor_lt_two_pow (n := 32) (Nat.xor_lt_two_pow (n := 32) (rotr_lt hx (by decide)) (rotr_lt hx (by decide))) (rotr_lt hx (by decide))
theorem chw_lt {e f g : Nat} (hf : f < 4294967296) (hg : g < 4294967296) : chw e f g < 4294967296 := Nat.xor_lt_two_pow (n := 32) (Nat.and_lt_two_pow _ hf) (Nat.and_lt_two_pow _ hg)
theorem majw_lt {a b c : Nat} (hb : b < 4294967296) (hc : c < 4294967296) : majw a b c < 4294967296 := Nat.xor_lt_two_pow (n := 32) (Nat.xor_lt_two_pow (n := 32) (Nat.and_lt_two_pow _ hb) (Nat.and_lt_two_pow _ hc)) (Nat.and_lt_two_pow _ hc)
theorem rnd_ok {v : W8} (h : v.ok) (k w : Nat) : (rnd v k w).ok := by
  obtain ⟨ha, hb, hc, hd, he, hf, hg, hh⟩ := h
  exact ⟨Nat.mod_lt _ (by decide), ha, hb, hc, Nat.mod_lt _ (by decide), he, hf, hg⟩
theorem rnds_ok {v : W8} (h : v.ok) (w : List Nat) : ∀ n, (rnds w v n).ok
  | 0 => h
  | n + 1 => rnd_ok (rnds_ok h w n) _ _
/-- The eight words behind a block. -/
def addW (u v : W8) : W8 :=
  { a := (u.a + v.a) % 4294967296, b := (u.b + v.b) % 4294967296, c := (u.c + v.c) % 4294967296, d := (u.d + v.d) % 4294967296,
    e := (u.e + v.e) % 4294967296, f := (u.f + v.f) % 4294967296, g := (u.g + v.g) % 4294967296, h := (u.h + v.h) % 4294967296 }
def mix (v : W8) (l : List UInt8) : W8 := addW v (rnds (sched l) v 64)
theorem mix_at {v : W8} {l : List UInt8} {k : Nat} (h : k = 64) : mix v l = addW v (rnds (sched l) v k) := by
  subst h
  unfold mix
  exact Eq.refl _
theorem mix_ok (v : W8) (l : List UInt8) : (mix v l).ok := by
  refine ⟨?_, ?_, ?_, ?_, ?_, ?_, ?_, ?_⟩ <;> exact Nat.mod_lt _ (by decide)

/-- The blocks of 64 bytes at the head of a string. -/
def chunks : Nat → List UInt8 → List (List UInt8)
  | 0, _ => []
  | n + 1, l => l.take 64 :: chunks n (l.drop 64)
theorem chunks_app : ∀ (m k : Nat) (l : List UInt8), chunks (m + k) l = chunks m l ++ chunks k (l.drop (64 * m))
  | 0, k, l => by simp [chunks]
  | m + 1, k, l => by
    rw [show m + 1 + k = (m + k) + 1 by omega, chunks, chunks_app m k, chunks, List.cons_append, List.drop_drop]
    congr 4
    omega
theorem chunks_more : ∀ (m : Nat) (l r : List UInt8), 64 * m ≤ l.length → chunks m (l ++ r) = chunks m l
  | 0, _, _, _ => rfl
  | m + 1, l, r, h => by
    rw [chunks, chunks, List.take_append_of_le_length (by omega), List.drop_append_of_le_length (by omega), chunks_more m _ _ (by simp; omega)]
def full (l : List UInt8) : List (List UInt8) := chunks (l.length / 64) l
theorem full_nil : full [] = [] := by simp [full, chunks]
/-- The last blocks: what is left, the extension and the number of bits. -/
def tails (t : List UInt8) (size : Nat) : List (List UInt8) :=
  if t.length < 56 then [t ++ 128 :: List.replicate (55 - t.length) 0 ++ be64 (8 * size)]
  else [t ++ 128 :: List.replicate (63 - t.length) 0, List.replicate 56 0 ++ be64 (8 * size)]
def blocksOf (l : List UInt8) : List (List UInt8) := full l ++ tails (l.drop (64 * (l.length / 64))) l.length
/-- A block whose head is what is left of a string. -/
def Filled (don bl : List UInt8) : Prop := bl.length = 64 ∧ bl.take (don.length % 64) = don.drop (64 * (don.length / 64))
theorem Filled.step {don bl : List UInt8} (h : Filled don bl) {x : List UInt8} (hx : don.length % 64 + x.length ≤ 64) :
    (bl.take (don.length % 64) ++ x ++ bl.drop (don.length % 64 + x.length)).length = 64 ∧
    (bl.take (don.length % 64) ++ x ++ bl.drop (don.length % 64 + x.length)).take (don.length % 64 + x.length) = (don ++ x).drop (64 * (don.length / 64)) := by
  obtain ⟨hl, ht⟩ := h
  have h1 : (bl.take (don.length % 64)).length = don.length % 64 := by simp; omega
  refine ⟨by simp; omega, ?_⟩
  rw [List.take_append_of_le_length (by simp; omega), List.take_of_length_le (by simp; omega), ht, List.drop_append_of_le_length (by omega)]
theorem Filled.more {don bl : List UInt8} (h : Filled don bl) {x : List UInt8} (hx : don.length % 64 + x.length < 64) :
    Filled (don ++ x) (bl.take (don.length % 64) ++ x ++ bl.drop (don.length % 64 + x.length)) ∧ full (don ++ x) = full don ∧ (don ++ x).length % 64 = don.length % 64 + x.length := by
  obtain ⟨h1, h2⟩ := h.step (x := x) (by omega)
  have e1 : (don ++ x).length % 64 = don.length % 64 + x.length := by simp; omega
  have e2 : (don ++ x).length / 64 = don.length / 64 := by simp; omega
  refine ⟨⟨h1, by rw [e1, e2]; exact h2⟩, ?_, e1⟩
  unfold full
  rw [e2, chunks_more _ _ _ (by omega)]
theorem Filled.fits {don bl : List UInt8} (h : Filled don bl) {x : List UInt8} (hx : don.length % 64 + x.length = 64) :
    Filled (don ++ x) (bl.take (don.length % 64) ++ x ++ bl.drop (don.length % 64 + x.length)) ∧
    full (don ++ x) = full don ++ [bl.take (don.length % 64) ++ x ++ bl.drop (don.length % 64 + x.length)] ∧ (don ++ x).length % 64 = 0 := by
  obtain ⟨h1, h2⟩ := h.step (x := x) (by omega)
  have e1 : (don ++ x).length % 64 = 0 := by simp; omega
  have e2 : (don ++ x).length / 64 = don.length / 64 + 1 := by simp; omega
  refine ⟨⟨h1, ?_⟩, ?_, e1⟩
  · rw [e1, List.take_zero, List.drop_eq_nil_of_le (by simp at e1 ⊢; omega)]
  · unfold full
    rw [e2, chunks_app, chunks_more _ _ _ (by omega)]
    congr 1
    rw [← h2, chunks, chunks]
    congr 1
    generalize bl.take (don.length % 64) ++ x ++ bl.drop (don.length % 64 + x.length) = y at *
    rw [hx, List.take_of_length_le (l := y) (by omega), List.take_of_length_le (l := y) (by omega)]
theorem Filled.nil (bl : List UInt8) (h : bl.length = 64) : Filled [] bl := ⟨h, by simp⟩
theorem tails_short {t : List UInt8} {n : Nat} (h : t.length < 56) : tails t n = [t ++ 128 :: List.replicate (55 - t.length) 0 ++ be64 (8 * n)] := if_pos h
theorem tails_long {t : List UInt8} {n : Nat} (h : ¬ t.length < 56) : tails t n = [t ++ 128 :: List.replicate (63 - t.length) 0, List.replicate 56 0 ++ be64 (8 * n)] := if_neg h
/-- The block with the byte 128 behind what is left. -/
theorem last_block {tot bl : List UInt8} (h : Filled tot bl) :
    (bl.set (tot.length % 64) 128).take (tot.length % 64 + 1) ++ List.replicate (64 - (tot.length % 64 + 1)) 0 = tot.drop (64 * (tot.length / 64)) ++ 128 :: List.replicate (63 - tot.length % 64) 0 := by
  obtain ⟨h1, h2⟩ := h
  rw [← h2, List.take_succ_eq_append_getElem (by simp; omega), List.take_set_of_le (Nat.le_refl _), List.getElem_set_self, List.append_assoc, show 64 - (tot.length % 64 + 1) = 63 - tot.length % 64 by omega]
  rfl
theorem last_len {tot : List UInt8} : (tot.drop (64 * (tot.length / 64)) ++ 128 :: List.replicate (63 - tot.length % 64) 0).length = 64 := by simp; omega
theorem drop_len (tot : List UInt8) : (tot.drop (64 * (tot.length / 64))).length = tot.length % 64 := by simp; omega
theorem last_sized {tot : List UInt8} (h : tot.length % 64 < 56) :
    (tot.drop (64 * (tot.length / 64)) ++ 128 :: List.replicate (63 - tot.length % 64) 0).take 56 = tot.drop (64 * (tot.length / 64)) ++ 128 :: List.replicate (55 - tot.length % 64) 0 := by
  have hd := drop_len tot
  generalize tot.drop (64 * (tot.length / 64)) = t at *
  rw [List.take_append, List.take_of_length_le (by omega), hd, show 56 - tot.length % 64 = (55 - tot.length % 64) + 1 by omega, List.take_succ_cons, List.take_replicate]
  congr 3
  omega
theorem blocks_short {tot : List UInt8} (h : tot.length % 64 < 56) :
    blocksOf tot = full tot ++ [(tot.drop (64 * (tot.length / 64)) ++ 128 :: List.replicate (63 - tot.length % 64) 0).take 56 ++ be64 (8 * tot.length)] := by
  unfold blocksOf
  rw [tails_short (by rw [drop_len]; exact h), drop_len, last_sized h]
theorem blocks_long {tot : List UInt8} (h : ¬ tot.length % 64 < 56) :
    blocksOf tot = full tot ++ [tot.drop (64 * (tot.length / 64)) ++ 128 :: List.replicate (63 - tot.length % 64) 0] ++ [(List.replicate 64 0).take 56 ++ be64 (8 * tot.length)] := by
  unfold blocksOf
  rw [tails_long (by rw [drop_len]; exact h), drop_len, List.take_replicate]
  simp
def iv : W8 := { a := 0x6a09e667, b := 0xbb67ae85, c := 0x3c6ef372, d := 0xa54ff53a, e := 0x510e527f, f := 0x9b05688c, g := 0x1f83d9ab, h := 0x5be0cd19 }
theorem iv_ok : iv.ok := by unfold W8.ok; decide
theorem fold_ok : ∀ (bs : List (List UInt8)) (v : W8), v.ok → (bs.foldl mix v).ok
  | [], _, h => h
  | b :: bs, v, _ => fold_ok bs (mix v b) (mix_ok v b)
/-- The bytes of the eight words. -/
def digestOf (v : W8) : List UInt8 := (List.range 32).map fun i => UInt8.ofNat (v.list.getD (i / 4) 0 / 2 ^ (24 - 8 * (i % 4)))
theorem digestOf_len (v : W8) : (digestOf v).length = 32 := by simp [digestOf]
theorem digestOf_get {v : W8} {k : Nat} (h : k < 32) : ((digestOf v).getD k 0).toNat = v.list.getD (k / 4) 0 / 2 ^ (24 - 8 * (k % 4)) % 256 := by
  simp [digestOf, List.getD_eq_getElem?_getD, h]
theorem fill_set8 (v : List UInt8) (k n : Nat) (hk : k < v.length) (hn : k < n) : (v.take k ++ List.replicate (n - k) 0).set k (v.getD k 0) = v.take (k + 1) ++ List.replicate (n - (k + 1)) 0 := by
  have hl : (v.take k).length = k := by simp; omega
  rw [List.set_append_right _ _ (by omega), hl, Nat.sub_self, show n - k = (n - (k + 1)) + 1 by omega, List.replicate_succ, List.set_cons_zero, List.take_succ_eq_append_getElem hk, List.append_assoc]
  simp [List.getD_eq_getElem?_getD, hk]
def sha (l : List UInt8) : List UInt8 := digestOf ((blocksOf l).foldl mix iv)
theorem sha_len (l : List UInt8) : (sha l).length = 32 := by simp [sha, digestOf]
end Putlog
