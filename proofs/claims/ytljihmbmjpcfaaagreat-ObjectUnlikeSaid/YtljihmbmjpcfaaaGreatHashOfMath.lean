/- SHA-256 over lists of numbers: plain mathematics, no program. The program's hash in plain lists: primes, the bits behind the point of their roots, what a hash that goes on keeps. -/
import Derived.Test.YtljihmbmjpcfaaaGreatSumMath
namespace Go.Proofs.YtljihmbmjpcfaaaGreat

/-- A word turned to the right. -/
def rotr (w n : Nat) : Nat := w / 2 ^ n ||| w * 2 ^ (32 - n) % 4294967296
def smallLow (w : Nat) : Nat := rotr w 7 ^^^ rotr w 18 ^^^ w / 8
def smallHigh (w : Nat) : Nat := rotr w 17 ^^^ rotr w 19 ^^^ w / 1024
/-- The constants, as published. -/
def shaK : List Nat := [
  0x428a2f98, 0x71374491, 0xb5c0fbcf, 0xe9b5dba5, 0x3956c25b, 0x59f111f1, 0x923f82a4, 0xab1c5ed5,
  0xd807aa98, 0x12835b01, 0x243185be, 0x550c7dc3, 0x72be5d74, 0x80deb1fe, 0x9bdc06a7, 0xc19bf174,
  0xe49b69c1, 0xefbe4786, 0x0fc19dc6, 0x240ca1cc, 0x2de92c6f, 0x4a7484aa, 0x5cb0a9dc, 0x76f988da,
  0x983e5152, 0xa831c66d, 0xb00327c8, 0xbf597fc7, 0xc6e00bf3, 0xd5a79147, 0x06ca6351, 0x14292967,
  0x27b70a85, 0x2e1b2138, 0x4d2c6dfc, 0x53380d13, 0x650a7354, 0x766a0abb, 0x81c2c92e, 0x92722c85,
  0xa2bfe8a1, 0xa81a664b, 0xc24b8b70, 0xc76c51a3, 0xd192e819, 0xd6990624, 0xf40e3585, 0x106aa070,
  0x19a4c116, 0x1e376c08, 0x2748774c, 0x34b0bcb5, 0x391c0cb3, 0x4ed8aa4a, 0x5b9cca4f, 0x682e6ff3,
  0x748f82ee, 0x78a5636f, 0x84c87814, 0x8cc70208, 0x90befffa, 0xa4506ceb, 0xbef9a3f7, 0xc67178f2]
/-- The state at the beginning. -/
def shaH : List Nat := [0x6a09e667, 0xbb67ae85, 0x3c6ef372, 0xa54ff53a, 0x510e527f, 0x9b05688c, 0x1f83d9ab, 0x5be0cd19]
/-- Four bytes, the highest first. -/
def word4 (x : List UInt8) (i : Nat) : Nat := (x.getD (4 * i) 0).toNat * 16777216 + (x.getD (4 * i + 1) 0).toNat * 65536 + (x.getD (4 * i + 2) 0).toNat * 256 + (x.getD (4 * i + 3) 0).toNat
/-- One word more. -/
def moreW (W : List Nat) : List Nat := W ++ [(W.getD (W.length - 16) 0 + smallLow (W.getD (W.length - 15) 0) + W.getD (W.length - 7) 0 + smallHigh (W.getD (W.length - 2) 0)) % 4294967296]
def moreN : Nat → List Nat → List Nat
  | 0, W => W
  | n + 1, W => moreN n (moreW W)
/-- A block's 64 words. -/
def words (x : List UInt8) : List Nat := moreN 48 ((List.range 16).map (word4 x))
/-- Eight words of state. -/
structure Eight where
  a : Nat
  b : Nat
  c : Nat
  d : Nat
  e : Nat
  f : Nat
  g : Nat
  h : Nat
deriving DecidableEq
/-- A round. -/
def roundS (s : Eight) (k w : Nat) : Eight :=
  let one := (s.h + (rotr s.e 6 ^^^ rotr s.e 11 ^^^ rotr s.e 25) + ((s.e &&& s.f) ^^^ ((4294967295 - s.e) &&& s.g)) + k + w) % 4294967296
  let two := ((rotr s.a 2 ^^^ rotr s.a 13 ^^^ rotr s.a 22) + ((s.a &&& s.b) ^^^ (s.a &&& s.c) ^^^ (s.b &&& s.c))) % 4294967296
  ⟨(one + two) % 4294967296, s.a, s.b, s.c, (s.d + one) % 4294967296, s.e, s.f, s.g⟩
def roundsS : List (Nat × Nat) → Eight → Eight
  | [], s => s
  | (k, w) :: l, s => roundsS l (roundS s k w)
def Eight.of (l : List Nat) : Eight := ⟨l.getD 0 0, l.getD 1 0, l.getD 2 0, l.getD 3 0, l.getD 4 0, l.getD 5 0, l.getD 6 0, l.getD 7 0⟩
def Eight.list (s : Eight) : List Nat := [s.a, s.b, s.c, s.d, s.e, s.f, s.g, s.h]
/-- A state behind a block. -/
def turnS (s : List Nat) (x : List UInt8) : List Nat := List.zipWith (fun p q => (p + q) % 4294967296) s (roundsS (shaK.zip (words x)) (Eight.of s)).list
/-- Noughts up to 56 of 64. -/
def fillN (n : Nat) : Nat := (119 - n % 64) % 64
/-- A number's eight bytes, the highest first. -/
def be8 (n : Nat) : List UInt8 := (List.range 8).map fun i => UInt8.ofNat (n / 2 ^ (8 * (7 - i)))
/-- Bytes, with what stands behind them. -/
def padB (b : List UInt8) : List UInt8 := b ++ [128] ++ List.replicate (fillN b.length) 0 ++ be8 (8 * b.length)
theorem padB_length (b : List UInt8) : (padB b).length % 64 = 0 := by
  simp only [padB, be8, fillN, List.length_append, List.length_cons, List.length_nil, List.length_replicate, List.length_map, List.length_range]
  omega
/-- Block by block, with fuel. -/
def blocksS : Nat → List UInt8 → List Nat → List Nat
  | 0, _, s => s
  | n + 1, x, s => if x.length < 64 then s else blocksS n (x.drop 64) (turnS s (x.take 64))
/-- A state's bytes. -/
def outB (s : List Nat) : List UInt8 := (List.range 32).map fun i => UInt8.ofNat (s.getD (i / 4) 0 / 2 ^ (24 - 8 * (i % 4)))
/-- The hash. -/
def shaB (b : List UInt8) : List UInt8 := outB (blocksS ((padB b).length / 64) (padB b) shaH)
theorem shaB_length (b : List UInt8) : (shaB b).length = 32 := by simp [shaB, outB]

theorem sha_none : shaB [] = [0xe3, 0xb0, 0xc4, 0x42, 0x98, 0xfc, 0x1c, 0x14, 0x9a, 0xfb, 0xf4, 0xc8, 0x99, 0x6f, 0xb9, 0x24, 0x27, 0xae, 0x41, 0xe4, 0x64, 0x9b, 0x93, 0x4c, 0xa4, 0x95, 0x99, 0x1b, 0x78, 0x52, 0xb8, 0x55] := by decide +kernel
theorem sha_abc : shaB [97, 98, 99] = [0xba, 0x78, 0x16, 0xbf, 0x8f, 0x01, 0xcf, 0xea, 0x41, 0x41, 0x40, 0xde, 0x5d, 0xae, 0x22, 0x23, 0xb0, 0x03, 0x61, 0xa3, 0x96, 0x17, 0x7a, 0x9c, 0xb4, 0x10, 0xff, 0x61, 0xf2, 0x00, 0x15, 0xad] := by decide +kernel
end Go.Proofs.YtljihmbmjpcfaaaGreat
namespace Go.Proofs.YtljihmbmjpcfaaaGreat

/-- Is root / 2^32, to a power, below n? -/
def belowB (root n p : Nat) : Bool :=
  if p = 2 then decide (root * root / 18446744073709551616 < n)
  else decide (root * root / 18446744073709551616 * root + root * root % 18446744073709551616 * root / 18446744073709551616 < n * 4294967296)
/-- The root, bit by bit from above. -/
def fracGo (n p : Nat) : Nat → Nat → Nat
  | 0, root => root
  | k + 1, root => fracGo n p k (if belowB (root ||| 2 ^ k) n p then root ||| 2 ^ k else root)
def fracB (n p : Nat) : Nat := fracGo n p 35 0 % 4294967296
/-- The first 64 primes. -/
def primesL : List Nat := [2, 3, 5, 7, 11, 13, 17, 19, 23, 29, 31, 37, 41, 43, 47, 53, 59, 61, 67, 71, 73, 79, 83, 89, 97, 101, 103, 107, 109, 113, 127, 131, 137, 139, 149, 151, 157, 163, 167, 173, 179, 181, 191, 193, 197, 199, 211, 223, 227, 229, 233, 239, 241, 251, 257, 263, 269, 271, 277, 281, 283, 293, 307, 311]
theorem primesL_length : primesL.length = 64 := by decide +kernel
theorem frac_rounds : ∀ p, p < 64 → fracB (primesL.getD p 0) 3 = shaK.getD p 0 := by decide +kernel
theorem frac_begins : ∀ p, p < 8 → fracB (primesL.getD p 0) 2 = shaH.getD p 0 := by decide +kernel
/-- No number from m on, f of them at most, whose square is at most n, parts n. -/
def isPr (n : Nat) : Nat → Nat → Bool
  | 0, _ => true
  | f + 1, m => if m * m ≤ n then (if n % m = 0 then false else isPr n f (m + 1)) else true
/-- How many primes are below n. -/
def placeOf (n : Nat) : Nat := (primesL.filter (fun p => decide (p < n))).length
theorem prime_at : ∀ n, n < 312 → 2 ≤ n → isPr n 20 2 = decide (primesL.getD (placeOf n) 0 = n) := by decide +kernel
theorem place_next : ∀ n, n < 312 → 2 ≤ n → placeOf (n + 1) = if isPr n 20 2 then placeOf n + 1 else placeOf n := by decide +kernel
theorem place_two : placeOf 2 = 0 := by decide +kernel
theorem place_end : ∀ n, n ≤ 312 → (placeOf n ≤ 63 ↔ n < 312) := by decide +kernel
theorem place_le (n : Nat) : placeOf n ≤ 64 := by
  have := List.length_filter_le (fun p => decide (p < n)) primesL
  rw [primesL_length] at this
  exact this
theorem shaK_length : shaK.length = 64 := rfl
theorem shaH_length : shaH.length = 8 := rfl
/-- The chain that hashes begin with, as far as it is worked out. -/
def begUp (k : Nat) : List Nat := shaH.take k ++ List.replicate (8 - k) 0
def rndUp (k : Nat) : List Nat := shaK.take k ++ List.replicate (64 - k) 0
theorem begUp_length (k : Nat) : (begUp k).length = 8 := by simp [begUp, shaH_length]; omega
theorem rndUp_length (k : Nat) : (rndUp k).length = 64 := by simp [rndUp, shaK_length]; omega
theorem up_set (l : List Nat) (n k : Nat) (hl : l.length = n) (hk : k < n) : (l.take k ++ List.replicate (n - k) 0).set k (l.getD k 0) = l.take (k + 1) ++ List.replicate (n - (k + 1)) 0 := by
  rw [List.set_append_right _ _ (by simp; omega), show n - k = (n - (k + 1)) + 1 by omega, List.replicate_succ, List.take_add_one, List.getElem?_eq_getElem (by omega), List.append_assoc]
  congr 1
  rw [List.length_take, Nat.min_eq_left (by omega), Nat.sub_self]
  simp [List.getD, List.getElem?_eq_getElem (show k < l.length by omega)]
theorem begUp_set {k : Nat} (hk : k < 8) : (begUp k).set k (shaH.getD k 0) = begUp (k + 1) := up_set shaH 8 k rfl hk
theorem rndUp_set {k : Nat} (hk : k < 64) : (rndUp k).set k (shaK.getD k 0) = rndUp (k + 1) := up_set shaK 64 k rfl hk
theorem begUp_all {k : Nat} (hk : 8 ≤ k) : begUp k = shaH := by
  rw [begUp, List.take_of_length_le (by rw [shaH_length]; omega), show 8 - k = 0 by omega]
  simp
theorem rndUp_all : rndUp 64 = shaK := by simp [rndUp, ← shaK_length]

theorem or_lt35 {a b : Nat} (ha : a < 34359738368) (hb : b < 34359738368) : a ||| b < 34359738368 := Nat.or_lt_two_pow (n := 35) ha hb

/-- A round, of whose word and constant n is made. -/
def roundN (s : Eight) (n : Nat) : Eight :=
  let one := (n + s.h + (rotr s.e 6 ^^^ rotr s.e 11 ^^^ rotr s.e 25) + ((s.e &&& s.f) ^^^ ((4294967295 - s.e) &&& s.g))) % 4294967296
  let two := ((rotr s.a 2 ^^^ rotr s.a 13 ^^^ rotr s.a 22) + ((s.a &&& s.b) ^^^ (s.a &&& s.c) ^^^ (s.b &&& s.c))) % 4294967296
  ⟨(one + two) % 4294967296, s.a, s.b, s.c, (s.d + one) % 4294967296, s.e, s.f, s.g⟩
theorem roundS_roundN (s : Eight) (k w : Nat) : roundS s k w = roundN s ((w + k) % 4294967296) := by
  have h : (s.h + (rotr s.e 6 ^^^ rotr s.e 11 ^^^ rotr s.e 25) + ((s.e &&& s.f) ^^^ ((4294967295 - s.e) &&& s.g)) + k + w) % 4294967296 = ((w + k) % 4294967296 + s.h + (rotr s.e 6 ^^^ rotr s.e 11 ^^^ rotr s.e 25) + ((s.e &&& s.f) ^^^ ((4294967295 - s.e) &&& s.g))) % 4294967296 := by omega
  simp only [roundS, roundN, h]

theorem moreN_succ' : ∀ (n : Nat) (W : List Nat), moreN (n + 1) W = moreW (moreN n W)
  | 0, W => rfl
  | n + 1, W => by rw [moreN, moreN_succ' n (moreW W), moreN]
theorem moreN_len : ∀ (n : Nat) (W : List Nat), (moreN n W).length = W.length + n
  | 0, W => rfl
  | n + 1, W => by rw [moreN, moreN_len n, moreW, List.length_append]; simp; omega
theorem moreN_add : ∀ (m n : Nat) (W : List Nat), moreN (m + n) W = moreN n (moreN m W)
  | 0, n, W => by rw [Nat.zero_add]; rfl
  | m + 1, n, W => by rw [show m + 1 + n = (m + n) + 1 by omega, moreN, moreN_add m n, moreN]
theorem moreN_get (n : Nat) : ∀ (W : List Nat) (i : Nat), i < W.length → (moreN n W).getD i 0 = W.getD i 0 := by
  induction n with
  | zero => intro W i _; rfl
  | succ n ih =>
    intro W i hi
    rw [moreN, ih (moreW W) i (by rw [moreW, List.length_append]; omega), moreW, List.getD_eq_getElem?_getD, List.getElem?_append_left hi, ← List.getD_eq_getElem?_getD]
theorem words_get (x : List UInt8) {r : Nat} (h : r < 64) : (words x).getD r 0 =
    if r < 16 then word4 x r else ((words x).getD (r - 16) 0 + smallLow ((words x).getD (r - 15) 0) + (words x).getD (r - 7) 0 + smallHigh ((words x).getD (r - 2) 0)) % 4294967296 := by
  have hb : ((List.range 16).map (word4 x)).length = 16 := by simp
  split
  · rename_i h16
    rw [words, moreN_get 48 _ r (by omega)]
    simp [List.getD_eq_getElem?_getD, h16]
  · rename_i h16
    obtain ⟨m, rfl⟩ : ∃ m, r = 16 + m := ⟨r - 16, by omega⟩
    have e : words x = moreN (48 - m) (moreN m ((List.range 16).map (word4 x))) := by rw [← moreN_add, show m + (48 - m) = 48 by omega]; rfl
    have hl : (moreN m ((List.range 16).map (word4 x))).length = 16 + m := by rw [moreN_len, hb]
    generalize moreN m ((List.range 16).map (word4 x)) = Z at e hl
    have g : ∀ i, i < 16 + m → (words x).getD i 0 = Z.getD i 0 := fun i hi => by rw [e, moreN_get _ _ i (by omega)]
    rw [g (16 + m - 16) (by omega), g (16 + m - 15) (by omega), g (16 + m - 7) (by omega), g (16 + m - 2) (by omega)]
    have e2 : moreN (48 - m) Z = moreN (47 - m) (moreW Z) := by rw [show 48 - m = (47 - m) + 1 by omega, moreN]
    have e3 : moreW Z = Z ++ [(Z.getD (16 + m - 16) 0 + smallLow (Z.getD (16 + m - 15) 0) + Z.getD (16 + m - 7) 0 + smallHigh (Z.getD (16 + m - 2) 0)) % 4294967296] := by rw [moreW, hl]
    rw [e, e2, moreN_get (47 - m) (moreW Z) (16 + m) (by rw [e3, List.length_append, hl, List.length_singleton]; omega), e3, List.getD_eq_getElem?_getD, List.getElem?_append_right (by omega), hl, Nat.sub_self]
    rfl
theorem words_length (x : List UInt8) : (words x).length = 64 := by rw [words, moreN_len]; simp
theorem rotr_bound {w n : Nat} (hw : w < 4294967296) : rotr w n < 4294967296 := by
  unfold rotr
  exact Nat.or_lt_two_pow (n := 32) (Nat.lt_of_le_of_lt (Nat.div_le_self _ _) hw) (Nat.mod_lt _ (by decide))
theorem word4_bound (xs : List UInt8) (k : Nat) : word4 xs k < 4294967296 := by
  unfold word4
  have h0 := (xs.getD (4 * k) 0).toNat_lt
  have h1 := (xs.getD (4 * k + 1) 0).toNat_lt
  have h2 := (xs.getD (4 * k + 2) 0).toNat_lt
  have h3 := (xs.getD (4 * k + 3) 0).toNat_lt
  omega
theorem words_lt (x : List UInt8) {r : Nat} (h : r < 64) : (words x).getD r 0 < 4294967296 := by
  rw [words_get x h]
  split
  · exact word4_bound x r
  · exact Nat.mod_lt _ (by decide)
/-- The last sixteen words ahead of round r, each at its place. -/
def win (W : List Nat) (r : Nat) : List Nat := (List.range 16).map fun j => if j < r then W.getD (r - 1 - (r - 1 - j) % 16) 0 else 0
theorem win_length (W : List Nat) (r : Nat) : (win W r).length = 16 := by simp [win]
theorem win_get? (W : List Nat) (r : Nat) {j : Nat} (hj : j < 16) : (win W r)[j]? = some (if j < r then W.getD (r - 1 - (r - 1 - j) % 16) 0 else 0) := by
  simp [win, hj]
theorem win_start (W : List Nat) : win W 0 = List.replicate 16 0 := by
  simp [win]
  decide
theorem win_set (W : List Nat) (r : Nat) : (win W r).set (r % 16) (W.getD r 0) = win W (r + 1) := by
  apply List.ext_getElem?
  intro j
  by_cases hj : j < 16
  · rw [win_get? _ _ hj, List.getElem?_set]
    by_cases h : r % 16 = j
    · rw [if_pos h, if_pos (by rw [win_length]; omega), if_pos (by omega), show r + 1 - 1 - (r + 1 - 1 - j) % 16 = r by omega]
    · rw [if_neg h, win_get? _ _ hj]
      by_cases hjr : j < r
      · rw [if_pos hjr, if_pos (by omega), show r + 1 - 1 - (r + 1 - 1 - j) % 16 = r - 1 - (r - 1 - j) % 16 by omega]
      · rw [if_neg hjr, if_neg (by omega)]
  · rw [List.getElem?_eq_none (by simp [win_length]; omega), List.getElem?_eq_none (by rw [win_length]; omega)]
theorem win_back (W : List Nat) {r d : Nat} (hr : 16 ≤ r) (h1 : 1 ≤ d) (h2 : d ≤ 16) : (win W r)[(r - d) % 16]? = some (W.getD (r - d) 0) := by
  rw [win_get? _ _ (Nat.mod_lt _ (by decide)), if_pos (by omega), show r - 1 - (r - 1 - (r - d) % 16) % 16 = r - d by omega]

/-- The state behind the first r rounds, of words W. -/
def stateUp (s : List Nat) (W : List Nat) : Nat → Eight
  | 0 => Eight.of s
  | r + 1 => roundN (stateUp s W r) ((W.getD r 0 + shaK.getD r 0) % 4294967296)
theorem roundsS_append : ∀ (l m : List (Nat × Nat)) (s : Eight), roundsS (l ++ m) s = roundsS m (roundsS l s)
  | [], _, _ => rfl
  | (k, w) :: l, m, s => roundsS_append l m (roundS s k w)
theorem stateUp_of (s K W : List Nat) (hK : K.length = 64) (hK2 : K = shaK) (hW : W.length = 64) : ∀ r, r ≤ 64 → roundsS ((K.zip W).take r) (Eight.of s) = stateUp s W r
  | 0, _ => by rw [List.take_zero]; rfl
  | r + 1, h => by
    have e : (K.zip W)[r]? = some (K.getD r 0, W.getD r 0) := by
      rw [List.getElem?_zip_eq_some]
      constructor
      · show K[r]? = some (K.getD r 0)
        rw [List.getD_eq_getElem?_getD, List.getElem?_eq_getElem (by omega)]; rfl
      · show W[r]? = some (W.getD r 0)
        rw [List.getD_eq_getElem?_getD, List.getElem?_eq_getElem (by omega)]; rfl
    rw [List.take_add_one, e, roundsS_append, stateUp_of s K W hK hK2 hW r (by omega)]
    simp only [Option.toList, roundsS, roundS_roundN, stateUp, hK2]
theorem turnS_eq (s : List Nat) (x : List UInt8) : turnS s x = List.zipWith (fun p q => (p + q) % 4294967296) s (stateUp s (words x) 64).list := by
  have hW := words_length x
  unfold turnS
  generalize words x = W at hW ⊢
  rw [← stateUp_of s shaK W shaK_length rfl hW 64 (Nat.le_refl _), List.take_of_length_le]
  rw [List.length_zip, hW, shaK_length]
  exact Nat.le_refl _

/-- Block by block. -/
theorem blocksS_append : ∀ (m : Nat) (ys zs : List UInt8) (s : List Nat), ys.length = 64 * m → blocksS m (ys ++ zs) s = blocksS m ys s
  | 0, _, _, _, _ => rfl
  | m + 1, ys, zs, s, h => by
    rw [blocksS, blocksS, if_neg (by rw [List.length_append]; omega), if_neg (by omega), List.drop_append_of_le_length (by omega), List.take_append_of_le_length (by omega)]
    exact blocksS_append m _ zs _ (by rw [List.length_drop]; omega)
theorem blocksS_snoc : ∀ (m : Nat) (ys bl : List UInt8) (s : List Nat), ys.length = 64 * m → bl.length = 64 → blocksS (m + 1) (ys ++ bl) s = turnS (blocksS m ys s) bl
  | 0, ys, bl, s, h, hb => by
    have hy : ys = [] := List.eq_nil_of_length_eq_zero (by omega)
    subst hy
    simp only [blocksS, List.nil_append]
    rw [if_neg (by omega), List.take_of_length_le (by omega)]
  | m + 1, ys, bl, s, h, hb => by
    rw [blocksS, if_neg (by rw [List.length_append]; omega), List.drop_append_of_le_length (by omega), List.take_append_of_le_length (by omega), blocksS_snoc m _ bl _ (by rw [List.length_drop]; omega) hb]
    conv => rhs; rw [blocksS, if_neg (by omega)]
theorem blocks_cut (xs zs : List UInt8) : blocksS (xs.length / 64) (xs ++ zs) shaH = blocksS (xs.length / 64) (xs.take (64 * (xs.length / 64))) shaH := by
  have h : 64 * (xs.length / 64) ≤ xs.length := by omega
  generalize xs.length / 64 = m at h
  have e : xs ++ zs = xs.take (64 * m) ++ (xs.drop (64 * m) ++ zs) := by rw [← List.append_assoc, List.take_append_drop]
  rw [e]
  exact blocksS_append m (xs.take (64 * m)) _ shaH (by rw [List.length_take]; omega)
/-- The chain of a hash that has taken xs: none, up to the first block. -/
def chainOf (xs : List UInt8) : List Nat := if xs.length < 64 then List.replicate 8 0 else blocksS (xs.length / 64) xs shaH
/-- What a hash keeps that has taken xs. -/
def Took (xs : List UInt8) (ch : List Nat) (bl : List UInt8) : Prop := bl.length = 64 ∧ ch = chainOf xs ∧ bl.take (xs.length % 64) = xs.drop (64 * (xs.length / 64))
theorem took_nil : Took [] (List.replicate 8 0) (List.replicate 64 0) := ⟨rfl, rfl, rfl⟩
/-- The block with n bytes more. -/
def blockOn (bl : List UInt8) (k : Nat) (ys : List UInt8) : List UInt8 := bl.take k ++ ys ++ bl.drop (k + ys.length)
theorem blockOn_length {bl ys : List UInt8} {k : Nat} (hb : bl.length = 64) (h : k + ys.length ≤ 64) : (blockOn bl k ys).length = 64 := by simp [blockOn]; omega
theorem took_less {xs ys : List UInt8} {ch : List Nat} {bl : List UInt8} (h : Took xs ch bl) (hl : xs.length % 64 + ys.length < 64) (hy : 0 < ys.length) :
    Took (xs ++ ys) ch (blockOn bl (xs.length % 64) ys) := by
  obtain ⟨hb, hc, ht⟩ := h
  have hd : (xs ++ ys).length / 64 = xs.length / 64 := by rw [List.length_append]; omega
  have hm : (xs ++ ys).length % 64 = xs.length % 64 + ys.length := by rw [List.length_append]; omega
  refine ⟨blockOn_length hb (by omega), ?_, ?_⟩
  · rw [hc, chainOf, chainOf, hd]
    by_cases h1 : xs.length < 64
    · rw [if_pos h1, if_pos (by rw [List.length_append]; omega)]
    · rw [if_neg h1, if_neg (by rw [List.length_append]; omega)]
      rw [blocks_cut xs ys]
      have := blocks_cut xs []
      rwa [List.append_nil] at this
  · rw [hm, hd, List.drop_append_of_le_length (by omega), ← ht, blockOn, List.take_append_of_le_length (by simp; omega), List.take_of_length_le (by simp; omega)]
theorem took_full {xs ys : List UInt8} {ch : List Nat} {bl : List UInt8} (h : Took xs ch bl) (hl : xs.length % 64 + ys.length = 64) :
    blockOn bl (xs.length % 64) ys = xs.drop (64 * (xs.length / 64)) ++ ys ∧ Took (xs ++ ys) (turnS (if (xs ++ ys).length = 64 then shaH else ch) (xs.drop (64 * (xs.length / 64)) ++ ys)) (xs.drop (64 * (xs.length / 64)) ++ ys) := by
  obtain ⟨hb, hc, ht⟩ := h
  have hd : (xs ++ ys).length / 64 = xs.length / 64 + 1 := by rw [List.length_append]; omega
  have hm : (xs ++ ys).length % 64 = 0 := by rw [List.length_append]; omega
  refine ⟨?_, ?_, ?_, ?_⟩
  · have h64 : bl.drop 64 = [] := List.drop_eq_nil_of_le (by omega)
    rw [blockOn, ht, hl, h64, List.append_nil]
  · simp; omega
  · have hlen : ¬ (xs ++ ys).length < 64 := by rw [List.length_append]; omega
    rw [chainOf, if_neg hlen, hd]
    have e : xs ++ ys = xs.take (64 * (xs.length / 64)) ++ (xs.drop (64 * (xs.length / 64)) ++ ys) := by rw [← List.append_assoc, List.take_append_drop]
    rw [e, blocksS_snoc (xs.length / 64) (xs.take (64 * (xs.length / 64))) (xs.drop (64 * (xs.length / 64)) ++ ys) shaH (by rw [List.length_take]; omega) (by simp; omega), ← e]
    congr 1
    by_cases h1 : xs.length < 64
    · rw [if_pos (by rw [List.length_append]; omega), show xs.length / 64 = 0 by omega]
      rfl
    · rw [if_neg (by rw [List.length_append]; omega), hc, chainOf, if_neg h1]
      have := blocks_cut xs []
      rwa [List.append_nil] at this
  · rw [hm, List.take_zero, hd, List.drop_eq_nil_of_le (by rw [List.length_append]; omega)]
/-- Behind the padding the chain is the hash's. -/
theorem took_end {xs : List UInt8} {ch : List Nat} {bl : List UInt8} (h : Took (padB xs) ch bl) : ch = blocksS ((padB xs).length / 64) (padB xs) shaH := by
  rw [h.2.1, chainOf, if_neg]
  have := padB_length xs
  have h0 : 0 < (padB xs).length := by simp [padB]; omega
  omega
/-- What ends bytes of a length. -/
def padTail (n : Nat) : List UInt8 := 128 :: (List.replicate (fillN n) 0 ++ be8 (8 * n))
theorem padB_tail (xs : List UInt8) : padB xs = xs ++ padTail xs.length := by simp [padB, padTail]
end Go.Proofs.YtljihmbmjpcfaaaGreat
