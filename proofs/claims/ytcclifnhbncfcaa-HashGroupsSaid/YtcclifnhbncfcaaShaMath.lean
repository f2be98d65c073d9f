/- SHA-256 over lists of numbers: plain mathematics, no program. -/
import Derived.Test.YtcclifnhbncfcaaSumMath
namespace Go.Proofs.Ytcclifnhbncfcaa

/-- A word turned to the right. -/
def rotr (w n : Nat) : Nat := w / 2 ^ n ||| w * 2 ^ (32 - n) % 4294967296
def smallLow (w : Nat) : Nat := rotr w 7 ^^^ rotr w 18 ^^^ w / 8
def smallHigh (w : Nat) : Nat := rotr w 17 ^^^ rotr w 19 ^^^ w / 1024
/-- The constants, as published. -/
def shaK : List Nat := [
  0x428a2f98, 0x71374491, 0xb5c0fbcf, 0xe9b5dba5, 0x3956c25b, 0x59f111f1, 0x923f82a4, 0xab1c5ed5,
  0xd807aa98, 0x12835b01, 0x243185be, 0x550c7dc3, 0x72be5d74, 0x80deb1fe, 0x9bdc06a7, 0xc19bf174,
  0xe49b69c1, 0xefbe4786, 0x0fc19dc6, 0x240ca1cc, 0x2de92c6f, 0x4a7484aa, 0x5cb0a9dc, 0x76f988da,
  0x983e5152, 0xa831c66d, 0xb00327c8, 0xbf597fc7, 0xc6e00bf3, 0xd5a79147, 0x06ca6351, 0x14292967,
  0x27b70a85, 0x2e1b2138, 0x4d2c6dfc, 0x53380d13, 0x650a7354, 0x766a0abb, 0x81c2c92e, 0x92722c85,
  0xa2bfe8a1, 0xa81a664b, 0xc24b8b70, 0xc76c51a3, 0xd192e819, 0xd6990624, 0xf40e3585, 0x106aa070,
  0x19a4c116, 0x1e376c08, 0x2748774c, 0x34b0bcb5, 0x391c0cb3, 0x4ed8aa4a, 0x5b9cca4f, 0x682e6ff3,
  0x748f82ee, 0x78a5636f, 0x84c87814, 0x8cc70208, 0x90befffa, 0xa4506ceb, 0xbef9a3f7, 0xc67178f2]
/-- The state at the beginning. -/
def shaH : List Nat := [0x6a09e667, 0xbb67ae85, 0x3c6ef372, 0xa54ff53a, 0x510e527f, 0x9b05688c, 0x1f83d9ab, 0x5be0cd19]
/-- Four bytes, the highest first. -/
def word4 (x : List UInt8) (i : Nat) : Nat := (x.getD (4 * i) 0).toNat * 16777216 + (x.getD (4 * i + 1) 0).toNat * 65536 + (x.getD (4 * i + 2) 0).toNat * 256 + (x.getD (4 * i + 3) 0).toNat
/-- One word more. -/
def moreW (W : List Nat) : List Nat := W ++ [(W.getD (W.length - 16) 0 + smallLow (W.getD (W.length - 15) 0) + W.getD (W.length - 7) 0 + smallHigh (W.getD (W.length - 2) 0)) % 4294967296]
def moreN : Nat → List Nat → List Nat
  | 0, W => W
  | n + 1, W => moreN n (moreW W)
/-- A block's 64 words. -/
def words (x : List UInt8) : List Nat := moreN 48 ((List.range 16).map (word4 x))
/-- Eight words of state. -/
structure Eight where
  a : Nat
  b : Nat
  c : Nat
  d : Nat
  e : Nat
  f : Nat
  g : Nat
  h : Nat
deriving DecidableEq
/-- A round. -/
def roundS (s : Eight) (k w : Nat) : Eight :=
  let one := (s.h + (rotr s.e 6 ^^^ rotr s.e 11 ^^^ rotr s.e 25) + ((s.e &&& s.f) ^^^ ((4294967295 - s.e) &&& s.g)) + k + w) % 4294967296
  let two := ((rotr s.a 2 ^^^ rotr s.a 13 ^^^ rotr s.a 22) + ((s.a &&& s.b) ^^^ (s.a &&& s.c) ^^^ (s.b &&& s.c))) % 4294967296
  ⟨(one + two) % 4294967296, s.a, s.b, s.c, (s.d + one) % 4294967296, s.e, s.f, s.g⟩
def roundsS : List (Nat × Nat) → Eight → Eight
  | [], s => s
  | (k, w) :: l, s => roundsS l (roundS s k w)
def Eight.of (l : List Nat) : Eight := ⟨l.getD 0 0, l.getD 1 0, l.getD 2 0, l.getD 3 0, l.getD 4 0, l.getD 5 0, l.getD 6 0, l.getD 7 0⟩
def Eight.list (s : Eight) : List Nat := [s.a, s.b, s.c, s.d, s.e, s.f, s.g, s.h]
/-- A state behind a block. -/
def turnS (s : List Nat) (x : List UInt8) : List Nat := List.zipWith (fun p q => (p + q) % 4294967296) s (roundsS (shaK.zip (words x)) (Eight.of s)).list
/-- Noughts up to 56 of 64. -/
def fillN (n : Nat) : Nat := (119 - n % 64) % 64
/-- A number's eight bytes, the highest first. -/
def be8 (n : Nat) : List UInt8 := (List.range 8).map fun i => UInt8.ofNat (n / 2 ^ (8 * (7 - i)))
/-- Bytes, with what stands behind them. -/
def padB (b : List UInt8) : List UInt8 := b ++ [128] ++ List.replicate (fillN b.length) 0 ++ be8 (8 * b.length)
theorem padB_length (b : List UInt8) : (padB b).length % 64 = 0 := by
  simp only [padB, be8, fillN, List.length_append, List.length_cons, List.length_nil, List.length_replicate, List.length_map, List.length_range]
  omega
/-- Block by block, with fuel. -/
def blocksS : Nat → List UInt8 → List Nat → List Nat
  | 0, _, s => s
  | n + 1, x, s => if x.length < 64 then s else blocksS n (x.drop 64) (turnS s (x.take 64))
/-- A state's bytes. -/
def outB (s : List Nat) : List UInt8 := (List.range 32).map fun i => UInt8.ofNat (s.getD (i / 4) 0 / 2 ^ (24 - 8 * (i % 4)))
/-- The hash. -/
def shaB (b : List UInt8) : List UInt8 := outB (blocksS ((padB b).length / 64) (padB b) shaH)
theorem shaB_length (b : List UInt8) : (shaB b).length = 32 := by simp [shaB, outB]

theorem sha_none : shaB [] = [0xe3, 0xb0, 0xc4, 0x42, 0x98, 0xfc, 0x1c, 0x14, 0x9a, 0xfb, 0xf4, 0xc8, 0x99, 0x6f, 0xb9, 0x24, 0x27, 0xae, 0x41, 0xe4, 0x64, 0x9b, 0x93, 0x4c, 0xa4, 0x95, 0x99, 0x1b, 0x78, 0x52, 0xb8, 0x55] := by decide +kernel
theorem sha_abc : shaB [97, 98, 99] = [0xba, 0x78, 0x16, 0xbf, 0x8f, 0x01, 0xcf, 0xea, 0x41, 0x41, 0x40, 0xde, 0x5d, 0xae, 0x22, 0x23, 0xb0, 0x03, 0x61, 0xa3, 0x96, 0x17, 0x7a, 0x9c, 0xb4, 0x10, 0xff, 0x61, 0xf2, 0x00, 0x15, 0xad] := by decide +kernel
end Go.Proofs.Ytcclifnhbncfcaa
