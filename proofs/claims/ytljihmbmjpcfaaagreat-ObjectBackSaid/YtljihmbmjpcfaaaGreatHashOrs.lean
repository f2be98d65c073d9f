/- Bytes laid over each other make a word. -/
import Derived.Laws.BitsAllLaws
import Derived.Test.YtljihmbmjpcfaaaGreatHashOfMath
namespace Go.Proofs.YtljihmbmjpcfaaaGreat

theorem or_add {a b k p : Nat} (hp : p = 2 ^ k) (h : b < p) : a * p ||| b = a * p + b := by
  subst hp
  rw [Nat.mul_comm a, Nat.two_pow_add_eq_or_of_lt h]

theorem p24 : 16777216 = 2 ^ 24 := by decide +kernel
theorem word_ors (z0 z1 z2 z3 : Nat) (l0 : z0 < 256) (l1 : z1 < 256) (l2 : z2 < 256) (l3 : z3 < 256) : ∃ s1 s2 s3 : Nat, s3 = z0 * 16777216 + z1 * 65536 + z2 * 256 + z3 ∧
    bits .or .u32 ((z0 : Int) * 16777216) ((z1 : Int) * 65536) = (s1 : Int) ∧ bits .or .u32 (s1 : Int) ((z2 : Int) * 256) = (s2 : Int) ∧ bits .or .u32 (s2 : Int) (z3 : Int) = (s3 : Int) := by
  have b0 : z0 * 16777216 ≤ 4278190080 := Nat.mul_le_mul_right 16777216 (by omega : z0 ≤ 255)
  have b1 : z1 * 65536 ≤ 16711680 := Nat.mul_le_mul_right 65536 (by omega : z1 ≤ 255)
  have b2 : z2 * 256 ≤ 65280 := Nat.mul_le_mul_right 256 (by omega : z2 ≤ 255)
  have e1 : z0 * 16777216 + z1 * 65536 = (z0 * 256 + z1) * 65536 := by rw [Nat.add_mul, Nat.mul_assoc]
  have e2 : z0 * 16777216 + z1 * 65536 + z2 * 256 = (z0 * 65536 + z1 * 256 + z2) * 256 := by rw [Nat.add_mul, Nat.add_mul, Nat.mul_assoc, Nat.mul_assoc]
  have a1 : z0 * 16777216 < 4294967296 := Nat.lt_of_le_of_lt b0 (by decide)
  have a2 : z1 * 65536 < 16777216 := Nat.lt_of_le_of_lt b1 (by decide)
  have a4 : z2 * 256 < 65536 := Nat.lt_of_le_of_lt b2 (by decide)
  have a3 : z0 * 16777216 + z1 * 65536 < 4294967296 := Nat.lt_of_le_of_lt (Nat.add_le_add b0 b1) (by decide)
  have a5 : z0 * 16777216 + z1 * 65536 + z2 * 256 < 4294967296 := Nat.lt_of_le_of_lt (Nat.add_le_add (Nat.add_le_add b0 b1) b2) (by decide)
  have o1 : z0 * 16777216 ||| z1 * 65536 = z0 * 16777216 + z1 * 65536 := or_add (k := 24) p24 a2
  have o2 : z0 * 16777216 + z1 * 65536 ||| z2 * 256 = z0 * 16777216 + z1 * 65536 + z2 * 256 := by rw [e1]; exact or_add (k := 16) (by decide) a4
  have o3 : z0 * 16777216 + z1 * 65536 + z2 * 256 ||| z3 = z0 * 16777216 + z1 * 65536 + z2 * 256 + z3 := by rw [e2]; exact or_add (k := 8) (by decide) l3
  refine ⟨z0 * 16777216 + z1 * 65536, z0 * 16777216 + z1 * 65536 + z2 * 256, _, rfl, ?_, ?_, ?_⟩
  · have x1 := u32_or_nat (z0 * 16777216) (z1 * 65536) a1 (Nat.lt_trans a2 (by decide))
    rw [o1] at x1
    exact x1
  · have x2 := u32_or_nat _ (z2 * 256) a3 (Nat.lt_trans a4 (by decide))
    rw [o2] at x2
    exact x2
  · have x3 := u32_or_nat _ z3 a5 (Nat.lt_trans l3 (by decide))
    rw [o3] at x3
    exact x3
end Go.Proofs.YtljihmbmjpcfaaaGreat
