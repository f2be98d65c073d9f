/- A word in four bytes: the program's wordAt, putWord. -/
import Derived.Test.YtcclifnhbncfcaaHashTurned
import Derived.Test.YtcclifnhbncfcaaHashOrs
namespace Go.Proofs.Ytcclifnhbncfcaa
open Go.RowKit Go.Shelf Go.Great
set_option maxRecDepth 100000

/-- A word's four bytes. -/
def bytes4 (n : Nat) : List UInt8 := [UInt8.ofNat (n / 16777216), UInt8.ofNat (n / 65536), UInt8.ofNat (n / 256), UInt8.ofNat n]
theorem b8_ofN (n : Nat) : B8 (UInt8.ofNat n) = .int .u8 ((n : Int) % 256) := by simp [B8, UInt8.toNat_ofNat']
set_option maxHeartbeats 1000000 in
theorem wordAt_any (w : World) (b o n c : Nat) (hn : 4 ≤ n) (y0 y1 y2 y3 : UInt8) (h0 : w.cell? ⟨b, o, none⟩ = some (B8 y0)) (h1 : w.cell? ⟨b, o + 1, none⟩ = some (B8 y1)) (h2 : w.cell? ⟨b, o + 2, none⟩ = some (B8 y2)) (h3 : w.cell? ⟨b, o + 3, none⟩ = some (B8 y3)) :
    Calls Try.prog 120 #[.slice (some ⟨b, o, none⟩) n c] w fun e W' => e = .returned (.int .u32 ((y0.toNat * 16777216 + y1.toNat * 65536 + y2.toNat * 256 + y3.toNat : Nat) : Int)) ∧ Below w.heap.size w W' := by
  have l0 := y0.toNat_lt
  have l1 := y1.toNat_lt
  have l2 := y2.toNat_lt
  have l3 := y3.toNat_lt
  generalize hz0 : y0.toNat = z0 at l0
  generalize hz1 : y1.toNat = z1 at l1
  generalize hz2 : y2.toNat = z2 at l2
  generalize hz3 : y3.toNat = z3 at l3
  simp only [B8, hz0, hz1, hz2, hz3] at h0 h1 h2 h3
  obtain ⟨s1, s2, s3, hE, x1, x2, x3⟩ := word_ors z0 z1 z2 z3 l0 l1 l2 l3
  have HE := Lib.hid hE
  clear hE
  have hz0' : (0 : Int) ≤ (z0 : Int) ∧ (z0 : Int) < 256 := by omega
  have hz1' : (0 : Int) ≤ (z1 : Int) ∧ (z1 : Int) < 256 := by omega
  have hz2' : (0 : Int) ≤ (z2 : Int) ∧ (z2 : Int) < 256 := by omega
  have hn0 : (0 : Int) < (n : Int) := by omega
  have hn1 : (1 : Int) < (n : Int) := by omega
  have hn2 : (2 : Int) < (n : Int) := by omega
  have hn3 : (3 : Int) < (n : Int) := by omega
  clear hz0 hz1 hz2 hz3
  go_enter Try.func120, Try.ntmps120
  go_wp2_with fail
  go_quiet (fail)
  go_wp2_with fail
  go_ret
  exact ⟨by rw [← HE.out]; rfl, ⟨rfl, rfl, rfl, Nat.le_refl _, fun _ _ => rfl⟩⟩

set_option maxHeartbeats 2000000 in
theorem putWord_any (w : World) (b o n c : Nat) (hn : 4 ≤ n) (x : Nat) (hx : x < 4294967296) (u0 u1 u2 u3 : Value) (h0 : w.cell? ⟨b, o, none⟩ = some u0) (h1 : w.cell? ⟨b, o + 1, none⟩ = some u1) (h2 : w.cell? ⟨b, o + 2, none⟩ = some u2) (h3 : w.cell? ⟨b, o + 3, none⟩ = some u3)
    (f : ∀ i, w.frozen? ⟨b, i, none⟩ = false) :
    Calls Try.prog 85 #[.slice (some ⟨b, o, none⟩) n c, .int .u32 (x : Int)] w fun e W' => (∃ v, e = .returned v) ∧ W' = (((w.setCell ⟨b, o, none⟩ (B8 (UInt8.ofNat (x / 16777216)))).setCell ⟨b, o + 1, none⟩ (B8 (UInt8.ofNat (x / 65536)))).setCell ⟨b, o + 2, none⟩ (B8 (UInt8.ofNat (x / 256)))).setCell ⟨b, o + 3, none⟩ (B8 (UInt8.ofNat x)) := by
  have hn0 : (0 : Int) < (n : Int) := by omega
  have hn1 : (1 : Int) < (n : Int) := by omega
  have hn2 : (2 : Int) < (n : Int) := by omega
  have hn3 : (3 : Int) < (n : Int) := by omega
  have f0 := f o
  have f1 := f (o + 1)
  have f2 := f (o + 2)
  have f3 := f (o + 3)
  clear f
  go_enter Try.func85, Try.ntmps85
  go_wp2_with fail
  go_end0
  refine ⟨⟨_, rfl⟩, ?_⟩
  have e0 : ((x / 16777216 : Nat) : Int) % 256 = (x : Int) / 16777216 := by omega
  have e1 : ((x / 65536 : Nat) : Int) % 256 = (x : Int) / 65536 % 256 := by omega
  have e2 : ((x / 256 : Nat) : Int) % 256 = (x : Int) / 256 % 256 := by omega
  rw [b8_ofN, b8_ofN, b8_ofN, b8_ofN, e0, e1, e2]

theorem slice_a64 (W : World) (b o k : Nat) (hk : k < 64) : (Instr.sliceAt 66 (.pointer (some ⟨b, o, none⟩)) (some (.int .i64 (k : Int))) none none).run Try.prog W = .ok (.slice (some ⟨b, o + k, none⟩) (64 - k) (64 - k)) W := by
  have ha : Try.prog.arrayLen 66 = 64 := by kernel_rfl
  have he : Try.prog.elem 66 = 5 := by kernel_rfl
  have hs := size1 W
  rw [run_sliceAt_array_l W 66 ⟨b, o, none⟩ (by kernel_rfl) .i64 (k : Int) (by omega) (by rw [ha]; omega), he, hs, ha]
  simp only [Result.andThen_ok, slicedAt, Int.toNat_natCast]
  rw [if_neg (by omega), add_plain, Nat.mul_one]
theorem slice_id (W : World) (b o k : Nat) (hk : k < 32) : (Instr.sliceAt 23 (.pointer (some ⟨b, o, none⟩)) (some (.int .i64 (k : Int))) none none).run Try.prog W = .ok (.slice (some ⟨b, o + k, none⟩) (32 - k) (32 - k)) W := by
  have ha : Try.prog.arrayLen 23 = 32 := by kernel_rfl
  have he : Try.prog.elem 23 = 5 := by kernel_rfl
  have hs := size1 W
  rw [run_sliceAt_array_l W 23 ⟨b, o, none⟩ (by kernel_rfl) .i64 (k : Int) (by omega) (by rw [ha]; omega), he, hs, ha]
  simp only [Result.andThen_ok, slicedAt, Int.toNat_natCast]
  rw [if_neg (by omega), add_plain, Nat.mul_one]
end Go.Proofs.Ytcclifnhbncfcaa
