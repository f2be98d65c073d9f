/- The bits behind the point of a prime's root: the program's below, fraction. -/
import Derived.Test.YtljihmbmjpcfaaaGreatLebSrc
import Derived.Test.YtljihmbmjpcfaaaGreatShelf
namespace Go.Proofs.YtljihmbmjpcfaaaGreat
open Go.RowKit

set_option maxRecDepth 100000 in
set_option maxHeartbeats 400000 in
theorem below_any (w : World) (root n p : Nat) (hr : root < 34359738368) (hn : n < 400) :
    Calls Tryz.prog 115 #[.int .u64 (root : Int), .int .u64 (n : Int), .int .i64 (p : Int)] w fun e W' => e = .returned (.bool (belowB root n p)) ∧ w = W' := by
  obtain ⟨H, hH⟩ : ∃ H, H = root * root / 18446744073709551616 := ⟨_, rfl⟩
  obtain ⟨L, hL⟩ : ∃ L, L = root * root % 18446744073709551616 := ⟨_, rfl⟩
  obtain ⟨C, hC⟩ : ∃ C, C = L * root / 18446744073709551616 := ⟨_, rfl⟩
  obtain ⟨D, hD⟩ : ∃ D, D = L * root % 18446744073709551616 := ⟨_, rfl⟩
  obtain ⟨R, hR⟩ : ∃ R, R = H * root := ⟨_, rfl⟩
  have hLb : L < 18446744073709551616 := by rw [hL]; exact Nat.mod_lt _ (by decide)
  have hHb : H < 64 := by
    have h1 : root * root ≤ 34359738367 * 34359738367 := Nat.mul_le_mul (by omega) (by omega)
    rw [hH]
    omega
  have hCb : C < 34359738368 := by
    have h1 : L * root ≤ 18446744073709551615 * root := Nat.mul_le_mul (by omega) (Nat.le_refl _)
    rw [hC]
    omega
  have hRb : R < 2199023255552 := by
    have h1 : H * root ≤ 63 * 34359738367 := Nat.mul_le_mul (by omega) (by omega)
    rw [hR]
    omega
  have hRi : (H : Int) * (root : Int) = (R : Int) := by rw [hR]; push_cast; rfl
  have m1 : ∀ W, Calls Tryz.prog 150 #[.int .u64 (root : Int), .int .u64 (root : Int)] W fun e w' => e = .returned (.tuple #[.int .u64 (H : Int), .int .u64 (L : Int)]) ∧ w' = W := fun W => by
    rw [hH, hL]
    exact Tryz.bits_Mul64 root root (by omega) (by omega) W
  have m2 : ∀ W, Calls Tryz.prog 150 #[.int .u64 (L : Int), .int .u64 (root : Int)] W fun e w' => e = .returned (.tuple #[.int .u64 (C : Int), .int .u64 (D : Int)]) ∧ w' = W := fun W => by
    rw [hC, hD]
    exact Tryz.bits_Mul64 L root hLb (by omega) W
  have hB : belowB root n p = if p = 2 then decide (H < n) else decide (R + C < n * 4294967296) := by rw [belowB, hR, hC, hH, hL]
  have HB := Lib.hid hB
  clear hB hH hL hC hD hR
  go_enter Tryz.func115, Tryz.ntmps115
  go_wp2_with fail
  refine (m1 _).mono ?_
  rintro e w' ⟨rfl, rfl⟩
  go_simp
  by_cases h2 : p = 2
  · have h2i : (p : Int) = 2 := by omega
    go_wp2_with fail
    go_ret
    rw [HB.out, if_pos h2]
    exact ⟨rfl, rfl⟩
  · have h2i : (p : Int) ≠ 2 := by omega
    go_wp2_with fail
    refine (m2 _).mono ?_
    rintro e w' ⟨rfl, rfl⟩
    go_simp
    go_wp2_with fail
    go_ret
    have e : decide ((R : Int) + (C : Int) < (n : Int) * 4294967296) = decide (R + C < n * 4294967296) := decide_eq_decide.2 (by omega)
    rw [HB.out, if_neg h2, ← e]
    exact ⟨rfl, rfl⟩

/-- The bit of round k, counted from the last one. -/
def bitOf : Nat → Nat
  | 0 => 0
  | k + 1 => 2 ^ k
theorem bitOf_half (k : Nat) : 2 ^ k / 2 = bitOf k := by
  cases k with
  | zero => rfl
  | succ k => rw [bitOf, Nat.pow_succ]; omega

set_option maxRecDepth 100000 in
set_option maxHeartbeats 400000 in
theorem fraction_any (w : World) (n p : Nat) (hn : n < 400) :
    Calls Tryz.prog 83 #[.int .u64 (n : Int), .int .i64 (p : Int)] w fun e W' => e = .returned (.int .u32 ((fracB n p : Nat) : Int)) ∧ w = W' := by
  go_enter Tryz.func83, Tryz.ntmps83
  go_wp2_with fail
  go_loopw [5, 6] (fun v b wr => ∃ k root : Nat, k ≤ 35 ∧ root < 34359738368 ∧ v = .int .u64 (root : Int) ∧ b = .int .u64 (bitOf k : Int) ∧ fracGo n p k root = fracGo n p 35 0 ∧ w = wr) (fun _ b _ => (intOf b).toNat)
  case atStart => exact ⟨35, 0, by omega, by omega, rfl, rfl, rfl, rfl⟩
  case round =>
    obtain ⟨k, root, hk, hroot, rfl, rfl, hI, rfl⟩ := hrel
    have HI := Lib.hid hI
    clear hI
    match k, hk with
    | 0, _ =>
      rw [show ((bitOf 0 : Nat) : Int) = 0 from rfl]
      have e : fracB n p = root % 4294967296 := by rw [fracB, ← HI.out]; rfl
      have e2 : ((fracB n p : Nat) : Int) = (root : Int) % 4294967296 := by rw [e]; omega
      have HE := Lib.hid e2
      clear e e2
      go_wp2_with fail
      go_ret
      refine ⟨?_, rfl⟩
      rw [HE.out]
      rfl
    | k + 1, hk =>
      have hh := bitOf_half k
      have h1 : 1 ≤ 2 ^ k := Nat.one_le_two_pow
      have h2 : 2 ^ k ≤ 2 ^ 34 := Nat.pow_le_pow_right (by decide) (by omega)
      rw [show bitOf (k + 1) = 2 ^ k from rfl]
      rw [fracGo] at HI
      generalize 2 ^ k = b at hh h1 h2 HI ⊢
      have h2' : b ≤ 17179869184 := h2
      clear h2
      obtain ⟨r, hr⟩ : ∃ r, r = root ||| b := ⟨_, rfl⟩
      have hrb : r < 34359738368 := by rw [hr]; exact or_lt35 hroot (by omega)
      have x1 := u64_or_nat root b (by omega) (by omega)
      rw [← hr] at x1 HI
      have hb0 : (b : Int) > 0 := by omega
      have r1 := fun W => below_any W r n p hrb hn
      clear hr
      generalize hB : belowB r n p = B at r1 HI
      clear hB
      cases B with
      | true =>
        go_wp2_with fail
        refine (r1 _).mono ?_
        rintro e w' ⟨rfl, rfl⟩
        go_simp
        go_wp2_with fail
        refine ⟨⟨k, r, by omega, hrb, rfl, by rw [← hh]; push_cast; rfl, ?_, trivial⟩, by simp only [intOf]; omega⟩
        have := HI.out
        rwa [if_pos trivial] at this
      | false =>
        go_wp2_with fail
        refine (r1 _).mono ?_
        rintro e w' ⟨rfl, rfl⟩
        go_simp
        go_wp2_with fail
        refine ⟨⟨k, root, by omega, hroot, rfl, by rw [← hh]; push_cast; rfl, ?_, trivial⟩, by simp only [intOf]; omega⟩
        have := HI.out
        rwa [if_neg (by decide)] at this
end Go.Proofs.YtljihmbmjpcfaaaGreat
