/- Words turned and laid over each other: the program's RotateLeft32, turns, spread0, spread1. -/
import Derived.Test.YtcclifnhbncfcaaKit
import Derived.Test.YtcclifnhbncfcaaHashOfMath
import Derived.BigQuiet
namespace Go.Proofs.Ytcclifnhbncfcaa
open Go.RowKit

/-- A word. -/
abbrev Wd (n : Nat) : Value := .int .u32 (n : Int)

set_option maxRecDepth 100000 in
set_option maxHeartbeats 400000 in
theorem rotl_any (w : World) (x n : Nat) (hx : x < 4294967296) (h1 : 1 ≤ n) (h2 : n ≤ 31) :
    Calls Try.prog 126 #[.int .u32 (x : Int), .int .i64 (-(n : Int))] w fun e W' => e = .returned (.int .u32 ((rotr x n : Nat) : Int)) ∧ w = W' := by
  obtain ⟨s, hsn⟩ : ∃ s, s = 32 - n := ⟨_, rfl⟩
  have hs : bits .and .u64 (IntKind.u64.wrap (-(n : Int))) 31 = (s : Int) := by
    have h : ∀ m : Nat, m < 32 → 1 ≤ m → bits .and .u64 (IntKind.u64.wrap (-(m : Int))) 31 = ((32 - m : Nat) : Int) := by decide +kernel
    rw [hsn]
    exact h n (by omega) h1
  have hr : bits .or .u32 ((x : Int) * 2 ^ s % 4294967296) ((x : Int) / 2 ^ (32 - s)) = (rotr x n : Nat) := by
    have e1 : (x : Int) / 2 ^ (32 - s) = ((x / 2 ^ n : Nat) : Int) := by rw [show 32 - s = n by omega]; simp
    have e2 : (x : Int) * 2 ^ s % 4294967296 = ((x * 2 ^ (32 - n) % 4294967296 : Nat) : Int) := by rw [hsn]; simp
    rw [e1, e2, u32_or_nat _ _ (Nat.mod_lt _ (by decide)) (Nat.lt_of_le_of_lt (Nat.div_le_self _ _) hx), Nat.or_comm]
    rfl
  have hs1 : 1 ≤ s := by omega
  have hs2 : s ≤ 31 := by omega
  clear hsn
  go_enter Try.func126, Try.ntmps126
  go_wp2
  go_ret
  exact ⟨rfl, rfl⟩

set_option maxRecDepth 100000 in
set_option maxHeartbeats 400000 in
theorem spread0_any (w : World) (x : Nat) (hx : x < 4294967296) :
    Calls Try.prog 121 #[.int .u32 (x : Int)] w fun e W' => e = .returned (.int .u32 ((smallLow x : Nat) : Int)) ∧ w = W' := by
  have x1 := u32_xor_nat (rotr x 7) (rotr x 18) (rotr_bound hx) (rotr_bound hx)
  have x2 := u32_xor_nat (rotr x 7 ^^^ rotr x 18) (x / 8) (Nat.xor_lt_two_pow (n := 32) (rotr_bound hx) (rotr_bound hx)) (by omega)
  have q8 : (x : Int) / 8 = ((x / 8 : Nat) : Int) := by omega
  rw [← q8] at x2
  clear q8
  have r1 : ∀ W, Calls Try.prog 126 #[.int .u32 (x : Int), .int .i64 (-7)] W fun e w' => e = .returned (.int .u32 ((rotr x 7 : Nat) : Int)) ∧ W = w' := fun W => rotl_any W x 7 hx (by omega) (by omega)
  have r2 : ∀ W, Calls Try.prog 126 #[.int .u32 (x : Int), .int .i64 (-18)] W fun e w' => e = .returned (.int .u32 ((rotr x 18 : Nat) : Int)) ∧ W = w' := fun W => rotl_any W x 18 hx (by omega) (by omega)
  go_enter Try.func121, Try.ntmps121
  go_wp2_with fail
  refine (r1 _).mono ?_
  rintro e w' ⟨rfl, rfl⟩
  go_simp
  go_wp2_with fail
  refine (r2 _).mono ?_
  rintro e w' ⟨rfl, rfl⟩
  go_simp
  go_wp2_with fail
  go_ret
  exact ⟨rfl, rfl⟩

set_option maxRecDepth 100000 in
set_option maxHeartbeats 400000 in
theorem spread1_any (w : World) (x : Nat) (hx : x < 4294967296) :
    Calls Try.prog 122 #[.int .u32 (x : Int)] w fun e W' => e = .returned (.int .u32 ((smallHigh x : Nat) : Int)) ∧ w = W' := by
  have x1 := u32_xor_nat (rotr x 17) (rotr x 19) (rotr_bound hx) (rotr_bound hx)
  have x2 := u32_xor_nat (rotr x 17 ^^^ rotr x 19) (x / 1024) (Nat.xor_lt_two_pow (n := 32) (rotr_bound hx) (rotr_bound hx)) (by omega)
  have q8 : (x : Int) / 1024 = ((x / 1024 : Nat) : Int) := by omega
  rw [← q8] at x2
  clear q8
  have r1 : ∀ W, Calls Try.prog 126 #[.int .u32 (x : Int), .int .i64 (-17)] W fun e w' => e = .returned (.int .u32 ((rotr x 17 : Nat) : Int)) ∧ W = w' := fun W => rotl_any W x 17 hx (by omega) (by omega)
  have r2 : ∀ W, Calls Try.prog 126 #[.int .u32 (x : Int), .int .i64 (-19)] W fun e w' => e = .returned (.int .u32 ((rotr x 19 : Nat) : Int)) ∧ W = w' := fun W => rotl_any W x 19 hx (by omega) (by omega)
  go_enter Try.func122, Try.ntmps122
  go_wp2_with fail
  refine (r1 _).mono ?_
  rintro e w' ⟨rfl, rfl⟩
  go_simp
  go_wp2_with fail
  refine (r2 _).mono ?_
  rintro e w' ⟨rfl, rfl⟩
  go_simp
  go_wp2_with fail
  go_ret
  exact ⟨rfl, rfl⟩

set_option maxRecDepth 100000 in
set_option maxHeartbeats 400000 in
theorem turns_any (w : World) (x i j k : Nat) (hx : x < 4294967296) (hi : 1 ≤ i) (hi2 : i ≤ 31) (hj : 1 ≤ j) (hj2 : j ≤ 31) (hk : 1 ≤ k) (hk2 : k ≤ 31) :
    Calls Try.prog 123 #[.int .u32 (x : Int), .int .i64 (i : Int), .int .i64 (j : Int), .int .i64 (k : Int)] w fun e W' => e = .returned (.int .u32 ((rotr x i ^^^ rotr x j ^^^ rotr x k : Nat) : Int)) ∧ w = W' := by
  have x1 := u32_xor_nat (rotr x i) (rotr x j) (rotr_bound hx) (rotr_bound hx)
  have x2 := u32_xor_nat (rotr x i ^^^ rotr x j) (rotr x k) (Nat.xor_lt_two_pow (n := 32) (rotr_bound hx) (rotr_bound hx)) (rotr_bound hx)
  have r1 : ∀ W, Calls Try.prog 126 #[.int .u32 (x : Int), .int .i64 (-(i : Int))] W fun e w' => e = .returned (.int .u32 ((rotr x i : Nat) : Int)) ∧ W = w' := fun W => rotl_any W x i hx hi hi2
  have r2 : ∀ W, Calls Try.prog 126 #[.int .u32 (x : Int), .int .i64 (-(j : Int))] W fun e w' => e = .returned (.int .u32 ((rotr x j : Nat) : Int)) ∧ W = w' := fun W => rotl_any W x j hx hj hj2
  have r3 : ∀ W, Calls Try.prog 126 #[.int .u32 (x : Int), .int .i64 (-(k : Int))] W fun e w' => e = .returned (.int .u32 ((rotr x k : Nat) : Int)) ∧ W = w' := fun W => rotl_any W x k hx hk hk2
  go_enter Try.func123, Try.ntmps123
  go_wp2_with fail
  refine (r1 _).mono ?_
  rintro e w' ⟨rfl, rfl⟩
  go_simp
  go_wp2_with fail
  refine (r2 _).mono ?_
  rintro e w' ⟨rfl, rfl⟩
  go_simp
  go_wp2_with fail
  refine (r3 _).mono ?_
  rintro e w' ⟨rfl, rfl⟩
  go_simp
  go_wp2_with fail
  go_ret
  exact ⟨rfl, rfl⟩
end Go.Proofs.Ytcclifnhbncfcaa
