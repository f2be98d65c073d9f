/- Words turned and laid over each other: the program's RotateLeft32, turns, spread0, spread1. The program's isPrime. The bits behind the point of a prime's root: the program's below, fraction. Chains, constants, hashes that go on: as values, in variables. -/
import Derived.Test.YtljihmbmjpcfaaaGreatLebMath
import Derived.Test.YtljihmbmjpcfaaaGreatHashOfMath
import Derived.BigQuiet
import Derived.Test.YtljihmbmjpcfaaaGreatShelf
import Derived.Test.YtljihmbmjpcfaaaGreatObj
namespace Go.Proofs.YtljihmbmjpcfaaaGreat
open Go.RowKit

/-- A word. -/
abbrev Wd (n : Nat) : Value := .int .u32 (n : Int)

set_option maxRecDepth 100000 in
set_option maxHeartbeats 400000 in
theorem rotl_any (w : World) (x n : Nat) (hx : x < 4294967296) (h1 : 1 ≤ n) (h2 : n ≤ 31) :
    Calls Tryz.prog 176 #[.int .u32 (x : Int), .int .i64 (-(n : Int))] w fun e W' => e = .returned (.int .u32 ((rotr x n : Nat) : Int)) ∧ w = W' := by
  obtain ⟨s, hsn⟩ : ∃ s, s = 32 - n := ⟨_, rfl⟩
  have hs : bits .and .u64 (IntKind.u64.wrap (-(n : Int))) 31 = (s : Int) := by
    have h : ∀ m : Nat, m < 32 → 1 ≤ m → bits .and .u64 (IntKind.u64.wrap (-(m : Int))) 31 = ((32 - m : Nat) : Int) := by decide +kernel
    rw [hsn]
    exact h n (by omega) h1
  have hr : bits .or .u32 ((x : Int) * 2 ^ s % 4294967296) ((x : Int) / 2 ^ (32 - s)) = (rotr x n : Nat) := by
    have e1 : (x : Int) / 2 ^ (32 - s) = ((x / 2 ^ n : Nat) : Int) := by rw [show 32 - s = n by omega]; simp
    have e2 : (x : Int) * 2 ^ s % 4294967296 = ((x * 2 ^ (32 - n) % 4294967296 : Nat) : Int) := by rw [hsn]; simp
    rw [e1, e2, u32_or_nat _ _ (Nat.mod_lt _ (by decide)) (Nat.lt_of_le_of_lt (Nat.div_le_self _ _) hx), Nat.or_comm]
    rfl
  have hs1 : 1 ≤ s := by omega
  have hs2 : s ≤ 31 := by omega
  clear hsn
  go_enter Tryz.func176, Tryz.ntmps176
  go_wp2
  go_ret
  exact ⟨rfl, rfl⟩

set_option maxRecDepth 100000 in
set_option maxHeartbeats 400000 in
theorem spread0_any (w : World) (x : Nat) (hx : x < 4294967296) :
    Calls Tryz.prog 153 #[.int .u32 (x : Int)] w fun e W' => e = .returned (.int .u32 ((smallLow x : Nat) : Int)) ∧ w = W' := by
  have x1 := u32_xor_nat (rotr x 7) (rotr x 18) (rotr_bound hx) (rotr_bound hx)
  have x2 := u32_xor_nat (rotr x 7 ^^^ rotr x 18) (x / 8) (Nat.xor_lt_two_pow (n := 32) (rotr_bound hx) (rotr_bound hx)) (by omega)
  have q8 : (x : Int) / 8 = ((x / 8 : Nat) : Int) := by omega
  rw [← q8] at x2
  clear q8
  have r1 : ∀ W, Calls Tryz.prog 176 #[.int .u32 (x : Int), .int .i64 (-7)] W fun e w' => e = .returned (.int .u32 ((rotr x 7 : Nat) : Int)) ∧ W = w' := fun W => rotl_any W x 7 hx (by omega) (by omega)
  have r2 : ∀ W, Calls Tryz.prog 176 #[.int .u32 (x : Int), .int .i64 (-18)] W fun e w' => e = .returned (.int .u32 ((rotr x 18 : Nat) : Int)) ∧ W = w' := fun W => rotl_any W x 18 hx (by omega) (by omega)
  go_enter Tryz.func153, Tryz.ntmps153
  go_wp2_with fail
  refine (r1 _).mono ?_
  rintro e w' ⟨rfl, rfl⟩
  go_simp
  go_wp2_with fail
  refine (r2 _).mono ?_
  rintro e w' ⟨rfl, rfl⟩
  go_simp
  go_wp2_with fail
  go_ret
  exact ⟨rfl, rfl⟩

set_option maxRecDepth 100000 in
set_option maxHeartbeats 400000 in
theorem spread1_any (w : World) (x : Nat) (hx : x < 4294967296) :
    Calls Tryz.prog 154 #[.int .u32 (x : Int)] w fun e W' => e = .returned (.int .u32 ((smallHigh x : Nat) : Int)) ∧ w = W' := by
  have x1 := u32_xor_nat (rotr x 17) (rotr x 19) (rotr_bound hx) (rotr_bound hx)
  have x2 := u32_xor_nat (rotr x 17 ^^^ rotr x 19) (x / 1024) (Nat.xor_lt_two_pow (n := 32) (rotr_bound hx) (rotr_bound hx)) (by omega)
  have q8 : (x : Int) / 1024 = ((x / 1024 : Nat) : Int) := by omega
  rw [← q8] at x2
  clear q8
  have r1 : ∀ W, Calls Tryz.prog 176 #[.int .u32 (x : Int), .int .i64 (-17)] W fun e w' => e = .returned (.int .u32 ((rotr x 17 : Nat) : Int)) ∧ W = w' := fun W => rotl_any W x 17 hx (by omega) (by omega)
  have r2 : ∀ W, Calls Tryz.prog 176 #[.int .u32 (x : Int), .int .i64 (-19)] W fun e w' => e = .returned (.int .u32 ((rotr x 19 : Nat) : Int)) ∧ W = w' := fun W => rotl_any W x 19 hx (by omega) (by omega)
  go_enter Tryz.func154, Tryz.ntmps154
  go_wp2_with fail
  refine (r1 _).mono ?_
  rintro e w' ⟨rfl, rfl⟩
  go_simp
  go_wp2_with fail
  refine (r2 _).mono ?_
  rintro e w' ⟨rfl, rfl⟩
  go_simp
  go_wp2_with fail
  go_ret
  exact ⟨rfl, rfl⟩

set_option maxRecDepth 100000 in
set_option maxHeartbeats 400000 in
theorem turns_any (w : World) (x i j k : Nat) (hx : x < 4294967296) (hi : 1 ≤ i) (hi2 : i ≤ 31) (hj : 1 ≤ j) (hj2 : j ≤ 31) (hk : 1 ≤ k) (hk2 : k ≤ 31) :
    Calls Tryz.prog 155 #[.int .u32 (x : Int), .int .i64 (i : Int), .int .i64 (j : Int), .int .i64 (k : Int)] w fun e W' => e = .returned (.int .u32 ((rotr x i ^^^ rotr x j ^^^ rotr x k : Nat) : Int)) ∧ w = W' := by
  have x1 := u32_xor_nat (rotr x i) (rotr x j) (rotr_bound hx) (rotr_bound hx)
  have x2 := u32_xor_nat (rotr x i ^^^ rotr x j) (rotr x k) (Nat.xor_lt_two_pow (n := 32) (rotr_bound hx) (rotr_bound hx)) (rotr_bound hx)
  have r1 : ∀ W, Calls Tryz.prog 176 #[.int .u32 (x : Int), .int .i64 (-(i : Int))] W fun e w' => e = .returned (.int .u32 ((rotr x i : Nat) : Int)) ∧ W = w' := fun W => rotl_any W x i hx hi hi2
  have r2 : ∀ W, Calls Tryz.prog 176 #[.int .u32 (x : Int), .int .i64 (-(j : Int))] W fun e w' => e = .returned (.int .u32 ((rotr x j : Nat) : Int)) ∧ W = w' := fun W => rotl_any W x j hx hj hj2
  have r3 : ∀ W, Calls Tryz.prog 176 #[.int .u32 (x : Int), .int .i64 (-(k : Int))] W fun e w' => e = .returned (.int .u32 ((rotr x k : Nat) : Int)) ∧ W = w' := fun W => rotl_any W x k hx hk hk2
  go_enter Tryz.func155, Tryz.ntmps155
  go_wp2_with fail
  refine (r1 _).mono ?_
  rintro e w' ⟨rfl, rfl⟩
  go_simp
  go_wp2_with fail
  refine (r2 _).mono ?_
  rintro e w' ⟨rfl, rfl⟩
  go_simp
  go_wp2_with fail
  refine (r3 _).mono ?_
  rintro e w' ⟨rfl, rfl⟩
  go_simp
  go_wp2_with fail
  go_ret
  exact ⟨rfl, rfl⟩
end Go.Proofs.YtljihmbmjpcfaaaGreat
namespace Go.Proofs.YtljihmbmjpcfaaaGreat
open Go.RowKit

theorem isPr_stop {n f m : Nat} (h : ¬ m * m ≤ n) : isPr n f m = true := by
  cases f with
  | zero => rfl
  | succ f => rw [isPr, if_neg h]
theorem isPr_next {n m : Nat} (hm : m < 22) (h : m * m ≤ n) : isPr n (22 - m) m = if n % m = 0 then false else isPr n (22 - (m + 1)) (m + 1) := by
  rw [show 22 - m = (22 - (m + 1)) + 1 by omega, isPr, if_pos h]

set_option maxRecDepth 100000 in
set_option maxHeartbeats 400000 in
theorem isPrime_any (w : World) (n : Nat) (h2 : 2 ≤ n) (hn : n < 400) :
    Calls Tryz.prog 82 #[.int .u64 (n : Int)] w fun e W' => e = .returned (.bool (isPr n 20 2)) ∧ w = W' := by
  go_enter Tryz.func82, Tryz.ntmps82
  go_wp2_with fail
  go_loopw [3] (fun v wr => ∃ m : Nat, 2 ≤ m ∧ m ≤ 22 ∧ v = .int .u64 (m : Int) ∧ isPr n (22 - m) m = isPr n 20 2 ∧ w = wr) (fun v _ => 22 - (intOf v).toNat)
  case atStart => exact ⟨2, by omega, by omega, rfl, rfl, rfl⟩
  case round =>
    obtain ⟨m, hm2, hm22, rfl, hI, rfl⟩ := hrel
    obtain ⟨q, hq⟩ : ∃ q, q = m * m := ⟨_, rfl⟩
    have hq2 : q ≤ 484 := by rw [hq]; exact Nat.mul_le_mul hm22 hm22
    have hmm : (m : Int) * (m : Int) = (q : Int) := by rw [hq]; push_cast; rfl
    have hm0 : (m : Int) ≠ 0 := by omega
    have HI := Lib.hid hI
    have HQ := Lib.hid hq
    clear hI hq
    by_cases hle : q ≤ n
    case pos =>
      have hlei : (q : Int) ≤ (n : Int) := by omega
      have hm : m < 22 := by
        rcases Nat.lt_or_ge m 22 with h | h
        · exact h
        · obtain rfl : m = 22 := by omega
          have := HQ.out
          omega
      have hN := isPr_next (n := n) hm (by rw [← HQ.out]; exact hle)
      have HN := Lib.hid hN
      clear hN
      go_wp2_with fail
      · rename_i h0
        have h1 : n % m = 0 := by
          have := eq_of_beq h0
          omega
        go_ret
        refine ⟨?_, rfl⟩
        rw [← HI.out, HN.out, if_pos h1]; rfl
      · rename_i h0
        have h1 : ¬ n % m = 0 := fun h => by
          have h3 := ne_of_beq_false h0
          exact h3 (by omega)
        refine ⟨⟨m + 1, by omega, by omega, by simp, ?_, trivial⟩, by simp only [intOf]; omega⟩
        rw [← HI.out, HN.out, if_neg h1]
    case neg =>
      have hlei : ¬ (q : Int) ≤ (n : Int) := by omega
      have hT := isPr_stop (n := n) (f := 22 - m) (m := m) (by rw [← HQ.out]; exact hle)
      have HT := Lib.hid hT
      clear hT
      go_wp2_with fail
      go_ret
      refine ⟨?_, rfl⟩
      rw [← HI.out, HT.out]; rfl
end Go.Proofs.YtljihmbmjpcfaaaGreat
namespace Go.Proofs.YtljihmbmjpcfaaaGreat
open Go.RowKit

set_option maxRecDepth 100000 in
set_option maxHeartbeats 400000 in
theorem below_any (w : World) (root n p : Nat) (hr : root < 34359738368) (hn : n < 400) :
    Calls Tryz.prog 115 #[.int .u64 (root : Int), .int .u64 (n : Int), .int .i64 (p : Int)] w fun e W' => e = .returned (.bool (belowB root n p)) ∧ w = W' := by
  obtain ⟨H, hH⟩ : ∃ H, H = root * root / 18446744073709551616 := ⟨_, rfl⟩
  obtain ⟨L, hL⟩ : ∃ L, L = root * root % 18446744073709551616 := ⟨_, rfl⟩
  obtain ⟨C, hC⟩ : ∃ C, C = L * root / 18446744073709551616 := ⟨_, rfl⟩
  obtain ⟨D, hD⟩ : ∃ D, D = L * root % 18446744073709551616 := ⟨_, rfl⟩
  obtain ⟨R, hR⟩ : ∃ R, R = H * root := ⟨_, rfl⟩
  have hLb : L < 18446744073709551616 := by rw [hL]; exact Nat.mod_lt _ (by decide)
  have hHb : H < 64 := by
    have h1 : root * root ≤ 34359738367 * 34359738367 := Nat.mul_le_mul (by omega) (by omega)
    rw [hH]
    omega
  have hCb : C < 34359738368 := by
    have h1 : L * root ≤ 18446744073709551615 * root := Nat.mul_le_mul (by omega) (Nat.le_refl _)
    rw [hC]
    omega
  have hRb : R < 2199023255552 := by
    have h1 : H * root ≤ 63 * 34359738367 := Nat.mul_le_mul (by omega) (by omega)
    rw [hR]
    omega
  have hRi : (H : Int) * (root : Int) = (R : Int) := by rw [hR]; push_cast; rfl
  have m1 : ∀ W, Calls Tryz.prog 150 #[.int .u64 (root : Int), .int .u64 (root : Int)] W fun e w' => e = .returned (.tuple #[.int .u64 (H : Int), .int .u64 (L : Int)]) ∧ w' = W := fun W => by
    rw [hH, hL]
    exact Tryz.bits_Mul64 root root (by omega) (by omega) W
  have m2 : ∀ W, Calls Tryz.prog 150 #[.int .u64 (L : Int), .int .u64 (root : Int)] W fun e w' => e = .returned (.tuple #[.int .u64 (C : Int), .int .u64 (D : Int)]) ∧ w' = W := fun W => by
    rw [hC, hD]
    exact Tryz.bits_Mul64 L root hLb (by omega) W
  have hB : belowB root n p = if p = 2 then decide (H < n) else decide (R + C < n * 4294967296) := by rw [belowB, hR, hC, hH, hL]
  have HB := Lib.hid hB
  clear hB hH hL hC hD hR
  go_enter Tryz.func115, Tryz.ntmps115
  go_wp2_with fail
  refine (m1 _).mono ?_
  rintro e w' ⟨rfl, rfl⟩
  go_simp
  by_cases h2 : p = 2
  · have h2i : (p : Int) = 2 := by omega
    go_wp2_with fail
    go_ret
    rw [HB.out, if_pos h2]
    exact ⟨rfl, rfl⟩
  · have h2i : (p : Int) ≠ 2 := by omega
    go_wp2_with fail
    refine (m2 _).mono ?_
    rintro e w' ⟨rfl, rfl⟩
    go_simp
    go_wp2_with fail
    go_ret
    have e : decide ((R : Int) + (C : Int) < (n : Int) * 4294967296) = decide (R + C < n * 4294967296) := decide_eq_decide.2 (by omega)
    rw [HB.out, if_neg h2, ← e]
    exact ⟨rfl, rfl⟩

/-- The bit of round k, counted from the last one. -/
def bitOf : Nat → Nat
  | 0 => 0
  | k + 1 => 2 ^ k
theorem bitOf_half (k : Nat) : 2 ^ k / 2 = bitOf k := by
  cases k with
  | zero => rfl
  | succ k => rw [bitOf, Nat.pow_succ]; omega

set_option maxRecDepth 100000 in
set_option maxHeartbeats 400000 in
theorem fraction_any (w : World) (n p : Nat) (hn : n < 400) :
    Calls Tryz.prog 83 #[.int .u64 (n : Int), .int .i64 (p : Int)] w fun e W' => e = .returned (.int .u32 ((fracB n p : Nat) : Int)) ∧ w = W' := by
  go_enter Tryz.func83, Tryz.ntmps83
  go_wp2_with fail
  go_loopw [5, 6] (fun v b wr => ∃ k root : Nat, k ≤ 35 ∧ root < 34359738368 ∧ v = .int .u64 (root : Int) ∧ b = .int .u64 (bitOf k : Int) ∧ fracGo n p k root = fracGo n p 35 0 ∧ w = wr) (fun _ b _ => (intOf b).toNat)
  case atStart => exact ⟨35, 0, by omega, by omega, rfl, rfl, rfl, rfl⟩
  case round =>
    obtain ⟨k, root, hk, hroot, rfl, rfl, hI, rfl⟩ := hrel
    have HI := Lib.hid hI
    clear hI
    match k, hk with
    | 0, _ =>
      rw [show ((bitOf 0 : Nat) : Int) = 0 from rfl]
      have e : fracB n p = root % 4294967296 := by rw [fracB, ← HI.out]; rfl
      have e2 : ((fracB n p : Nat) : Int) = (root : Int) % 4294967296 := by rw [e]; omega
      have HE := Lib.hid e2
      clear e e2
      go_wp2_with fail
      go_ret
      refine ⟨?_, rfl⟩
      rw [HE.out]
      rfl
    | k + 1, hk =>
      have hh := bitOf_half k
      have h1 : 1 ≤ 2 ^ k := Nat.one_le_two_pow
      have h2 : 2 ^ k ≤ 2 ^ 34 := Nat.pow_le_pow_right (by decide) (by omega)
      rw [show bitOf (k + 1) = 2 ^ k from rfl]
      rw [fracGo] at HI
      generalize 2 ^ k = b at hh h1 h2 HI ⊢
      have h2' : b ≤ 17179869184 := h2
      clear h2
      obtain ⟨r, hr⟩ : ∃ r, r = root ||| b := ⟨_, rfl⟩
      have hrb : r < 34359738368 := by rw [hr]; exact or_lt35 hroot (by omega)
      have x1 := u64_or_nat root b (by omega) (by omega)
      rw [← hr] at x1 HI
      have hb0 : (b : Int) > 0 := by omega
      have r1 := fun W => below_any W r n p hrb hn
      clear hr
      generalize hB : belowB r n p = B at r1 HI
      clear hB
      cases B with
      | true =>
        go_wp2_with fail
        refine (r1 _).mono ?_
        rintro e w' ⟨rfl, rfl⟩
        go_simp
        go_wp2_with fail
        refine ⟨⟨k, r, by omega, hrb, rfl, by rw [← hh]; push_cast; rfl, ?_, trivial⟩, by simp only [intOf]; omega⟩
        have := HI.out
        rwa [if_pos trivial] at this
      | false =>
        go_wp2_with fail
        refine (r1 _).mono ?_
        rintro e w' ⟨rfl, rfl⟩
        go_simp
        go_wp2_with fail
        refine ⟨⟨k, root, by omega, hroot, rfl, by rw [← hh]; push_cast; rfl, ?_, trivial⟩, by simp only [intOf]; omega⟩
        have := HI.out
        rwa [if_neg (by decide)] at this
end Go.Proofs.YtljihmbmjpcfaaaGreat
namespace Go.Proofs.YtljihmbmjpcfaaaGreat
open Go.RowKit Go.Shelf Go.Great
set_option maxRecDepth 100000

def wds (l : List Nat) : List Value := l.map Wd
theorem wds_length (l : List Nat) : (wds l).length = l.length := by simp [wds]
theorem wds_one (l : List Nat) : ∀ u ∈ wds l, u.oneCell' = true := by
  intro u hu
  obtain ⟨i, _, rfl⟩ := List.mem_map.1 hu
  rfl
theorem wds_get {l : List Nat} {i x : Nat} (h : l[i]? = some x) : (wds l)[i]? = some (.int .u32 (x : Int)) := by
  rw [wds, List.getElem?_map, h]
  rfl
theorem wds_set (l : List Nat) (i x : Nat) : (wds l).set i (.int .u32 (x : Int)) = wds (l.set i x) := by
  rw [wds, wds, List.map_set]
/-- A chain. -/
structure Ch where
  l : List Nat
  h : l.length = 8
def eCh : Elt Ch := ⟨fun c => wds c.l, 8, by omega, fun c => by rw [wds_length, c.h], fun c => wds_one c.l⟩
/-- Sixteen words. -/
structure W16 where
  l : List Nat
  h : l.length = 16
def eW16 : Elt W16 := ⟨fun c => wds c.l, 16, by omega, fun c => by rw [wds_length, c.h], fun c => wds_one c.l⟩
/-- Constants. -/
structure Cn where
  b : List Nat
  r : List Nat
  hb : b.length = 8
  hr : r.length = 64
def encCn (c : Cn) : List Value := wds c.b ++ wds c.r
def eCn : Elt Cn := ⟨encCn, 72, by omega, fun c => by rw [encCn, List.length_append, wds_length, wds_length, c.hb, c.hr], fun c u hu => by
  rcases List.mem_append.1 hu with h | h
  · exact wds_one _ u h
  · exact wds_one _ u h⟩
/-- A hash that goes on. -/
structure Rn where
  c : List Nat
  b : List UInt8
  n : Nat
  hc : c.length = 8
  hb : b.length = 64
def encRn (r : Rn) : List Value := wds r.c ++ (r.b.map B8 ++ [.int .i64 (r.n : Int)])
def eRn : Elt Rn := ⟨encRn, 73, by omega, fun r => by simp [encRn, wds_length, r.hc, r.hb], fun r u hu => by
  rcases List.mem_append.1 hu with h | h
  · exact wds_one _ u h
  · rcases List.mem_append.1 h with h | h
    · obtain ⟨i, _, rfl⟩ := List.mem_map.1 h
      rfl
    · simp at h
      subst h
      rfl⟩
def zeroCh : Ch := ⟨List.replicate 8 0, rfl⟩
def zeroCn : Cn := ⟨List.replicate 8 0, List.replicate 64 0, rfl, rfl⟩
def zeroRn : Rn := ⟨List.replicate 8 0, List.replicate 64 0, 0, rfl, rfl⟩
def zero16 : W16 := ⟨List.replicate 16 0, rfl⟩
theorem zeroCh_run (w : World) : (zeroValue 114).run Tryz.prog w = .ok (eCh.val zeroCh) w := by
  have h : (Tryz.prog.info? 114).map (·.zero) = some (some (eCh.val zeroCh)) := by kernel_rfl
  obtain ⟨i, hi, hz⟩ := Option.map_eq_some_iff.1 h
  simp [zeroValue, typeInfo, hi, hz]
theorem zeroCn_run (w : World) : (zeroValue 117).run Tryz.prog w = .ok (eCn.val zeroCn) w := by
  have h : (Tryz.prog.info? 117).map (·.zero) = some (some (eCn.val zeroCn)) := by kernel_rfl
  obtain ⟨i, hi, hz⟩ := Option.map_eq_some_iff.1 h
  simp [zeroValue, typeInfo, hi, hz]
theorem zeroRn_run (w : World) : (zeroValue 121).run Tryz.prog w = .ok (eRn.val zeroRn) w := by
  have h : (Tryz.prog.info? 121).map (·.zero) = some (some (eRn.val zeroRn)) := by kernel_rfl
  obtain ⟨i, hi, hz⟩ := Option.map_eq_some_iff.1 h
  simp [zeroValue, typeInfo, hi, hz]
theorem zero16_run (w : World) : (zeroValue 247).run Tryz.prog w = .ok (eW16.val zero16) w := by
  have h : (Tryz.prog.info? 247).map (·.zero) = some (some (eW16.val zero16)) := by kernel_rfl
  obtain ⟨i, hi, hz⟩ := Option.map_eq_some_iff.1 h
  simp [zeroValue, typeInfo, hi, hz]
theorem sizeCh : (Tryz.prog.info? 114).map (·.size) = some eCh.k := by kernel_rfl
theorem sizeCn : (Tryz.prog.info? 117).map (·.size) = some eCn.k := by kernel_rfl
theorem sizeRn : (Tryz.prog.info? 121).map (·.size) = some eRn.k := by kernel_rfl
theorem size16 : (Tryz.prog.info? 247).map (·.size) = some eW16.k := by kernel_rfl
section
variable {W : World} {b o : Nat}
theorem ChAt.at {x : Ch} (h : ElAt eCh W b o x) {i y : Nat} (hy : x.l[i]? = some y) : W.cell? ⟨b, o + i, none⟩ = some (.int .u32 (y : Int)) := h i _ (wds_get hy)
theorem CnAt.beg {x : Cn} (h : ElAt eCn W b o x) : ElAt eCh W b o ⟨x.b, x.hb⟩ := rangeAt_left h
theorem CnAt.rounds {x : Cn} (h : ElAt eCn W b o x) {i y : Nat} (hy : x.r[i]? = some y) : W.cell? ⟨b, o + 8 + i, none⟩ = some (.int .u32 (y : Int)) := by
  have := rangeAt_right h
  rw [wds_length, x.hb] at this
  exact this i _ (wds_get hy)
theorem RnAt.chain {x : Rn} (h : ElAt eRn W b o x) : ElAt eCh W b o ⟨x.c, x.hc⟩ := rangeAt_left h
theorem RnAt.block {x : Rn} (h : ElAt eRn W b o x) : W.rangeAt b (o + 8) (x.b.map B8) := by
  have := rangeAt_right h
  rw [wds_length, x.hc] at this
  exact rangeAt_left this
theorem RnAt.len {x : Rn} (h : ElAt eRn W b o x) : W.cell? ⟨b, o + 72, none⟩ = some (.int .i64 (x.n : Int)) := by
  have := rangeAt_right (rangeAt_right h)
  rw [wds_length, x.hc, List.length_map, x.hb, Nat.add_assoc] at this
  exact rangeAt_head this
end
end Go.Proofs.YtljihmbmjpcfaaaGreat
