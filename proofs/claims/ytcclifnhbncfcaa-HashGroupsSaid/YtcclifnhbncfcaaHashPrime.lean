/- The program's isPrime. -/
import Derived.Test.YtcclifnhbncfcaaHashRot
namespace Go.Proofs.Ytcclifnhbncfcaa
open Go.RowKit

theorem isPr_stop {n f m : Nat} (h : ¬ m * m ≤ n) : isPr n f m = true := by
  cases f with
  | zero => rfl
  | succ f => rw [isPr, if_neg h]
theorem isPr_next {n m : Nat} (hm : m < 22) (h : m * m ≤ n) : isPr n (22 - m) m = if n % m = 0 then false else isPr n (22 - (m + 1)) (m + 1) := by
  rw [show 22 - m = (22 - (m + 1)) + 1 by omega, isPr, if_pos h]

set_option maxRecDepth 100000 in
set_option maxHeartbeats 400000 in
theorem isPrime_any (w : World) (n : Nat) (h2 : 2 ≤ n) (hn : n < 400) :
    Calls Try.prog 81 #[.int .u64 (n : Int)] w fun e W' => e = .returned (.bool (isPr n 20 2)) ∧ w = W' := by
  go_enter Try.func81, Try.ntmps81
  go_wp2_with fail
  go_loopw [3] (fun v wr => ∃ m : Nat, 2 ≤ m ∧ m ≤ 22 ∧ v = .int .u64 (m : Int) ∧ isPr n (22 - m) m = isPr n 20 2 ∧ w = wr) (fun v _ => 22 - (intOf v).toNat)
  case atStart => exact ⟨2, by omega, by omega, rfl, rfl, rfl⟩
  case round =>
    obtain ⟨m, hm2, hm22, rfl, hI, rfl⟩ := hrel
    obtain ⟨q, hq⟩ : ∃ q, q = m * m := ⟨_, rfl⟩
    have hq2 : q ≤ 484 := by rw [hq]; exact Nat.mul_le_mul hm22 hm22
    have hmm : (m : Int) * (m : Int) = (q : Int) := by rw [hq]; push_cast; rfl
    have hm0 : (m : Int) ≠ 0 := by omega
    have HI := Lib.hid hI
    have HQ := Lib.hid hq
    clear hI hq
    by_cases hle : q ≤ n
    case pos =>
      have hlei : (q : Int) ≤ (n : Int) := by omega
      have hm : m < 22 := by
        rcases Nat.lt_or_ge m 22 with h | h
        · exact h
        · obtain rfl : m = 22 := by omega
          have := HQ.out
          omega
      have hN := isPr_next (n := n) hm (by rw [← HQ.out]; exact hle)
      have HN := Lib.hid hN
      clear hN
      go_wp2_with fail
      · rename_i h0
        have h1 : n % m = 0 := by
          have := eq_of_beq h0
          omega
        go_ret
        refine ⟨?_, rfl⟩
        rw [← HI.out, HN.out, if_pos h1]; rfl
      · rename_i h0
        have h1 : ¬ n % m = 0 := fun h => by
          have h3 := ne_of_beq_false h0
          exact h3 (by omega)
        refine ⟨⟨m + 1, by omega, by omega, by simp, ?_, trivial⟩, by simp only [intOf]; omega⟩
        rw [← HI.out, HN.out, if_neg h1]
    case neg =>
      have hlei : ¬ (q : Int) ≤ (n : Int) := by omega
      have hT := isPr_stop (n := n) (f := 22 - m) (m := m) (by rw [← HQ.out]; exact hle)
      have HT := Lib.hid hT
      clear hT
      go_wp2_with fail
      go_ret
      refine ⟨?_, rfl⟩
      rw [← HI.out, HT.out]; rfl
end Go.Proofs.Ytcclifnhbncfcaa
