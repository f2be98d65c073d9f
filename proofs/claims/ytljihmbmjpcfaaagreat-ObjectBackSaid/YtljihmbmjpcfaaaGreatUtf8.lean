/- Decoding: bytes from 128 on are never read as less. Plain. -/
import Derived.Test.YtljihmbmjpcfaaaGreatLebSrc
import Derived.Lib.DecodeN
import Derived.Lib.OthersKept
namespace Go.Proofs.YtljihmbmjpcfaaaGreat
open Go.RowKit
set_option maxRecDepth 100000

theorem div64 {n : Nat} (h : n / 64 = 2) : 128 ≤ n := by omega
def DecOk (s : ByteArray) (i : Nat) (d : Nat × Nat) : Prop := 128 ≤ d.1 ∧ (d.1 = 65533 ∨ Utf8.valid d.1 = true) ∧ d.1 < 2147483648 ∧ 1 ≤ d.2 ∧ i + d.2 ≤ s.size ∧ ∀ j, i ≤ j → j < i + d.2 → 128 ≤ (s.get! j).toNat
theorem DecOk.err {s : ByteArray} {i : Nat} (h : i < s.size) (h128 : 128 ≤ (s.get! i).toNat) : DecOk s i (Utf8.runeError, 1) :=
  ⟨by decide, .inl rfl, by decide, by decide, h, fun j hj1 hj2 => by
    obtain rfl : j = i := by
      have : j < i + 1 := hj2
      omega
    exact h128⟩
theorem DecOk.mk' {s : ByteArray} {i c n : Nat} (h1 : 128 ≤ c) (h2 : Utf8.valid c = true) (h3 : c < 2147483648) (h4 : 1 ≤ n) (h5 : i + n ≤ s.size) (h6 : ∀ k, k < n → 128 ≤ (s.get! (i + k)).toNat) : DecOk s i (c, n) :=
  ⟨h1, .inr h2, h3, h4, h5, fun j hj1 hj2 => by
    have hj2' : j < i + n := hj2
    have := h6 (j - i) (by omega)
    rwa [show i + (j - i) = j by omega] at this⟩
theorem decode_hi (s : ByteArray) (i : Nat) (h : i < s.size) (h128 : 128 ≤ (s.get! i).toNat) : DecOk s i (Utf8.decode s i) := by
  have hb : (s.get! i).toNat < 256 := (s.get! i).toNat_lt
  unfold Utf8.decode
  dsimp only [Nat.add_zero]
  rw [if_neg (by omega)]
  split
  · next h1 =>
    simp only [Bool.and_eq_true, beq_iff_eq, decide_eq_true_eq] at h1
    obtain ⟨h2, h3, h4⟩ := h1
    have h4' := div64 h4
    split
    · next h5 =>
      have hlt : (s.get! i).toNat % 32 * 64 + (s.get! (i + 1)).toNat % 64 < 2048 := by omega
      refine .mk' h5 ?_ (by omega) (by omega) (by omega) fun k hk => ?_
      · simp only [Utf8.valid, Bool.or_eq_true, Bool.and_eq_true, decide_eq_true_eq]
        left
        omega
      · have : k = 0 ∨ k = 1 := by omega
        rcases this with rfl | rfl
        · exact h128
        · exact h4'
    · exact .err h h128
  · split
    · next h1 =>
      simp only [Bool.and_eq_true, beq_iff_eq, decide_eq_true_eq] at h1
      obtain ⟨⟨h2, h3, h4⟩, h5, h6⟩ := h1
      have h4' := div64 h4
      have h6' := div64 h6
      split
      · next h7 =>
        simp only [Bool.and_eq_true, decide_eq_true_eq] at h7
        obtain ⟨h7, h8⟩ := h7
        refine .mk' (by omega) h8 (by omega) (by omega) (by omega) fun k hk => ?_
        have : k = 0 ∨ k = 1 ∨ k = 2 := by omega
        rcases this with rfl | rfl | rfl
        · exact h128
        · exact h4'
        · exact h6'
      · exact .err h h128
    · split
      · next h1 =>
        simp only [Bool.and_eq_true, beq_iff_eq, decide_eq_true_eq] at h1
        obtain ⟨⟨⟨h2, h3, h4⟩, h5, h6⟩, h7, h8⟩ := h1
        have h4' := div64 h4
        have h6' := div64 h6
        have h8' := div64 h8
        split
        · next h9 =>
          simp only [Bool.and_eq_true, decide_eq_true_eq] at h9
          obtain ⟨h9, h10⟩ := h9
          refine .mk' (by omega) h10 (by omega) (by omega) (by omega) fun k hk => ?_
          have : k = 0 ∨ k = 1 ∨ k = 2 ∨ k = 3 := by omega
          rcases this with rfl | rfl | rfl | rfl
          · exact h128
          · exact h4'
          · exact h6'
          · exact h8'
        · exact .err h h128
      · exact .err h h128
/-- What is encoded of a rune from 128 on ends in a byte from 128 on, and has two bytes or more. -/
theorem encode_hi (r : Nat) (h : 128 ≤ r) (hv : Utf8.valid r = true) : ∃ xs : List UInt8, Utf8.encode r = ⟨xs.toArray⟩ ∧ 2 ≤ xs.length ∧ xs.length ≤ 4 ∧ ∀ b ∈ xs, b ≠ 0 := by
  unfold Utf8.encode
  rw [if_pos hv]
  dsimp only
  have hr : (r : Int).toNat = r := by omega
  have hmax : r ≤ 1114111 := by
    simp only [Utf8.valid, Bool.or_eq_true, Bool.and_eq_true, decide_eq_true_eq] at hv
    omega
  have nz : ∀ n : Nat, 0 < n → n < 256 → UInt8.ofNat n ≠ 0 := fun n h1 h2 e => by
    have := congrArg UInt8.toNat e
    simp [Nat.mod_eq_of_lt h2] at this
    omega
  rw [hr, if_neg (by omega)]
  split
  · exact ⟨[_, _], rfl, by simp, by simp, fun b hb => by
      simp only [List.mem_cons, List.not_mem_nil, or_false] at hb
      rcases hb with rfl | rfl <;> exact nz _ (by omega) (by omega)⟩
  · split
    · exact ⟨[_, _, _], rfl, by simp, by simp, fun b hb => by
        simp only [List.mem_cons, List.not_mem_nil, or_false] at hb
        rcases hb with rfl | rfl | rfl <;> exact nz _ (by omega) (by omega)⟩
    · exact ⟨[_, _, _, _], rfl, by simp, by simp, fun b hb => by
        simp only [List.mem_cons, List.not_mem_nil, or_false] at hb
        rcases hb with rfl | rfl | rfl | rfl <;> exact nz _ (by omega) (by omega)⟩
end Go.Proofs.YtljihmbmjpcfaaaGreat
