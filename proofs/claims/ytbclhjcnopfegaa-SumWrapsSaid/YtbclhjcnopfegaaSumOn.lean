/- The register's step, an entry of the table, On. -/
import Derived.Test.YtbclhjcnopfegaaKit
import Derived.Test.YtbclhjcnopfegaaSumMath
namespace Go.Proofs.Ytbclhjcnopfegaa
open Go.RowKit

theorem and1 {n : Nat} (hn : n < 4294967296) : bits .and .u32 (n : Int) 1 = ((n % 2 : Nat) : Int) := by
  have := u32_and_nat n 1 hn (by omega)
  rw [nat_mask1] at this
  exact this
theorem xorP {n : Nat} (hn : n < 4294967296) : bits .xor .u32 (n : Int) 3988292384 = ((n ^^^ 3988292384 : Nat) : Int) := u32_xor_nat n 3988292384 hn (by omega)
theorem half (n : Nat) : (n : Int) / 2 = ((n / 2 : Nat) : Int) := by omega

set_option maxHeartbeats 400000 in
/-- The closure: the boxed register goes over a nought. -/
theorem entry1_any (w : World) (B n : Nat) (hn : n < 4294967296) (hb : Boxed w B 35 (.int .u32 n)) :
    Calls Try.prog 26 #[.pointer (some ⟨B, 0, none⟩)] w fun e W' => (∃ v, e = .returned v) ∧ Boxed W' B 35 (.int .u32 (step n : Nat)) ∧ Kept (· = B) w W' := by
  have hc := hb.cell
  have hf := hb.frozen
  have hk : Kept (· = B) w (w.setCell ⟨B, 0, none⟩ (.int .u32 ((n : Int) / 2))) := (Kept.refl (· = B) w).setCell (T := (· = B)) (p := ⟨B, 0, none⟩) (fun _ => rfl) _
  have hs := hb.set (.int .u32 ((n : Int) / 2))
  have hc' := hs.cell
  have hf' := hs.frozen
  have ha := and1 hn
  go_enter Try.func26, Try.ntmps26
  by_cases h1 : n % 2 = 1
  · have h2 : (bits .and .u32 (n : Int) 1 == 1) = true := by rw [ha, h1]; rfl
    go_wp2
    go_end0
    refine ⟨⟨_, rfl⟩, ?_, hk.setCell (p := ⟨B, 0, none⟩) (fun _ => rfl) _⟩
    have hx := hs.set (.int .u32 (bits .xor .u32 ((n : Int) / 2) 3988292384))
    rw [half, xorP (by omega)] at hx
    rw [half, xorP (by omega), step, if_pos h1]
    exact hx
  · have h2 : (bits .and .u32 (n : Int) 1 == 1) = false := by rw [ha, show n % 2 = 0 by omega]; rfl
    go_wp2
    go_end0
    refine ⟨⟨_, rfl⟩, ?_, hk⟩
    rw [step, if_neg h1, ← half]
    exact hs

set_option maxHeartbeats 400000 in
/-- An entry of the table. -/
theorem entry_any (w : World) (x : Nat) (hx : x < 256) :
    Calls Try.prog 22 #[.int .u8 x] w fun e W' => e = .returned (.int .u32 (stepN 8 x : Nat)) ∧ Below w.heap.size w W' := by
  go_enter Try.func22, Try.ntmps22
  go_wp2_with fail
  go_loopw [8] (fun i wr => ∃ (k n : Nat), k ≤ 8 ∧ i = .int .i64 k ∧ n < 4294967296 ∧ stepN (8 - k) n = stepN 8 x ∧ Boxed wr w.heap.size 35 (.int .u32 n) ∧ Below w.heap.size w wr) (fun i _ => 8 - (intOf i).toNat)
  case atStart => exact ⟨0, x, by omega, rfl, by omega, rfl, Boxed.new w 35 _, (Below.refl _ w).alloc (Nat.le_refl _) _⟩
  case round =>
    obtain ⟨k, n, hk, rfl, hn, hst, hb, hB⟩ := hrel
    have hc := hb.cell
    have HST := Lib.hid hst
    clear hst
    by_cases hlt : k < 8
    · go_wp2_with fail
      refine (entry1_any wr w.heap.size n hn hb).mono ?_
      rintro e w1 ⟨⟨v, rfl⟩, hb1, hk1⟩
      go_wp2_with fail
      go_roundw
      case rel => exact ⟨k + 1, step n, by omega, by go_num, step_lt hn, by rw [← HST.out, show 8 - k = (8 - (k + 1)) + 1 by omega]; rfl, hb1, hB.trans (hk1.below (fun j _ e => by omega) hB.size)⟩
      case measure => simp [intOf]; omega
    · obtain rfl : k = 8 := by omega
      go_wp2
      go_ret
      exact ⟨by rw [← HST.out]; rfl, hB⟩

theorem byteOn_table (r : Nat) (c : UInt8) : r / 256 ^^^ stepN 8 (r % 256 ^^^ c.toNat) = byteOn r c := by
  have h1 : r = r % 256 ^^^ 256 * (r / 256) := by
    rw [← add_mul_xor (Nat.mod_lt _ (by omega))]
    omega
  have h8 : stepN 8 (256 * (r / 256)) = r / 256 := stepN_shift 8 (r / 256)
  unfold byteOn
  conv => rhs; rw [h1, Nat.xor_assoc, Nat.xor_comm (256 * (r / 256)), ← Nat.xor_assoc, stepN_xor, h8]
  rw [Nat.xor_comm]
theorem byteOn_lt {r : Nat} (hr : r < 4294967296) (c : UInt8) : byteOn r c < 4294967296 := stepN_lt 8 _ (Nat.xor_lt_two_pow (n := 32) hr (by have := toNat_lt8 c; omega))
theorem notX {n : Nat} (hn : n < 4294967296) : bits .xor .u32 IntKind.u32.max (n : Int) = ((inv n : Nat) : Int) := by
  rw [inv_xor hn, Nat.xor_comm]
  exact u32_xor_nat 4294967295 n (by omega) hn
theorem xor8 (n : Nat) (c : UInt8) : bits .xor .u8 ((n : Int) % 256) (c.toNat : Int) = ((n % 256 ^^^ c.toNat : Nat) : Int) := u8_xor_nat (n % 256) c.toNat (by omega) (toNat_lt8 c)
theorem xor32 {n m : Nat} (hn : n < 4294967296) (hm : m < 4294967296) : bits .xor .u32 ((n : Int) / 256) (m : Int) = ((n / 256 ^^^ m : Nat) : Int) := u32_xor_nat (n / 256) m (by omega) hm
theorem xor8_lt {n : Nat} (c : UInt8) : n % 256 ^^^ c.toNat < 256 := Nat.xor_lt_two_pow (n := 8) (by omega) (toNat_lt8 c)

set_option maxHeartbeats 400000 in
theorem On_form (w : World) (s : Nat) (hs : s < 4294967296) (A : Option Addr) (c : Nat) (ys : List UInt8) (hy : Bs w (.slice A ys.length c) ys) (hl : ys.length ≤ 140737488355328) :
    Calls Try.prog 15 #[.int .u32 s, .slice A ys.length c] w fun e W' => e = .returned (.int .u32 (crcOn s ys : Nat)) ∧ Below w.heap.size w W' := by
  have hnx := notX hs
  go_enter Try.func15, Try.ntmps15
  go_wp2_with fail
  go_loopw [5, 12] (fun r i wr => ∃ (k n : Nat), k ≤ ys.length ∧ i = .int .i64 k ∧ n < 4294967296 ∧ r = .int .u32 n ∧ n = over (inv s) (ys.take k) ∧ Below w.heap.size w wr) (fun _ i _ => ys.length - (intOf i).toNat)
  case atStart => exact ⟨0, inv s, by omega, rfl, inv_lt s, rfl, by simp [over_nil], Below.refl _ _⟩
  case round =>
    obtain ⟨k, n, hk, rfl, hn, rfl, hst, hB⟩ := hrel
    have HST := Lib.hid hst
    clear hst
    by_cases hlt : k < ys.length
    · obtain ⟨b, off, rfl, hc⟩ := hy.at hlt
      have hy1 := (hB.cell (p := ⟨b, off + k, none⟩) (World.block_lt_of_cell? _ _ hc)).trans hc
      clear hc
      have hx8 := xor8 n ys[k]
      have hnl : byteOn n ys[k] < 4294967296 := byteOn_lt hn _
      have HX := Lib.hid (byteOn_table n ys[k])
      go_wp2_with fail
      refine (entry_any wr _ (xor8_lt _)).mono ?_
      rintro e w1 ⟨rfl, hb1⟩
      have hx32 := xor32 hn (stepN_lt 8 _ (by have := xor8_lt (n := n) ys[k]; omega : n % 256 ^^^ ys[k].toNat < 4294967296))
      rw [HX.out] at hx32
      have HT : over (inv s) (ys.take (k + 1)) = byteOn n ys[k] := by
        rw [HST.out, List.take_add_one, List.getElem?_eq_getElem hlt, over_append]
        rfl
      clear HX
      have HT := Lib.hid HT
      go_wp2_with fail
      go_roundw
      case rel => exact ⟨k + 1, byteOn n ys[k], by omega, by go_num, hnl, by first | rfl | rw [hx32], HT.out.symm, hB.trans (hb1.mono hB.size)⟩
      case measure => simp [intOf]; omega
    · obtain rfl : k = ys.length := by omega
      have hnx2 := notX hn
      go_wp2
      go_ret
      exact ⟨by rw [HST.out, List.take_length]; rfl, hB⟩

/-- On. -/
theorem On_any (w : World) (s : Nat) (hs : s < 4294967296) (v : Value) (ys : List UInt8) (hy : Bs w v ys) (hl : ys.length ≤ 140737488355328) :
    Calls Try.prog 15 #[.int .u32 s, v] w fun e W' => e = .returned (.int .u32 (crcOn s ys : Nat)) ∧ Below w.heap.size w W' := by
  obtain ⟨A, c, rfl, hc⟩ := hy.form
  exact On_form w s hs A c ys hy hl
end Go.Proofs.Ytbclhjcnopfegaa
