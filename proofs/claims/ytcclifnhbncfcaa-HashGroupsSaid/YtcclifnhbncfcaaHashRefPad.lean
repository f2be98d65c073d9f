/- The reference's right, padded. -/
import Derived.Test.YtcclifnhbncfcaaRound
import Derived.Test.YtcclifnhbncfcaaIds
import Derived.Test.YtcclifnhbncfcaaIdBox
import Derived.Test.YtcclifnhbncfcaaShaMath
namespace Go.Proofs.Ytcclifnhbncfcaa
open Go.RowKit

theorem rotr_lt {w n : Nat} (hw : w < 4294967296) : rotr w n < 4294967296 := by
  unfold rotr
  exact Nat.or_lt_two_pow (n := 32) (Nat.lt_of_le_of_lt (Nat.div_le_self _ _) hw) (Nat.mod_lt _ (by decide))

theorem fill_at {L j : Nat} (hj : j ≤ fillN L) : (L + 1 + j) % 64 = 56 ↔ j = fillN L := by
  unfold fillN at *
  omega
theorem fill_lt (L : Nat) : fillN L < 64 := Nat.mod_lt _ (by decide)
theorem be8_length (n : Nat) : (be8 n).length = 8 := by simp [be8]
theorem be8_succ {n q : Nat} (hq : q < 8) : (be8 n).take (8 - q) = (be8 n).take (8 - (q + 1)) ++ [UInt8.ofNat (n / 2 ^ (8 * q))] := by
  have e : 8 - q = (8 - (q + 1)) + 1 := by omega
  rw [e, List.take_add_one]
  congr 1
  have : (be8 n)[8 - (q + 1)]? = some (UInt8.ofNat (n / 2 ^ (8 * (7 - (8 - (q + 1)))))) := by
    rw [be8, List.getElem?_map, List.getElem?_range (by omega)]
    rfl
  rw [this, show 7 - (8 - (q + 1)) = q by omega]
  rfl
theorem b8_of (n : Nat) : B8 (UInt8.ofNat n) = .int .u8 ((n : Int) % 256) := by
  simp [B8, UInt8.toNat_ofNat']
def lenV : Value → Nat
  | .slice _ m _ => m
  | _ => 0

theorem row_len {W : World} {n : Nat} {v : Value} {zs : List UInt8} (h : Row W n v zs) : lenV v = zs.length := by
  rcases h.2 with ⟨rfl, h0⟩ | ⟨g, cap, cur, rfl, _⟩
  · simpa [lenV] using h0.symm
  · rfl

end Go.Proofs.Ytcclifnhbncfcaa
