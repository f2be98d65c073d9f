/- The reference's Parse. -/
import Derived.Test.YtcclifnhbncfcaaHashRefText
import Derived.Test.YtcclifnhbncfcaaIdBox
namespace Go.Proofs.Ytcclifnhbncfcaa
open Go.RowKit
set_option maxRecDepth 100000

/-- The bytes of digits, two a byte. -/
def parseB : List UInt8 → Option (List UInt8)
  | a :: b :: r => if digV a < 0 ∨ digV b < 0 then none else (parseB r).map (UInt8.ofNat (16 * digV a + digV b).toNat :: ·)
  | [] => some []
  | [_] => none
/-- What a text is: the error, the id. -/
def parseR (s : List UInt8) : Int × List UInt8 := if s.length = 64 then (match parseB s with | some xs => (0, xs) | none => (30, zeroID)) else (30, zeroID)

theorem BoxI.frozen {W : World} {g k : Nat} {xs : List UInt8} (h : BoxI W g xs) : W.frozen? ⟨g, k, none⟩ = false := frozen_of_row W g k _ _ h.2
theorem parseB_at {s : List UInt8} {k : Nat} {a b : UInt8} (ha : s[2 * k]? = some a) (hb : s[2 * k + 1]? = some b) : parseB (s.drop (2 * k)) = if digV a < 0 ∨ digV b < 0 then none else (parseB (s.drop (2 * (k + 1)))).map (UInt8.ofNat (16 * digV a + digV b).toNat :: ·) := by
  obtain ⟨h1, e1⟩ := List.getElem?_eq_some_iff.1 ha
  obtain ⟨h2, e2⟩ := List.getElem?_eq_some_iff.1 hb
  rw [List.drop_eq_getElem_cons h1, List.drop_eq_getElem_cons h2, e1, e2]
  rfl
theorem digV_lt (c : UInt8) : digV c < 16 ∧ -1 ≤ digV c := by
  have := c.toNat_lt
  unfold digV
  split
  · omega
  · split <;> omega

theorem byte_at {s : List UInt8} {i : Nat} {x : UInt8} (h : s[i]? = some x) (hi : i < ({ data := s.toArray } : ByteArray).size) : (({ data := s.toArray } : ByteArray)[i]'hi) = x := by
  obtain ⟨h1, h2⟩ := List.getElem?_eq_some_iff.1 h
  rw [← h2]
  rfl
theorem put_pre {pre : List UInt8} {k : Nat} {y : UInt8} (hp : pre.length = k) (hk : k < 32) : (pre ++ zeroID.drop k).set k y = (pre ++ [y]) ++ zeroID.drop (k + 1) := by
  rw [List.set_append_right _ _ (by omega), hp, Nat.sub_self]
  have : zeroID.drop k = 0 :: zeroID.drop (k + 1) := by
    have hz : k < zeroID.length := by rw [zeroID_length]; exact hk
    rw [List.drop_eq_getElem_cons hz]
    congr 1
    exact List.getElem_replicate (by simpa using hk)
  rw [this]
  simp
theorem b8_num {n : Int} (h0 : 0 ≤ n) (h1 : n < 256) : B8 (UInt8.ofNat n.toNat) = .int .u8 n := by
  unfold B8
  rw [UInt8.toNat_ofNat', Nat.mod_eq_of_lt (by omega)]
  congr 1
  omega

end Go.Proofs.Ytcclifnhbncfcaa
