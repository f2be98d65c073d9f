/- The reference's Text, digit. strings.IndexByte. -/
import Derived.Test.YtljihmbmjpcfaaaGreatIdBox
import Derived.Test.YtljihmbmjpcfaaaGreatRound
import Derived.Lib.Bytealg
namespace Go.Proofs.YtljihmbmjpcfaaaGreat
open Go.RowKit
set_option maxRecDepth 100000

/-- The digits. -/
def digs : List UInt8 := [48, 49, 50, 51, 52, 53, 54, 55, 56, 57, 97, 98, 99, 100, 101, 102]
def hexd (n : Nat) : UInt8 := digs.getD n 0
/-- An id's text. -/
def textB (xs : List UInt8) : List UInt8 := xs.flatMap fun c => [hexd (c.toNat / 16), hexd (c.toNat % 16)]
theorem textB_succ {xs : List UInt8} {k : Nat} {x : UInt8} (hx : xs[k]? = some x) : textB (xs.take (k + 1)) = textB (xs.take k) ++ [hexd (x.toNat / 16), hexd (x.toNat % 16)] := by
  unfold textB
  rw [List.take_add_one, hx, List.flatMap_append]
  simp
theorem textB_length (xs : List UInt8) : (textB xs).length = 2 * xs.length := by
  induction xs with
  | nil => rfl
  | cons x xs ih => simp only [textB, List.flatMap_cons, List.length_append, List.length_cons, List.length_nil] at ih ⊢; omega
theorem dig_ext {n : Nat} (h : n < 16) : ({ data := #[48, 49, 50, 51, 52, 53, 54, 55, 56, 57, 97, 98, 99, 100, 101, 102] } : ByteArray).extract n (n + 1) = ⟨[hexd n].toArray⟩ := by
  have key : ∀ n : Fin 16, ({ data := #[48, 49, 50, 51, 52, 53, 54, 55, 56, 57, 97, 98, 99, 100, 101, 102] } : ByteArray).extract n.1 (n.1 + 1) = ⟨[hexd n.1].toArray⟩ := by decide +kernel
  exact key ⟨n, h⟩
theorem str_cat (a b : Array UInt8) : ({ data := a } : ByteArray) ++ ({ data := b } : ByteArray) = ⟨a ++ b⟩ := by
  apply ByteArray.ext
  simp
/-- A digit's number. -/
def digV (c : UInt8) : Int := if 48 ≤ c.toNat ∧ c.toNat ≤ 57 then (c.toNat : Int) - 48 else if 97 ≤ c.toNat ∧ c.toNat ≤ 102 then (c.toNat : Int) - 87 else -1

end Go.Proofs.YtljihmbmjpcfaaaGreat
namespace Go.Proofs.YtljihmbmjpcfaaaGreat
open Go.RowKit
set_option maxRecDepth 100000

set_option maxHeartbeats 1000000 in
theorem slIndexByte_any (s : List UInt8) (c : UInt8) (w : World) :
    Calls Tryz.prog 244 #[Str s, B8 c] w fun e w' => e = .returned (.int .i64 (Lib.indexByte s c)) ∧ w' = w := by
  go_enter Tryz.func244, Tryz.ntmps244
  go_wp2
  rw [run_callFunc_extern Tryz.func245 (by kernel_rfl) (by kernel_rfl) (by kernel_rfl) (e := Extern.BytealgIndexByte.indexByte) (by kernel_rfl), Lib.run_indexByteString]
  simp only [Result.andThen]
  rw [Oper.upon_value]
  go_wp2
  go_ret
  exact ⟨by simp, rfl⟩
set_option maxHeartbeats 1000000 in
theorem sIndexByte_any (s : List UInt8) (c : UInt8) (w : World) :
    Calls Tryz.prog 240 #[Str s, B8 c] w fun e w' => e = .returned (.int .i64 (Lib.indexByte s c)) ∧ w' = w := by
  go_enter Tryz.func240, Tryz.ntmps240
  go_wp2_with (go_at_call 244; refine (slIndexByte_any _ _ _).mono ?_; rintro e w' ⟨rfl, rfl⟩)
  go_ret
  exact ⟨rfl, rfl⟩
end Go.Proofs.YtljihmbmjpcfaaaGreat
