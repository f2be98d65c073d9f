/- strings.IndexByte. -/
import Derived.Test.YtcclifnhbncfcaaHashRefText
import Derived.Lib.Bytealg
namespace Go.Proofs.Ytcclifnhbncfcaa
open Go.RowKit
set_option maxRecDepth 100000

set_option maxHeartbeats 1000000 in
theorem slIndexByte_any (s : List UInt8) (c : UInt8) (w : World) :
    Calls Try.prog 63 #[Str s, B8 c] w fun e w' => e = .returned (.int .i64 (Lib.indexByte s c)) ∧ w' = w := by
  go_enter Try.func63, Try.ntmps63
  go_wp2
  rw [run_callFunc_extern Try.func86 (by kernel_rfl) (by kernel_rfl) (by kernel_rfl) (e := Extern.BytealgIndexByte.indexByte) (by kernel_rfl), Lib.run_indexByteString]
  simp only [Result.andThen]
  rw [Oper.upon_value]
  go_wp2
  go_ret
  exact ⟨by simp, rfl⟩
set_option maxHeartbeats 1000000 in
theorem sIndexByte_any (s : List UInt8) (c : UInt8) (w : World) :
    Calls Try.prog 34 #[Str s, B8 c] w fun e w' => e = .returned (.int .i64 (Lib.indexByte s c)) ∧ w' = w := by
  go_enter Try.func34, Try.ntmps34
  go_wp2_with (go_at_call 63; refine (slIndexByte_any _ _ _).mono ?_; rintro e w' ⟨rfl, rfl⟩)
  go_ret
  exact ⟨rfl, rfl⟩
end Go.Proofs.Ytcclifnhbncfcaa
