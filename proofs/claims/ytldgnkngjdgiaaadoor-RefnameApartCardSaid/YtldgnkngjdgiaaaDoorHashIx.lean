/- strings.IndexByte. -/
import Derived.Test.YtldgnkngjdgiaaaDoorHashRefText
import Derived.Lib.Bytealg
namespace Go.Proofs.YtldgnkngjdgiaaaDoor
open Go.RowKit
set_option maxRecDepth 100000

set_option maxHeartbeats 1000000 in
theorem slIndexByte_any (s : List UInt8) (c : UInt8) (w : World) :
    Calls Tryd.prog 82 #[Str s, B8 c] w fun e w' => e = .returned (.int .i64 (Lib.indexByte s c)) ∧ w' = w := by
  go_enter Tryd.func82, Tryd.ntmps82
  go_wp2
  rw [run_callFunc_extern Tryd.func95 (by kernel_rfl) (by kernel_rfl) (by kernel_rfl) (e := Extern.BytealgIndexByte.indexByte) (by kernel_rfl), Lib.run_indexByteString]
  simp only [Result.andThen]
  rw [Oper.upon_value]
  go_wp2
  go_ret
  exact ⟨by simp, rfl⟩
set_option maxHeartbeats 1000000 in
theorem sIndexByte_any (s : List UInt8) (c : UInt8) (w : World) :
    Calls Tryd.prog 61 #[Str s, B8 c] w fun e w' => e = .returned (.int .i64 (Lib.indexByte s c)) ∧ w' = w := by
  go_enter Tryd.func61, Tryd.ntmps61
  go_wp2_with (go_at_call 82; refine (slIndexByte_any _ _ _).mono ?_; rintro e w' ⟨rfl, rfl⟩)
  go_ret
  exact ⟨rfl, rfl⟩
end Go.Proofs.YtldgnkngjdgiaaaDoor
