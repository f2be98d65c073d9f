/- Check and Compare of dots: the program's and the reference's. -/
import Derived.Test.YtcclifnhbncfcaaDotMath
import Derived.Test.YtcclifnhbncfcaaKit
namespace Go.Proofs.Ytcclifnhbncfcaa
open Go.RowKit

abbrev DotV (s c : Int) : Value := .agg #[.int .i64 s, .int .i64 c]

theorem pDCheck_any (w : World) (s c : Int) :
    Calls Try.prog 68 #[DotV s c] w fun e W' => e = .returned (.int .i64 (checkD s c)) ∧ Below w.heap.size w W' := by
  have hB : Below w.heap.size w (w.alloc (.cells #[.int .i64 s, .int .i64 c] 38)) := (Below.refl _ w).alloc (Nat.le_refl _) _
  by_cases h1 : s < 0
  · rw [checkD_no (fun h => by unfold DotOk at h; omega)]
    go_enter Try.func68, Try.ntmps68
    go_wp2_with fail
    go_ret
    exact ⟨rfl, hB⟩
  by_cases h2 : 15 < s
  · rw [checkD_no (fun h => by unfold DotOk at h; omega)]
    go_enter Try.func68, Try.ntmps68
    go_wp2_with fail
    go_ret
    exact ⟨rfl, hB⟩
  by_cases h3 : c < 1
  · rw [checkD_no (fun h => by unfold DotOk at h; omega)]
    go_enter Try.func68, Try.ntmps68
    go_wp2_with fail
    go_ret
    exact ⟨rfl, hB⟩
  by_cases h4 : 4294967295 < c
  · rw [checkD_no (fun h => by unfold DotOk at h; omega)]
    go_enter Try.func68, Try.ntmps68
    go_wp2_with fail
    go_ret
    exact ⟨rfl, hB⟩
  rw [checkD_ok (by unfold DotOk; omega)]
  go_enter Try.func68, Try.ntmps68
  go_wp2_with fail
  go_ret
  exact ⟨rfl, hB⟩

theorem r5Check_any (w : World) (s c : Int) :
    Calls Try.prog 46 #[DotV s c] w fun e W' => e = .returned (.int .i64 (checkD s c)) ∧ Below w.heap.size w W' := by
  have hB : Below w.heap.size w (w.alloc (.cells #[.int .i64 s, .int .i64 c] 38)) := (Below.refl _ w).alloc (Nat.le_refl _) _
  by_cases h1 : s < 0
  · rw [checkD_no (fun h => by unfold DotOk at h; omega)]
    go_enter Try.func46, Try.ntmps46
    go_wp2_with fail
    go_ret
    exact ⟨rfl, hB⟩
  by_cases h2 : 15 < s
  · rw [checkD_no (fun h => by unfold DotOk at h; omega)]
    go_enter Try.func46, Try.ntmps46
    go_wp2_with fail
    go_ret
    exact ⟨rfl, hB⟩
  by_cases h3 : c < 1
  · rw [checkD_no (fun h => by unfold DotOk at h; omega)]
    go_enter Try.func46, Try.ntmps46
    go_wp2_with fail
    go_ret
    exact ⟨rfl, hB⟩
  by_cases h4 : 4294967295 < c
  · rw [checkD_no (fun h => by unfold DotOk at h; omega)]
    go_enter Try.func46, Try.ntmps46
    go_wp2_with fail
    go_ret
    exact ⟨rfl, hB⟩
  rw [checkD_ok (by unfold DotOk; omega)]
  go_enter Try.func46, Try.ntmps46
  go_wp2_with fail
  go_ret
  exact ⟨rfl, hB⟩
end Go.Proofs.Ytcclifnhbncfcaa
