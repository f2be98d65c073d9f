/- The laws' first step: the chapter's examples. -/
import Derived.Test.YtbclhjcnopfegaaSumRefFirst
namespace Go.Proofs.Ytbclhjcnopfegaa
open Go.RowKit

theorem crc_nine : crc [49, 50, 51, 52, 53, 54, 55, 56, 57] = 3421780262 := by decide +kernel
theorem wrap_nil : wrapB [] = [0, 0, 0, 0, 28, 223, 68, 33] := by decide +kernel

set_option maxHeartbeats 1000000 in
theorem alive_any (w : World) : Calls Try.prog 13 #[] w fun e W' => e = .returned (.bool true) ∧ Below w.heap.size w W' := by
  go_enter Try.func13, Try.ntmps13
  go_wp2_with fail
  refine (Wrap_any w _ [] (Bs.nil w) (by simp)).mono ?_
  rintro e w1 ⟨v1, rfl, hown1, hB1⟩
  rw [wrap_nil] at hown1
  obtain ⟨A1, n1, c1, rfl⟩ := owns_slice hown1
  go_wp2_with fail
  refine (Of_none w1).mono ?_
  rintro e w2 ⟨rfl, hB2⟩
  have hown2 := owns_below hown1 hB2
  have hB2' := hB1.trans (hB2.mono hB1.size)
  obtain ⟨w3, hcv, hbs, hB3⟩ := const_bytes w2 [49, 50, 51, 52, 53, 54, 55, 56, 57] 9 rfl #[.int .u8 49, .int .u8 50, .int .u8 51, .int .u8 52, .int .u8 53, .int .u8 54, .int .u8 55, .int .u8 56, .int .u8 57] rfl w2.heap.size rfl
  have hown3 := owns_below hown2 hB3
  have hB3' := hB2'.trans (hB3.mono hB2'.size)
  clear hown1 hB2 hB1 hown2
  go_wp2_with fail
  refine (Of_one w3 _ _ hbs (by simp) _).mono ?_
  rw [crc_nine]
  rintro e w4 ⟨rfl, hB4⟩
  have hown4 := owns_below hown3 hB4
  have hcv4 := run_string_bs (P := Try.prog) w4 22 9 5 Try.underlying22 Try.underlying5 Try.underlying9 (Bs.of_owns hown4)
  have hB4' := hB3'.trans (hB4.mono hB3'.size)
  clear hcv hbs hown3
  go_wp2
  go_ret
  exact ⟨rfl, hB4'⟩
end Go.Proofs.Ytbclhjcnopfegaa
