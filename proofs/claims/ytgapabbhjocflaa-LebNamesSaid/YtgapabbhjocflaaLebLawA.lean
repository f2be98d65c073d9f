/- What the laws share: number, alive. -/
import Derived.Test.YtgapabbhjocflaaLebSinkMore
import Derived.Test.YtgapabbhjocflaaLebReadB
namespace Go.Proofs.Ytgapabbhjocflaa
open Go.RowKit

set_option maxHeartbeats 400000 in
theorem number_any (k : Nat) (hk : k < 18446744073709551616) (w : World) :
    Calls Try.prog 30 #[.int .u64 k] w fun e W' => e = .returned (Str (lebB k)) ∧ Below w.heap.size w W' := by
  have hl10 := lebB_u64 hk
  have b0 := Boxed.new w 26 (.slice none 0 0)
  have hat : SinkAt (w.alloc (.cells #[.slice none 0 0] 26)) w.heap.size w.heap.size (.slice none 0 0) [] := ⟨b0, World.ownsRow_nil _ _ _ _⟩
  go_enter Try.func30, Try.ntmps30
  go_wp2_with fail
  refine (SinkNumber_any w.heap.size k hk _ _ [] w.heap.size (by simp) hat (by simp)).mono ?_
  rintro e w1 ⟨rfl, v1, hat1, hk1, hw1⟩
  go_wp2_with fail
  refine (SinkAll_any _ w1 v1 _ _ hat1 (by simp; omega)).mono ?_
  rintro e w2 ⟨r, rfl, hrow, hb2⟩
  have hcv := run_string_bs (P := Try.prog) w2 24 9 5 Try.underlying24 Try.underlying5 Try.underlying9 (Bs.of_owns hrow)
  simp only [List.nil_append] at hcv
  go_wp2
  go_ret
  refine ⟨rfl, ?_⟩
  have h1 : Below w.heap.size w w1 := ((Below.refl _ w).alloc (Nat.le_refl _) _).trans (hk1.below (fun j _ t => by
    rcases t with rfl | t
    · exact Nat.le_refl _
    · simp [Value.ownBlock] at t) (by simp))
  exact h1.trans (hb2.mono h1.size)

theorem number_at (k : Nat) (hk : k < 18446744073709551616) (l : List UInt8) (hl : lebB k = l) (n : Int) (hn : n = k) (w : World) :
    Calls Try.prog 30 #[.int .u64 n] w fun e W' => e = .returned (Str l) ∧ Below w.heap.size w W' := by subst hl hn; exact number_any k hk w

set_option maxHeartbeats 1000000 in
theorem alive_any (w : World) : Calls Try.prog 31 #[] w fun e W' => e = .returned (.bool true) ∧ Below w.heap.size w W' := by
  go_enter Try.func31, Try.ntmps31
  go_wp2_with fail
  refine (number_at 0 (by decide) [0] (by decide) 0 rfl _).mono ?_
  rintro e w1 ⟨rfl, h1⟩
  go_wp2_with fail
  refine (number_at 127 (by decide) [127] (by decide) 127 rfl _).mono ?_
  rintro e w2 ⟨rfl, h2⟩
  go_wp2_with fail
  refine (number_at 128 (by decide) [128, 1] (by decide) 128 rfl _).mono ?_
  rintro e w3 ⟨rfl, h3⟩
  go_wp2_with fail
  refine (number_at 300 (by decide) [172, 2] (by decide) 300 rfl _).mono ?_
  rintro e w4 ⟨rfl, h4⟩
  go_wp2
  go_ret
  refine ⟨rfl, ?_⟩
  have a := h1.trans (h2.mono h1.size)
  have b := a.trans (h3.mono a.size)
  exact b.trans (h4.mono b.size)
end Go.Proofs.Ytgapabbhjocflaa
