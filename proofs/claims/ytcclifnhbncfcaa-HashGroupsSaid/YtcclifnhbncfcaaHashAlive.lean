/- The chapter's examples of hashes: alive. -/
import Derived.Test.YtcclifnhbncfcaaHashOf
import Derived.Test.YtcclifnhbncfcaaHashText
import Derived.Test.YtcclifnhbncfcaaListStep
namespace Go.Proofs.Ytcclifnhbncfcaa
open Go.RowKit Go.Shelf Go.Great
set_option maxRecDepth 100000

def noneT : List UInt8 := [101, 51, 98, 48, 99, 52, 52, 50, 57, 56, 102, 99, 49, 99, 49, 52, 57, 97, 102, 98, 102, 52, 99, 56, 57, 57, 54, 102, 98, 57, 50, 52, 50, 55, 97, 101, 52, 49, 101, 52, 54, 52, 57, 98, 57, 51, 52, 99, 97, 52, 57, 53, 57, 57, 49, 98, 55, 56, 53, 50, 98, 56, 53, 53]
def abcT : List UInt8 := [98, 97, 55, 56, 49, 54, 98, 102, 56, 102, 48, 49, 99, 102, 101, 97, 52, 49, 52, 49, 52, 48, 100, 101, 53, 100, 97, 101, 50, 50, 50, 51, 98, 48, 48, 51, 54, 49, 97, 51, 57, 54, 49, 55, 55, 97, 57, 99, 98, 52, 49, 48, 102, 102, 54, 49, 102, 50, 48, 48, 49, 53, 97, 100]
theorem none_text : textB (shaB []) = noneT := by rw [sha_none]; decide +kernel
theorem abc_text : textB (shaB [97, 98, 99]) = abcT := by rw [sha_abc]; decide +kernel
theorem Parts.nil (W : World) : Parts W (.slice none 0 0) [] := ⟨none, 0, rfl, fun i p h => by simp at h⟩

set_option maxHeartbeats 1000000 in
theorem alive3_any (w : World) : Calls Try.prog 7 #[] w fun e W' => e = .returned (.bool true) ∧ Below w.heap.size w W' := by
  obtain ⟨S0, hS0⟩ : ∃ S, S = shaB [] := ⟨_, rfl⟩
  obtain ⟨S1, hS1⟩ : ∃ S, S = shaB [97, 98, 99] := ⟨_, rfl⟩
  have o0 : ∀ W, Calls Try.prog 33 #[.slice none 0 0] W fun e W' => e = .returned (IdV S0) ∧ Below W.heap.size W W' := fun W => by
    rw [hS0]
    exact hOf_any W _ [] (Parts.nil W) (by decide) (by decide)
  have o1 : ∀ W v, Parts W v [[97, 98, 99]] → Calls Try.prog 33 #[v] W fun e W' => e = .returned (IdV S1) ∧ Below W.heap.size W W' := fun W v hv => by
    rw [hS1]
    exact hOf_any W _ [[97, 98, 99]] hv (by decide) (by decide)
  have t0 : ∀ W, Calls Try.prog 9 #[IdV S0] W fun e W' => e = .returned (.string { data := #[101, 51, 98, 48, 99, 52, 52, 50, 57, 56, 102, 99, 49, 99, 49, 52, 57, 97, 102, 98, 102, 52, 99, 56, 57, 57, 54, 102, 98, 57, 50, 52, 50, 55, 97, 101, 52, 49, 101, 52, 54, 52, 57, 98, 57, 51, 52, 99, 97, 52, 57, 53, 57, 57, 49, 98, 55, 56, 53, 50, 98, 56, 53, 53] }) ∧ Below W.heap.size W W' := fun W => by
    have := hText_any W (shaB []) (shaB_length _)
    rw [none_text, ← hS0] at this
    exact this
  have t1 : ∀ W, Calls Try.prog 9 #[IdV S1] W fun e W' => e = .returned (.string { data := #[98, 97, 55, 56, 49, 54, 98, 102, 56, 102, 48, 49, 99, 102, 101, 97, 52, 49, 52, 49, 52, 48, 100, 101, 53, 100, 97, 101, 50, 50, 50, 51, 98, 48, 48, 51, 54, 49, 97, 51, 57, 54, 49, 55, 55, 97, 57, 99, 98, 52, 49, 48, 102, 102, 54, 49, 102, 50, 48, 48, 49, 53, 97, 100] }) ∧ Below W.heap.size W W' := fun W => by
    have := hText_any W (shaB [97, 98, 99]) (shaB_length _)
    rw [abc_text, ← hS1] at this
    exact this
  clear hS0 hS1
  go_enter Try.func7, Try.ntmps7
  go_wp2_with fail
  refine (o0 _).mono ?_
  rintro e w1 ⟨rfl, hb1⟩
  go_simp
  go_wp2_with fail
  refine (t0 _).mono ?_
  rintro e w2 ⟨rfl, hb2⟩
  go_simp
  go_wp2_with fail
  obtain ⟨w3, hcv, hbs, hb3⟩ := const_bytes w2 [97, 98, 99] 3 rfl #[.int .u8 97, .int .u8 98, .int .u8 99] rfl w2.heap.size rfl
  rw [hcv]
  clear hcv
  go_simp
  have hA4 := (Below.refl w3.heap.size w3).alloc (Nat.le_refl _) (.cells #[.slice (some ⟨w2.heap.size, 0, none⟩) 3 3] 49)
  have hP : Parts (w3.alloc (.cells #[.slice (some ⟨w2.heap.size, 0, none⟩) 3 3] 49)) (.slice (some ⟨w3.heap.size, 0, none⟩) 1 1) [[97, 98, 99]] := by
    refine ⟨some ⟨w3.heap.size, 0, none⟩, 1, rfl, fun i p hp => ?_⟩
    match i, hp with
    | 0, hp =>
      cases hp
      exact ⟨_, _, _, rfl, by go_simp, hbs.below hA4⟩
  go_wp2_with fail
  refine (o1 _ _ hP).mono ?_
  rintro e w5 ⟨rfl, hb5⟩
  go_simp
  go_wp2_with fail
  refine (t1 _).mono ?_
  rintro e w6 ⟨rfl, hb6⟩
  go_simp
  go_wp2_with fail
  go_ret
  have h2 := hb1.trans (hb2.mono hb1.size)
  have h3 := h2.trans (hb3.mono h2.size)
  have h4 := h3.trans (hA4.mono h3.size)
  have h5 := h4.trans (hb5.mono h4.size)
  exact ⟨rfl, h5.trans (hb6.mono h5.size)⟩
end Go.Proofs.Ytcclifnhbncfcaa
