/- The walk of RefnameRules. -/
import Derived.Test.YtldgnkngjdgiaaaDoorRefnProg
namespace Go.Proofs.YtldgnkngjdgiaaaDoor
open Go.RowKit

theorem _root_.Go.RowKit.Below.on {w w1 w2 : World} (h1 : Below w.heap.size w w1) (h2 : Below w1.heap.size w1 w2) : Below w.heap.size w w2 := h1.trans (h2.mono h1.size)

set_option maxRecDepth 100000 in
set_option maxHeartbeats 2000000 in
theorem rules_arg (w : World) (s : List UInt8) (hs : s.length ≤ 9223372036854775807) (t : List UInt8) (ht : t.length ≤ 9223372036854775807) (hM : Mx w) :
    Calls Tryd.prog 3 #[Str s, Str t] w fun e W' => e = .returned (.bool true) ∧ Below w.heap.size w W' := by
  have hsz := str_size s
  have htz := str_size t
  have HM := Lib.hid hM
  clear hM
  by_cases h1 : 300 < s.length
  · have g1 : (300 : Int) < (s.length : Int) := by omega
    go_enter Tryd.func3, Tryd.ntmps3
    go_wp2
    go_ret
    exact ⟨rfl, Below.refl _ _⟩
  by_cases h2 : 300 < t.length
  · have g1 : ¬ (300 : Int) < (s.length : Int) := by omega
    have g2 : (300 : Int) < (t.length : Int) := by omega
    go_enter Tryd.func3, Tryd.ntmps3
    go_wp2
    go_ret
    exact ⟨rfl, Below.refl _ _⟩
  have g1 : ¬ (300 : Int) < (s.length : Int) := by omega
  have g2 : ¬ (300 : Int) < (t.length : Int) := by omega
  have c1 := fun W (h : Mx W) => pBreaks_any W s (by omega) h
  have c2 := fun W => r4Breaks_any W s (by omega)
  have c3 := fun W (h : Mx W) => pCheck_any W s (by omega) h
  have c4 := fun W => r4Check_any W s (by omega)
  have c5 := fun W (h : Mx W) => pParts_any W s (by omega) h
  have c6 := fun W => r4Parts_any W s (by omega)
  have c7 := fun W (h : Mx W) => pWithin_any W s t (by omega) (by omega) h
  have c8 := fun W => r4Within_any W s t (by omega) (by omega)
  have hpl : (partsR s).length ≤ 1000000 := by
    have := partsB_len s
    unfold partsR; split
    · omega
    · simp
  go_enter Tryd.func3, Tryd.ntmps3
  go_wp2_with fail
  refine (c1 _ HM.out).mono ?_
  rintro e w1 ⟨rfl, b1⟩
  go_wp2_with fail
  refine (c2 _).mono ?_
  rintro e w2 ⟨rfl, b2⟩
  have b2' := b1.on b2
  clear c1 c2 b1 b2
  go_wp2_with fail
  refine (c3 _ (HM.out.below b2')).mono ?_
  rintro e w3 ⟨rfl, b3⟩
  go_wp2_with fail
  refine (c4 _).mono ?_
  rintro e w4 ⟨rfl, b4⟩
  have b4' := (b2'.on b3).on b4
  clear c3 c4 b2' b3 b4
  go_wp2_with fail
  refine (c5 _ (HM.out.below b4')).mono ?_
  rintro e w5 ⟨v5, rfl, r5, b5⟩
  go_wp2_with fail
  refine (c6 _).mono ?_
  rintro e w6 ⟨v6, rfl, r6, b6⟩
  have r5' := r5.below b6
  have r6' := r6.ss
  have b6' := (b4'.on b5).on b6
  clear c5 c6 b4' b5 b6 r5 r6
  go_wp2_with fail
  refine (r4Texts_any _ _ _ _ _ r5' r6' hpl).mono ?_
  rintro e w7 ⟨rfl, b7⟩
  have b7' := b6'.on b7
  clear r5' r6' b6' b7
  rw [decide_eq_true rfl]
  go_wp2_with fail
  refine (c7 _ (HM.out.below b7')).mono ?_
  rintro e w8 ⟨rfl, b8⟩
  go_wp2_with fail
  refine (c8 _).mono ?_
  rintro e w9 ⟨rfl, b9⟩
  have b9' := (b7'.on b8).on b9
  go_wp2_with fail
  go_ret
  exact ⟨by simp, b9'⟩
end Go.Proofs.YtldgnkngjdgiaaaDoor
