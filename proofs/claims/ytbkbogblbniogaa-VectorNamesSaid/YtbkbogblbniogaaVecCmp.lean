/- Compare of vectors: the program's and the reference's. -/
import Derived.Test.YtbkbogblbniogaaVecLess
namespace Go.Proofs.Ytbkbogblbniogaa
open Go.RowKit
set_option maxRecDepth 100000

set_option maxHeartbeats 1000000 in
theorem pVCompare_any (w : World) (a b : Vc) :
    Calls Try.prog 23 #[VecV a, VecV b] w fun e W' => e = .returned (.int .i64 (cmpV a b)) ∧ Below w.heap.size w W' := by
  have heq := fun W => equal_vec W a b
  obtain ⟨w2, rfl, b1, b2, hB0⟩ := two_boxes w a b
  by_cases hab : a = b
  · subst hab
    have HE := Lib.hid (cmpV_same a)
    rw [decide_eq_true rfl] at heq
    go_enter Try.func23, Try.ntmps23
    go_wp2_with (first
      | (refine wpList_load_vec rfl (.tmp 2) rfl rfl b1.at ?_)
      | (refine wpList_load_vec rfl (.tmp 3) rfl rfl b2.at ?_))
    go_ret
    exact ⟨by rw [HE.out]; rfl, hB0⟩
  rw [decide_eq_false hab] at heq
  have c1 := fun (W : World) (x y : Vc) => pVAtMost_any W x y
  by_cases h1 : LeV a b
  · have HE := Lib.hid (show cmpV a b = 1 by rw [cmpV_eq, if_neg hab, if_pos h1])
    clear hab
    go_enter Try.func23, Try.ntmps23
    go_wp2_with (first
      | (refine wpList_load_vec rfl (.tmp 2) rfl rfl b1.at ?_)
      | (refine wpList_load_vec rfl (.tmp 3) rfl rfl b2.at ?_))
    refine (c1 _ _ _).mono ?_
    rintro e w3 ⟨rfl, hb3⟩
    rw [decide_eq_true h1]
    go_wp2_with fail
    go_ret
    exact ⟨by rw [HE.out]; rfl, hB0.trans (hb3.mono hB0.size)⟩
  by_cases h2 : LeV b a
  · have HE := Lib.hid (show cmpV a b = 2 by rw [cmpV_eq, if_neg hab, if_neg h1, if_pos h2])
    clear hab
    go_enter Try.func23, Try.ntmps23
    go_wp2_with (first
      | (refine wpList_load_vec rfl (.tmp 2) rfl rfl b1.at ?_)
      | (refine wpList_load_vec rfl (.tmp 3) rfl rfl b2.at ?_))
    refine (c1 _ _ _).mono ?_
    rintro e w3 ⟨rfl, hb3⟩
    rw [decide_eq_false h1]
    replace b1 := b1.below hb3
    replace b2 := b2.below hb3
    go_wp2_with (first
      | (refine wpList_load_vec rfl (.tmp 2) rfl rfl b1.at ?_)
      | (refine wpList_load_vec rfl (.tmp 3) rfl rfl b2.at ?_))
    refine (c1 _ _ _).mono ?_
    rintro e w4 ⟨rfl, hb4⟩
    rw [decide_eq_true h2]
    go_wp2_with fail
    go_ret
    exact ⟨by rw [HE.out]; rfl, (hB0.trans (hb3.mono hB0.size)).trans (hb4.mono (Nat.le_trans hB0.size hb3.size))⟩
  · have HE := Lib.hid (show cmpV a b = 3 by rw [cmpV_eq, if_neg hab, if_neg h1, if_neg h2])
    clear hab
    go_enter Try.func23, Try.ntmps23
    go_wp2_with (first
      | (refine wpList_load_vec rfl (.tmp 2) rfl rfl b1.at ?_)
      | (refine wpList_load_vec rfl (.tmp 3) rfl rfl b2.at ?_))
    refine (c1 _ _ _).mono ?_
    rintro e w3 ⟨rfl, hb3⟩
    rw [decide_eq_false h1]
    replace b1 := b1.below hb3
    replace b2 := b2.below hb3
    go_wp2_with (first
      | (refine wpList_load_vec rfl (.tmp 2) rfl rfl b1.at ?_)
      | (refine wpList_load_vec rfl (.tmp 3) rfl rfl b2.at ?_))
    refine (c1 _ _ _).mono ?_
    rintro e w4 ⟨rfl, hb4⟩
    rw [decide_eq_false h2]
    go_wp2_with fail
    go_ret
    exact ⟨by rw [HE.out]; rfl, (hB0.trans (hb3.mono hB0.size)).trans (hb4.mono (Nat.le_trans hB0.size hb3.size))⟩

set_option maxHeartbeats 1000000 in
theorem r6Compare_any (w : World) (a b : Vc) :
    Calls Try.prog 24 #[VecV a, VecV b] w fun e W' => e = .returned (.int .i64 (cmpV a b)) ∧ Below w.heap.size w W' := by
  obtain ⟨w2, rfl, b1, b2, hB0⟩ := two_boxes w a b
  have c1 := fun (W : World) (x y : Vc) => r6AtMost_any W x y
  go_enter Try.func24, Try.ntmps24
  go_wp2_with (first
    | (refine wpList_load_vec rfl (.tmp 2) rfl rfl b1.at ?_)
    | (refine wpList_load_vec rfl (.tmp 2) rfl rfl b1.at ?_)
    | (refine wpList_load_vec rfl (.tmp 3) rfl rfl b2.at ?_))
  refine (c1 _ _ _).mono ?_
  rintro e w3 ⟨rfl, hb3⟩
  replace b1 := b1.below hb3
  replace b2 := b2.below hb3
  have HX := Lib.hid (show cmpV a b = if decide (LeV a b) = true then (if decide (LeV b a) = true then 0 else 1) else if decide (LeV b a) = true then 2 else 3 by simp only [decide_eq_true_eq]; rfl)
  generalize decide (LeV a b) = x at HX ⊢
  go_wp2_with (first
    | (refine wpList_load_vec rfl (.tmp 2) rfl rfl b1.at ?_)
    | (refine wpList_load_vec rfl (.tmp 3) rfl rfl b2.at ?_))
  refine (c1 _ _ _).mono ?_
  rintro e w4 ⟨rfl, hb4⟩
  generalize decide (LeV b a) = y at HX ⊢
  have hB := (hB0.trans (hb3.mono hB0.size)).trans (hb4.mono (Nat.le_trans hB0.size hb3.size))
  cases x <;> cases y
  · have HE := Lib.hid (show cmpV a b = 3 by rw [HX.out]; simp)
    clear HX
    go_wp2_with fail
    go_ret
    exact ⟨by rw [HE.out]; rfl, hB⟩
  · have HE := Lib.hid (show cmpV a b = 2 by rw [HX.out]; simp)
    clear HX
    go_wp2_with fail
    go_ret
    exact ⟨by rw [HE.out]; rfl, hB⟩
  · have HE := Lib.hid (show cmpV a b = 1 by rw [HX.out]; simp)
    clear HX
    go_wp2_with fail
    go_ret
    exact ⟨by rw [HE.out]; rfl, hB⟩
  · have HE := Lib.hid (show cmpV a b = 0 by rw [HX.out]; simp)
    clear HX
    go_wp2_with fail
    go_ret
    exact ⟨by rw [HE.out]; rfl, hB⟩
end Go.Proofs.Ytbkbogblbniogaa
