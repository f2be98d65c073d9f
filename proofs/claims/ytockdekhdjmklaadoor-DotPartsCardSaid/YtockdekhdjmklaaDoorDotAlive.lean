/- The chapter's first examples hold of the program. -/
import Derived.Test.YtockdekhdjmklaaDoorDotSet
import Derived.Test.YtockdekhdjmklaaDoorDotSame
import Derived.Test.YtockdekhdjmklaaDoorDotEnc
import Derived.Test.YtockdekhdjmklaaDoorDotText
namespace Go.Proofs.YtockdekhdjmklaaDoor
open Go.RowKit

theorem enc3 : encD 3 300 = [3, 172, 2] := by
  rw [encD, if_pos (by unfold DotOk; omega)]
  decide +kernel
theorem text3 : textD 3 300 = [51, 46, 51, 48, 48] := by
  rw [textD, if_pos (by unfold DotOk; omega)]
  decide +kernel
theorem all3 : ([(1, 2), (0, 5), (1, 2)] : List (Int × Int)).all okX = true := by
  simp [okX, DotOk]
theorem set3 : setE cmpX [(1, 2), (0, 5), (1, 2)] = [(0, 5), (1, 2)] := by decide +kernel
set_option maxRecDepth 100000 in
set_option maxHeartbeats 1000000 in
theorem alive5_any (w : World) (hT : Tab w) : Calls Tryd.prog 29 #[] w fun e W' => e = .returned (.bool true) ∧ Below w.heap.size w W' := by
  have c0 := fun W s c => of5_any W s c
  have c1 := fun W => pDEncode_any W 3 300
  have c2 := fun W v h => pDSet_any W v [(1, 2), (0, 5), (1, 2)] h (by simp)
  have c3 := fun W h => pDText_tab W 3 300 h
  rw [enc3, checkD_ok (show DotOk 3 300 by unfold DotOk; omega)] at c1
  rw [all3, if_pos rfl, if_pos rfl, set3] at c2
  rw [text3] at c3
  have c4 := fun W v v' h h' => r5Same_any W v v' [(0, 5), (1, 2)] [(0, 5), (1, 2)] h h' (by simp) (by simp)
  rw [decide_eq_true rfl] at c4
  go_enter Tryd.func29, Tryd.ntmps29
  go_wp2_with fail
  refine (c0 _ _ _).mono ?_
  rintro e w1 ⟨rfl, hb1⟩
  go_wp2_with fail
  refine (c1 _).mono ?_
  rintro e w2 ⟨x, rfl, hx, hb2⟩
  have hB2 := hb1.trans (hb2.mono hb1.size)
  clear hb1 hb2 c1
  have HX := Lib.hid hx
  obtain ⟨A, c, rfl, _⟩ := hx.form
  clear hx
  go_wp2_with fail
  refine (c0 _ _ _).mono ?_
  rintro e w3 ⟨rfl, hb3⟩
  go_wp2_with fail
  refine (c0 _ _ _).mono ?_
  rintro e w4 ⟨rfl, hb4⟩
  go_wp2_with fail
  refine (c0 _ _ _).mono ?_
  rintro e w5 ⟨rfl, hb5⟩
  go_wp2_with fail
  refine (c2 _ _ (Es.built w5 [(1, 2), (0, 5), (1, 2)] 23 rfl)).mono ?_
  rintro e w6 ⟨v6, rfl, hn6, hb6⟩
  have hB3 := hB2.trans (hb3.mono hB2.size)
  have hB4 := hB3.trans (hb4.mono hB3.size)
  have hB5 := hB4.trans (hb5.mono hB4.size)
  have hb5' : Below w5.heap.size w5 (w5.alloc (.cells #[.int .i64 1, .int .i64 2, .int .i64 0, .int .i64 5, .int .i64 1, .int .i64 2] 23)) := (Below.refl _ w5).alloc (Nat.le_refl _) _
  have hb6' := hb5'.trans (hb6.mono hb5'.size)
  have hB6 := hB5.trans (hb6'.mono hB5.size)
  have hx6 := (((HX.out.below hb3).below hb4).below hb5).below hb6'
  have hcv : (convert 24 9 (.slice A 3 c)).run Tryd.prog w6 = .ok (Str [3, 172, 2]) w6 := run_string_bs (P := Tryd.prog) w6 24 9 5 Tryd.underlying24 Tryd.underlying5 Tryd.underlying9 hx6
  obtain ⟨A6, k6, rfl, _⟩ := hn6.is.form
  have HN := Lib.hid hn6.is
  have hT6 := hT.below hB6
  have HT := Lib.hid hT6
  clear hx6 hn6 hb3 hb4 hb5 hb5' hb6 hb6' hB2 hB3 hB4 hB5 HX c2 hT hT6
  go_wp2_with fail
  refine (c0 _ _ _).mono ?_
  rintro e w7 ⟨rfl, hb7⟩
  have hB7 := hB6.trans (hb7.mono hB6.size)
  go_wp2_with fail
  refine (c3 _ (HT.out.below hb7)).mono ?_
  rintro e w8 ⟨rfl, hb8⟩
  have hB8 := hB7.trans (hb8.mono hB7.size)
  go_wp2_with fail
  refine (c0 _ _ _).mono ?_
  rintro e w9 ⟨rfl, hb9⟩
  have hB9 := hB8.trans (hb9.mono hB8.size)
  go_wp2_with fail
  refine (c0 _ _ _).mono ?_
  rintro e wa ⟨rfl, hba⟩
  have hBa := hB9.trans (hba.mono hB9.size)
  have hba' : Below wa.heap.size wa (wa.alloc (.cells #[.int .i64 0, .int .i64 5, .int .i64 1, .int .i64 2] 23)) := (Below.refl _ wa).alloc (Nat.le_refl _) _
  have HN' := Lib.hid (((((HN.out.below hb7).below hb8).below hb9).below hba).below hba')
  clear hb7 hb8 hb9 hba hB6 hB7 hB8 hB9
  go_wp2_with fail
  refine (c4 _ _ _ HN'.out (Es.built wa [(0, 5), (1, 2)] 23 rfl)).mono ?_
  rintro e wb ⟨rfl, hbb⟩
  have hbb' := hba'.trans (hbb.mono hba'.size)
  go_wp2_with fail
  go_ret
  exact ⟨rfl, hBa.trans (hbb'.mono hBa.size)⟩
end Go.Proofs.YtockdekhdjmklaaDoor
