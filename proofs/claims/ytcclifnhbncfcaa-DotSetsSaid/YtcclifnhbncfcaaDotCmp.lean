/- Compare of dots: the library's, the program's and the reference's (tools/gendotcmp.py). -/
import Derived.Test.YtcclifnhbncfcaaDotCheck
import Derived.Test.YtcclifnhbncfcaaRound
namespace Go.Proofs.Ytcclifnhbncfcaa
open Go.RowKit

theorem cmpNaN_any (w : World) (a : Int) : Calls Try.prog 105 #[.int .i64 a] w fun e W' => e = .returned (.bool false) ∧ w = W' := by
  go_enter Try.func105, Try.ntmps105
  go_wp2_with fail
  go_ret
  exact ⟨by simp, rfl⟩
theorem cmpCompare_any (w : World) (a b : Int) : Calls Try.prog 71 #[.int .i64 a, .int .i64 b] w fun e W' => e = .returned (.int .i64 (cmpI a b)) ∧ w = W' := by
  have c1 := fun W x => cmpNaN_any W x
  unfold cmpI
  by_cases h1 : a < b
  · rw [if_pos h1]
    go_enter Try.func71, Try.ntmps71
    go_wp2_with fail
    refine (c1 _ _).mono ?_
    rintro e w1 ⟨rfl, rfl⟩
    go_wp2_with fail
    refine (c1 _ _).mono ?_
    rintro e w1 ⟨rfl, rfl⟩
    go_wp2_with fail
    go_ret
    exact ⟨rfl, rfl⟩
  rw [if_neg h1]
  by_cases h2 : a = b
  · subst h2
    rw [if_pos rfl]
    go_enter Try.func71, Try.ntmps71
    go_wp2_with fail
    refine (c1 _ _).mono ?_
    rintro e w1 ⟨rfl, rfl⟩
    go_wp2_with fail
    refine (c1 _ _).mono ?_
    rintro e w1 ⟨rfl, rfl⟩
    go_wp2_with fail
    go_ret
    exact ⟨rfl, rfl⟩
  rw [if_neg h2]
  have h3 : b < a := by omega
  go_enter Try.func71, Try.ntmps71
  go_wp2_with fail
  refine (c1 _ _).mono ?_
  rintro e w1 ⟨rfl, rfl⟩
  go_wp2_with fail
  refine (c1 _ _).mono ?_
  rintro e w1 ⟨rfl, rfl⟩
  go_wp2_with fail
  go_ret
  exact ⟨rfl, rfl⟩

theorem cmpOr_any (w : World) (b : Nat) (x y : Int) (hx : w.cell? ⟨b, 0, none⟩ = some (.int .i64 x)) (hy : w.cell? ⟨b, 1, none⟩ = some (.int .i64 y)) :
    Calls Try.prog 70 #[.slice (some ⟨b, 0, none⟩) 2 2] w fun e W' => e = .returned (.int .i64 (if x = 0 then y else x)) ∧ w = W' := by
  go_enter Try.func70, Try.ntmps70
  go_wp2_with fail
  go_loopw [8] (fun i wr => ∃ k : Nat, k ≤ 2 ∧ i = .int .i64 k ∧ wr = w ∧ (1 ≤ k → x = 0) ∧ (2 ≤ k → y = 0)) (fun i _ => 2 - (intOf i).toNat)
  case atStart => exact ⟨0, by omega, rfl, rfl, by omega, by omega⟩
  case round =>
    obtain ⟨k, hk, rfl, rfl, h1, h2⟩ := hrel
    rcases (by omega : k = 0 ∨ k = 1 ∨ k = 2) with rfl | rfl | rfl
    · by_cases hz : x = 0
      · go_wp2_with fail
        exact ⟨⟨1, by omega, rfl, by simp, fun _ => hz, by omega⟩, by simp [intOf]⟩
      · go_wp2_with fail
        go_ret
        exact ⟨by simp [hz], rfl⟩
    · have h1' := h1 (by omega)
      by_cases hz : y = 0
      · go_wp2_with fail
        exact ⟨⟨2, by omega, rfl, by simp, fun _ => h1', fun _ => hz⟩, by simp [intOf]⟩
      · go_wp2_with fail
        go_ret
        exact ⟨by simp [h1'], rfl⟩
    · have h1' := h1 (by omega)
      have h2' := h2 (by omega)
      go_wp2_with fail
      go_ret
      exact ⟨by simp [h2'], rfl⟩

theorem cell_on {w w' : World} {p : Addr} {v : Value} (hb : Below w.heap.size w w') (h : w.cell? p = some v) : w'.cell? p = some v := (hb.cell (World.block_lt_of_cell? _ _ h)).trans h
set_option maxHeartbeats 1000000 in
theorem pDCompare_any (w : World) (s c s' c' : Int) :
    Calls Try.prog 44 #[DotV s c, DotV s' c'] w fun e W' => e = .returned (.int .i64 (cmpD s c s' c')) ∧ Below w.heap.size w W' := by
  have hB : Below w.heap.size w ((w.alloc (.cells #[.int .i64 s, .int .i64 c] 38)).alloc (.cells #[.int .i64 s', .int .i64 c'] 38)) := ((Below.refl _ w).alloc (Nat.le_refl _) _).alloc (by rw [World.size_alloc]; omega) _
  have c1 := fun W x y => cmpCompare_any W x y
  have c2 : ∀ (W : World) (b : Nat), W.cell? ⟨b, 0, none⟩ = some (.int .i64 (cmpI s s')) → W.cell? ⟨b, 1, none⟩ = some (.int .i64 (cmpI c c')) → Calls Try.prog 70 #[.slice (some ⟨b, 0, none⟩) 2 2] W fun e W' => e = .returned (.int .i64 (cmpD s c s' c')) ∧ W = W' := fun W b h h' => cmpOr_any W b _ _ h h'
  have g1 : ((w.alloc (.cells #[.int .i64 s, .int .i64 c] 38)).alloc (.cells #[.int .i64 s', .int .i64 c'] 38)).cell? ⟨w.heap.size, 0, none⟩ = some (.int .i64 s) := by go_simp
  have g2 : ((w.alloc (.cells #[.int .i64 s, .int .i64 c] 38)).alloc (.cells #[.int .i64 s', .int .i64 c'] 38)).cell? ⟨w.heap.size, 1, none⟩ = some (.int .i64 c) := by go_simp
  have g3 : ((w.alloc (.cells #[.int .i64 s, .int .i64 c] 38)).alloc (.cells #[.int .i64 s', .int .i64 c'] 38)).cell? ⟨w.heap.size + 1, 0, none⟩ = some (.int .i64 s') := by go_simp
  have g4 : ((w.alloc (.cells #[.int .i64 s, .int .i64 c] 38)).alloc (.cells #[.int .i64 s', .int .i64 c'] 38)).cell? ⟨w.heap.size + 1, 1, none⟩ = some (.int .i64 c') := by go_simp
  go_enter Try.func44, Try.ntmps44
  go_wp2_with fail
  generalize (w.alloc (.cells #[.int .i64 s, .int .i64 c] 38)).alloc (.cells #[.int .i64 s', .int .i64 c'] 38) = W0 at *
  refine wp_held (fun W1 => Below W0.heap.size W0 W1) (by kernel_rfl) ?_
  have hS : Below W0.heap.size W0 W0.drew := (Below.refl _ W0).drew
  refine wpAnyH_next (i := 0) (v := .pointer (some ⟨w.heap.size, 0, none⟩)) rfl (by kernel_rfl) (by kernel_rfl) (by kernel_rfl) (fun _ _ _ h => h) (by kernel_rfl) (fun W1 hW1 => by have e1 := cell_on hW1 g1; have e2 := cell_on hW1 g2; have e3 := cell_on hW1 g3; have e4 := cell_on hW1 g4; go_simp) hS (fun a' ha' => ?_)
  simp only [Act.put, List.getElem_toArray, List.getElem_cons_zero, List.setIfInBounds_toArray, List.set_cons_succ, List.set_cons_zero] at ha'
  subst ha'
  refine wpAnyH_next (i := 1) (v := .int .i64 s) rfl (by kernel_rfl) (by kernel_rfl) (by kernel_rfl) (fun _ _ _ h => h) (by kernel_rfl) (fun W1 hW1 => by have e1 := cell_on hW1 g1; have e2 := cell_on hW1 g2; have e3 := cell_on hW1 g3; have e4 := cell_on hW1 g4; go_simp) hS (fun a' ha' => ?_)
  simp only [Act.put, List.getElem_toArray, List.getElem_cons_succ, List.getElem_cons_zero, List.setIfInBounds_toArray, List.set_cons_succ, List.set_cons_zero] at ha'
  subst ha'
  refine wpAnyH_next (i := 2) (v := .pointer (some ⟨w.heap.size + 1, 0, none⟩)) rfl (by kernel_rfl) (by kernel_rfl) (by kernel_rfl) (fun _ _ _ h => h) (by kernel_rfl) (fun W1 hW1 => by have e1 := cell_on hW1 g1; have e2 := cell_on hW1 g2; have e3 := cell_on hW1 g3; have e4 := cell_on hW1 g4; go_simp) hS (fun a' ha' => ?_)
  simp only [Act.put, List.getElem_toArray, List.getElem_cons_succ, List.getElem_cons_zero, List.setIfInBounds_toArray, List.set_cons_succ, List.set_cons_zero] at ha'
  subst ha'
  refine wpAnyH_next (i := 3) (v := .int .i64 s') rfl (by kernel_rfl) (by kernel_rfl) (by kernel_rfl) (fun _ _ _ h => h) (by kernel_rfl) (fun W1 hW1 => by have e1 := cell_on hW1 g1; have e2 := cell_on hW1 g2; have e3 := cell_on hW1 g3; have e4 := cell_on hW1 g4; go_simp) hS (fun a' ha' => ?_)
  simp only [Act.put, List.getElem_toArray, List.getElem_cons_succ, List.getElem_cons_zero, List.setIfInBounds_toArray, List.set_cons_succ, List.set_cons_zero] at ha'
  subst ha'
  refine wpAnyH_next (i := 5) (v := .pointer (some ⟨w.heap.size, 1, none⟩)) rfl (by kernel_rfl) (by kernel_rfl) (by kernel_rfl) (fun _ _ _ h => h) (by kernel_rfl) (fun W1 hW1 => by have e1 := cell_on hW1 g1; have e2 := cell_on hW1 g2; have e3 := cell_on hW1 g3; have e4 := cell_on hW1 g4; go_simp) hS (fun a' ha' => ?_)
  simp only [Act.put, List.getElem_toArray, List.getElem_cons_succ, List.getElem_cons_zero, List.setIfInBounds_toArray, List.set_cons_succ, List.set_cons_zero] at ha'
  subst ha'
  refine wpAnyH_next (i := 6) (v := .int .i64 c) rfl (by kernel_rfl) (by kernel_rfl) (by kernel_rfl) (fun _ _ _ h => h) (by kernel_rfl) (fun W1 hW1 => by have e1 := cell_on hW1 g1; have e2 := cell_on hW1 g2; have e3 := cell_on hW1 g3; have e4 := cell_on hW1 g4; go_simp) hS (fun a' ha' => ?_)
  simp only [Act.put, List.getElem_toArray, List.getElem_cons_succ, List.getElem_cons_zero, List.setIfInBounds_toArray, List.set_cons_succ, List.set_cons_zero] at ha'
  subst ha'
  refine wpAnyH_next (i := 7) (v := .pointer (some ⟨w.heap.size + 1, 1, none⟩)) rfl (by kernel_rfl) (by kernel_rfl) (by kernel_rfl) (fun _ _ _ h => h) (by kernel_rfl) (fun W1 hW1 => by have e1 := cell_on hW1 g1; have e2 := cell_on hW1 g2; have e3 := cell_on hW1 g3; have e4 := cell_on hW1 g4; go_simp) hS (fun a' ha' => ?_)
  simp only [Act.put, List.getElem_toArray, List.getElem_cons_succ, List.getElem_cons_zero, List.setIfInBounds_toArray, List.set_cons_succ, List.set_cons_zero] at ha'
  subst ha'
  refine wpAnyH_next (i := 8) (v := .int .i64 c') rfl (by kernel_rfl) (by kernel_rfl) (by kernel_rfl) (fun _ _ _ h => h) (by kernel_rfl) (fun W1 hW1 => by have e1 := cell_on hW1 g1; have e2 := cell_on hW1 g2; have e3 := cell_on hW1 g3; have e4 := cell_on hW1 g4; go_simp) hS (fun a' ha' => ?_)
  simp only [Act.put, List.getElem_toArray, List.getElem_cons_succ, List.getElem_cons_zero, List.setIfInBounds_toArray, List.set_cons_succ, List.set_cons_zero] at ha'
  subst ha'
  refine wpAnyH_one (i := 4) (by kernel_rfl) rfl rfl (fun K hK => ?_)
  unfold Oper.wp
  go_simp
  refine (c1 _ _ _).mono ?_
  rintro e w1 ⟨rfl, rfl⟩
  refine hK _ _ hS ?_
  clear hK K
  refine wpAnyH_one (i := 9) (by kernel_rfl) rfl rfl (fun K hK => ?_)
  unfold Oper.wp
  go_simp
  refine (c1 _ _ _).mono ?_
  rintro e w1 ⟨rfl, rfl⟩
  refine hK _ _ hS ?_
  clear hK K
  refine wpAnyH_one (i := 10) (by kernel_rfl) rfl rfl (fun K hK => ?_)
  unfold Oper.wp
  go_simp
  have hS1 : Below W0.heap.size W0 (W0.alloc (.cells #[.int .i64 (cmpI s s'), .int .i64 (cmpI c c')] 3)).drew := ((Below.refl _ W0).alloc (Nat.le_refl _) _).drew
  refine hK _ _ hS1 ?_
  clear hK K
  refine wpAnyH_one (i := 11) (by kernel_rfl) rfl rfl (fun K hK => ?_)
  unfold Oper.wp
  go_simp
  refine (c2 _ _ (by go_simp) (by go_simp)).mono ?_
  rintro e w1 ⟨rfl, rfl⟩
  refine hK _ _ hS1 ?_
  clear hK K
  refine wpAnyH_one (i := 12) (by kernel_rfl) rfl rfl (fun K hK => ?_)
  unfold Oper.wp
  go_simp
  refine hK _ _ hS1 ?_
  clear hK K
  refine wpAnyH_fin (by kernel_rfl) ?_ _
  go_wp2_with fail
  go_ret
  refine ⟨?_, ?_⟩
  · first | rfl | (unfold cmpD; rfl) | (simp [cmpD]; done)
  · first | exact hB.trans (hS1.mono hB.size)



set_option maxHeartbeats 1000000 in
theorem r5Compare_any (w : World) (s c s' c' : Int) :
    Calls Try.prog 72 #[DotV s c, DotV s' c'] w fun e W' => e = .returned (.int .i64 (cmpD s c s' c')) ∧ Below w.heap.size w W' := by
  have hB : Below w.heap.size w ((w.alloc (.cells #[.int .i64 s, .int .i64 c] 38)).alloc (.cells #[.int .i64 s', .int .i64 c'] 38)) := ((Below.refl _ w).alloc (Nat.le_refl _) _).alloc (by rw [World.size_alloc]; omega) _
  rcases (by omega : s < s' ∨ s' < s ∨ s = s') with h1 | h1 | h1
  · have hv : cmpD s c s' c' = -1 := by simp [cmpD, cmpI, h1]
    rw [hv]
    go_enter Try.func72, Try.ntmps72
    go_wp2_with fail
    go_ret
    exact ⟨rfl, hB⟩
  · have hv : cmpD s c s' c' = 1 := by
      unfold cmpD cmpI
      rw [if_neg (by omega), if_neg (by omega), if_neg (by omega)]
    have h2 : ¬ s < s' := by omega
    have h3 : ¬ s = s' := by omega
    rw [hv]
    go_enter Try.func72, Try.ntmps72
    go_wp2_with fail
    go_ret
    exact ⟨rfl, hB⟩
  · subst h1
    have h2 : ¬ s < s := by omega
    have hv : cmpD s c s c' = cmpI c c' := by
      unfold cmpD cmpI
      simp
    rw [hv]
    unfold cmpI
    by_cases h3 : c < c'
    · rw [if_pos h3]
      go_enter Try.func72, Try.ntmps72
      go_wp2_with fail
      go_ret
      exact ⟨rfl, hB⟩
    rw [if_neg h3]
    by_cases h4 : c = c'
    · subst h4
      rw [if_pos rfl]
      go_enter Try.func72, Try.ntmps72
      go_wp2_with fail
      go_ret
      exact ⟨rfl, hB⟩
    rw [if_neg h4]
    go_enter Try.func72, Try.ntmps72
    go_wp2_with fail
    go_ret
    exact ⟨rfl, hB⟩
end Go.Proofs.Ytcclifnhbncfcaa
