/- The walk of DotOrder (tools/genorder.py). -/
import Derived.Test.YtockdekhdjmklaaDoorDotAlive
import Derived.Test.YtockdekhdjmklaaDoorDotHasX
import Derived.Deep.CutRange
namespace Go.Proofs.YtockdekhdjmklaaDoor
open Go.RowKit

theorem putE_len {α : Type} [DecidableEq α] (cf : α → α → Int) (out : List α) (x : α) : (putE cf out x).length ≤ out.length + 1 := by
  unfold putE insE
  split
  · omega
  · have := congrArg List.length (List.takeWhile_append_dropWhile (p := fun y => decide (cf y x < 0)) (l := out))
    simp only [List.length_append, List.length_singleton] at *
    omega
theorem foldE_len {α : Type} [DecidableEq α] (cf : α → α → Int) : ∀ (l out : List α), (l.foldl (putE cf) out).length ≤ l.length + out.length
  | [], out => by simp
  | a :: l, out => by
    have h1 := foldE_len cf l (putE cf out a)
    have h2 := putE_len cf out a
    simp only [List.foldl_cons, List.length_cons]
    omega
theorem setE_len {α : Type} [DecidableEq α] (cf : α → α → Int) (l : List α) : (setE cf l).length ≤ l.length := by
  have := foldE_len cf l []
  simpa [setE] using this
theorem rises_next {l : List (Int × Int)} (h : Rises cmpX l) {k : Nat} {x y : Int × Int} (hx : l[k]? = some x) (hy : l[k + 1]? = some y) : cmpX x y = -1 := by
  obtain ⟨h1, rfl⟩ := List.getElem?_eq_some_iff.1 hx
  obtain ⟨h2, rfl⟩ := List.getElem?_eq_some_iff.1 hy
  have h3 := List.pairwise_iff_getElem.1 h k (k + 1) h1 h2 (by omega)
  have h4 := cmpX_val l[k] l[k + 1]
  omega
set_option maxRecDepth 100000 in
set_option maxHeartbeats 4000000 in
theorem order_arg (w : World) (p q p' q' p2 q2 : Int) (Ab : Option Addr) (cb : Nat) (l : List (Int × Int)) (hl : Ds w (.slice Ab l.length cb) l) (hT : Tab w) :
    Calls Tryd.prog 7 #[DotV p q, DotV p' q', DotV p2 q2, .slice Ab l.length cb] w fun e W' => e = .returned (.bool true) ∧ Below w.heap.size w W' := by
  have hB0 : Below w.heap.size w (((w.alloc (.cells #[.int .i64 p, .int .i64 q] 23)).alloc (.cells #[.int .i64 p', .int .i64 q'] 23)).alloc (.cells #[.int .i64 p2, .int .i64 q2] 23)) := (((Below.refl _ w).alloc (Nat.le_refl _) _).alloc (by rw [World.size_alloc]; omega) _).alloc (by rw [World.size_alloc, World.size_alloc]; omega) _
  have g1 : (((w.alloc (.cells #[.int .i64 p, .int .i64 q] 23)).alloc (.cells #[.int .i64 p', .int .i64 q'] 23)).alloc (.cells #[.int .i64 p2, .int .i64 q2] 23)).cell? ⟨w.heap.size, 0, none⟩ = some (.int .i64 p) := by go_simp
  have g2 : (((w.alloc (.cells #[.int .i64 p, .int .i64 q] 23)).alloc (.cells #[.int .i64 p', .int .i64 q'] 23)).alloc (.cells #[.int .i64 p2, .int .i64 q2] 23)).cell? ⟨w.heap.size, 1, none⟩ = some (.int .i64 q) := by go_simp
  have g3 : (((w.alloc (.cells #[.int .i64 p, .int .i64 q] 23)).alloc (.cells #[.int .i64 p', .int .i64 q'] 23)).alloc (.cells #[.int .i64 p2, .int .i64 q2] 23)).cell? ⟨w.heap.size + 1, 0, none⟩ = some (.int .i64 p') := by go_simp
  have g4 : (((w.alloc (.cells #[.int .i64 p, .int .i64 q] 23)).alloc (.cells #[.int .i64 p', .int .i64 q'] 23)).alloc (.cells #[.int .i64 p2, .int .i64 q2] 23)).cell? ⟨w.heap.size + 1, 1, none⟩ = some (.int .i64 q') := by go_simp
  have g5 : (((w.alloc (.cells #[.int .i64 p, .int .i64 q] 23)).alloc (.cells #[.int .i64 p', .int .i64 q'] 23)).alloc (.cells #[.int .i64 p2, .int .i64 q2] 23)).cell? ⟨w.heap.size + 2, 0, none⟩ = some (.int .i64 p2) := by go_simp
  have g6 : (((w.alloc (.cells #[.int .i64 p, .int .i64 q] 23)).alloc (.cells #[.int .i64 p', .int .i64 q'] 23)).alloc (.cells #[.int .i64 p2, .int .i64 q2] 23)).cell? ⟨w.heap.size + 2, 1, none⟩ = some (.int .i64 q2) := by go_simp
  have hT0 := hT.below hB0
  have hl0 := hl.below hB0
  go_enter Tryd.func7, Tryd.ntmps7
  go_wp2_with fail
  generalize (((w.alloc (.cells #[.int .i64 p, .int .i64 q] 23)).alloc (.cells #[.int .i64 p', .int .i64 q'] 23)).alloc (.cells #[.int .i64 p2, .int .i64 q2] 23)) = W0 at *
  refine (alive5_any W0 hT0).mono ?_
  rintro e w1 ⟨rfl, hb1⟩
  have hB1 := hB0.trans (hb1.mono hB0.size)
  replace g1 := cell_on hb1 g1
  replace g2 := cell_on hb1 g2
  replace g3 := cell_on hb1 g3
  replace g4 := cell_on hb1 g4
  replace g5 := cell_on hb1 g5
  replace g6 := cell_on hb1 g6
  have HL1 := Lib.hid (hl0.below hb1)
  clear hT hl hT0 hl0 hb1 hB0
  by_cases hlen : 40 < l.length
  case pos =>
    have d1 : decide (40 < (l.length : Int)) = true := by simp; omega
    go_wp2_with fail
    go_ret
    exact ⟨rfl, hB1⟩
  have d1 : decide (40 < (l.length : Int)) = false := by simp; omega
  go_wp2_with fail
  refine wp_held (fun W1 => Below w1.heap.size w1 W1) (by kernel_rfl) ?_
  have hS0 : Below w1.heap.size w1 w1.drew := (Below.refl _ w1).drew
  refine wpAnyH_next (i := 0) (v := DotV p q) rfl (by kernel_rfl) (by kernel_rfl) (by kernel_rfl) (fun _ _ _ h => h) (by kernel_rfl) (fun W1 hW1 => by have e1 := cell_on hW1 g1; have e2 := cell_on hW1 g2; go_simp; done) hS0 (fun a' ha' => ?_)
  simp only [Act.put, List.getElem_toArray, List.getElem_cons_succ, List.getElem_cons_zero, List.setIfInBounds_toArray, List.set_cons_succ, List.set_cons_zero] at ha'
  subst ha'
  refine wpAnyH_next (i := 1) (v := DotV p' q') rfl (by kernel_rfl) (by kernel_rfl) (by kernel_rfl) (fun _ _ _ h => h) (by kernel_rfl) (fun W1 hW1 => by have e1 := cell_on hW1 g3; have e2 := cell_on hW1 g4; go_simp; done) hS0 (fun a' ha' => ?_)
  simp only [Act.put, List.getElem_toArray, List.getElem_cons_succ, List.getElem_cons_zero, List.setIfInBounds_toArray, List.set_cons_succ, List.set_cons_zero] at ha'
  subst ha'
  refine wpAnyH_next (i := 3) (v := DotV p' q') rfl (by kernel_rfl) (by kernel_rfl) (by kernel_rfl) (fun _ _ _ h => h) (by kernel_rfl) (fun W1 hW1 => by have e1 := cell_on hW1 g3; have e2 := cell_on hW1 g4; go_simp; done) hS0 (fun a' ha' => ?_)
  simp only [Act.put, List.getElem_toArray, List.getElem_cons_succ, List.getElem_cons_zero, List.setIfInBounds_toArray, List.set_cons_succ, List.set_cons_zero] at ha'
  subst ha'
  refine wpAnyH_next (i := 4) (v := DotV p2 q2) rfl (by kernel_rfl) (by kernel_rfl) (by kernel_rfl) (fun _ _ _ h => h) (by kernel_rfl) (fun W1 hW1 => by have e1 := cell_on hW1 g5; have e2 := cell_on hW1 g6; go_simp; done) hS0 (fun a' ha' => ?_)
  simp only [Act.put, List.getElem_toArray, List.getElem_cons_succ, List.getElem_cons_zero, List.setIfInBounds_toArray, List.set_cons_succ, List.set_cons_zero] at ha'
  subst ha'
  refine wpAnyH_next (i := 6) (v := DotV p q) rfl (by kernel_rfl) (by kernel_rfl) (by kernel_rfl) (fun _ _ _ h => h) (by kernel_rfl) (fun W1 hW1 => by have e1 := cell_on hW1 g1; have e2 := cell_on hW1 g2; go_simp; done) hS0 (fun a' ha' => ?_)
  simp only [Act.put, List.getElem_toArray, List.getElem_cons_succ, List.getElem_cons_zero, List.setIfInBounds_toArray, List.set_cons_succ, List.set_cons_zero] at ha'
  subst ha'
  refine wpAnyH_next (i := 7) (v := DotV p2 q2) rfl (by kernel_rfl) (by kernel_rfl) (by kernel_rfl) (fun _ _ _ h => h) (by kernel_rfl) (fun W1 hW1 => by have e1 := cell_on hW1 g5; have e2 := cell_on hW1 g6; go_simp; done) hS0 (fun a' ha' => ?_)
  simp only [Act.put, List.getElem_toArray, List.getElem_cons_succ, List.getElem_cons_zero, List.setIfInBounds_toArray, List.set_cons_succ, List.set_cons_zero] at ha'
  subst ha'
  refine wpAnyH_want (i := 2) (by kernel_rfl) rfl (by kernel_rfl) (fun K hK => ?_)
  unfold Oper.wp
  go_simp
  refine (pDCompare_any _ p q p' q').mono ?_
  rintro e y1 ⟨rfl, hy1⟩
  have hSy1 : Below w1.heap.size w1 y1 := hS0.trans (hy1.mono hS0.size)
  clear hy1
  refine hK _ _ hSy1 ?_
  clear hK K
  refine wpAnyH_want (i := 5) (by kernel_rfl) rfl (by kernel_rfl) (fun K hK => ?_)
  unfold Oper.wp
  go_simp
  refine (pDCompare_any _ p' q' p2 q2).mono ?_
  rintro e y2 ⟨rfl, hy2⟩
  have hSy2 : Below w1.heap.size w1 y2 := hSy1.trans (hy2.mono hSy1.size)
  clear hy2
  refine hK _ _ hSy2 ?_
  clear hK K
  refine wpAnyH_want (i := 8) (by kernel_rfl) rfl (by kernel_rfl) (fun K hK => ?_)
  unfold Oper.wp
  go_simp
  refine (pDCompare_any _ p q p2 q2).mono ?_
  rintro e y3 ⟨rfl, hy3⟩
  have hSy3 : Below w1.heap.size w1 y3 := hSy2.trans (hy3.mono hSy2.size)
  clear hy3
  refine hK _ _ hSy3 ?_
  clear hK K
  refine wpAnyH_next (i := 9) (v := .int .i64 (cmpD p q p' q')) rfl (by kernel_rfl) (by kernel_rfl) (by kernel_rfl) (fun _ _ _ h => h) (by kernel_rfl) (fun W1 hW1 => by go_simp; done) hSy3 (fun a' ha' => ?_)
  simp only [Act.put, List.getElem_toArray, List.getElem_cons_succ, List.getElem_cons_zero, List.setIfInBounds_toArray, List.set_cons_succ, List.set_cons_zero] at ha'
  subst ha'
  refine wpAnyH_next (i := 10) (v := .int .i64 (cmpD p' q' p2 q2)) rfl (by kernel_rfl) (by kernel_rfl) (by kernel_rfl) (fun _ _ _ h => h) (by kernel_rfl) (fun W1 hW1 => by go_simp; done) hSy3 (fun a' ha' => ?_)
  simp only [Act.put, List.getElem_toArray, List.getElem_cons_succ, List.getElem_cons_zero, List.setIfInBounds_toArray, List.set_cons_succ, List.set_cons_zero] at ha'
  subst ha'
  refine wpAnyH_next (i := 11) (v := .int .i64 (cmpD p q p2 q2)) rfl (by kernel_rfl) (by kernel_rfl) (by kernel_rfl) (fun _ _ _ h => h) (by kernel_rfl) (fun W1 hW1 => by go_simp; done) hSy3 (fun a' ha' => ?_)
  simp only [Act.put, List.getElem_toArray, List.getElem_cons_succ, List.getElem_cons_zero, List.setIfInBounds_toArray, List.set_cons_succ, List.set_cons_zero] at ha'
  subst ha'
  refine wpAnyH_fin (by kernel_rfl) ?_ _
  have hB4 := hB1.trans (hSy3.mono hB1.size)
  replace g1 := cell_on hSy3 g1
  replace g2 := cell_on hSy3 g2
  replace g3 := cell_on hSy3 g3
  replace g4 := cell_on hSy3 g4
  have HL4 := Lib.hid (HL1.out.below hSy3)
  have HX := Lib.hid (show cmpD p' q' p q = -cmpD p q p' q' from totD.neg (p, q) (p', q'))
  have hxv : cmpD p q p' q' = -1 ∨ cmpD p q p' q' = 0 ∨ cmpD p q p' q' = 1 := cmpX_val (p, q) (p', q')
  have hx0 : cmpD p q p' q' = 0 ↔ p = p' ∧ q = q' := cmpX_zero (p, q) (p', q')
  have hxt : cmpD p q p' q' < 0 → cmpD p' q' p2 q2 < 0 → cmpD p q p2 q2 < 0 := totD.trans (p, q) (p', q') (p2, q2)
  have hxe : cmpD p q p' q' = 0 → cmpD p q p2 q2 = cmpD p' q' p2 q2 := fun h => by obtain ⟨rfl, rfl⟩ := hx0.1 h; rfl
  have cba := fun W => pDCompare_any W p' q' p q
  rw [HX.out] at cba
  clear hS0 hSy1 hSy2 hSy3 HL1 hB1 g5 g6 HX
  generalize cmpD p q p' q' = X at *
  generalize cmpD p' q' p2 q2 = Y at *
  generalize cmpD p q p2 q2 = Z at *
  go_upto_region 5 with fail
  go_cut [70] from 36 to 70 (fun v wc => v = .bool false ∧ Below y3.heap.size y3 wc)
  case first =>
    rcases hxv with rfl | rfl | rfl
    · have hab : ¬ (p = p' ∧ q = q') := fun h => by have := hx0.2 h; omega
      have hz := hxt (by omega)
      clear hx0 hxt hxe
      have hc : (¬ p = p') ∨ (p = p' ∧ ¬ q = q') := by
        by_cases h : p = p'
        · exact .inr ⟨h, fun h' => hab ⟨h, h'⟩⟩
        · exact .inl h
      clear hab
      by_cases hy : Y < 0
      · replace hz := hz hy
        have hzb : decide (0 ≤ Z) = false := by simp; omega
        rcases hc with hc | ⟨rfl, hc⟩
        all_goals go_wp2_with fail
        all_goals refine (cba _).mono ?_
        all_goals rintro e w5 ⟨rfl, hb5⟩
        all_goals replace g1 := cell_on hb5 g1
        all_goals replace g2 := cell_on hb5 g2
        all_goals replace g3 := cell_on hb5 g3
        all_goals replace g4 := cell_on hb5 g4
        all_goals go_wp2_with fail
        all_goals go_meet
        all_goals exact ⟨rfl, hb5⟩
      · clear hz
        rcases hc with hc | ⟨rfl, hc⟩
        all_goals go_wp2_with fail
        all_goals refine (cba _).mono ?_
        all_goals rintro e w5 ⟨rfl, hb5⟩
        all_goals replace g1 := cell_on hb5 g1
        all_goals replace g2 := cell_on hb5 g2
        all_goals replace g3 := cell_on hb5 g3
        all_goals replace g4 := cell_on hb5 g4
        all_goals go_wp2_with fail
        all_goals go_meet
        all_goals exact ⟨rfl, hb5⟩
    · obtain ⟨rfl, rfl⟩ := hx0.1 rfl
      obtain rfl := hxe rfl
      clear hx0 hxt hxe
      go_wp2_with fail
      refine (cba _).mono ?_
      rintro e w5 ⟨rfl, hb5⟩
      replace g1 := cell_on hb5 g1
      replace g2 := cell_on hb5 g2
      replace g3 := cell_on hb5 g3
      replace g4 := cell_on hb5 g4
      go_wp2_with fail
      go_meet
      exact ⟨rfl, hb5⟩
    · have hab : ¬ (p = p' ∧ q = q') := fun h => by have := hx0.2 h; omega
      clear hx0 hxt hxe
      have hc : (¬ p = p') ∨ (p = p' ∧ ¬ q = q') := by
        by_cases h : p = p'
        · exact .inr ⟨h, fun h' => hab ⟨h, h'⟩⟩
        · exact .inl h
      clear hab
      rcases hc with hc | ⟨rfl, hc⟩
      all_goals go_wp2_with fail
      all_goals refine (cba _).mono ?_
      all_goals rintro e w5 ⟨rfl, hb5⟩
      all_goals replace g1 := cell_on hb5 g1
      all_goals replace g2 := cell_on hb5 g2
      all_goals replace g3 := cell_on hb5 g3
      all_goals replace g4 := cell_on hb5 g4
      all_goals go_wp2_with fail
      all_goals go_meet
      all_goals exact ⟨rfl, hb5⟩
  case rest =>
    obtain ⟨rfl, hbc⟩ := hcut
    have hBc := hB4.trans (hbc.mono hB4.size)
    have hLc := HL4.out.below hbc
    have HLc := Lib.hid hLc
    have cs := pDSet_any wc _ l hLc (by omega)
    have hsl := setE_len cmpX l
    obtain ⟨hsr, hsm⟩ := setE_spec totD l
    clear hxv hx0 hxt hxe g1 g2 g3 g4 hbc HL4 hB4 hLc cba
    go_wp2_with fail
    refine cs.mono ?_
    rintro e w6 ⟨v6, rfl, hn6, hb6⟩
    have hB6 := hBc.trans (hb6.mono hBc.size)
    have HL6 := Lib.hid (HLc.out.below hb6)
    clear HLc hBc hb6 cs
    cases ha : l.all okX with
    | true =>
      rw [ha] at hn6
      have hd6 := hn6.is
      simp only [if_true] at hd6
      have HM := Lib.hid (show ∀ x ∈ l, x ∈ setE cmpX l from fun x hx => (hsm x).2 hx)
      generalize setE cmpX l = S at *
      obtain ⟨A6, c6, rfl, hc6⟩ := hd6.form
      have HD6 := Lib.hid hd6
      have HR := Lib.hid hsr
      clear hn6 hd6 hsr hsm
      go_wp2_with fail
      go_loopw [78] (fun i wr => ∃ k : Nat, k ≤ S.length ∧ i = .int .i64 k ∧ Below w6.heap.size w6 wr) (fun i _ => S.length - (intOf i).toNat)
      case atStart => exact ⟨0, by omega, rfl, Below.refl _ _⟩
      case round =>
        obtain ⟨k, hk, rfl, hB⟩ := hrel
        have hBd := hB.drew
        by_cases hkl : k < S.length
        case pos =>
          cases k with
          | zero =>
            go_wp2_with fail
            refine wp_held (fun W1 => Below wr.heap.size wr W1) (by kernel_rfl) ?_
            have hS0 : Below wr.heap.size wr wr.drew := (Below.refl _ wr).drew
            refine wpAnyH_next (i := 0) (v := .int .i64 0) rfl (by kernel_rfl) (by kernel_rfl) (by kernel_rfl) (fun _ _ _ h => h) (by kernel_rfl) (fun W1 hW1 => by go_simp; done) hS0 (fun a' ha' => ?_)
            simp only [Act.put, List.getElem_toArray, List.getElem_cons_succ, List.getElem_cons_zero, List.setIfInBounds_toArray, List.set_cons_succ, List.set_cons_zero] at ha'
            subst ha'
            refine wpAnyH_next (i := 1) (v := .bool false) rfl (by kernel_rfl) (by kernel_rfl) (by kernel_rfl) (fun _ _ _ h => h) (by kernel_rfl) (fun W1 hW1 => by go_simp; done) hS0 (fun a' ha' => ?_)
            simp only [Act.put, List.getElem_toArray, List.getElem_cons_succ, List.getElem_cons_zero, List.setIfInBounds_toArray, List.set_cons_succ, List.set_cons_zero] at ha'
            subst ha'
            refine wpAnyH_next (i := 2) (v := .bool false) rfl (by kernel_rfl) (by kernel_rfl) (by kernel_rfl) (fun _ _ _ h => h) (by kernel_rfl) (fun W1 hW1 => by go_simp; done) hS0 (fun a' ha' => ?_)
            simp only [Act.put, List.getElem_toArray, List.getElem_cons_succ, List.getElem_cons_zero, List.setIfInBounds_toArray, List.set_cons_succ, List.set_cons_zero] at ha'
            subst ha'
            refine wpAnyH_skip (i := 3) rfl (by kernel_rfl) (by kernel_rfl) (by kernel_rfl) (fun _ _ _ h => h) (by kernel_rfl) hS0 (fun a' ha' => ?_)
            simp only [Act.put, List.getElem_toArray, List.getElem_cons_succ, List.getElem_cons_zero, List.setIfInBounds_toArray, List.set_cons_succ, List.set_cons_zero] at ha'
            subst ha'
            refine wpAnyH_skip (i := 4) rfl (by kernel_rfl) (by kernel_rfl) (by kernel_rfl) (fun _ _ _ h => h) (by kernel_rfl) hS0 (fun a' ha' => ?_)
            simp only [Act.put, List.getElem_toArray, List.getElem_cons_succ, List.getElem_cons_zero, List.setIfInBounds_toArray, List.set_cons_succ, List.set_cons_zero] at ha'
            subst ha'
            refine wpAnyH_skip (i := 5) rfl (by kernel_rfl) (by kernel_rfl) (by kernel_rfl) (fun _ _ _ h => h) (by kernel_rfl) hS0 (fun a' ha' => ?_)
            simp only [Act.put, List.getElem_toArray, List.getElem_cons_succ, List.getElem_cons_zero, List.setIfInBounds_toArray, List.set_cons_succ, List.set_cons_zero] at ha'
            subst ha'
            refine wpAnyH_skip (i := 6) rfl (by kernel_rfl) (by kernel_rfl) (by kernel_rfl) (fun _ _ _ h => h) (by kernel_rfl) hS0 (fun a' ha' => ?_)
            simp only [Act.put, List.getElem_toArray, List.getElem_cons_succ, List.getElem_cons_zero, List.setIfInBounds_toArray, List.set_cons_succ, List.set_cons_zero] at ha'
            subst ha'
            refine wpAnyH_skip (i := 7) rfl (by kernel_rfl) (by kernel_rfl) (by kernel_rfl) (fun _ _ _ h => h) (by kernel_rfl) hS0 (fun a' ha' => ?_)
            simp only [Act.put, List.getElem_toArray, List.getElem_cons_succ, List.getElem_cons_zero, List.setIfInBounds_toArray, List.set_cons_succ, List.set_cons_zero] at ha'
            subst ha'
            refine wpAnyH_skip (i := 8) rfl (by kernel_rfl) (by kernel_rfl) (by kernel_rfl) (fun _ _ _ h => h) (by kernel_rfl) hS0 (fun a' ha' => ?_)
            simp only [Act.put, List.getElem_toArray, List.getElem_cons_succ, List.getElem_cons_zero, List.setIfInBounds_toArray, List.set_cons_succ, List.set_cons_zero] at ha'
            subst ha'
            refine wpAnyH_skip (i := 9) rfl (by kernel_rfl) (by kernel_rfl) (by kernel_rfl) (fun _ _ _ h => h) (by kernel_rfl) hS0 (fun a' ha' => ?_)
            simp only [Act.put, List.getElem_toArray, List.getElem_cons_succ, List.getElem_cons_zero, List.setIfInBounds_toArray, List.set_cons_succ, List.set_cons_zero] at ha'
            subst ha'
            refine wpAnyH_skip (i := 10) rfl (by kernel_rfl) (by kernel_rfl) (by kernel_rfl) (fun _ _ _ h => h) (by kernel_rfl) hS0 (fun a' ha' => ?_)
            simp only [Act.put, List.getElem_toArray, List.getElem_cons_succ, List.getElem_cons_zero, List.setIfInBounds_toArray, List.set_cons_succ, List.set_cons_zero] at ha'
            subst ha'
            refine wpAnyH_skip (i := 11) rfl (by kernel_rfl) (by kernel_rfl) (by kernel_rfl) (fun _ _ _ h => h) (by kernel_rfl) hS0 (fun a' ha' => ?_)
            simp only [Act.put, List.getElem_toArray, List.getElem_cons_succ, List.getElem_cons_zero, List.setIfInBounds_toArray, List.set_cons_succ, List.set_cons_zero] at ha'
            subst ha'
            refine wpAnyH_skip (i := 12) rfl (by kernel_rfl) (by kernel_rfl) (by kernel_rfl) (fun _ _ _ h => h) (by kernel_rfl) hS0 (fun a' ha' => ?_)
            simp only [Act.put, List.getElem_toArray, List.getElem_cons_succ, List.getElem_cons_zero, List.setIfInBounds_toArray, List.set_cons_succ, List.set_cons_zero] at ha'
            subst ha'
            refine wpAnyH_skip (i := 13) rfl (by kernel_rfl) (by kernel_rfl) (by kernel_rfl) (fun _ _ _ h => h) (by kernel_rfl) hS0 (fun a' ha' => ?_)
            simp only [Act.put, List.getElem_toArray, List.getElem_cons_succ, List.getElem_cons_zero, List.setIfInBounds_toArray, List.set_cons_succ, List.set_cons_zero] at ha'
            subst ha'
            refine wpAnyH_next (i := 14) (v := .bool false) rfl (by kernel_rfl) (by kernel_rfl) (by kernel_rfl) (fun _ _ _ h => h) (by kernel_rfl) (fun W1 hW1 => by go_simp; done) hS0 (fun a' ha' => ?_)
            simp only [Act.put, List.getElem_toArray, List.getElem_cons_succ, List.getElem_cons_zero, List.setIfInBounds_toArray, List.set_cons_succ, List.set_cons_zero] at ha'
            subst ha'
            refine wpAnyH_fin (by kernel_rfl) ?_ _
            clear hS0
            generalize wr.drew = wd at *
            go_wp2_with fail
            go_roundw
            case rel => exact ⟨1, by omega, by go_num, hBd⟩
            case measure => simp [intOf]; omega
          | succ j =>
            obtain ⟨k, hkj⟩ : ∃ k, k = j + 1 := ⟨_, rfl⟩
            rw [← hkj] at hk hkl ⊢
            obtain ⟨⟨xs, xc⟩, hx⟩ : ∃ x, S[j]? = some x := ⟨_, List.getElem?_eq_getElem (by omega)⟩
            obtain ⟨⟨ys, yc⟩, hy⟩ : ∃ y, S[k]? = some y := ⟨_, List.getElem?_eq_getElem hkl⟩
            have hcm : cmpD xs xc ys yc = -1 := rises_next (x := (xs, xc)) (y := (ys, yc)) HR.out hx (by rw [← hkj]; exact hy)
            have hbx := (HD6.out.below hB).at hx
            obtain ⟨b, off, rfl, hax⟩ := hbx
            obtain ⟨b', off', he, hay⟩ := (HD6.out.below hB).at hy
            injection he with he
            injection he with e1 e2
            subst e1 e2
            have hax' : ElAt eDot wr b (off + j * 2) (xs, xc) := hax
            have hay' : ElAt eDot wr b (off + k * 2) (ys, yc) := hay
            have ccm := fun W => pDCompare_any W xs xc ys yc
            rw [hcm] at ccm
            have hkj' : (k : Int) - 1 = (j : Int) := by omega
            have dk : decide (0 < (k : Int)) = true := by simp; omega
            have b1 : (j : Int) < (S.length : Int) := by omega
            have b2 : (k : Int) < (S.length : Int) := by omega
            clear hax hay hx hy hcm hkj
            go_wp2_with fail
            refine wp_held (fun W1 => Below wr.heap.size wr W1) (by kernel_rfl) ?_
            have hS0 : Below wr.heap.size wr wr.drew := (Below.refl _ wr).drew
            refine wpAnyH_next (i := 0) (v := .int .i64 (k : Int)) rfl (by kernel_rfl) (by kernel_rfl) (by kernel_rfl) (fun _ _ _ h => h) (by kernel_rfl) (fun W1 hW1 => by go_simp; done) hS0 (fun a' ha' => ?_)
            simp only [Act.put, List.getElem_toArray, List.getElem_cons_succ, List.getElem_cons_zero, List.setIfInBounds_toArray, List.set_cons_succ, List.set_cons_zero] at ha'
            subst ha'
            refine wpAnyH_next (i := 1) (v := .bool true) rfl (by kernel_rfl) (by kernel_rfl) (by kernel_rfl) (fun _ _ _ h => h) (by kernel_rfl) (fun W1 hW1 => by go_simp; omega) hS0 (fun a' ha' => ?_)
            simp only [Act.put, List.getElem_toArray, List.getElem_cons_succ, List.getElem_cons_zero, List.setIfInBounds_toArray, List.set_cons_succ, List.set_cons_zero] at ha'
            subst ha'
            refine wpAnyH_next (i := 2) (v := .bool true) rfl (by kernel_rfl) (by kernel_rfl) (by kernel_rfl) (fun _ _ _ h => h) (by kernel_rfl) (fun W1 hW1 => by go_simp; done) hS0 (fun a' ha' => ?_)
            simp only [Act.put, List.getElem_toArray, List.getElem_cons_succ, List.getElem_cons_zero, List.setIfInBounds_toArray, List.set_cons_succ, List.set_cons_zero] at ha'
            subst ha'
            refine wpAnyH_next (i := 3) (v := .slice (some ⟨b, off, none⟩) S.length c6) rfl (by kernel_rfl) (by kernel_rfl) (by kernel_rfl) (fun _ _ _ h => h) (by kernel_rfl) (fun W1 hW1 => by go_simp; done) hS0 (fun a' ha' => ?_)
            simp only [Act.put, List.getElem_toArray, List.getElem_cons_succ, List.getElem_cons_zero, List.setIfInBounds_toArray, List.set_cons_succ, List.set_cons_zero] at ha'
            subst ha'
            refine wpAnyH_next (i := 4) (v := .int .i64 (k : Int)) rfl (by kernel_rfl) (by kernel_rfl) (by kernel_rfl) (fun _ _ _ h => h) (by kernel_rfl) (fun W1 hW1 => by go_simp; done) hS0 (fun a' ha' => ?_)
            simp only [Act.put, List.getElem_toArray, List.getElem_cons_succ, List.getElem_cons_zero, List.setIfInBounds_toArray, List.set_cons_succ, List.set_cons_zero] at ha'
            subst ha'
            refine wpAnyH_next (i := 5) (v := .int .i64 (j : Int)) rfl (by kernel_rfl) (by kernel_rfl) (by kernel_rfl) (fun _ _ _ h => h) (by kernel_rfl) (fun W1 hW1 => by go_simp; exact wrapE _ (by omega) (by omega)) hS0 (fun a' ha' => ?_)
            simp only [Act.put, List.getElem_toArray, List.getElem_cons_succ, List.getElem_cons_zero, List.setIfInBounds_toArray, List.set_cons_succ, List.set_cons_zero] at ha'
            subst ha'
            refine wpAnyH_next (i := 6) (v := .pointer (some ⟨b, off + j * 2, none⟩)) rfl (by kernel_rfl) (by kernel_rfl) (by kernel_rfl) (fun _ _ _ h => h) (by kernel_rfl) (fun W1 hW1 => by go_simp; done) hS0 (fun a' ha' => ?_)
            simp only [Act.put, List.getElem_toArray, List.getElem_cons_succ, List.getElem_cons_zero, List.setIfInBounds_toArray, List.set_cons_succ, List.set_cons_zero] at ha'
            subst ha'
            refine wpAnyH_next (i := 7) (v := DotV xs xc) rfl (by kernel_rfl) (by kernel_rfl) (by kernel_rfl) (fun _ _ _ h => h) (by kernel_rfl) (fun W1 hW1 => by exact eltDot.load (x := (xs, xc)) rfl rfl (hax'.below hW1)) hS0 (fun a' ha' => ?_)
            simp only [Act.put, List.getElem_toArray, List.getElem_cons_succ, List.getElem_cons_zero, List.setIfInBounds_toArray, List.set_cons_succ, List.set_cons_zero] at ha'
            subst ha'
            refine wpAnyH_next (i := 8) (v := .slice (some ⟨b, off, none⟩) S.length c6) rfl (by kernel_rfl) (by kernel_rfl) (by kernel_rfl) (fun _ _ _ h => h) (by kernel_rfl) (fun W1 hW1 => by go_simp; done) hS0 (fun a' ha' => ?_)
            simp only [Act.put, List.getElem_toArray, List.getElem_cons_succ, List.getElem_cons_zero, List.setIfInBounds_toArray, List.set_cons_succ, List.set_cons_zero] at ha'
            subst ha'
            refine wpAnyH_next (i := 9) (v := .int .i64 (k : Int)) rfl (by kernel_rfl) (by kernel_rfl) (by kernel_rfl) (fun _ _ _ h => h) (by kernel_rfl) (fun W1 hW1 => by go_simp; done) hS0 (fun a' ha' => ?_)
            simp only [Act.put, List.getElem_toArray, List.getElem_cons_succ, List.getElem_cons_zero, List.setIfInBounds_toArray, List.set_cons_succ, List.set_cons_zero] at ha'
            subst ha'
            refine wpAnyH_next (i := 10) (v := .pointer (some ⟨b, off + k * 2, none⟩)) rfl (by kernel_rfl) (by kernel_rfl) (by kernel_rfl) (fun _ _ _ h => h) (by kernel_rfl) (fun W1 hW1 => by go_simp; done) hS0 (fun a' ha' => ?_)
            simp only [Act.put, List.getElem_toArray, List.getElem_cons_succ, List.getElem_cons_zero, List.setIfInBounds_toArray, List.set_cons_succ, List.set_cons_zero] at ha'
            subst ha'
            refine wpAnyH_next (i := 11) (v := DotV ys yc) rfl (by kernel_rfl) (by kernel_rfl) (by kernel_rfl) (fun _ _ _ h => h) (by kernel_rfl) (fun W1 hW1 => by exact eltDot.load (x := (ys, yc)) rfl rfl (hay'.below hW1)) hS0 (fun a' ha' => ?_)
            simp only [Act.put, List.getElem_toArray, List.getElem_cons_succ, List.getElem_cons_zero, List.setIfInBounds_toArray, List.set_cons_succ, List.set_cons_zero] at ha'
            subst ha'
            refine wpAnyH_want (i := 12) (by kernel_rfl) rfl (by kernel_rfl) (fun K hK => ?_)
            unfold Oper.wp
            go_simp
            refine (ccm _).mono ?_
            rintro e y1 ⟨rfl, hy1⟩
            have hSy1 : Below wr.heap.size wr y1 := hS0.trans (hy1.mono hS0.size)
            clear hy1
            refine hK _ _ hSy1 ?_
            clear hK K
            refine wpAnyH_next (i := 13) (v := .bool false) rfl (by kernel_rfl) (by kernel_rfl) (by kernel_rfl) (fun _ _ _ h => h) (by kernel_rfl) (fun W1 hW1 => by go_simp; done) hSy1 (fun a' ha' => ?_)
            simp only [Act.put, List.getElem_toArray, List.getElem_cons_succ, List.getElem_cons_zero, List.setIfInBounds_toArray, List.set_cons_succ, List.set_cons_zero] at ha'
            subst ha'
            refine wpAnyH_next (i := 14) (v := .bool false) rfl (by kernel_rfl) (by kernel_rfl) (by kernel_rfl) (fun _ _ _ h => h) (by kernel_rfl) (fun W1 hW1 => by go_simp; done) hSy1 (fun a' ha' => ?_)
            simp only [Act.put, List.getElem_toArray, List.getElem_cons_succ, List.getElem_cons_zero, List.setIfInBounds_toArray, List.set_cons_succ, List.set_cons_zero] at ha'
            subst ha'
            refine wpAnyH_fin (by kernel_rfl) ?_ _
            have hBk := hB.trans (hSy1.mono hB.size)
            clear hS0 hSy1
            go_wp2_with fail
            go_roundw
            case rel => exact ⟨k + 1, by omega, by go_num, hBk⟩
            case measure => simp [intOf]; omega
        case neg =>
          obtain rfl : k = S.length := by omega
          have HL7 := Lib.hid (HL6.out.below hB)
          have HD7 := Lib.hid (HD6.out.below hB)
          have hB7 := hB6.trans (hB.mono hB6.size)
          clear HL6 HD6 hB6 hB hBd
          generalize wr = wx at *
          go_wp2_with fail
          go_loopw [16, 99] (fun m i w8 => ∃ k2 : Nat, k2 ≤ l.length ∧ i = .int .i64 k2 ∧ m = .int .i64 k2 ∧ Below wx.heap.size wx w8) (fun _ i _ => l.length - (intOf i).toNat)
          case atStart => exact ⟨0, by omega, rfl, rfl, Below.refl _ _⟩
          case round =>
            obtain ⟨k2, hk2, rfl, rfl, hB8⟩ := hrel
            by_cases hkl2 : k2 < l.length
            case pos =>
              obtain ⟨⟨xs, xc⟩, hx⟩ : ∃ x, l[k2]? = some x := ⟨_, List.getElem?_eq_getElem hkl2⟩
              obtain ⟨b9, off9, rfl, hax⟩ := (HL7.out.below hB8).at hx
              have hax' : ElAt eDot wr b9 (off9 + k2 * 2) (xs, xc) := hax
              have chs := pDHas_any wr _ S (xs, xc) (HD7.out.below hB8) (by first | omega | simp)
              rw [decide_eq_true (HM.out _ (List.mem_of_getElem? hx))] at chs
              have b3 : (k2 : Int) < (l.length : Int) := by omega
              clear hax hx
              go_wp2_with (refine wpLoad_dot rfl (.tmp 105) rfl rfl hax' ?_)
              refine chs.mono ?_
              rintro e w9 ⟨rfl, hb9⟩
              have hB9 := hB8.trans (hb9.mono hB8.size)
              clear hb9 chs
              go_wp2_with fail
              go_roundw
              case rel => exact ⟨k2 + 1, by omega, by go_num, by first | go_num | rfl, hB9⟩
              case measure => simp [intOf]; omega
            case neg =>
              obtain rfl : k2 = l.length := by omega
              go_wp2_with fail
              go_ret
              exact ⟨rfl, hB7.trans (hB8.mono hB7.size)⟩
    | false =>
      rw [ha] at hn6
      have hd6 := hn6.is
      have hd6' : Ds w6 v6 [] := hd6
      obtain ⟨A6, c6, rfl, hc6⟩ := hd6'.form
      have HD6 := Lib.hid hd6'
      clear hn6 hd6 hsr hsm hsl hd6'
      go_wp2_with fail
      go_loopw [78] (fun i wr => i = .int .i64 0 ∧ wr = w6) (fun _ _ => 0)
      case atStart => exact ⟨rfl, rfl⟩
      case round =>
        obtain ⟨rfl, rfl⟩ := hrel
        have hB : Below wr.heap.size wr wr := Below.refl _ _
        have HL7 := Lib.hid (HL6.out.below hB)
        have HD7 := Lib.hid (HD6.out.below hB)
        have hB7 := hB6.trans (hB.mono hB6.size)
        clear HL6 HD6 hB6 hB
        generalize wr = wx at *
        go_wp2_with fail
        go_loopw [16, 99] (fun m i w8 => ∃ k2 : Nat, k2 ≤ l.length ∧ i = .int .i64 k2 ∧ m = .int .i64 0 ∧ Below wx.heap.size wx w8) (fun _ i _ => l.length - (intOf i).toNat)
        case atStart => exact ⟨0, by omega, rfl, rfl, Below.refl _ _⟩
        case round =>
          obtain ⟨k2, hk2, rfl, rfl, hB8⟩ := hrel
          by_cases hkl2 : k2 < l.length
          case pos =>
            obtain ⟨⟨xs, xc⟩, hx⟩ : ∃ x, l[k2]? = some x := ⟨_, List.getElem?_eq_getElem hkl2⟩
            obtain ⟨b9, off9, rfl, hax⟩ := (HL7.out.below hB8).at hx
            have hax' : ElAt eDot wr b9 (off9 + k2 * 2) (xs, xc) := hax
            have chs := pDHas_any wr _ ([] : List (Int × Int)) (xs, xc) (HD7.out.below hB8) (by first | omega | simp)
            rw [decide_eq_false (by simp)] at chs
            have b3 : (k2 : Int) < (l.length : Int) := by omega
            clear hax hx
            go_wp2_with (refine wpLoad_dot rfl (.tmp 105) rfl rfl hax' ?_)
            refine chs.mono ?_
            rintro e w9 ⟨rfl, hb9⟩
            have hB9 := hB8.trans (hb9.mono hB8.size)
            clear hb9 chs
            go_wp2_with fail
            go_roundw
            case rel => exact ⟨k2 + 1, by omega, by go_num, by first | go_num | rfl, hB9⟩
            case measure => simp [intOf]; omega
          case neg =>
            obtain rfl : k2 = l.length := by omega
            go_wp2_with fail
            go_ret
            exact ⟨rfl, hB7.trans (hB8.mono hB7.size)⟩
theorem order_walk (W : World) (p q p' q' p2 q2 : Int) (v : Value) (xs : List (Int × Int)) (hbs : Ds W v xs) (_ : xs.length ≤ 9223372036854775807) (hT : Tab W) :
    Calls Tryd.prog 7 #[DotV p q, DotV p' q', DotV p2 q2, v] W fun e W' => e = .returned (.bool true) ∧ Below W.heap.size W W' := by
  obtain ⟨A, c, rfl, _⟩ := hbs.form
  exact order_arg W p q p' q' p2 q2 A c xs hbs hT
end Go.Proofs.YtockdekhdjmklaaDoor
