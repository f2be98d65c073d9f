/- The walk of VectorLattice (tools/genlattice.py). -/
import Derived.Test.YtbkbogblbniogaaVecLatticeA
import Derived.Deep.CutRange
namespace Go.Proofs.Ytbkbogblbniogaa
open Go.RowKit Go.Great
set_option maxRecDepth 100000

set_option maxHeartbeats 8000000 in
theorem lattice_walk (w : World) (a b c : Vc) :
    Calls Try.prog 6 #[VecV a, VecV b, VecV c] w fun e W' => e = .returned (.bool true) ∧ Below w.heap.size w W' := by
  have CJ := Lib.hid (fun W v h => pVMerge_any W v [a, b] h (by simp))
  have CD := Lib.hid (fun W v h => pVMeet_any W v [a, b] h (by simp))
  have CJ' := Lib.hid (fun W v h => pVMerge_any W v [b, a] h (by simp))
  have CD' := Lib.hid (fun W v h => pVMeet_any W v [b, a] h (by simp))
  have CA := Lib.hid (fun W v h => pVMerge_any W v [a, b, c] h (by simp))
  have CE := Lib.hid (fun W v h => pVMeet_any W v [a, b, c] h (by simp))
  have CA' := Lib.hid (fun W v h => pVMerge_any W v [c, joinL [a, b], a] h (by simp))
  have CE' := Lib.hid (fun W v h => pVMeet_any W v [c, meetL [a, b], a] h (by simp))
  have CS := Lib.hid (fun W v h => pVMerge_any W v [a, a] h (by simp))
  have CS' := Lib.hid (fun W v h => pVMeet_any W v [a, a] h (by simp))
  have CM := Lib.hid (fun W v h => pVMerge_any W v [a, meetL [a, b]] h (by simp))
  rw [join_comm] at CJ'
  rw [meet_comm] at CD'
  rw [join_all] at CA'
  rw [meet_all] at CE'
  rw [join_self] at CS
  rw [meet_self] at CS'
  rw [join_meet] at CM
  have L1 := Lib.hid (fun W => pVAtMost_any W a (joinL [a, b]))
  have L2 := Lib.hid (fun W => pVAtMost_any W b (joinL [a, b]))
  have L3 := Lib.hid (fun W => pVAtMost_any W (meetL [a, b]) a)
  have L4 := Lib.hid (fun W => pVAtMost_any W (meetL [a, b]) b)
  have L5 := Lib.hid (fun W => pVAtMost_any W a c)
  have L6 := Lib.hid (fun W => pVAtMost_any W b c)
  have L7 := Lib.hid (fun W => pVAtMost_any W (joinL [a, b]) c)
  have L8 := Lib.hid (fun W => pVAtMost_any W c a)
  have L9 := Lib.hid (fun W => pVAtMost_any W c b)
  have L10 := Lib.hid (fun W => pVAtMost_any W c (meetL [a, b]))
  rw [decide_eq_true (le_join_left a b)] at L1
  rw [decide_eq_true (le_join_right a b)] at L2
  rw [decide_eq_true (meet_le_left a b)] at L3
  rw [decide_eq_true (meet_le_right a b)] at L4
  rw [join_le] at L7
  rw [le_meet] at L10
  generalize decide (LeV a c) = p at L5 L7
  generalize decide (LeV c a) = s at L8 L10
  generalize decide (LeV b c) = q at L6 L7
  generalize decide (LeV c b) = r at L9 L10
  generalize joinL [a, b, c] = T at *
  generalize meetL [a, b, c] = E at *
  generalize joinL [a, b] = J at *
  generalize meetL [a, b] = D at *
  obtain ⟨w0, hw0, bA, bB, bC, hB0⟩ := three_boxes w a b c
  go_enter Try.func6, Try.ntmps6
  go_wp2_with fail
  rw [← hw0]
  clear hw0
  refine (alive6_any _).mono ?_
  rintro e w1 ⟨rfl, hb1⟩
  replace bA := bA.below hb1
  replace bB := bB.below hb1
  replace bC := bC.below hb1
  replace hB0 := hB0.trans (hb1.mono hB0.size)
  clear hb1
  go_wp2_with fail
  refine wp_drawn_tail 10 (fun i => i == 8 || i == 9) (leaves [Lv.val (VecV a), Lv.val (VecV b), Lv.vs [a, b], Lv.val (VecV J), Lv.val (VecV a), Lv.val (VecV b), Lv.vs [a, b], Lv.val (VecV D), Lv.box w1.heap.size, Lv.box w1.heap.size]) (by kernel_rfl) (leaves_st _) (by simp) (by kernel_rfl) (by kernel_rfl) (by kernel_rfl) (by kernel_rfl) ?_ ?_ ?_
  case refine_1 =>
    intro i o j b hin ho hgd
    match i, ho with
    | 0, ho => cases ho; cases hgd
    | 1, ho => cases ho; cases hgd
    | 2, ho => cases ho; cases hgd
    | 3, ho => cases ho; cases hgd
    | 4, ho => cases ho; cases hgd
    | 5, ho => cases ho; cases hgd
    | 6, ho => cases ho; cases hgd
    | 7, ho => cases ho; cases hgd
    | 8, ho => cases ho; cases hgd
    | 9, ho => cases ho; cases hgd
    | i + 10, ho => omega
  case refine_2 =>
    intro i o hin ho _ ac W hdf hBW hF hD
    match i, ho with
    | 0, ho =>
      cases ho
      have r := hF 3 (by kernel_rfl)
      unfold Oper.wp
      rw [exec_load_vec rfl (evT r) ((bA.below hBW).at)]
      exact ⟨_, rfl, rfl, Below.refl _ _, fun h => by cases h⟩
    | 1, ho =>
      cases ho
      have r := hF 4 (by kernel_rfl)
      unfold Oper.wp
      rw [exec_load_vec rfl (evT r) ((bB.below hBW).at)]
      exact ⟨_, rfl, rfl, Below.refl _ _, fun h => by cases h⟩
    | 2, ho =>
      cases ho
      have r13 : ac.tmps[13]?.getD undef = VecV a := hD 0 (by kernel_rfl)
      have r14 : ac.tmps[14]?.getD undef = VecV b := hD 1 (by kernel_rfl)
      refine wp_build_vecs _ 2 rfl [a, b] rfl (by simp) (by simp) (by simp only [List.map_toArray, List.map_cons, List.map_nil, evT r13, evT r14]; rfl) ?_
      exact ⟨_, rfl, es_built _ _ rfl, below_alloc _ _, fun h => by cases h⟩
    | 3, ho =>
      cases ho
      have r : Es eVec W (ac.tmps[15]?.getD undef) [a, b] := hD 2 (by kernel_rfl)
      unfold Oper.wp
      go_simp
      refine (CJ.out W _ r).mono ?_
      rintro e W' ⟨rfl, hb⟩
      first | exact ⟨_, rfl, rfl, hb, fun h => by cases h⟩ | exact ⟨_, rfl, rfl, hb⟩
    | 4, ho =>
      cases ho
      have r := hF 3 (by kernel_rfl)
      unfold Oper.wp
      rw [exec_load_vec rfl (evT r) ((bA.below hBW).at)]
      exact ⟨_, rfl, rfl, Below.refl _ _, fun h => by cases h⟩
    | 5, ho =>
      cases ho
      have r := hF 4 (by kernel_rfl)
      unfold Oper.wp
      rw [exec_load_vec rfl (evT r) ((bB.below hBW).at)]
      exact ⟨_, rfl, rfl, Below.refl _ _, fun h => by cases h⟩
    | 6, ho =>
      cases ho
      have r17 : ac.tmps[17]?.getD undef = VecV a := hD 4 (by kernel_rfl)
      have r18 : ac.tmps[18]?.getD undef = VecV b := hD 5 (by kernel_rfl)
      refine wp_build_vecs _ 2 rfl [a, b] rfl (by simp) (by simp) (by simp only [List.map_toArray, List.map_cons, List.map_nil, evT r17, evT r18]; rfl) ?_
      exact ⟨_, rfl, es_built _ _ rfl, below_alloc _ _, fun h => by cases h⟩
    | 7, ho =>
      cases ho
      have r : Es eVec W (ac.tmps[19]?.getD undef) [a, b] := hD 6 (by kernel_rfl)
      unfold Oper.wp
      go_simp
      refine (CD.out W _ r).mono ?_
      rintro e W' ⟨rfl, hb⟩
      first | exact ⟨_, rfl, rfl, hb, fun h => by cases h⟩ | exact ⟨_, rfl, rfl, hb⟩
    | 8, ho =>
      cases ho
      refine wp_alloc_vec rfl ?_
      exact ⟨_, rfl, ⟨_, rfl, BoxV.new _ _, hBW.size⟩, below_alloc _ _, fun _ => ⟨_, rfl, Nat.le_refl _, by rw [World.size_alloc]; exact Nat.lt_succ_self _⟩⟩
    | 9, ho =>
      cases ho
      refine wp_alloc_vec rfl ?_
      exact ⟨_, rfl, ⟨_, rfl, BoxV.new _ _, hBW.size⟩, below_alloc _ _, fun _ => ⟨_, rfl, Nat.le_refl _, by rw [World.size_alloc]; exact Nat.lt_succ_self _⟩⟩
    | i + 10, ho => omega
  case refine_3 =>
    intro L W hL hBW hSp hap ac ha
    obtain ⟨x0, L0, rfl, hL0⟩ := len_succ hL
    obtain ⟨x1, L1, rfl, hL1⟩ := len_succ hL0
    obtain ⟨x2, L2, rfl, hL2⟩ := len_succ hL1
    obtain ⟨x3, L3, rfl, hL3⟩ := len_succ hL2
    obtain ⟨x4, L4, rfl, hL4⟩ := len_succ hL3
    obtain ⟨x5, L5, rfl, hL5⟩ := len_succ hL4
    obtain ⟨x6, L6, rfl, hL6⟩ := len_succ hL5
    obtain ⟨x7, L7, rfl, hL7⟩ := len_succ hL6
    obtain ⟨x8, L8, rfl, hL8⟩ := len_succ hL7
    obtain ⟨x9, L9, rfl, hL9⟩ := len_succ hL8
    obtain rfl := List.eq_nil_of_length_eq_zero hL9
    obtain rfl : x0 = (VecV a) := hSp 0 _ rfl
    obtain rfl : x1 = (VecV b) := hSp 1 _ rfl
    obtain rfl : x3 = (VecV J) := hSp 3 _ rfl
    obtain rfl : x4 = (VecV a) := hSp 4 _ rfl
    obtain rfl : x5 = (VecV b) := hSp 5 _ rfl
    obtain rfl : x7 = (VecV D) := hSp 7 _ rfl
    obtain ⟨z8, rfl, e8, l8⟩ : ∃ z, x8 = .pointer (some ⟨z, 0, none⟩) ∧ BoxV W z zeroV ∧ w1.heap.size ≤ z := hSp 8 _ rfl
    obtain ⟨z9, rfl, e9, l9⟩ : ∃ z, x9 = .pointer (some ⟨z, 0, none⟩) ∧ BoxV W z zeroV ∧ w1.heap.size ≤ z := hSp 9 _ rfl
    have hne : z8 ≠ z9 := fun h => hap 8 9 _ _ (by decide) rfl rfl rfl rfl (by rw [h])
    simp only [putsL, List.take_succ_cons, List.take_zero, Act.put, List.setIfInBounds_toArray, List.set_cons_succ, List.set_cons_zero] at ha
    subst ha
    simp only [List.drop_succ_cons, List.drop_zero]
    refine wpList_store_vec rfl (.tmp 8) (.tmp 16) rfl rfl e8 rfl ?_
    intro W1 f1 k1
    refine wpList_store_vec rfl (.tmp 9) (.tmp 20) rfl rfl (e9.kept k1 (fun h => hne h.symm)) rfl ?_
    intro w2 bD k2
    have bJ := f1.kept k2 hne
    have hkk : Below w1.heap.size w1 w2 := (hBW.trans (k1.below (B := w1.heap.size) (fun j _ e => by subst e; exact l8) hBW.size)).trans (k2.below (B := w1.heap.size) (fun j _ e => by subst e; exact l9) (Nat.le_trans hBW.size k1.size))
    refine wpList_nil ?_
    clear f1 k1 k2 e8 e9 hBW
    replace bA := bA.below hkk
    replace bB := bB.below hkk
    replace bC := bC.below hkk
    replace hB0 := hB0.trans (hkk.mono hB0.size)
    clear hkk hSp hap
    go_wp2_with (first
      | (refine list_load_vec (by first | rfl | kernel_rfl) (.tmp 3) rfl rfl bA.at ?_)
      | (refine list_load_vec (by first | rfl | kernel_rfl) (.tmp 4) rfl rfl bB.at ?_)
      | (refine list_load_vec (by first | rfl | kernel_rfl) (.tmp 8) rfl rfl bJ.at ?_)
      | (refine list_load_vec (by first | rfl | kernel_rfl) (.tmp 9) rfl rfl bD.at ?_)
      | (refine list_load_vec (by first | rfl | kernel_rfl) (.tmp 5) rfl rfl bC.at ?_))
    refine (L1.out _).mono ?_
    rintro e w3 ⟨rfl, hb1⟩
    replace bA := bA.below hb1
    replace bB := bB.below hb1
    replace bC := bC.below hb1
    replace bJ := bJ.below hb1
    replace bD := bD.below hb1
    replace hB0 := hB0.trans (hb1.mono hB0.size)
    clear hb1
    go_wp2_with (first
      | (refine list_load_vec (by first | rfl | kernel_rfl) (.tmp 3) rfl rfl bA.at ?_)
      | (refine list_load_vec (by first | rfl | kernel_rfl) (.tmp 4) rfl rfl bB.at ?_)
      | (refine list_load_vec (by first | rfl | kernel_rfl) (.tmp 8) rfl rfl bJ.at ?_)
      | (refine list_load_vec (by first | rfl | kernel_rfl) (.tmp 9) rfl rfl bD.at ?_)
      | (refine list_load_vec (by first | rfl | kernel_rfl) (.tmp 5) rfl rfl bC.at ?_))
    refine (L2.out _).mono ?_
    rintro e w4 ⟨rfl, hb1⟩
    replace bA := bA.below hb1
    replace bB := bB.below hb1
    replace bC := bC.below hb1
    replace bJ := bJ.below hb1
    replace bD := bD.below hb1
    replace hB0 := hB0.trans (hb1.mono hB0.size)
    clear hb1
    go_wp2_with (first
      | (refine list_load_vec (by first | rfl | kernel_rfl) (.tmp 3) rfl rfl bA.at ?_)
      | (refine list_load_vec (by first | rfl | kernel_rfl) (.tmp 4) rfl rfl bB.at ?_)
      | (refine list_load_vec (by first | rfl | kernel_rfl) (.tmp 8) rfl rfl bJ.at ?_)
      | (refine list_load_vec (by first | rfl | kernel_rfl) (.tmp 9) rfl rfl bD.at ?_)
      | (refine list_load_vec (by first | rfl | kernel_rfl) (.tmp 5) rfl rfl bC.at ?_))
    refine (L3.out _).mono ?_
    rintro e w5 ⟨rfl, hb1⟩
    replace bA := bA.below hb1
    replace bB := bB.below hb1
    replace bC := bC.below hb1
    replace bJ := bJ.below hb1
    replace bD := bD.below hb1
    replace hB0 := hB0.trans (hb1.mono hB0.size)
    clear hb1
    go_wp2_with (first
      | (refine list_load_vec (by first | rfl | kernel_rfl) (.tmp 3) rfl rfl bA.at ?_)
      | (refine list_load_vec (by first | rfl | kernel_rfl) (.tmp 4) rfl rfl bB.at ?_)
      | (refine list_load_vec (by first | rfl | kernel_rfl) (.tmp 8) rfl rfl bJ.at ?_)
      | (refine list_load_vec (by first | rfl | kernel_rfl) (.tmp 9) rfl rfl bD.at ?_)
      | (refine list_load_vec (by first | rfl | kernel_rfl) (.tmp 5) rfl rfl bC.at ?_))
    refine (L4.out _).mono ?_
    rintro e w6 ⟨rfl, hb1⟩
    replace bA := bA.below hb1
    replace bB := bB.below hb1
    replace bC := bC.below hb1
    replace bJ := bJ.below hb1
    replace bD := bD.below hb1
    replace hB0 := hB0.trans (hb1.mono hB0.size)
    clear hb1
    clear L1 L2 L3 L4
    go_upto_region 5 with fail
    go_cut [68] from 43 to 68 (fun v wc => v = .bool false ∧ Below w6.heap.size w6 wc)
    case first =>
      cases p <;> cases s
      · rw [Bool.false_and] at L7
        rw [Bool.false_and] at L10
        go_wp2_with fail
        refine wp_held (fun W1 => Below w6.heap.size w6 W1) (by kernel_rfl) ?_
        have hS0 : Below w6.heap.size w6 w6.drew := (Below.refl _ w6).drew
        refine wpAnyH_next (i := 0) (v := VecV a) rfl (by kernel_rfl) (by kernel_rfl) (by kernel_rfl) (fun _ _ _ h => h) (by kernel_rfl) (fun W1 hW1 => by exact exec_load_vec rfl rfl ((bA.below hW1).at)) hS0 (fun a' ha' => ?_)
        simp only [Act.put, List.getElem_toArray, List.getElem_cons_zero, List.setIfInBounds_toArray, List.set_cons_succ, List.set_cons_zero] at ha'
        subst ha'
        refine wpAnyH_next (i := 1) (v := VecV c) rfl (by kernel_rfl) (by kernel_rfl) (by kernel_rfl) (fun _ _ _ h => h) (by kernel_rfl) (fun W1 hW1 => by exact exec_load_vec rfl rfl ((bC.below hW1).at)) hS0 (fun a' ha' => ?_)
        simp only [Act.put, List.getElem_toArray, List.getElem_cons_succ, List.getElem_cons_zero, List.setIfInBounds_toArray, List.set_cons_succ, List.set_cons_zero] at ha'
        subst ha'
        refine wpAnyH_next (i := 8) (v := VecV J) rfl (by kernel_rfl) (by kernel_rfl) (by kernel_rfl) (fun _ _ _ h => h) (by kernel_rfl) (fun W1 hW1 => by exact exec_load_vec rfl rfl ((bJ.below hW1).at)) hS0 (fun a' ha' => ?_)
        simp only [Act.put, List.getElem_toArray, List.getElem_cons_succ, List.getElem_cons_zero, List.setIfInBounds_toArray, List.set_cons_succ, List.set_cons_zero] at ha'
        subst ha'
        refine wpAnyH_next (i := 9) (v := VecV c) rfl (by kernel_rfl) (by kernel_rfl) (by kernel_rfl) (fun _ _ _ h => h) (by kernel_rfl) (fun W1 hW1 => by exact exec_load_vec rfl rfl ((bC.below hW1).at)) hS0 (fun a' ha' => ?_)
        simp only [Act.put, List.getElem_toArray, List.getElem_cons_succ, List.getElem_cons_zero, List.setIfInBounds_toArray, List.set_cons_succ, List.set_cons_zero] at ha'
        subst ha'
        refine wpAnyH_want (i := 2) (by kernel_rfl) rfl (by kernel_rfl) (fun K hK => ?_)
        unfold Oper.wp
        go_simp
        refine (L5.out _).mono ?_
        rintro e y1 ⟨rfl, hy1⟩
        have hSy1 : Below w6.heap.size w6 y1 := hS0.trans (hy1.mono hS0.size)
        clear hy1
        refine hK _ _ hSy1 ?_
        clear hK K
        refine wpAnyH_next (i := 3) (v := .bool false) rfl (by kernel_rfl) (by kernel_rfl) (by kernel_rfl) (fun _ _ _ h => h) (by kernel_rfl) (fun W1 hW1 => by go_simp; done) hSy1 (fun a' ha' => ?_)
        simp only [Act.put, List.getElem_toArray, List.getElem_cons_succ, List.getElem_cons_zero, List.setIfInBounds_toArray, List.set_cons_succ, List.set_cons_zero] at ha'
        subst ha'
        refine wpAnyH_skip (i := 4) rfl (by kernel_rfl) (by kernel_rfl) (by kernel_rfl) (fun _ _ _ h => h) (by kernel_rfl) hSy1 (fun a' ha' => ?_)
        simp only [Act.put, List.getElem_toArray, List.getElem_cons_succ, List.getElem_cons_zero, List.setIfInBounds_toArray, List.set_cons_succ, List.set_cons_zero] at ha'
        subst ha'
        refine wpAnyH_skip (i := 5) rfl (by kernel_rfl) (by kernel_rfl) (by kernel_rfl) (fun _ _ _ h => h) (by kernel_rfl) hSy1 (fun a' ha' => ?_)
        simp only [Act.put, List.getElem_toArray, List.getElem_cons_succ, List.getElem_cons_zero, List.setIfInBounds_toArray, List.set_cons_succ, List.set_cons_zero] at ha'
        subst ha'
        refine wpAnyH_skip (i := 6) rfl (by kernel_rfl) (by kernel_rfl) (by kernel_rfl) (fun _ _ _ h => h) (by kernel_rfl) hSy1 (fun a' ha' => ?_)
        simp only [Act.put, List.getElem_toArray, List.getElem_cons_succ, List.getElem_cons_zero, List.setIfInBounds_toArray, List.set_cons_succ, List.set_cons_zero] at ha'
        subst ha'
        refine wpAnyH_next (i := 7) (v := .bool false) rfl (by kernel_rfl) (by kernel_rfl) (by kernel_rfl) (fun _ _ _ h => h) (by kernel_rfl) (fun W1 hW1 => by go_simp; done) hSy1 (fun a' ha' => ?_)
        simp only [Act.put, List.getElem_toArray, List.getElem_cons_succ, List.getElem_cons_zero, List.setIfInBounds_toArray, List.set_cons_succ, List.set_cons_zero] at ha'
        subst ha'
        refine wpAnyH_want (i := 10) (by kernel_rfl) rfl (by kernel_rfl) (fun K hK => ?_)
        unfold Oper.wp
        go_simp
        refine (L7.out _).mono ?_
        rintro e y2 ⟨rfl, hy2⟩
        have hSy2 : Below w6.heap.size w6 y2 := hSy1.trans (hy2.mono hSy1.size)
        clear hy2
        refine hK _ _ hSy2 ?_
        clear hK K
        refine wpAnyH_next (i := 11) (v := .bool false) rfl (by kernel_rfl) (by kernel_rfl) (by kernel_rfl) (fun _ _ _ h => h) (by kernel_rfl) (fun W1 hW1 => by first | (go_simp; done) | (simp; done) | (go_simp; simp; done)) hSy2 (fun a' ha' => ?_)
        simp only [Act.put, List.getElem_toArray, List.getElem_cons_succ, List.getElem_cons_zero, List.setIfInBounds_toArray, List.set_cons_succ, List.set_cons_zero] at ha'
        subst ha'
        refine wpAnyH_next (i := 12) (v := .bool false) rfl (by kernel_rfl) (by kernel_rfl) (by kernel_rfl) (fun _ _ _ h => h) (by kernel_rfl) (fun W1 hW1 => by go_simp; done) hSy2 (fun a' ha' => ?_)
        simp only [Act.put, List.getElem_toArray, List.getElem_cons_succ, List.getElem_cons_zero, List.setIfInBounds_toArray, List.set_cons_succ, List.set_cons_zero] at ha'
        subst ha'
        refine wpAnyH_next (i := 13) (v := VecV c) rfl (by kernel_rfl) (by kernel_rfl) (by kernel_rfl) (fun _ _ _ h => h) (by kernel_rfl) (fun W1 hW1 => by exact exec_load_vec rfl rfl ((bC.below hW1).at)) hSy2 (fun a' ha' => ?_)
        simp only [Act.put, List.getElem_toArray, List.getElem_cons_succ, List.getElem_cons_zero, List.setIfInBounds_toArray, List.set_cons_succ, List.set_cons_zero] at ha'
        subst ha'
        refine wpAnyH_next (i := 14) (v := VecV a) rfl (by kernel_rfl) (by kernel_rfl) (by kernel_rfl) (fun _ _ _ h => h) (by kernel_rfl) (fun W1 hW1 => by exact exec_load_vec rfl rfl ((bA.below hW1).at)) hSy2 (fun a' ha' => ?_)
        simp only [Act.put, List.getElem_toArray, List.getElem_cons_succ, List.getElem_cons_zero, List.setIfInBounds_toArray, List.set_cons_succ, List.set_cons_zero] at ha'
        subst ha'
        refine wpAnyH_next (i := 21) (v := VecV c) rfl (by kernel_rfl) (by kernel_rfl) (by kernel_rfl) (fun _ _ _ h => h) (by kernel_rfl) (fun W1 hW1 => by exact exec_load_vec rfl rfl ((bC.below hW1).at)) hSy2 (fun a' ha' => ?_)
        simp only [Act.put, List.getElem_toArray, List.getElem_cons_succ, List.getElem_cons_zero, List.setIfInBounds_toArray, List.set_cons_succ, List.set_cons_zero] at ha'
        subst ha'
        refine wpAnyH_next (i := 22) (v := VecV D) rfl (by kernel_rfl) (by kernel_rfl) (by kernel_rfl) (fun _ _ _ h => h) (by kernel_rfl) (fun W1 hW1 => by exact exec_load_vec rfl rfl ((bD.below hW1).at)) hSy2 (fun a' ha' => ?_)
        simp only [Act.put, List.getElem_toArray, List.getElem_cons_succ, List.getElem_cons_zero, List.setIfInBounds_toArray, List.set_cons_succ, List.set_cons_zero] at ha'
        subst ha'
        refine wpAnyH_want (i := 15) (by kernel_rfl) rfl (by kernel_rfl) (fun K hK => ?_)
        unfold Oper.wp
        go_simp
        refine (L8.out _).mono ?_
        rintro e y3 ⟨rfl, hy3⟩
        have hSy3 : Below w6.heap.size w6 y3 := hSy2.trans (hy3.mono hSy2.size)
        clear hy3
        refine hK _ _ hSy3 ?_
        clear hK K
        refine wpAnyH_next (i := 16) (v := .bool false) rfl (by kernel_rfl) (by kernel_rfl) (by kernel_rfl) (fun _ _ _ h => h) (by kernel_rfl) (fun W1 hW1 => by go_simp; done) hSy3 (fun a' ha' => ?_)
        simp only [Act.put, List.getElem_toArray, List.getElem_cons_succ, List.getElem_cons_zero, List.setIfInBounds_toArray, List.set_cons_succ, List.set_cons_zero] at ha'
        subst ha'
        refine wpAnyH_skip (i := 17) rfl (by kernel_rfl) (by kernel_rfl) (by kernel_rfl) (fun _ _ _ h => h) (by kernel_rfl) hSy3 (fun a' ha' => ?_)
        simp only [Act.put, List.getElem_toArray, List.getElem_cons_succ, List.getElem_cons_zero, List.setIfInBounds_toArray, List.set_cons_succ, List.set_cons_zero] at ha'
        subst ha'
        refine wpAnyH_skip (i := 18) rfl (by kernel_rfl) (by kernel_rfl) (by kernel_rfl) (fun _ _ _ h => h) (by kernel_rfl) hSy3 (fun a' ha' => ?_)
        simp only [Act.put, List.getElem_toArray, List.getElem_cons_succ, List.getElem_cons_zero, List.setIfInBounds_toArray, List.set_cons_succ, List.set_cons_zero] at ha'
        subst ha'
        refine wpAnyH_skip (i := 19) rfl (by kernel_rfl) (by kernel_rfl) (by kernel_rfl) (fun _ _ _ h => h) (by kernel_rfl) hSy3 (fun a' ha' => ?_)
        simp only [Act.put, List.getElem_toArray, List.getElem_cons_succ, List.getElem_cons_zero, List.setIfInBounds_toArray, List.set_cons_succ, List.set_cons_zero] at ha'
        subst ha'
        refine wpAnyH_next (i := 20) (v := .bool false) rfl (by kernel_rfl) (by kernel_rfl) (by kernel_rfl) (fun _ _ _ h => h) (by kernel_rfl) (fun W1 hW1 => by go_simp; done) hSy3 (fun a' ha' => ?_)
        simp only [Act.put, List.getElem_toArray, List.getElem_cons_succ, List.getElem_cons_zero, List.setIfInBounds_toArray, List.set_cons_succ, List.set_cons_zero] at ha'
        subst ha'
        refine wpAnyH_want (i := 23) (by kernel_rfl) rfl (by kernel_rfl) (fun K hK => ?_)
        unfold Oper.wp
        go_simp
        refine (L10.out _).mono ?_
        rintro e y4 ⟨rfl, hy4⟩
        have hSy4 : Below w6.heap.size w6 y4 := hSy3.trans (hy4.mono hSy3.size)
        clear hy4
        refine hK _ _ hSy4 ?_
        clear hK K
        refine wpAnyH_next (i := 24) (v := .bool false) rfl (by kernel_rfl) (by kernel_rfl) (by kernel_rfl) (fun _ _ _ h => h) (by kernel_rfl) (fun W1 hW1 => by first | (go_simp; done) | (simp; done) | (go_simp; simp; done)) hSy4 (fun a' ha' => ?_)
        simp only [Act.put, List.getElem_toArray, List.getElem_cons_succ, List.getElem_cons_zero, List.setIfInBounds_toArray, List.set_cons_succ, List.set_cons_zero] at ha'
        subst ha'
        refine wpAnyH_next (i := 25) (v := .bool false) rfl (by kernel_rfl) (by kernel_rfl) (by kernel_rfl) (fun _ _ _ h => h) (by kernel_rfl) (fun W1 hW1 => by go_simp; done) hSy4 (fun a' ha' => ?_)
        simp only [Act.put, List.getElem_toArray, List.getElem_cons_succ, List.getElem_cons_zero, List.setIfInBounds_toArray, List.set_cons_succ, List.set_cons_zero] at ha'
        subst ha'
        refine wpAnyH_fin (by kernel_rfl) ?_ _
        go_wp2_with fail
        go_meet
        exact ⟨rfl, hSy4⟩
      · rw [Bool.false_and] at L7
        rw [Bool.true_and] at L10
        go_wp2_with fail
        refine wp_held (fun W1 => Below w6.heap.size w6 W1) (by kernel_rfl) ?_
        have hS0 : Below w6.heap.size w6 w6.drew := (Below.refl _ w6).drew
        refine wpAnyH_next (i := 0) (v := VecV a) rfl (by kernel_rfl) (by kernel_rfl) (by kernel_rfl) (fun _ _ _ h => h) (by kernel_rfl) (fun W1 hW1 => by exact exec_load_vec rfl rfl ((bA.below hW1).at)) hS0 (fun a' ha' => ?_)
        simp only [Act.put, List.getElem_toArray, List.getElem_cons_zero, List.setIfInBounds_toArray, List.set_cons_succ, List.set_cons_zero] at ha'
        subst ha'
        refine wpAnyH_next (i := 1) (v := VecV c) rfl (by kernel_rfl) (by kernel_rfl) (by kernel_rfl) (fun _ _ _ h => h) (by kernel_rfl) (fun W1 hW1 => by exact exec_load_vec rfl rfl ((bC.below hW1).at)) hS0 (fun a' ha' => ?_)
        simp only [Act.put, List.getElem_toArray, List.getElem_cons_succ, List.getElem_cons_zero, List.setIfInBounds_toArray, List.set_cons_succ, List.set_cons_zero] at ha'
        subst ha'
        refine wpAnyH_next (i := 8) (v := VecV J) rfl (by kernel_rfl) (by kernel_rfl) (by kernel_rfl) (fun _ _ _ h => h) (by kernel_rfl) (fun W1 hW1 => by exact exec_load_vec rfl rfl ((bJ.below hW1).at)) hS0 (fun a' ha' => ?_)
        simp only [Act.put, List.getElem_toArray, List.getElem_cons_succ, List.getElem_cons_zero, List.setIfInBounds_toArray, List.set_cons_succ, List.set_cons_zero] at ha'
        subst ha'
        refine wpAnyH_next (i := 9) (v := VecV c) rfl (by kernel_rfl) (by kernel_rfl) (by kernel_rfl) (fun _ _ _ h => h) (by kernel_rfl) (fun W1 hW1 => by exact exec_load_vec rfl rfl ((bC.below hW1).at)) hS0 (fun a' ha' => ?_)
        simp only [Act.put, List.getElem_toArray, List.getElem_cons_succ, List.getElem_cons_zero, List.setIfInBounds_toArray, List.set_cons_succ, List.set_cons_zero] at ha'
        subst ha'
        refine wpAnyH_want (i := 2) (by kernel_rfl) rfl (by kernel_rfl) (fun K hK => ?_)
        unfold Oper.wp
        go_simp
        refine (L5.out _).mono ?_
        rintro e y1 ⟨rfl, hy1⟩
        have hSy1 : Below w6.heap.size w6 y1 := hS0.trans (hy1.mono hS0.size)
        clear hy1
        refine hK _ _ hSy1 ?_
        clear hK K
        refine wpAnyH_next (i := 3) (v := .bool false) rfl (by kernel_rfl) (by kernel_rfl) (by kernel_rfl) (fun _ _ _ h => h) (by kernel_rfl) (fun W1 hW1 => by go_simp; done) hSy1 (fun a' ha' => ?_)
        simp only [Act.put, List.getElem_toArray, List.getElem_cons_succ, List.getElem_cons_zero, List.setIfInBounds_toArray, List.set_cons_succ, List.set_cons_zero] at ha'
        subst ha'
        refine wpAnyH_skip (i := 4) rfl (by kernel_rfl) (by kernel_rfl) (by kernel_rfl) (fun _ _ _ h => h) (by kernel_rfl) hSy1 (fun a' ha' => ?_)
        simp only [Act.put, List.getElem_toArray, List.getElem_cons_succ, List.getElem_cons_zero, List.setIfInBounds_toArray, List.set_cons_succ, List.set_cons_zero] at ha'
        subst ha'
        refine wpAnyH_skip (i := 5) rfl (by kernel_rfl) (by kernel_rfl) (by kernel_rfl) (fun _ _ _ h => h) (by kernel_rfl) hSy1 (fun a' ha' => ?_)
        simp only [Act.put, List.getElem_toArray, List.getElem_cons_succ, List.getElem_cons_zero, List.setIfInBounds_toArray, List.set_cons_succ, List.set_cons_zero] at ha'
        subst ha'
        refine wpAnyH_skip (i := 6) rfl (by kernel_rfl) (by kernel_rfl) (by kernel_rfl) (fun _ _ _ h => h) (by kernel_rfl) hSy1 (fun a' ha' => ?_)
        simp only [Act.put, List.getElem_toArray, List.getElem_cons_succ, List.getElem_cons_zero, List.setIfInBounds_toArray, List.set_cons_succ, List.set_cons_zero] at ha'
        subst ha'
        refine wpAnyH_next (i := 7) (v := .bool false) rfl (by kernel_rfl) (by kernel_rfl) (by kernel_rfl) (fun _ _ _ h => h) (by kernel_rfl) (fun W1 hW1 => by go_simp; done) hSy1 (fun a' ha' => ?_)
        simp only [Act.put, List.getElem_toArray, List.getElem_cons_succ, List.getElem_cons_zero, List.setIfInBounds_toArray, List.set_cons_succ, List.set_cons_zero] at ha'
        subst ha'
        refine wpAnyH_want (i := 10) (by kernel_rfl) rfl (by kernel_rfl) (fun K hK => ?_)
        unfold Oper.wp
        go_simp
        refine (L7.out _).mono ?_
        rintro e y2 ⟨rfl, hy2⟩
        have hSy2 : Below w6.heap.size w6 y2 := hSy1.trans (hy2.mono hSy1.size)
        clear hy2
        refine hK _ _ hSy2 ?_
        clear hK K
        refine wpAnyH_next (i := 11) (v := .bool false) rfl (by kernel_rfl) (by kernel_rfl) (by kernel_rfl) (fun _ _ _ h => h) (by kernel_rfl) (fun W1 hW1 => by first | (go_simp; done) | (simp; done) | (go_simp; simp; done)) hSy2 (fun a' ha' => ?_)
        simp only [Act.put, List.getElem_toArray, List.getElem_cons_succ, List.getElem_cons_zero, List.setIfInBounds_toArray, List.set_cons_succ, List.set_cons_zero] at ha'
        subst ha'
        refine wpAnyH_next (i := 12) (v := .bool false) rfl (by kernel_rfl) (by kernel_rfl) (by kernel_rfl) (fun _ _ _ h => h) (by kernel_rfl) (fun W1 hW1 => by go_simp; done) hSy2 (fun a' ha' => ?_)
        simp only [Act.put, List.getElem_toArray, List.getElem_cons_succ, List.getElem_cons_zero, List.setIfInBounds_toArray, List.set_cons_succ, List.set_cons_zero] at ha'
        subst ha'
        refine wpAnyH_next (i := 13) (v := VecV c) rfl (by kernel_rfl) (by kernel_rfl) (by kernel_rfl) (fun _ _ _ h => h) (by kernel_rfl) (fun W1 hW1 => by exact exec_load_vec rfl rfl ((bC.below hW1).at)) hSy2 (fun a' ha' => ?_)
        simp only [Act.put, List.getElem_toArray, List.getElem_cons_succ, List.getElem_cons_zero, List.setIfInBounds_toArray, List.set_cons_succ, List.set_cons_zero] at ha'
        subst ha'
        refine wpAnyH_next (i := 14) (v := VecV a) rfl (by kernel_rfl) (by kernel_rfl) (by kernel_rfl) (fun _ _ _ h => h) (by kernel_rfl) (fun W1 hW1 => by exact exec_load_vec rfl rfl ((bA.below hW1).at)) hSy2 (fun a' ha' => ?_)
        simp only [Act.put, List.getElem_toArray, List.getElem_cons_succ, List.getElem_cons_zero, List.setIfInBounds_toArray, List.set_cons_succ, List.set_cons_zero] at ha'
        subst ha'
        refine wpAnyH_next (i := 21) (v := VecV c) rfl (by kernel_rfl) (by kernel_rfl) (by kernel_rfl) (fun _ _ _ h => h) (by kernel_rfl) (fun W1 hW1 => by exact exec_load_vec rfl rfl ((bC.below hW1).at)) hSy2 (fun a' ha' => ?_)
        simp only [Act.put, List.getElem_toArray, List.getElem_cons_succ, List.getElem_cons_zero, List.setIfInBounds_toArray, List.set_cons_succ, List.set_cons_zero] at ha'
        subst ha'
        refine wpAnyH_next (i := 22) (v := VecV D) rfl (by kernel_rfl) (by kernel_rfl) (by kernel_rfl) (fun _ _ _ h => h) (by kernel_rfl) (fun W1 hW1 => by exact exec_load_vec rfl rfl ((bD.below hW1).at)) hSy2 (fun a' ha' => ?_)
        simp only [Act.put, List.getElem_toArray, List.getElem_cons_succ, List.getElem_cons_zero, List.setIfInBounds_toArray, List.set_cons_succ, List.set_cons_zero] at ha'
        subst ha'
        refine wpAnyH_want (i := 15) (by kernel_rfl) rfl (by kernel_rfl) (fun K hK => ?_)
        unfold Oper.wp
        go_simp
        refine (L8.out _).mono ?_
        rintro e y3 ⟨rfl, hy3⟩
        have hSy3 : Below w6.heap.size w6 y3 := hSy2.trans (hy3.mono hSy2.size)
        clear hy3
        refine hK _ _ hSy3 ?_
        clear hK K
        refine wpAnyH_next (i := 16) (v := .bool true) rfl (by kernel_rfl) (by kernel_rfl) (by kernel_rfl) (fun _ _ _ h => h) (by kernel_rfl) (fun W1 hW1 => by go_simp; done) hSy3 (fun a' ha' => ?_)
        simp only [Act.put, List.getElem_toArray, List.getElem_cons_succ, List.getElem_cons_zero, List.setIfInBounds_toArray, List.set_cons_succ, List.set_cons_zero] at ha'
        subst ha'
        refine wpAnyH_next (i := 17) (v := VecV c) rfl (by kernel_rfl) (by kernel_rfl) (by kernel_rfl) (fun _ _ _ h => h) (by kernel_rfl) (fun W1 hW1 => by exact exec_load_vec rfl rfl ((bC.below hW1).at)) hSy3 (fun a' ha' => ?_)
        simp only [Act.put, List.getElem_toArray, List.getElem_cons_succ, List.getElem_cons_zero, List.setIfInBounds_toArray, List.set_cons_succ, List.set_cons_zero] at ha'
        subst ha'
        refine wpAnyH_next (i := 18) (v := VecV b) rfl (by kernel_rfl) (by kernel_rfl) (by kernel_rfl) (fun _ _ _ h => h) (by kernel_rfl) (fun W1 hW1 => by exact exec_load_vec rfl rfl ((bB.below hW1).at)) hSy3 (fun a' ha' => ?_)
        simp only [Act.put, List.getElem_toArray, List.getElem_cons_succ, List.getElem_cons_zero, List.setIfInBounds_toArray, List.set_cons_succ, List.set_cons_zero] at ha'
        subst ha'
        refine wpAnyH_want (i := 19) (by kernel_rfl) rfl (by kernel_rfl) (fun K hK => ?_)
        unfold Oper.wp
        go_simp
        refine (L9.out _).mono ?_
        rintro e y4 ⟨rfl, hy4⟩
        have hSy4 : Below w6.heap.size w6 y4 := hSy3.trans (hy4.mono hSy3.size)
        clear hy4
        refine hK _ _ hSy4 ?_
        clear hK K
        refine wpAnyH_next (i := 20) (v := .bool r) rfl (by kernel_rfl) (by kernel_rfl) (by kernel_rfl) (fun _ _ _ h => h) (by kernel_rfl) (fun W1 hW1 => by go_simp; done) hSy4 (fun a' ha' => ?_)
        simp only [Act.put, List.getElem_toArray, List.getElem_cons_succ, List.getElem_cons_zero, List.setIfInBounds_toArray, List.set_cons_succ, List.set_cons_zero] at ha'
        subst ha'
        refine wpAnyH_want (i := 23) (by kernel_rfl) rfl (by kernel_rfl) (fun K hK => ?_)
        unfold Oper.wp
        go_simp
        refine (L10.out _).mono ?_
        rintro e y5 ⟨rfl, hy5⟩
        have hSy5 : Below w6.heap.size w6 y5 := hSy4.trans (hy5.mono hSy4.size)
        clear hy5
        refine hK _ _ hSy5 ?_
        clear hK K
        refine wpAnyH_next (i := 24) (v := .bool false) rfl (by kernel_rfl) (by kernel_rfl) (by kernel_rfl) (fun _ _ _ h => h) (by kernel_rfl) (fun W1 hW1 => by first | (go_simp; done) | (simp; done) | (go_simp; simp; done)) hSy5 (fun a' ha' => ?_)
        simp only [Act.put, List.getElem_toArray, List.getElem_cons_succ, List.getElem_cons_zero, List.setIfInBounds_toArray, List.set_cons_succ, List.set_cons_zero] at ha'
        subst ha'
        refine wpAnyH_next (i := 25) (v := .bool false) rfl (by kernel_rfl) (by kernel_rfl) (by kernel_rfl) (fun _ _ _ h => h) (by kernel_rfl) (fun W1 hW1 => by go_simp; done) hSy5 (fun a' ha' => ?_)
        simp only [Act.put, List.getElem_toArray, List.getElem_cons_succ, List.getElem_cons_zero, List.setIfInBounds_toArray, List.set_cons_succ, List.set_cons_zero] at ha'
        subst ha'
        refine wpAnyH_fin (by kernel_rfl) ?_ _
        go_wp2_with fail
        go_meet
        exact ⟨rfl, hSy5⟩
      · rw [Bool.true_and] at L7
        rw [Bool.false_and] at L10
        go_wp2_with fail
        refine wp_held (fun W1 => Below w6.heap.size w6 W1) (by kernel_rfl) ?_
        have hS0 : Below w6.heap.size w6 w6.drew := (Below.refl _ w6).drew
        refine wpAnyH_next (i := 0) (v := VecV a) rfl (by kernel_rfl) (by kernel_rfl) (by kernel_rfl) (fun _ _ _ h => h) (by kernel_rfl) (fun W1 hW1 => by exact exec_load_vec rfl rfl ((bA.below hW1).at)) hS0 (fun a' ha' => ?_)
        simp only [Act.put, List.getElem_toArray, List.getElem_cons_zero, List.setIfInBounds_toArray, List.set_cons_succ, List.set_cons_zero] at ha'
        subst ha'
        refine wpAnyH_next (i := 1) (v := VecV c) rfl (by kernel_rfl) (by kernel_rfl) (by kernel_rfl) (fun _ _ _ h => h) (by kernel_rfl) (fun W1 hW1 => by exact exec_load_vec rfl rfl ((bC.below hW1).at)) hS0 (fun a' ha' => ?_)
        simp only [Act.put, List.getElem_toArray, List.getElem_cons_succ, List.getElem_cons_zero, List.setIfInBounds_toArray, List.set_cons_succ, List.set_cons_zero] at ha'
        subst ha'
        refine wpAnyH_next (i := 8) (v := VecV J) rfl (by kernel_rfl) (by kernel_rfl) (by kernel_rfl) (fun _ _ _ h => h) (by kernel_rfl) (fun W1 hW1 => by exact exec_load_vec rfl rfl ((bJ.below hW1).at)) hS0 (fun a' ha' => ?_)
        simp only [Act.put, List.getElem_toArray, List.getElem_cons_succ, List.getElem_cons_zero, List.setIfInBounds_toArray, List.set_cons_succ, List.set_cons_zero] at ha'
        subst ha'
        refine wpAnyH_next (i := 9) (v := VecV c) rfl (by kernel_rfl) (by kernel_rfl) (by kernel_rfl) (fun _ _ _ h => h) (by kernel_rfl) (fun W1 hW1 => by exact exec_load_vec rfl rfl ((bC.below hW1).at)) hS0 (fun a' ha' => ?_)
        simp only [Act.put, List.getElem_toArray, List.getElem_cons_succ, List.getElem_cons_zero, List.setIfInBounds_toArray, List.set_cons_succ, List.set_cons_zero] at ha'
        subst ha'
        refine wpAnyH_want (i := 2) (by kernel_rfl) rfl (by kernel_rfl) (fun K hK => ?_)
        unfold Oper.wp
        go_simp
        refine (L5.out _).mono ?_
        rintro e y1 ⟨rfl, hy1⟩
        have hSy1 : Below w6.heap.size w6 y1 := hS0.trans (hy1.mono hS0.size)
        clear hy1
        refine hK _ _ hSy1 ?_
        clear hK K
        refine wpAnyH_next (i := 3) (v := .bool true) rfl (by kernel_rfl) (by kernel_rfl) (by kernel_rfl) (fun _ _ _ h => h) (by kernel_rfl) (fun W1 hW1 => by go_simp; done) hSy1 (fun a' ha' => ?_)
        simp only [Act.put, List.getElem_toArray, List.getElem_cons_succ, List.getElem_cons_zero, List.setIfInBounds_toArray, List.set_cons_succ, List.set_cons_zero] at ha'
        subst ha'
        refine wpAnyH_next (i := 4) (v := VecV b) rfl (by kernel_rfl) (by kernel_rfl) (by kernel_rfl) (fun _ _ _ h => h) (by kernel_rfl) (fun W1 hW1 => by exact exec_load_vec rfl rfl ((bB.below hW1).at)) hSy1 (fun a' ha' => ?_)
        simp only [Act.put, List.getElem_toArray, List.getElem_cons_succ, List.getElem_cons_zero, List.setIfInBounds_toArray, List.set_cons_succ, List.set_cons_zero] at ha'
        subst ha'
        refine wpAnyH_next (i := 5) (v := VecV c) rfl (by kernel_rfl) (by kernel_rfl) (by kernel_rfl) (fun _ _ _ h => h) (by kernel_rfl) (fun W1 hW1 => by exact exec_load_vec rfl rfl ((bC.below hW1).at)) hSy1 (fun a' ha' => ?_)
        simp only [Act.put, List.getElem_toArray, List.getElem_cons_succ, List.getElem_cons_zero, List.setIfInBounds_toArray, List.set_cons_succ, List.set_cons_zero] at ha'
        subst ha'
        refine wpAnyH_want (i := 6) (by kernel_rfl) rfl (by kernel_rfl) (fun K hK => ?_)
        unfold Oper.wp
        go_simp
        refine (L6.out _).mono ?_
        rintro e y2 ⟨rfl, hy2⟩
        have hSy2 : Below w6.heap.size w6 y2 := hSy1.trans (hy2.mono hSy1.size)
        clear hy2
        refine hK _ _ hSy2 ?_
        clear hK K
        refine wpAnyH_next (i := 7) (v := .bool q) rfl (by kernel_rfl) (by kernel_rfl) (by kernel_rfl) (fun _ _ _ h => h) (by kernel_rfl) (fun W1 hW1 => by go_simp; done) hSy2 (fun a' ha' => ?_)
        simp only [Act.put, List.getElem_toArray, List.getElem_cons_succ, List.getElem_cons_zero, List.setIfInBounds_toArray, List.set_cons_succ, List.set_cons_zero] at ha'
        subst ha'
        refine wpAnyH_want (i := 10) (by kernel_rfl) rfl (by kernel_rfl) (fun K hK => ?_)
        unfold Oper.wp
        go_simp
        refine (L7.out _).mono ?_
        rintro e y3 ⟨rfl, hy3⟩
        have hSy3 : Below w6.heap.size w6 y3 := hSy2.trans (hy3.mono hSy2.size)
        clear hy3
        refine hK _ _ hSy3 ?_
        clear hK K
        refine wpAnyH_next (i := 11) (v := .bool false) rfl (by kernel_rfl) (by kernel_rfl) (by kernel_rfl) (fun _ _ _ h => h) (by kernel_rfl) (fun W1 hW1 => by first | (go_simp; done) | (simp; done) | (go_simp; simp; done)) hSy3 (fun a' ha' => ?_)
        simp only [Act.put, List.getElem_toArray, List.getElem_cons_succ, List.getElem_cons_zero, List.setIfInBounds_toArray, List.set_cons_succ, List.set_cons_zero] at ha'
        subst ha'
        refine wpAnyH_next (i := 12) (v := .bool false) rfl (by kernel_rfl) (by kernel_rfl) (by kernel_rfl) (fun _ _ _ h => h) (by kernel_rfl) (fun W1 hW1 => by go_simp; done) hSy3 (fun a' ha' => ?_)
        simp only [Act.put, List.getElem_toArray, List.getElem_cons_succ, List.getElem_cons_zero, List.setIfInBounds_toArray, List.set_cons_succ, List.set_cons_zero] at ha'
        subst ha'
        refine wpAnyH_next (i := 13) (v := VecV c) rfl (by kernel_rfl) (by kernel_rfl) (by kernel_rfl) (fun _ _ _ h => h) (by kernel_rfl) (fun W1 hW1 => by exact exec_load_vec rfl rfl ((bC.below hW1).at)) hSy3 (fun a' ha' => ?_)
        simp only [Act.put, List.getElem_toArray, List.getElem_cons_succ, List.getElem_cons_zero, List.setIfInBounds_toArray, List.set_cons_succ, List.set_cons_zero] at ha'
        subst ha'
        refine wpAnyH_next (i := 14) (v := VecV a) rfl (by kernel_rfl) (by kernel_rfl) (by kernel_rfl) (fun _ _ _ h => h) (by kernel_rfl) (fun W1 hW1 => by exact exec_load_vec rfl rfl ((bA.below hW1).at)) hSy3 (fun a' ha' => ?_)
        simp only [Act.put, List.getElem_toArray, List.getElem_cons_succ, List.getElem_cons_zero, List.setIfInBounds_toArray, List.set_cons_succ, List.set_cons_zero] at ha'
        subst ha'
        refine wpAnyH_next (i := 21) (v := VecV c) rfl (by kernel_rfl) (by kernel_rfl) (by kernel_rfl) (fun _ _ _ h => h) (by kernel_rfl) (fun W1 hW1 => by exact exec_load_vec rfl rfl ((bC.below hW1).at)) hSy3 (fun a' ha' => ?_)
        simp only [Act.put, List.getElem_toArray, List.getElem_cons_succ, List.getElem_cons_zero, List.setIfInBounds_toArray, List.set_cons_succ, List.set_cons_zero] at ha'
        subst ha'
        refine wpAnyH_next (i := 22) (v := VecV D) rfl (by kernel_rfl) (by kernel_rfl) (by kernel_rfl) (fun _ _ _ h => h) (by kernel_rfl) (fun W1 hW1 => by exact exec_load_vec rfl rfl ((bD.below hW1).at)) hSy3 (fun a' ha' => ?_)
        simp only [Act.put, List.getElem_toArray, List.getElem_cons_succ, List.getElem_cons_zero, List.setIfInBounds_toArray, List.set_cons_succ, List.set_cons_zero] at ha'
        subst ha'
        refine wpAnyH_want (i := 15) (by kernel_rfl) rfl (by kernel_rfl) (fun K hK => ?_)
        unfold Oper.wp
        go_simp
        refine (L8.out _).mono ?_
        rintro e y4 ⟨rfl, hy4⟩
        have hSy4 : Below w6.heap.size w6 y4 := hSy3.trans (hy4.mono hSy3.size)
        clear hy4
        refine hK _ _ hSy4 ?_
        clear hK K
        refine wpAnyH_next (i := 16) (v := .bool false) rfl (by kernel_rfl) (by kernel_rfl) (by kernel_rfl) (fun _ _ _ h => h) (by kernel_rfl) (fun W1 hW1 => by go_simp; done) hSy4 (fun a' ha' => ?_)
        simp only [Act.put, List.getElem_toArray, List.getElem_cons_succ, List.getElem_cons_zero, List.setIfInBounds_toArray, List.set_cons_succ, List.set_cons_zero] at ha'
        subst ha'
        refine wpAnyH_skip (i := 17) rfl (by kernel_rfl) (by kernel_rfl) (by kernel_rfl) (fun _ _ _ h => h) (by kernel_rfl) hSy4 (fun a' ha' => ?_)
        simp only [Act.put, List.getElem_toArray, List.getElem_cons_succ, List.getElem_cons_zero, List.setIfInBounds_toArray, List.set_cons_succ, List.set_cons_zero] at ha'
        subst ha'
        refine wpAnyH_skip (i := 18) rfl (by kernel_rfl) (by kernel_rfl) (by kernel_rfl) (fun _ _ _ h => h) (by kernel_rfl) hSy4 (fun a' ha' => ?_)
        simp only [Act.put, List.getElem_toArray, List.getElem_cons_succ, List.getElem_cons_zero, List.setIfInBounds_toArray, List.set_cons_succ, List.set_cons_zero] at ha'
        subst ha'
        refine wpAnyH_skip (i := 19) rfl (by kernel_rfl) (by kernel_rfl) (by kernel_rfl) (fun _ _ _ h => h) (by kernel_rfl) hSy4 (fun a' ha' => ?_)
        simp only [Act.put, List.getElem_toArray, List.getElem_cons_succ, List.getElem_cons_zero, List.setIfInBounds_toArray, List.set_cons_succ, List.set_cons_zero] at ha'
        subst ha'
        refine wpAnyH_next (i := 20) (v := .bool false) rfl (by kernel_rfl) (by kernel_rfl) (by kernel_rfl) (fun _ _ _ h => h) (by kernel_rfl) (fun W1 hW1 => by go_simp; done) hSy4 (fun a' ha' => ?_)
        simp only [Act.put, List.getElem_toArray, List.getElem_cons_succ, List.getElem_cons_zero, List.setIfInBounds_toArray, List.set_cons_succ, List.set_cons_zero] at ha'
        subst ha'
        refine wpAnyH_want (i := 23) (by kernel_rfl) rfl (by kernel_rfl) (fun K hK => ?_)
        unfold Oper.wp
        go_simp
        refine (L10.out _).mono ?_
        rintro e y5 ⟨rfl, hy5⟩
        have hSy5 : Below w6.heap.size w6 y5 := hSy4.trans (hy5.mono hSy4.size)
        clear hy5
        refine hK _ _ hSy5 ?_
        clear hK K
        refine wpAnyH_next (i := 24) (v := .bool false) rfl (by kernel_rfl) (by kernel_rfl) (by kernel_rfl) (fun _ _ _ h => h) (by kernel_rfl) (fun W1 hW1 => by first | (go_simp; done) | (simp; done) | (go_simp; simp; done)) hSy5 (fun a' ha' => ?_)
        simp only [Act.put, List.getElem_toArray, List.getElem_cons_succ, List.getElem_cons_zero, List.setIfInBounds_toArray, List.set_cons_succ, List.set_cons_zero] at ha'
        subst ha'
        refine wpAnyH_next (i := 25) (v := .bool false) rfl (by kernel_rfl) (by kernel_rfl) (by kernel_rfl) (fun _ _ _ h => h) (by kernel_rfl) (fun W1 hW1 => by go_simp; done) hSy5 (fun a' ha' => ?_)
        simp only [Act.put, List.getElem_toArray, List.getElem_cons_succ, List.getElem_cons_zero, List.setIfInBounds_toArray, List.set_cons_succ, List.set_cons_zero] at ha'
        subst ha'
        refine wpAnyH_fin (by kernel_rfl) ?_ _
        go_wp2_with fail
        go_meet
        exact ⟨rfl, hSy5⟩
      · rw [Bool.true_and] at L7
        rw [Bool.true_and] at L10
        go_wp2_with fail
        refine wp_held (fun W1 => Below w6.heap.size w6 W1) (by kernel_rfl) ?_
        have hS0 : Below w6.heap.size w6 w6.drew := (Below.refl _ w6).drew
        refine wpAnyH_next (i := 0) (v := VecV a) rfl (by kernel_rfl) (by kernel_rfl) (by kernel_rfl) (fun _ _ _ h => h) (by kernel_rfl) (fun W1 hW1 => by exact exec_load_vec rfl rfl ((bA.below hW1).at)) hS0 (fun a' ha' => ?_)
        simp only [Act.put, List.getElem_toArray, List.getElem_cons_zero, List.setIfInBounds_toArray, List.set_cons_succ, List.set_cons_zero] at ha'
        subst ha'
        refine wpAnyH_next (i := 1) (v := VecV c) rfl (by kernel_rfl) (by kernel_rfl) (by kernel_rfl) (fun _ _ _ h => h) (by kernel_rfl) (fun W1 hW1 => by exact exec_load_vec rfl rfl ((bC.below hW1).at)) hS0 (fun a' ha' => ?_)
        simp only [Act.put, List.getElem_toArray, List.getElem_cons_succ, List.getElem_cons_zero, List.setIfInBounds_toArray, List.set_cons_succ, List.set_cons_zero] at ha'
        subst ha'
        refine wpAnyH_next (i := 8) (v := VecV J) rfl (by kernel_rfl) (by kernel_rfl) (by kernel_rfl) (fun _ _ _ h => h) (by kernel_rfl) (fun W1 hW1 => by exact exec_load_vec rfl rfl ((bJ.below hW1).at)) hS0 (fun a' ha' => ?_)
        simp only [Act.put, List.getElem_toArray, List.getElem_cons_succ, List.getElem_cons_zero, List.setIfInBounds_toArray, List.set_cons_succ, List.set_cons_zero] at ha'
        subst ha'
        refine wpAnyH_next (i := 9) (v := VecV c) rfl (by kernel_rfl) (by kernel_rfl) (by kernel_rfl) (fun _ _ _ h => h) (by kernel_rfl) (fun W1 hW1 => by exact exec_load_vec rfl rfl ((bC.below hW1).at)) hS0 (fun a' ha' => ?_)
        simp only [Act.put, List.getElem_toArray, List.getElem_cons_succ, List.getElem_cons_zero, List.setIfInBounds_toArray, List.set_cons_succ, List.set_cons_zero] at ha'
        subst ha'
        refine wpAnyH_want (i := 2) (by kernel_rfl) rfl (by kernel_rfl) (fun K hK => ?_)
        unfold Oper.wp
        go_simp
        refine (L5.out _).mono ?_
        rintro e y1 ⟨rfl, hy1⟩
        have hSy1 : Below w6.heap.size w6 y1 := hS0.trans (hy1.mono hS0.size)
        clear hy1
        refine hK _ _ hSy1 ?_
        clear hK K
        refine wpAnyH_next (i := 3) (v := .bool true) rfl (by kernel_rfl) (by kernel_rfl) (by kernel_rfl) (fun _ _ _ h => h) (by kernel_rfl) (fun W1 hW1 => by go_simp; done) hSy1 (fun a' ha' => ?_)
        simp only [Act.put, List.getElem_toArray, List.getElem_cons_succ, List.getElem_cons_zero, List.setIfInBounds_toArray, List.set_cons_succ, List.set_cons_zero] at ha'
        subst ha'
        refine wpAnyH_next (i := 4) (v := VecV b) rfl (by kernel_rfl) (by kernel_rfl) (by kernel_rfl) (fun _ _ _ h => h) (by kernel_rfl) (fun W1 hW1 => by exact exec_load_vec rfl rfl ((bB.below hW1).at)) hSy1 (fun a' ha' => ?_)
        simp only [Act.put, List.getElem_toArray, List.getElem_cons_succ, List.getElem_cons_zero, List.setIfInBounds_toArray, List.set_cons_succ, List.set_cons_zero] at ha'
        subst ha'
        refine wpAnyH_next (i := 5) (v := VecV c) rfl (by kernel_rfl) (by kernel_rfl) (by kernel_rfl) (fun _ _ _ h => h) (by kernel_rfl) (fun W1 hW1 => by exact exec_load_vec rfl rfl ((bC.below hW1).at)) hSy1 (fun a' ha' => ?_)
        simp only [Act.put, List.getElem_toArray, List.getElem_cons_succ, List.getElem_cons_zero, List.setIfInBounds_toArray, List.set_cons_succ, List.set_cons_zero] at ha'
        subst ha'
        refine wpAnyH_want (i := 6) (by kernel_rfl) rfl (by kernel_rfl) (fun K hK => ?_)
        unfold Oper.wp
        go_simp
        refine (L6.out _).mono ?_
        rintro e y2 ⟨rfl, hy2⟩
        have hSy2 : Below w6.heap.size w6 y2 := hSy1.trans (hy2.mono hSy1.size)
        clear hy2
        refine hK _ _ hSy2 ?_
        clear hK K
        refine wpAnyH_next (i := 7) (v := .bool q) rfl (by kernel_rfl) (by kernel_rfl) (by kernel_rfl) (fun _ _ _ h => h) (by kernel_rfl) (fun W1 hW1 => by go_simp; done) hSy2 (fun a' ha' => ?_)
        simp only [Act.put, List.getElem_toArray, List.getElem_cons_succ, List.getElem_cons_zero, List.setIfInBounds_toArray, List.set_cons_succ, List.set_cons_zero] at ha'
        subst ha'
        refine wpAnyH_want (i := 10) (by kernel_rfl) rfl (by kernel_rfl) (fun K hK => ?_)
        unfold Oper.wp
        go_simp
        refine (L7.out _).mono ?_
        rintro e y3 ⟨rfl, hy3⟩
        have hSy3 : Below w6.heap.size w6 y3 := hSy2.trans (hy3.mono hSy2.size)
        clear hy3
        refine hK _ _ hSy3 ?_
        clear hK K
        refine wpAnyH_next (i := 11) (v := .bool false) rfl (by kernel_rfl) (by kernel_rfl) (by kernel_rfl) (fun _ _ _ h => h) (by kernel_rfl) (fun W1 hW1 => by first | (go_simp; done) | (simp; done) | (go_simp; simp; done)) hSy3 (fun a' ha' => ?_)
        simp only [Act.put, List.getElem_toArray, List.getElem_cons_succ, List.getElem_cons_zero, List.setIfInBounds_toArray, List.set_cons_succ, List.set_cons_zero] at ha'
        subst ha'
        refine wpAnyH_next (i := 12) (v := .bool false) rfl (by kernel_rfl) (by kernel_rfl) (by kernel_rfl) (fun _ _ _ h => h) (by kernel_rfl) (fun W1 hW1 => by go_simp; done) hSy3 (fun a' ha' => ?_)
        simp only [Act.put, List.getElem_toArray, List.getElem_cons_succ, List.getElem_cons_zero, List.setIfInBounds_toArray, List.set_cons_succ, List.set_cons_zero] at ha'
        subst ha'
        refine wpAnyH_next (i := 13) (v := VecV c) rfl (by kernel_rfl) (by kernel_rfl) (by kernel_rfl) (fun _ _ _ h => h) (by kernel_rfl) (fun W1 hW1 => by exact exec_load_vec rfl rfl ((bC.below hW1).at)) hSy3 (fun a' ha' => ?_)
        simp only [Act.put, List.getElem_toArray, List.getElem_cons_succ, List.getElem_cons_zero, List.setIfInBounds_toArray, List.set_cons_succ, List.set_cons_zero] at ha'
        subst ha'
        refine wpAnyH_next (i := 14) (v := VecV a) rfl (by kernel_rfl) (by kernel_rfl) (by kernel_rfl) (fun _ _ _ h => h) (by kernel_rfl) (fun W1 hW1 => by exact exec_load_vec rfl rfl ((bA.below hW1).at)) hSy3 (fun a' ha' => ?_)
        simp only [Act.put, List.getElem_toArray, List.getElem_cons_succ, List.getElem_cons_zero, List.setIfInBounds_toArray, List.set_cons_succ, List.set_cons_zero] at ha'
        subst ha'
        refine wpAnyH_next (i := 21) (v := VecV c) rfl (by kernel_rfl) (by kernel_rfl) (by kernel_rfl) (fun _ _ _ h => h) (by kernel_rfl) (fun W1 hW1 => by exact exec_load_vec rfl rfl ((bC.below hW1).at)) hSy3 (fun a' ha' => ?_)
        simp only [Act.put, List.getElem_toArray, List.getElem_cons_succ, List.getElem_cons_zero, List.setIfInBounds_toArray, List.set_cons_succ, List.set_cons_zero] at ha'
        subst ha'
        refine wpAnyH_next (i := 22) (v := VecV D) rfl (by kernel_rfl) (by kernel_rfl) (by kernel_rfl) (fun _ _ _ h => h) (by kernel_rfl) (fun W1 hW1 => by exact exec_load_vec rfl rfl ((bD.below hW1).at)) hSy3 (fun a' ha' => ?_)
        simp only [Act.put, List.getElem_toArray, List.getElem_cons_succ, List.getElem_cons_zero, List.setIfInBounds_toArray, List.set_cons_succ, List.set_cons_zero] at ha'
        subst ha'
        refine wpAnyH_want (i := 15) (by kernel_rfl) rfl (by kernel_rfl) (fun K hK => ?_)
        unfold Oper.wp
        go_simp
        refine (L8.out _).mono ?_
        rintro e y4 ⟨rfl, hy4⟩
        have hSy4 : Below w6.heap.size w6 y4 := hSy3.trans (hy4.mono hSy3.size)
        clear hy4
        refine hK _ _ hSy4 ?_
        clear hK K
        refine wpAnyH_next (i := 16) (v := .bool true) rfl (by kernel_rfl) (by kernel_rfl) (by kernel_rfl) (fun _ _ _ h => h) (by kernel_rfl) (fun W1 hW1 => by go_simp; done) hSy4 (fun a' ha' => ?_)
        simp only [Act.put, List.getElem_toArray, List.getElem_cons_succ, List.getElem_cons_zero, List.setIfInBounds_toArray, List.set_cons_succ, List.set_cons_zero] at ha'
        subst ha'
        refine wpAnyH_next (i := 17) (v := VecV c) rfl (by kernel_rfl) (by kernel_rfl) (by kernel_rfl) (fun _ _ _ h => h) (by kernel_rfl) (fun W1 hW1 => by exact exec_load_vec rfl rfl ((bC.below hW1).at)) hSy4 (fun a' ha' => ?_)
        simp only [Act.put, List.getElem_toArray, List.getElem_cons_succ, List.getElem_cons_zero, List.setIfInBounds_toArray, List.set_cons_succ, List.set_cons_zero] at ha'
        subst ha'
        refine wpAnyH_next (i := 18) (v := VecV b) rfl (by kernel_rfl) (by kernel_rfl) (by kernel_rfl) (fun _ _ _ h => h) (by kernel_rfl) (fun W1 hW1 => by exact exec_load_vec rfl rfl ((bB.below hW1).at)) hSy4 (fun a' ha' => ?_)
        simp only [Act.put, List.getElem_toArray, List.getElem_cons_succ, List.getElem_cons_zero, List.setIfInBounds_toArray, List.set_cons_succ, List.set_cons_zero] at ha'
        subst ha'
        refine wpAnyH_want (i := 19) (by kernel_rfl) rfl (by kernel_rfl) (fun K hK => ?_)
        unfold Oper.wp
        go_simp
        refine (L9.out _).mono ?_
        rintro e y5 ⟨rfl, hy5⟩
        have hSy5 : Below w6.heap.size w6 y5 := hSy4.trans (hy5.mono hSy4.size)
        clear hy5
        refine hK _ _ hSy5 ?_
        clear hK K
        refine wpAnyH_next (i := 20) (v := .bool r) rfl (by kernel_rfl) (by kernel_rfl) (by kernel_rfl) (fun _ _ _ h => h) (by kernel_rfl) (fun W1 hW1 => by go_simp; done) hSy5 (fun a' ha' => ?_)
        simp only [Act.put, List.getElem_toArray, List.getElem_cons_succ, List.getElem_cons_zero, List.setIfInBounds_toArray, List.set_cons_succ, List.set_cons_zero] at ha'
        subst ha'
        refine wpAnyH_want (i := 23) (by kernel_rfl) rfl (by kernel_rfl) (fun K hK => ?_)
        unfold Oper.wp
        go_simp
        refine (L10.out _).mono ?_
        rintro e y6 ⟨rfl, hy6⟩
        have hSy6 : Below w6.heap.size w6 y6 := hSy5.trans (hy6.mono hSy5.size)
        clear hy6
        refine hK _ _ hSy6 ?_
        clear hK K
        refine wpAnyH_next (i := 24) (v := .bool false) rfl (by kernel_rfl) (by kernel_rfl) (by kernel_rfl) (fun _ _ _ h => h) (by kernel_rfl) (fun W1 hW1 => by first | (go_simp; done) | (simp; done) | (go_simp; simp; done)) hSy6 (fun a' ha' => ?_)
        simp only [Act.put, List.getElem_toArray, List.getElem_cons_succ, List.getElem_cons_zero, List.setIfInBounds_toArray, List.set_cons_succ, List.set_cons_zero] at ha'
        subst ha'
        refine wpAnyH_next (i := 25) (v := .bool false) rfl (by kernel_rfl) (by kernel_rfl) (by kernel_rfl) (fun _ _ _ h => h) (by kernel_rfl) (fun W1 hW1 => by go_simp; done) hSy6 (fun a' ha' => ?_)
        simp only [Act.put, List.getElem_toArray, List.getElem_cons_succ, List.getElem_cons_zero, List.setIfInBounds_toArray, List.set_cons_succ, List.set_cons_zero] at ha'
        subst ha'
        refine wpAnyH_fin (by kernel_rfl) ?_ _
        go_wp2_with fail
        go_meet
        exact ⟨rfl, hSy6⟩
    case rest =>
      obtain ⟨rfl, hbc⟩ := hcut
      replace bA := bA.below hbc
      replace bB := bB.below hbc
      replace bC := bC.below hbc
      replace bJ := bJ.below hbc
      replace bD := bD.below hbc
      replace hB0 := hB0.trans (hbc.mono hB0.size)
      clear hbc L5 L6 L7 L8 L9 L10
      go_wp2_with fail
      refine wp_drawn_tail 12 (fun i => i == 10 || i == 11) (leaves [Lv.val (VecV a), Lv.val (VecV b), Lv.val (VecV c), Lv.vs [a, b, c], Lv.val (VecV T), Lv.val (VecV a), Lv.val (VecV b), Lv.val (VecV c), Lv.vs [a, b, c], Lv.val (VecV E), Lv.box wc.heap.size, Lv.box wc.heap.size]) (by kernel_rfl) (leaves_st _) (by simp) (by kernel_rfl) (by kernel_rfl) (by kernel_rfl) (by kernel_rfl) ?_ ?_ ?_
      case refine_1 =>
        intro i o j b hin ho hgd
        match i, ho with
        | 0, ho => cases ho; cases hgd
        | 1, ho => cases ho; cases hgd
        | 2, ho => cases ho; cases hgd
        | 3, ho => cases ho; cases hgd
        | 4, ho => cases ho; cases hgd
        | 5, ho => cases ho; cases hgd
        | 6, ho => cases ho; cases hgd
        | 7, ho => cases ho; cases hgd
        | 8, ho => cases ho; cases hgd
        | 9, ho => cases ho; cases hgd
        | 10, ho => cases ho; cases hgd
        | 11, ho => cases ho; cases hgd
        | i + 12, ho => omega
      case refine_2 =>
        intro i o hin ho _ ac W hdf hBW hF hD
        match i, ho with
        | 0, ho =>
          cases ho
          have r := hF 3 (by kernel_rfl)
          unfold Oper.wp
          rw [exec_load_vec rfl (evT r) ((bA.below hBW).at)]
          exact ⟨_, rfl, rfl, Below.refl _ _, fun h => by cases h⟩
        | 1, ho =>
          cases ho
          have r := hF 4 (by kernel_rfl)
          unfold Oper.wp
          rw [exec_load_vec rfl (evT r) ((bB.below hBW).at)]
          exact ⟨_, rfl, rfl, Below.refl _ _, fun h => by cases h⟩
        | 2, ho =>
          cases ho
          have r := hF 5 (by kernel_rfl)
          unfold Oper.wp
          rw [exec_load_vec rfl (evT r) ((bC.below hBW).at)]
          exact ⟨_, rfl, rfl, Below.refl _ _, fun h => by cases h⟩
        | 3, ho =>
          cases ho
          have r69 : ac.tmps[69]?.getD undef = VecV a := hD 0 (by kernel_rfl)
          have r70 : ac.tmps[70]?.getD undef = VecV b := hD 1 (by kernel_rfl)
          have r71 : ac.tmps[71]?.getD undef = VecV c := hD 2 (by kernel_rfl)
          refine wp_build_vecs _ 3 rfl [a, b, c] rfl (by simp) (by simp) (by simp only [List.map_toArray, List.map_cons, List.map_nil, evT r69, evT r70, evT r71]; rfl) ?_
          exact ⟨_, rfl, es_built _ _ rfl, below_alloc _ _, fun h => by cases h⟩
        | 4, ho =>
          cases ho
          have r : Es eVec W (ac.tmps[72]?.getD undef) [a, b, c] := hD 3 (by kernel_rfl)
          unfold Oper.wp
          go_simp
          refine (CA.out W _ r).mono ?_
          rintro e W' ⟨rfl, hb⟩
          first | exact ⟨_, rfl, rfl, hb, fun h => by cases h⟩ | exact ⟨_, rfl, rfl, hb⟩
        | 5, ho =>
          cases ho
          have r := hF 3 (by kernel_rfl)
          unfold Oper.wp
          rw [exec_load_vec rfl (evT r) ((bA.below hBW).at)]
          exact ⟨_, rfl, rfl, Below.refl _ _, fun h => by cases h⟩
        | 6, ho =>
          cases ho
          have r := hF 4 (by kernel_rfl)
          unfold Oper.wp
          rw [exec_load_vec rfl (evT r) ((bB.below hBW).at)]
          exact ⟨_, rfl, rfl, Below.refl _ _, fun h => by cases h⟩
        | 7, ho =>
          cases ho
          have r := hF 5 (by kernel_rfl)
          unfold Oper.wp
          rw [exec_load_vec rfl (evT r) ((bC.below hBW).at)]
          exact ⟨_, rfl, rfl, Below.refl _ _, fun h => by cases h⟩
        | 8, ho =>
          cases ho
          have r74 : ac.tmps[74]?.getD undef = VecV a := hD 5 (by kernel_rfl)
          have r75 : ac.tmps[75]?.getD undef = VecV b := hD 6 (by kernel_rfl)
          have r76 : ac.tmps[76]?.getD undef = VecV c := hD 7 (by kernel_rfl)
          refine wp_build_vecs _ 3 rfl [a, b, c] rfl (by simp) (by simp) (by simp only [List.map_toArray, List.map_cons, List.map_nil, evT r74, evT r75, evT r76]; rfl) ?_
          exact ⟨_, rfl, es_built _ _ rfl, below_alloc _ _, fun h => by cases h⟩
        | 9, ho =>
          cases ho
          have r : Es eVec W (ac.tmps[77]?.getD undef) [a, b, c] := hD 8 (by kernel_rfl)
          unfold Oper.wp
          go_simp
          refine (CE.out W _ r).mono ?_
          rintro e W' ⟨rfl, hb⟩
          first | exact ⟨_, rfl, rfl, hb, fun h => by cases h⟩ | exact ⟨_, rfl, rfl, hb⟩
        | 10, ho =>
          cases ho
          refine wp_alloc_vec rfl ?_
          exact ⟨_, rfl, ⟨_, rfl, BoxV.new _ _, hBW.size⟩, below_alloc _ _, fun _ => ⟨_, rfl, Nat.le_refl _, by rw [World.size_alloc]; exact Nat.lt_succ_self _⟩⟩
        | 11, ho =>
          cases ho
          refine wp_alloc_vec rfl ?_
          exact ⟨_, rfl, ⟨_, rfl, BoxV.new _ _, hBW.size⟩, below_alloc _ _, fun _ => ⟨_, rfl, Nat.le_refl _, by rw [World.size_alloc]; exact Nat.lt_succ_self _⟩⟩
        | i + 12, ho => omega
      case refine_3 =>
        intro L W hL hBW hSp hap ac ha
        obtain ⟨x0, L0, rfl, hL0⟩ := len_succ hL
        obtain ⟨x1, L1, rfl, hL1⟩ := len_succ hL0
        obtain ⟨x2, L2, rfl, hL2⟩ := len_succ hL1
        obtain ⟨x3, L3, rfl, hL3⟩ := len_succ hL2
        obtain ⟨x4, L4, rfl, hL4⟩ := len_succ hL3
        obtain ⟨x5, L5, rfl, hL5⟩ := len_succ hL4
        obtain ⟨x6, L6, rfl, hL6⟩ := len_succ hL5
        obtain ⟨x7, L7, rfl, hL7⟩ := len_succ hL6
        obtain ⟨x8, L8, rfl, hL8⟩ := len_succ hL7
        obtain ⟨x9, L9, rfl, hL9⟩ := len_succ hL8
        obtain ⟨x10, L10, rfl, hL10⟩ := len_succ hL9
        obtain ⟨x11, L11, rfl, hL11⟩ := len_succ hL10
        obtain rfl := List.eq_nil_of_length_eq_zero hL11
        obtain rfl : x0 = (VecV a) := hSp 0 _ rfl
        obtain rfl : x1 = (VecV b) := hSp 1 _ rfl
        obtain rfl : x2 = (VecV c) := hSp 2 _ rfl
        obtain rfl : x4 = (VecV T) := hSp 4 _ rfl
        obtain rfl : x5 = (VecV a) := hSp 5 _ rfl
        obtain rfl : x6 = (VecV b) := hSp 6 _ rfl
        obtain rfl : x7 = (VecV c) := hSp 7 _ rfl
        obtain rfl : x9 = (VecV E) := hSp 9 _ rfl
        obtain ⟨z10, rfl, e10, l10⟩ : ∃ z, x10 = .pointer (some ⟨z, 0, none⟩) ∧ BoxV W z zeroV ∧ wc.heap.size ≤ z := hSp 10 _ rfl
        obtain ⟨z11, rfl, e11, l11⟩ : ∃ z, x11 = .pointer (some ⟨z, 0, none⟩) ∧ BoxV W z zeroV ∧ wc.heap.size ≤ z := hSp 11 _ rfl
        have hne : z10 ≠ z11 := fun h => hap 10 11 _ _ (by decide) rfl rfl rfl rfl (by rw [h])
        simp only [putsL, List.take_succ_cons, List.take_zero, Act.put, List.setIfInBounds_toArray, List.set_cons_succ, List.set_cons_zero] at ha
        subst ha
        simp only [List.drop_succ_cons, List.drop_zero]
        refine wpList_store_vec rfl (.tmp 10) (.tmp 73) rfl rfl e10 rfl ?_
        intro W1 f1 k1
        refine wpList_store_vec rfl (.tmp 11) (.tmp 78) rfl rfl (e11.kept k1 (fun h => hne h.symm)) rfl ?_
        intro v2 bE k2
        have bT := f1.kept k2 hne
        have hkk : Below wc.heap.size wc v2 := (hBW.trans (k1.below (B := wc.heap.size) (fun j _ e => by subst e; exact l10) hBW.size)).trans (k2.below (B := wc.heap.size) (fun j _ e => by subst e; exact l11) (Nat.le_trans hBW.size k1.size))
        refine wpList_nil ?_
        clear f1 k1 k2 e10 e11 hBW
        replace bA := bA.below hkk
        replace bB := bB.below hkk
        replace bC := bC.below hkk
        replace bJ := bJ.below hkk
        replace bD := bD.below hkk
        replace hB0 := hB0.trans (hkk.mono hB0.size)
        clear hkk hSp hap
        go_wp2_with fail
        refine wp_drawn_tail 62 (fun _ => false) (leaves [Lv.val (.bool true), Lv.val (.bool true), Lv.val (VecV b), Lv.val (VecV a), Lv.vs [b, a], Lv.val (VecV J), Lv.val (VecV J), Lv.val (.bool true), Lv.val (.bool true), Lv.val (.bool true), Lv.val (VecV b), Lv.val (VecV a), Lv.vs [b, a], Lv.val (VecV D), Lv.val (VecV D), Lv.val (.bool true), Lv.val (.bool true), Lv.val (.bool true), Lv.val (VecV c), Lv.val (VecV J), Lv.val (VecV a), Lv.vs [c, J, a], Lv.val (VecV T), Lv.val (VecV T), Lv.val (.bool true), Lv.val (.bool true), Lv.val (.bool true), Lv.val (VecV c), Lv.val (VecV D), Lv.val (VecV a), Lv.vs [c, D, a], Lv.val (VecV E), Lv.val (VecV E), Lv.val (.bool true), Lv.val (.bool true), Lv.val (.bool true), Lv.val (VecV a), Lv.val (VecV a), Lv.vs [a, a], Lv.val (VecV a), Lv.val (VecV a), Lv.val (.bool true), Lv.val (.bool true), Lv.val (.bool true), Lv.val (VecV a), Lv.val (VecV a), Lv.vs [a, a], Lv.val (VecV a), Lv.val (VecV a), Lv.val (.bool true), Lv.val (.bool true), Lv.val (.bool true), Lv.val (VecV a), Lv.val (VecV a), Lv.val (VecV b), Lv.vs [a, b], Lv.val (VecV D), Lv.vs [a, D], Lv.val (VecV a), Lv.val (VecV a), Lv.val (.bool true), Lv.val (.bool true)]) (by kernel_rfl) (leaves_st _) (by simp) (by kernel_rfl) (by kernel_rfl) (by kernel_rfl) (by kernel_rfl) ?_ ?_ ?_
        case refine_1 =>
          intro i o j b hin ho hgd
          match i, ho with
          | 0, ho => cases ho; cases hgd
          | 1, ho => cases ho; cases hgd
          | 2, ho => cases ho; cases hgd; exact .inl fun v w h => h
          | 3, ho => cases ho; cases hgd; exact .inl fun v w h => h
          | 4, ho => cases ho; cases hgd; exact .inl fun v w h => h
          | 5, ho => cases ho; cases hgd; exact .inl fun v w h => h
          | 6, ho => cases ho; cases hgd; exact .inl fun v w h => h
          | 7, ho => cases ho; cases hgd; exact .inl fun v w h => h
          | 8, ho => cases ho; cases hgd
          | 9, ho => cases ho; cases hgd
          | 10, ho => cases ho; cases hgd; exact .inl fun v w h => h
          | 11, ho => cases ho; cases hgd; exact .inl fun v w h => h
          | 12, ho => cases ho; cases hgd; exact .inl fun v w h => h
          | 13, ho => cases ho; cases hgd; exact .inl fun v w h => h
          | 14, ho => cases ho; cases hgd; exact .inl fun v w h => h
          | 15, ho => cases ho; cases hgd; exact .inl fun v w h => h
          | 16, ho => cases ho; cases hgd
          | 17, ho => cases ho; cases hgd
          | 18, ho => cases ho; cases hgd; exact .inl fun v w h => h
          | 19, ho => cases ho; cases hgd; exact .inl fun v w h => h
          | 20, ho => cases ho; cases hgd; exact .inl fun v w h => h
          | 21, ho => cases ho; cases hgd; exact .inl fun v w h => h
          | 22, ho => cases ho; cases hgd; exact .inl fun v w h => h
          | 23, ho => cases ho; cases hgd; exact .inl fun v w h => h
          | 24, ho => cases ho; cases hgd; exact .inl fun v w h => h
          | 25, ho => cases ho; cases hgd
          | 26, ho => cases ho; cases hgd
          | 27, ho => cases ho; cases hgd; exact .inl fun v w h => h
          | 28, ho => cases ho; cases hgd; exact .inl fun v w h => h
          | 29, ho => cases ho; cases hgd; exact .inl fun v w h => h
          | 30, ho => cases ho; cases hgd; exact .inl fun v w h => h
          | 31, ho => cases ho; cases hgd; exact .inl fun v w h => h
          | 32, ho => cases ho; cases hgd; exact .inl fun v w h => h
          | 33, ho => cases ho; cases hgd; exact .inl fun v w h => h
          | 34, ho => cases ho; cases hgd
          | 35, ho => cases ho; cases hgd
          | 36, ho => cases ho; cases hgd; exact .inl fun v w h => h
          | 37, ho => cases ho; cases hgd; exact .inl fun v w h => h
          | 38, ho => cases ho; cases hgd; exact .inl fun v w h => h
          | 39, ho => cases ho; cases hgd; exact .inl fun v w h => h
          | 40, ho => cases ho; cases hgd; exact .inl fun v w h => h
          | 41, ho => cases ho; cases hgd; exact .inl fun v w h => h
          | 42, ho => cases ho; cases hgd
          | 43, ho => cases ho; cases hgd
          | 44, ho => cases ho; cases hgd; exact .inl fun v w h => h
          | 45, ho => cases ho; cases hgd; exact .inl fun v w h => h
          | 46, ho => cases ho; cases hgd; exact .inl fun v w h => h
          | 47, ho => cases ho; cases hgd; exact .inl fun v w h => h
          | 48, ho => cases ho; cases hgd; exact .inl fun v w h => h
          | 49, ho => cases ho; cases hgd; exact .inl fun v w h => h
          | 50, ho => cases ho; cases hgd
          | 51, ho => cases ho; cases hgd
          | 52, ho => cases ho; cases hgd; exact .inl fun v w h => h
          | 53, ho => cases ho; cases hgd; exact .inl fun v w h => h
          | 54, ho => cases ho; cases hgd; exact .inl fun v w h => h
          | 55, ho => cases ho; cases hgd; exact .inl fun v w h => h
          | 56, ho => cases ho; cases hgd; exact .inl fun v w h => h
          | 57, ho => cases ho; cases hgd; exact .inl fun v w h => h
          | 58, ho => cases ho; cases hgd; exact .inl fun v w h => h
          | 59, ho => cases ho; cases hgd; exact .inl fun v w h => h
          | 60, ho => cases ho; cases hgd; exact .inl fun v w h => h
          | 61, ho => cases ho; cases hgd
          | i + 62, ho => omega
        case refine_2 =>
          intro i o hin ho hgd ac W hdf hBW hF hD
          match i, ho with
          | 0, ho =>
            cases ho
            have r7 : ac.tmps[7]?.getD undef = (.bool true) := hF 7 (by kernel_rfl)
            unfold Oper.wp
            go_simp
            first | exact ⟨_, rfl, rfl, Below.refl _ _, fun h => by cases h⟩ | exact ⟨_, rfl, rfl, Below.refl _ _⟩
          | 1, ho =>
            cases ho
            have r79 : ac.tmps[79]?.getD undef = (.bool true) := hD 0 (by kernel_rfl)
            unfold Oper.wp
            go_simp
            first | exact ⟨_, rfl, rfl, Below.refl _ _, fun h => by cases h⟩ | exact ⟨_, rfl, rfl, Below.refl _ _⟩
          | 2, ho =>
            cases ho
            have r4 : ac.tmps[4]?.getD undef = (.pointer (some ⟨w.heap.size + 1, 0, none⟩)) := hF 4 (by kernel_rfl)
            unfold Oper.wp
            rw [exec_load_vec rfl (evT r4) ((bB.below hBW).at)]
            first | exact ⟨_, rfl, rfl, Below.refl _ _, fun h => by cases h⟩ | exact ⟨_, rfl, rfl, Below.refl _ _⟩
          | 3, ho =>
            cases ho
            have r3 : ac.tmps[3]?.getD undef = (.pointer (some ⟨w.heap.size, 0, none⟩)) := hF 3 (by kernel_rfl)
            unfold Oper.wp
            rw [exec_load_vec rfl (evT r3) ((bA.below hBW).at)]
            first | exact ⟨_, rfl, rfl, Below.refl _ _, fun h => by cases h⟩ | exact ⟨_, rfl, rfl, Below.refl _ _⟩
          | 4, ho =>
            cases ho
            have r81 : ac.tmps[81]?.getD undef = (VecV b) := hD 2 (by kernel_rfl)
            have r82 : ac.tmps[82]?.getD undef = (VecV a) := hD 3 (by kernel_rfl)
            refine wp_build_vecs _ 2 rfl [b, a] rfl (by simp) (by simp) (by simp only [List.map_toArray, List.map_cons, List.map_nil, evT r81, evT r82]; rfl) ?_
            exact ⟨_, rfl, es_built _ _ rfl, below_alloc _ _, fun h => by cases h⟩
          | 5, ho =>
            cases ho
            have r83 : Es eVec W (ac.tmps[83]?.getD undef) [b, a] := hD 4 (by kernel_rfl)
            unfold Oper.wp
            go_simp
            refine (CJ'.out W _ r83).mono ?_
            rintro e W' ⟨rfl, hb⟩
            first | exact ⟨_, rfl, rfl, hb, fun h => by cases h⟩ | exact ⟨_, rfl, rfl, hb⟩
          | 6, ho =>
            cases ho
            have r8 : ac.tmps[8]?.getD undef = (.pointer (some ⟨z8, 0, none⟩)) := hF 8 (by kernel_rfl)
            unfold Oper.wp
            rw [exec_load_vec rfl (evT r8) ((bJ.below hBW).at)]
            first | exact ⟨_, rfl, rfl, Below.refl _ _, fun h => by cases h⟩ | exact ⟨_, rfl, rfl, Below.refl _ _⟩
          | 7, ho =>
            cases ho
            have r84 : ac.tmps[84]?.getD undef = (VecV J) := hD 5 (by kernel_rfl)
            have r85 : ac.tmps[85]?.getD undef = (VecV J) := hD 6 (by kernel_rfl)
            unfold Oper.wp
            rw [exec_eql_vec rfl (evT r84) (evT r85) (decide_eq_true rfl)]
            first | exact ⟨_, rfl, rfl, Below.refl _ _, fun h => by cases h⟩ | exact ⟨_, rfl, rfl, Below.refl _ _⟩
          | 8, ho =>
            cases ho
            have r80 : ac.tmps[80]?.getD undef = (.bool true) := hD 1 (by kernel_rfl)
            have r86 : ac.tmps[86]?.getD undef = (.bool true) := hD 7 (by kernel_rfl)
            unfold Oper.wp
            go_simp
            first | exact ⟨_, rfl, rfl, Below.refl _ _, fun h => by cases h⟩ | exact ⟨_, rfl, rfl, Below.refl _ _⟩
          | 9, ho =>
            cases ho
            have r87 : ac.tmps[87]?.getD undef = (.bool true) := hD 8 (by kernel_rfl)
            unfold Oper.wp
            go_simp
            first | exact ⟨_, rfl, rfl, Below.refl _ _, fun h => by cases h⟩ | exact ⟨_, rfl, rfl, Below.refl _ _⟩
          | 10, ho =>
            cases ho
            have r4 : ac.tmps[4]?.getD undef = (.pointer (some ⟨w.heap.size + 1, 0, none⟩)) := hF 4 (by kernel_rfl)
            unfold Oper.wp
            rw [exec_load_vec rfl (evT r4) ((bB.below hBW).at)]
            first | exact ⟨_, rfl, rfl, Below.refl _ _, fun h => by cases h⟩ | exact ⟨_, rfl, rfl, Below.refl _ _⟩
          | 11, ho =>
            cases ho
            have r3 : ac.tmps[3]?.getD undef = (.pointer (some ⟨w.heap.size, 0, none⟩)) := hF 3 (by kernel_rfl)
            unfold Oper.wp
            rw [exec_load_vec rfl (evT r3) ((bA.below hBW).at)]
            first | exact ⟨_, rfl, rfl, Below.refl _ _, fun h => by cases h⟩ | exact ⟨_, rfl, rfl, Below.refl _ _⟩
          | 12, ho =>
            cases ho
            have r89 : ac.tmps[89]?.getD undef = (VecV b) := hD 10 (by kernel_rfl)
            have r90 : ac.tmps[90]?.getD undef = (VecV a) := hD 11 (by kernel_rfl)
            refine wp_build_vecs _ 2 rfl [b, a] rfl (by simp) (by simp) (by simp only [List.map_toArray, List.map_cons, List.map_nil, evT r89, evT r90]; rfl) ?_
            exact ⟨_, rfl, es_built _ _ rfl, below_alloc _ _, fun h => by cases h⟩
          | 13, ho =>
            cases ho
            have r91 : Es eVec W (ac.tmps[91]?.getD undef) [b, a] := hD 12 (by kernel_rfl)
            unfold Oper.wp
            go_simp
            refine (CD'.out W _ r91).mono ?_
            rintro e W' ⟨rfl, hb⟩
            first | exact ⟨_, rfl, rfl, hb, fun h => by cases h⟩ | exact ⟨_, rfl, rfl, hb⟩
          | 14, ho =>
            cases ho
            have r9 : ac.tmps[9]?.getD undef = (.pointer (some ⟨z9, 0, none⟩)) := hF 9 (by kernel_rfl)
            unfold Oper.wp
            rw [exec_load_vec rfl (evT r9) ((bD.below hBW).at)]
            first | exact ⟨_, rfl, rfl, Below.refl _ _, fun h => by cases h⟩ | exact ⟨_, rfl, rfl, Below.refl _ _⟩
          | 15, ho =>
            cases ho
            have r92 : ac.tmps[92]?.getD undef = (VecV D) := hD 13 (by kernel_rfl)
            have r93 : ac.tmps[93]?.getD undef = (VecV D) := hD 14 (by kernel_rfl)
            unfold Oper.wp
            rw [exec_eql_vec rfl (evT r92) (evT r93) (decide_eq_true rfl)]
            first | exact ⟨_, rfl, rfl, Below.refl _ _, fun h => by cases h⟩ | exact ⟨_, rfl, rfl, Below.refl _ _⟩
          | 16, ho =>
            cases ho
            have r88 : ac.tmps[88]?.getD undef = (.bool true) := hD 9 (by kernel_rfl)
            have r94 : ac.tmps[94]?.getD undef = (.bool true) := hD 15 (by kernel_rfl)
            unfold Oper.wp
            go_simp
            first | exact ⟨_, rfl, rfl, Below.refl _ _, fun h => by cases h⟩ | exact ⟨_, rfl, rfl, Below.refl _ _⟩
          | 17, ho =>
            cases ho
            have r95 : ac.tmps[95]?.getD undef = (.bool true) := hD 16 (by kernel_rfl)
            unfold Oper.wp
            go_simp
            first | exact ⟨_, rfl, rfl, Below.refl _ _, fun h => by cases h⟩ | exact ⟨_, rfl, rfl, Below.refl _ _⟩
          | 18, ho =>
            cases ho
            have r5 : ac.tmps[5]?.getD undef = (.pointer (some ⟨w.heap.size + 1 + 1, 0, none⟩)) := hF 5 (by kernel_rfl)
            unfold Oper.wp
            rw [exec_load_vec rfl (evT r5) ((bC.below hBW).at)]
            first | exact ⟨_, rfl, rfl, Below.refl _ _, fun h => by cases h⟩ | exact ⟨_, rfl, rfl, Below.refl _ _⟩
          | 19, ho =>
            cases ho
            have r8 : ac.tmps[8]?.getD undef = (.pointer (some ⟨z8, 0, none⟩)) := hF 8 (by kernel_rfl)
            unfold Oper.wp
            rw [exec_load_vec rfl (evT r8) ((bJ.below hBW).at)]
            first | exact ⟨_, rfl, rfl, Below.refl _ _, fun h => by cases h⟩ | exact ⟨_, rfl, rfl, Below.refl _ _⟩
          | 20, ho =>
            cases ho
            have r3 : ac.tmps[3]?.getD undef = (.pointer (some ⟨w.heap.size, 0, none⟩)) := hF 3 (by kernel_rfl)
            unfold Oper.wp
            rw [exec_load_vec rfl (evT r3) ((bA.below hBW).at)]
            first | exact ⟨_, rfl, rfl, Below.refl _ _, fun h => by cases h⟩ | exact ⟨_, rfl, rfl, Below.refl _ _⟩
          | 21, ho =>
            cases ho
            have r97 : ac.tmps[97]?.getD undef = (VecV c) := hD 18 (by kernel_rfl)
            have r98 : ac.tmps[98]?.getD undef = (VecV J) := hD 19 (by kernel_rfl)
            have r99 : ac.tmps[99]?.getD undef = (VecV a) := hD 20 (by kernel_rfl)
            refine wp_build_vecs _ 3 rfl [c, J, a] rfl (by simp) (by simp) (by simp only [List.map_toArray, List.map_cons, List.map_nil, evT r97, evT r98, evT r99]; rfl) ?_
            exact ⟨_, rfl, es_built _ _ rfl, below_alloc _ _, fun h => by cases h⟩
          | 22, ho =>
            cases ho
            have r100 : Es eVec W (ac.tmps[100]?.getD undef) [c, J, a] := hD 21 (by kernel_rfl)
            unfold Oper.wp
            go_simp
            refine (CA'.out W _ r100).mono ?_
            rintro e W' ⟨rfl, hb⟩
            first | exact ⟨_, rfl, rfl, hb, fun h => by cases h⟩ | exact ⟨_, rfl, rfl, hb⟩
          | 23, ho =>
            cases ho
            have r10 : ac.tmps[10]?.getD undef = (.pointer (some ⟨z10, 0, none⟩)) := hF 10 (by kernel_rfl)
            unfold Oper.wp
            rw [exec_load_vec rfl (evT r10) ((bT.below hBW).at)]
            first | exact ⟨_, rfl, rfl, Below.refl _ _, fun h => by cases h⟩ | exact ⟨_, rfl, rfl, Below.refl _ _⟩
          | 24, ho =>
            cases ho
            have r101 : ac.tmps[101]?.getD undef = (VecV T) := hD 22 (by kernel_rfl)
            have r102 : ac.tmps[102]?.getD undef = (VecV T) := hD 23 (by kernel_rfl)
            unfold Oper.wp
            rw [exec_eql_vec rfl (evT r101) (evT r102) (decide_eq_true rfl)]
            first | exact ⟨_, rfl, rfl, Below.refl _ _, fun h => by cases h⟩ | exact ⟨_, rfl, rfl, Below.refl _ _⟩
          | 25, ho =>
            cases ho
            have r96 : ac.tmps[96]?.getD undef = (.bool true) := hD 17 (by kernel_rfl)
            have r103 : ac.tmps[103]?.getD undef = (.bool true) := hD 24 (by kernel_rfl)
            unfold Oper.wp
            go_simp
            first | exact ⟨_, rfl, rfl, Below.refl _ _, fun h => by cases h⟩ | exact ⟨_, rfl, rfl, Below.refl _ _⟩
          | 26, ho =>
            cases ho
            have r104 : ac.tmps[104]?.getD undef = (.bool true) := hD 25 (by kernel_rfl)
            unfold Oper.wp
            go_simp
            first | exact ⟨_, rfl, rfl, Below.refl _ _, fun h => by cases h⟩ | exact ⟨_, rfl, rfl, Below.refl _ _⟩
          | 27, ho =>
            cases ho
            have r5 : ac.tmps[5]?.getD undef = (.pointer (some ⟨w.heap.size + 1 + 1, 0, none⟩)) := hF 5 (by kernel_rfl)
            unfold Oper.wp
            rw [exec_load_vec rfl (evT r5) ((bC.below hBW).at)]
            first | exact ⟨_, rfl, rfl, Below.refl _ _, fun h => by cases h⟩ | exact ⟨_, rfl, rfl, Below.refl _ _⟩
          | 28, ho =>
            cases ho
            have r9 : ac.tmps[9]?.getD undef = (.pointer (some ⟨z9, 0, none⟩)) := hF 9 (by kernel_rfl)
            unfold Oper.wp
            rw [exec_load_vec rfl (evT r9) ((bD.below hBW).at)]
            first | exact ⟨_, rfl, rfl, Below.refl _ _, fun h => by cases h⟩ | exact ⟨_, rfl, rfl, Below.refl _ _⟩
          | 29, ho =>
            cases ho
            have r3 : ac.tmps[3]?.getD undef = (.pointer (some ⟨w.heap.size, 0, none⟩)) := hF 3 (by kernel_rfl)
            unfold Oper.wp
            rw [exec_load_vec rfl (evT r3) ((bA.below hBW).at)]
            first | exact ⟨_, rfl, rfl, Below.refl _ _, fun h => by cases h⟩ | exact ⟨_, rfl, rfl, Below.refl _ _⟩
          | 30, ho =>
            cases ho
            have r106 : ac.tmps[106]?.getD undef = (VecV c) := hD 27 (by kernel_rfl)
            have r107 : ac.tmps[107]?.getD undef = (VecV D) := hD 28 (by kernel_rfl)
            have r108 : ac.tmps[108]?.getD undef = (VecV a) := hD 29 (by kernel_rfl)
            refine wp_build_vecs _ 3 rfl [c, D, a] rfl (by simp) (by simp) (by simp only [List.map_toArray, List.map_cons, List.map_nil, evT r106, evT r107, evT r108]; rfl) ?_
            exact ⟨_, rfl, es_built _ _ rfl, below_alloc _ _, fun h => by cases h⟩
          | 31, ho =>
            cases ho
            have r109 : Es eVec W (ac.tmps[109]?.getD undef) [c, D, a] := hD 30 (by kernel_rfl)
            unfold Oper.wp
            go_simp
            refine (CE'.out W _ r109).mono ?_
            rintro e W' ⟨rfl, hb⟩
            first | exact ⟨_, rfl, rfl, hb, fun h => by cases h⟩ | exact ⟨_, rfl, rfl, hb⟩
          | 32, ho =>
            cases ho
            have r11 : ac.tmps[11]?.getD undef = (.pointer (some ⟨z11, 0, none⟩)) := hF 11 (by kernel_rfl)
            unfold Oper.wp
            rw [exec_load_vec rfl (evT r11) ((bE.below hBW).at)]
            first | exact ⟨_, rfl, rfl, Below.refl _ _, fun h => by cases h⟩ | exact ⟨_, rfl, rfl, Below.refl _ _⟩
          | 33, ho =>
            cases ho
            have r110 : ac.tmps[110]?.getD undef = (VecV E) := hD 31 (by kernel_rfl)
            have r111 : ac.tmps[111]?.getD undef = (VecV E) := hD 32 (by kernel_rfl)
            unfold Oper.wp
            rw [exec_eql_vec rfl (evT r110) (evT r111) (decide_eq_true rfl)]
            first | exact ⟨_, rfl, rfl, Below.refl _ _, fun h => by cases h⟩ | exact ⟨_, rfl, rfl, Below.refl _ _⟩
          | 34, ho =>
            cases ho
            have r105 : ac.tmps[105]?.getD undef = (.bool true) := hD 26 (by kernel_rfl)
            have r112 : ac.tmps[112]?.getD undef = (.bool true) := hD 33 (by kernel_rfl)
            unfold Oper.wp
            go_simp
            first | exact ⟨_, rfl, rfl, Below.refl _ _, fun h => by cases h⟩ | exact ⟨_, rfl, rfl, Below.refl _ _⟩
          | 35, ho =>
            cases ho
            have r113 : ac.tmps[113]?.getD undef = (.bool true) := hD 34 (by kernel_rfl)
            unfold Oper.wp
            go_simp
            first | exact ⟨_, rfl, rfl, Below.refl _ _, fun h => by cases h⟩ | exact ⟨_, rfl, rfl, Below.refl _ _⟩
          | 36, ho =>
            cases ho
            have r3 : ac.tmps[3]?.getD undef = (.pointer (some ⟨w.heap.size, 0, none⟩)) := hF 3 (by kernel_rfl)
            unfold Oper.wp
            rw [exec_load_vec rfl (evT r3) ((bA.below hBW).at)]
            first | exact ⟨_, rfl, rfl, Below.refl _ _, fun h => by cases h⟩ | exact ⟨_, rfl, rfl, Below.refl _ _⟩
          | 37, ho =>
            cases ho
            have r3 : ac.tmps[3]?.getD undef = (.pointer (some ⟨w.heap.size, 0, none⟩)) := hF 3 (by kernel_rfl)
            unfold Oper.wp
            rw [exec_load_vec rfl (evT r3) ((bA.below hBW).at)]
            first | exact ⟨_, rfl, rfl, Below.refl _ _, fun h => by cases h⟩ | exact ⟨_, rfl, rfl, Below.refl _ _⟩
          | 38, ho =>
            cases ho
            have r115 : ac.tmps[115]?.getD undef = (VecV a) := hD 36 (by kernel_rfl)
            have r116 : ac.tmps[116]?.getD undef = (VecV a) := hD 37 (by kernel_rfl)
            refine wp_build_vecs _ 2 rfl [a, a] rfl (by simp) (by simp) (by simp only [List.map_toArray, List.map_cons, List.map_nil, evT r115, evT r116]; rfl) ?_
            exact ⟨_, rfl, es_built _ _ rfl, below_alloc _ _, fun h => by cases h⟩
          | 39, ho =>
            cases ho
            have r117 : Es eVec W (ac.tmps[117]?.getD undef) [a, a] := hD 38 (by kernel_rfl)
            unfold Oper.wp
            go_simp
            refine (CS.out W _ r117).mono ?_
            rintro e W' ⟨rfl, hb⟩
            first | exact ⟨_, rfl, rfl, hb, fun h => by cases h⟩ | exact ⟨_, rfl, rfl, hb⟩
          | 40, ho =>
            cases ho
            have r3 : ac.tmps[3]?.getD undef = (.pointer (some ⟨w.heap.size, 0, none⟩)) := hF 3 (by kernel_rfl)
            unfold Oper.wp
            rw [exec_load_vec rfl (evT r3) ((bA.below hBW).at)]
            first | exact ⟨_, rfl, rfl, Below.refl _ _, fun h => by cases h⟩ | exact ⟨_, rfl, rfl, Below.refl _ _⟩
          | 41, ho =>
            cases ho
            have r118 : ac.tmps[118]?.getD undef = (VecV a) := hD 39 (by kernel_rfl)
            have r119 : ac.tmps[119]?.getD undef = (VecV a) := hD 40 (by kernel_rfl)
            unfold Oper.wp
            rw [exec_eql_vec rfl (evT r118) (evT r119) (decide_eq_true rfl)]
            first | exact ⟨_, rfl, rfl, Below.refl _ _, fun h => by cases h⟩ | exact ⟨_, rfl, rfl, Below.refl _ _⟩
          | 42, ho =>
            cases ho
            have r114 : ac.tmps[114]?.getD undef = (.bool true) := hD 35 (by kernel_rfl)
            have r120 : ac.tmps[120]?.getD undef = (.bool true) := hD 41 (by kernel_rfl)
            unfold Oper.wp
            go_simp
            first | exact ⟨_, rfl, rfl, Below.refl _ _, fun h => by cases h⟩ | exact ⟨_, rfl, rfl, Below.refl _ _⟩
          | 43, ho =>
            cases ho
            have r121 : ac.tmps[121]?.getD undef = (.bool true) := hD 42 (by kernel_rfl)
            unfold Oper.wp
            go_simp
            first | exact ⟨_, rfl, rfl, Below.refl _ _, fun h => by cases h⟩ | exact ⟨_, rfl, rfl, Below.refl _ _⟩
          | 44, ho =>
            cases ho
            have r3 : ac.tmps[3]?.getD undef = (.pointer (some ⟨w.heap.size, 0, none⟩)) := hF 3 (by kernel_rfl)
            unfold Oper.wp
            rw [exec_load_vec rfl (evT r3) ((bA.below hBW).at)]
            first | exact ⟨_, rfl, rfl, Below.refl _ _, fun h => by cases h⟩ | exact ⟨_, rfl, rfl, Below.refl _ _⟩
          | 45, ho =>
            cases ho
            have r3 : ac.tmps[3]?.getD undef = (.pointer (some ⟨w.heap.size, 0, none⟩)) := hF 3 (by kernel_rfl)
            unfold Oper.wp
            rw [exec_load_vec rfl (evT r3) ((bA.below hBW).at)]
            first | exact ⟨_, rfl, rfl, Below.refl _ _, fun h => by cases h⟩ | exact ⟨_, rfl, rfl, Below.refl _ _⟩
          | 46, ho =>
            cases ho
            have r123 : ac.tmps[123]?.getD undef = (VecV a) := hD 44 (by kernel_rfl)
            have r124 : ac.tmps[124]?.getD undef = (VecV a) := hD 45 (by kernel_rfl)
            refine wp_build_vecs _ 2 rfl [a, a] rfl (by simp) (by simp) (by simp only [List.map_toArray, List.map_cons, List.map_nil, evT r123, evT r124]; rfl) ?_
            exact ⟨_, rfl, es_built _ _ rfl, below_alloc _ _, fun h => by cases h⟩
          | 47, ho =>
            cases ho
            have r125 : Es eVec W (ac.tmps[125]?.getD undef) [a, a] := hD 46 (by kernel_rfl)
            unfold Oper.wp
            go_simp
            refine (CS'.out W _ r125).mono ?_
            rintro e W' ⟨rfl, hb⟩
            first | exact ⟨_, rfl, rfl, hb, fun h => by cases h⟩ | exact ⟨_, rfl, rfl, hb⟩
          | 48, ho =>
            cases ho
            have r3 : ac.tmps[3]?.getD undef = (.pointer (some ⟨w.heap.size, 0, none⟩)) := hF 3 (by kernel_rfl)
            unfold Oper.wp
            rw [exec_load_vec rfl (evT r3) ((bA.below hBW).at)]
            first | exact ⟨_, rfl, rfl, Below.refl _ _, fun h => by cases h⟩ | exact ⟨_, rfl, rfl, Below.refl _ _⟩
          | 49, ho =>
            cases ho
            have r126 : ac.tmps[126]?.getD undef = (VecV a) := hD 47 (by kernel_rfl)
            have r127 : ac.tmps[127]?.getD undef = (VecV a) := hD 48 (by kernel_rfl)
            unfold Oper.wp
            rw [exec_eql_vec rfl (evT r126) (evT r127) (decide_eq_true rfl)]
            first | exact ⟨_, rfl, rfl, Below.refl _ _, fun h => by cases h⟩ | exact ⟨_, rfl, rfl, Below.refl _ _⟩
          | 50, ho =>
            cases ho
            have r122 : ac.tmps[122]?.getD undef = (.bool true) := hD 43 (by kernel_rfl)
            have r128 : ac.tmps[128]?.getD undef = (.bool true) := hD 49 (by kernel_rfl)
            unfold Oper.wp
            go_simp
            first | exact ⟨_, rfl, rfl, Below.refl _ _, fun h => by cases h⟩ | exact ⟨_, rfl, rfl, Below.refl _ _⟩
          | 51, ho =>
            cases ho
            have r129 : ac.tmps[129]?.getD undef = (.bool true) := hD 50 (by kernel_rfl)
            unfold Oper.wp
            go_simp
            first | exact ⟨_, rfl, rfl, Below.refl _ _, fun h => by cases h⟩ | exact ⟨_, rfl, rfl, Below.refl _ _⟩
          | 52, ho =>
            cases ho
            have r3 : ac.tmps[3]?.getD undef = (.pointer (some ⟨w.heap.size, 0, none⟩)) := hF 3 (by kernel_rfl)
            unfold Oper.wp
            rw [exec_load_vec rfl (evT r3) ((bA.below hBW).at)]
            first | exact ⟨_, rfl, rfl, Below.refl _ _, fun h => by cases h⟩ | exact ⟨_, rfl, rfl, Below.refl _ _⟩
          | 53, ho =>
            cases ho
            have r3 : ac.tmps[3]?.getD undef = (.pointer (some ⟨w.heap.size, 0, none⟩)) := hF 3 (by kernel_rfl)
            unfold Oper.wp
            rw [exec_load_vec rfl (evT r3) ((bA.below hBW).at)]
            first | exact ⟨_, rfl, rfl, Below.refl _ _, fun h => by cases h⟩ | exact ⟨_, rfl, rfl, Below.refl _ _⟩
          | 54, ho =>
            cases ho
            have r4 : ac.tmps[4]?.getD undef = (.pointer (some ⟨w.heap.size + 1, 0, none⟩)) := hF 4 (by kernel_rfl)
            unfold Oper.wp
            rw [exec_load_vec rfl (evT r4) ((bB.below hBW).at)]
            first | exact ⟨_, rfl, rfl, Below.refl _ _, fun h => by cases h⟩ | exact ⟨_, rfl, rfl, Below.refl _ _⟩
          | 55, ho =>
            cases ho
            have r132 : ac.tmps[132]?.getD undef = (VecV a) := hD 53 (by kernel_rfl)
            have r133 : ac.tmps[133]?.getD undef = (VecV b) := hD 54 (by kernel_rfl)
            refine wp_build_vecs _ 2 rfl [a, b] rfl (by simp) (by simp) (by simp only [List.map_toArray, List.map_cons, List.map_nil, evT r132, evT r133]; rfl) ?_
            exact ⟨_, rfl, es_built _ _ rfl, below_alloc _ _, fun h => by cases h⟩
          | 56, ho =>
            cases ho
            have r134 : Es eVec W (ac.tmps[134]?.getD undef) [a, b] := hD 55 (by kernel_rfl)
            unfold Oper.wp
            go_simp
            refine (CD.out W _ r134).mono ?_
            rintro e W' ⟨rfl, hb⟩
            first | exact ⟨_, rfl, rfl, hb, fun h => by cases h⟩ | exact ⟨_, rfl, rfl, hb⟩
          | 57, ho =>
            cases ho
            have r131 : ac.tmps[131]?.getD undef = (VecV a) := hD 52 (by kernel_rfl)
            have r135 : ac.tmps[135]?.getD undef = (VecV D) := hD 56 (by kernel_rfl)
            refine wp_build_vecs _ 2 rfl [a, D] rfl (by simp) (by simp) (by simp only [List.map_toArray, List.map_cons, List.map_nil, evT r131, evT r135]; rfl) ?_
            exact ⟨_, rfl, es_built _ _ rfl, below_alloc _ _, fun h => by cases h⟩
          | 58, ho =>
            cases ho
            have r136 : Es eVec W (ac.tmps[136]?.getD undef) [a, D] := hD 57 (by kernel_rfl)
            unfold Oper.wp
            go_simp
            refine (CM.out W _ r136).mono ?_
            rintro e W' ⟨rfl, hb⟩
            first | exact ⟨_, rfl, rfl, hb, fun h => by cases h⟩ | exact ⟨_, rfl, rfl, hb⟩
          | 59, ho =>
            cases ho
            have r3 : ac.tmps[3]?.getD undef = (.pointer (some ⟨w.heap.size, 0, none⟩)) := hF 3 (by kernel_rfl)
            unfold Oper.wp
            rw [exec_load_vec rfl (evT r3) ((bA.below hBW).at)]
            first | exact ⟨_, rfl, rfl, Below.refl _ _, fun h => by cases h⟩ | exact ⟨_, rfl, rfl, Below.refl _ _⟩
          | 60, ho =>
            cases ho
            have r137 : ac.tmps[137]?.getD undef = (VecV a) := hD 58 (by kernel_rfl)
            have r138 : ac.tmps[138]?.getD undef = (VecV a) := hD 59 (by kernel_rfl)
            unfold Oper.wp
            rw [exec_eql_vec rfl (evT r137) (evT r138) (decide_eq_true rfl)]
            first | exact ⟨_, rfl, rfl, Below.refl _ _, fun h => by cases h⟩ | exact ⟨_, rfl, rfl, Below.refl _ _⟩
          | 61, ho =>
            cases ho
            have r130 : ac.tmps[130]?.getD undef = (.bool true) := hD 51 (by kernel_rfl)
            have r139 : ac.tmps[139]?.getD undef = (.bool true) := hD 60 (by kernel_rfl)
            unfold Oper.wp
            go_simp
            first | exact ⟨_, rfl, rfl, Below.refl _ _, fun h => by cases h⟩ | exact ⟨_, rfl, rfl, Below.refl _ _⟩
          | i + 62, ho => omega
        case refine_3 =>
          intro L W hL hBW hSp hap ac ha
          obtain ⟨x0, L0, rfl, hL0⟩ := len_succ hL
          obtain ⟨x1, L1, rfl, hL1⟩ := len_succ hL0
          obtain ⟨x2, L2, rfl, hL2⟩ := len_succ hL1
          obtain ⟨x3, L3, rfl, hL3⟩ := len_succ hL2
          obtain ⟨x4, L4, rfl, hL4⟩ := len_succ hL3
          obtain ⟨x5, L5, rfl, hL5⟩ := len_succ hL4
          obtain ⟨x6, L6, rfl, hL6⟩ := len_succ hL5
          obtain ⟨x7, L7, rfl, hL7⟩ := len_succ hL6
          obtain ⟨x8, L8, rfl, hL8⟩ := len_succ hL7
          obtain ⟨x9, L9, rfl, hL9⟩ := len_succ hL8
          obtain ⟨x10, L10, rfl, hL10⟩ := len_succ hL9
          obtain ⟨x11, L11, rfl, hL11⟩ := len_succ hL10
          obtain ⟨x12, L12, rfl, hL12⟩ := len_succ hL11
          obtain ⟨x13, L13, rfl, hL13⟩ := len_succ hL12
          obtain ⟨x14, L14, rfl, hL14⟩ := len_succ hL13
          obtain ⟨x15, L15, rfl, hL15⟩ := len_succ hL14
          obtain ⟨x16, L16, rfl, hL16⟩ := len_succ hL15
          obtain ⟨x17, L17, rfl, hL17⟩ := len_succ hL16
          obtain ⟨x18, L18, rfl, hL18⟩ := len_succ hL17
          obtain ⟨x19, L19, rfl, hL19⟩ := len_succ hL18
          obtain ⟨x20, L20, rfl, hL20⟩ := len_succ hL19
          obtain ⟨x21, L21, rfl, hL21⟩ := len_succ hL20
          obtain ⟨x22, L22, rfl, hL22⟩ := len_succ hL21
          obtain ⟨x23, L23, rfl, hL23⟩ := len_succ hL22
          obtain ⟨x24, L24, rfl, hL24⟩ := len_succ hL23
          obtain ⟨x25, L25, rfl, hL25⟩ := len_succ hL24
          obtain ⟨x26, L26, rfl, hL26⟩ := len_succ hL25
          obtain ⟨x27, L27, rfl, hL27⟩ := len_succ hL26
          obtain ⟨x28, L28, rfl, hL28⟩ := len_succ hL27
          obtain ⟨x29, L29, rfl, hL29⟩ := len_succ hL28
          obtain ⟨x30, L30, rfl, hL30⟩ := len_succ hL29
          obtain ⟨x31, L31, rfl, hL31⟩ := len_succ hL30
          obtain ⟨x32, L32, rfl, hL32⟩ := len_succ hL31
          obtain ⟨x33, L33, rfl, hL33⟩ := len_succ hL32
          obtain ⟨x34, L34, rfl, hL34⟩ := len_succ hL33
          obtain ⟨x35, L35, rfl, hL35⟩ := len_succ hL34
          obtain ⟨x36, L36, rfl, hL36⟩ := len_succ hL35
          obtain ⟨x37, L37, rfl, hL37⟩ := len_succ hL36
          obtain ⟨x38, L38, rfl, hL38⟩ := len_succ hL37
          obtain ⟨x39, L39, rfl, hL39⟩ := len_succ hL38
          obtain ⟨x40, L40, rfl, hL40⟩ := len_succ hL39
          obtain ⟨x41, L41, rfl, hL41⟩ := len_succ hL40
          obtain ⟨x42, L42, rfl, hL42⟩ := len_succ hL41
          obtain ⟨x43, L43, rfl, hL43⟩ := len_succ hL42
          obtain ⟨x44, L44, rfl, hL44⟩ := len_succ hL43
          obtain ⟨x45, L45, rfl, hL45⟩ := len_succ hL44
          obtain ⟨x46, L46, rfl, hL46⟩ := len_succ hL45
          obtain ⟨x47, L47, rfl, hL47⟩ := len_succ hL46
          obtain ⟨x48, L48, rfl, hL48⟩ := len_succ hL47
          obtain ⟨x49, L49, rfl, hL49⟩ := len_succ hL48
          obtain ⟨x50, L50, rfl, hL50⟩ := len_succ hL49
          obtain ⟨x51, L51, rfl, hL51⟩ := len_succ hL50
          obtain ⟨x52, L52, rfl, hL52⟩ := len_succ hL51
          obtain ⟨x53, L53, rfl, hL53⟩ := len_succ hL52
          obtain ⟨x54, L54, rfl, hL54⟩ := len_succ hL53
          obtain ⟨x55, L55, rfl, hL55⟩ := len_succ hL54
          obtain ⟨x56, L56, rfl, hL56⟩ := len_succ hL55
          obtain ⟨x57, L57, rfl, hL57⟩ := len_succ hL56
          obtain ⟨x58, L58, rfl, hL58⟩ := len_succ hL57
          obtain ⟨x59, L59, rfl, hL59⟩ := len_succ hL58
          obtain ⟨x60, L60, rfl, hL60⟩ := len_succ hL59
          obtain ⟨x61, L61, rfl, hL61⟩ := len_succ hL60
          obtain rfl := List.eq_nil_of_length_eq_zero hL61
          obtain rfl : x0 = (.bool true) := hSp 0 _ rfl
          obtain rfl : x1 = (.bool true) := hSp 1 _ rfl
          obtain rfl : x2 = (VecV b) := hSp 2 _ rfl
          obtain rfl : x3 = (VecV a) := hSp 3 _ rfl
          obtain rfl : x5 = (VecV J) := hSp 5 _ rfl
          obtain rfl : x6 = (VecV J) := hSp 6 _ rfl
          obtain rfl : x7 = (.bool true) := hSp 7 _ rfl
          obtain rfl : x8 = (.bool true) := hSp 8 _ rfl
          obtain rfl : x9 = (.bool true) := hSp 9 _ rfl
          obtain rfl : x10 = (VecV b) := hSp 10 _ rfl
          obtain rfl : x11 = (VecV a) := hSp 11 _ rfl
          obtain rfl : x13 = (VecV D) := hSp 13 _ rfl
          obtain rfl : x14 = (VecV D) := hSp 14 _ rfl
          obtain rfl : x15 = (.bool true) := hSp 15 _ rfl
          obtain rfl : x16 = (.bool true) := hSp 16 _ rfl
          obtain rfl : x17 = (.bool true) := hSp 17 _ rfl
          obtain rfl : x18 = (VecV c) := hSp 18 _ rfl
          obtain rfl : x19 = (VecV J) := hSp 19 _ rfl
          obtain rfl : x20 = (VecV a) := hSp 20 _ rfl
          obtain rfl : x22 = (VecV T) := hSp 22 _ rfl
          obtain rfl : x23 = (VecV T) := hSp 23 _ rfl
          obtain rfl : x24 = (.bool true) := hSp 24 _ rfl
          obtain rfl : x25 = (.bool true) := hSp 25 _ rfl
          obtain rfl : x26 = (.bool true) := hSp 26 _ rfl
          obtain rfl : x27 = (VecV c) := hSp 27 _ rfl
          obtain rfl : x28 = (VecV D) := hSp 28 _ rfl
          obtain rfl : x29 = (VecV a) := hSp 29 _ rfl
          obtain rfl : x31 = (VecV E) := hSp 31 _ rfl
          obtain rfl : x32 = (VecV E) := hSp 32 _ rfl
          obtain rfl : x33 = (.bool true) := hSp 33 _ rfl
          obtain rfl : x34 = (.bool true) := hSp 34 _ rfl
          obtain rfl : x35 = (.bool true) := hSp 35 _ rfl
          obtain rfl : x36 = (VecV a) := hSp 36 _ rfl
          obtain rfl : x37 = (VecV a) := hSp 37 _ rfl
          obtain rfl : x39 = (VecV a) := hSp 39 _ rfl
          obtain rfl : x40 = (VecV a) := hSp 40 _ rfl
          obtain rfl : x41 = (.bool true) := hSp 41 _ rfl
          obtain rfl : x42 = (.bool true) := hSp 42 _ rfl
          obtain rfl : x43 = (.bool true) := hSp 43 _ rfl
          obtain rfl : x44 = (VecV a) := hSp 44 _ rfl
          obtain rfl : x45 = (VecV a) := hSp 45 _ rfl
          obtain rfl : x47 = (VecV a) := hSp 47 _ rfl
          obtain rfl : x48 = (VecV a) := hSp 48 _ rfl
          obtain rfl : x49 = (.bool true) := hSp 49 _ rfl
          obtain rfl : x50 = (.bool true) := hSp 50 _ rfl
          obtain rfl : x51 = (.bool true) := hSp 51 _ rfl
          obtain rfl : x52 = (VecV a) := hSp 52 _ rfl
          obtain rfl : x53 = (VecV a) := hSp 53 _ rfl
          obtain rfl : x54 = (VecV b) := hSp 54 _ rfl
          obtain rfl : x56 = (VecV D) := hSp 56 _ rfl
          obtain rfl : x58 = (VecV a) := hSp 58 _ rfl
          obtain rfl : x59 = (VecV a) := hSp 59 _ rfl
          obtain rfl : x60 = (.bool true) := hSp 60 _ rfl
          obtain rfl : x61 = (.bool true) := hSp 61 _ rfl
          simp only [putsL, List.take_succ_cons, List.take_zero, Act.put, List.setIfInBounds_toArray, List.set_cons_succ, List.set_cons_zero] at ha
          subst ha
          simp only [List.drop_succ_cons, List.drop_zero]
          go_wp2_with fail
          go_ret
          exact ⟨rfl, hB0.trans (hBW.mono hB0.size)⟩
end Go.Proofs.Ytbkbogblbniogaa
