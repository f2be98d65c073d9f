/- The chapter's first examples hold of the program (tools/genvec5.py). -/
import Derived.Test.YtbkbogblbniogaaStep
namespace Go.Proofs.Ytbkbogblbniogaa
open Go.RowKit Go.Great
set_option maxRecDepth 100000

set_option maxHeartbeats 1000000 in
theorem alive6_any (w : World) : Calls Try.prog 35 #[] w fun e W' => e = .returned (.bool true) ∧ Below w.heap.size w W' := by
  have k1 : cmpV (ofV [2, 0, 1]) (ofV [2, 3, 1]) = 1 := by decide +kernel
  have k2 : cmpV (ofV [1]) (ofV [0, 1]) = 3 := by decide +kernel
  have k3 : joinL [ofV [2, 0, 1], ofV [1, 3]] = ofV [2, 3, 1] := by decide +kernel
  have k4 : meetL [ofV [2, 0, 1], ofV [1, 3]] = ofV [1] := by decide +kernel
  have ca := fun W v h => of6_any W v [2, 0, 1] h (by decide)
  have cb := fun W v h => of6_any W v [2, 3, 1] h (by decide)
  have cc := fun W v h => of6_any W v [1] h (by decide)
  have cd := fun W v h => of6_any W v [0, 1] h (by decide)
  have ce := fun W v h => of6_any W v [1, 3] h (by decide)
  have cm1 := fun W => pVCompare_any W (ofV [2, 0, 1]) (ofV [2, 3, 1])
  have cm2 := fun W => pVCompare_any W (ofV [1]) (ofV [0, 1])
  have cm3 := fun W v h => pVMerge_any W v [ofV [2, 0, 1], ofV [1, 3]] h (by decide)
  have cm4 := fun W v h => pVMeet_any W v [ofV [2, 0, 1], ofV [1, 3]] h (by decide)
  rw [k1] at cm1
  rw [k2] at cm2
  rw [k3] at cm3
  rw [k4] at cm4
  clear k1 k2 k3 k4
  generalize ofV [2, 0, 1] = va at *
  generalize ofV [2, 3, 1] = vb at *
  generalize ofV [1] = vc at *
  generalize ofV [0, 1] = vd at *
  generalize ofV [1, 3] = ve at *
  have hS0 := Below.refl w.heap.size w
  go_enter Try.func35, Try.ntmps35
  apply held_in
  unfold Held
  refine wp_seq_k fun K0 hK0 => ?_
  refine wp_region_lit ?_
  refine list_known (.bool false) rfl (by go_simp) (fun a' ha' => ?_)
  simp only [Act.put, List.setIfInBounds_toArray, List.set_cons_zero] at ha'
  subst ha'
  refine wpList_nil ?_
  show K0 _ _
  refine hK0 _ _ ?_
  clear hK0 K0
  refine wp_seq_k fun K0 hK0 => ?_
  refine wp_region_lit ?_
  refine list_want (by first | rfl | kernel_rfl) (fun K hK => ?_)
  unfold Oper.wp
  go_simp
  have hEy1 := Us.built w [2, 0, 1] (n := 3) rfl rfl
  have hSy1 := hS0.alloc hS0.size (.cells (List.map W32 [2, 0, 1]).toArray 22)
  change K _ (World.alloc w (.cells (List.map W32 [2, 0, 1]).toArray 22))
  generalize hg : World.alloc w (.cells (List.map W32 [2, 0, 1]).toArray 22) = y1 at hEy1 hSy1 ⊢
  clear hg
  refine hK _ _ ?_
  clear hK K
  refine list_want (by first | rfl | kernel_rfl) (fun K hK => ?_)
  unfold Oper.wp
  go_simp
  refine (ca _ _ hEy1).mono ?_
  rintro e y2 ⟨rfl, hy2⟩
  have hSy2 : Below w.heap.size w y2 := hSy1.trans (hy2.mono hSy1.size)
  clear hy2
  refine hK _ _ ?_
  clear hK K
  refine list_want (by first | rfl | kernel_rfl) (fun K hK => ?_)
  unfold Oper.wp
  go_simp
  have hEy3 := Us.built y2 [2, 3, 1] (n := 3) rfl rfl
  have hSy3 := hSy2.alloc hSy2.size (.cells (List.map W32 [2, 3, 1]).toArray 22)
  change K _ (World.alloc y2 (.cells (List.map W32 [2, 3, 1]).toArray 22))
  generalize hg : World.alloc y2 (.cells (List.map W32 [2, 3, 1]).toArray 22) = y3 at hEy3 hSy3 ⊢
  clear hg
  refine hK _ _ ?_
  clear hK K
  refine list_want (by first | rfl | kernel_rfl) (fun K hK => ?_)
  unfold Oper.wp
  go_simp
  refine (cb _ _ hEy3).mono ?_
  rintro e y4 ⟨rfl, hy4⟩
  have hSy4 : Below w.heap.size w y4 := hSy3.trans (hy4.mono hSy3.size)
  clear hy4
  refine hK _ _ ?_
  clear hK K
  refine list_want (by first | rfl | kernel_rfl) (fun K hK => ?_)
  unfold Oper.wp
  go_simp
  refine (cm1 _).mono ?_
  rintro e y5 ⟨rfl, hy5⟩
  have hSy5 : Below w.heap.size w y5 := hSy4.trans (hy5.mono hSy4.size)
  clear hy5
  refine hK _ _ ?_
  clear hK K
  refine list_known (.bool true) (by first | rfl | kernel_rfl) (by go_simp; done) (fun a' ha' => ?_)
  simp only [Act.put, List.setIfInBounds_toArray, List.set_cons_succ, List.set_cons_zero] at ha'
  subst ha'
  refine list_known (.bool true) (by first | rfl | kernel_rfl) (by go_simp; done) (fun a' ha' => ?_)
  simp only [Act.put, List.setIfInBounds_toArray, List.set_cons_succ, List.set_cons_zero] at ha'
  subst ha'
  refine list_want (by first | rfl | kernel_rfl) (fun K hK => ?_)
  unfold Oper.wp
  go_simp
  have hEy6 := Us.built y5 [1] (n := 1) rfl rfl
  have hSy6 := hSy5.alloc hSy5.size (.cells (List.map W32 [1]).toArray 22)
  change K _ (World.alloc y5 (.cells (List.map W32 [1]).toArray 22))
  generalize hg : World.alloc y5 (.cells (List.map W32 [1]).toArray 22) = y6 at hEy6 hSy6 ⊢
  clear hg
  refine hK _ _ ?_
  clear hK K
  refine list_want (by first | rfl | kernel_rfl) (fun K hK => ?_)
  unfold Oper.wp
  go_simp
  refine (cc _ _ hEy6).mono ?_
  rintro e y7 ⟨rfl, hy7⟩
  have hSy7 : Below w.heap.size w y7 := hSy6.trans (hy7.mono hSy6.size)
  clear hy7
  refine hK _ _ ?_
  clear hK K
  refine list_want (by first | rfl | kernel_rfl) (fun K hK => ?_)
  unfold Oper.wp
  go_simp
  have hEy8 := Us.built y7 [0, 1] (n := 2) rfl rfl
  have hSy8 := hSy7.alloc hSy7.size (.cells (List.map W32 [0, 1]).toArray 22)
  change K _ (World.alloc y7 (.cells (List.map W32 [0, 1]).toArray 22))
  generalize hg : World.alloc y7 (.cells (List.map W32 [0, 1]).toArray 22) = y8 at hEy8 hSy8 ⊢
  clear hg
  refine hK _ _ ?_
  clear hK K
  refine list_want (by first | rfl | kernel_rfl) (fun K hK => ?_)
  unfold Oper.wp
  go_simp
  refine (cd _ _ hEy8).mono ?_
  rintro e y9 ⟨rfl, hy9⟩
  have hSy9 : Below w.heap.size w y9 := hSy8.trans (hy9.mono hSy8.size)
  clear hy9
  refine hK _ _ ?_
  clear hK K
  refine list_want (by first | rfl | kernel_rfl) (fun K hK => ?_)
  unfold Oper.wp
  go_simp
  refine (cm2 _).mono ?_
  rintro e y10 ⟨rfl, hy10⟩
  have hSy10 : Below w.heap.size w y10 := hSy9.trans (hy10.mono hSy9.size)
  clear hy10
  refine hK _ _ ?_
  clear hK K
  refine list_known (.bool true) (by first | rfl | kernel_rfl) (by go_simp; done) (fun a' ha' => ?_)
  simp only [Act.put, List.setIfInBounds_toArray, List.set_cons_succ, List.set_cons_zero] at ha'
  subst ha'
  refine list_known (.bool true) (by first | rfl | kernel_rfl) (by go_simp; done) (fun a' ha' => ?_)
  simp only [Act.put, List.setIfInBounds_toArray, List.set_cons_succ, List.set_cons_zero] at ha'
  subst ha'
  refine list_known (.bool true) (by first | rfl | kernel_rfl) (by go_simp; done) (fun a' ha' => ?_)
  simp only [Act.put, List.setIfInBounds_toArray, List.set_cons_succ, List.set_cons_zero] at ha'
  subst ha'
  refine list_want (by first | rfl | kernel_rfl) (fun K hK => ?_)
  unfold Oper.wp
  go_simp
  have hEy11 := Us.built y10 [2, 0, 1] (n := 3) rfl rfl
  have hSy11 := hSy10.alloc hSy10.size (.cells (List.map W32 [2, 0, 1]).toArray 22)
  change K _ (World.alloc y10 (.cells (List.map W32 [2, 0, 1]).toArray 22))
  generalize hg : World.alloc y10 (.cells (List.map W32 [2, 0, 1]).toArray 22) = y11 at hEy11 hSy11 ⊢
  clear hg
  refine hK _ _ ?_
  clear hK K
  refine list_want (by first | rfl | kernel_rfl) (fun K hK => ?_)
  unfold Oper.wp
  go_simp
  refine (ca _ _ hEy11).mono ?_
  rintro e y12 ⟨rfl, hy12⟩
  have hSy12 : Below w.heap.size w y12 := hSy11.trans (hy12.mono hSy11.size)
  clear hy12
  refine hK _ _ ?_
  clear hK K
  refine list_want (by first | rfl | kernel_rfl) (fun K hK => ?_)
  unfold Oper.wp
  go_simp
  have hEy13 := Us.built y12 [1, 3] (n := 2) rfl rfl
  have hSy13 := hSy12.alloc hSy12.size (.cells (List.map W32 [1, 3]).toArray 22)
  change K _ (World.alloc y12 (.cells (List.map W32 [1, 3]).toArray 22))
  generalize hg : World.alloc y12 (.cells (List.map W32 [1, 3]).toArray 22) = y13 at hEy13 hSy13 ⊢
  clear hg
  refine hK _ _ ?_
  clear hK K
  refine list_want (by first | rfl | kernel_rfl) (fun K hK => ?_)
  unfold Oper.wp
  go_simp
  refine (ce _ _ hEy13).mono ?_
  rintro e y14 ⟨rfl, hy14⟩
  have hSy14 : Below w.heap.size w y14 := hSy13.trans (hy14.mono hSy13.size)
  clear hy14
  refine hK _ _ ?_
  clear hK K
  refine list_want (by first | rfl | kernel_rfl) (fun K hK => ?_)
  refine wp_build_vecs _ 2 rfl [va, ve] rfl (by simp) (by simp) (by simp only [List.map_toArray, List.map_cons, List.map_nil]; rfl) ?_
  have hEy15 := es_built y14 [va, ve] (n := 2) rfl
  have hSy15 := hSy14.alloc hSy14.size (.cells (flatE eVec [va, ve]).toArray 24)
  generalize hg : World.alloc y14 (.cells (flatE eVec [va, ve]).toArray 24) = y15 at hEy15 hSy15 ⊢
  clear hg
  refine hK _ _ ?_
  clear hK K
  refine list_want (by first | rfl | kernel_rfl) (fun K hK => ?_)
  unfold Oper.wp
  go_simp
  refine (cm3 _ _ hEy15).mono ?_
  rintro e y16 ⟨rfl, hy16⟩
  have hSy16 : Below w.heap.size w y16 := hSy15.trans (hy16.mono hSy15.size)
  clear hy16
  refine hK _ _ ?_
  clear hK K
  refine list_want (by first | rfl | kernel_rfl) (fun K hK => ?_)
  unfold Oper.wp
  go_simp
  have hEy17 := Us.built y16 [2, 3, 1] (n := 3) rfl rfl
  have hSy17 := hSy16.alloc hSy16.size (.cells (List.map W32 [2, 3, 1]).toArray 22)
  change K _ (World.alloc y16 (.cells (List.map W32 [2, 3, 1]).toArray 22))
  generalize hg : World.alloc y16 (.cells (List.map W32 [2, 3, 1]).toArray 22) = y17 at hEy17 hSy17 ⊢
  clear hg
  refine hK _ _ ?_
  clear hK K
  refine list_want (by first | rfl | kernel_rfl) (fun K hK => ?_)
  unfold Oper.wp
  go_simp
  refine (cb _ _ hEy17).mono ?_
  rintro e y18 ⟨rfl, hy18⟩
  have hSy18 : Below w.heap.size w y18 := hSy17.trans (hy18.mono hSy17.size)
  clear hy18
  refine hK _ _ ?_
  clear hK K
  refine list_known (.bool true) (by first | rfl | kernel_rfl) (by exact exec_eql_vec rfl rfl rfl (decide_eq_true rfl)) (fun a' ha' => ?_)
  simp only [Act.put, List.setIfInBounds_toArray, List.set_cons_succ, List.set_cons_zero] at ha'
  subst ha'
  refine list_known (.bool true) (by first | rfl | kernel_rfl) (by go_simp; done) (fun a' ha' => ?_)
  simp only [Act.put, List.setIfInBounds_toArray, List.set_cons_succ, List.set_cons_zero] at ha'
  subst ha'
  refine list_known (.bool true) (by first | rfl | kernel_rfl) (by go_simp; done) (fun a' ha' => ?_)
  simp only [Act.put, List.setIfInBounds_toArray, List.set_cons_succ, List.set_cons_zero] at ha'
  subst ha'
  refine list_want (by first | rfl | kernel_rfl) (fun K hK => ?_)
  unfold Oper.wp
  go_simp
  have hEy19 := Us.built y18 [2, 0, 1] (n := 3) rfl rfl
  have hSy19 := hSy18.alloc hSy18.size (.cells (List.map W32 [2, 0, 1]).toArray 22)
  change K _ (World.alloc y18 (.cells (List.map W32 [2, 0, 1]).toArray 22))
  generalize hg : World.alloc y18 (.cells (List.map W32 [2, 0, 1]).toArray 22) = y19 at hEy19 hSy19 ⊢
  clear hg
  refine hK _ _ ?_
  clear hK K
  refine list_want (by first | rfl | kernel_rfl) (fun K hK => ?_)
  unfold Oper.wp
  go_simp
  refine (ca _ _ hEy19).mono ?_
  rintro e y20 ⟨rfl, hy20⟩
  have hSy20 : Below w.heap.size w y20 := hSy19.trans (hy20.mono hSy19.size)
  clear hy20
  refine hK _ _ ?_
  clear hK K
  refine list_want (by first | rfl | kernel_rfl) (fun K hK => ?_)
  unfold Oper.wp
  go_simp
  have hEy21 := Us.built y20 [1, 3] (n := 2) rfl rfl
  have hSy21 := hSy20.alloc hSy20.size (.cells (List.map W32 [1, 3]).toArray 22)
  change K _ (World.alloc y20 (.cells (List.map W32 [1, 3]).toArray 22))
  generalize hg : World.alloc y20 (.cells (List.map W32 [1, 3]).toArray 22) = y21 at hEy21 hSy21 ⊢
  clear hg
  refine hK _ _ ?_
  clear hK K
  refine list_want (by first | rfl | kernel_rfl) (fun K hK => ?_)
  unfold Oper.wp
  go_simp
  refine (ce _ _ hEy21).mono ?_
  rintro e y22 ⟨rfl, hy22⟩
  have hSy22 : Below w.heap.size w y22 := hSy21.trans (hy22.mono hSy21.size)
  clear hy22
  refine hK _ _ ?_
  clear hK K
  refine list_want (by first | rfl | kernel_rfl) (fun K hK => ?_)
  refine wp_build_vecs _ 2 rfl [va, ve] rfl (by simp) (by simp) (by simp only [List.map_toArray, List.map_cons, List.map_nil]; rfl) ?_
  have hEy23 := es_built y22 [va, ve] (n := 2) rfl
  have hSy23 := hSy22.alloc hSy22.size (.cells (flatE eVec [va, ve]).toArray 24)
  generalize hg : World.alloc y22 (.cells (flatE eVec [va, ve]).toArray 24) = y23 at hEy23 hSy23 ⊢
  clear hg
  refine hK _ _ ?_
  clear hK K
  refine list_want (by first | rfl | kernel_rfl) (fun K hK => ?_)
  unfold Oper.wp
  go_simp
  refine (cm4 _ _ hEy23).mono ?_
  rintro e y24 ⟨rfl, hy24⟩
  have hSy24 : Below w.heap.size w y24 := hSy23.trans (hy24.mono hSy23.size)
  clear hy24
  refine hK _ _ ?_
  clear hK K
  refine list_want (by first | rfl | kernel_rfl) (fun K hK => ?_)
  unfold Oper.wp
  go_simp
  have hEy25 := Us.built y24 [1] (n := 1) rfl rfl
  have hSy25 := hSy24.alloc hSy24.size (.cells (List.map W32 [1]).toArray 22)
  change K _ (World.alloc y24 (.cells (List.map W32 [1]).toArray 22))
  generalize hg : World.alloc y24 (.cells (List.map W32 [1]).toArray 22) = y25 at hEy25 hSy25 ⊢
  clear hg
  refine hK _ _ ?_
  clear hK K
  refine list_want (by first | rfl | kernel_rfl) (fun K hK => ?_)
  unfold Oper.wp
  go_simp
  refine (cc _ _ hEy25).mono ?_
  rintro e y26 ⟨rfl, hy26⟩
  have hSy26 : Below w.heap.size w y26 := hSy25.trans (hy26.mono hSy25.size)
  clear hy26
  refine hK _ _ ?_
  clear hK K
  refine list_known (.bool true) (by first | rfl | kernel_rfl) (by exact exec_eql_vec rfl rfl rfl (decide_eq_true rfl)) (fun a' ha' => ?_)
  simp only [Act.put, List.setIfInBounds_toArray, List.set_cons_succ, List.set_cons_zero] at ha'
  subst ha'
  refine list_known (.bool true) (by first | rfl | kernel_rfl) (by go_simp; done) (fun a' ha' => ?_)
  simp only [Act.put, List.setIfInBounds_toArray, List.set_cons_succ, List.set_cons_zero] at ha'
  subst ha'
  refine list_known (.bool true) (by first | rfl | kernel_rfl) (by go_simp; done) (fun a' ha' => ?_)
  simp only [Act.put, List.setIfInBounds_toArray, List.set_cons_zero] at ha'
  subst ha'
  refine wpList_nil ?_
  show K0 _ _
  refine hK0 _ _ ?_
  go_wp2_with fail
  go_ret
  exact ⟨rfl, hSy26⟩
end Go.Proofs.Ytbkbogblbniogaa
