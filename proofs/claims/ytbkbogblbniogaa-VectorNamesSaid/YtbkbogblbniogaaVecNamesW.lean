/- The walk of VectorNames (tools/gennames6.py). -/
import Derived.Test.YtbkbogblbniogaaVecNamesA
namespace Go.Proofs.Ytbkbogblbniogaa
open Go.RowKit Go.Great
set_option maxRecDepth 100000

set_option maxHeartbeats 40000000 in
theorem vnames_walk (w : World) : Calls Try.prog 5 #[] w fun e W' => e = .returned (.bool true) ∧ Below w.heap.size w W' := by
  have hB := Below.refl w.heap.size w
  go_enter Try.func5, Try.ntmps5
  apply held_in
  unfold Held
  refine wp_seq_k fun K0 hK0 => ?_
  refine wp_region_lit ?_
  refine list_known (.bool false) rfl (by go_simp) (fun a' ha' => ?_)
  simp only [Act.put, List.setIfInBounds_toArray, List.set_cons_zero] at ha'
  subst ha'
  refine wpList_nil ?_
  show K0 _ _
  refine hK0 _ _ ?_
  clear hK0 K0
  refine wp_seq_k fun K0 hK0 => ?_
  refine wp_region_lit ?_
  refine list_want (by first | rfl | kernel_rfl) (fun K hK => ?_)
  unfold Oper.wp
  go_simp
  have hEy1 := Us.built w [2, 0, 1] (n := 3) rfl rfl
  have hSy1 := hB.alloc hB.size (.cells (List.map W32 [2, 0, 1]).toArray 22)
  change K _ (World.alloc w (.cells (List.map W32 [2, 0, 1]).toArray 22))
  generalize hg : World.alloc w (.cells (List.map W32 [2, 0, 1]).toArray 22) = y1 at hEy1 hSy1 ⊢
  clear hg
  refine hK _ _ ?_
  clear hK K
  refine list_want (by first | rfl | kernel_rfl) (fun K hK => ?_)
  unfold Oper.wp
  go_simp
  refine (nc_ov201 _ _ hEy1).mono ?_
  rintro e y2 ⟨rfl, hy2⟩
  have hSy2 : Below w.heap.size w y2 := hSy1.trans (hy2.mono hSy1.size)
  clear hy2
  refine hK _ _ ?_
  clear hK K
  refine list_want (by first | rfl | kernel_rfl) (fun K hK => ?_)
  unfold Oper.wp
  go_simp
  refine (nc_e201 _).mono ?_
  rintro e y3 ⟨vy3, rfl, hrowy3, hy3⟩
  have hSy3 := hSy2.trans (hy3.mono hSy2.size)
  obtain ⟨Ay3, cy3, rfl, _⟩ := (Bs.of_owns hrowy3).form
  have hby3 : Bs y3 (.slice Ay3 4 cy3) [3, 2, 0, 1] := Bs.of_owns hrowy3
  clear hy3 hrowy3
  refine hK _ _ ?_
  clear hK K
  refine list_known (Str [3, 2, 0, 1]) (by first | rfl | kernel_rfl) (by have hc := run_string_bs (P := Try.prog) _ 45 9 5 Try.underlying45 Try.underlying5 Try.underlying9 hby3; go_simp; done) (fun a' ha' => ?_)
  simp only [Act.put, List.setIfInBounds_toArray, List.set_cons_succ, List.set_cons_zero] at ha'
  subst ha'
  refine list_known (.bool true) (by first | rfl | kernel_rfl) (by go_simp; done) (fun a' ha' => ?_)
  simp only [Act.put, List.setIfInBounds_toArray, List.set_cons_succ, List.set_cons_zero] at ha'
  subst ha'
  refine list_known (.bool true) (by first | rfl | kernel_rfl) (by go_simp; done) (fun a' ha' => ?_)
  simp only [Act.put, List.setIfInBounds_toArray, List.set_cons_succ, List.set_cons_zero] at ha'
  subst ha'
  refine list_want (by first | rfl | kernel_rfl) (fun K hK => ?_)
  unfold Oper.wp
  go_simp
  refine (nc_cvZ _).mono ?_
  rintro e y4 ⟨rfl, hy4⟩
  have hSy4 : Below w.heap.size w y4 := hSy3.trans (hy4.mono hSy3.size)
  clear hy4
  refine hK _ _ ?_
  clear hK K
  refine list_want (by first | rfl | kernel_rfl) (fun K hK => ?_)
  unfold Oper.wp
  go_simp
  refine (nc_e0 _).mono ?_
  rintro e y5 ⟨vy5, rfl, hrowy5, hy5⟩
  have hSy5 := hSy4.trans (hy5.mono hSy4.size)
  obtain ⟨Ay5, cy5, rfl, _⟩ := (Bs.of_owns hrowy5).form
  have hby5 : Bs y5 (.slice Ay5 1 cy5) [0] := Bs.of_owns hrowy5
  clear hy5 hrowy5
  refine hK _ _ ?_
  clear hK K
  refine list_known (Str [0]) (by first | rfl | kernel_rfl) (by have hc := run_string_bs (P := Try.prog) _ 45 9 5 Try.underlying45 Try.underlying5 Try.underlying9 hby5; go_simp; done) (fun a' ha' => ?_)
  simp only [Act.put, List.setIfInBounds_toArray, List.set_cons_succ, List.set_cons_zero] at ha'
  subst ha'
  refine list_known (.bool true) (by first | rfl | kernel_rfl) (by go_simp; done) (fun a' ha' => ?_)
  simp only [Act.put, List.setIfInBounds_toArray, List.set_cons_succ, List.set_cons_zero] at ha'
  subst ha'
  refine list_known (.bool true) (by first | rfl | kernel_rfl) (by go_simp; done) (fun a' ha' => ?_)
  simp only [Act.put, List.setIfInBounds_toArray, List.set_cons_succ, List.set_cons_zero] at ha'
  subst ha'
  refine list_known (.bool true) (by first | rfl | kernel_rfl) (by go_simp; done) (fun a' ha' => ?_)
  simp only [Act.put, List.setIfInBounds_toArray, List.set_cons_succ, List.set_cons_zero] at ha'
  subst ha'
  refine list_want (by first | rfl | kernel_rfl) (fun K hK => ?_)
  unfold Oper.wp
  go_simp
  have hEy6 := Us.built y5 [0, 300] (n := 2) rfl rfl
  have hSy6 := hSy5.alloc hSy5.size (.cells (List.map W32 [0, 300]).toArray 22)
  change K _ (World.alloc y5 (.cells (List.map W32 [0, 300]).toArray 22))
  generalize hg : World.alloc y5 (.cells (List.map W32 [0, 300]).toArray 22) = y6 at hEy6 hSy6 ⊢
  clear hg
  refine hK _ _ ?_
  clear hK K
  refine list_want (by first | rfl | kernel_rfl) (fun K hK => ?_)
  unfold Oper.wp
  go_simp
  refine (nc_ov0300 _ _ hEy6).mono ?_
  rintro e y7 ⟨rfl, hy7⟩
  have hSy7 : Below w.heap.size w y7 := hSy6.trans (hy7.mono hSy6.size)
  clear hy7
  refine hK _ _ ?_
  clear hK K
  refine list_want (by first | rfl | kernel_rfl) (fun K hK => ?_)
  unfold Oper.wp
  go_simp
  refine (nc_e0300 _).mono ?_
  rintro e y8 ⟨vy8, rfl, hrowy8, hy8⟩
  have hSy8 := hSy7.trans (hy8.mono hSy7.size)
  obtain ⟨Ay8, cy8, rfl, _⟩ := (Bs.of_owns hrowy8).form
  have hby8 : Bs y8 (.slice Ay8 4 cy8) [2, 0, 172, 2] := Bs.of_owns hrowy8
  clear hy8 hrowy8
  refine hK _ _ ?_
  clear hK K
  refine list_known (Str [2, 0, 172, 2]) (by first | rfl | kernel_rfl) (by have hc := run_string_bs (P := Try.prog) _ 45 9 5 Try.underlying45 Try.underlying5 Try.underlying9 hby8; go_simp; done) (fun a' ha' => ?_)
  simp only [Act.put, List.setIfInBounds_toArray, List.set_cons_succ, List.set_cons_zero] at ha'
  subst ha'
  refine list_known (.bool true) (by first | rfl | kernel_rfl) (by go_simp; done) (fun a' ha' => ?_)
  simp only [Act.put, List.setIfInBounds_toArray, List.set_cons_succ, List.set_cons_zero] at ha'
  subst ha'
  refine list_known (.bool true) (by first | rfl | kernel_rfl) (by go_simp; done) (fun a' ha' => ?_)
  simp only [Act.put, List.setIfInBounds_toArray, List.set_cons_succ, List.set_cons_zero] at ha'
  subst ha'
  refine list_known (.bool true) (by first | rfl | kernel_rfl) (by go_simp; done) (fun a' ha' => ?_)
  simp only [Act.put, List.setIfInBounds_toArray, List.set_cons_succ, List.set_cons_zero] at ha'
  subst ha'
  refine wpList_nil ?_
  show K0 _ _
  refine hK0 _ _ ?_
  clear hK0 K0
  have hB1 := hSy8
  clear hSy1 hSy2 hSy3 hSy4 hSy5 hSy6 hSy7 hSy8 hB
  have hB := hB1
  clear hB1
  go_wp2_with fail
  refine (nc_cv5 _).mono ?_
  rintro e x1 ⟨rfl, hb⟩
  replace hB := hB.trans (hb.mono hB.size)
  clear hb
  go_wp2_with fail
  refine (nc_n5 _).mono ?_
  rintro e x2 ⟨rfl, hb⟩
  replace hB := hB.trans (hb.mono hB.size)
  clear hb
  have hba := below_alloc x2 (.cells #[.int .i64 0, .int .i64 6] 27)
  have q1 : (x2.alloc (.cells #[.int .i64 0, .int .i64 6] 27)).cell? ⟨x2.heap.size, 0, none⟩ = some (.int .i64 0) := by go_simp
  have q2 : (x2.alloc (.cells #[.int .i64 0, .int .i64 6] 27)).cell? ⟨x2.heap.size, 1, none⟩ = some (.int .i64 6) := by go_simp
  go_wp2_with fail
  have hsz : (x2.alloc (.cells #[.int .i64 0, .int .i64 6] 27)).heap.size = x2.heap.size + 1 := World.size_alloc _ _
  generalize hg : x2.alloc (.cells #[.int .i64 0, .int .i64 6] 27) = z3 at *
  first | rw [← hsz] | skip
  clear hg hsz
  replace hB := hB.trans (hba.mono hB.size)
  clear hba
  refine (nc_cvm _).mono ?_
  rintro e x3 ⟨rfl, hb⟩
  replace q1 := cellOn hb q1
  replace q2 := cellOn hb q2
  replace hB := hB.trans (hb.mono hB.size)
  clear hb
  go_wp2_with fail
  refine (nc_nm _).mono ?_
  rintro e x4 ⟨rfl, hb⟩
  replace q1 := cellOn hb q1
  replace q2 := cellOn hb q2
  replace hB := hB.trans (hb.mono hB.size)
  clear hb
  have hba := below_alloc x4 (.cells #[.int .i64 0, .int .i64 0] 27)
  go_wp2_with fail
  have hsz : (x4.alloc (.cells #[.int .i64 0, .int .i64 0] 27)).heap.size = x4.heap.size + 1 := World.size_alloc _ _
  generalize hg : x4.alloc (.cells #[.int .i64 0, .int .i64 0] 27) = z5 at *
  first | rw [← hsz] | skip
  clear hg hsz
  replace q1 := cellOn hba q1
  replace q2 := cellOn hba q2
  replace hB := hB.trans (hba.mono hB.size)
  clear hba
  refine (nc_cvZ _).mono ?_
  rintro e x5 ⟨rfl, hb⟩
  replace q1 := cellOn hb q1
  replace q2 := cellOn hb q2
  replace hB := hB.trans (hb.mono hB.size)
  clear hb
  go_wp2_with fail
  refine (nc_n16 _).mono ?_
  rintro e x6 ⟨rfl, hb⟩
  replace q1 := cellOn hb q1
  replace q2 := cellOn hb q2
  replace hB := hB.trans (hb.mono hB.size)
  clear hb
  have hba := below_alloc x6 (.cells #[.int .i64 0, .int .i64 0] 27)
  go_wp2_with fail
  have hsz : (x6.alloc (.cells #[.int .i64 0, .int .i64 0] 27)).heap.size = x6.heap.size + 1 := World.size_alloc _ _
  generalize hg : x6.alloc (.cells #[.int .i64 0, .int .i64 0] 27) = z7 at *
  first | rw [← hsz] | skip
  clear hg hsz
  replace q1 := cellOn hba q1
  replace q2 := cellOn hba q2
  replace hB := hB.trans (hba.mono hB.size)
  clear hba
  refine (nc_cvZ _).mono ?_
  rintro e x7 ⟨rfl, hb⟩
  replace q1 := cellOn hb q1
  replace q2 := cellOn hb q2
  replace hB := hB.trans (hb.mono hB.size)
  clear hb
  go_wp2_with fail
  refine (nc_nn _).mono ?_
  rintro e x8 ⟨rfl, hb⟩
  replace q1 := cellOn hb q1
  replace q2 := cellOn hb q2
  replace hB := hB.trans (hb.mono hB.size)
  clear hb
  have hba := below_alloc x8 (.cells #[.int .i64 0, .int .i64 0] 27)
  go_wp2_with fail
  have hsz : (x8.alloc (.cells #[.int .i64 0, .int .i64 0] 27)).heap.size = x8.heap.size + 1 := World.size_alloc _ _
  generalize hg : x8.alloc (.cells #[.int .i64 0, .int .i64 0] 27) = z9 at *
  first | rw [← hsz] | skip
  clear hg hsz
  replace q1 := cellOn hba q1
  replace q2 := cellOn hba q2
  replace hB := hB.trans (hba.mono hB.size)
  clear hba
  refine (nc_cv5 _).mono ?_
  rintro e x9 ⟨rfl, hb⟩
  replace q1 := cellOn hb q1
  replace q2 := cellOn hb q2
  replace hB := hB.trans (hb.mono hB.size)
  clear hb
  go_wp2_with fail
  refine (nc_a12 _).mono ?_
  rintro e x10 ⟨rfl, hb⟩
  replace q1 := cellOn hb q1
  replace q2 := cellOn hb q2
  replace hB := hB.trans (hb.mono hB.size)
  clear hb
  go_wp2_with (first
      | (refine wpList_alloc_vec rfl rfl ?_)
      | (refine wpList_store_vec rfl (.tmp 10) (.tmp 78) rfl rfl (BoxV.new _ zeroV) rfl ?_
         intro z11 bz kz
         have hbz := keptNew kz
         clear kz))
  replace q1 := cellOn hbz q1
  replace q2 := cellOn hbz q2
  replace hB := hB.trans (hbz.mono hB.size)
  clear hbz bz
  refine (nc_cv5 _).mono ?_
  rintro e x11 ⟨rfl, hb⟩
  replace q1 := cellOn hb q1
  replace q2 := cellOn hb q2
  replace hB := hB.trans (hb.mono hB.size)
  clear hb
  go_wp2_with fail
  refine (nc_a11 _).mono ?_
  rintro e x12 ⟨rfl, hb⟩
  replace q1 := cellOn hb q1
  replace q2 := cellOn hb q2
  replace hB := hB.trans (hb.mono hB.size)
  clear hb
  go_wp2_with (first
      | (refine wpList_alloc_vec rfl rfl ?_)
      | (refine wpList_store_vec rfl (.tmp 12) (.tmp 85) rfl rfl (BoxV.new _ zeroV) rfl ?_
         intro z13 bz kz
         have hbz := keptNew kz
         clear kz))
  replace q1 := cellOn hbz q1
  replace q2 := cellOn hbz q2
  replace hB := hB.trans (hbz.mono hB.size)
  have b12 := bz
  clear hbz bz
  refine (nc_cv5 _).mono ?_
  rintro e x13 ⟨rfl, hb⟩
  replace q1 := cellOn hb q1
  replace q2 := cellOn hb q2
  replace b12 := b12.below hb
  replace hB := hB.trans (hb.mono hB.size)
  clear hb
  go_wp2_with fail
  refine (nc_a05 _).mono ?_
  rintro e x14 ⟨rfl, hb⟩
  replace q1 := cellOn hb q1
  replace q2 := cellOn hb q2
  replace b12 := b12.below hb
  replace hB := hB.trans (hb.mono hB.size)
  clear hb
  go_wp2_with (first
      | (refine wpList_alloc_vec rfl rfl ?_)
      | (refine wpList_store_vec rfl (.tmp 14) (.tmp 92) rfl rfl (BoxV.new _ zeroV) rfl ?_
         intro z15 bz kz
         have hbz := keptNew kz
         clear kz))
  replace q1 := cellOn hbz q1
  replace q2 := cellOn hbz q2
  replace b12 := b12.below hbz
  replace hB := hB.trans (hbz.mono hB.size)
  clear hbz bz
  refine (nc_cvm _).mono ?_
  rintro e x15 ⟨rfl, hb⟩
  replace q1 := cellOn hb q1
  replace q2 := cellOn hb q2
  replace b12 := b12.below hb
  replace hB := hB.trans (hb.mono hB.size)
  clear hb
  go_wp2_with fail
  refine (nc_am _).mono ?_
  rintro e x16 ⟨rfl, hb⟩
  replace q1 := cellOn hb q1
  replace q2 := cellOn hb q2
  replace b12 := b12.below hb
  replace hB := hB.trans (hb.mono hB.size)
  clear hb
  go_wp2_with (first
      | (refine wpList_alloc_vec rfl rfl ?_)
      | (refine wpList_store_vec rfl (.tmp 16) (.tmp 99) rfl rfl (BoxV.new _ zeroV) rfl ?_
         intro z17 bz kz
         have hbz := keptNew kz
         clear kz))
  replace q1 := cellOn hbz q1
  replace q2 := cellOn hbz q2
  replace b12 := b12.below hbz
  replace hB := hB.trans (hbz.mono hB.size)
  clear hbz bz
  refine (nc_cvl _).mono ?_
  rintro e x17 ⟨rfl, hb⟩
  replace q1 := cellOn hb q1
  replace q2 := cellOn hb q2
  replace b12 := b12.below hb
  replace hB := hB.trans (hb.mono hB.size)
  clear hb
  go_wp2_with fail
  refine (nc_al _).mono ?_
  rintro e x18 ⟨rfl, hb⟩
  replace q1 := cellOn hb q1
  replace q2 := cellOn hb q2
  replace b12 := b12.below hb
  replace hB := hB.trans (hb.mono hB.size)
  clear hb
  go_wp2_with (first
      | (with_reducible apply held_at 11)
      | (refine wpList_alloc_vec rfl rfl ?_)
      | (refine wpList_store_vec rfl (.tmp 18) (.tmp 106) rfl rfl (BoxV.new _ zeroV) rfl ?_
         intro zA bz kz
         have hbz := keptNew kz
         clear kz))
  replace q1 := cellOn hbz q1
  replace q2 := cellOn hbz q2
  replace b12 := b12.below hbz
  replace hB := hB.trans (hbz.mono hB.size)
  have b18 := bz
  clear hbz bz
  unfold Held
  refine wp_held (fun W1 => Below zA.heap.size zA W1) (by kernel_rfl) ?_
  have hS0 : Below zA.heap.size zA zA.drew := (Below.refl _ zA).drew
  refine wpAnyH_next (i := 0) (v := .int .i64 0) rfl (by kernel_rfl) (by kernel_rfl) (by kernel_rfl) (fun _ _ _ h => h) (by kernel_rfl) (fun W1 hW1 => by go_simp; done) hS0 (fun a' ha' => ?_)
  simp only [Act.put, List.getElem_toArray, List.getElem_cons_zero, List.setIfInBounds_toArray, List.set_cons_succ, List.set_cons_zero] at ha'
  subst ha'
  refine wpAnyH_next (i := 1) (v := .bool true) rfl (by kernel_rfl) (by kernel_rfl) (by kernel_rfl) (fun _ _ _ h => h) (by kernel_rfl) (fun W1 hW1 => by go_simp; done) hS0 (fun a' ha' => ?_)
  simp only [Act.put, List.getElem_toArray, List.getElem_cons_succ, List.getElem_cons_zero, List.setIfInBounds_toArray, List.set_cons_succ, List.set_cons_zero] at ha'
  subst ha'
  refine wpAnyH_next (i := 2) (v := .bool true) rfl (by kernel_rfl) (by kernel_rfl) (by kernel_rfl) (fun _ _ _ h => h) (by kernel_rfl) (fun W1 hW1 => by go_simp; done) hS0 (fun a' ha' => ?_)
  simp only [Act.put, List.getElem_toArray, List.getElem_cons_succ, List.getElem_cons_zero, List.setIfInBounds_toArray, List.set_cons_succ, List.set_cons_zero] at ha'
  subst ha'
  refine wpAnyH_next (i := 3) (v := DotV 0 6) rfl (by kernel_rfl) (by kernel_rfl) (by kernel_rfl) (fun _ _ _ h => h) (by kernel_rfl) (fun W1 hW1 => by have e1 := cellOn hW1 q1; have e2 := cellOn hW1 q2; go_simp; done) hS0 (fun a' ha' => ?_)
  simp only [Act.put, List.getElem_toArray, List.getElem_cons_succ, List.getElem_cons_zero, List.setIfInBounds_toArray, List.set_cons_succ, List.set_cons_zero] at ha'
  subst ha'
  refine wpAnyH_next (i := 4) (v := DotV 0 6) rfl (by kernel_rfl) (by kernel_rfl) (by kernel_rfl) (fun _ _ _ h => h) (by kernel_rfl) (fun W1 hW1 => by go_simp; done) hS0 (fun a' ha' => ?_)
  simp only [Act.put, List.getElem_toArray, List.getElem_cons_succ, List.getElem_cons_zero, List.setIfInBounds_toArray, List.set_cons_succ, List.set_cons_zero] at ha'
  subst ha'
  refine wpAnyH_next (i := 5) (v := .bool true) rfl (by kernel_rfl) (by kernel_rfl) (by kernel_rfl) (fun _ _ _ h => h) (by kernel_rfl) (fun W1 hW1 => by go_simp; done) hS0 (fun a' ha' => ?_)
  simp only [Act.put, List.getElem_toArray, List.getElem_cons_succ, List.getElem_cons_zero, List.setIfInBounds_toArray, List.set_cons_succ, List.set_cons_zero] at ha'
  subst ha'
  refine wpAnyH_next (i := 6) (v := .bool true) rfl (by kernel_rfl) (by kernel_rfl) (by kernel_rfl) (fun _ _ _ h => h) (by kernel_rfl) (fun W1 hW1 => by go_simp; done) hS0 (fun a' ha' => ?_)
  simp only [Act.put, List.getElem_toArray, List.getElem_cons_succ, List.getElem_cons_zero, List.setIfInBounds_toArray, List.set_cons_succ, List.set_cons_zero] at ha'
  subst ha'
  refine wpAnyH_next (i := 7) (v := .bool true) rfl (by kernel_rfl) (by kernel_rfl) (by kernel_rfl) (fun _ _ _ h => h) (by kernel_rfl) (fun W1 hW1 => by go_simp; done) hS0 (fun a' ha' => ?_)
  simp only [Act.put, List.getElem_toArray, List.getElem_cons_succ, List.getElem_cons_zero, List.setIfInBounds_toArray, List.set_cons_succ, List.set_cons_zero] at ha'
  subst ha'
  refine wpAnyH_next (i := 8) (v := .int .i64 60) rfl (by kernel_rfl) (by kernel_rfl) (by kernel_rfl) (fun _ _ _ h => h) (by kernel_rfl) (fun W1 hW1 => by go_simp; done) hS0 (fun a' ha' => ?_)
  simp only [Act.put, List.getElem_toArray, List.getElem_cons_succ, List.getElem_cons_zero, List.setIfInBounds_toArray, List.set_cons_succ, List.set_cons_zero] at ha'
  subst ha'
  refine wpAnyH_next (i := 9) (v := .bool true) rfl (by kernel_rfl) (by kernel_rfl) (by kernel_rfl) (fun _ _ _ h => h) (by kernel_rfl) (fun W1 hW1 => by go_simp; done) hS0 (fun a' ha' => ?_)
  simp only [Act.put, List.getElem_toArray, List.getElem_cons_succ, List.getElem_cons_zero, List.setIfInBounds_toArray, List.set_cons_succ, List.set_cons_zero] at ha'
  subst ha'
  refine wpAnyH_next (i := 10) (v := .bool true) rfl (by kernel_rfl) (by kernel_rfl) (by kernel_rfl) (fun _ _ _ h => h) (by kernel_rfl) (fun W1 hW1 => by go_simp; done) hS0 (fun a' ha' => ?_)
  simp only [Act.put, List.getElem_toArray, List.getElem_cons_succ, List.getElem_cons_zero, List.setIfInBounds_toArray, List.set_cons_succ, List.set_cons_zero] at ha'
  subst ha'
  refine wpAnyH_next (i := 11) (v := .bool true) rfl (by kernel_rfl) (by kernel_rfl) (by kernel_rfl) (fun _ _ _ h => h) (by kernel_rfl) (fun W1 hW1 => by go_simp; done) hS0 (fun a' ha' => ?_)
  simp only [Act.put, List.getElem_toArray, List.getElem_cons_succ, List.getElem_cons_zero, List.setIfInBounds_toArray, List.set_cons_succ, List.set_cons_zero] at ha'
  subst ha'
  refine wpAnyH_next (i := 12) (v := .int .i64 50) rfl (by kernel_rfl) (by kernel_rfl) (by kernel_rfl) (fun _ _ _ h => h) (by kernel_rfl) (fun W1 hW1 => by go_simp; done) hS0 (fun a' ha' => ?_)
  simp only [Act.put, List.getElem_toArray, List.getElem_cons_succ, List.getElem_cons_zero, List.setIfInBounds_toArray, List.set_cons_succ, List.set_cons_zero] at ha'
  subst ha'
  refine wpAnyH_next (i := 13) (v := .bool true) rfl (by kernel_rfl) (by kernel_rfl) (by kernel_rfl) (fun _ _ _ h => h) (by kernel_rfl) (fun W1 hW1 => by go_simp; done) hS0 (fun a' ha' => ?_)
  simp only [Act.put, List.getElem_toArray, List.getElem_cons_succ, List.getElem_cons_zero, List.setIfInBounds_toArray, List.set_cons_succ, List.set_cons_zero] at ha'
  subst ha'
  refine wpAnyH_next (i := 14) (v := .bool true) rfl (by kernel_rfl) (by kernel_rfl) (by kernel_rfl) (fun _ _ _ h => h) (by kernel_rfl) (fun W1 hW1 => by go_simp; done) hS0 (fun a' ha' => ?_)
  simp only [Act.put, List.getElem_toArray, List.getElem_cons_succ, List.getElem_cons_zero, List.setIfInBounds_toArray, List.set_cons_succ, List.set_cons_zero] at ha'
  subst ha'
  refine wpAnyH_next (i := 15) (v := .bool true) rfl (by kernel_rfl) (by kernel_rfl) (by kernel_rfl) (fun _ _ _ h => h) (by kernel_rfl) (fun W1 hW1 => by go_simp; done) hS0 (fun a' ha' => ?_)
  simp only [Act.put, List.getElem_toArray, List.getElem_cons_succ, List.getElem_cons_zero, List.setIfInBounds_toArray, List.set_cons_succ, List.set_cons_zero] at ha'
  subst ha'
  refine wpAnyH_next (i := 16) (v := .int .i64 50) rfl (by kernel_rfl) (by kernel_rfl) (by kernel_rfl) (fun _ _ _ h => h) (by kernel_rfl) (fun W1 hW1 => by go_simp; done) hS0 (fun a' ha' => ?_)
  simp only [Act.put, List.getElem_toArray, List.getElem_cons_succ, List.getElem_cons_zero, List.setIfInBounds_toArray, List.set_cons_succ, List.set_cons_zero] at ha'
  subst ha'
  refine wpAnyH_next (i := 17) (v := .bool true) rfl (by kernel_rfl) (by kernel_rfl) (by kernel_rfl) (fun _ _ _ h => h) (by kernel_rfl) (fun W1 hW1 => by go_simp; done) hS0 (fun a' ha' => ?_)
  simp only [Act.put, List.getElem_toArray, List.getElem_cons_succ, List.getElem_cons_zero, List.setIfInBounds_toArray, List.set_cons_succ, List.set_cons_zero] at ha'
  subst ha'
  refine wpAnyH_next (i := 18) (v := .bool true) rfl (by kernel_rfl) (by kernel_rfl) (by kernel_rfl) (fun _ _ _ h => h) (by kernel_rfl) (fun W1 hW1 => by go_simp; done) hS0 (fun a' ha' => ?_)
  simp only [Act.put, List.getElem_toArray, List.getElem_cons_succ, List.getElem_cons_zero, List.setIfInBounds_toArray, List.set_cons_succ, List.set_cons_zero] at ha'
  subst ha'
  refine wpAnyH_next (i := 19) (v := .bool true) rfl (by kernel_rfl) (by kernel_rfl) (by kernel_rfl) (fun _ _ _ h => h) (by kernel_rfl) (fun W1 hW1 => by go_simp; done) hS0 (fun a' ha' => ?_)
  simp only [Act.put, List.getElem_toArray, List.getElem_cons_succ, List.getElem_cons_zero, List.setIfInBounds_toArray, List.set_cons_succ, List.set_cons_zero] at ha'
  subst ha'
  refine wpAnyH_next (i := 20) (v := .int .i64 61) rfl (by kernel_rfl) (by kernel_rfl) (by kernel_rfl) (fun _ _ _ h => h) (by kernel_rfl) (fun W1 hW1 => by go_simp; done) hS0 (fun a' ha' => ?_)
  simp only [Act.put, List.getElem_toArray, List.getElem_cons_succ, List.getElem_cons_zero, List.setIfInBounds_toArray, List.set_cons_succ, List.set_cons_zero] at ha'
  subst ha'
  refine wpAnyH_next (i := 21) (v := .bool true) rfl (by kernel_rfl) (by kernel_rfl) (by kernel_rfl) (fun _ _ _ h => h) (by kernel_rfl) (fun W1 hW1 => by go_simp; done) hS0 (fun a' ha' => ?_)
  simp only [Act.put, List.getElem_toArray, List.getElem_cons_succ, List.getElem_cons_zero, List.setIfInBounds_toArray, List.set_cons_succ, List.set_cons_zero] at ha'
  subst ha'
  refine wpAnyH_next (i := 22) (v := .bool true) rfl (by kernel_rfl) (by kernel_rfl) (by kernel_rfl) (fun _ _ _ h => h) (by kernel_rfl) (fun W1 hW1 => by go_simp; done) hS0 (fun a' ha' => ?_)
  simp only [Act.put, List.getElem_toArray, List.getElem_cons_succ, List.getElem_cons_zero, List.setIfInBounds_toArray, List.set_cons_succ, List.set_cons_zero] at ha'
  subst ha'
  refine wpAnyH_next (i := 23) (v := .bool true) rfl (by kernel_rfl) (by kernel_rfl) (by kernel_rfl) (fun _ _ _ h => h) (by kernel_rfl) (fun W1 hW1 => by go_simp; done) hS0 (fun a' ha' => ?_)
  simp only [Act.put, List.getElem_toArray, List.getElem_cons_succ, List.getElem_cons_zero, List.setIfInBounds_toArray, List.set_cons_succ, List.set_cons_zero] at ha'
  subst ha'
  refine wpAnyH_next (i := 24) (v := .int .i64 0) rfl (by kernel_rfl) (by kernel_rfl) (by kernel_rfl) (fun _ _ _ h => h) (by kernel_rfl) (fun W1 hW1 => by go_simp; done) hS0 (fun a' ha' => ?_)
  simp only [Act.put, List.getElem_toArray, List.getElem_cons_succ, List.getElem_cons_zero, List.setIfInBounds_toArray, List.set_cons_succ, List.set_cons_zero] at ha'
  subst ha'
  refine wpAnyH_next (i := 25) (v := .bool true) rfl (by kernel_rfl) (by kernel_rfl) (by kernel_rfl) (fun _ _ _ h => h) (by kernel_rfl) (fun W1 hW1 => by go_simp; done) hS0 (fun a' ha' => ?_)
  simp only [Act.put, List.getElem_toArray, List.getElem_cons_succ, List.getElem_cons_zero, List.setIfInBounds_toArray, List.set_cons_succ, List.set_cons_zero] at ha'
  subst ha'
  refine wpAnyH_next (i := 26) (v := .bool true) rfl (by kernel_rfl) (by kernel_rfl) (by kernel_rfl) (fun _ _ _ h => h) (by kernel_rfl) (fun W1 hW1 => by go_simp; done) hS0 (fun a' ha' => ?_)
  simp only [Act.put, List.getElem_toArray, List.getElem_cons_succ, List.getElem_cons_zero, List.setIfInBounds_toArray, List.set_cons_succ, List.set_cons_zero] at ha'
  subst ha'
  refine wpAnyH_next (i := 27) (v := .bool true) rfl (by kernel_rfl) (by kernel_rfl) (by kernel_rfl) (fun _ _ _ h => h) (by kernel_rfl) (fun W1 hW1 => by go_simp; done) hS0 (fun a' ha' => ?_)
  simp only [Act.put, List.getElem_toArray, List.getElem_cons_succ, List.getElem_cons_zero, List.setIfInBounds_toArray, List.set_cons_succ, List.set_cons_zero] at ha'
  subst ha'
  refine wpAnyH_next (i := 28) (v := VecV vn51) rfl (by kernel_rfl) (by kernel_rfl) (by kernel_rfl) (fun _ _ _ h => h) (by kernel_rfl) (fun W1 hW1 => by exact exec_load_vec rfl rfl ((b12.below hW1).at)) hS0 (fun a' ha' => ?_)
  simp only [Act.put, List.getElem_toArray, List.getElem_cons_succ, List.getElem_cons_zero, List.setIfInBounds_toArray, List.set_cons_succ, List.set_cons_zero] at ha'
  subst ha'
  refine wpAnyH_want (i := 29) (by kernel_rfl) rfl (by kernel_rfl) (fun K hK => ?_)
  unfold Oper.wp
  go_simp
  have hEu1 := Us.built zA.drew [5, 1] (n := 2) rfl rfl
  have hSu1 := hS0.alloc hS0.size (.cells (List.map W32 [5, 1]).toArray 22)
  change K _ (World.alloc zA.drew (.cells (List.map W32 [5, 1]).toArray 22))
  generalize hg : World.alloc zA.drew (.cells (List.map W32 [5, 1]).toArray 22) = u1 at hEu1 hSu1 ⊢
  clear hg
  refine hK _ _ hSu1 ?_
  clear hK K
  refine wpAnyH_want (i := 30) (by kernel_rfl) rfl (by kernel_rfl) (fun K hK => ?_)
  unfold Oper.wp
  go_simp
  refine (nc_ov51 _ _ hEu1).mono ?_
  rintro e u2 ⟨rfl, hu2⟩
  have hSu2 : Below zA.heap.size zA u2 := hSu1.trans (hu2.mono hSu1.size)
  clear hu2
  refine hK _ _ hSu2 ?_
  clear hK K
  refine wpAnyH_next (i := 31) (v := .bool true) rfl (by kernel_rfl) (by kernel_rfl) (by kernel_rfl) (fun _ _ _ h => h) (by kernel_rfl) (fun W1 hW1 => by exact exec_eql_vec rfl rfl rfl (decide_eq_true rfl)) hSu2 (fun a' ha' => ?_)
  simp only [Act.put, List.getElem_toArray, List.getElem_cons_succ, List.getElem_cons_zero, List.setIfInBounds_toArray, List.set_cons_succ, List.set_cons_zero] at ha'
  subst ha'
  refine wpAnyH_next (i := 32) (v := .bool true) rfl (by kernel_rfl) (by kernel_rfl) (by kernel_rfl) (fun _ _ _ h => h) (by kernel_rfl) (fun W1 hW1 => by go_simp; done) hSu2 (fun a' ha' => ?_)
  simp only [Act.put, List.getElem_toArray, List.getElem_cons_succ, List.getElem_cons_zero, List.setIfInBounds_toArray, List.set_cons_succ, List.set_cons_zero] at ha'
  subst ha'
  refine wpAnyH_next (i := 33) (v := .bool true) rfl (by kernel_rfl) (by kernel_rfl) (by kernel_rfl) (fun _ _ _ h => h) (by kernel_rfl) (fun W1 hW1 => by go_simp; done) hSu2 (fun a' ha' => ?_)
  simp only [Act.put, List.getElem_toArray, List.getElem_cons_succ, List.getElem_cons_zero, List.setIfInBounds_toArray, List.set_cons_succ, List.set_cons_zero] at ha'
  subst ha'
  refine wpAnyH_next (i := 34) (v := .int .i64 61) rfl (by kernel_rfl) (by kernel_rfl) (by kernel_rfl) (fun _ _ _ h => h) (by kernel_rfl) (fun W1 hW1 => by go_simp; done) hSu2 (fun a' ha' => ?_)
  simp only [Act.put, List.getElem_toArray, List.getElem_cons_succ, List.getElem_cons_zero, List.setIfInBounds_toArray, List.set_cons_succ, List.set_cons_zero] at ha'
  subst ha'
  refine wpAnyH_next (i := 35) (v := .bool true) rfl (by kernel_rfl) (by kernel_rfl) (by kernel_rfl) (fun _ _ _ h => h) (by kernel_rfl) (fun W1 hW1 => by go_simp; done) hSu2 (fun a' ha' => ?_)
  simp only [Act.put, List.getElem_toArray, List.getElem_cons_succ, List.getElem_cons_zero, List.setIfInBounds_toArray, List.set_cons_succ, List.set_cons_zero] at ha'
  subst ha'
  refine wpAnyH_next (i := 36) (v := .bool true) rfl (by kernel_rfl) (by kernel_rfl) (by kernel_rfl) (fun _ _ _ h => h) (by kernel_rfl) (fun W1 hW1 => by go_simp; done) hSu2 (fun a' ha' => ?_)
  simp only [Act.put, List.getElem_toArray, List.getElem_cons_succ, List.getElem_cons_zero, List.setIfInBounds_toArray, List.set_cons_succ, List.set_cons_zero] at ha'
  subst ha'
  refine wpAnyH_next (i := 37) (v := .bool true) rfl (by kernel_rfl) (by kernel_rfl) (by kernel_rfl) (fun _ _ _ h => h) (by kernel_rfl) (fun W1 hW1 => by go_simp; done) hSu2 (fun a' ha' => ?_)
  simp only [Act.put, List.getElem_toArray, List.getElem_cons_succ, List.getElem_cons_zero, List.setIfInBounds_toArray, List.set_cons_succ, List.set_cons_zero] at ha'
  subst ha'
  refine wpAnyH_next (i := 38) (v := .int .i64 50) rfl (by kernel_rfl) (by kernel_rfl) (by kernel_rfl) (fun _ _ _ h => h) (by kernel_rfl) (fun W1 hW1 => by go_simp; done) hSu2 (fun a' ha' => ?_)
  simp only [Act.put, List.getElem_toArray, List.getElem_cons_succ, List.getElem_cons_zero, List.setIfInBounds_toArray, List.set_cons_succ, List.set_cons_zero] at ha'
  subst ha'
  refine wpAnyH_next (i := 39) (v := .bool true) rfl (by kernel_rfl) (by kernel_rfl) (by kernel_rfl) (fun _ _ _ h => h) (by kernel_rfl) (fun W1 hW1 => by go_simp; done) hSu2 (fun a' ha' => ?_)
  simp only [Act.put, List.getElem_toArray, List.getElem_cons_succ, List.getElem_cons_zero, List.setIfInBounds_toArray, List.set_cons_succ, List.set_cons_zero] at ha'
  subst ha'
  refine wpAnyH_next (i := 40) (v := .bool true) rfl (by kernel_rfl) (by kernel_rfl) (by kernel_rfl) (fun _ _ _ h => h) (by kernel_rfl) (fun W1 hW1 => by go_simp; done) hSu2 (fun a' ha' => ?_)
  simp only [Act.put, List.getElem_toArray, List.getElem_cons_succ, List.getElem_cons_zero, List.setIfInBounds_toArray, List.set_cons_succ, List.set_cons_zero] at ha'
  subst ha'
  refine wpAnyH_next (i := 41) (v := .bool true) rfl (by kernel_rfl) (by kernel_rfl) (by kernel_rfl) (fun _ _ _ h => h) (by kernel_rfl) (fun W1 hW1 => by go_simp; done) hSu2 (fun a' ha' => ?_)
  simp only [Act.put, List.getElem_toArray, List.getElem_cons_succ, List.getElem_cons_zero, List.setIfInBounds_toArray, List.set_cons_succ, List.set_cons_zero] at ha'
  subst ha'
  refine wpAnyH_next (i := 42) (v := .int .i64 0) rfl (by kernel_rfl) (by kernel_rfl) (by kernel_rfl) (fun _ _ _ h => h) (by kernel_rfl) (fun W1 hW1 => by go_simp; done) hSu2 (fun a' ha' => ?_)
  simp only [Act.put, List.getElem_toArray, List.getElem_cons_succ, List.getElem_cons_zero, List.setIfInBounds_toArray, List.set_cons_succ, List.set_cons_zero] at ha'
  subst ha'
  refine wpAnyH_next (i := 43) (v := .bool true) rfl (by kernel_rfl) (by kernel_rfl) (by kernel_rfl) (fun _ _ _ h => h) (by kernel_rfl) (fun W1 hW1 => by go_simp; done) hSu2 (fun a' ha' => ?_)
  simp only [Act.put, List.getElem_toArray, List.getElem_cons_succ, List.getElem_cons_zero, List.setIfInBounds_toArray, List.set_cons_succ, List.set_cons_zero] at ha'
  subst ha'
  refine wpAnyH_next (i := 44) (v := .bool true) rfl (by kernel_rfl) (by kernel_rfl) (by kernel_rfl) (fun _ _ _ h => h) (by kernel_rfl) (fun W1 hW1 => by go_simp; done) hSu2 (fun a' ha' => ?_)
  simp only [Act.put, List.getElem_toArray, List.getElem_cons_succ, List.getElem_cons_zero, List.setIfInBounds_toArray, List.set_cons_succ, List.set_cons_zero] at ha'
  subst ha'
  refine wpAnyH_next (i := 45) (v := .bool true) rfl (by kernel_rfl) (by kernel_rfl) (by kernel_rfl) (fun _ _ _ h => h) (by kernel_rfl) (fun W1 hW1 => by go_simp; done) hSu2 (fun a' ha' => ?_)
  simp only [Act.put, List.getElem_toArray, List.getElem_cons_succ, List.getElem_cons_zero, List.setIfInBounds_toArray, List.set_cons_succ, List.set_cons_zero] at ha'
  subst ha'
  refine wpAnyH_next (i := 46) (v := VecV vnm) rfl (by kernel_rfl) (by kernel_rfl) (by kernel_rfl) (fun _ _ _ h => h) (by kernel_rfl) (fun W1 hW1 => by exact exec_load_vec rfl rfl ((b18.below hW1).at)) hSu2 (fun a' ha' => ?_)
  simp only [Act.put, List.getElem_toArray, List.getElem_cons_succ, List.getElem_cons_zero, List.setIfInBounds_toArray, List.set_cons_succ, List.set_cons_zero] at ha'
  subst ha'
  refine wpAnyH_want (i := 47) (by kernel_rfl) rfl (by kernel_rfl) (fun K hK => ?_)
  unfold Oper.wp
  go_simp
  have hEu3 := Us.built u2 [4294967295] (n := 1) rfl rfl
  have hSu3 := hSu2.alloc hSu2.size (.cells (List.map W32 [4294967295]).toArray 22)
  change K _ (World.alloc u2 (.cells (List.map W32 [4294967295]).toArray 22))
  generalize hg : World.alloc u2 (.cells (List.map W32 [4294967295]).toArray 22) = u3 at hEu3 hSu3 ⊢
  clear hg
  refine hK _ _ hSu3 ?_
  clear hK K
  refine wpAnyH_want (i := 48) (by kernel_rfl) rfl (by kernel_rfl) (fun K hK => ?_)
  unfold Oper.wp
  go_simp
  refine (nc_ovm _ _ hEu3).mono ?_
  rintro e u4 ⟨rfl, hu4⟩
  have hSu4 : Below zA.heap.size zA u4 := hSu3.trans (hu4.mono hSu3.size)
  clear hu4
  refine hK _ _ hSu4 ?_
  clear hK K
  refine wpAnyH_next (i := 49) (v := .bool true) rfl (by kernel_rfl) (by kernel_rfl) (by kernel_rfl) (fun _ _ _ h => h) (by kernel_rfl) (fun W1 hW1 => by exact exec_eql_vec rfl rfl rfl (decide_eq_true rfl)) hSu4 (fun a' ha' => ?_)
  simp only [Act.put, List.getElem_toArray, List.getElem_cons_succ, List.getElem_cons_zero, List.setIfInBounds_toArray, List.set_cons_succ, List.set_cons_zero] at ha'
  subst ha'
  refine wpAnyH_next (i := 50) (v := .bool true) rfl (by kernel_rfl) (by kernel_rfl) (by kernel_rfl) (fun _ _ _ h => h) (by kernel_rfl) (fun W1 hW1 => by go_simp; done) hSu4 (fun a' ha' => ?_)
  simp only [Act.put, List.getElem_toArray, List.getElem_cons_succ, List.getElem_cons_zero, List.setIfInBounds_toArray, List.set_cons_succ, List.set_cons_zero] at ha'
  subst ha'
  refine wpAnyH_next (i := 51) (v := .bool true) rfl (by kernel_rfl) (by kernel_rfl) (by kernel_rfl) (fun _ _ _ h => h) (by kernel_rfl) (fun W1 hW1 => by go_simp; done) hSu4 (fun a' ha' => ?_)
  simp only [Act.put, List.getElem_toArray, List.getElem_cons_succ, List.getElem_cons_zero, List.setIfInBounds_toArray, List.set_cons_succ, List.set_cons_zero] at ha'
  subst ha'
  refine wpAnyH_fin (by kernel_rfl) ?_ _
  replace q1 := cellOn hSu4 q1
  replace q2 := cellOn hSu4 q2
  replace b12 := b12.below hSu4
  replace b18 := b18.below hSu4
  replace hB := hB.trans (hSu4.mono hB.size)
  clear hS0 hSu1 hSu2 hSu3 hSu4
  clear q1 q2 b12 b18
  go_wp2_with fail
  refine (nc_f210 _).mono ?_
  rintro e x19 ⟨gs, vs, rfl, hat, hgs, hb⟩
  go_wp2_with fail
  refine (nc_d210 _ _ _ hat).mono ?_
  rintro e x20 ⟨rfl, hr⟩
  have hb2 := hb.trans (SourceRead.below hb.size hgs hr)
  replace hB := hB.trans (hb2.mono hB.size)
  clear hb hr hat hgs hb2
  go_wp2_with (first
      | (refine wpList_alloc_vec rfl rfl ?_)
      | (refine wpList_store_vec rfl (.tmp 21) (.tmp 163) rfl rfl (BoxV.new _ zeroV) rfl ?_
         intro z21 bz kz
         have hbz := keptNew kz
         clear kz))
  replace hB := hB.trans (hbz.mono hB.size)
  clear hbz bz
  refine (nc_f17 _).mono ?_
  rintro e x21 ⟨gs, vs, rfl, hat, hgs, hb⟩
  go_wp2_with fail
  refine (nc_d17 _ _ _ hat).mono ?_
  rintro e x22 ⟨rfl, hr⟩
  have hb2 := hb.trans (SourceRead.below hb.size hgs hr)
  replace hB := hB.trans (hb2.mono hB.size)
  clear hb hr hat hgs hb2
  go_wp2_with (first
      | (refine wpList_alloc_vec rfl rfl ?_)
      | (refine wpList_store_vec rfl (.tmp 23) (.tmp 169) rfl rfl (BoxV.new _ zeroV) rfl ?_
         intro z23 bz kz
         have hbz := keptNew kz
         clear kz))
  replace hB := hB.trans (hbz.mono hB.size)
  clear hbz bz
  refine (nc_f1 _).mono ?_
  rintro e x23 ⟨gs, vs, rfl, hat, hgs, hb⟩
  go_wp2_with fail
  refine (nc_d1 _ _ _ hat).mono ?_
  rintro e x24 ⟨rfl, hr⟩
  have hb2 := hb.trans (SourceRead.below hb.size hgs hr)
  replace hB := hB.trans (hb2.mono hB.size)
  clear hb hr hat hgs hb2
  go_wp2_with (first
      | (refine wpList_alloc_vec rfl rfl ?_)
      | (refine wpList_store_vec rfl (.tmp 25) (.tmp 175) rfl rfl (BoxV.new _ zeroV) rfl ?_
         intro z25 bz kz
         have hbz := keptNew kz
         clear kz))
  replace hB := hB.trans (hbz.mono hB.size)
  clear hbz bz
  refine (nc_dN _).mono ?_
  rintro e x25 ⟨rfl, hb⟩
  replace hB := hB.trans (hb.mono hB.size)
  clear hb
  go_wp2_with (first
      | (refine wpList_alloc_vec rfl rfl ?_)
      | (refine wpList_store_vec rfl (.tmp 27) (.tmp 179) rfl rfl (BoxV.new _ zeroV) rfl ?_
         intro z26 bz kz
         have hbz := keptNew kz
         clear kz))
  replace hB := hB.trans (hbz.mono hB.size)
  clear hbz bz
  refine (nc_f09 _).mono ?_
  rintro e x26 ⟨gs, vs, rfl, hat, hgs, hb⟩
  go_wp2_with fail
  refine (nc_d09 _ _ _ hat).mono ?_
  rintro e x27 ⟨rfl, hr⟩
  have hb2 := hb.trans (SourceRead.below hb.size hgs hr)
  replace hB := hB.trans (hb2.mono hB.size)
  clear hb hr hat hgs hb2
  go_wp2_with (first
      | (with_reducible apply held_at 17)
      | (refine wpList_alloc_vec rfl rfl ?_)
      | (refine wpList_store_vec rfl (.tmp 29) (.tmp 185) rfl rfl (BoxV.new _ zeroV) rfl ?_
         intro zB bz kz
         have hbz := keptNew kz
         clear kz))
  replace hB := hB.trans (hbz.mono hB.size)
  have b29 := bz
  clear hbz bz
  unfold Held
  refine wp_held (fun W1 => Below zB.heap.size zB W1) (by kernel_rfl) ?_
  have hS0 : Below zB.heap.size zB zB.drew := (Below.refl _ zB).drew
  refine wpAnyH_next (i := 0) (v := .int .i64 62) rfl (by kernel_rfl) (by kernel_rfl) (by kernel_rfl) (fun _ _ _ h => h) (by kernel_rfl) (fun W1 hW1 => by go_simp; done) hS0 (fun a' ha' => ?_)
  simp only [Act.put, List.getElem_toArray, List.getElem_cons_zero, List.setIfInBounds_toArray, List.set_cons_succ, List.set_cons_zero] at ha'
  subst ha'
  refine wpAnyH_next (i := 1) (v := .bool true) rfl (by kernel_rfl) (by kernel_rfl) (by kernel_rfl) (fun _ _ _ h => h) (by kernel_rfl) (fun W1 hW1 => by go_simp; done) hS0 (fun a' ha' => ?_)
  simp only [Act.put, List.getElem_toArray, List.getElem_cons_succ, List.getElem_cons_zero, List.setIfInBounds_toArray, List.set_cons_succ, List.set_cons_zero] at ha'
  subst ha'
  refine wpAnyH_next (i := 2) (v := .bool true) rfl (by kernel_rfl) (by kernel_rfl) (by kernel_rfl) (fun _ _ _ h => h) (by kernel_rfl) (fun W1 hW1 => by go_simp; done) hS0 (fun a' ha' => ?_)
  simp only [Act.put, List.getElem_toArray, List.getElem_cons_succ, List.getElem_cons_zero, List.setIfInBounds_toArray, List.set_cons_succ, List.set_cons_zero] at ha'
  subst ha'
  refine wpAnyH_next (i := 3) (v := .int .i64 12) rfl (by kernel_rfl) (by kernel_rfl) (by kernel_rfl) (fun _ _ _ h => h) (by kernel_rfl) (fun W1 hW1 => by go_simp; done) hS0 (fun a' ha' => ?_)
  simp only [Act.put, List.getElem_toArray, List.getElem_cons_succ, List.getElem_cons_zero, List.setIfInBounds_toArray, List.set_cons_succ, List.set_cons_zero] at ha'
  subst ha'
  refine wpAnyH_next (i := 4) (v := .bool true) rfl (by kernel_rfl) (by kernel_rfl) (by kernel_rfl) (fun _ _ _ h => h) (by kernel_rfl) (fun W1 hW1 => by go_simp; done) hS0 (fun a' ha' => ?_)
  simp only [Act.put, List.getElem_toArray, List.getElem_cons_succ, List.getElem_cons_zero, List.setIfInBounds_toArray, List.set_cons_succ, List.set_cons_zero] at ha'
  subst ha'
  refine wpAnyH_next (i := 5) (v := .bool true) rfl (by kernel_rfl) (by kernel_rfl) (by kernel_rfl) (fun _ _ _ h => h) (by kernel_rfl) (fun W1 hW1 => by go_simp; done) hS0 (fun a' ha' => ?_)
  simp only [Act.put, List.getElem_toArray, List.getElem_cons_succ, List.getElem_cons_zero, List.setIfInBounds_toArray, List.set_cons_succ, List.set_cons_zero] at ha'
  subst ha'
  refine wpAnyH_next (i := 6) (v := .bool true) rfl (by kernel_rfl) (by kernel_rfl) (by kernel_rfl) (fun _ _ _ h => h) (by kernel_rfl) (fun W1 hW1 => by go_simp; done) hS0 (fun a' ha' => ?_)
  simp only [Act.put, List.getElem_toArray, List.getElem_cons_succ, List.getElem_cons_zero, List.setIfInBounds_toArray, List.set_cons_succ, List.set_cons_zero] at ha'
  subst ha'
  refine wpAnyH_next (i := 7) (v := .int .i64 10) rfl (by kernel_rfl) (by kernel_rfl) (by kernel_rfl) (fun _ _ _ h => h) (by kernel_rfl) (fun W1 hW1 => by go_simp; done) hS0 (fun a' ha' => ?_)
  simp only [Act.put, List.getElem_toArray, List.getElem_cons_succ, List.getElem_cons_zero, List.setIfInBounds_toArray, List.set_cons_succ, List.set_cons_zero] at ha'
  subst ha'
  refine wpAnyH_next (i := 8) (v := .bool true) rfl (by kernel_rfl) (by kernel_rfl) (by kernel_rfl) (fun _ _ _ h => h) (by kernel_rfl) (fun W1 hW1 => by go_simp; done) hS0 (fun a' ha' => ?_)
  simp only [Act.put, List.getElem_toArray, List.getElem_cons_succ, List.getElem_cons_zero, List.setIfInBounds_toArray, List.set_cons_succ, List.set_cons_zero] at ha'
  subst ha'
  refine wpAnyH_next (i := 9) (v := .bool true) rfl (by kernel_rfl) (by kernel_rfl) (by kernel_rfl) (fun _ _ _ h => h) (by kernel_rfl) (fun W1 hW1 => by go_simp; done) hS0 (fun a' ha' => ?_)
  simp only [Act.put, List.getElem_toArray, List.getElem_cons_succ, List.getElem_cons_zero, List.setIfInBounds_toArray, List.set_cons_succ, List.set_cons_zero] at ha'
  subst ha'
  refine wpAnyH_next (i := 10) (v := .bool true) rfl (by kernel_rfl) (by kernel_rfl) (by kernel_rfl) (fun _ _ _ h => h) (by kernel_rfl) (fun W1 hW1 => by go_simp; done) hS0 (fun a' ha' => ?_)
  simp only [Act.put, List.getElem_toArray, List.getElem_cons_succ, List.getElem_cons_zero, List.setIfInBounds_toArray, List.set_cons_succ, List.set_cons_zero] at ha'
  subst ha'
  refine wpAnyH_next (i := 11) (v := .int .i64 1) rfl (by kernel_rfl) (by kernel_rfl) (by kernel_rfl) (fun _ _ _ h => h) (by kernel_rfl) (fun W1 hW1 => by go_simp; done) hS0 (fun a' ha' => ?_)
  simp only [Act.put, List.getElem_toArray, List.getElem_cons_succ, List.getElem_cons_zero, List.setIfInBounds_toArray, List.set_cons_succ, List.set_cons_zero] at ha'
  subst ha'
  refine wpAnyH_next (i := 12) (v := .bool true) rfl (by kernel_rfl) (by kernel_rfl) (by kernel_rfl) (fun _ _ _ h => h) (by kernel_rfl) (fun W1 hW1 => by go_simp; done) hS0 (fun a' ha' => ?_)
  simp only [Act.put, List.getElem_toArray, List.getElem_cons_succ, List.getElem_cons_zero, List.setIfInBounds_toArray, List.set_cons_succ, List.set_cons_zero] at ha'
  subst ha'
  refine wpAnyH_next (i := 13) (v := .bool true) rfl (by kernel_rfl) (by kernel_rfl) (by kernel_rfl) (fun _ _ _ h => h) (by kernel_rfl) (fun W1 hW1 => by go_simp; done) hS0 (fun a' ha' => ?_)
  simp only [Act.put, List.getElem_toArray, List.getElem_cons_succ, List.getElem_cons_zero, List.setIfInBounds_toArray, List.set_cons_succ, List.set_cons_zero] at ha'
  subst ha'
  refine wpAnyH_next (i := 14) (v := .bool true) rfl (by kernel_rfl) (by kernel_rfl) (by kernel_rfl) (fun _ _ _ h => h) (by kernel_rfl) (fun W1 hW1 => by go_simp; done) hS0 (fun a' ha' => ?_)
  simp only [Act.put, List.getElem_toArray, List.getElem_cons_succ, List.getElem_cons_zero, List.setIfInBounds_toArray, List.set_cons_succ, List.set_cons_zero] at ha'
  subst ha'
  refine wpAnyH_next (i := 15) (v := .int .i64 0) rfl (by kernel_rfl) (by kernel_rfl) (by kernel_rfl) (fun _ _ _ h => h) (by kernel_rfl) (fun W1 hW1 => by go_simp; done) hS0 (fun a' ha' => ?_)
  simp only [Act.put, List.getElem_toArray, List.getElem_cons_succ, List.getElem_cons_zero, List.setIfInBounds_toArray, List.set_cons_succ, List.set_cons_zero] at ha'
  subst ha'
  refine wpAnyH_next (i := 16) (v := .bool true) rfl (by kernel_rfl) (by kernel_rfl) (by kernel_rfl) (fun _ _ _ h => h) (by kernel_rfl) (fun W1 hW1 => by go_simp; done) hS0 (fun a' ha' => ?_)
  simp only [Act.put, List.getElem_toArray, List.getElem_cons_succ, List.getElem_cons_zero, List.setIfInBounds_toArray, List.set_cons_succ, List.set_cons_zero] at ha'
  subst ha'
  refine wpAnyH_next (i := 17) (v := .bool true) rfl (by kernel_rfl) (by kernel_rfl) (by kernel_rfl) (fun _ _ _ h => h) (by kernel_rfl) (fun W1 hW1 => by go_simp; done) hS0 (fun a' ha' => ?_)
  simp only [Act.put, List.getElem_toArray, List.getElem_cons_succ, List.getElem_cons_zero, List.setIfInBounds_toArray, List.set_cons_succ, List.set_cons_zero] at ha'
  subst ha'
  refine wpAnyH_next (i := 18) (v := .bool true) rfl (by kernel_rfl) (by kernel_rfl) (by kernel_rfl) (fun _ _ _ h => h) (by kernel_rfl) (fun W1 hW1 => by go_simp; done) hS0 (fun a' ha' => ?_)
  simp only [Act.put, List.getElem_toArray, List.getElem_cons_succ, List.getElem_cons_zero, List.setIfInBounds_toArray, List.set_cons_succ, List.set_cons_zero] at ha'
  subst ha'
  refine wpAnyH_next (i := 19) (v := VecV vnZ) rfl (by kernel_rfl) (by kernel_rfl) (by kernel_rfl) (fun _ _ _ h => h) (by kernel_rfl) (fun W1 hW1 => by exact exec_load_vec rfl rfl ((b29.below hW1).at)) hS0 (fun a' ha' => ?_)
  simp only [Act.put, List.getElem_toArray, List.getElem_cons_succ, List.getElem_cons_zero, List.setIfInBounds_toArray, List.set_cons_succ, List.set_cons_zero] at ha'
  subst ha'
  refine wpAnyH_want (i := 20) (by kernel_rfl) rfl (by kernel_rfl) (fun K hK => ?_)
  unfold Oper.wp
  go_simp
  refine (nc_cvZ _).mono ?_
  rintro e v1 ⟨rfl, hv1⟩
  have hSv1 : Below zB.heap.size zB v1 := hS0.trans (hv1.mono hS0.size)
  clear hv1
  refine hK _ _ hSv1 ?_
  clear hK K
  refine wpAnyH_next (i := 21) (v := .bool true) rfl (by kernel_rfl) (by kernel_rfl) (by kernel_rfl) (fun _ _ _ h => h) (by kernel_rfl) (fun W1 hW1 => by exact exec_eql_vec rfl rfl rfl (decide_eq_true rfl)) hSv1 (fun a' ha' => ?_)
  simp only [Act.put, List.getElem_toArray, List.getElem_cons_succ, List.getElem_cons_zero, List.setIfInBounds_toArray, List.set_cons_succ, List.set_cons_zero] at ha'
  subst ha'
  refine wpAnyH_next (i := 22) (v := .bool true) rfl (by kernel_rfl) (by kernel_rfl) (by kernel_rfl) (fun _ _ _ h => h) (by kernel_rfl) (fun W1 hW1 => by go_simp; done) hSv1 (fun a' ha' => ?_)
  simp only [Act.put, List.getElem_toArray, List.getElem_cons_succ, List.getElem_cons_zero, List.setIfInBounds_toArray, List.set_cons_succ, List.set_cons_zero] at ha'
  subst ha'
  refine wpAnyH_next (i := 23) (v := .bool true) rfl (by kernel_rfl) (by kernel_rfl) (by kernel_rfl) (fun _ _ _ h => h) (by kernel_rfl) (fun W1 hW1 => by go_simp; done) hSv1 (fun a' ha' => ?_)
  simp only [Act.put, List.getElem_toArray, List.getElem_cons_succ, List.getElem_cons_zero, List.setIfInBounds_toArray, List.set_cons_succ, List.set_cons_zero] at ha'
  subst ha'
  refine wpAnyH_fin (by kernel_rfl) ?_ _
  replace b29 := b29.below hSv1
  replace hB := hB.trans (hSv1.mono hB.size)
  clear hS0 hSv1
  clear b29
  rename_i Kz hKz
  show Kz _ _
  refine hKz _ _ ?_
  clear hKz Kz
  refine wp_seq_k fun K0 hK0 => ?_
  simp only [List.append_eq, List.cons_append, List.nil_append]
  refine wp_region_lit ?_
  refine list_want (by first | rfl | kernel_rfl) (fun K hK => ?_)
  unfold Oper.wp
  go_simp
  have hEp1 := Us.built v1 [3] (n := 1) rfl rfl
  have hSp1 := hB.alloc hB.size (.cells (List.map W32 [3]).toArray 22)
  change K _ (World.alloc v1 (.cells (List.map W32 [3]).toArray 22))
  generalize hg : World.alloc v1 (.cells (List.map W32 [3]).toArray 22) = p1 at hEp1 hSp1 ⊢
  clear hg
  refine hK _ _ ?_
  clear hK K
  refine list_want (by first | rfl | kernel_rfl) (fun K hK => ?_)
  unfold Oper.wp
  go_simp
  refine (nc_ov3 _ _ hEp1).mono ?_
  rintro e p2 ⟨rfl, hp2⟩
  have hSp2 : Below w.heap.size w p2 := hSp1.trans (hp2.mono hSp1.size)
  clear hp2
  refine hK _ _ ?_
  clear hK K
  refine list_known (DotV 0 3) (by first | rfl | kernel_rfl) (by go_simp; done) (fun a' ha' => ?_)
  simp only [Act.put, List.setIfInBounds_toArray, List.set_cons_succ, List.set_cons_zero] at ha'
  subst ha'
  refine list_want (by first | rfl | kernel_rfl) (fun K hK => ?_)
  unfold Oper.wp
  go_simp
  refine (nc_h3 _).mono ?_
  rintro e p3 ⟨rfl, hp3⟩
  have hSp3 : Below w.heap.size w p3 := hSp2.trans (hp3.mono hSp2.size)
  clear hp3
  refine hK _ _ ?_
  clear hK K
  refine list_known (.bool true) (by first | rfl | kernel_rfl) (by go_simp; done) (fun a' ha' => ?_)
  simp only [Act.put, List.setIfInBounds_toArray, List.set_cons_succ, List.set_cons_zero] at ha'
  subst ha'
  refine list_want (by first | rfl | kernel_rfl) (fun K hK => ?_)
  unfold Oper.wp
  go_simp
  have hEp4 := Us.built p3 [3] (n := 1) rfl rfl
  have hSp4 := hSp3.alloc hSp3.size (.cells (List.map W32 [3]).toArray 22)
  change K _ (World.alloc p3 (.cells (List.map W32 [3]).toArray 22))
  generalize hg : World.alloc p3 (.cells (List.map W32 [3]).toArray 22) = p4 at hEp4 hSp4 ⊢
  clear hg
  refine hK _ _ ?_
  clear hK K
  refine list_want (by first | rfl | kernel_rfl) (fun K hK => ?_)
  unfold Oper.wp
  go_simp
  refine (nc_ov3 _ _ hEp4).mono ?_
  rintro e p5 ⟨rfl, hp5⟩
  have hSp5 : Below w.heap.size w p5 := hSp4.trans (hp5.mono hSp4.size)
  clear hp5
  refine hK _ _ ?_
  clear hK K
  refine list_known (DotV 0 4) (by first | rfl | kernel_rfl) (by go_simp; done) (fun a' ha' => ?_)
  simp only [Act.put, List.setIfInBounds_toArray, List.set_cons_succ, List.set_cons_zero] at ha'
  subst ha'
  refine list_want (by first | rfl | kernel_rfl) (fun K hK => ?_)
  unfold Oper.wp
  go_simp
  refine (nc_h4 _).mono ?_
  rintro e p6 ⟨rfl, hp6⟩
  have hSp6 : Below w.heap.size w p6 := hSp5.trans (hp6.mono hSp5.size)
  clear hp6
  refine hK _ _ ?_
  clear hK K
  refine list_known (.bool true) (by first | rfl | kernel_rfl) (by go_simp; done) (fun a' ha' => ?_)
  simp only [Act.put, List.setIfInBounds_toArray, List.set_cons_succ, List.set_cons_zero] at ha'
  subst ha'
  refine list_known (.bool true) (by first | rfl | kernel_rfl) (by go_simp; done) (fun a' ha' => ?_)
  simp only [Act.put, List.setIfInBounds_toArray, List.set_cons_succ, List.set_cons_zero] at ha'
  subst ha'
  refine list_known (.bool true) (by first | rfl | kernel_rfl) (by go_simp; done) (fun a' ha' => ?_)
  simp only [Act.put, List.setIfInBounds_toArray, List.set_cons_succ, List.set_cons_zero] at ha'
  subst ha'
  refine list_want (by first | rfl | kernel_rfl) (fun K hK => ?_)
  unfold Oper.wp
  go_simp
  have hEp7 := Us.built p6 [3] (n := 1) rfl rfl
  have hSp7 := hSp6.alloc hSp6.size (.cells (List.map W32 [3]).toArray 22)
  change K _ (World.alloc p6 (.cells (List.map W32 [3]).toArray 22))
  generalize hg : World.alloc p6 (.cells (List.map W32 [3]).toArray 22) = p7 at hEp7 hSp7 ⊢
  clear hg
  refine hK _ _ ?_
  clear hK K
  refine list_want (by first | rfl | kernel_rfl) (fun K hK => ?_)
  unfold Oper.wp
  go_simp
  refine (nc_ov3 _ _ hEp7).mono ?_
  rintro e p8 ⟨rfl, hp8⟩
  have hSp8 : Below w.heap.size w p8 := hSp7.trans (hp8.mono hSp7.size)
  clear hp8
  refine hK _ _ ?_
  clear hK K
  refine list_known (DotV 0 0) (by first | rfl | kernel_rfl) (by go_simp; done) (fun a' ha' => ?_)
  simp only [Act.put, List.setIfInBounds_toArray, List.set_cons_succ, List.set_cons_zero] at ha'
  subst ha'
  refine list_want (by first | rfl | kernel_rfl) (fun K hK => ?_)
  unfold Oper.wp
  go_simp
  refine (nc_h0 _).mono ?_
  rintro e p9 ⟨rfl, hp9⟩
  have hSp9 : Below w.heap.size w p9 := hSp8.trans (hp9.mono hSp8.size)
  clear hp9
  refine hK _ _ ?_
  clear hK K
  refine list_known (.bool true) (by first | rfl | kernel_rfl) (by go_simp; done) (fun a' ha' => ?_)
  simp only [Act.put, List.setIfInBounds_toArray, List.set_cons_succ, List.set_cons_zero] at ha'
  subst ha'
  refine list_known (.bool true) (by first | rfl | kernel_rfl) (by go_simp; done) (fun a' ha' => ?_)
  simp only [Act.put, List.setIfInBounds_toArray, List.set_cons_succ, List.set_cons_zero] at ha'
  subst ha'
  refine list_known (.bool true) (by first | rfl | kernel_rfl) (by go_simp; done) (fun a' ha' => ?_)
  simp only [Act.put, List.setIfInBounds_toArray, List.set_cons_succ, List.set_cons_zero] at ha'
  subst ha'
  refine list_want (by first | rfl | kernel_rfl) (fun K hK => ?_)
  unfold Oper.wp
  go_simp
  have hEp10 := Us.built p9 [3] (n := 1) rfl rfl
  have hSp10 := hSp9.alloc hSp9.size (.cells (List.map W32 [3]).toArray 22)
  change K _ (World.alloc p9 (.cells (List.map W32 [3]).toArray 22))
  generalize hg : World.alloc p9 (.cells (List.map W32 [3]).toArray 22) = p10 at hEp10 hSp10 ⊢
  clear hg
  refine hK _ _ ?_
  clear hK K
  refine list_want (by first | rfl | kernel_rfl) (fun K hK => ?_)
  unfold Oper.wp
  go_simp
  refine (nc_ov3 _ _ hEp10).mono ?_
  rintro e p11 ⟨rfl, hp11⟩
  have hSp11 : Below w.heap.size w p11 := hSp10.trans (hp11.mono hSp10.size)
  clear hp11
  refine hK _ _ ?_
  clear hK K
  refine list_known (DotV 16 1) (by first | rfl | kernel_rfl) (by go_simp; done) (fun a' ha' => ?_)
  simp only [Act.put, List.setIfInBounds_toArray, List.set_cons_succ, List.set_cons_zero] at ha'
  subst ha'
  refine list_want (by first | rfl | kernel_rfl) (fun K hK => ?_)
  unfold Oper.wp
  go_simp
  refine (nc_h16 _).mono ?_
  rintro e p12 ⟨rfl, hp12⟩
  have hSp12 : Below w.heap.size w p12 := hSp11.trans (hp12.mono hSp11.size)
  clear hp12
  refine hK _ _ ?_
  clear hK K
  refine list_known (.bool true) (by first | rfl | kernel_rfl) (by go_simp; done) (fun a' ha' => ?_)
  simp only [Act.put, List.setIfInBounds_toArray, List.set_cons_succ, List.set_cons_zero] at ha'
  subst ha'
  refine list_known (.bool true) (by first | rfl | kernel_rfl) (by go_simp; done) (fun a' ha' => ?_)
  simp only [Act.put, List.setIfInBounds_toArray, List.set_cons_succ, List.set_cons_zero] at ha'
  subst ha'
  refine list_known (.bool true) (by first | rfl | kernel_rfl) (by go_simp; done) (fun a' ha' => ?_)
  simp only [Act.put, List.setIfInBounds_toArray, List.set_cons_succ, List.set_cons_zero] at ha'
  subst ha'
  refine list_want (by first | rfl | kernel_rfl) (fun K hK => ?_)
  unfold Oper.wp
  go_simp
  have hEp13 := Us.built p12 [1, 9] (n := 2) rfl rfl
  have hSp13 := hSp12.alloc hSp12.size (.cells (List.map W32 [1, 9]).toArray 22)
  change K _ (World.alloc p12 (.cells (List.map W32 [1, 9]).toArray 22))
  generalize hg : World.alloc p12 (.cells (List.map W32 [1, 9]).toArray 22) = p13 at hEp13 hSp13 ⊢
  clear hg
  refine hK _ _ ?_
  clear hK K
  refine list_want (by first | rfl | kernel_rfl) (fun K hK => ?_)
  unfold Oper.wp
  go_simp
  refine (nc_ov19 _ _ hEp13).mono ?_
  rintro e p14 ⟨rfl, hp14⟩
  have hSp14 : Below w.heap.size w p14 := hSp13.trans (hp14.mono hSp13.size)
  clear hp14
  refine hK _ _ ?_
  clear hK K
  refine list_want (by first | rfl | kernel_rfl) (fun K hK => ?_)
  unfold Oper.wp
  go_simp
  have hEp15 := Us.built p14 [3, 2] (n := 2) rfl rfl
  have hSp15 := hSp14.alloc hSp14.size (.cells (List.map W32 [3, 2]).toArray 22)
  change K _ (World.alloc p14 (.cells (List.map W32 [3, 2]).toArray 22))
  generalize hg : World.alloc p14 (.cells (List.map W32 [3, 2]).toArray 22) = p15 at hEp15 hSp15 ⊢
  clear hg
  refine hK _ _ ?_
  clear hK K
  refine list_want (by first | rfl | kernel_rfl) (fun K hK => ?_)
  unfold Oper.wp
  go_simp
  refine (nc_ov32 _ _ hEp15).mono ?_
  rintro e p16 ⟨rfl, hp16⟩
  have hSp16 : Below w.heap.size w p16 := hSp15.trans (hp16.mono hSp15.size)
  clear hp16
  refine hK _ _ ?_
  clear hK K
  refine list_want (by first | rfl | kernel_rfl) (fun K hK => ?_)
  unfold Oper.wp
  go_simp
  refine (nc_lk _).mono ?_
  rintro e p17 ⟨rfl, hp17⟩
  have hSp17 : Below w.heap.size w p17 := hSp16.trans (hp17.mono hSp16.size)
  clear hp17
  refine hK _ _ ?_
  clear hK K
  refine list_known (.bool true) (by first | rfl | kernel_rfl) (by go_simp; done) (fun a' ha' => ?_)
  simp only [Act.put, List.setIfInBounds_toArray, List.set_cons_succ, List.set_cons_zero] at ha'
  subst ha'
  refine list_known (.bool true) (by first | rfl | kernel_rfl) (by go_simp; done) (fun a' ha' => ?_)
  simp only [Act.put, List.setIfInBounds_toArray, List.set_cons_succ, List.set_cons_zero] at ha'
  subst ha'
  refine list_known (.bool true) (by first | rfl | kernel_rfl) (by go_simp; done) (fun a' ha' => ?_)
  simp only [Act.put, List.setIfInBounds_toArray, List.set_cons_succ, List.set_cons_zero] at ha'
  subst ha'
  refine list_want (by first | rfl | kernel_rfl) (fun K hK => ?_)
  unfold Oper.wp
  go_simp
  have hEp18 := Us.built p17 [2] (n := 1) rfl rfl
  have hSp18 := hSp17.alloc hSp17.size (.cells (List.map W32 [2]).toArray 22)
  change K _ (World.alloc p17 (.cells (List.map W32 [2]).toArray 22))
  generalize hg : World.alloc p17 (.cells (List.map W32 [2]).toArray 22) = p18 at hEp18 hSp18 ⊢
  clear hg
  refine hK _ _ ?_
  clear hK K
  refine list_want (by first | rfl | kernel_rfl) (fun K hK => ?_)
  unfold Oper.wp
  go_simp
  refine (nc_ov2 _ _ hEp18).mono ?_
  rintro e p19 ⟨rfl, hp19⟩
  have hSp19 : Below w.heap.size w p19 := hSp18.trans (hp19.mono hSp18.size)
  clear hp19
  refine hK _ _ ?_
  clear hK K
  refine list_want (by first | rfl | kernel_rfl) (fun K hK => ?_)
  unfold Oper.wp
  go_simp
  have hEp20 := Us.built p19 [1] (n := 1) rfl rfl
  have hSp20 := hSp19.alloc hSp19.size (.cells (List.map W32 [1]).toArray 22)
  change K _ (World.alloc p19 (.cells (List.map W32 [1]).toArray 22))
  generalize hg : World.alloc p19 (.cells (List.map W32 [1]).toArray 22) = p20 at hEp20 hSp20 ⊢
  clear hg
  refine hK _ _ ?_
  clear hK K
  refine list_want (by first | rfl | kernel_rfl) (fun K hK => ?_)
  unfold Oper.wp
  go_simp
  refine (nc_ov1 _ _ hEp20).mono ?_
  rintro e p21 ⟨rfl, hp21⟩
  have hSp21 : Below w.heap.size w p21 := hSp20.trans (hp21.mono hSp20.size)
  clear hp21
  refine hK _ _ ?_
  clear hK K
  refine list_want (by first | rfl | kernel_rfl) (fun K hK => ?_)
  unfold Oper.wp
  go_simp
  refine (nc_cm _).mono ?_
  rintro e p22 ⟨rfl, hp22⟩
  have hSp22 : Below w.heap.size w p22 := hSp21.trans (hp22.mono hSp21.size)
  clear hp22
  refine hK _ _ ?_
  clear hK K
  refine list_known (.bool true) (by first | rfl | kernel_rfl) (by go_simp; done) (fun a' ha' => ?_)
  simp only [Act.put, List.setIfInBounds_toArray, List.set_cons_succ, List.set_cons_zero] at ha'
  subst ha'
  refine list_known (.bool true) (by first | rfl | kernel_rfl) (by go_simp; done) (fun a' ha' => ?_)
  simp only [Act.put, List.setIfInBounds_toArray, List.set_cons_succ, List.set_cons_zero] at ha'
  subst ha'
  refine list_known (.bool true) (by first | rfl | kernel_rfl) (by go_simp; done) (fun a' ha' => ?_)
  simp only [Act.put, List.setIfInBounds_toArray, List.set_cons_succ, List.set_cons_zero] at ha'
  subst ha'
  refine list_want (by first | rfl | kernel_rfl) (fun K hK => ?_)
  unfold Oper.wp
  go_simp
  have hEp23 := Us.built p22 [2] (n := 1) rfl rfl
  have hSp23 := hSp22.alloc hSp22.size (.cells (List.map W32 [2]).toArray 22)
  change K _ (World.alloc p22 (.cells (List.map W32 [2]).toArray 22))
  generalize hg : World.alloc p22 (.cells (List.map W32 [2]).toArray 22) = p23 at hEp23 hSp23 ⊢
  clear hg
  refine hK _ _ ?_
  clear hK K
  refine list_want (by first | rfl | kernel_rfl) (fun K hK => ?_)
  unfold Oper.wp
  go_simp
  refine (nc_ov2 _ _ hEp23).mono ?_
  rintro e p24 ⟨rfl, hp24⟩
  have hSp24 : Below w.heap.size w p24 := hSp23.trans (hp24.mono hSp23.size)
  clear hp24
  refine hK _ _ ?_
  clear hK K
  refine list_want (by first | rfl | kernel_rfl) (fun K hK => ?_)
  unfold Oper.wp
  go_simp
  have hEp25 := Us.built p24 [2] (n := 1) rfl rfl
  have hSp25 := hSp24.alloc hSp24.size (.cells (List.map W32 [2]).toArray 22)
  change K _ (World.alloc p24 (.cells (List.map W32 [2]).toArray 22))
  generalize hg : World.alloc p24 (.cells (List.map W32 [2]).toArray 22) = p25 at hEp25 hSp25 ⊢
  clear hg
  refine hK _ _ ?_
  clear hK K
  refine list_want (by first | rfl | kernel_rfl) (fun K hK => ?_)
  unfold Oper.wp
  go_simp
  refine (nc_ov2 _ _ hEp25).mono ?_
  rintro e p26 ⟨rfl, hp26⟩
  have hSp26 : Below w.heap.size w p26 := hSp25.trans (hp26.mono hSp25.size)
  clear hp26
  refine hK _ _ ?_
  clear hK K
  refine list_want (by first | rfl | kernel_rfl) (fun K hK => ?_)
  unfold Oper.wp
  go_simp
  refine (nc_cs _).mono ?_
  rintro e p27 ⟨rfl, hp27⟩
  have hSp27 : Below w.heap.size w p27 := hSp26.trans (hp27.mono hSp26.size)
  clear hp27
  refine hK _ _ ?_
  clear hK K
  refine list_known (.bool true) (by first | rfl | kernel_rfl) (by go_simp; done) (fun a' ha' => ?_)
  simp only [Act.put, List.setIfInBounds_toArray, List.set_cons_succ, List.set_cons_zero] at ha'
  subst ha'
  refine list_known (.bool true) (by first | rfl | kernel_rfl) (by go_simp; done) (fun a' ha' => ?_)
  simp only [Act.put, List.setIfInBounds_toArray, List.set_cons_succ, List.set_cons_zero] at ha'
  subst ha'
  refine list_known (.bool true) (by first | rfl | kernel_rfl) (by go_simp; done) (fun a' ha' => ?_)
  simp only [Act.put, List.setIfInBounds_toArray, List.set_cons_succ, List.set_cons_zero] at ha'
  subst ha'
  refine list_want (by first | rfl | kernel_rfl) (fun K hK => ?_)
  unfold Oper.wp
  go_simp
  refine (nc_cvZ _).mono ?_
  rintro e p28 ⟨rfl, hp28⟩
  have hSp28 : Below w.heap.size w p28 := hSp27.trans (hp28.mono hSp27.size)
  clear hp28
  refine hK _ _ ?_
  clear hK K
  refine list_want (by first | rfl | kernel_rfl) (fun K hK => ?_)
  unfold Oper.wp
  go_simp
  refine (nc_cvZ _).mono ?_
  rintro e p29 ⟨rfl, hp29⟩
  have hSp29 : Below w.heap.size w p29 := hSp28.trans (hp29.mono hSp28.size)
  clear hp29
  refine hK _ _ ?_
  clear hK K
  refine list_want (by first | rfl | kernel_rfl) (fun K hK => ?_)
  unfold Oper.wp
  go_simp
  refine (nc_le0 _).mono ?_
  rintro e p30 ⟨rfl, hp30⟩
  have hSp30 : Below w.heap.size w p30 := hSp29.trans (hp30.mono hSp29.size)
  clear hp30
  refine hK _ _ ?_
  clear hK K
  refine list_known (.bool true) (by first | rfl | kernel_rfl) (by go_simp; done) (fun a' ha' => ?_)
  simp only [Act.put, List.setIfInBounds_toArray, List.set_cons_succ, List.set_cons_zero] at ha'
  subst ha'
  refine list_known (.bool true) (by first | rfl | kernel_rfl) (by go_simp; done) (fun a' ha' => ?_)
  simp only [Act.put, List.setIfInBounds_toArray, List.set_cons_succ, List.set_cons_zero] at ha'
  subst ha'
  refine list_want (by first | rfl | kernel_rfl) (fun K hK => ?_)
  unfold Oper.wp
  go_simp
  have hEp31 := Us.built p30 [1] (n := 1) rfl rfl
  have hSp31 := hSp30.alloc hSp30.size (.cells (List.map W32 [1]).toArray 22)
  change K _ (World.alloc p30 (.cells (List.map W32 [1]).toArray 22))
  generalize hg : World.alloc p30 (.cells (List.map W32 [1]).toArray 22) = p31 at hEp31 hSp31 ⊢
  clear hg
  refine hK _ _ ?_
  clear hK K
  refine list_want (by first | rfl | kernel_rfl) (fun K hK => ?_)
  unfold Oper.wp
  go_simp
  refine (nc_ov1 _ _ hEp31).mono ?_
  rintro e p32 ⟨rfl, hp32⟩
  have hSp32 : Below w.heap.size w p32 := hSp31.trans (hp32.mono hSp31.size)
  clear hp32
  refine hK _ _ ?_
  clear hK K
  refine list_want (by first | rfl | kernel_rfl) (fun K hK => ?_)
  unfold Oper.wp
  go_simp
  have hEp33 := Us.built p32 [0, 9] (n := 2) rfl rfl
  have hSp33 := hSp32.alloc hSp32.size (.cells (List.map W32 [0, 9]).toArray 22)
  change K _ (World.alloc p32 (.cells (List.map W32 [0, 9]).toArray 22))
  generalize hg : World.alloc p32 (.cells (List.map W32 [0, 9]).toArray 22) = p33 at hEp33 hSp33 ⊢
  clear hg
  refine hK _ _ ?_
  clear hK K
  refine list_want (by first | rfl | kernel_rfl) (fun K hK => ?_)
  unfold Oper.wp
  go_simp
  refine (nc_ov09 _ _ hEp33).mono ?_
  rintro e p34 ⟨rfl, hp34⟩
  have hSp34 : Below w.heap.size w p34 := hSp33.trans (hp34.mono hSp33.size)
  clear hp34
  refine hK _ _ ?_
  clear hK K
  refine list_want (by first | rfl | kernel_rfl) (fun K hK => ?_)
  unfold Oper.wp
  go_simp
  refine (nc_le1 _).mono ?_
  rintro e p35 ⟨rfl, hp35⟩
  have hSp35 : Below w.heap.size w p35 := hSp34.trans (hp35.mono hSp34.size)
  clear hp35
  refine hK _ _ ?_
  clear hK K
  refine list_known (.bool true) (by first | rfl | kernel_rfl) (by go_simp; done) (fun a' ha' => ?_)
  simp only [Act.put, List.setIfInBounds_toArray, List.set_cons_succ, List.set_cons_zero] at ha'
  subst ha'
  refine list_known (.bool true) (by first | rfl | kernel_rfl) (by go_simp; done) (fun a' ha' => ?_)
  simp only [Act.put, List.setIfInBounds_toArray, List.set_cons_succ, List.set_cons_zero] at ha'
  subst ha'
  refine list_known (.bool true) (by first | rfl | kernel_rfl) (by go_simp; done) (fun a' ha' => ?_)
  simp only [Act.put, List.setIfInBounds_toArray, List.set_cons_succ, List.set_cons_zero] at ha'
  subst ha'
  refine list_want (by first | rfl | kernel_rfl) (fun K hK => ?_)
  unfold Oper.wp
  go_simp
  refine (nc_mg _).mono ?_
  rintro e p36 ⟨rfl, hp36⟩
  have hSp36 : Below w.heap.size w p36 := hSp35.trans (hp36.mono hSp35.size)
  clear hp36
  refine hK _ _ ?_
  clear hK K
  refine list_want (by first | rfl | kernel_rfl) (fun K hK => ?_)
  unfold Oper.wp
  go_simp
  refine (nc_cvZ _).mono ?_
  rintro e p37 ⟨rfl, hp37⟩
  have hSp37 : Below w.heap.size w p37 := hSp36.trans (hp37.mono hSp36.size)
  clear hp37
  refine hK _ _ ?_
  clear hK K
  refine list_known (.bool true) (by first | rfl | kernel_rfl) (by exact exec_eql_vec rfl rfl rfl (decide_eq_true rfl)) (fun a' ha' => ?_)
  simp only [Act.put, List.setIfInBounds_toArray, List.set_cons_succ, List.set_cons_zero] at ha'
  subst ha'
  refine list_known (.bool true) (by first | rfl | kernel_rfl) (by go_simp; done) (fun a' ha' => ?_)
  simp only [Act.put, List.setIfInBounds_toArray, List.set_cons_succ, List.set_cons_zero] at ha'
  subst ha'
  refine list_known (.bool true) (by first | rfl | kernel_rfl) (by go_simp; done) (fun a' ha' => ?_)
  simp only [Act.put, List.setIfInBounds_toArray, List.set_cons_succ, List.set_cons_zero] at ha'
  subst ha'
  refine list_want (by first | rfl | kernel_rfl) (fun K hK => ?_)
  unfold Oper.wp
  go_simp
  refine (nc_mt _).mono ?_
  rintro e p38 ⟨rfl, hp38⟩
  have hSp38 : Below w.heap.size w p38 := hSp37.trans (hp38.mono hSp37.size)
  clear hp38
  refine hK _ _ ?_
  clear hK K
  refine list_want (by first | rfl | kernel_rfl) (fun K hK => ?_)
  unfold Oper.wp
  go_simp
  refine (nc_cvZ _).mono ?_
  rintro e p39 ⟨rfl, hp39⟩
  have hSp39 : Below w.heap.size w p39 := hSp38.trans (hp39.mono hSp38.size)
  clear hp39
  refine hK _ _ ?_
  clear hK K
  refine list_known (.bool true) (by first | rfl | kernel_rfl) (by exact exec_eql_vec rfl rfl rfl (decide_eq_true rfl)) (fun a' ha' => ?_)
  simp only [Act.put, List.setIfInBounds_toArray, List.set_cons_succ, List.set_cons_zero] at ha'
  subst ha'
  refine list_known (.bool true) (by first | rfl | kernel_rfl) (by go_simp; done) (fun a' ha' => ?_)
  simp only [Act.put, List.setIfInBounds_toArray, List.set_cons_succ, List.set_cons_zero] at ha'
  subst ha'
  refine list_known (.bool true) (by first | rfl | kernel_rfl) (by go_simp; done) (fun a' ha' => ?_)
  simp only [Act.put, List.setIfInBounds_toArray, List.set_cons_succ, List.set_cons_zero] at ha'
  subst ha'
  refine wpList_nil ?_
  show K0 _ _
  refine hK0 _ _ ?_
  clear hK0 K0
  have hB1 := hSp39
  clear hSp1 hSp2 hSp3 hSp4 hSp5 hSp6 hSp7 hSp8 hSp9 hSp10 hSp11 hSp12 hSp13 hSp14 hSp15 hSp16 hSp17 hSp18 hSp19 hSp20 hSp21 hSp22 hSp23 hSp24 hSp25 hSp26 hSp27 hSp28 hSp29 hSp30 hSp31 hSp32 hSp33 hSp34 hSp35 hSp36 hSp37 hSp38 hSp39 hB
  have hB := hB1
  clear hB1
  refine wp_seq_k fun K0 hK0 => ?_
  refine wp_region_lit ?_
  refine list_known (.bool true) (by first | rfl | kernel_rfl) (by go_simp; done) (fun a' ha' => ?_)
  simp only [Act.put, List.setIfInBounds_toArray, List.set_cons_succ, List.set_cons_zero] at ha'
  subst ha'
  refine list_want (by first | rfl | kernel_rfl) (fun K hK => ?_)
  unfold Oper.wp
  go_simp
  refine (alive6_any _).mono ?_
  rintro e r1 ⟨rfl, hr1⟩
  have hSr1 : Below w.heap.size w r1 := hB.trans (hr1.mono hB.size)
  clear hr1
  refine hK _ _ ?_
  clear hK K
  refine list_known (.bool true) (by first | rfl | kernel_rfl) (by go_simp; done) (fun a' ha' => ?_)
  simp only [Act.put, List.setIfInBounds_toArray, List.set_cons_succ, List.set_cons_zero] at ha'
  subst ha'
  refine list_known (.bool true) (by first | rfl | kernel_rfl) (by go_simp; done) (fun a' ha' => ?_)
  simp only [Act.put, List.setIfInBounds_toArray, List.set_cons_succ, List.set_cons_zero] at ha'
  subst ha'
  refine list_known (.bool true) (by first | rfl | kernel_rfl) (by go_simp; done) (fun a' ha' => ?_)
  simp only [Act.put, List.setIfInBounds_toArray, List.set_cons_succ, List.set_cons_zero] at ha'
  subst ha'
  refine list_known (.bool true) (by first | rfl | kernel_rfl) (by go_simp; done) (fun a' ha' => ?_)
  simp only [Act.put, List.setIfInBounds_toArray, List.set_cons_succ, List.set_cons_zero] at ha'
  subst ha'
  refine list_known (.bool true) (by first | rfl | kernel_rfl) (by go_simp; done) (fun a' ha' => ?_)
  simp only [Act.put, List.setIfInBounds_toArray, List.set_cons_succ, List.set_cons_zero] at ha'
  subst ha'
  refine list_known (.bool true) (by first | rfl | kernel_rfl) (by go_simp; done) (fun a' ha' => ?_)
  simp only [Act.put, List.setIfInBounds_toArray, List.set_cons_succ, List.set_cons_zero] at ha'
  subst ha'
  refine list_known (.bool true) (by first | rfl | kernel_rfl) (by go_simp; done) (fun a' ha' => ?_)
  simp only [Act.put, List.setIfInBounds_toArray, List.set_cons_succ, List.set_cons_zero] at ha'
  subst ha'
  refine list_known (.bool true) (by first | rfl | kernel_rfl) (by go_simp; done) (fun a' ha' => ?_)
  simp only [Act.put, List.setIfInBounds_toArray, List.set_cons_succ, List.set_cons_zero] at ha'
  subst ha'
  refine list_known (.bool true) (by first | rfl | kernel_rfl) (by go_simp; done) (fun a' ha' => ?_)
  simp only [Act.put, List.setIfInBounds_toArray, List.set_cons_succ, List.set_cons_zero] at ha'
  subst ha'
  refine list_known (.bool true) (by first | rfl | kernel_rfl) (by go_simp; done) (fun a' ha' => ?_)
  simp only [Act.put, List.setIfInBounds_toArray, List.set_cons_succ, List.set_cons_zero] at ha'
  subst ha'
  refine list_known (.bool true) (by first | rfl | kernel_rfl) (by go_simp; done) (fun a' ha' => ?_)
  simp only [Act.put, List.setIfInBounds_toArray, List.set_cons_succ, List.set_cons_zero] at ha'
  subst ha'
  refine list_known (.bool true) (by first | rfl | kernel_rfl) (by go_simp; done) (fun a' ha' => ?_)
  simp only [Act.put, List.setIfInBounds_toArray, List.set_cons_succ, List.set_cons_zero] at ha'
  subst ha'
  refine list_known (.bool true) (by first | rfl | kernel_rfl) (by go_simp; done) (fun a' ha' => ?_)
  simp only [Act.put, List.setIfInBounds_toArray, List.set_cons_succ, List.set_cons_zero] at ha'
  subst ha'
  refine list_known (.bool true) (by first | rfl | kernel_rfl) (by go_simp; done) (fun a' ha' => ?_)
  simp only [Act.put, List.setIfInBounds_toArray, List.set_cons_zero] at ha'
  subst ha'
  refine wpList_nil ?_
  show K0 _ _
  refine hK0 _ _ ?_
  clear hK0 K0
  go_wp2_with fail
  go_ret
  exact ⟨rfl, hSr1⟩
end Go.Proofs.Ytbkbogblbniogaa
