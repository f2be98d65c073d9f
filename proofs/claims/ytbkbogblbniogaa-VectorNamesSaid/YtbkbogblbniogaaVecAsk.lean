/- Has, Next and Add of vectors: the program's and the reference's (tools/genvec2.py). -/
import Derived.Test.YtbkbogblbniogaaVecCmp
import Derived.Test.YtbkbogblbniogaaDotCheck
namespace Go.Proofs.Ytbkbogblbniogaa
open Go.RowKit
set_option maxRecDepth 100000

theorem cellOn {w w' : World} {p : Addr} {v : Value} (hb : Below w.heap.size w w') (h : w.cell? p = some v) : w'.cell? p = some v := (hb.cell (World.block_lt_of_cell? _ _ h)).trans h
theorem vec_dot (w : World) (v : Vc) (s c : Int) : ∃ w2, w2 = (w.alloc (.cells (encC v).toArray 24)).alloc (.cells #[.int .i64 s, .int .i64 c] 27) ∧ BoxV w2 w.heap.size v ∧ w2.cell? ⟨w.heap.size + 1, 0, none⟩ = some (.int .i64 s) ∧ w2.cell? ⟨w.heap.size + 1, 1, none⟩ = some (.int .i64 c) ∧ Below w.heap.size w w2 := by
  refine ⟨_, rfl, (BoxV.new w v).below ((Below.refl _ _).alloc (Nat.le_refl _) _), ?_, ?_, ((Below.refl _ w).alloc (Nat.le_refl _) _).alloc (by simp) _⟩ <;> go_simp
theorem hasV_ok {v : Vc} {s c : Int} (h : DotOk s c) : HasV v s c ↔ c ≤ ((atV v s.toNat).toNat : Int) := by
  unfold DotOk at h
  unfold HasV
  omega
theorem hasV_no {v : Vc} {s c : Int} (h : ¬ DotOk s c) : ¬ HasV v s c := by
  have := (atV v s.toNat).toNat_lt
  unfold DotOk at h
  unfold HasV
  omega

set_option maxHeartbeats 1000000 in
theorem pVHas_any (w : World) (v : Vc) (s c : Int) :
    Calls Try.prog 19 #[VecV v, DotV s c] w fun e W' => e = .returned (.bool (decide (HasV v s c))) ∧ Below w.heap.size w W' := by
  obtain ⟨w2, hw2, b1, g1, g2, hB0⟩ := vec_dot w v s c
  by_cases hok : DotOk s c
  case neg =>
    have HE := Lib.hid (decide_eq_false (hasV_no (v := v) hok))
    have HK := Lib.hid (checkD_no hok)
    clear hok
    go_enter Try.func19, Try.ntmps19
    go_wp2_with fail
    rw [← hw2]
    clear hw2
    refine wp_held (fun W1 => Below w2.heap.size w2 W1) (by kernel_rfl) ?_
    have hS0 : Below w2.heap.size w2 w2.drew := (Below.refl _ w2).drew
    refine wpAnyH_next (i := 0) (v := DotV s c) rfl (by kernel_rfl) (by kernel_rfl) (by kernel_rfl) (fun _ _ _ h => h) (by kernel_rfl) (fun W1 hW1 => by have e1 := cellOn hW1 g1; have e2 := cellOn hW1 g2; go_simp; done) hS0 (fun a' ha' => ?_)
    simp only [Act.put, List.getElem_toArray, List.getElem_cons_zero, List.setIfInBounds_toArray, List.set_cons_succ, List.set_cons_zero] at ha'
    subst ha'
    refine wpAnyH_want (i := 1) (by kernel_rfl) rfl (by kernel_rfl) (fun K hK => ?_)
    unfold Oper.wp
    go_simp
    refine ((pDCheck_any _ s c).mono (fun e W' h => (⟨h.1.trans (by rw [HK.out]), h.2⟩ : e = .returned (.int .i64 50) ∧ _))).mono ?_
    rintro e y1 ⟨rfl, hy1⟩
    have hSy1 : Below w2.heap.size w2 y1 := hS0.trans (hy1.mono hS0.size)
    clear hy1
    refine hK _ _ hSy1 ?_
    clear hK K
    refine wpAnyH_next (i := 2) (v := .bool false) rfl (by kernel_rfl) (by kernel_rfl) (by kernel_rfl) (fun _ _ _ h => h) (by kernel_rfl) (fun W1 hW1 => by go_simp; done) hSy1 (fun a' ha' => ?_)
    simp only [Act.put, List.getElem_toArray, List.getElem_cons_succ, List.getElem_cons_zero, List.setIfInBounds_toArray, List.set_cons_succ, List.set_cons_zero] at ha'
    subst ha'
    refine wpAnyH_next (i := 3) (v := .bool false) rfl (by kernel_rfl) (by kernel_rfl) (by kernel_rfl) (fun _ _ _ h => h) (by kernel_rfl) (fun W1 hW1 => by go_simp; done) hSy1 (fun a' ha' => ?_)
    simp only [Act.put, List.getElem_toArray, List.getElem_cons_succ, List.getElem_cons_zero, List.setIfInBounds_toArray, List.set_cons_succ, List.set_cons_zero] at ha'
    subst ha'
    refine wpAnyH_skip (i := 4) rfl (by kernel_rfl) (by kernel_rfl) (by kernel_rfl) (fun _ _ _ h => h) (by kernel_rfl) hSy1 (fun a' ha' => ?_)
    simp only [Act.put, List.getElem_toArray, List.getElem_cons_succ, List.getElem_cons_zero, List.setIfInBounds_toArray, List.set_cons_succ, List.set_cons_zero] at ha'
    subst ha'
    refine wpAnyH_skip (i := 5) rfl (by kernel_rfl) (by kernel_rfl) (by kernel_rfl) (fun _ _ _ h => h) (by kernel_rfl) hSy1 (fun a' ha' => ?_)
    simp only [Act.put, List.getElem_toArray, List.getElem_cons_succ, List.getElem_cons_zero, List.setIfInBounds_toArray, List.set_cons_succ, List.set_cons_zero] at ha'
    subst ha'
    refine wpAnyH_skip (i := 6) rfl (by kernel_rfl) (by kernel_rfl) (by kernel_rfl) (fun _ _ _ h => h) (by kernel_rfl) hSy1 (fun a' ha' => ?_)
    simp only [Act.put, List.getElem_toArray, List.getElem_cons_succ, List.getElem_cons_zero, List.setIfInBounds_toArray, List.set_cons_succ, List.set_cons_zero] at ha'
    subst ha'
    refine wpAnyH_skip (i := 7) rfl (by kernel_rfl) (by kernel_rfl) (by kernel_rfl) (fun _ _ _ h => h) (by kernel_rfl) hSy1 (fun a' ha' => ?_)
    simp only [Act.put, List.getElem_toArray, List.getElem_cons_succ, List.getElem_cons_zero, List.setIfInBounds_toArray, List.set_cons_succ, List.set_cons_zero] at ha'
    subst ha'
    refine wpAnyH_skip (i := 8) rfl (by kernel_rfl) (by kernel_rfl) (by kernel_rfl) (fun _ _ _ h => h) (by kernel_rfl) hSy1 (fun a' ha' => ?_)
    simp only [Act.put, List.getElem_toArray, List.getElem_cons_succ, List.getElem_cons_zero, List.setIfInBounds_toArray, List.set_cons_succ, List.set_cons_zero] at ha'
    subst ha'
    refine wpAnyH_skip (i := 9) rfl (by kernel_rfl) (by kernel_rfl) (by kernel_rfl) (fun _ _ _ h => h) (by kernel_rfl) hSy1 (fun a' ha' => ?_)
    simp only [Act.put, List.getElem_toArray, List.getElem_cons_succ, List.getElem_cons_zero, List.setIfInBounds_toArray, List.set_cons_succ, List.set_cons_zero] at ha'
    subst ha'
    refine wpAnyH_skip (i := 10) rfl (by kernel_rfl) (by kernel_rfl) (by kernel_rfl) (fun _ _ _ h => h) (by kernel_rfl) hSy1 (fun a' ha' => ?_)
    simp only [Act.put, List.getElem_toArray, List.getElem_cons_succ, List.getElem_cons_zero, List.setIfInBounds_toArray, List.set_cons_succ, List.set_cons_zero] at ha'
    subst ha'
    refine wpAnyH_skip (i := 11) rfl (by kernel_rfl) (by kernel_rfl) (by kernel_rfl) (fun _ _ _ h => h) (by kernel_rfl) hSy1 (fun a' ha' => ?_)
    simp only [Act.put, List.getElem_toArray, List.getElem_cons_succ, List.getElem_cons_zero, List.setIfInBounds_toArray, List.set_cons_succ, List.set_cons_zero] at ha'
    subst ha'
    refine wpAnyH_skip (i := 12) rfl (by kernel_rfl) (by kernel_rfl) (by kernel_rfl) (fun _ _ _ h => h) (by kernel_rfl) hSy1 (fun a' ha' => ?_)
    simp only [Act.put, List.getElem_toArray, List.getElem_cons_succ, List.getElem_cons_zero, List.setIfInBounds_toArray, List.set_cons_succ, List.set_cons_zero] at ha'
    subst ha'
    refine wpAnyH_next (i := 13) (v := .bool false) rfl (by kernel_rfl) (by kernel_rfl) (by kernel_rfl) (fun _ _ _ h => h) (by kernel_rfl) (fun W1 hW1 => by go_simp; done) hSy1 (fun a' ha' => ?_)
    simp only [Act.put, List.getElem_toArray, List.getElem_cons_succ, List.getElem_cons_zero, List.setIfInBounds_toArray, List.set_cons_succ, List.set_cons_zero] at ha'
    subst ha'
    refine wpAnyH_next (i := 14) (v := .bool false) rfl (by kernel_rfl) (by kernel_rfl) (by kernel_rfl) (fun _ _ _ h => h) (by kernel_rfl) (fun W1 hW1 => by go_simp; done) hSy1 (fun a' ha' => ?_)
    simp only [Act.put, List.getElem_toArray, List.getElem_cons_succ, List.getElem_cons_zero, List.setIfInBounds_toArray, List.set_cons_succ, List.set_cons_zero] at ha'
    subst ha'
    refine wpAnyH_fin (by kernel_rfl) ?_ _
    go_wp2_with fail
    go_ret
    exact ⟨by rw [HE.out]; rfl, hB0.trans (hSy1.mono hB0.size)⟩
  case pos =>
    have HK := Lib.hid (checkD_ok hok)
    have HE := Lib.hid (hasV_ok (v := v) hok)
    unfold DotOk at hok
    obtain ⟨h0, h15, hc1, hc2⟩ := hok
    obtain ⟨n, rfl⟩ : ∃ n : Nat, s = n := ⟨s.toNat, by omega⟩
    obtain ⟨m, rfl⟩ : ∃ m : Nat, c = m := ⟨c.toNat, by omega⟩
    have hn : n < 16 := by omega
    have hn' : (n : Int) < 16 := by omega
    have g3 := b1.cell hn
    have hlt := (atV v n).toNat_lt
    replace HE := Lib.hid (show decide (HasV v n m) = decide ((m : Int) ≤ ((atV v n).toNat : Int)) by simp only [HE.out]; rfl)
    clear h15 hc1
    go_enter Try.func19, Try.ntmps19
    go_wp2_with fail
    rw [← hw2]
    clear hw2
    refine wp_held (fun W1 => Below w2.heap.size w2 W1) (by kernel_rfl) ?_
    have hS0 : Below w2.heap.size w2 w2.drew := (Below.refl _ w2).drew
    refine wpAnyH_next (i := 0) (v := DotV n m) rfl (by kernel_rfl) (by kernel_rfl) (by kernel_rfl) (fun _ _ _ h => h) (by kernel_rfl) (fun W1 hW1 => by have e1 := cellOn hW1 g1; have e2 := cellOn hW1 g2; have e3 := cellOn hW1 g3; first | (go_simp; done) | (go_simp; go_num; done) | (go_simp; exact IntWalk.u64_in _ (by omega))) hS0 (fun a' ha' => ?_)
    simp only [Act.put, List.getElem_toArray, List.getElem_cons_zero, List.setIfInBounds_toArray, List.set_cons_succ, List.set_cons_zero] at ha'
    subst ha'
    refine wpAnyH_want (i := 1) (by kernel_rfl) rfl (by kernel_rfl) (fun K hK => ?_)
    unfold Oper.wp
    go_simp
    refine ((pDCheck_any _ n m).mono (fun e W' h => (⟨h.1.trans (by rw [HK.out]), h.2⟩ : e = .returned (.int .i64 0) ∧ _))).mono ?_
    rintro e y1 ⟨rfl, hy1⟩
    have hSy1 : Below w2.heap.size w2 y1 := hS0.trans (hy1.mono hS0.size)
    clear hy1
    refine hK _ _ hSy1 ?_
    clear hK K
    refine wpAnyH_next (i := 2) (v := .bool true) rfl (by kernel_rfl) (by kernel_rfl) (by kernel_rfl) (fun _ _ _ h => h) (by kernel_rfl) (fun W1 hW1 => by go_simp; done) hSy1 (fun a' ha' => ?_)
    simp only [Act.put, List.getElem_toArray, List.getElem_cons_succ, List.getElem_cons_zero, List.setIfInBounds_toArray, List.set_cons_succ, List.set_cons_zero] at ha'
    subst ha'
    refine wpAnyH_next (i := 3) (v := .bool true) rfl (by kernel_rfl) (by kernel_rfl) (by kernel_rfl) (fun _ _ _ h => h) (by kernel_rfl) (fun W1 hW1 => by go_simp; done) hSy1 (fun a' ha' => ?_)
    simp only [Act.put, List.getElem_toArray, List.getElem_cons_succ, List.getElem_cons_zero, List.setIfInBounds_toArray, List.set_cons_succ, List.set_cons_zero] at ha'
    subst ha'
    refine wpAnyH_next (i := 4) (v := .pointer (some ⟨w.heap.size + 1, 1, none⟩)) rfl (by kernel_rfl) (by kernel_rfl) (by kernel_rfl) (fun _ _ _ h => h) (by kernel_rfl) (fun W1 hW1 => by have e1 := cellOn hW1 g1; have e2 := cellOn hW1 g2; have e3 := cellOn hW1 g3; first | (go_simp; done) | (go_simp; go_num; done) | (go_simp; exact IntWalk.u64_in _ (by omega))) hSy1 (fun a' ha' => ?_)
    simp only [Act.put, List.getElem_toArray, List.getElem_cons_succ, List.getElem_cons_zero, List.setIfInBounds_toArray, List.set_cons_succ, List.set_cons_zero] at ha'
    subst ha'
    refine wpAnyH_next (i := 5) (v := .int .i64 (m : Int)) rfl (by kernel_rfl) (by kernel_rfl) (by kernel_rfl) (fun _ _ _ h => h) (by kernel_rfl) (fun W1 hW1 => by have e1 := cellOn hW1 g1; have e2 := cellOn hW1 g2; have e3 := cellOn hW1 g3; first | (go_simp; done) | (go_simp; go_num; done) | (go_simp; exact IntWalk.u64_in _ (by omega))) hSy1 (fun a' ha' => ?_)
    simp only [Act.put, List.getElem_toArray, List.getElem_cons_succ, List.getElem_cons_zero, List.setIfInBounds_toArray, List.set_cons_succ, List.set_cons_zero] at ha'
    subst ha'
    refine wpAnyH_next (i := 6) (v := .int .u64 (m : Int)) rfl (by kernel_rfl) (by kernel_rfl) (by kernel_rfl) (fun _ _ _ h => h) (by kernel_rfl) (fun W1 hW1 => by have e1 := cellOn hW1 g1; have e2 := cellOn hW1 g2; have e3 := cellOn hW1 g3; first | (go_simp; done) | (go_simp; go_num; done) | (go_simp; exact IntWalk.u64_in _ (by omega))) hSy1 (fun a' ha' => ?_)
    simp only [Act.put, List.getElem_toArray, List.getElem_cons_succ, List.getElem_cons_zero, List.setIfInBounds_toArray, List.set_cons_succ, List.set_cons_zero] at ha'
    subst ha'
    refine wpAnyH_next (i := 7) (v := .pointer (some ⟨w.heap.size + 1, 0, none⟩)) rfl (by kernel_rfl) (by kernel_rfl) (by kernel_rfl) (fun _ _ _ h => h) (by kernel_rfl) (fun W1 hW1 => by have e1 := cellOn hW1 g1; have e2 := cellOn hW1 g2; have e3 := cellOn hW1 g3; first | (go_simp; done) | (go_simp; go_num; done) | (go_simp; exact IntWalk.u64_in _ (by omega))) hSy1 (fun a' ha' => ?_)
    simp only [Act.put, List.getElem_toArray, List.getElem_cons_succ, List.getElem_cons_zero, List.setIfInBounds_toArray, List.set_cons_succ, List.set_cons_zero] at ha'
    subst ha'
    refine wpAnyH_next (i := 8) (v := .int .i64 (n : Int)) rfl (by kernel_rfl) (by kernel_rfl) (by kernel_rfl) (fun _ _ _ h => h) (by kernel_rfl) (fun W1 hW1 => by have e1 := cellOn hW1 g1; have e2 := cellOn hW1 g2; have e3 := cellOn hW1 g3; first | (go_simp; done) | (go_simp; go_num; done) | (go_simp; exact IntWalk.u64_in _ (by omega))) hSy1 (fun a' ha' => ?_)
    simp only [Act.put, List.getElem_toArray, List.getElem_cons_succ, List.getElem_cons_zero, List.setIfInBounds_toArray, List.set_cons_succ, List.set_cons_zero] at ha'
    subst ha'
    refine wpAnyH_next (i := 9) (v := .pointer (some ⟨w.heap.size, n, none⟩)) rfl (by kernel_rfl) (by kernel_rfl) (by kernel_rfl) (fun _ _ _ h => h) (by kernel_rfl) (fun W1 hW1 => by have e1 := cellOn hW1 g1; have e2 := cellOn hW1 g2; have e3 := cellOn hW1 g3; first | (go_simp; done) | (go_simp; go_num; done) | (go_simp; exact IntWalk.u64_in _ (by omega))) hSy1 (fun a' ha' => ?_)
    simp only [Act.put, List.getElem_toArray, List.getElem_cons_succ, List.getElem_cons_zero, List.setIfInBounds_toArray, List.set_cons_succ, List.set_cons_zero] at ha'
    subst ha'
    refine wpAnyH_next (i := 10) (v := .int .u32 ((atV v n).toNat : Int)) rfl (by kernel_rfl) (by kernel_rfl) (by kernel_rfl) (fun _ _ _ h => h) (by kernel_rfl) (fun W1 hW1 => by have e1 := cellOn hW1 g1; have e2 := cellOn hW1 g2; have e3 := cellOn hW1 g3; first | (go_simp; done) | (go_simp; go_num; done) | (go_simp; exact IntWalk.u64_in _ (by omega))) hSy1 (fun a' ha' => ?_)
    simp only [Act.put, List.getElem_toArray, List.getElem_cons_succ, List.getElem_cons_zero, List.setIfInBounds_toArray, List.set_cons_succ, List.set_cons_zero] at ha'
    subst ha'
    refine wpAnyH_next (i := 11) (v := .int .u64 ((atV v n).toNat : Int)) rfl (by kernel_rfl) (by kernel_rfl) (by kernel_rfl) (fun _ _ _ h => h) (by kernel_rfl) (fun W1 hW1 => by have e1 := cellOn hW1 g1; have e2 := cellOn hW1 g2; have e3 := cellOn hW1 g3; first | (go_simp; done) | (go_simp; go_num; done) | (go_simp; exact IntWalk.u64_in _ (by omega))) hSy1 (fun a' ha' => ?_)
    simp only [Act.put, List.getElem_toArray, List.getElem_cons_succ, List.getElem_cons_zero, List.setIfInBounds_toArray, List.set_cons_succ, List.set_cons_zero] at ha'
    subst ha'
    refine wpAnyH_next (i := 12) (v := .bool (decide ((m : Int) ≤ ((atV v n).toNat : Int)))) rfl (by kernel_rfl) (by kernel_rfl) (by kernel_rfl) (fun _ _ _ h => h) (by kernel_rfl) (fun W1 hW1 => by have e1 := cellOn hW1 g1; have e2 := cellOn hW1 g2; have e3 := cellOn hW1 g3; first | (go_simp; done) | (go_simp; go_num; done) | (go_simp; exact IntWalk.u64_in _ (by omega))) hSy1 (fun a' ha' => ?_)
    simp only [Act.put, List.getElem_toArray, List.getElem_cons_succ, List.getElem_cons_zero, List.setIfInBounds_toArray, List.set_cons_succ, List.set_cons_zero] at ha'
    subst ha'
    refine wpAnyH_next (i := 13) (v := .bool (decide ((m : Int) ≤ ((atV v n).toNat : Int)))) rfl (by kernel_rfl) (by kernel_rfl) (by kernel_rfl) (fun _ _ _ h => h) (by kernel_rfl) (fun W1 hW1 => by have e1 := cellOn hW1 g1; have e2 := cellOn hW1 g2; have e3 := cellOn hW1 g3; first | (go_simp; done) | (go_simp; go_num; done) | (go_simp; exact IntWalk.u64_in _ (by omega))) hSy1 (fun a' ha' => ?_)
    simp only [Act.put, List.getElem_toArray, List.getElem_cons_succ, List.getElem_cons_zero, List.setIfInBounds_toArray, List.set_cons_succ, List.set_cons_zero] at ha'
    subst ha'
    refine wpAnyH_next (i := 14) (v := .bool (decide ((m : Int) ≤ ((atV v n).toNat : Int)))) rfl (by kernel_rfl) (by kernel_rfl) (by kernel_rfl) (fun _ _ _ h => h) (by kernel_rfl) (fun W1 hW1 => by go_simp; done) hSy1 (fun a' ha' => ?_)
    simp only [Act.put, List.getElem_toArray, List.getElem_cons_succ, List.getElem_cons_zero, List.setIfInBounds_toArray, List.set_cons_succ, List.set_cons_zero] at ha'
    subst ha'
    refine wpAnyH_fin (by kernel_rfl) ?_ _
    go_wp2_with fail
    go_ret
    exact ⟨by rw [HE.out]; rfl, hB0.trans (hSy1.mono hB0.size)⟩

set_option maxHeartbeats 1000000 in
theorem r6Has_any (w : World) (v : Vc) (s c : Int) :
    Calls Try.prog 20 #[VecV v, DotV s c] w fun e W' => e = .returned (.bool (decide (HasV v s c))) ∧ Below w.heap.size w W' := by
  obtain ⟨w2, hw2, b1, g1, g2, hB0⟩ := vec_dot w v s c
  by_cases hok : DotOk s c
  case neg =>
    have HE := Lib.hid (decide_eq_false (hasV_no (v := v) hok))
    have HK := Lib.hid (checkD_no hok)
    clear hok
    go_enter Try.func20, Try.ntmps20
    go_wp2_with fail
    rw [← hw2]
    clear hw2
    refine wp_held (fun W1 => Below w2.heap.size w2 W1) (by kernel_rfl) ?_
    have hS0 : Below w2.heap.size w2 w2.drew := (Below.refl _ w2).drew
    refine wpAnyH_next (i := 0) (v := DotV s c) rfl (by kernel_rfl) (by kernel_rfl) (by kernel_rfl) (fun _ _ _ h => h) (by kernel_rfl) (fun W1 hW1 => by have e1 := cellOn hW1 g1; have e2 := cellOn hW1 g2; go_simp; done) hS0 (fun a' ha' => ?_)
    simp only [Act.put, List.getElem_toArray, List.getElem_cons_zero, List.setIfInBounds_toArray, List.set_cons_succ, List.set_cons_zero] at ha'
    subst ha'
    refine wpAnyH_want (i := 1) (by kernel_rfl) rfl (by kernel_rfl) (fun K hK => ?_)
    unfold Oper.wp
    go_simp
    refine ((r5Check_any _ s c).mono (fun e W' h => (⟨h.1.trans (by rw [HK.out]), h.2⟩ : e = .returned (.int .i64 50) ∧ _))).mono ?_
    rintro e y1 ⟨rfl, hy1⟩
    have hSy1 : Below w2.heap.size w2 y1 := hS0.trans (hy1.mono hS0.size)
    clear hy1
    refine hK _ _ hSy1 ?_
    clear hK K
    refine wpAnyH_next (i := 2) (v := .bool false) rfl (by kernel_rfl) (by kernel_rfl) (by kernel_rfl) (fun _ _ _ h => h) (by kernel_rfl) (fun W1 hW1 => by go_simp; done) hSy1 (fun a' ha' => ?_)
    simp only [Act.put, List.getElem_toArray, List.getElem_cons_succ, List.getElem_cons_zero, List.setIfInBounds_toArray, List.set_cons_succ, List.set_cons_zero] at ha'
    subst ha'
    refine wpAnyH_next (i := 3) (v := .bool false) rfl (by kernel_rfl) (by kernel_rfl) (by kernel_rfl) (fun _ _ _ h => h) (by kernel_rfl) (fun W1 hW1 => by go_simp; done) hSy1 (fun a' ha' => ?_)
    simp only [Act.put, List.getElem_toArray, List.getElem_cons_succ, List.getElem_cons_zero, List.setIfInBounds_toArray, List.set_cons_succ, List.set_cons_zero] at ha'
    subst ha'
    refine wpAnyH_skip (i := 4) rfl (by kernel_rfl) (by kernel_rfl) (by kernel_rfl) (fun _ _ _ h => h) (by kernel_rfl) hSy1 (fun a' ha' => ?_)
    simp only [Act.put, List.getElem_toArray, List.getElem_cons_succ, List.getElem_cons_zero, List.setIfInBounds_toArray, List.set_cons_succ, List.set_cons_zero] at ha'
    subst ha'
    refine wpAnyH_skip (i := 5) rfl (by kernel_rfl) (by kernel_rfl) (by kernel_rfl) (fun _ _ _ h => h) (by kernel_rfl) hSy1 (fun a' ha' => ?_)
    simp only [Act.put, List.getElem_toArray, List.getElem_cons_succ, List.getElem_cons_zero, List.setIfInBounds_toArray, List.set_cons_succ, List.set_cons_zero] at ha'
    subst ha'
    refine wpAnyH_skip (i := 6) rfl (by kernel_rfl) (by kernel_rfl) (by kernel_rfl) (fun _ _ _ h => h) (by kernel_rfl) hSy1 (fun a' ha' => ?_)
    simp only [Act.put, List.getElem_toArray, List.getElem_cons_succ, List.getElem_cons_zero, List.setIfInBounds_toArray, List.set_cons_succ, List.set_cons_zero] at ha'
    subst ha'
    refine wpAnyH_skip (i := 7) rfl (by kernel_rfl) (by kernel_rfl) (by kernel_rfl) (fun _ _ _ h => h) (by kernel_rfl) hSy1 (fun a' ha' => ?_)
    simp only [Act.put, List.getElem_toArray, List.getElem_cons_succ, List.getElem_cons_zero, List.setIfInBounds_toArray, List.set_cons_succ, List.set_cons_zero] at ha'
    subst ha'
    refine wpAnyH_skip (i := 8) rfl (by kernel_rfl) (by kernel_rfl) (by kernel_rfl) (fun _ _ _ h => h) (by kernel_rfl) hSy1 (fun a' ha' => ?_)
    simp only [Act.put, List.getElem_toArray, List.getElem_cons_succ, List.getElem_cons_zero, List.setIfInBounds_toArray, List.set_cons_succ, List.set_cons_zero] at ha'
    subst ha'
    refine wpAnyH_skip (i := 9) rfl (by kernel_rfl) (by kernel_rfl) (by kernel_rfl) (fun _ _ _ h => h) (by kernel_rfl) hSy1 (fun a' ha' => ?_)
    simp only [Act.put, List.getElem_toArray, List.getElem_cons_succ, List.getElem_cons_zero, List.setIfInBounds_toArray, List.set_cons_succ, List.set_cons_zero] at ha'
    subst ha'
    refine wpAnyH_skip (i := 10) rfl (by kernel_rfl) (by kernel_rfl) (by kernel_rfl) (fun _ _ _ h => h) (by kernel_rfl) hSy1 (fun a' ha' => ?_)
    simp only [Act.put, List.getElem_toArray, List.getElem_cons_succ, List.getElem_cons_zero, List.setIfInBounds_toArray, List.set_cons_succ, List.set_cons_zero] at ha'
    subst ha'
    refine wpAnyH_skip (i := 11) rfl (by kernel_rfl) (by kernel_rfl) (by kernel_rfl) (fun _ _ _ h => h) (by kernel_rfl) hSy1 (fun a' ha' => ?_)
    simp only [Act.put, List.getElem_toArray, List.getElem_cons_succ, List.getElem_cons_zero, List.setIfInBounds_toArray, List.set_cons_succ, List.set_cons_zero] at ha'
    subst ha'
    refine wpAnyH_next (i := 12) (v := .bool false) rfl (by kernel_rfl) (by kernel_rfl) (by kernel_rfl) (fun _ _ _ h => h) (by kernel_rfl) (fun W1 hW1 => by go_simp; done) hSy1 (fun a' ha' => ?_)
    simp only [Act.put, List.getElem_toArray, List.getElem_cons_succ, List.getElem_cons_zero, List.setIfInBounds_toArray, List.set_cons_succ, List.set_cons_zero] at ha'
    subst ha'
    refine wpAnyH_next (i := 13) (v := .bool false) rfl (by kernel_rfl) (by kernel_rfl) (by kernel_rfl) (fun _ _ _ h => h) (by kernel_rfl) (fun W1 hW1 => by go_simp; done) hSy1 (fun a' ha' => ?_)
    simp only [Act.put, List.getElem_toArray, List.getElem_cons_succ, List.getElem_cons_zero, List.setIfInBounds_toArray, List.set_cons_succ, List.set_cons_zero] at ha'
    subst ha'
    refine wpAnyH_fin (by kernel_rfl) ?_ _
    go_wp2_with fail
    go_ret
    exact ⟨by rw [HE.out]; rfl, hB0.trans (hSy1.mono hB0.size)⟩
  case pos =>
    have HK := Lib.hid (checkD_ok hok)
    have HE := Lib.hid (hasV_ok (v := v) hok)
    unfold DotOk at hok
    obtain ⟨h0, h15, hc1, hc2⟩ := hok
    obtain ⟨n, rfl⟩ : ∃ n : Nat, s = n := ⟨s.toNat, by omega⟩
    obtain ⟨m, rfl⟩ : ∃ m : Nat, c = m := ⟨c.toNat, by omega⟩
    have hn : n < 16 := by omega
    have hn' : (n : Int) < 16 := by omega
    have g3 := b1.cell hn
    have hlt := (atV v n).toNat_lt
    replace HE := Lib.hid (show decide (HasV v n m) = decide ((m : Int) ≤ ((atV v n).toNat : Int)) by simp only [HE.out]; rfl)
    clear h15 hc1
    go_enter Try.func20, Try.ntmps20
    go_wp2_with fail
    rw [← hw2]
    clear hw2
    refine wp_held (fun W1 => Below w2.heap.size w2 W1) (by kernel_rfl) ?_
    have hS0 : Below w2.heap.size w2 w2.drew := (Below.refl _ w2).drew
    refine wpAnyH_next (i := 0) (v := DotV n m) rfl (by kernel_rfl) (by kernel_rfl) (by kernel_rfl) (fun _ _ _ h => h) (by kernel_rfl) (fun W1 hW1 => by have e1 := cellOn hW1 g1; have e2 := cellOn hW1 g2; have e3 := cellOn hW1 g3; first | (go_simp; done) | (go_simp; go_num; done) | (go_simp; exact IntWalk.u64_in _ (by omega))) hS0 (fun a' ha' => ?_)
    simp only [Act.put, List.getElem_toArray, List.getElem_cons_zero, List.setIfInBounds_toArray, List.set_cons_succ, List.set_cons_zero] at ha'
    subst ha'
    refine wpAnyH_want (i := 1) (by kernel_rfl) rfl (by kernel_rfl) (fun K hK => ?_)
    unfold Oper.wp
    go_simp
    refine ((r5Check_any _ n m).mono (fun e W' h => (⟨h.1.trans (by rw [HK.out]), h.2⟩ : e = .returned (.int .i64 0) ∧ _))).mono ?_
    rintro e y1 ⟨rfl, hy1⟩
    have hSy1 : Below w2.heap.size w2 y1 := hS0.trans (hy1.mono hS0.size)
    clear hy1
    refine hK _ _ hSy1 ?_
    clear hK K
    refine wpAnyH_next (i := 2) (v := .bool true) rfl (by kernel_rfl) (by kernel_rfl) (by kernel_rfl) (fun _ _ _ h => h) (by kernel_rfl) (fun W1 hW1 => by go_simp; done) hSy1 (fun a' ha' => ?_)
    simp only [Act.put, List.getElem_toArray, List.getElem_cons_succ, List.getElem_cons_zero, List.setIfInBounds_toArray, List.set_cons_succ, List.set_cons_zero] at ha'
    subst ha'
    refine wpAnyH_next (i := 3) (v := .bool true) rfl (by kernel_rfl) (by kernel_rfl) (by kernel_rfl) (fun _ _ _ h => h) (by kernel_rfl) (fun W1 hW1 => by go_simp; done) hSy1 (fun a' ha' => ?_)
    simp only [Act.put, List.getElem_toArray, List.getElem_cons_succ, List.getElem_cons_zero, List.setIfInBounds_toArray, List.set_cons_succ, List.set_cons_zero] at ha'
    subst ha'
    refine wpAnyH_next (i := 4) (v := .pointer (some ⟨w.heap.size + 1, 1, none⟩)) rfl (by kernel_rfl) (by kernel_rfl) (by kernel_rfl) (fun _ _ _ h => h) (by kernel_rfl) (fun W1 hW1 => by have e1 := cellOn hW1 g1; have e2 := cellOn hW1 g2; have e3 := cellOn hW1 g3; first | (go_simp; done) | (go_simp; go_num; done) | (go_simp; exact IntWalk.u64_in _ (by omega))) hSy1 (fun a' ha' => ?_)
    simp only [Act.put, List.getElem_toArray, List.getElem_cons_succ, List.getElem_cons_zero, List.setIfInBounds_toArray, List.set_cons_succ, List.set_cons_zero] at ha'
    subst ha'
    refine wpAnyH_next (i := 5) (v := .int .i64 (m : Int)) rfl (by kernel_rfl) (by kernel_rfl) (by kernel_rfl) (fun _ _ _ h => h) (by kernel_rfl) (fun W1 hW1 => by have e1 := cellOn hW1 g1; have e2 := cellOn hW1 g2; have e3 := cellOn hW1 g3; first | (go_simp; done) | (go_simp; go_num; done) | (go_simp; exact IntWalk.u64_in _ (by omega))) hSy1 (fun a' ha' => ?_)
    simp only [Act.put, List.getElem_toArray, List.getElem_cons_succ, List.getElem_cons_zero, List.setIfInBounds_toArray, List.set_cons_succ, List.set_cons_zero] at ha'
    subst ha'
    refine wpAnyH_next (i := 6) (v := .pointer (some ⟨w.heap.size + 1, 0, none⟩)) rfl (by kernel_rfl) (by kernel_rfl) (by kernel_rfl) (fun _ _ _ h => h) (by kernel_rfl) (fun W1 hW1 => by have e1 := cellOn hW1 g1; have e2 := cellOn hW1 g2; have e3 := cellOn hW1 g3; first | (go_simp; done) | (go_simp; go_num; done) | (go_simp; exact IntWalk.u64_in _ (by omega))) hSy1 (fun a' ha' => ?_)
    simp only [Act.put, List.getElem_toArray, List.getElem_cons_succ, List.getElem_cons_zero, List.setIfInBounds_toArray, List.set_cons_succ, List.set_cons_zero] at ha'
    subst ha'
    refine wpAnyH_next (i := 7) (v := .int .i64 (n : Int)) rfl (by kernel_rfl) (by kernel_rfl) (by kernel_rfl) (fun _ _ _ h => h) (by kernel_rfl) (fun W1 hW1 => by have e1 := cellOn hW1 g1; have e2 := cellOn hW1 g2; have e3 := cellOn hW1 g3; first | (go_simp; done) | (go_simp; go_num; done) | (go_simp; exact IntWalk.u64_in _ (by omega))) hSy1 (fun a' ha' => ?_)
    simp only [Act.put, List.getElem_toArray, List.getElem_cons_succ, List.getElem_cons_zero, List.setIfInBounds_toArray, List.set_cons_succ, List.set_cons_zero] at ha'
    subst ha'
    refine wpAnyH_next (i := 8) (v := .pointer (some ⟨w.heap.size, n, none⟩)) rfl (by kernel_rfl) (by kernel_rfl) (by kernel_rfl) (fun _ _ _ h => h) (by kernel_rfl) (fun W1 hW1 => by have e1 := cellOn hW1 g1; have e2 := cellOn hW1 g2; have e3 := cellOn hW1 g3; first | (go_simp; done) | (go_simp; go_num; done) | (go_simp; exact IntWalk.u64_in _ (by omega))) hSy1 (fun a' ha' => ?_)
    simp only [Act.put, List.getElem_toArray, List.getElem_cons_succ, List.getElem_cons_zero, List.setIfInBounds_toArray, List.set_cons_succ, List.set_cons_zero] at ha'
    subst ha'
    refine wpAnyH_next (i := 9) (v := .int .u32 ((atV v n).toNat : Int)) rfl (by kernel_rfl) (by kernel_rfl) (by kernel_rfl) (fun _ _ _ h => h) (by kernel_rfl) (fun W1 hW1 => by have e1 := cellOn hW1 g1; have e2 := cellOn hW1 g2; have e3 := cellOn hW1 g3; first | (go_simp; done) | (go_simp; go_num; done) | (go_simp; exact IntWalk.u64_in _ (by omega))) hSy1 (fun a' ha' => ?_)
    simp only [Act.put, List.getElem_toArray, List.getElem_cons_succ, List.getElem_cons_zero, List.setIfInBounds_toArray, List.set_cons_succ, List.set_cons_zero] at ha'
    subst ha'
    refine wpAnyH_next (i := 10) (v := .int .i64 ((atV v n).toNat : Int)) rfl (by kernel_rfl) (by kernel_rfl) (by kernel_rfl) (fun _ _ _ h => h) (by kernel_rfl) (fun W1 hW1 => by have e1 := cellOn hW1 g1; have e2 := cellOn hW1 g2; have e3 := cellOn hW1 g3; first | (go_simp; done) | (go_simp; go_num; done) | (go_simp; exact IntWalk.i64_in _ (by omega))) hSy1 (fun a' ha' => ?_)
    simp only [Act.put, List.getElem_toArray, List.getElem_cons_succ, List.getElem_cons_zero, List.setIfInBounds_toArray, List.set_cons_succ, List.set_cons_zero] at ha'
    subst ha'
    refine wpAnyH_next (i := 11) (v := .bool (decide ((m : Int) ≤ ((atV v n).toNat : Int)))) rfl (by kernel_rfl) (by kernel_rfl) (by kernel_rfl) (fun _ _ _ h => h) (by kernel_rfl) (fun W1 hW1 => by have e1 := cellOn hW1 g1; have e2 := cellOn hW1 g2; have e3 := cellOn hW1 g3; first | (go_simp; done) | (go_simp; go_num; done) | (go_simp; exact IntWalk.u64_in _ (by omega))) hSy1 (fun a' ha' => ?_)
    simp only [Act.put, List.getElem_toArray, List.getElem_cons_succ, List.getElem_cons_zero, List.setIfInBounds_toArray, List.set_cons_succ, List.set_cons_zero] at ha'
    subst ha'
    refine wpAnyH_next (i := 12) (v := .bool (decide ((m : Int) ≤ ((atV v n).toNat : Int)))) rfl (by kernel_rfl) (by kernel_rfl) (by kernel_rfl) (fun _ _ _ h => h) (by kernel_rfl) (fun W1 hW1 => by have e1 := cellOn hW1 g1; have e2 := cellOn hW1 g2; have e3 := cellOn hW1 g3; first | (go_simp; done) | (go_simp; go_num; done) | (go_simp; exact IntWalk.u64_in _ (by omega))) hSy1 (fun a' ha' => ?_)
    simp only [Act.put, List.getElem_toArray, List.getElem_cons_succ, List.getElem_cons_zero, List.setIfInBounds_toArray, List.set_cons_succ, List.set_cons_zero] at ha'
    subst ha'
    refine wpAnyH_next (i := 13) (v := .bool (decide ((m : Int) ≤ ((atV v n).toNat : Int)))) rfl (by kernel_rfl) (by kernel_rfl) (by kernel_rfl) (fun _ _ _ h => h) (by kernel_rfl) (fun W1 hW1 => by go_simp; done) hSy1 (fun a' ha' => ?_)
    simp only [Act.put, List.getElem_toArray, List.getElem_cons_succ, List.getElem_cons_zero, List.setIfInBounds_toArray, List.set_cons_succ, List.set_cons_zero] at ha'
    subst ha'
    refine wpAnyH_fin (by kernel_rfl) ?_ _
    go_wp2_with fail
    go_ret
    exact ⟨by rw [HE.out]; rfl, hB0.trans (hSy1.mono hB0.size)⟩

theorem results_dot26 {fn : Func} {t u : Tmp} (h : fn.results = #[.cell t 27, .tmp u]) (tmps : Array Value) {w : World} {g : Nat} (x y : Int) (ht : tmps.getD t undef = .pointer (some ⟨g, 0, none⟩)) (h0 : w.cell? ⟨g, 0, none⟩ = some (.int .i64 x)) (h1 : w.cell? ⟨g, 1, none⟩ = some (.int .i64 y)) :
    (results fn tmps).run Try.prog w = .ok (.tuple #[DotV x y, tmps.getD u undef]) w := by
  rw [Array.getD_eq_getD_getElem?] at ht
  first | (simp [results, h, ht, asAddr]; go_simp; done)

set_option maxHeartbeats 1000000 in
theorem pVNext_any (w : World) (v : Vc) (s : Int) :
    Calls Try.prog 11 #[VecV v, .int .i64 s] w fun e W' => e = .returned (.tuple #[DotV (nextD v s).1 (nextD v s).2, .int .i64 (nextE v s)]) ∧ Below w.heap.size w W' := by
  have b1 := (BoxV.new w v).below ((Below.refl _ _).alloc (Nat.le_refl _) (.cells #[.int .i64 0, .int .i64 0] 27))
  have hB0 : Below w.heap.size w ((w.alloc (.cells (encC v).toArray 24)).alloc (.cells #[.int .i64 0, .int .i64 0] 27)) := ((Below.refl _ w).alloc (Nat.le_refl _) _).alloc (by simp) _
  by_cases h0 : 0 ≤ s
  case neg =>
    have HE := Lib.hid (show nextE v s = 50 by unfold nextE; rw [if_neg (by omega)])
    have HD := Lib.hid (show nextD v s = (0, 0) by unfold nextD; rw [HE.out]; rfl)
    have h0' : s < 0 := by omega
    clear h0
    rw [HD.out, HE.out]
    go_enter Try.func11, Try.ntmps11
    go_wp2_with fail
    refine bodyPost_ret (results_dot26 rfl _ 0 0 rfl (by first | (go_simp; done)) (by first | (go_simp; done))) rfl ?_
    exact ⟨rfl, ((Below.refl _ w).alloc (Nat.le_refl _) _).alloc (by simp) _⟩
  by_cases h1 : s ≤ 15
  case neg =>
    have HE := Lib.hid (show nextE v s = 50 by unfold nextE; rw [if_neg (by omega)])
    have HD := Lib.hid (show nextD v s = (0, 0) by unfold nextD; rw [HE.out]; rfl)
    have h0' : ¬ s < 0 := by omega
    have h1' : 16 ≤ s := by omega
    have h1x : 15 < s := by omega
    clear h0 h1
    rw [HD.out, HE.out]
    go_enter Try.func11, Try.ntmps11
    go_wp2_with fail
    refine bodyPost_ret (results_dot26 rfl _ 0 0 rfl (by first | (go_simp; done)) (by first | (go_simp; done))) rfl ?_
    exact ⟨rfl, ((Below.refl _ w).alloc (Nat.le_refl _) _).alloc (by simp) _⟩
  obtain ⟨n, rfl⟩ : ∃ n : Nat, s = n := ⟨s.toNat, by omega⟩
  have hn : n < 16 := by omega
  have g3 := b1.cell hn
  have hlt := (atV v n).toNat_lt
  have h0' : ¬ (n : Int) < 0 := by omega
  have h1' : ¬ 16 ≤ (n : Int) := by omega
  have h1x : ¬ 15 < (n : Int) := by omega
  have HN := Lib.hid (show nextE v n = if (atV v n).toNat = 4294967295 then 60 else 0 by unfold nextE; rw [if_pos ⟨h0, h1⟩]; rfl)
  have HD := Lib.hid (show nextD v n = if nextE v n = 0 then ((n : Int), ((atV v n).toNat : Int) + 1) else (0, 0) from rfl)
  have hn' : (n : Int) < 16 := by omega
  clear h0 h1
  obtain ⟨x, hx⟩ : ∃ x, x = (atV v n).toNat := ⟨_, rfl⟩
  replace g3 : ((w.alloc (.cells (encC v).toArray 24)).alloc (.cells #[.int .i64 0, .int .i64 0] 27)).cell? ⟨w.heap.size, n, none⟩ = some (.int .u32 (x : Int)) := by rw [hx]; exact g3
  rw [← hx] at HN HD hlt
  clear hx
  by_cases h2 : x = 4294967295
  · have HE := Lib.hid (show nextE v n = 60 by rw [HN.out, if_pos h2])
    replace HD := Lib.hid (show nextD v n = (0, 0) by rw [HD.out, HE.out]; rfl)
    rw [HD.out, HE.out]
    subst h2
    clear HN
    go_enter Try.func11, Try.ntmps11
    go_wp2_with fail
    refine bodyPost_ret (results_dot26 rfl _ 0 0 rfl (by first | (go_simp; done)) (by first | (go_simp; done))) rfl ?_
    exact ⟨rfl, ((Below.refl _ w).alloc (Nat.le_refl _) _).alloc (by simp) _⟩
  · have HE := Lib.hid (show nextE v n = 0 by rw [HN.out, if_neg h2])
    replace HD := Lib.hid (show nextD v n = ((n : Int), (x : Int) + 1) by rw [HD.out, HE.out]; rfl)
    rw [HD.out, HE.out]
    have h2' : ¬ (x : Int) = 4294967295 := by omega
    have n1 : IntKind.i64.wrap (x : Int) = x := IntWalk.i64_in _ (by omega)
    have n2 : IntKind.i64.wrap ((x : Int) + 1) = (x : Int) + 1 := IntWalk.i64_in _ (by omega)
    clear HN h2
    go_enter Try.func11, Try.ntmps11
    go_wp2_with fail
    refine bodyPost_ret (results_dot26 rfl _ n ((x : Int) + 1) rfl (by first | (go_simp; done)) (by first | (go_simp; done))) rfl ?_
    exact ⟨rfl, ((Below.refl _ w).alloc (Nat.le_refl _) _).alloc (by simp) _⟩

set_option maxHeartbeats 1000000 in
theorem r6Next_any (w : World) (v : Vc) (s : Int) :
    Calls Try.prog 12 #[VecV v, .int .i64 s] w fun e W' => e = .returned (.tuple #[DotV (nextD v s).1 (nextD v s).2, .int .i64 (nextE v s)]) ∧ Below w.heap.size w W' := by
  have b1 := (BoxV.new w v).below ((Below.refl _ _).alloc (Nat.le_refl _) (.cells #[.int .i64 0, .int .i64 0] 27))
  have hB0 : Below w.heap.size w ((w.alloc (.cells (encC v).toArray 24)).alloc (.cells #[.int .i64 0, .int .i64 0] 27)) := ((Below.refl _ w).alloc (Nat.le_refl _) _).alloc (by simp) _
  by_cases h0 : 0 ≤ s
  case neg =>
    have HE := Lib.hid (show nextE v s = 50 by unfold nextE; rw [if_neg (by omega)])
    have HD := Lib.hid (show nextD v s = (0, 0) by unfold nextD; rw [HE.out]; rfl)
    have h0' : s < 0 := by omega
    clear h0
    rw [HD.out, HE.out]
    go_enter Try.func12, Try.ntmps12
    go_wp2_with fail
    refine bodyPost_ret (results_dot26 rfl _ 0 0 rfl (by first | (go_simp; done)) (by first | (go_simp; done))) rfl ?_
    exact ⟨rfl, ((Below.refl _ w).alloc (Nat.le_refl _) _).alloc (by simp) _⟩
  by_cases h1 : s ≤ 15
  case neg =>
    have HE := Lib.hid (show nextE v s = 50 by unfold nextE; rw [if_neg (by omega)])
    have HD := Lib.hid (show nextD v s = (0, 0) by unfold nextD; rw [HE.out]; rfl)
    have h0' : ¬ s < 0 := by omega
    have h1' : 16 ≤ s := by omega
    have h1x : 15 < s := by omega
    clear h0 h1
    rw [HD.out, HE.out]
    go_enter Try.func12, Try.ntmps12
    go_wp2_with fail
    refine bodyPost_ret (results_dot26 rfl _ 0 0 rfl (by first | (go_simp; done)) (by first | (go_simp; done))) rfl ?_
    exact ⟨rfl, ((Below.refl _ w).alloc (Nat.le_refl _) _).alloc (by simp) _⟩
  obtain ⟨n, rfl⟩ : ∃ n : Nat, s = n := ⟨s.toNat, by omega⟩
  have hn : n < 16 := by omega
  have g3 := b1.cell hn
  have hlt := (atV v n).toNat_lt
  have h0' : ¬ (n : Int) < 0 := by omega
  have h1' : ¬ 16 ≤ (n : Int) := by omega
  have h1x : ¬ 15 < (n : Int) := by omega
  have HN := Lib.hid (show nextE v n = if (atV v n).toNat = 4294967295 then 60 else 0 by unfold nextE; rw [if_pos ⟨h0, h1⟩]; rfl)
  have HD := Lib.hid (show nextD v n = if nextE v n = 0 then ((n : Int), ((atV v n).toNat : Int) + 1) else (0, 0) from rfl)
  have hn' : (n : Int) < 16 := by omega
  clear h0 h1
  obtain ⟨x, hx⟩ : ∃ x, x = (atV v n).toNat := ⟨_, rfl⟩
  replace g3 : ((w.alloc (.cells (encC v).toArray 24)).alloc (.cells #[.int .i64 0, .int .i64 0] 27)).cell? ⟨w.heap.size, n, none⟩ = some (.int .u32 (x : Int)) := by rw [hx]; exact g3
  rw [← hx] at HN HD hlt
  clear hx
  by_cases h2 : x = 4294967295
  · have HE := Lib.hid (show nextE v n = 60 by rw [HN.out, if_pos h2])
    replace HD := Lib.hid (show nextD v n = (0, 0) by rw [HD.out, HE.out]; rfl)
    rw [HD.out, HE.out]
    subst h2
    clear HN
    go_enter Try.func12, Try.ntmps12
    go_wp2_with fail
    refine bodyPost_ret (results_dot26 rfl _ 0 0 rfl (by first | (go_simp; done)) (by first | (go_simp; done))) rfl ?_
    exact ⟨rfl, ((Below.refl _ w).alloc (Nat.le_refl _) _).alloc (by simp) _⟩
  · have HE := Lib.hid (show nextE v n = 0 by rw [HN.out, if_neg h2])
    replace HD := Lib.hid (show nextD v n = ((n : Int), (x : Int) + 1) by rw [HD.out, HE.out]; rfl)
    rw [HD.out, HE.out]
    have h2' : ¬ (x : Int) = 4294967295 := by omega
    have n1 : IntKind.i64.wrap (x : Int) = x := IntWalk.i64_in _ (by omega)
    have n2 : IntKind.i64.wrap ((x : Int) + 1) = (x : Int) + 1 := IntWalk.i64_in _ (by omega)
    clear HN h2
    go_enter Try.func12, Try.ntmps12
    go_wp2_with fail
    refine bodyPost_ret (results_dot26 rfl _ n ((x : Int) + 1) rfl (by first | (go_simp; done)) (by first | (go_simp; done))) rfl ?_
    exact ⟨rfl, ((Below.refl _ w).alloc (Nat.le_refl _) _).alloc (by simp) _⟩
end Go.Proofs.Ytbkbogblbniogaa
