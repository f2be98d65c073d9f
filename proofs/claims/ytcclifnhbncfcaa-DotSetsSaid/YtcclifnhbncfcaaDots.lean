/- Dots as elements: how they lie, their order, Compare in the sort's form. -/
import Derived.Test.YtcclifnhbncfcaaElem
import Derived.Test.YtcclifnhbncfcaaElOrd
import Derived.Test.YtcclifnhbncfcaaDotCmp
import Derived.Sort.Grow
namespace Go.Proofs.Ytcclifnhbncfcaa
open Go.RowKit Go.Shelf

def eDot : Elt (Int × Int) := ⟨fun x => [.int .i64 x.1, .int .i64 x.2], 2, by decide, fun _ => rfl, fun x u hu => by
  simp only [List.mem_cons, List.not_mem_nil, or_false] at hu
  rcases hu with rfl | rfl <;> rfl⟩
abbrev Ds (W : World) (v : Value) (l : List (Int × Int)) : Prop := Es eDot W v l
abbrev RowD (W : World) (n : Nat) (v : Value) (l : List (Int × Int)) : Prop := RowE eDot 38 W n v l
theorem infoDot : (Try.prog.info? 38).map (fun i => (i.zero, i.size, i.bytes)) = some (some (.agg #[.int .i64 0, .int .i64 0]), 2, 16) := by kernel_rfl
theorem eltDot : EltOf Try.prog eDot 38 36 := by
  obtain ⟨i0, hi, hz0, hz1, hz2⟩ := info_parts infoDot
  exact ⟨Try.underlying36, ⟨i0, _, hi, hz0, hz1, by omega, rfl, eDot.one (0, 0)⟩, ⟨_, Try.underlying38, rfl⟩⟩
def cmpX (x y : Int × Int) : Int := cmpD x.1 x.2 y.1 y.2
theorem cmpX_lt (x y : Int × Int) : cmpX x y < 0 ↔ x.1 < y.1 ∨ (x.1 = y.1 ∧ x.2 < y.2) := by
  unfold cmpX cmpD cmpI
  repeat' split
  all_goals omega
theorem cmpX_zero (x y : Int × Int) : cmpX x y = 0 ↔ x.1 = y.1 ∧ x.2 = y.2 := by
  unfold cmpX cmpD cmpI
  repeat' split
  all_goals omega
theorem cmpX_val (x y : Int × Int) : cmpX x y = -1 ∨ cmpX x y = 0 ∨ cmpX x y = 1 := by
  unfold cmpX cmpD cmpI
  repeat' split
  all_goals omega
theorem totD : TotC cmpX where
  neg x y := by
    have h1 := cmpX_lt x y
    have h2 := cmpX_lt y x
    have h3 := cmpX_zero x y
    have h4 := cmpX_zero y x
    have h5 := cmpX_val x y
    have h6 := cmpX_val y x
    omega
  zero x y h := by
    obtain ⟨h1, h2⟩ := (cmpX_zero x y).1 h
    exact Prod.ext h1 h2
  trans x y z h1 h2 := by
    rw [cmpX_lt] at *
    omega

/-- Equality of dots. -/
def eqX (x y : Int × Int) : Bool := x.1 == y.1 && x.2 == y.2
theorem eqX_eq {x y : Int × Int} (h : x = y) : eqX x y = true := by subst h; simp [eqX]
theorem eqX_ne {x y : Int × Int} (h : ¬ x = y) : eqX x y = false := by
  unfold eqX
  rw [Bool.and_eq_false_iff]
  by_cases h1 : x.1 = y.1
  · exact .inr (by simpa using fun h2 => h (Prod.ext h1 h2))
  · exact .inl (by simpa using h1)
theorem eqX_iff (x y : Int × Int) : eqX x y = true ↔ x = y :=
  ⟨fun h => Classical.byContradiction fun hn => (by rw [eqX_ne hn] at h; cases h), eqX_eq⟩
theorem wrapE (n : Int) (h0 : 0 ≤ n) (h1 : n < 9223372036854775808) : IntKind.i64.wrap n = n := by
  simp [IntKind.wrap, IntKind.bits, IntKind.signed]
  omega
theorem eqX_run (w : World) (x y : Int × Int) : (binOp .eql 38 (eDot.val x) (eDot.val y)).run Try.prog w = .ok (.bool (eqX x y)) w := by
  show (binOp .eql 38 (DotV x.1 x.2) (DotV y.1 y.2)).run Try.prog w = .ok (.bool (x.1 == y.1 && x.2 == y.2)) w
  go_simp
  by_cases h1 : x.1 = y.1 <;> by_cases h2 : x.2 = y.2 <;> simp [h1, h2]
theorem eqX_runN (w : World) (x y : Int × Int) : (binOp .neq 38 (eDot.val x) (eDot.val y)).run Try.prog w = .ok (.bool (!eqX x y)) w := by
  show (binOp .neq 38 (DotV x.1 x.2) (DotV y.1 y.2)).run Try.prog w = .ok (.bool (!(x.1 == y.1 && x.2 == y.2))) w
  go_simp
  by_cases h1 : x.1 = y.1 <;> by_cases h2 : x.2 = y.2 <;> simp [h1, h2]
theorem eqX_exec {a : Act} {o : Oper} {p q : Operand} (ho : o.op = .binOp .eql 38 p q 38) {x y : Int × Int} (hp : a.eval p = eDot.val x) (hq : a.eval q = eDot.val y) {W : World} : (execOp a.eval o).run Try.prog W = .ok (.value (.bool (eqX x y))) W := by
  have hg := run_eqGuard_agg (P := Try.prog) (w := W) .eql 38 p q (eDot.enc x).toArray (eDot.enc y).toArray (by kernel_rfl)
  unfold execOp
  simp only [ho, hp, hq, Sem.run_bind, hg, eqX_run, Result.andThen_ok, Sem.run_pure]
theorem eqX_execN {a : Act} {o : Oper} {p q : Operand} (ho : o.op = .binOp .neq 38 p q 38) {x y : Int × Int} (hp : a.eval p = eDot.val x) (hq : a.eval q = eDot.val y) {W : World} : (execOp a.eval o).run Try.prog W = .ok (.value (.bool (!eqX x y))) W := by
  have hg := run_eqGuard_agg (P := Try.prog) (w := W) .neq 38 p q (eDot.enc x).toArray (eDot.enc y).toArray (by kernel_rfl)
  unfold execOp
  simp only [ho, hp, hq, Sem.run_bind, hg, eqX_runN, Result.andThen_ok, Sem.run_pure]

/-- Nothing but draws and new blocks. -/
def Grew (w w' : World) : Prop := ∃ q os, w' = Sort.grow (w.drewN q) os
theorem Grew.refl (w : World) : Grew w w := ⟨0, #[], by simp [Sort.grow, World.drewN]⟩
theorem Grew.trans {a b c : World} (h : Grew a b) (k : Grew b c) : Grew a c := by
  obtain ⟨q, os, rfl⟩ := h
  obtain ⟨q', os', rfl⟩ := k
  exact ⟨q + q', os ++ os', by simp [Sort.grow, World.drewN, Array.append_assoc, Nat.add_assoc]⟩
theorem Grew.alloc {a b : World} (h : Grew a b) (o : Obj) : Grew a (b.alloc o) := h.trans ⟨0, #[o], by rw [Sort.alloc_eq_grow]; rfl⟩
theorem Grew.drew {a b : World} (h : Grew a b) : Grew a b.drew := h.trans ⟨1, #[], by simp only [Sort.grow, World.drewN, Array.append_empty]; rfl⟩
theorem Grew.below {a b : World} (h : Grew a b) : Below a.heap.size a b := by
  obtain ⟨q, os, rfl⟩ := h
  exact ⟨rfl, rfl, rfl, by simp [Sort.grow, World.drewN], fun i hi => by
    show (a.heap ++ os)[i]? = a.heap[i]?
    exact Array.getElem?_append_left hi⟩
set_option maxHeartbeats 1000000 in
theorem pDCompare_grow (w : World) (s c s' c' : Int) :
    Calls Try.prog 44 #[DotV s c, DotV s' c'] w fun e W' => e = .returned (.int .i64 (cmpD s c s' c')) ∧ Grew w W' := by
  have hB : Grew w ((w.alloc (.cells #[.int .i64 s, .int .i64 c] 38)).alloc (.cells #[.int .i64 s', .int .i64 c'] 38)) := ((Grew.refl w).alloc _).alloc _
  have c1 := fun W x y => cmpCompare_any W x y
  have c2 : ∀ (W : World) (b : Nat), W.cell? ⟨b, 0, none⟩ = some (.int .i64 (cmpI s s')) → W.cell? ⟨b, 1, none⟩ = some (.int .i64 (cmpI c c')) → Calls Try.prog 70 #[.slice (some ⟨b, 0, none⟩) 2 2] W fun e W' => e = .returned (.int .i64 (cmpD s c s' c')) ∧ W = W' := fun W b h h' => cmpOr_any W b _ _ h h'
  have g1 : ((w.alloc (.cells #[.int .i64 s, .int .i64 c] 38)).alloc (.cells #[.int .i64 s', .int .i64 c'] 38)).cell? ⟨w.heap.size, 0, none⟩ = some (.int .i64 s) := by go_simp
  have g2 : ((w.alloc (.cells #[.int .i64 s, .int .i64 c] 38)).alloc (.cells #[.int .i64 s', .int .i64 c'] 38)).cell? ⟨w.heap.size, 1, none⟩ = some (.int .i64 c) := by go_simp
  have g3 : ((w.alloc (.cells #[.int .i64 s, .int .i64 c] 38)).alloc (.cells #[.int .i64 s', .int .i64 c'] 38)).cell? ⟨w.heap.size + 1, 0, none⟩ = some (.int .i64 s') := by go_simp
  have g4 : ((w.alloc (.cells #[.int .i64 s, .int .i64 c] 38)).alloc (.cells #[.int .i64 s', .int .i64 c'] 38)).cell? ⟨w.heap.size + 1, 1, none⟩ = some (.int .i64 c') := by go_simp
  go_enter Try.func44, Try.ntmps44
  go_wp2_with fail
  generalize (w.alloc (.cells #[.int .i64 s, .int .i64 c] 38)).alloc (.cells #[.int .i64 s', .int .i64 c'] 38) = W0 at *
  refine wp_held (fun W1 => Grew W0 W1) (by kernel_rfl) ?_
  have hS : Grew W0 W0.drew := (Grew.refl W0).drew
  refine wpAnyH_next (i := 0) (v := .pointer (some ⟨w.heap.size, 0, none⟩)) rfl (by kernel_rfl) (by kernel_rfl) (by kernel_rfl) (fun _ _ _ h => h) (by kernel_rfl) (fun W1 hW1 => by have e1 := cell_on hW1.below g1; have e2 := cell_on hW1.below g2; have e3 := cell_on hW1.below g3; have e4 := cell_on hW1.below g4; go_simp) hS (fun a' ha' => ?_)
  simp only [Act.put, List.getElem_toArray, List.getElem_cons_zero, List.setIfInBounds_toArray, List.set_cons_succ, List.set_cons_zero] at ha'
  subst ha'
  refine wpAnyH_next (i := 1) (v := .int .i64 s) rfl (by kernel_rfl) (by kernel_rfl) (by kernel_rfl) (fun _ _ _ h => h) (by kernel_rfl) (fun W1 hW1 => by have e1 := cell_on hW1.below g1; have e2 := cell_on hW1.below g2; have e3 := cell_on hW1.below g3; have e4 := cell_on hW1.below g4; go_simp) hS (fun a' ha' => ?_)
  simp only [Act.put, List.getElem_toArray, List.getElem_cons_succ, List.getElem_cons_zero, List.setIfInBounds_toArray, List.set_cons_succ, List.set_cons_zero] at ha'
  subst ha'
  refine wpAnyH_next (i := 2) (v := .pointer (some ⟨w.heap.size + 1, 0, none⟩)) rfl (by kernel_rfl) (by kernel_rfl) (by kernel_rfl) (fun _ _ _ h => h) (by kernel_rfl) (fun W1 hW1 => by have e1 := cell_on hW1.below g1; have e2 := cell_on hW1.below g2; have e3 := cell_on hW1.below g3; have e4 := cell_on hW1.below g4; go_simp) hS (fun a' ha' => ?_)
  simp only [Act.put, List.getElem_toArray, List.getElem_cons_succ, List.getElem_cons_zero, List.setIfInBounds_toArray, List.set_cons_succ, List.set_cons_zero] at ha'
  subst ha'
  refine wpAnyH_next (i := 3) (v := .int .i64 s') rfl (by kernel_rfl) (by kernel_rfl) (by kernel_rfl) (fun _ _ _ h => h) (by kernel_rfl) (fun W1 hW1 => by have e1 := cell_on hW1.below g1; have e2 := cell_on hW1.below g2; have e3 := cell_on hW1.below g3; have e4 := cell_on hW1.below g4; go_simp) hS (fun a' ha' => ?_)
  simp only [Act.put, List.getElem_toArray, List.getElem_cons_succ, List.getElem_cons_zero, List.setIfInBounds_toArray, List.set_cons_succ, List.set_cons_zero] at ha'
  subst ha'
  refine wpAnyH_next (i := 5) (v := .pointer (some ⟨w.heap.size, 1, none⟩)) rfl (by kernel_rfl) (by kernel_rfl) (by kernel_rfl) (fun _ _ _ h => h) (by kernel_rfl) (fun W1 hW1 => by have e1 := cell_on hW1.below g1; have e2 := cell_on hW1.below g2; have e3 := cell_on hW1.below g3; have e4 := cell_on hW1.below g4; go_simp) hS (fun a' ha' => ?_)
  simp only [Act.put, List.getElem_toArray, List.getElem_cons_succ, List.getElem_cons_zero, List.setIfInBounds_toArray, List.set_cons_succ, List.set_cons_zero] at ha'
  subst ha'
  refine wpAnyH_next (i := 6) (v := .int .i64 c) rfl (by kernel_rfl) (by kernel_rfl) (by kernel_rfl) (fun _ _ _ h => h) (by kernel_rfl) (fun W1 hW1 => by have e1 := cell_on hW1.below g1; have e2 := cell_on hW1.below g2; have e3 := cell_on hW1.below g3; have e4 := cell_on hW1.below g4; go_simp) hS (fun a' ha' => ?_)
  simp only [Act.put, List.getElem_toArray, List.getElem_cons_succ, List.getElem_cons_zero, List.setIfInBounds_toArray, List.set_cons_succ, List.set_cons_zero] at ha'
  subst ha'
  refine wpAnyH_next (i := 7) (v := .pointer (some ⟨w.heap.size + 1, 1, none⟩)) rfl (by kernel_rfl) (by kernel_rfl) (by kernel_rfl) (fun _ _ _ h => h) (by kernel_rfl) (fun W1 hW1 => by have e1 := cell_on hW1.below g1; have e2 := cell_on hW1.below g2; have e3 := cell_on hW1.below g3; have e4 := cell_on hW1.below g4; go_simp) hS (fun a' ha' => ?_)
  simp only [Act.put, List.getElem_toArray, List.getElem_cons_succ, List.getElem_cons_zero, List.setIfInBounds_toArray, List.set_cons_succ, List.set_cons_zero] at ha'
  subst ha'
  refine wpAnyH_next (i := 8) (v := .int .i64 c') rfl (by kernel_rfl) (by kernel_rfl) (by kernel_rfl) (fun _ _ _ h => h) (by kernel_rfl) (fun W1 hW1 => by have e1 := cell_on hW1.below g1; have e2 := cell_on hW1.below g2; have e3 := cell_on hW1.below g3; have e4 := cell_on hW1.below g4; go_simp) hS (fun a' ha' => ?_)
  simp only [Act.put, List.getElem_toArray, List.getElem_cons_succ, List.getElem_cons_zero, List.setIfInBounds_toArray, List.set_cons_succ, List.set_cons_zero] at ha'
  subst ha'
  refine wpAnyH_one (i := 4) (by kernel_rfl) rfl rfl (fun K hK => ?_)
  unfold Oper.wp
  go_simp
  refine (c1 _ _ _).mono ?_
  rintro e w1 ⟨rfl, rfl⟩
  refine hK _ _ hS ?_
  clear hK K
  refine wpAnyH_one (i := 9) (by kernel_rfl) rfl rfl (fun K hK => ?_)
  unfold Oper.wp
  go_simp
  refine (c1 _ _ _).mono ?_
  rintro e w1 ⟨rfl, rfl⟩
  refine hK _ _ hS ?_
  clear hK K
  refine wpAnyH_one (i := 10) (by kernel_rfl) rfl rfl (fun K hK => ?_)
  unfold Oper.wp
  go_simp
  have hS1 : Grew W0 (W0.alloc (.cells #[.int .i64 (cmpI s s'), .int .i64 (cmpI c c')] 3)).drew := ((Grew.refl W0).alloc _).drew
  refine hK _ _ hS1 ?_
  clear hK K
  refine wpAnyH_one (i := 11) (by kernel_rfl) rfl rfl (fun K hK => ?_)
  unfold Oper.wp
  go_simp
  refine (c2 _ _ (by go_simp) (by go_simp)).mono ?_
  rintro e w1 ⟨rfl, rfl⟩
  refine hK _ _ hS1 ?_
  clear hK K
  refine wpAnyH_one (i := 12) (by kernel_rfl) rfl rfl (fun K hK => ?_)
  unfold Oper.wp
  go_simp
  refine hK _ _ hS1 ?_
  clear hK K
  refine wpAnyH_fin (by kernel_rfl) ?_ _
  go_wp2_with fail
  go_ret
  refine ⟨?_, ?_⟩
  · first | rfl | (unfold cmpD; rfl) | (simp [cmpD]; done)
  · first | exact hB.trans hS1
end Go.Proofs.Ytcclifnhbncfcaa
