/- Vectors in memory: sixteen cells; variables that hold one; two held against one another. -/
import Derived.Test.YtbkbogblbniogaaVecMath
import Derived.Test.YtbkbogblbniogaaElem
import Derived.Stop.BytesEq
import Derived.Great.Walk
import Derived.Laws.IdiomCopy
namespace Go.Proofs.Ytbkbogblbniogaa
open Go.RowKit Go.Shelf Go.Great
set_option maxRecDepth 100000

/-- A counter as a value. -/
abbrev W32 (x : UInt32) : Value := .int .u32 (x.toNat : Int)
/-- A vector's cells. -/
def encC (v : Vc) : List Value := List.ofFn fun i => W32 (v i)
theorem encC_length (v : Vc) : (encC v).length = 16 := by simp [encC]
theorem encC_get (v : Vc) {n : Nat} (h : n < 16) : (encC v)[n]? = some (W32 (atV v n)) := by
  rw [encC, List.getElem?_ofFn, dif_pos h, atV, dif_pos h]
theorem encC_one (v : Vc) : ∀ u ∈ encC v, u.oneCell' = true := by
  intro u hu
  unfold encC at hu
  obtain ⟨i, rfl⟩ := List.mem_ofFn.1 hu
  rfl
theorem encC_set (v : Vc) (n : Nat) (x : UInt32) : (encC v).set n (W32 x) = encC (setV v n x) := by
  apply List.ext_getElem?
  intro m
  by_cases hm : m < 16
  · rw [encC_get _ hm, List.getElem?_set]
    by_cases h : n = m
    · subst h
      rw [if_pos rfl, if_pos (by rw [encC_length]; exact hm), atV_set v hm, if_pos rfl]
    · rw [if_neg h, encC_get _ hm]
      congr 2
      unfold atV setV
      rw [dif_pos hm, dif_pos hm, if_neg (by simp; omega)]
  · rw [List.getElem?_eq_none (by simp [encC_length]; omega), List.getElem?_eq_none (by rw [encC_length]; omega)]
/-- How vectors lie. -/
def eVec : Elt Vc := ⟨encC, 16, by omega, encC_length, encC_one⟩
abbrev VecV (v : Vc) : Value := .agg (encC v).toArray
theorem infoVec : (Try.prog.info? 24).map (fun i => (i.zero, i.size, i.bytes)) = some (some (.agg (Array.replicate 16 (.int .u32 0))), 16, 64) := by kernel_rfl
theorem infoU32 : (Try.prog.info? 22).map (fun i => (i.zero, i.size, i.bytes)) = some (some (.int .u32 0), 1, 4) := by kernel_rfl
theorem sizeVec (v : Vc) : (Try.prog.info? 24).map (·.size) = some (encC v).length := by
  rw [encC_length]
  kernel_rfl
theorem zeroVec : (encC zeroV).toArray = Array.replicate 16 (.int .u32 0) := by
  first | rfl | (apply Array.ext'; rfl) | decide +kernel
theorem vecOf : EltOf Try.prog eVec 24 25 := by
  obtain ⟨i0, hi, hz0, hz1, hz2⟩ := info_parts infoVec
  refine ⟨Try.underlying25, ⟨i0, _, hi, hz0, by rw [hz1]; rfl, by omega, by simp [Value.cells, eVec], fun u hu => ?_⟩, ⟨_, Try.underlying24, rfl⟩⟩
  simp [Value.cells] at hu
  subst hu
  rfl
/-- A vector lies there. -/
abbrev VecAt (W : World) (b o : Nat) (v : Vc) : Prop := ElAt eVec W b o v
theorem VecAt.cell {W : World} {b o : Nat} {v : Vc} (h : VecAt W b o v) {n : Nat} (hn : n < 16) : W.cell? ⟨b, o + n, none⟩ = some (W32 (atV v n)) := h n _ (encC_get v hn)

/-- A variable that holds a vector. -/
def BoxV (W : World) (g : Nat) (v : Vc) : Prop := W.heap[g]? = some (.cells (encC v).toArray 24 (0, 0))
theorem BoxV.lt {W : World} {g : Nat} {v : Vc} (h : BoxV W g v) : g < W.heap.size := (Array.getElem?_eq_some_iff.1 h).1
theorem BoxV.new (w : World) (v : Vc) : BoxV (w.alloc (.cells (encC v).toArray 24)) w.heap.size v := heap_alloc_new w _
theorem BoxV.at {W : World} {g : Nat} {v : Vc} (h : BoxV W g v) : VecAt W g 0 v := fun j u hu => by
  rw [Nat.zero_add]
  simp only [World.cell?, BoxV] at h ⊢
  rw [h]
  have hu' : (encC v)[j]? = some u := hu
  simpa using hu'
theorem BoxV.cell {W : World} {g : Nat} {v : Vc} (h : BoxV W g v) {n : Nat} (hn : n < 16) : W.cell? ⟨g, n, none⟩ = some (W32 (atV v n)) := by
  have := h.at.cell hn
  rwa [Nat.zero_add] at this
theorem BoxV.frozen {W : World} {g : Nat} {v : Vc} (h : BoxV W g v) (n : Nat) : W.frozen? ⟨g, n, none⟩ = false := frozen_of_row W g _ _ _ h
theorem BoxV.there {W : World} {g : Nat} {v : Vc} (h : BoxV W g v) : W.there g 0 16 := fun j hj => by
  rw [Nat.zero_add]
  exact ⟨by rw [h.cell hj]; rfl, h.frozen j⟩
theorem BoxV.put {W : World} {g k : Nat} {v : Vc} (h : BoxV W g v) (y : UInt32) : BoxV (W.setCell ⟨g, k, none⟩ (W32 y)) g (setV v k y) := by
  have h1 := heap_setCell_same W g k _ _ (W32 y) h
  unfold BoxV
  rw [h1, ← encC_set]
  simp
theorem BoxV.kept {T : Nat → Prop} {w w' : World} {g : Nat} {v : Vc} (h : BoxV w g v) (hk : Kept T w w') (hn : ¬ T g) : BoxV w' g v := (hk.block g h.lt hn).trans h
theorem BoxV.below {w w' : World} {g : Nat} {v : Vc} (h : BoxV w g v) (hb : Below w.heap.size w w') : BoxV w' g v := h.kept (Kept.of_below hb (Nat.le_refl _) (fun _ => False)) (fun h => h)
theorem BoxV.drew {w : World} {g : Nat} {v : Vc} (h : BoxV w g v) : BoxV w.drew g v := h
theorem setCells_all : ∀ (ys xs : List Value) (g k : Nat) (W : World) (t : TypeId), W.heap[g]? = some (.cells xs.toArray t (0, 0)) → k + ys.length ≤ xs.length → (W.setCells g k ys).heap[g]? = some (.cells (xs.take k ++ ys ++ xs.drop (k + ys.length)).toArray t (0, 0)) := by
  intro ys
  induction ys with
  | nil => intro xs g k W t h _; simpa [World.setCells] using h
  | cons y ys ih =>
    intro xs g k W t h hl
    have h1 := heap_setCell_same W g k _ _ y h
    have h2 : (W.setCell ⟨g, k, none⟩ y).heap[g]? = some (.cells (xs.set k y).toArray t (0, 0)) := by rw [h1]; simp
    have h3 := ih (xs.set k y) g (k + 1) _ t h2 (by simp at hl ⊢; omega)
    rw [World.setCells, h3]
    congr 3
    have hk : k < xs.length := by simp at hl; omega
    rw [List.take_add_one, List.take_set_of_le (Nat.le_refl _), List.getElem?_set_self hk, List.drop_set_of_lt (by omega)]
    simp [Nat.add_assoc, Nat.add_comm 1]
theorem BoxV.store {W : World} {g : Nat} {v u : Vc} (h : BoxV W g v) : BoxV (W.setCells g 0 (encC u)) g u ∧ Kept (· = g) W (W.setCells g 0 (encC u)) := by
  have h1 := setCells_all (encC u) (encC v) g 0 W _ h (by simp [encC_length])
  refine ⟨?_, (Kept.refl (· = g) _).setCellsE (T := (· = g)) rfl _ _⟩
  unfold BoxV
  rw [h1, List.take_zero, List.nil_append, List.drop_eq_nil_of_le (by simp [encC_length]), List.append_nil]

theorem exec_load_vec {a : Act} {o : Oper} {x : Operand} (ho : o.op = .load 24 x) {b off : Nat} (hx : a.eval x = .pointer (some ⟨b, off, none⟩)) {v : Vc} {W : World} (h : VecAt W b off v) : (execOp a.eval o).run Try.prog W = .ok (.value (VecV v)) W := by
  have := exec_load_el (E := eVec) Try.underlying24 rfl (sizeVec v) ho hx h
  exact this
theorem wp_load_vec {o : Oper} {a : Act} {w : World} {K : Act → World → Prop} {Q : Exit → Act → World → Prop} {x : Operand} (ho : o.op = .load 24 x) {b off : Nat} (hx : a.eval x = .pointer (some ⟨b, off, none⟩)) {v : Vc} (hat : VecAt w b off v)
    (h : K (a.put o.dst (VecV v)) w) : o.wp Try.prog a w K Q := by
  unfold Oper.wp
  rw [exec_load_vec ho hx hat]
  exact h
theorem wpList_load_vec {ops : Array Oper} {rest : List Oper} {o : Oper} {a : Act} {w : World} {Q : Exit → Act → World → Prop} (hg : o.guard = none) (x : Operand) (ho : o.op = .load 24 x) {b off : Nat} (hx : a.eval x = .pointer (some ⟨b, off, none⟩)) {v : Vc} (hat : VecAt w b off v)
    (h : wpList Try.prog ops Q rest (a.put o.dst (VecV v)) w) : wpList Try.prog ops Q (o :: rest) a w :=
  wpList_runTo hg _ rfl _ _ (exec_load_vec ho hx hat) h
theorem wpList_alloc_vec {ops : Array Oper} {rest : List Oper} {o : Oper} {a : Act} {w : World} {Q : Exit → Act → World → Prop} (hg : o.guard = none) (ho : o.op = .alloc 24)
    (h : wpList Try.prog ops Q rest (a.put o.dst (.pointer (some ⟨w.heap.size, 0, none⟩))) (w.alloc (.cells (encC zeroV).toArray 24))) : wpList Try.prog ops Q (o :: rest) a w := by
  obtain ⟨i0, hi, hz0, hz1, hz2⟩ := info_parts infoVec
  refine wpList_runTo hg _ rfl _ _ ?_ h
  rw [zeroVec]
  unfold execOp
  simp [ho, Instr.alloc, zeroValue, typeInfo, hi, hz0, newVar, newRow, Value.cells]
theorem wpList_build_vec {ops : Array Oper} {rest : List Oper} {o : Oper} {a : Act} {w : World} {Q : Exit → Act → World → Prop} (hg : o.guard = none) (ho : o.op = .build 24 #[])
    (h : wpList Try.prog ops Q rest (a.put o.dst (VecV zeroV)) w) : wpList Try.prog ops Q (o :: rest) a w := by
  obtain ⟨i0, hi, hz0, hz1, hz2⟩ := info_parts infoVec
  refine wpList_runTo hg _ rfl _ _ ?_ h
  show _ = Result.ok (Next.value (.agg (encC zeroV).toArray)) w
  rw [zeroVec]
  unfold execOp
  simp [ho, Instr.build, zeroValue, typeInfo, hi, hz0, Value.cells, run_underlying Try.underlying24, Instr.fill]
theorem wpList_store_vec {ops : Array Oper} {rest : List Oper} {o : Oper} {a : Act} {w : World} {Q : Exit → Act → World → Prop} (hg : o.guard = none) (x y : Operand) (ho : o.op = .store 24 x y) {g : Nat} (hx : a.eval x = .pointer (some ⟨g, 0, none⟩)) {v u : Vc} (hbox : BoxV w g v) (hy : a.eval y = VecV u)
    (h : ∀ w', BoxV w' g u → Kept (· = g) w w' → wpList Try.prog ops Q rest (a.put o.dst undef) w') : wpList Try.prog ops Q (o :: rest) a w := by
  refine wpList_store_mid hg 24 x y ho g 0 (encC u).toArray hx hy (by simpa [encC_length] using hbox.there) (by simpa using sizeVec u) (all_oneCell_toArray (encC_one u)) ?_
  exact h _ hbox.store.1 hbox.store.2
/-- A result that stands in a variable. -/
theorem results_vec2 {fn : Func} {t u : Tmp} (h : fn.results = #[.cell t 24, .tmp u]) (tmps : Array Value) {w : World} {g : Nat} {v : Vc} (ht : tmps.getD t undef = .pointer (some ⟨g, 0, none⟩)) (hb : BoxV w g v) :
    (results fn tmps).run Try.prog w = .ok (.tuple #[VecV v, tmps.getD u undef]) w := by
  have hl := run_loadVar_mid (P := Try.prog) w g 0 24 (encC v) _ hb.at Try.underlying24 rfl (sizeVec v)
  rw [Array.getD_eq_getD_getElem?] at ht
  simp [results, h, ht, asAddr, hl]
theorem results_vec1 {fn : Func} {t : Tmp} (h : fn.results = #[.cell t 24]) (tmps : Array Value) {w : World} {g : Nat} {v : Vc} (ht : tmps.getD t undef = .pointer (some ⟨g, 0, none⟩)) (hb : BoxV w g v) :
    (results fn tmps).run Try.prog w = .ok (VecV v) w := by
  have hl := run_loadVar_mid (P := Try.prog) w g 0 24 (encC v) _ hb.at Try.underlying24 rfl (sizeVec v)
  rw [Array.getD_eq_getD_getElem?] at ht
  simp [results, h, ht, asAddr, hl]

theorem size1u (w : World) : (sizeOf 22).run Try.prog w = .ok 1 w := by
  obtain ⟨i0, hi, hz0, hz1, hz2⟩ := info_parts infoU32
  simp [sizeOf, typeInfo, hi, hz1]
theorem all_atV (a b : Vc) : ((List.range 16).all fun n => atV a n == atV b n) = decide (a = b) := by
  rw [Bool.eq_iff_iff]
  simp only [List.all_eq_true, List.mem_range, beq_iff_eq, decide_eq_true_eq]
  exact ⟨fun h => vc_ext h, fun h => by subst h; intros; rfl⟩
theorem equal_vec (w : World) (a b : Vc) : (Op.equalIn 10000 24 (VecV a) (VecV b)).run Try.prog w = .ok (decide (a = b)) w := by
  have ht : Try.prog.underlying 24 = some (.array 16 22) := Try.underlying24
  have he : Try.prog.underlying 22 = some (.int .u32) := Try.underlying22
  show (Op.equalIn (9998 + 2) 24 (VecV a) (VecV b)).run Try.prog w = _
  rw [← all_atV, List.range_eq_range', Op.equalIn]
  simp only [Sem.run_bind, run_underlying ht, Result.andThen_ok, size1u, Std.Legacy.Range.forIn_eq_forIn_range', Std.Legacy.Range.size, Nat.sub_zero, Nat.add_sub_cancel, Nat.div_one]
  have hl : ∀ i ∈ List.range' 0 16 1, i < 16 := fun i hi => by simpa using (List.mem_range'_1.1 hi).2
  generalize List.range' 0 16 1 = l at hl ⊢
  induction l with
  | nil => simp
  | cons i l ih =>
    have hi : i < 16 := hl i (by simp)
    have part1 : ∀ v : Vc, (part 22 (encC v).toArray (i * 1)).run Try.prog w = .ok (W32 (atV v i)) w := fun v => by
      simp [part, isAgg, run_underlying he, encC_get v hi]
    have pe : (Op.equalIn (9998 + 1) 22 (W32 (atV a i)) (W32 (atV b i))).run Try.prog w = .ok (atV a i == atV b i) w := by
      rw [run_equalIn_int w 9998 22 .u32 .u32 _ _ he]
      congr 1
      rw [Bool.eq_iff_iff]
      simp [← UInt32.toNat_inj]
      omega
    simp only [List.forIn_cons, Sem.run_bind, part1 a, part1 b, pe, Result.andThen_ok, List.all_cons]
    cases hb : (atV a i == atV b i)
    · simp
    · simp only [Bool.not_true, Bool.false_eq_true, if_false, Sem.run_pure, Result.andThen_ok, Bool.true_and]
      exact ih fun j hj => hl j (by simp [hj])
theorem eql_vec (w : World) (a b : Vc) : (binOp .eql 24 (VecV a) (VecV b)).run Try.prog w = .ok (.bool (decide (a = b))) w := by
  rw [run_eql_struct, equal_vec]
  rfl
theorem neq_vec (w : World) (a b : Vc) : (binOp .neq 24 (VecV a) (VecV b)).run Try.prog w = .ok (.bool (!(decide (a = b)))) w := by
  rw [run_neq_struct, equal_vec]
  rfl
end Go.Proofs.Ytbkbogblbniogaa
