/- Ids in variables: a box of 32 cells; alloc, build, load, store. An id handed over, in a variable of its own; its bytes. -/
import Derived.Test.YtljihmbmjpcfaaaGreatIds
import Derived.Great.Walk
import Derived.Laws.IdiomCopy
import Derived.Test.YtljihmbmjpcfaaaGreatLebSrc
namespace Go.Proofs.YtljihmbmjpcfaaaGreat
open Go.RowKit Go.Great

/-- No id. -/
def zeroID : List UInt8 := List.replicate 32 0
theorem zeroID_length : zeroID.length = 32 := rfl
theorem zeroID_cells : (zeroID.map B8).toArray = Array.replicate 32 (.int .u8 0) := rfl
/-- A variable that holds an id. -/
def BoxI (W : World) (g : Nat) (xs : List UInt8) : Prop := xs.length = 32 ∧ W.heap[g]? = some (.cells (xs.map B8).toArray 25 (0, 0))
theorem BoxI.lt {W : World} {g : Nat} {xs : List UInt8} (h : BoxI W g xs) : g < W.heap.size := (Array.getElem?_eq_some_iff.1 h.2).1
theorem BoxI.new (w : World) {xs : List UInt8} (h : xs.length = 32) : BoxI (w.alloc (.cells (xs.map B8).toArray 25)) w.heap.size xs := ⟨h, heap_alloc_new w _⟩
theorem BoxI.at {W : World} {g : Nat} {xs : List UInt8} (h : BoxI W g xs) : IdAt W g 0 xs := fun j v hv => by
  obtain ⟨h1, h2⟩ := List.getElem?_eq_some_iff.1 hv
  rw [Nat.zero_add]
  simp only [World.cell?, h.2]
  simpa using hv
theorem BoxI.there {W : World} {g : Nat} {xs : List UInt8} (h : BoxI W g xs) : W.there g 0 32 := fun j hj => by
  rw [Nat.zero_add]
  refine ⟨?_, frozen_of_row W g j _ _ h.2⟩
  have := h.1
  simp [World.cell?, h.2, this, hj]
theorem BoxI.put {W : World} {g k : Nat} {xs : List UInt8} (h : BoxI W g xs) (y : UInt8) : BoxI (W.setCell ⟨g, k, none⟩ (B8 y)) g (xs.set k y) := by
  refine ⟨by simpa using h.1, ?_⟩
  have h1 := heap_setCell_same W g k _ _ (B8 y) h.2
  rw [h1, List.map_set]
  simp
theorem BoxI.kept {T : Nat → Prop} {w w' : World} {g : Nat} {xs : List UInt8} (h : BoxI w g xs) (hk : Kept T w w') (hn : ¬ T g) : BoxI w' g xs := ⟨h.1, (hk.block g h.lt hn).trans h.2⟩
theorem BoxI.below {w w' : World} {g : Nat} {xs : List UInt8} (h : BoxI w g xs) (hb : Below w.heap.size w w') : BoxI w' g xs := h.kept (Kept.of_below hb (Nat.le_refl _) (fun _ => False)) (fun h => h)
theorem setCells_box : ∀ (ys xs : List Value) (g k : Nat) (W : World) (t : TypeId), W.heap[g]? = some (.cells xs.toArray t (0, 0)) → k + ys.length ≤ xs.length → (W.setCells g k ys).heap[g]? = some (.cells (xs.take k ++ ys ++ xs.drop (k + ys.length)).toArray t (0, 0)) ∧ Kept (· = g) W (W.setCells g k ys) := by
  intro ys
  induction ys with
  | nil => intro xs g k W t h _; exact ⟨by simpa [World.setCells] using h, Kept.refl _ _⟩
  | cons y ys ih =>
    intro xs g k W t h hl
    have h1 := heap_setCell_same W g k _ _ y h
    have h2 : (W.setCell ⟨g, k, none⟩ y).heap[g]? = some (.cells (xs.set k y).toArray t (0, 0)) := by rw [h1]; simp
    obtain ⟨h3, h4⟩ := ih (xs.set k y) g (k + 1) _ t h2 (by simp at hl ⊢; omega)
    refine ⟨?_, ((Kept.refl (· = g) W).setCell (T := (· = g)) (p := ⟨g, k, none⟩) (fun _ => rfl) _).same h4⟩
    rw [World.setCells, h3]
    congr 3
    have hk : k < xs.length := by simp at hl; omega
    rw [List.take_add_one, List.take_set_of_le (Nat.le_refl _), List.getElem?_set_self hk, List.drop_set_of_lt (by omega)]
    simp [Nat.add_assoc, Nat.add_comm 1]
theorem BoxI.store {W : World} {g : Nat} {xs ys : List UInt8} (h : BoxI W g xs) (hy : ys.length = 32) : BoxI (W.setCells g 0 (ys.map B8)) g ys ∧ Kept (· = g) W (W.setCells g 0 (ys.map B8)) := by
  obtain ⟨h1, h2⟩ := setCells_box (ys.map B8) (xs.map B8) g 0 W _ h.2 (by simp [h.1, hy])
  refine ⟨⟨hy, ?_⟩, h2⟩
  rw [h1, List.take_zero, List.nil_append, List.drop_eq_nil_of_le (by simp [h.1, hy]), List.append_nil]

theorem wpList_alloc_id {ops : Array Oper} {rest : List Oper} {o : Oper} {a : Act} {w : World} {Q : Exit → Act → World → Prop} (hg : o.guard = none) (ho : o.op = .alloc 25)
    (h : wpList Tryz.prog ops Q rest (a.put o.dst (.pointer (some ⟨w.heap.size, 0, none⟩))) (w.alloc (.cells (zeroID.map B8).toArray 25))) : wpList Tryz.prog ops Q (o :: rest) a w := by
  obtain ⟨i0, hi, hz0, hz1, hz2⟩ := info_parts infoID3
  refine wpList_runTo hg _ rfl _ _ ?_ h
  rw [zeroID_cells]
  unfold execOp
  simp [ho, Instr.alloc, zeroValue, typeInfo, hi, hz0, newVar, newRow, Value.cells]
theorem wpList_build_id {ops : Array Oper} {rest : List Oper} {o : Oper} {a : Act} {w : World} {Q : Exit → Act → World → Prop} (hg : o.guard = none) (ho : o.op = .build 25 #[])
    (h : wpList Tryz.prog ops Q rest (a.put o.dst (IdV zeroID)) w) : wpList Tryz.prog ops Q (o :: rest) a w := by
  obtain ⟨i0, hi, hz0, hz1, hz2⟩ := info_parts infoID3
  refine wpList_runTo hg _ rfl _ _ ?_ h
  show _ = Result.ok (Next.value (.agg (zeroID.map B8).toArray)) w
  rw [zeroID_cells]
  unfold execOp
  simp [ho, Instr.build, zeroValue, typeInfo, hi, hz0, Value.cells, run_underlying Tryz.underlying25, Instr.fill]
theorem wpList_load_id {ops : Array Oper} {rest : List Oper} {o : Oper} {a : Act} {w : World} {Q : Exit → Act → World → Prop} (hg : o.guard = none) (x : Operand) (ho : o.op = .load 25 x) {b off : Nat} (hx : a.eval x = .pointer (some ⟨b, off, none⟩)) {xs : List UInt8} (h32 : xs.length = 32) (hat : IdAt w b off xs)
    (h : wpList Tryz.prog ops Q rest (a.put o.dst (IdV xs)) w) : wpList Tryz.prog ops Q (o :: rest) a w :=
  wpList_runTo hg _ rfl _ _ (exec_load_id ho hx h32 hat) h
theorem wpList_store_id {ops : Array Oper} {rest : List Oper} {o : Oper} {a : Act} {w : World} {Q : Exit → Act → World → Prop} (hg : o.guard = none) (x y : Operand) (ho : o.op = .store 25 x y) {g : Nat} (hx : a.eval x = .pointer (some ⟨g, 0, none⟩)) {xs ys : List UInt8} (hbox : BoxI w g xs) (hy32 : ys.length = 32) (hy : a.eval y = IdV ys)
    (h : ∀ w', BoxI w' g ys → Kept (· = g) w w' → wpList Tryz.prog ops Q rest (a.put o.dst undef) w') : wpList Tryz.prog ops Q (o :: rest) a w := by
  refine wpList_store_mid hg 25 x y ho g 0 (ys.map B8).toArray hx hy (by simpa [hy32] using hbox.there) (by simpa [hy32] using sizeID hy32) (all_oneCell_toArray (bs_oneCell ys)) ?_
  exact h _ (hbox.store hy32).1 (hbox.store hy32).2
/-- A result that stands in a variable. -/
theorem results_id2 {fn : Func} {t u : Tmp} (h : fn.results = #[.cell t 25, .tmp u]) (tmps : Array Value) {w : World} {g : Nat} {xs : List UInt8} (ht : tmps.getD t undef = .pointer (some ⟨g, 0, none⟩)) (hb : BoxI w g xs) :
    (results fn tmps).run Tryz.prog w = .ok (.tuple #[IdV xs, tmps.getD u undef]) w := by
  have hl := run_loadVar_mid (P := Tryz.prog) w g 0 25 (xs.map B8) _ hb.at Tryz.underlying25 rfl (sizeID hb.1)
  rw [Array.getD_eq_getD_getElem?] at ht
  simp [results, h, ht, asAddr, hl]
theorem results_id1 {fn : Func} {t : Tmp} (h : fn.results = #[.cell t 25]) (tmps : Array Value) {w : World} {g : Nat} {xs : List UInt8} (ht : tmps.getD t undef = .pointer (some ⟨g, 0, none⟩)) (hb : BoxI w g xs) :
    (results fn tmps).run Tryz.prog w = .ok (IdV xs) w := by
  have hl := run_loadVar_mid (P := Tryz.prog) w g 0 25 (xs.map B8) _ hb.at Tryz.underlying25 rfl (sizeID hb.1)
  rw [Array.getD_eq_getD_getElem?] at ht
  simp [results, h, ht, asAddr, hl]
end Go.Proofs.YtljihmbmjpcfaaaGreat
namespace Go.Proofs.YtljihmbmjpcfaaaGreat
open Go.RowKit Go.Great

theorem wpList_box_id {ops : Array Oper} {rest : List Oper} {o : Oper} {a : Act} {w : World} {Q : Exit → Act → World → Prop} (hg : o.guard = none) (p : Operand) (ho : o.op = .box 25 p) {x : List UInt8} (hx : x.length = 32) (hp : a.eval p = IdV x)
    (h : ∀ w', BoxI w' w.heap.size x → Below w.heap.size w w' → wpList Tryz.prog ops Q rest (a.put o.dst (.pointer (some ⟨w.heap.size, 0, none⟩))) w') : wpList Tryz.prog ops Q (o :: rest) a w := by
  refine wpList_runTo hg _ rfl _ _ ?_ (h _ (BoxI.new w hx) ((Below.refl _ w).alloc (Nat.le_refl _) _))
  unfold execOp
  simp [ho, hp, Instr.box, newVar, newRow, Value.cells]
theorem idAt_bs {W : World} {b o : Nat} {x : List UInt8} (h : IdAt W b o x) (hx : x.length = 32) : Bs W (.slice (some ⟨b, o, none⟩) 32 32) x := by
  refine .inr ⟨⟨b, o, none⟩, 32, by rw [hx], by omega, fun i y hy => ?_⟩
  rw [add_plain]
  exact h i _ (by simp [hy])
theorem BoxI.bs {W : World} {g : Nat} {x : List UInt8} (h : BoxI W g x) : Bs W (.slice (some ⟨g, 0, none⟩) 32 32) x := idAt_bs h.at h.1
end Go.Proofs.YtljihmbmjpcfaaaGreat
