/- A list of one element, laid (any elements). -/
import Derived.Test.YtcclifnhbncfcaaBoxE
namespace Go.Proofs.Ytcclifnhbncfcaa
open Go.RowKit Go.Shelf Go.Great
set_option maxRecDepth 100000

theorem fill_one_e {α : Type} {E : Elt α} (x : α) (Z : Array Value) (hZ : Z.size = E.k) : Instr.fill (fun i => some (i * E.k, E.k)) Z [(0, E.val x)] = some (E.enc x).toArray := by
  have h := ofill_one (fun i => some (i * E.k, E.k)) Z.toList 0 (E.val x) (E.enc x) [] (0 * E.k) E.k rfl rfl (E.len x) (by rw [E.len x]; simp [hZ])
  rw [Array.toArray_toList] at h
  rw [h, ofill_none]
  congr 2
  unfold splice
  simp [E.len, hZ]
theorem wp_one_e {α : Type} {E : Elt α} {t ts : TypeId} (he : EltOf Try.prog E t ts) (hk : E.k ≤ 1000) {o : Oper} {a : Act} {w : World} {K : Act → World → Prop} {Q : Exit → Act → World → Prop} (y : Operand) (ho : o.op = .buildSlice ts 1 #[(0, y)]) {x : α} (hy : a.eval y = E.val x)
    (h : K (a.put o.dst (.slice (some ⟨w.heap.size, 0, none⟩) 1 1)) (w.alloc (.cells (E.enc x).toArray t))) : o.wp Try.prog a w K Q := by
  obtain ⟨i0, z, hi, hz0, hz1, hz2, hz3, hz4⟩ := he.info
  refine wp_buildSlice ts t 1 _ ho _ i0 z he.sl hi hz0 (by rw [hz1]; omega) (by rw [hz1]; have := E.pos; omega) ?_ h
  rw [hz1]
  simp only [List.map_toArray, List.map_cons, List.map_nil, hy]
  exact fill_one_e x _ (by simp)
theorem wpList_one_e {α : Type} {E : Elt α} {t ts : TypeId} (he : EltOf Try.prog E t ts) (hk : E.k ≤ 1000) {ops : Array Oper} {rest : List Oper} {o : Oper} {a : Act} {w : World} {Q : Exit → Act → World → Prop} (hg : o.guard = none) (y : Operand) (ho : o.op = .buildSlice ts 1 #[(0, y)]) {x : α} (hy : a.eval y = E.val x)
    (h : wpList Try.prog ops Q rest (a.put o.dst (.slice (some ⟨w.heap.size, 0, none⟩) 1 1)) (w.alloc (.cells (E.enc x).toArray t))) : wpList Try.prog ops Q (o :: rest) a w :=
  wpList_plain hg fun _ hK => wp_one_e he hk y ho hy (hK _ _ h)
theorem Es.one_e {α : Type} {E : Elt α} (w : World) (x : α) (t : TypeId) : Es E (w.alloc (.cells (E.enc x).toArray t)) (.slice (some ⟨w.heap.size, 0, none⟩) 1 1) [x] :=
  Es.built w [x] t (by simp [flatE])
theorem rowE_one {α : Type} {E : Elt α} {t : TypeId} (w : World) (x : α) : RowE E t (w.alloc (.cells (E.enc x).toArray t)) w.heap.size (.slice (some ⟨w.heap.size, 0, none⟩) 1 1) [x] := by
  refine ⟨by simp [flatE, E.len], .inr ⟨w.heap.size, 1, (E.enc x).toArray, rfl, Nat.le_refl _, heap_alloc_new w _, Nat.le_refl _, by decide, by simp [E.len], ?_⟩⟩
  rw [List.length_cons, List.length_nil, Nat.zero_add, Nat.one_mul, List.take_of_length_le (by simp [E.len])]
  simp [flatE]
end Go.Proofs.Ytcclifnhbncfcaa
