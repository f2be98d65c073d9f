/- Operations stepped by hand, whether the region draws its order or not; vectors in them. -/
import Derived.Test.YtbkbogblbniogaaVecList
import Derived.Test.YtbkbogblbniogaaRound
namespace Go.Proofs.Ytbkbogblbniogaa
open Go.RowKit Go.Great
set_option maxRecDepth 100000

/-- An operation whose value is known. -/
theorem list_known {P : Program} {ops : Array Oper} {rest : List Oper} {o : Oper} {a : Act} {w : World} {Q : Exit → Act → World → Prop} (v : Value) (hw : Region.wanted o (yielded ops a.tmps) = true) (hrun : (execOp a.eval o).run P w = .ok (.value v) w)
    (h : ∀ a', a.put o.dst v = a' → wpList P ops Q rest a' w) : wpList P ops Q (o :: rest) a w :=
  wpList_step fun K hK => by
    rw [if_pos hw]
    unfold Oper.wp
    rw [hrun]
    exact hK _ _ (h _ rfl)
/-- An operation that is guarded, and passed over. -/
theorem list_skip {P : Program} {ops : Array Oper} {rest : List Oper} {o : Oper} {a : Act} {w : World} {Q : Exit → Act → World → Prop} (hw : Region.wanted o (yielded ops a.tmps) = false)
    (h : ∀ a', a.put o.dst undef = a' → wpList P ops Q rest a' w) : wpList P ops Q (o :: rest) a w :=
  wpList_skip hw (h _ rfl)
/-- An operation, its guard met. -/
theorem list_want {P : Program} {ops : Array Oper} {rest : List Oper} {o : Oper} {a : Act} {w : World} {Q : Exit → Act → World → Prop} (hw : Region.wanted o (yielded ops a.tmps) = true)
    (h : ∀ K : Act → World → Prop, (∀ a' w', wpList P ops Q rest a' w' → K a' w') → o.wp P a w K Q) : wpList P ops Q (o :: rest) a w :=
  wpList_step fun K hK => by
    rw [if_pos hw]
    exact h K hK
theorem list_load_vec {ops : Array Oper} {rest : List Oper} {o : Oper} {a : Act} {w : World} {Q : Exit → Act → World → Prop} (hw : Region.wanted o (yielded ops a.tmps) = true) (x : Operand) (ho : o.op = .load 24 x) {b off : Nat} (hx : a.eval x = .pointer (some ⟨b, off, none⟩)) {v : Vc} (hat : VecAt w b off v)
    (h : wpList Try.prog ops Q rest (a.put o.dst (VecV v)) w) : wpList Try.prog ops Q (o :: rest) a w :=
  list_known _ hw (exec_load_vec ho hx hat) fun _ ha => ha ▸ h
theorem list_build_vecs {ops : Array Oper} {rest : List Oper} {o : Oper} {a : Act} {w : World} {Q : Exit → Act → World → Prop} (hw : Region.wanted o (yielded ops a.tmps) = true) (parts : Array (Nat × Operand)) (len : Nat) (ho : o.op = .buildSlice 25 len parts) (l : List Vc) (hl : l.length = len) (h0 : 0 < l.length) (h20 : l.length ≤ 100)
    (hp : (parts.map fun (i, x) => (i, a.eval x)).toList = ((l.map fun v => VecV v).zipIdx 0).map fun x => (x.2, x.1))
    (h : wpList Try.prog ops Q rest (a.put o.dst (.slice (some ⟨w.heap.size, 0, none⟩) len len)) (w.alloc (.cells (flatE eVec l).toArray 24))) : wpList Try.prog ops Q (o :: rest) a w :=
  list_want hw fun _ hK => wp_build_vecs parts len ho l hl h0 h20 hp (hK _ _ h)
/-- A goal that the walk lets be. -/
def Held (p : Prop) (_ : (p → Nat) → Nat) : Prop := p
theorem held_in {p : Prop} (h : Held p fun _ => 0) : p := h
theorem held_at (n : Nat) {l : Array Oper} {b : Bool} {P : Program} {Q : Exit → Act → World → Prop} {a : Act} {w : World} (h : Held ((Code.region n l b).wp P Q a w) fun _ => 0) : (Code.region n l b).wp P Q a w := h
/-- Three vectors in boxes. -/
theorem three_boxes (w : World) (a b c : Vc) : ∃ w2, w2 = ((w.alloc (.cells (encC a).toArray 24)).alloc (.cells (encC b).toArray 24)).alloc (.cells (encC c).toArray 24) ∧ BoxV w2 w.heap.size a ∧ BoxV w2 (w.heap.size + 1) b ∧ BoxV w2 (w.heap.size + 2) c ∧ Below w.heap.size w w2 := by
  obtain ⟨w2, rfl, b1, b2, hB⟩ := two_boxes w a b
  have hb := below_alloc ((w.alloc (.cells (encC a).toArray 24)).alloc (.cells (encC b).toArray 24)) (.cells (encC c).toArray 24)
  refine ⟨_, rfl, b1.below hb, b2.below hb, ?_, hB.trans (hb.mono hB.size)⟩
  have := BoxV.new ((w.alloc (.cells (encC a).toArray 24)).alloc (.cells (encC b).toArray 24)) c
  rw [World.size_alloc, World.size_alloc] at this
  exact this
theorem join2 (a b : Vc) : joinL [a, b] = joinV a b := rfl
theorem meet2 (a b : Vc) : meetL [a, b] = meetV a b := rfl
theorem lacks_join (a b : Vc) : lacksN a (joinL [a, b]) 16 = lacksN a b 16 := by
  rw [join2]
  refine lacksN_ext 16 fun n hn => ?_
  rw [nat_join]
  omega

theorem exec_eql_vec {a : Act} {o : Oper} {x y : Operand} {t : TypeId} (ho : o.op = .binOp .eql 24 x y t) {u v : Vc} (hx : a.eval x = VecV u) (hy : a.eval y = VecV v) {b : Bool} (hb : decide (u = v) = b) {W : World} : (execOp a.eval o).run Try.prog W = .ok (.value (.bool b)) W := by
  have h := eql_vec W u v
  rw [hb] at h
  have hg := run_eqGuard_agg (P := Try.prog) (w := W) .eql 24 x y (encC u).toArray (encC v).toArray (by kernel_rfl)
  unfold execOp
  simp only [ho, hx, hy, Sem.run_bind]
  show ((((eqGuard .eql 24 x y (.agg (encC u).toArray) (.agg (encC v).toArray)).run Try.prog W).andThen fun _ w' => (binOp .eql 24 (VecV u) (VecV v)).run Try.prog w').andThen fun a w' => (pure (Next.value a) : Sem Next).run Try.prog w') = _
  rw [hg]
  simp only [Result.andThen_ok, h, Sem.run_pure]
theorem exec_neq_vec {a : Act} {o : Oper} {x y : Operand} {t : TypeId} (ho : o.op = .binOp .neq 24 x y t) {u v : Vc} (hx : a.eval x = VecV u) (hy : a.eval y = VecV v) {b : Bool} (hb : (!(decide (u = v))) = b) {W : World} : (execOp a.eval o).run Try.prog W = .ok (.value (.bool b)) W := by
  have h := neq_vec W u v
  rw [hb] at h
  have hg := run_eqGuard_agg (P := Try.prog) (w := W) .neq 24 x y (encC u).toArray (encC v).toArray (by kernel_rfl)
  unfold execOp
  simp only [ho, hx, hy, Sem.run_bind]
  show ((((eqGuard .neq 24 x y (.agg (encC u).toArray) (.agg (encC v).toArray)).run Try.prog W).andThen fun _ w' => (binOp .neq 24 (VecV u) (VecV v)).run Try.prog w').andThen fun a w' => (pure (Next.value a) : Sem Next).run Try.prog w') = _
  rw [hg]
  simp only [Result.andThen_ok, h, Sem.run_pure]
end Go.Proofs.Ytbkbogblbniogaa
