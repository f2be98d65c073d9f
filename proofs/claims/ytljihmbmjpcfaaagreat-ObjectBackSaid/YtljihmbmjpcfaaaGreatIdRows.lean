/- Rows of ids of the call's own; append. -/
import Derived.Test.YtljihmbmjpcfaaaGreatIds
import Derived.Great.BuildSlice
namespace Go.Proofs.YtljihmbmjpcfaaaGreat
open Go.RowKit
set_option maxRecDepth 100000


/-- Ids' cells, one behind the other. -/
def flatI (l : List (List UInt8)) : List Value := (l.map (·.map B8)).flatten
theorem flatI_nil : flatI [] = [] := rfl
theorem flatI_cons (x : List UInt8) (l : List (List UInt8)) : flatI (x :: l) = x.map B8 ++ flatI l := by simp [flatI]
theorem flatI_append (l m : List (List UInt8)) : flatI (l ++ m) = flatI l ++ flatI m := by simp [flatI]
theorem flatI_length : ∀ (l : List (List UInt8)), (∀ x ∈ l, x.length = 32) → (flatI l).length = l.length * 32 := by
  intro l
  induction l with
  | nil => intro _; rfl
  | cons x l ih =>
    intro h
    have h1 := ih (fun y hy => h y (List.mem_cons_of_mem _ hy))
    have h2 := h x List.mem_cons_self
    rw [flatI_cons, List.length_append, List.length_map, h1, h2, List.length_cons]
    omega
theorem flatI_get : ∀ (l : List (List UInt8)), (∀ x ∈ l, x.length = 32) → ∀ i x r, l[i]? = some x → r < 32 → (flatI l)[i * 32 + r]? = (x.map B8)[r]? := by
  intro l
  induction l with
  | nil => intro _ i x r h; simp at h
  | cons y l ih =>
    intro h i x r hi hr
    have hy := h y List.mem_cons_self
    rw [flatI_cons]
    cases i with
    | zero =>
      simp at hi
      subst hi
      rw [Nat.zero_mul, Nat.zero_add, List.getElem?_append_left (by simp; omega)]
    | succ i =>
      rw [List.getElem?_append_right (by simp; omega)]
      rw [← ih (fun z hz => h z (List.mem_cons_of_mem _ hz)) i x r (by simpa using hi) hr]
      congr 1
      simp
      omega
theorem flatI_oneCell (l : List (List UInt8)) : ∀ u ∈ flatI l, u.oneCell' = true := by
  intro u hu
  obtain ⟨y, hy, hu⟩ := List.mem_flatten.1 hu
  obtain ⟨x, _, rfl⟩ := List.mem_map.1 hy
  exact bs_oneCell x u hu

/-- A row of ids of the call's own. -/
structure RowI (W : World) (n : Nat) (v : Value) (l : List (List UInt8)) : Prop where
  sized : ∀ x ∈ l, x.length = 32
  own : W.ownsRow n 25 32 v l.length (flatI l)
theorem RowI.nil (W : World) (n : Nat) : RowI W n (.slice none 0 0) [] := ⟨by simp, World.ownsRow_nil _ _ _ _⟩
theorem RowI.is {W : World} {n : Nat} {v : Value} {l : List (List UInt8)} (h : RowI W n v l) : Is W v l := by
  refine ⟨h.sized, ?_⟩
  rcases h.own.2 with ⟨rfl, h0⟩ | ⟨g, cap, cur, rfl, hb, hg, hn, hm, hs, ht⟩
  · have : l = [] := List.eq_nil_of_length_eq_zero h0
    subst this
    exact ⟨none, 0, rfl, by simp, fun i x hx => by simp at hx⟩
  · refine ⟨_, cap, rfl, hn, fun i x hx => ⟨g, 0, rfl, fun r u hu => ?_⟩⟩
    have hx32 := h.sized x (List.mem_of_getElem? hx)
    have hr : r < 32 := by have := (List.getElem?_eq_some_iff.1 hu).1; simp at this; omega
    have hi : i < l.length := (List.getElem?_eq_some_iff.1 hx).1
    have h1 := flatI_get l h.sized i x r hx hr
    rw [hu, ← ht, List.getElem?_take, if_pos (by omega)] at h1
    rw [Nat.zero_add]
    simp only [World.cell?, hg]
    simpa using h1
theorem RowI.below {w w' : World} {n : Nat} {v : Value} {l : List (List UInt8)} (h : RowI w n v l) (hb : Below w.heap.size w w') : RowI w' n v l := ⟨h.sized, owns_below h.own hb⟩
theorem RowI.base {w : World} {n n' : Nat} {v : Value} {l : List (List UInt8)} (h : RowI w n v l) (hn : n' ≤ n) : RowI w n' v l := ⟨h.sized, owns_base h.own hn⟩
theorem RowI.slice {w : World} {n : Nat} {v : Value} {l : List (List UInt8)} (h : RowI w n v l) : ∃ A c, v = .slice A l.length c ∧ l.length ≤ c := h.is.form
theorem Is.one (w : World) {x : List UInt8} (hx : x.length = 32) (t : TypeId) : Is (w.alloc (.cells (x.map B8).toArray t)) (.slice (some ⟨w.heap.size, 0, none⟩) 1 1) [x] := by
  refine ⟨by simpa using hx, _, _, rfl, Nat.le_refl _, fun i y hi => ?_⟩
  match i, hi with
  | 0, hi =>
    simp at hi
    subst hi
    exact ⟨_, _, rfl, by simpa using IdAt.box w x t⟩

/-- Cells laid over as many. -/
theorem fold_set : ∀ (cs : List Value) (k : Nat) (a : Array Value), a.size = k + cs.length → ((cs.zipIdx k).foldl (fun (a : Array Value) (p : Value × Nat) => a.setIfInBounds (0 + p.2) p.1) a).toList = a.toList.take k ++ cs := by
  intro cs
  induction cs with
  | nil => intro k a h; rw [List.append_nil, List.take_of_length_le (by simp at h; simp [h])]; rfl
  | cons c cs ih =>
    intro k a h
    rw [List.zipIdx_cons, List.foldl_cons, ih (k + 1) _ (by simp at h ⊢; omega)]
    have hk : k < a.size := by simp at h; omega
    simp only [Nat.zero_add, Array.toList_setIfInBounds]
    rw [List.take_add_one, List.take_set_of_le (Nat.le_refl _), List.getElem?_set_self (by simpa using hk)]
    simp
theorem fill_one {x : List UInt8} (hx : x.length = 32) (Z : Array Value) (hZ : Z.size = 32) : Instr.fill (fun i => some (i * 32, 32)) Z [(0, IdV x)] = some (x.map B8).toArray := by
  have hs : (IdV x).cells.size = 32 := by simp [Value.cells, hx]
  simp only [Instr.fill, hs, Nat.zero_mul, Nat.zero_add, hZ, ne_eq, not_true_eq_false, decide_false, Nat.lt_irrefl, Bool.or_false, gt_iff_lt, Bool.false_eq_true, if_false]
  congr 1
  apply Array.toList_inj.1
  have h := fold_set (x.map B8) 0 Z (by simp [hZ, hx])
  rw [List.take_zero, List.nil_append] at h
  rw [← Array.foldl_toList, Array.toList_zipIdx]
  simp only [Nat.zero_add] at h
  exact h
theorem zero32 : (((Array.range (1 * 32)).map ((Value.agg (Array.replicate 32 (.int .u8 0))).cells[· % (Value.agg (Array.replicate 32 (.int .u8 0))).cells.size]!)) : Array Value).size = 32 := by simp
/-- A list of one id, laid. -/
theorem wpList_one_id {ops : Array Oper} {rest : List Oper} {o : Oper} {a : Act} {w : World} {Q : Exit → Act → World → Prop} (hg : o.guard = none) (y : Operand) (ho : o.op = .buildSlice 26 1 #[(0, y)]) {x : List UInt8} (hx : x.length = 32) (hy : a.eval y = IdV x)
    (h : wpList Tryz.prog ops Q rest (a.put o.dst (.slice (some ⟨w.heap.size, 0, none⟩) 1 1)) (w.alloc (.cells (x.map B8).toArray 25))) : wpList Tryz.prog ops Q (o :: rest) a w := by
  obtain ⟨i0, hi, hz0, hz1, hz2⟩ := info_parts infoID3
  refine wpList_buildSlice hg 26 25 1 _ ho _ i0 _ Tryz.underlying26 hi hz0 (by rw [hz1]; decide) (by rw [hz1]; decide) ?_ h
  rw [hz1]
  simp only [List.map_toArray, List.map_cons, List.map_nil, hy]
  exact fill_one hx _ zero32
theorem wp_one_id {o : Oper} {a : Act} {w : World} {K : Act → World → Prop} {Q : Exit → Act → World → Prop} (y : Operand) (ho : o.op = .buildSlice 26 1 #[(0, y)]) {x : List UInt8} (hx : x.length = 32) (hy : a.eval y = IdV x)
    (h : K (a.put o.dst (.slice (some ⟨w.heap.size, 0, none⟩) 1 1)) (w.alloc (.cells (x.map B8).toArray 25))) : o.wp Tryz.prog a w K Q := by
  obtain ⟨i0, hi, hz0, hz1, hz2⟩ := info_parts infoID3
  refine wp_buildSlice 26 25 1 _ ho _ i0 _ Tryz.underlying26 hi hz0 (by rw [hz1]; decide) (by rw [hz1]; decide) ?_ h
  rw [hz1]
  simp only [List.map_toArray, List.map_cons, List.map_nil, hy]
  exact fill_one hx _ zero32

/-- append of ids onto a row of the call's own. -/
theorem run_append_is (w : World) (base : Nat) (ty : TypeId) (v : Value) (l : List (List UInt8)) (hown : RowI w base v l) (sv : Value) (m : List (List UInt8)) (hs : Is w sv m) (hlen : l.length + m.length ≤ 1000000) (hbase : base ≤ w.heap.size) :
    ∃ v' w', (Builtin.append_ #[26, 26] ty #[v, sv]).run Tryz.prog w = .ok v' w' ∧ RowI w' base v' (l ++ m) ∧ w.grownBy w' v.ownBlock ∧ (v'.ownBlock = v.ownBlock ∨ v'.ownBlock = some w.heap.size) := by
  obtain ⟨i0, hi, hz0, hz1, hz2⟩ := info_parts infoID3
  have hsz : ∀ x ∈ l ++ m, x.length = 32 := fun x hx => (List.mem_append.1 hx).elim (hown.sized x) (hs.1 x)
  obtain ⟨h32, A, c, rfl, hc, hat⟩ := hs
  cases m with
  | nil =>
    have ht := Tryz.underlying26
    have ho := hown.own
    cases A with
    | none =>
      refine ⟨v, w, ?_, by simpa using hown, World.grownBy.refl w _, .inl rfl⟩
      rcases ho.2 with ⟨rfl, h0⟩ | ⟨g, cap, cur, rfl, _, _, hnc, _⟩
      · simp [Builtin.append_, run_underlying ht, sizeOf, typeInfo, hi, Builtin.lenOf, Builtin.firstCells]
      · simp [Builtin.append_, run_underlying ht, sizeOf, typeInfo, hi, Builtin.lenOf, Builtin.firstCells, hnc, storeCells]
    | some ad =>
      obtain ⟨v', w', h1, h2, h3, h4, h5⟩ := run_append_own_at (P := Tryz.prog) w base 26 ty 25 i0 _ 32 32 ht hi hz0 hz1 hz2 (by simp [Value.cells]) (by omega) v l.length (flatI l) ho ad 0 c [] (by simp) (fun j u hu => by simp at hu) (by simp) (by unfold maxLen; simp; omega) (by simp; omega) hbase
      exact ⟨v', w', h1, ⟨hsz, by simpa using h2⟩, h3, h5⟩
  | cons y m =>
    obtain ⟨b, off, rfl, _⟩ := hat 0 y rfl
    have hnews : ∀ j u, (flatI (y :: m))[j]? = some u → w.cell? ((⟨b, off, none⟩ : Addr).add j) = some u := by
      intro j u hu
      have hj := (List.getElem?_eq_some_iff.1 hu).1
      rw [flatI_length _ h32] at hj
      have hi' : j / 32 < (y :: m).length := by omega
      obtain ⟨b', off', he, hx⟩ := hat (j / 32) _ (List.getElem?_eq_getElem hi')
      injection he with he
      injection he with e1 e2
      subst e1 e2
      have h1 := flatI_get _ h32 (j / 32) _ (j % 32) (List.getElem?_eq_getElem hi') (Nat.mod_lt _ (by omega))
      rw [show j / 32 * 32 + j % 32 = j by omega, hu] at h1
      have h2 := hx (j % 32) u h1.symm
      rw [add_plain]
      rw [show off + j / 32 * 32 + j % 32 = off + j by omega] at h2
      exact h2
    obtain ⟨v', w', h1, h2, h3, h4, h5⟩ := run_append_own_at (P := Tryz.prog) w base 26 ty 25 i0 _ 32 32 Tryz.underlying26 hi hz0 hz1 hz2 (by simp [Value.cells]) (by omega) v l.length (flatI l) hown.own ⟨b, off, none⟩ (y :: m).length c (flatI (y :: m)) (flatI_length _ h32) hnews (flatI_oneCell _) (by unfold maxLen; omega) (by omega) hbase
    exact ⟨v', w', h1, ⟨hsz, by rw [flatI_append, List.length_append]; exact h2⟩, h3, h5⟩
theorem wp_append_is {w : World} {o : Oper} {a : Act} {K : Act → World → Prop} {Q : Exit → Act → World → Prop} (s x : Operand)
    (ho : o.op = .call { callee := .builtin .append, args := #[s, x], argTypes := #[26, 26] }) (base : Nat) (v : Value) (l : List (List UInt8)) (hv : a.eval s = v) (hown : RowI w base v l) (sv : Value) (m : List (List UInt8)) (hsv : a.eval x = sv) (hs : Is w sv m)
    (hlen : l.length + m.length ≤ 1000000) (hbase : base ≤ w.heap.size)
    (h : ∀ v' w', RowI w' base v' (l ++ m) → w.grownBy w' v.ownBlock → (v'.ownBlock = v.ownBlock ∨ v'.ownBlock = some w.heap.size) → K (a.put o.dst v') w') : o.wp Tryz.prog a w K Q := by
  obtain ⟨v', w', hr, h2, h3, h4⟩ := run_append_is w base o.type v l hown sv m hs hlen hbase
  unfold Oper.wp execOp
  simp only [ho, resolve, invoke, builtin, Sem.run_bind, Sem.run_pure, Result.andThen_ok, List.map_toArray, List.map_cons, List.map_nil, hv, hsv, hr]
  exact h v' w' h2 h3 h4
theorem wpList_append_is {w : World} {ops : Array Oper} {rest : List Oper} {o : Oper} {a : Act} {Q : Exit → Act → World → Prop} (hgd : o.guard = none) (s x : Operand)
    (ho : o.op = .call { callee := .builtin .append, args := #[s, x], argTypes := #[26, 26] }) (base : Nat) (v : Value) (l : List (List UInt8)) (hv : a.eval s = v) (hown : RowI w base v l) (sv : Value) (m : List (List UInt8)) (hsv : a.eval x = sv) (hs : Is w sv m)
    (hlen : l.length + m.length ≤ 1000000) (hbase : base ≤ w.heap.size)
    (h : ∀ v' w', RowI w' base v' (l ++ m) → w.grownBy w' v.ownBlock → (v'.ownBlock = v.ownBlock ∨ v'.ownBlock = some w.heap.size) → wpList Tryz.prog ops Q rest (a.put o.dst v') w') : wpList Tryz.prog ops Q (o :: rest) a w :=
  wpList_plain hgd fun _ hK => wp_append_is s x ho base v l hv hown sv m hsv hs hlen hbase fun v' w' h2 h3 h4 => hK _ _ (h v' w' h2 h3 h4)
end Go.Proofs.YtljihmbmjpcfaaaGreat
