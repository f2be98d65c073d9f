/- Vectors laid by the statements' own words: of, lists of vectors; the chapter's first examples hold of the program. -/
import Derived.Test.YtbkbogblbniogaaVecRefM
import Derived.Great.BuildSlice
namespace Go.Proofs.Ytbkbogblbniogaa
open Go.RowKit Go.Great
set_option maxRecDepth 100000

/-- A slice of counters. -/
def Us (W : World) (v : Value) (xs : List UInt32) : Prop := (xs = [] ∧ v = .slice none 0 0) ∨ ∃ b o c, v = .slice (some ⟨b, o, none⟩) xs.length c ∧ ∀ j x, xs[j]? = some x → W.cell? ⟨b, o + j, none⟩ = some (W32 x)
theorem Us.below {w w' : World} {v : Value} {xs : List UInt32} (h : Us w v xs) (hb : Below w.heap.size w w') : Us w' v xs := by
  rcases h with h | ⟨b, o, c, rfl, hx⟩
  · exact .inl h
  · exact .inr ⟨b, o, c, rfl, fun j x hj => cellOn hb (hx j x hj)⟩
theorem Us.built (w : World) (xs : List UInt32) {cs : Array Value} (hcs : cs = (xs.map W32).toArray) {n : Nat} (hn : n = xs.length) : Us (w.alloc (.cells cs 22)) (.slice (some ⟨w.heap.size, 0, none⟩) n n) xs := by
  subst hcs hn
  refine .inr ⟨_, _, _, rfl, fun j x hj => ?_⟩
  obtain ⟨h1, h2⟩ := List.getElem?_eq_some_iff.1 hj
  rw [Nat.zero_add]
  simp [h1, h2]
/-- The vector of the first sites' counters. -/
def ofV (xs : List UInt32) : Vc := fun i => xs.getD i.val 0
theorem ofV_cells (xs : List UInt32) (h : xs.length ≤ 16) : xs.map W32 ++ (encC zeroV).drop xs.length = encC (ofV xs) := by
  apply List.ext_getElem?
  intro n
  by_cases hn : n < 16
  · rw [encC_get _ hn]
    by_cases h1 : n < xs.length
    · rw [List.getElem?_append_left (by simpa using h1), List.getElem?_map, List.getElem?_eq_getElem h1]
      simp [atV, ofV, hn, h1]
    · rw [List.getElem?_append_right (by simpa using h1), List.length_map, List.getElem?_drop, show xs.length + (n - xs.length) = n by omega, encC_get _ hn]
      have h2 : atV (ofV xs) n = 0 := by simp [atV, ofV, hn, List.getElem?_eq_none (show xs.length ≤ n by omega)]
      rw [h2, atV_zero]
  · rw [List.getElem?_eq_none (by simp [encC_length]; omega), List.getElem?_eq_none (by rw [encC_length]; omega)]
theorem wpList_copy_vec {ops : Array Oper} {rest : List Oper} {o : Oper} {a : Act} {w : World} {Q : Exit → Act → World → Prop} (hgd : o.guard = none) (d s : Operand)
    (ho : o.op = .call { callee := .builtin .copy, args := #[d, s], argTypes := #[90, 90] }) {g : Nat} (hd : a.eval d = .slice (some ⟨g, 0, none⟩) 16 16) {v : Value} (hs : a.eval s = v) {xs : List UInt32} (hb : BoxV w g zeroV) (hu : Us w v xs) (h16 : xs.length ≤ 16)
    (h : ∀ n w', BoxV w' g (ofV xs) → Kept (· = g) w w' → wpList Try.prog ops Q rest (a.put o.dst n) w') : wpList Try.prog ops Q (o :: rest) a w := by
  have hi1 : (Try.prog.info? 22).map (·.size) = some 1 := by kernel_rfl
  rcases hu with ⟨rfl, rfl⟩ | ⟨b, off, c, rfl, hx⟩
  · have hr := run_copy_none (P := Try.prog) w 90 90 o.type 22 (some ⟨g, 0, none⟩) none 16 16 0 0 Try.underlying90 hi1 (by simp)
    refine wpList_plain hgd fun K hK => ?_
    unfold Oper.wp execOp
    simp only [ho, resolve, invoke, builtin, Sem.run_bind, Sem.run_pure, Result.andThen_ok, List.map_toArray, List.map_cons, List.map_nil, hd, hs, hr]
    refine hK _ _ (h _ _ ?_ (Kept.refl _ _))
    have : ofV [] = zeroV := by funext i; rfl
    rw [this]
    exact hb
  · have hmin : Nat.min xs.length 16 = xs.length := Nat.min_eq_left h16
    have hr := run_copy_cells (P := Try.prog) w 90 90 o.type 22 g 0 16 16 ⟨b, off, none⟩ xs.length c (xs.map W32) Try.underlying90 hi1 (by rw [hmin]; simp)
      (fun j v hv => by
        rw [add_plain]
        rw [List.getElem?_map] at hv
        cases hj : xs[j]? with
        | none => rw [hj] at hv; cases hv
        | some x => rw [hj] at hv; cases hv; exact hx j x hj)
      (fun j hj => (hb.there j (by simp at hj; omega)).1) (fun j hj => (hb.there j (by simp at hj; omega)).2) (fun v hv => by
        obtain ⟨x, _, rfl⟩ := List.mem_map.1 hv
        rfl)
    refine wpList_plain hgd fun K hK => ?_
    unfold Oper.wp execOp
    simp only [ho, resolve, invoke, builtin, Sem.run_bind, Sem.run_pure, Result.andThen_ok, List.map_toArray, List.map_cons, List.map_nil, hd, hs, hr]
    refine hK _ _ (h _ _ ?_ ((Kept.refl (· = g) w).setCellsE (T := (· = g)) rfl _ _))
    have h1 := setCells_all (xs.map W32) (encC zeroV) g 0 w _ hb (by simp [encC_length]; exact h16)
    unfold BoxV
    rw [h1, List.take_zero, List.nil_append, Nat.zero_add, List.length_map, ofV_cells xs h16]

set_option maxHeartbeats 1000000 in
theorem of6_any (w : World) (v : Value) (xs : List UInt32) (hu : Us w v xs) (h16 : xs.length ≤ 16) :
    Calls Try.prog 34 #[v] w fun e W' => e = .returned (VecV (ofV xs)) ∧ Below w.heap.size w W' := by
  have b0 := BoxV.new w zeroV
  have hB0 : Below w.heap.size w (w.alloc (.cells (encC zeroV).toArray 24)) := (Below.refl _ w).alloc (Nat.le_refl _) _
  have b0' : BoxV ((w.alloc (.cells (encC zeroV).toArray 24)).alloc (.cells (encC zeroV).toArray 24)) w.heap.size zeroV := b0.below ((Below.refl _ _).alloc (Nat.le_refl _) _)
  have b1 := BoxV.new (w.alloc (.cells (encC zeroV).toArray 24)) zeroV
  rw [World.size_alloc] at b1
  have hB1 : Below w.heap.size w ((w.alloc (.cells (encC zeroV).toArray 24)).alloc (.cells (encC zeroV).toArray 24)) := hB0.alloc hB0.size _
  have hu1 := hu.below hB1
  clear hu
  go_enter Try.func34, Try.ntmps34
  go_wp2_with (first
    | (refine wpList_alloc_vec rfl rfl ?_)
    | (refine wpList_copy_vec rfl (.tmp 4) (.tmp 5) rfl rfl rfl b1 hu1 h16 ?_; intro n9 w9 b9 k9)
    | (refine wpList_load_vec rfl (.tmp 3) rfl rfl b9.at ?_)
    | (refine wpList_store_vec rfl (.tmp 2) (.tmp 7) rfl rfl (b0'.kept k9 (fun h => Nat.ne_of_lt (Nat.lt_succ_self _) h)) rfl ?_; intro wa ba ka))
  refine bodyPost_ret (results_vec1 rfl _ rfl ba) rfl ?_
  have hB2 := hB1.trans (k9.below (B := w.heap.size) (fun j _ e => by subst e; exact Nat.le_succ _) hB1.size)
  exact ⟨rfl, hB2.trans (ka.below (fun j _ e => by subst e; exact Nat.le_refl _) hB2.size)⟩

/-- A list of vectors, laid. -/
theorem wp_build_vecs {o : Oper} {a : Act} {w : World} {K : Act → World → Prop} {Q : Exit → Act → World → Prop} (parts : Array (Nat × Operand)) (len : Nat) (ho : o.op = .buildSlice 25 len parts) (l : List Vc) (hl : l.length = len) (h0 : 0 < l.length) (h20 : l.length ≤ 100)
    (hp : (parts.map fun (i, x) => (i, a.eval x)).toList = ((l.map fun v => VecV v).zipIdx 0).map fun x => (x.2, x.1))
    (h : K (a.put o.dst (.slice (some ⟨w.heap.size, 0, none⟩) len len)) (w.alloc (.cells (flatE eVec l).toArray 24))) : o.wp Try.prog a w K Q := by
  obtain ⟨i0, hi, hz0, hz1, hz2⟩ := info_parts infoVec
  subst hl
  have hf := fill_whole (s := 16) (by omega) (l.map fun v => VecV v) ((Array.range (l.length * 16)).map ((Value.agg (Array.replicate 16 (.int .u32 0))).cells[· % (Value.agg (Array.replicate 16 (.int .u32 0))).cells.size]!)) (fun v hv => by
    obtain ⟨x, _, rfl⟩ := List.mem_map.1 hv
    simp [Value.cells, encC_length]) (by simp)
  refine wp_buildSlice 25 24 l.length _ ho (flatE eVec l).toArray i0 _ Try.underlying25 hi hz0 (by rw [hz1]; omega) (by rw [hz1]; omega) ?_ h
  rw [hz1, hp, hf]
  congr 2
  unfold flatE
  rw [List.flatMap_map]
  simp [Value.cells, List.flatMap, eVec]
theorem wpList_build_vecs {ops : Array Oper} {rest : List Oper} {o : Oper} {a : Act} {w : World} {Q : Exit → Act → World → Prop} (hg : o.guard = none) (parts : Array (Nat × Operand)) (len : Nat) (ho : o.op = .buildSlice 25 len parts) (l : List Vc) (hl : l.length = len) (h0 : 0 < l.length) (h20 : l.length ≤ 100)
    (hp : (parts.map fun (i, x) => (i, a.eval x)).toList = ((l.map fun v => VecV v).zipIdx 0).map fun x => (x.2, x.1))
    (h : wpList Try.prog ops Q rest (a.put o.dst (.slice (some ⟨w.heap.size, 0, none⟩) len len)) (w.alloc (.cells (flatE eVec l).toArray 24))) : wpList Try.prog ops Q (o :: rest) a w :=
  wpList_plain hg fun _ hK => wp_build_vecs parts len ho l hl h0 h20 hp (hK _ _ h)
theorem es_built (w : World) (l : List Vc) {n : Nat} (hn : l.length = n) : Es eVec (w.alloc (.cells (flatE eVec l).toArray 24)) (.slice (some ⟨w.heap.size, 0, none⟩) n n) l := by
  subst hn
  exact Es.built w l 24 rfl
theorem below_alloc (w : World) (o : Obj) : Below w.heap.size w (w.alloc o) := (Below.refl _ w).alloc (Nat.le_refl _) _
end Go.Proofs.Ytbkbogblbniogaa
