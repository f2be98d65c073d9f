/- A variable that holds an element of some cells; structs that are built, loaded, stored. Objects, entries and links: as values, in memory, in variables. -/
import Derived.Test.YtljihmbmjpcfaaaGreatElem
import Derived.Test.YtljihmbmjpcfaaaGreatIdBox
namespace Go.Proofs.YtljihmbmjpcfaaaGreat
open Go.RowKit Go.Shelf Go.Great
set_option maxRecDepth 100000

/-- A variable that holds an element. -/
def BoxE {α : Type} (E : Elt α) (t : TypeId) (W : World) (g : Nat) (x : α) : Prop := W.heap[g]? = some (.cells (E.enc x).toArray t (0, 0))
section
variable {α : Type} {E : Elt α} {t : TypeId}
theorem BoxE.lt {W : World} {g : Nat} {x : α} (h : BoxE E t W g x) : g < W.heap.size := (Array.getElem?_eq_some_iff.1 h).1
theorem BoxE.new (w : World) (x : α) : BoxE E t (w.alloc (.cells (E.enc x).toArray t)) w.heap.size x := heap_alloc_new w _
theorem BoxE.at {W : World} {g : Nat} {x : α} (h : BoxE E t W g x) : ElAt E W g 0 x := fun j u hu => by
  rw [Nat.zero_add]
  simp only [World.cell?, BoxE] at h ⊢
  rw [h]
  have hu' : (E.enc x)[j]? = some u := hu
  simpa using hu'
theorem BoxE.frozen {W : World} {g : Nat} {x : α} (h : BoxE E t W g x) (n : Nat) : W.frozen? ⟨g, n, none⟩ = false := frozen_of_row W g _ _ _ h
theorem BoxE.there {W : World} {g : Nat} {x : α} (h : BoxE E t W g x) : W.there g 0 E.k := fun j hj => by
  rw [Nat.zero_add]
  refine ⟨?_, h.frozen j⟩
  have hl := E.len x
  have := h.at j ((E.enc x)[j]) (List.getElem?_eq_getElem (by omega))
  rw [Nat.zero_add] at this
  rw [this]
  rfl
theorem BoxE.kept {T : Nat → Prop} {w w' : World} {g : Nat} {x : α} (h : BoxE E t w g x) (hk : Kept T w w') (hn : ¬ T g) : BoxE E t w' g x := (hk.block g h.lt hn).trans h
theorem BoxE.below {w w' : World} {g : Nat} {x : α} (h : BoxE E t w g x) (hb : Below w.heap.size w w') : BoxE E t w' g x := h.kept (Kept.of_below hb (Nat.le_refl _) (fun _ => False)) (fun h => h)
theorem BoxE.drew {w : World} {g : Nat} {x : α} (h : BoxE E t w g x) : BoxE E t w.drew g x := h
theorem BoxE.store {W : World} {g : Nat} {x y : α} (h : BoxE E t W g x) : BoxE E t (W.setCells g 0 (E.enc y)) g y ∧ Kept (· = g) W (W.setCells g 0 (E.enc y)) := by
  obtain ⟨h1, h2⟩ := setCells_box (E.enc y) (E.enc x) g 0 W _ h (by simp [E.len])
  refine ⟨?_, h2⟩
  unfold BoxE
  rw [h1, List.take_zero, List.nil_append, List.drop_eq_nil_of_le (by simp [E.len]), List.append_nil]
/-- One cell of it. -/
theorem BoxE.put {W : World} {g k : Nat} {x y : α} (h : BoxE E t W g x) (u : Value) (hy : (E.enc x).set k u = E.enc y) : BoxE E t (W.setCell ⟨g, k, none⟩ u) g y := by
  have h1 := heap_setCell_same W g k _ _ u h
  unfold BoxE
  rw [h1, ← hy]
  simp
end

/-- Parts of what lies there. -/
theorem rangeAt_left {W : World} {b o : Nat} {xs ys : List Value} (h : W.rangeAt b o (xs ++ ys)) : W.rangeAt b o xs := fun j u hu => h j u (by
  have hj := (List.getElem?_eq_some_iff.1 hu).1
  rw [List.getElem?_append_left hj]
  exact hu)
theorem rangeAt_right {W : World} {b o : Nat} {xs ys : List Value} (h : W.rangeAt b o (xs ++ ys)) : W.rangeAt b (o + xs.length) ys := fun j u hu => by
  have := h (xs.length + j) u (by rw [List.getElem?_append_right (by omega), Nat.add_sub_cancel_left]; exact hu)
  rwa [← Nat.add_assoc] at this
theorem rangeAt_head {W : World} {b o : Nat} {x : Value} {ys : List Value} (h : W.rangeAt b o (x :: ys)) : W.cell? ⟨b, o, none⟩ = some x := h 0 x rfl
theorem rangeAt_tail {W : World} {b o : Nat} {x : Value} {ys : List Value} (h : W.rangeAt b o (x :: ys)) : W.rangeAt b (o + 1) ys := fun j u hu => by
  have := h (j + 1) u (by simpa using hu)
  rwa [show o + 1 + j = o + (j + 1) by omega]
/-- Laid over, a part. -/
def splice (off : Nat) (ys cs : List Value) : List Value := cs.take off ++ ys ++ cs.drop (off + ys.length)
theorem splice_length (off : Nat) (ys cs : List Value) (h : off + ys.length ≤ cs.length) : (splice off ys cs).length = cs.length := by simp [splice]; omega
theorem fold_zip : ∀ (ys : List Value) (k off : Nat) (cs : List Value), off + k + ys.length ≤ cs.length → (ys.zipIdx k).foldl (fun (a : Array Value) p => a.setIfInBounds (off + p.2) p.1) cs.toArray = (splice (off + k) ys cs).toArray := by
  intro ys
  induction ys with
  | nil => intro k off cs _; simp [splice]
  | cons y ys ih =>
    intro k off cs h
    simp only [List.length_cons] at h
    rw [List.zipIdx_cons, List.foldl_cons]
    simp only [List.setIfInBounds_toArray]
    rw [ih (k + 1) off _ (by simp; omega)]
    congr 1
    unfold splice
    have hk : off + k < cs.length := by omega
    rw [← Nat.add_assoc, List.take_add_one, List.take_set_of_le (Nat.le_refl _), List.getElem?_set_self hk, List.drop_set_of_lt (by omega)]
    simp [Nat.add_assoc, Nat.add_comm 1]
theorem fold_cells (ys : List Value) (off : Nat) (cs : List Value) (h : off + ys.length ≤ cs.length) : ys.toArray.zipIdx.foldl (fun (a : Array Value) p => a.setIfInBounds (off + p.2) p.1) cs.toArray = (splice off ys cs).toArray := by
  have := fold_zip ys 0 off cs (by omega)
  rw [← Array.foldl_toList, Array.toList_zipIdx]
  simpa using this
theorem ofill_one (place : Nat → Option (Nat × Nat)) (cs : List Value) (i : Nat) (v : Value) (ys : List Value) (rest : List (Nat × Value)) (off size : Nat) (hp : place i = some (off, size)) (hv : v.cells = ys.toArray) (hs : ys.length = size) (hl : off + ys.length ≤ cs.length) :
    Instr.fill place cs.toArray ((i, v) :: rest) = Instr.fill place (splice off ys cs).toArray rest := by
  rw [Instr.fill, hp]
  simp only [hv]
  rw [if_neg (by simp; omega)]
  rw [← fold_cells ys off cs hl]
theorem ofill_none (place : Nat → Option (Nat × Nat)) (cs : List Value) : Instr.fill place cs.toArray [] = some cs.toArray := rfl
theorem run_build_struct {P : Program} {t : TypeId} {fields : Array Field} {z : Value} {places : Array (Nat × Nat)} (hu : P.underlying t = some (.struct fields)) (w : World) (hz : (zeroValue t).run P w = .ok z w)
    (hp : (fields.mapM fun f => do pure (f.offset, ← sizeOf f.type) : Sem (Array (Nat × Nat))).run P w = .ok places w) {parts : Array (Nat × Value)} {cells : Array Value} (hf : Instr.fill (places[·]?) z.cells parts.toList = some cells) :
    (Instr.build t parts).run P w = .ok (.agg cells) w := by
  unfold Instr.build
  simp only [Sem.run_bind, hz, Result.andThen_ok, run_underlying hu, hp, hf, Sem.run_pure]

theorem wpList_build_of {ops : Array Oper} {rest : List Oper} {o : Oper} {a : Act} {w : World} {Q : Exit → Act → World → Prop} (hg : o.guard = none) (t : TypeId) (ps : Array (Nat × Operand)) (ho : o.op = .build t ps) (qs : Array (Nat × Value)) (hq : ps.map (fun (i, x) => (i, a.eval x)) = qs) (v : Value) (hrun : (Instr.build t qs).run Tryz.prog w = .ok v w)
    (h : wpList Tryz.prog ops Q rest (a.put o.dst v) w) : wpList Tryz.prog ops Q (o :: rest) a w := by
  refine wpList_runTo hg _ rfl _ _ ?_ h
  subst hq
  show (execOp a.eval o).run Tryz.prog w = _
  unfold execOp
  simp only [ho, Sem.run_bind, hrun, Result.andThen_ok, Sem.run_pure]
theorem exec_build_of {o : Oper} {a : Act} {w : World} (t : TypeId) (ps : Array (Nat × Operand)) (ho : o.op = .build t ps) (qs : Array (Nat × Value)) (hq : ps.map (fun (i, x) => (i, a.eval x)) = qs) (v : Value) (hrun : (Instr.build t qs).run Tryz.prog w = .ok v w) : (execOp a.eval o).run Tryz.prog w = .ok (.value v) w := by
  subst hq
  unfold execOp
  simp only [ho, Sem.run_bind, hrun, Result.andThen_ok, Sem.run_pure]
theorem wpList_load_e {α : Type} {E : Elt α} {t : TypeId} {d : TypeDesc} (hu : Tryz.prog.underlying t = some d) (hd : d.isRow = true) (hi : (Tryz.prog.info? t).map (·.size) = some E.k) {ops : Array Oper} {rest : List Oper} {o : Oper} {a : Act} {w : World} {Q : Exit → Act → World → Prop} (hg : o.guard = none) (p : Operand) (ho : o.op = .load t p) {b off : Nat} (hp : a.eval p = .pointer (some ⟨b, off, none⟩)) {x : α} (hx : ElAt E w b off x)
    (h : wpList Tryz.prog ops Q rest (a.put o.dst (E.val x)) w) : wpList Tryz.prog ops Q (o :: rest) a w :=
  wpList_plain hg fun _ hK => wp_load_el hu hd hi ho hp hx (hK _ _ h)
theorem wpList_store_e {α : Type} {E : Elt α} {t : TypeId} (hi : (Tryz.prog.info? t).map (·.size) = some E.k) {ops : Array Oper} {rest : List Oper} {o : Oper} {a : Act} {w : World} {Q : Exit → Act → World → Prop} (hg : o.guard = none) (x y : Operand) (ho : o.op = .store t x y) {g : Nat} (hx : a.eval x = .pointer (some ⟨g, 0, none⟩)) {u v : α} (hbox : BoxE E t w g v) (hy : a.eval y = E.val u)
    (h : ∀ w', BoxE E t w' g u → Kept (· = g) w w' → wpList Tryz.prog ops Q rest (a.put o.dst undef) w') : wpList Tryz.prog ops Q (o :: rest) a w := by
  refine wpList_store_mid hg t x y ho g 0 (E.enc u).toArray hx hy (by simpa [E.len] using hbox.there) (by simpa [E.len] using hi) (all_oneCell_toArray (E.one u)) ?_
  exact h _ hbox.store.1 hbox.store.2
theorem ofill_two (place : Nat → Option (Nat × Nat)) (cs : List Value) (v1 v2 : Value) (i1 i2 : Nat) (ys1 ys2 : List Value) (o1 o2 s1 s2 : Nat) (h1 : place i1 = some (o1, s1)) (h2 : place i2 = some (o2, s2)) (e1 : v1.cells = ys1.toArray) (e2 : v2.cells = ys2.toArray) (l1 : ys1.length = s1) (l2 : ys2.length = s2) (b1 : o1 + ys1.length ≤ cs.length) (b2 : o2 + ys2.length ≤ cs.length) :
    Instr.fill place cs.toArray [(i1, v1), (i2, v2)] = some (splice o2 ys2 (splice o1 ys1 cs)).toArray := by
  rw [ofill_one place cs i1 v1 ys1 _ o1 s1 h1 e1 l1 b1, ofill_one place _ i2 v2 ys2 _ o2 s2 h2 e2 l2 (by rw [splice_length _ _ _ b1]; exact b2), ofill_none]
theorem ofill_three (place : Nat → Option (Nat × Nat)) (cs : List Value) (v1 v2 v3 : Value) (i1 i2 i3 : Nat) (ys1 ys2 ys3 : List Value) (o1 o2 o3 s1 s2 s3 : Nat) (h1 : place i1 = some (o1, s1)) (h2 : place i2 = some (o2, s2)) (h3 : place i3 = some (o3, s3)) (e1 : v1.cells = ys1.toArray) (e2 : v2.cells = ys2.toArray) (e3 : v3.cells = ys3.toArray) (l1 : ys1.length = s1) (l2 : ys2.length = s2) (l3 : ys3.length = s3) (b1 : o1 + ys1.length ≤ cs.length) (b2 : o2 + ys2.length ≤ cs.length) (b3 : o3 + ys3.length ≤ cs.length) :
    Instr.fill place cs.toArray [(i1, v1), (i2, v2), (i3, v3)] = some (splice o3 ys3 (splice o2 ys2 (splice o1 ys1 cs))).toArray := by
  rw [ofill_one place cs i1 v1 ys1 _ o1 s1 h1 e1 l1 b1, ofill_two place _ v2 v3 i2 i3 ys2 ys3 o2 o3 s2 s3 h2 h3 e2 e3 l2 l3 (by rw [splice_length _ _ _ b1]; exact b2) (by rw [splice_length _ _ _ b1]; exact b3)]
theorem ofill_four (place : Nat → Option (Nat × Nat)) (cs : List Value) (v1 v2 v3 v4 : Value) (i1 i2 i3 i4 : Nat) (ys1 ys2 ys3 ys4 : List Value) (o1 o2 o3 o4 s1 s2 s3 s4 : Nat) (h1 : place i1 = some (o1, s1)) (h2 : place i2 = some (o2, s2)) (h3 : place i3 = some (o3, s3)) (h4 : place i4 = some (o4, s4)) (e1 : v1.cells = ys1.toArray) (e2 : v2.cells = ys2.toArray) (e3 : v3.cells = ys3.toArray) (e4 : v4.cells = ys4.toArray) (l1 : ys1.length = s1) (l2 : ys2.length = s2) (l3 : ys3.length = s3) (l4 : ys4.length = s4) (b1 : o1 + ys1.length ≤ cs.length) (b2 : o2 + ys2.length ≤ cs.length) (b3 : o3 + ys3.length ≤ cs.length) (b4 : o4 + ys4.length ≤ cs.length) :
    Instr.fill place cs.toArray [(i1, v1), (i2, v2), (i3, v3), (i4, v4)] = some (splice o4 ys4 (splice o3 ys3 (splice o2 ys2 (splice o1 ys1 cs)))).toArray := by
  rw [ofill_one place cs i1 v1 ys1 _ o1 s1 h1 e1 l1 b1, ofill_three place _ v2 v3 v4 i2 i3 i4 ys2 ys3 ys4 o2 o3 o4 s2 s3 s4 h2 h3 h4 e2 e3 e4 l2 l3 l4 (by rw [splice_length _ _ _ b1]; exact b2) (by rw [splice_length _ _ _ b1]; exact b3) (by rw [splice_length _ _ _ b1]; exact b4)]
theorem wpList_alloc_e {α : Type} {E : Elt α} {t : TypeId} {z : α} (hz : ∀ w, (zeroValue t).run Tryz.prog w = .ok (E.val z) w) {ops : Array Oper} {rest : List Oper} {o : Oper} {a : Act} {w : World} {Q : Exit → Act → World → Prop} (hg : o.guard = none) (ho : o.op = .alloc t)
    (h : wpList Tryz.prog ops Q rest (a.put o.dst (.pointer (some ⟨w.heap.size, 0, none⟩))) (w.alloc (.cells (E.enc z).toArray t))) : wpList Tryz.prog ops Q (o :: rest) a w := by
  refine wpList_runTo hg _ rfl _ _ ?_ h
  unfold execOp
  simp [ho, Instr.alloc, hz, newVar, newRow, Value.cells]
theorem wp_store_e {α : Type} {E : Elt α} {t : TypeId} (hi : (Tryz.prog.info? t).map (·.size) = some E.k) {o : Oper} {a : Act} {w : World} {K : Act → World → Prop} {Q : Exit → Act → World → Prop} (x y : Operand) (ho : o.op = .store t x y) {g : Nat} (hx : a.eval x = .pointer (some ⟨g, 0, none⟩)) {u v : α} (hbox : BoxE E t w g v) (hy : a.eval y = E.val u)
    (h : ∀ w', BoxE E t w' g u → Kept (· = g) w w' → K (a.put o.dst undef) w') : o.wp Tryz.prog a w K Q := by
  refine wp_store_mid t x y ho g 0 (E.enc u).toArray hx hy (by simpa [E.len] using hbox.there) (by simpa [E.len] using hi) (all_oneCell_toArray (E.one u)) ?_
  exact h _ hbox.store.1 hbox.store.2
theorem results_e1 {α : Type} {E : Elt α} {t : TypeId} {d : TypeDesc} (hu : Tryz.prog.underlying t = some d) (hd : d.isRow = true) (hi : (Tryz.prog.info? t).map (·.size) = some E.k) {fn : Func} {s : Tmp} (h : fn.results = #[.cell s t]) (tmps : Array Value) {w : World} {g : Nat} {x : α} (ht : tmps.getD s undef = .pointer (some ⟨g, 0, none⟩)) (hb : BoxE E t w g x) :
    (results fn tmps).run Tryz.prog w = .ok (E.val x) w := by
  have hl := run_loadVar_mid (P := Tryz.prog) w g 0 t (E.enc x) d hb.at hu hd (by rw [hi, E.len x])
  rw [Array.getD_eq_getD_getElem?] at ht
  simp [results, h, ht, asAddr, hl]
theorem below_kept_new {w w' w'' : World} (hb : Below w.heap.size w w') (k : Kept (· = w.heap.size) w' w'') : Below w.heap.size w w'' :=
  hb.trans (k.below (fun j _ e => by subst e; exact Nat.le_refl _) hb.size)
theorem wpList_box_e {α : Type} {E : Elt α} {t : TypeId} {ops : Array Oper} {rest : List Oper} {o : Oper} {a : Act} {w : World} {Q : Exit → Act → World → Prop} (hg : o.guard = none) (p : Operand) (ho : o.op = .box t p) {x : α} (hp : a.eval p = E.val x)
    (h : ∀ w', BoxE E t w' w.heap.size x → Below w.heap.size w w' → wpList Tryz.prog ops Q rest (a.put o.dst (.pointer (some ⟨w.heap.size, 0, none⟩))) w') : wpList Tryz.prog ops Q (o :: rest) a w := by
  refine wpList_runTo hg _ rfl _ _ ?_ (h _ (BoxE.new w x) ((Below.refl _ w).alloc (Nat.le_refl _) _))
  unfold execOp
  simp [ho, hp, Instr.box, newVar, newRow, Value.cells]
end Go.Proofs.YtljihmbmjpcfaaaGreat
namespace Go.Proofs.YtljihmbmjpcfaaaGreat
open Go.RowKit Go.Shelf Go.Great
set_option maxRecDepth 100000

/-- A slice as a value. -/
structure Sl where
  A : Option Addr
  n : Nat
  c : Nat
abbrev Sl.v (s : Sl) : Value := .slice s.A s.n s.c
/-- A tree's entry. -/
structure En where
  nm : List UInt8
  kd : Int
  id : List UInt8
  h : id.length = 32
deriving DecidableEq
structure Lk where
  kd : Int
  id : List UInt8
  h : id.length = 32
deriving DecidableEq
/-- An object as a value. -/
structure Ob where
  kd : Int
  dv : Sl
  ev : Sl
  tree : List UInt8
  pv : Sl
  tg : Lk
  msg : List UInt8
  h : tree.length = 32
/-- A commit's body, a tag's. -/
structure Co where
  tree : List UInt8
  pv : Sl
  msg : List UInt8
  h : tree.length = 32
structure Tg where
  tg : Lk
  msg : List UInt8

def encE (x : En) : List Value := Str x.nm :: .int .i64 x.kd :: x.id.map B8
def encL (x : Lk) : List Value := .int .i64 x.kd :: x.id.map B8
def encO (o : Ob) : List Value := .int .i64 o.kd :: o.dv.v :: o.ev.v :: (o.tree.map B8 ++ (o.pv.v :: (encL o.tg ++ [Str o.msg])))
def encCo (o : Co) : List Value := o.tree.map B8 ++ [o.pv.v, Str o.msg]
def encTg (o : Tg) : List Value := encL o.tg ++ [Str o.msg]
theorem encL_length (x : Lk) : (encL x).length = 33 := by simp [encL, x.h]
theorem encL_one (x : Lk) : ∀ u ∈ encL x, u.oneCell' = true := by
  intro u hu
  rcases List.mem_cons.1 hu with rfl | hu
  · rfl
  · exact bs_oneCell _ u hu
def eEn : Elt En := ⟨encE, 34, by omega, fun x => by simp [encE, x.h], fun x u hu => by
  rcases List.mem_cons.1 hu with rfl | hu
  · rfl
  · rcases List.mem_cons.1 hu with rfl | hu
    · rfl
    · exact bs_oneCell _ u hu⟩
def eLk : Elt Lk := ⟨encL, 33, by omega, encL_length, encL_one⟩
def eOb : Elt Ob := ⟨encO, 70, by omega, fun o => by simp [encO, encL_length, o.h], fun o u hu => by
  simp only [encO, List.mem_cons, List.mem_append, List.not_mem_nil, or_false] at hu
  rcases hu with rfl | rfl | rfl | hu | rfl | hu | rfl
  · rfl
  · rfl
  · rfl
  · exact bs_oneCell _ u hu
  · rfl
  · exact encL_one _ u hu
  · rfl⟩
def eCo : Elt Co := ⟨encCo, 34, by omega, fun o => by simp [encCo, o.h], fun o u hu => by
  simp only [encCo, List.mem_cons, List.mem_append, List.not_mem_nil, or_false] at hu
  rcases hu with hu | rfl | rfl
  · exact bs_oneCell _ u hu
  · rfl
  · rfl⟩
def eTg : Elt Tg := ⟨encTg, 34, by omega, fun o => by simp [encTg, encL_length], fun o u hu => by
  simp only [encTg, List.mem_cons, List.mem_append, List.not_mem_nil, or_false] at hu
  rcases hu with hu | rfl
  · exact encL_one _ u hu
  · rfl⟩
abbrev EnV (x : En) : Value := .agg (encE x).toArray
abbrev LkV (x : Lk) : Value := .agg (encL x).toArray
abbrev ObV (o : Ob) : Value := .agg (encO o).toArray

section
variable {W : World} {b o : Nat}
theorem LkAt.kd {x : Lk} (h : ElAt eLk W b o x) : W.cell? ⟨b, o, none⟩ = some (.int .i64 x.kd) := rangeAt_head h
theorem LkAt.id {x : Lk} (h : ElAt eLk W b o x) : IdAt W b (o + 1) x.id := rangeAt_tail h
theorem EnAt.nm {x : En} (h : ElAt eEn W b o x) : W.cell? ⟨b, o, none⟩ = some (Str x.nm) := rangeAt_head h
theorem EnAt.kd {x : En} (h : ElAt eEn W b o x) : W.cell? ⟨b, o + 1, none⟩ = some (.int .i64 x.kd) := rangeAt_head (rangeAt_tail h)
theorem EnAt.id {x : En} (h : ElAt eEn W b o x) : IdAt W b (o + 2) x.id := rangeAt_tail (rangeAt_tail h)
theorem ObAt.kd {x : Ob} (h : ElAt eOb W b o x) : W.cell? ⟨b, o, none⟩ = some (.int .i64 x.kd) := rangeAt_head h
theorem ObAt.dv {x : Ob} (h : ElAt eOb W b o x) : W.cell? ⟨b, o + 1, none⟩ = some x.dv.v := rangeAt_head (rangeAt_tail h)
theorem ObAt.ev {x : Ob} (h : ElAt eOb W b o x) : W.cell? ⟨b, o + 2, none⟩ = some x.ev.v := rangeAt_head (rangeAt_tail (rangeAt_tail h))
theorem ObAt.behind {x : Ob} (h : ElAt eOb W b o x) : W.rangeAt b (o + 3) (x.tree.map B8 ++ (x.pv.v :: (encL x.tg ++ [Str x.msg]))) := rangeAt_tail (rangeAt_tail (rangeAt_tail h))
theorem ObAt.tree {x : Ob} (h : ElAt eOb W b o x) : IdAt W b (o + 3) x.tree := rangeAt_left (ObAt.behind h)
theorem ObAt.behind2 {x : Ob} (h : ElAt eOb W b o x) : W.rangeAt b (o + 35) (x.pv.v :: (encL x.tg ++ [Str x.msg])) := by
  have := rangeAt_right (ObAt.behind h)
  rwa [List.length_map, x.h, Nat.add_assoc] at this
theorem ObAt.pv {x : Ob} (h : ElAt eOb W b o x) : W.cell? ⟨b, o + 35, none⟩ = some x.pv.v := rangeAt_head (ObAt.behind2 h)
theorem ObAt.tg {x : Ob} (h : ElAt eOb W b o x) : ElAt eLk W b (o + 36) x.tg := rangeAt_left (rangeAt_tail (ObAt.behind2 h))
theorem ObAt.msg {x : Ob} (h : ElAt eOb W b o x) : W.cell? ⟨b, o + 69, none⟩ = some (Str x.msg) := by
  have := rangeAt_right (rangeAt_tail (ObAt.behind2 h))
  rw [encL_length] at this
  exact rangeAt_head this
theorem CoAt.tree {x : Co} (h : ElAt eCo W b o x) : IdAt W b o x.tree := rangeAt_left h
theorem CoAt.behind {x : Co} (h : ElAt eCo W b o x) : W.rangeAt b (o + 32) [x.pv.v, Str x.msg] := by
  have := rangeAt_right h
  rwa [List.length_map, x.h] at this
theorem CoAt.pv {x : Co} (h : ElAt eCo W b o x) : W.cell? ⟨b, o + 32, none⟩ = some x.pv.v := rangeAt_head (CoAt.behind h)
theorem CoAt.msg {x : Co} (h : ElAt eCo W b o x) : W.cell? ⟨b, o + 33, none⟩ = some (Str x.msg) := rangeAt_head (rangeAt_tail (CoAt.behind h))
theorem TgAt.tg {x : Tg} (h : ElAt eTg W b o x) : ElAt eLk W b o x.tg := rangeAt_left h
theorem TgAt.msg {x : Tg} (h : ElAt eTg W b o x) : W.cell? ⟨b, o + 33, none⟩ = some (Str x.msg) := by
  have := rangeAt_right h
  rw [encL_length] at this
  exact rangeAt_head this
end

theorem infoEntry : (Tryz.prog.info? 70).map (fun i => (i.zero, i.size, i.bytes)) = some (some (.agg (#[.string ⟨#[]⟩, .int .i64 0] ++ Array.replicate 32 (.int .u8 0))), 34, 56) := by kernel_rfl
theorem infoLink : (Tryz.prog.info? 28).map (fun i => (i.zero, i.size, i.bytes)) = some (some (.agg (#[.int .i64 0] ++ Array.replicate 32 (.int .u8 0))), 33, 40) := by kernel_rfl
theorem sizeOb : (Tryz.prog.info? 30).map (·.size) = some 70 := by kernel_rfl

theorem elEn : EltOf Tryz.prog eEn 70 23 := by
  obtain ⟨i0, hi, hz0, hz1, hz2⟩ := info_parts infoEntry
  refine ⟨Tryz.underlying23, ⟨i0, _, hi, hz0, by rw [hz1]; rfl, by omega, by simp [Value.cells, eEn], fun u hu => ?_⟩, ⟨_, Tryz.underlying70, rfl⟩⟩
  simp only [Value.cells, Array.toList_append, List.mem_append, Array.toList_replicate, List.mem_replicate] at hu
  rcases hu with hu | ⟨_, rfl⟩
  · simp at hu
    rcases hu with rfl | rfl <;> rfl
  · rfl
theorem elLk : EltOf Tryz.prog eLk 28 45 := by
  obtain ⟨i0, hi, hz0, hz1, hz2⟩ := info_parts infoLink
  refine ⟨Tryz.underlying45, ⟨i0, _, hi, hz0, by rw [hz1]; rfl, by omega, by simp [Value.cells, eLk], fun u hu => ?_⟩, ⟨_, Tryz.underlying28, rfl⟩⟩
  simp only [Value.cells, Array.toList_append, List.mem_append, Array.toList_replicate, List.mem_replicate] at hu
  rcases hu with hu | ⟨_, rfl⟩
  · simp at hu
    subst hu
    rfl
  · rfl

/-- Builds. -/
def zeroI : List Value := List.replicate 32 (.int .u8 0)
def nilSl : Sl := ⟨none, 0, 0⟩
def zeroLk : Lk := ⟨0, zeroID, rfl⟩
def zeroOb : Ob := ⟨0, nilSl, nilSl, zeroID, nilSl, zeroLk, [], rfl⟩
def zeroEn : En := ⟨[], 0, zeroID, rfl⟩
theorem zeroOb_run (w : World) : (zeroValue 30).run Tryz.prog w = .ok (ObV zeroOb) w := by
  have h : (Tryz.prog.info? 30).map (·.zero) = some (some (ObV zeroOb)) := by kernel_rfl
  obtain ⟨i, hi, hz⟩ := Option.map_eq_some_iff.1 h
  simp [zeroValue, typeInfo, hi, hz]
theorem zeroEn_run (w : World) : (zeroValue 70).run Tryz.prog w = .ok (EnV zeroEn) w := by
  have h : (Tryz.prog.info? 70).map (·.zero) = some (some (EnV zeroEn)) := by kernel_rfl
  obtain ⟨i, hi, hz⟩ := Option.map_eq_some_iff.1 h
  simp [zeroValue, typeInfo, hi, hz]
theorem zeroLk_run (w : World) : (zeroValue 28).run Tryz.prog w = .ok (LkV zeroLk) w := by
  have h : (Tryz.prog.info? 28).map (·.zero) = some (some (LkV zeroLk)) := by kernel_rfl
  obtain ⟨i, hi, hz⟩ := Option.map_eq_some_iff.1 h
  simp [zeroValue, typeInfo, hi, hz]
def zeroCo : Co := ⟨zeroID, nilSl, [], rfl⟩
def zeroTg : Tg := ⟨zeroLk, []⟩
theorem zeroCo_run (w : World) : (zeroValue 168).run Tryz.prog w = .ok (.agg (encCo zeroCo).toArray) w := by
  have h : (Tryz.prog.info? 168).map (·.zero) = some (some (.agg (encCo zeroCo).toArray)) := by kernel_rfl
  obtain ⟨i, hi, hz⟩ := Option.map_eq_some_iff.1 h
  simp [zeroValue, typeInfo, hi, hz]
theorem zeroTg_run (w : World) : (zeroValue 171).run Tryz.prog w = .ok (.agg (encTg zeroTg).toArray) w := by
  have h : (Tryz.prog.info? 171).map (·.zero) = some (some (.agg (encTg zeroTg).toArray)) := by kernel_rfl
  obtain ⟨i, hi, hz⟩ := Option.map_eq_some_iff.1 h
  simp [zeroValue, typeInfo, hi, hz]
theorem sizeEn : (Tryz.prog.info? 70).map (·.size) = some eEn.k := by kernel_rfl
theorem sizeLk : (Tryz.prog.info? 28).map (·.size) = some eLk.k := by kernel_rfl
theorem sizeO : (Tryz.prog.info? 30).map (·.size) = some eOb.k := by kernel_rfl
end Go.Proofs.YtljihmbmjpcfaaaGreat
