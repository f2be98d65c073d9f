/- A variable that holds an element of some cells; structs that are built, loaded, stored. Objects, entries and links: as values, in memory, in variables. Objects, links and bodies, built. Entries, links held against one another. What an object has of its kind: ofKind. A list of one element, laid (any elements). -/
import Derived.Test.YtljihmbmjpcfaaaGreatElem
import Derived.Test.YtljihmbmjpcfaaaGreatBoxIdE
namespace Go.Proofs.YtljihmbmjpcfaaaGreat
open Go.RowKit Go.Shelf Go.Great
set_option maxRecDepth 100000

/-- A variable that holds an element. -/
def BoxE {α : Type} (E : Elt α) (t : TypeId) (W : World) (g : Nat) (x : α) : Prop := W.heap[g]? = some (.cells (E.enc x).toArray t (0, 0))
section
variable {α : Type} {E : Elt α} {t : TypeId}
theorem BoxE.lt {W : World} {g : Nat} {x : α} (h : BoxE E t W g x) : g < W.heap.size := (Array.getElem?_eq_some_iff.1 h).1
theorem BoxE.new (w : World) (x : α) : BoxE E t (w.alloc (.cells (E.enc x).toArray t)) w.heap.size x := heap_alloc_new w _
theorem BoxE.at {W : World} {g : Nat} {x : α} (h : BoxE E t W g x) : ElAt E W g 0 x := fun j u hu => by
  rw [Nat.zero_add]
  simp only [World.cell?, BoxE] at h ⊢
  rw [h]
  have hu' : (E.enc x)[j]? = some u := hu
  simpa using hu'
theorem BoxE.frozen {W : World} {g : Nat} {x : α} (h : BoxE E t W g x) (n : Nat) : W.frozen? ⟨g, n, none⟩ = false := frozen_of_row W g _ _ _ h
theorem BoxE.there {W : World} {g : Nat} {x : α} (h : BoxE E t W g x) : W.there g 0 E.k := fun j hj => by
  rw [Nat.zero_add]
  refine ⟨?_, h.frozen j⟩
  have hl := E.len x
  have := h.at j ((E.enc x)[j]) (List.getElem?_eq_getElem (by omega))
  rw [Nat.zero_add] at this
  rw [this]
  rfl
theorem BoxE.kept {T : Nat → Prop} {w w' : World} {g : Nat} {x : α} (h : BoxE E t w g x) (hk : Kept T w w') (hn : ¬ T g) : BoxE E t w' g x := (hk.block g h.lt hn).trans h
theorem BoxE.below {w w' : World} {g : Nat} {x : α} (h : BoxE E t w g x) (hb : Below w.heap.size w w') : BoxE E t w' g x := h.kept (Kept.of_below hb (Nat.le_refl _) (fun _ => False)) (fun h => h)
theorem BoxE.drew {w : World} {g : Nat} {x : α} (h : BoxE E t w g x) : BoxE E t w.drew g x := h
theorem BoxE.store {W : World} {g : Nat} {x y : α} (h : BoxE E t W g x) : BoxE E t (W.setCells g 0 (E.enc y)) g y ∧ Kept (· = g) W (W.setCells g 0 (E.enc y)) := by
  obtain ⟨h1, h2⟩ := setCells_box (E.enc y) (E.enc x) g 0 W _ h (by simp [E.len])
  refine ⟨?_, h2⟩
  unfold BoxE
  rw [h1, List.take_zero, List.nil_append, List.drop_eq_nil_of_le (by simp [E.len]), List.append_nil]
/-- One cell of it. -/
theorem BoxE.put {W : World} {g k : Nat} {x y : α} (h : BoxE E t W g x) (u : Value) (hy : (E.enc x).set k u = E.enc y) : BoxE E t (W.setCell ⟨g, k, none⟩ u) g y := by
  have h1 := heap_setCell_same W g k _ _ u h
  unfold BoxE
  rw [h1, ← hy]
  simp
end

/-- Parts of what lies there. -/
theorem rangeAt_left {W : World} {b o : Nat} {xs ys : List Value} (h : W.rangeAt b o (xs ++ ys)) : W.rangeAt b o xs := fun j u hu => h j u (by
  have hj := (List.getElem?_eq_some_iff.1 hu).1
  rw [List.getElem?_append_left hj]
  exact hu)
theorem rangeAt_right {W : World} {b o : Nat} {xs ys : List Value} (h : W.rangeAt b o (xs ++ ys)) : W.rangeAt b (o + xs.length) ys := fun j u hu => by
  have := h (xs.length + j) u (by rw [List.getElem?_append_right (by omega), Nat.add_sub_cancel_left]; exact hu)
  rwa [← Nat.add_assoc] at this
theorem rangeAt_head {W : World} {b o : Nat} {x : Value} {ys : List Value} (h : W.rangeAt b o (x :: ys)) : W.cell? ⟨b, o, none⟩ = some x := h 0 x rfl
theorem rangeAt_tail {W : World} {b o : Nat} {x : Value} {ys : List Value} (h : W.rangeAt b o (x :: ys)) : W.rangeAt b (o + 1) ys := fun j u hu => by
  have := h (j + 1) u (by simpa using hu)
  rwa [show o + 1 + j = o + (j + 1) by omega]
/-- Laid over, a part. -/
def splice (off : Nat) (ys cs : List Value) : List Value := cs.take off ++ ys ++ cs.drop (off + ys.length)
theorem splice_length (off : Nat) (ys cs : List Value) (h : off + ys.length ≤ cs.length) : (splice off ys cs).length = cs.length := by simp [splice]; omega
theorem fold_zip : ∀ (ys : List Value) (k off : Nat) (cs : List Value), off + k + ys.length ≤ cs.length → (ys.zipIdx k).foldl (fun (a : Array Value) p => a.setIfInBounds (off + p.2) p.1) cs.toArray = (splice (off + k) ys cs).toArray := by
  intro ys
  induction ys with
  | nil => intro k off cs _; simp [splice]
  | cons y ys ih =>
    intro k off cs h
    simp only [List.length_cons] at h
    rw [List.zipIdx_cons, List.foldl_cons]
    simp only [List.setIfInBounds_toArray]
    rw [ih (k + 1) off _ (by simp; omega)]
    congr 1
    unfold splice
    have hk : off + k < cs.length := by omega
    rw [← Nat.add_assoc, List.take_add_one, List.take_set_of_le (Nat.le_refl _), List.getElem?_set_self hk, List.drop_set_of_lt (by omega)]
    simp [Nat.add_assoc, Nat.add_comm 1]
theorem fold_cells (ys : List Value) (off : Nat) (cs : List Value) (h : off + ys.length ≤ cs.length) : ys.toArray.zipIdx.foldl (fun (a : Array Value) p => a.setIfInBounds (off + p.2) p.1) cs.toArray = (splice off ys cs).toArray := by
  have := fold_zip ys 0 off cs (by omega)
  rw [← Array.foldl_toList, Array.toList_zipIdx]
  simpa using this
theorem ofill_one (place : Nat → Option (Nat × Nat)) (cs : List Value) (i : Nat) (v : Value) (ys : List Value) (rest : List (Nat × Value)) (off size : Nat) (hp : place i = some (off, size)) (hv : v.cells = ys.toArray) (hs : ys.length = size) (hl : off + ys.length ≤ cs.length) :
    Instr.fill place cs.toArray ((i, v) :: rest) = Instr.fill place (splice off ys cs).toArray rest := by
  rw [Instr.fill, hp]
  simp only [hv]
  rw [if_neg (by simp; omega)]
  rw [← fold_cells ys off cs hl]
theorem ofill_none (place : Nat → Option (Nat × Nat)) (cs : List Value) : Instr.fill place cs.toArray [] = some cs.toArray := rfl
theorem run_build_struct {P : Program} {t : TypeId} {fields : Array Field} {z : Value} {places : Array (Nat × Nat)} (hu : P.underlying t = some (.struct fields)) (w : World) (hz : (zeroValue t).run P w = .ok z w)
    (hp : (fields.mapM fun f => do pure (f.offset, ← sizeOf f.type) : Sem (Array (Nat × Nat))).run P w = .ok places w) {parts : Array (Nat × Value)} {cells : Array Value} (hf : Instr.fill (places[·]?) z.cells parts.toList = some cells) :
    (Instr.build t parts).run P w = .ok (.agg cells) w := by
  unfold Instr.build
  simp only [Sem.run_bind, hz, Result.andThen_ok, run_underlying hu, hp, hf, Sem.run_pure]

theorem wpList_build_of {ops : Array Oper} {rest : List Oper} {o : Oper} {a : Act} {w : World} {Q : Exit → Act → World → Prop} (hg : o.guard = none) (t : TypeId) (ps : Array (Nat × Operand)) (ho : o.op = .build t ps) (qs : Array (Nat × Value)) (hq : ps.map (fun (i, x) => (i, a.eval x)) = qs) (v : Value) (hrun : (Instr.build t qs).run Tryz.prog w = .ok v w)
    (h : wpList Tryz.prog ops Q rest (a.put o.dst v) w) : wpList Tryz.prog ops Q (o :: rest) a w := by
  refine wpList_runTo hg _ rfl _ _ ?_ h
  subst hq
  show (execOp a.eval o).run Tryz.prog w = _
  unfold execOp
  simp only [ho, Sem.run_bind, hrun, Result.andThen_ok, Sem.run_pure]
theorem exec_build_of {o : Oper} {a : Act} {w : World} (t : TypeId) (ps : Array (Nat × Operand)) (ho : o.op = .build t ps) (qs : Array (Nat × Value)) (hq : ps.map (fun (i, x) => (i, a.eval x)) = qs) (v : Value) (hrun : (Instr.build t qs).run Tryz.prog w = .ok v w) : (execOp a.eval o).run Tryz.prog w = .ok (.value v) w := by
  subst hq
  unfold execOp
  simp only [ho, Sem.run_bind, hrun, Result.andThen_ok, Sem.run_pure]
theorem wpList_load_e {α : Type} {E : Elt α} {t : TypeId} {d : TypeDesc} (hu : Tryz.prog.underlying t = some d) (hd : d.isRow = true) (hi : (Tryz.prog.info? t).map (·.size) = some E.k) {ops : Array Oper} {rest : List Oper} {o : Oper} {a : Act} {w : World} {Q : Exit → Act → World → Prop} (hg : o.guard = none) (p : Operand) (ho : o.op = .load t p) {b off : Nat} (hp : a.eval p = .pointer (some ⟨b, off, none⟩)) {x : α} (hx : ElAt E w b off x)
    (h : wpList Tryz.prog ops Q rest (a.put o.dst (E.val x)) w) : wpList Tryz.prog ops Q (o :: rest) a w :=
  wpList_plain hg fun _ hK => wp_load_el hu hd hi ho hp hx (hK _ _ h)
theorem wpList_store_e {α : Type} {E : Elt α} {t : TypeId} (hi : (Tryz.prog.info? t).map (·.size) = some E.k) {ops : Array Oper} {rest : List Oper} {o : Oper} {a : Act} {w : World} {Q : Exit → Act → World → Prop} (hg : o.guard = none) (x y : Operand) (ho : o.op = .store t x y) {g : Nat} (hx : a.eval x = .pointer (some ⟨g, 0, none⟩)) {u v : α} (hbox : BoxE E t w g v) (hy : a.eval y = E.val u)
    (h : ∀ w', BoxE E t w' g u → Kept (· = g) w w' → wpList Tryz.prog ops Q rest (a.put o.dst undef) w') : wpList Tryz.prog ops Q (o :: rest) a w := by
  refine wpList_store_mid hg t x y ho g 0 (E.enc u).toArray hx hy (by simpa [E.len] using hbox.there) (by simpa [E.len] using hi) (all_oneCell_toArray (E.one u)) ?_
  exact h _ hbox.store.1 hbox.store.2
theorem ofill_two (place : Nat → Option (Nat × Nat)) (cs : List Value) (v1 v2 : Value) (i1 i2 : Nat) (ys1 ys2 : List Value) (o1 o2 s1 s2 : Nat) (h1 : place i1 = some (o1, s1)) (h2 : place i2 = some (o2, s2)) (e1 : v1.cells = ys1.toArray) (e2 : v2.cells = ys2.toArray) (l1 : ys1.length = s1) (l2 : ys2.length = s2) (b1 : o1 + ys1.length ≤ cs.length) (b2 : o2 + ys2.length ≤ cs.length) :
    Instr.fill place cs.toArray [(i1, v1), (i2, v2)] = some (splice o2 ys2 (splice o1 ys1 cs)).toArray := by
  rw [ofill_one place cs i1 v1 ys1 _ o1 s1 h1 e1 l1 b1, ofill_one place _ i2 v2 ys2 _ o2 s2 h2 e2 l2 (by rw [splice_length _ _ _ b1]; exact b2), ofill_none]
theorem ofill_three (place : Nat → Option (Nat × Nat)) (cs : List Value) (v1 v2 v3 : Value) (i1 i2 i3 : Nat) (ys1 ys2 ys3 : List Value) (o1 o2 o3 s1 s2 s3 : Nat) (h1 : place i1 = some (o1, s1)) (h2 : place i2 = some (o2, s2)) (h3 : place i3 = some (o3, s3)) (e1 : v1.cells = ys1.toArray) (e2 : v2.cells = ys2.toArray) (e3 : v3.cells = ys3.toArray) (l1 : ys1.length = s1) (l2 : ys2.length = s2) (l3 : ys3.length = s3) (b1 : o1 + ys1.length ≤ cs.length) (b2 : o2 + ys2.length ≤ cs.length) (b3 : o3 + ys3.length ≤ cs.length) :
    Instr.fill place cs.toArray [(i1, v1), (i2, v2), (i3, v3)] = some (splice o3 ys3 (splice o2 ys2 (splice o1 ys1 cs))).toArray := by
  rw [ofill_one place cs i1 v1 ys1 _ o1 s1 h1 e1 l1 b1, ofill_two place _ v2 v3 i2 i3 ys2 ys3 o2 o3 s2 s3 h2 h3 e2 e3 l2 l3 (by rw [splice_length _ _ _ b1]; exact b2) (by rw [splice_length _ _ _ b1]; exact b3)]
theorem ofill_four (place : Nat → Option (Nat × Nat)) (cs : List Value) (v1 v2 v3 v4 : Value) (i1 i2 i3 i4 : Nat) (ys1 ys2 ys3 ys4 : List Value) (o1 o2 o3 o4 s1 s2 s3 s4 : Nat) (h1 : place i1 = some (o1, s1)) (h2 : place i2 = some (o2, s2)) (h3 : place i3 = some (o3, s3)) (h4 : place i4 = some (o4, s4)) (e1 : v1.cells = ys1.toArray) (e2 : v2.cells = ys2.toArray) (e3 : v3.cells = ys3.toArray) (e4 : v4.cells = ys4.toArray) (l1 : ys1.length = s1) (l2 : ys2.length = s2) (l3 : ys3.length = s3) (l4 : ys4.length = s4) (b1 : o1 + ys1.length ≤ cs.length) (b2 : o2 + ys2.length ≤ cs.length) (b3 : o3 + ys3.length ≤ cs.length) (b4 : o4 + ys4.length ≤ cs.length) :
    Instr.fill place cs.toArray [(i1, v1), (i2, v2), (i3, v3), (i4, v4)] = some (splice o4 ys4 (splice o3 ys3 (splice o2 ys2 (splice o1 ys1 cs)))).toArray := by
  rw [ofill_one place cs i1 v1 ys1 _ o1 s1 h1 e1 l1 b1, ofill_three place _ v2 v3 v4 i2 i3 i4 ys2 ys3 ys4 o2 o3 o4 s2 s3 s4 h2 h3 h4 e2 e3 e4 l2 l3 l4 (by rw [splice_length _ _ _ b1]; exact b2) (by rw [splice_length _ _ _ b1]; exact b3) (by rw [splice_length _ _ _ b1]; exact b4)]
theorem wpList_alloc_e {α : Type} {E : Elt α} {t : TypeId} {z : α} (hz : ∀ w, (zeroValue t).run Tryz.prog w = .ok (E.val z) w) {ops : Array Oper} {rest : List Oper} {o : Oper} {a : Act} {w : World} {Q : Exit → Act → World → Prop} (hg : o.guard = none) (ho : o.op = .alloc t)
    (h : wpList Tryz.prog ops Q rest (a.put o.dst (.pointer (some ⟨w.heap.size, 0, none⟩))) (w.alloc (.cells (E.enc z).toArray t))) : wpList Tryz.prog ops Q (o :: rest) a w := by
  refine wpList_runTo hg _ rfl _ _ ?_ h
  unfold execOp
  simp [ho, Instr.alloc, hz, newVar, newRow, Value.cells]
theorem wp_store_e {α : Type} {E : Elt α} {t : TypeId} (hi : (Tryz.prog.info? t).map (·.size) = some E.k) {o : Oper} {a : Act} {w : World} {K : Act → World → Prop} {Q : Exit → Act → World → Prop} (x y : Operand) (ho : o.op = .store t x y) {g : Nat} (hx : a.eval x = .pointer (some ⟨g, 0, none⟩)) {u v : α} (hbox : BoxE E t w g v) (hy : a.eval y = E.val u)
    (h : ∀ w', BoxE E t w' g u → Kept (· = g) w w' → K (a.put o.dst undef) w') : o.wp Tryz.prog a w K Q := by
  refine wp_store_mid t x y ho g 0 (E.enc u).toArray hx hy (by simpa [E.len] using hbox.there) (by simpa [E.len] using hi) (all_oneCell_toArray (E.one u)) ?_
  exact h _ hbox.store.1 hbox.store.2
theorem results_e1 {α : Type} {E : Elt α} {t : TypeId} {d : TypeDesc} (hu : Tryz.prog.underlying t = some d) (hd : d.isRow = true) (hi : (Tryz.prog.info? t).map (·.size) = some E.k) {fn : Func} {s : Tmp} (h : fn.results = #[.cell s t]) (tmps : Array Value) {w : World} {g : Nat} {x : α} (ht : tmps.getD s undef = .pointer (some ⟨g, 0, none⟩)) (hb : BoxE E t w g x) :
    (results fn tmps).run Tryz.prog w = .ok (E.val x) w := by
  have hl := run_loadVar_mid (P := Tryz.prog) w g 0 t (E.enc x) d hb.at hu hd (by rw [hi, E.len x])
  rw [Array.getD_eq_getD_getElem?] at ht
  simp [results, h, ht, asAddr, hl]
theorem below_kept_new {w w' w'' : World} (hb : Below w.heap.size w w') (k : Kept (· = w.heap.size) w' w'') : Below w.heap.size w w'' :=
  hb.trans (k.below (fun j _ e => by subst e; exact Nat.le_refl _) hb.size)
theorem wpList_box_e {α : Type} {E : Elt α} {t : TypeId} {ops : Array Oper} {rest : List Oper} {o : Oper} {a : Act} {w : World} {Q : Exit → Act → World → Prop} (hg : o.guard = none) (p : Operand) (ho : o.op = .box t p) {x : α} (hp : a.eval p = E.val x)
    (h : ∀ w', BoxE E t w' w.heap.size x → Below w.heap.size w w' → wpList Tryz.prog ops Q rest (a.put o.dst (.pointer (some ⟨w.heap.size, 0, none⟩))) w') : wpList Tryz.prog ops Q (o :: rest) a w := by
  refine wpList_runTo hg _ rfl _ _ ?_ (h _ (BoxE.new w x) ((Below.refl _ w).alloc (Nat.le_refl _) _))
  unfold execOp
  simp [ho, hp, Instr.box, newVar, newRow, Value.cells]
end Go.Proofs.YtljihmbmjpcfaaaGreat
namespace Go.Proofs.YtljihmbmjpcfaaaGreat
open Go.RowKit Go.Shelf Go.Great
set_option maxRecDepth 100000

/-- A slice as a value. -/
structure Sl where
  A : Option Addr
  n : Nat
  c : Nat
abbrev Sl.v (s : Sl) : Value := .slice s.A s.n s.c
/-- A tree's entry. -/
structure En where
  nm : List UInt8
  kd : Int
  id : List UInt8
  h : id.length = 32
deriving DecidableEq
structure Lk where
  kd : Int
  id : List UInt8
  h : id.length = 32
deriving DecidableEq
/-- An object as a value. -/
structure Ob where
  kd : Int
  dv : Sl
  ev : Sl
  tree : List UInt8
  pv : Sl
  tg : Lk
  msg : List UInt8
  h : tree.length = 32
/-- A commit's body, a tag's. -/
structure Co where
  tree : List UInt8
  pv : Sl
  msg : List UInt8
  h : tree.length = 32
structure Tg where
  tg : Lk
  msg : List UInt8

def encE (x : En) : List Value := Str x.nm :: .int .i64 x.kd :: x.id.map B8
def encL (x : Lk) : List Value := .int .i64 x.kd :: x.id.map B8
def encO (o : Ob) : List Value := .int .i64 o.kd :: o.dv.v :: o.ev.v :: (o.tree.map B8 ++ (o.pv.v :: (encL o.tg ++ [Str o.msg])))
def encCo (o : Co) : List Value := o.tree.map B8 ++ [o.pv.v, Str o.msg]
def encTg (o : Tg) : List Value := encL o.tg ++ [Str o.msg]
theorem encL_length (x : Lk) : (encL x).length = 33 := by simp [encL, x.h]
theorem encL_one (x : Lk) : ∀ u ∈ encL x, u.oneCell' = true := by
  intro u hu
  rcases List.mem_cons.1 hu with rfl | hu
  · rfl
  · exact bs_oneCell _ u hu
def eEn : Elt En := ⟨encE, 34, by omega, fun x => by simp [encE, x.h], fun x u hu => by
  rcases List.mem_cons.1 hu with rfl | hu
  · rfl
  · rcases List.mem_cons.1 hu with rfl | hu
    · rfl
    · exact bs_oneCell _ u hu⟩
def eLk : Elt Lk := ⟨encL, 33, by omega, encL_length, encL_one⟩
def eOb : Elt Ob := ⟨encO, 70, by omega, fun o => by simp [encO, encL_length, o.h], fun o u hu => by
  simp only [encO, List.mem_cons, List.mem_append, List.not_mem_nil, or_false] at hu
  rcases hu with rfl | rfl | rfl | hu | rfl | hu | rfl
  · rfl
  · rfl
  · rfl
  · exact bs_oneCell _ u hu
  · rfl
  · exact encL_one _ u hu
  · rfl⟩
def eCo : Elt Co := ⟨encCo, 34, by omega, fun o => by simp [encCo, o.h], fun o u hu => by
  simp only [encCo, List.mem_cons, List.mem_append, List.not_mem_nil, or_false] at hu
  rcases hu with hu | rfl | rfl
  · exact bs_oneCell _ u hu
  · rfl
  · rfl⟩
def eTg : Elt Tg := ⟨encTg, 34, by omega, fun o => by simp [encTg, encL_length], fun o u hu => by
  simp only [encTg, List.mem_cons, List.mem_append, List.not_mem_nil, or_false] at hu
  rcases hu with hu | rfl
  · exact encL_one _ u hu
  · rfl⟩
abbrev EnV (x : En) : Value := .agg (encE x).toArray
abbrev LkV (x : Lk) : Value := .agg (encL x).toArray
abbrev ObV (o : Ob) : Value := .agg (encO o).toArray

section
variable {W : World} {b o : Nat}
theorem LkAt.kd {x : Lk} (h : ElAt eLk W b o x) : W.cell? ⟨b, o, none⟩ = some (.int .i64 x.kd) := rangeAt_head h
theorem LkAt.id {x : Lk} (h : ElAt eLk W b o x) : IdAt W b (o + 1) x.id := rangeAt_tail h
theorem EnAt.nm {x : En} (h : ElAt eEn W b o x) : W.cell? ⟨b, o, none⟩ = some (Str x.nm) := rangeAt_head h
theorem EnAt.kd {x : En} (h : ElAt eEn W b o x) : W.cell? ⟨b, o + 1, none⟩ = some (.int .i64 x.kd) := rangeAt_head (rangeAt_tail h)
theorem EnAt.id {x : En} (h : ElAt eEn W b o x) : IdAt W b (o + 2) x.id := rangeAt_tail (rangeAt_tail h)
theorem ObAt.kd {x : Ob} (h : ElAt eOb W b o x) : W.cell? ⟨b, o, none⟩ = some (.int .i64 x.kd) := rangeAt_head h
theorem ObAt.dv {x : Ob} (h : ElAt eOb W b o x) : W.cell? ⟨b, o + 1, none⟩ = some x.dv.v := rangeAt_head (rangeAt_tail h)
theorem ObAt.ev {x : Ob} (h : ElAt eOb W b o x) : W.cell? ⟨b, o + 2, none⟩ = some x.ev.v := rangeAt_head (rangeAt_tail (rangeAt_tail h))
theorem ObAt.behind {x : Ob} (h : ElAt eOb W b o x) : W.rangeAt b (o + 3) (x.tree.map B8 ++ (x.pv.v :: (encL x.tg ++ [Str x.msg]))) := rangeAt_tail (rangeAt_tail (rangeAt_tail h))
theorem ObAt.tree {x : Ob} (h : ElAt eOb W b o x) : IdAt W b (o + 3) x.tree := rangeAt_left (ObAt.behind h)
theorem ObAt.behind2 {x : Ob} (h : ElAt eOb W b o x) : W.rangeAt b (o + 35) (x.pv.v :: (encL x.tg ++ [Str x.msg])) := by
  have := rangeAt_right (ObAt.behind h)
  rwa [List.length_map, x.h, Nat.add_assoc] at this
theorem ObAt.pv {x : Ob} (h : ElAt eOb W b o x) : W.cell? ⟨b, o + 35, none⟩ = some x.pv.v := rangeAt_head (ObAt.behind2 h)
theorem ObAt.tg {x : Ob} (h : ElAt eOb W b o x) : ElAt eLk W b (o + 36) x.tg := rangeAt_left (rangeAt_tail (ObAt.behind2 h))
theorem ObAt.msg {x : Ob} (h : ElAt eOb W b o x) : W.cell? ⟨b, o + 69, none⟩ = some (Str x.msg) := by
  have := rangeAt_right (rangeAt_tail (ObAt.behind2 h))
  rw [encL_length] at this
  exact rangeAt_head this
theorem CoAt.tree {x : Co} (h : ElAt eCo W b o x) : IdAt W b o x.tree := rangeAt_left h
theorem CoAt.behind {x : Co} (h : ElAt eCo W b o x) : W.rangeAt b (o + 32) [x.pv.v, Str x.msg] := by
  have := rangeAt_right h
  rwa [List.length_map, x.h] at this
theorem CoAt.pv {x : Co} (h : ElAt eCo W b o x) : W.cell? ⟨b, o + 32, none⟩ = some x.pv.v := rangeAt_head (CoAt.behind h)
theorem CoAt.msg {x : Co} (h : ElAt eCo W b o x) : W.cell? ⟨b, o + 33, none⟩ = some (Str x.msg) := rangeAt_head (rangeAt_tail (CoAt.behind h))
theorem TgAt.tg {x : Tg} (h : ElAt eTg W b o x) : ElAt eLk W b o x.tg := rangeAt_left h
theorem TgAt.msg {x : Tg} (h : ElAt eTg W b o x) : W.cell? ⟨b, o + 33, none⟩ = some (Str x.msg) := by
  have := rangeAt_right h
  rw [encL_length] at this
  exact rangeAt_head this
end

theorem infoEntry : (Tryz.prog.info? 70).map (fun i => (i.zero, i.size, i.bytes)) = some (some (.agg (#[.string ⟨#[]⟩, .int .i64 0] ++ Array.replicate 32 (.int .u8 0))), 34, 56) := by kernel_rfl
theorem infoLink : (Tryz.prog.info? 28).map (fun i => (i.zero, i.size, i.bytes)) = some (some (.agg (#[.int .i64 0] ++ Array.replicate 32 (.int .u8 0))), 33, 40) := by kernel_rfl
theorem sizeOb : (Tryz.prog.info? 30).map (·.size) = some 70 := by kernel_rfl

theorem elEn : EltOf Tryz.prog eEn 70 23 := by
  obtain ⟨i0, hi, hz0, hz1, hz2⟩ := info_parts infoEntry
  refine ⟨Tryz.underlying23, ⟨i0, _, hi, hz0, by rw [hz1]; rfl, by omega, by simp [Value.cells, eEn], fun u hu => ?_⟩, ⟨_, Tryz.underlying70, rfl⟩⟩
  simp only [Value.cells, Array.toList_append, List.mem_append, Array.toList_replicate, List.mem_replicate] at hu
  rcases hu with hu | ⟨_, rfl⟩
  · simp at hu
    rcases hu with rfl | rfl <;> rfl
  · rfl
theorem elLk : EltOf Tryz.prog eLk 28 45 := by
  obtain ⟨i0, hi, hz0, hz1, hz2⟩ := info_parts infoLink
  refine ⟨Tryz.underlying45, ⟨i0, _, hi, hz0, by rw [hz1]; rfl, by omega, by simp [Value.cells, eLk], fun u hu => ?_⟩, ⟨_, Tryz.underlying28, rfl⟩⟩
  simp only [Value.cells, Array.toList_append, List.mem_append, Array.toList_replicate, List.mem_replicate] at hu
  rcases hu with hu | ⟨_, rfl⟩
  · simp at hu
    subst hu
    rfl
  · rfl

/-- Builds. -/
def zeroI : List Value := List.replicate 32 (.int .u8 0)
def nilSl : Sl := ⟨none, 0, 0⟩
def zeroLk : Lk := ⟨0, zeroID, rfl⟩
def zeroOb : Ob := ⟨0, nilSl, nilSl, zeroID, nilSl, zeroLk, [], rfl⟩
def zeroEn : En := ⟨[], 0, zeroID, rfl⟩
theorem zeroOb_run (w : World) : (zeroValue 30).run Tryz.prog w = .ok (ObV zeroOb) w := by
  have h : (Tryz.prog.info? 30).map (·.zero) = some (some (ObV zeroOb)) := by kernel_rfl
  obtain ⟨i, hi, hz⟩ := Option.map_eq_some_iff.1 h
  simp [zeroValue, typeInfo, hi, hz]
theorem zeroEn_run (w : World) : (zeroValue 70).run Tryz.prog w = .ok (EnV zeroEn) w := by
  have h : (Tryz.prog.info? 70).map (·.zero) = some (some (EnV zeroEn)) := by kernel_rfl
  obtain ⟨i, hi, hz⟩ := Option.map_eq_some_iff.1 h
  simp [zeroValue, typeInfo, hi, hz]
theorem zeroLk_run (w : World) : (zeroValue 28).run Tryz.prog w = .ok (LkV zeroLk) w := by
  have h : (Tryz.prog.info? 28).map (·.zero) = some (some (LkV zeroLk)) := by kernel_rfl
  obtain ⟨i, hi, hz⟩ := Option.map_eq_some_iff.1 h
  simp [zeroValue, typeInfo, hi, hz]
def zeroCo : Co := ⟨zeroID, nilSl, [], rfl⟩
def zeroTg : Tg := ⟨zeroLk, []⟩
theorem zeroCo_run (w : World) : (zeroValue 168).run Tryz.prog w = .ok (.agg (encCo zeroCo).toArray) w := by
  have h : (Tryz.prog.info? 168).map (·.zero) = some (some (.agg (encCo zeroCo).toArray)) := by kernel_rfl
  obtain ⟨i, hi, hz⟩ := Option.map_eq_some_iff.1 h
  simp [zeroValue, typeInfo, hi, hz]
theorem zeroTg_run (w : World) : (zeroValue 171).run Tryz.prog w = .ok (.agg (encTg zeroTg).toArray) w := by
  have h : (Tryz.prog.info? 171).map (·.zero) = some (some (.agg (encTg zeroTg).toArray)) := by kernel_rfl
  obtain ⟨i, hi, hz⟩ := Option.map_eq_some_iff.1 h
  simp [zeroValue, typeInfo, hi, hz]
theorem sizeEn : (Tryz.prog.info? 70).map (·.size) = some eEn.k := by kernel_rfl
theorem sizeLk : (Tryz.prog.info? 28).map (·.size) = some eLk.k := by kernel_rfl
theorem sizeO : (Tryz.prog.info? 30).map (·.size) = some eOb.k := by kernel_rfl
end Go.Proofs.YtljihmbmjpcfaaaGreat
namespace Go.Proofs.YtljihmbmjpcfaaaGreat
open Go.RowKit Go.Shelf Go.Great
set_option maxRecDepth 100000

theorem splice_in (off : Nat) (ys xs zs us : List Value) (h1 : xs.length = off) (h2 : zs.length = ys.length) : splice off ys (xs ++ zs ++ us) = xs ++ ys ++ us := by
  subst h1
  unfold splice
  rw [List.append_assoc xs zs us, List.take_left, ← h2, ← List.drop_drop, List.drop_left, List.drop_left]
theorem build_co (w : World) (x : Co) : (Instr.build 168 #[(0, IdV x.tree), (1, x.pv.v), (2, Str x.msg)]).run Tryz.prog w = .ok (eCo.val x) w := by
  refine run_build_struct (places := #[(0, 32), (32, 1), (33, 1)]) Tryz.underlying168 w (zeroCo_run w) (by first | kernel_rfl | rfl) ?_
  show Instr.fill _ (encCo zeroCo).toArray [(0, IdV x.tree), (1, x.pv.v), (2, Str x.msg)] = some (encCo x).toArray
  rw [ofill_three _ _ _ _ _ _ _ _ (x.tree.map B8) [x.pv.v] [Str x.msg] 0 32 33 32 1 1 rfl rfl rfl rfl rfl rfl (by simp [x.h]) rfl rfl (by simp [x.h, encCo, zeroCo, zeroID]) (by simp [encCo, zeroCo, zeroID]) (by simp [encCo, zeroCo, zeroID])]
  have e1 : splice 0 (x.tree.map B8) (encCo zeroCo) = x.tree.map B8 ++ [nilSl.v, Str []] := splice_in 0 (x.tree.map B8) [] (zeroID.map B8) _ rfl (by simp [x.h]; rfl)
  have e3 : splice 32 [x.pv.v] (x.tree.map B8 ++ [nilSl.v, Str []]) = x.tree.map B8 ++ [x.pv.v] ++ [Str []] := by
    rw [show x.tree.map B8 ++ [nilSl.v, Str []] = x.tree.map B8 ++ [nilSl.v] ++ [Str []] by simp]
    exact splice_in 32 [x.pv.v] (x.tree.map B8) [nilSl.v] [Str []] (by simp [x.h]) rfl
  rw [e1, e3]
  have e2 := splice_in 33 [Str x.msg] (x.tree.map B8 ++ [x.pv.v]) [Str []] [] (by simp [x.h]) rfl
  rw [List.append_nil, List.append_nil] at e2
  rw [e2]
  simp [encCo]
theorem build_tg (w : World) (x : Tg) : (Instr.build 171 #[(0, LkV x.tg), (1, Str x.msg)]).run Tryz.prog w = .ok (eTg.val x) w := by
  refine run_build_struct (places := #[(0, 33), (33, 1)]) Tryz.underlying171 w (zeroTg_run w) (by first | kernel_rfl | rfl) ?_
  show Instr.fill _ (encTg zeroTg).toArray [(0, LkV x.tg), (1, Str x.msg)] = some (encTg x).toArray
  rw [ofill_two _ _ _ _ _ _ (encL x.tg) [Str x.msg] 0 33 33 1 rfl rfl rfl rfl (encL_length _) rfl (by simp [encL_length, encTg]) (by simp [encL_length, encTg])]
  have e1 : splice 0 (encL x.tg) (encTg zeroTg) = encL x.tg ++ [Str []] := splice_in 0 (encL x.tg) [] (encL zeroLk) _ rfl (by rw [encL_length, encL_length])
  have e2 := splice_in 33 [Str x.msg] (encL x.tg) [Str []] [] (encL_length _) rfl
  rw [List.append_nil, List.append_nil] at e2
  rw [e1, e2]
  rfl
theorem build_lk (w : World) (x : Lk) : (Instr.build 28 #[(0, .int .i64 x.kd), (1, IdV x.id)]).run Tryz.prog w = .ok (eLk.val x) w := by
  refine run_build_struct (places := #[(0, 1), (1, 32)]) Tryz.underlying28 w (zeroLk_run w) (by first | kernel_rfl | rfl) ?_
  show Instr.fill _ (encL zeroLk).toArray [(0, .int .i64 x.kd), (1, IdV x.id)] = some (encL x).toArray
  rw [ofill_two _ _ _ _ _ _ [.int .i64 x.kd] (x.id.map B8) 0 1 1 32 rfl rfl rfl rfl rfl (by simp [x.h]) (by simp [encL_length]) (by simp [encL_length, x.h])]
  have e1 : splice 0 [Value.int .i64 x.kd] (encL zeroLk) = Value.int .i64 x.kd :: (zeroID.map B8) := rfl
  have e2 := splice_in 1 (x.id.map B8) [Value.int .i64 x.kd] (zeroID.map B8) [] rfl (by simp [x.h]; rfl)
  rw [List.append_nil, List.append_nil] at e2
  rw [e1]
  show some (splice 1 (x.id.map B8) ([Value.int .i64 x.kd] ++ zeroID.map B8)).toArray = _
  rw [e2]
  rfl

abbrev obPlaces : Array (Nat × Nat) := #[(0, 1), (1, 1), (2, 1), (3, 32), (35, 1), (36, 33), (69, 1)]
theorem ob_places (w : World) : ∃ fs, Tryz.prog.underlying 30 = some (.struct fs) ∧ (fs.mapM fun f => do pure (f.offset, ← sizeOf f.type) : Sem (Array (Nat × Nat))).run Tryz.prog w = .ok obPlaces w := ⟨_, Tryz.underlying30, by first | kernel_rfl | rfl⟩
/-- An object's cells, part by part. -/
theorem encO_set_kd (o : Ob) (k : Int) : splice 0 [.int .i64 k] (encO o) = encO { o with kd := k } := rfl
theorem encO_set_dv (o : Ob) (s : Sl) : splice 1 [s.v] (encO o) = encO { o with dv := s } := rfl
theorem encO_set_ev (o : Ob) (s : Sl) : splice 2 [s.v] (encO o) = encO { o with ev := s } := rfl
theorem encO_parts (o : Ob) : encO o = [.int .i64 o.kd, o.dv.v, o.ev.v] ++ o.tree.map B8 ++ (o.pv.v :: (encL o.tg ++ [Str o.msg])) := by simp [encO]
theorem encO_parts2 (o : Ob) : encO o = ([.int .i64 o.kd, o.dv.v, o.ev.v] ++ o.tree.map B8) ++ [o.pv.v] ++ (encL o.tg ++ [Str o.msg]) := by simp [encO]
theorem encO_parts3 (o : Ob) : encO o = ([.int .i64 o.kd, o.dv.v, o.ev.v] ++ o.tree.map B8 ++ [o.pv.v]) ++ encL o.tg ++ [Str o.msg] := by simp [encO]
theorem encO_parts4 (o : Ob) : encO o = ([.int .i64 o.kd, o.dv.v, o.ev.v] ++ o.tree.map B8 ++ [o.pv.v] ++ encL o.tg) ++ [Str o.msg] ++ [] := by simp [encO]
theorem encO_set_tree (o : Ob) (t : List UInt8) (h : t.length = 32) : splice 3 (t.map B8) (encO o) = encO { o with tree := t, h := h } := by
  rw [encO_parts o, encO_parts, splice_in 3 (t.map B8) _ (o.tree.map B8) _ rfl (by simp [o.h, h])]
theorem encO_set_pv (o : Ob) (s : Sl) : splice 35 [s.v] (encO o) = encO { o with pv := s } := by
  rw [encO_parts2 o, encO_parts2, splice_in 35 [s.v] _ [o.pv.v] _ (by simp [o.h]) rfl]
theorem encO_set_tg (o : Ob) (t : Lk) : splice 36 (encL t) (encO o) = encO { o with tg := t } := by
  rw [encO_parts3 o, encO_parts3, splice_in 36 (encL t) _ (encL o.tg) _ (by simp [o.h]) (by rw [encL_length, encL_length])]
theorem encO_set_msg (o : Ob) (m : List UInt8) : splice 69 [Str m] (encO o) = encO { o with msg := m } := by
  rw [encO_parts4 o, encO_parts4, splice_in 69 [Str m] _ [Str o.msg] _ (by simp [o.h, encL_length]) rfl]
theorem encO_length (o : Ob) : (encO o).length = 70 := eOb.len o
theorem build_blobO (w : World) (k : Int) (s : Sl) : (Instr.build 30 #[(0, .int .i64 k), (1, s.v)]).run Tryz.prog w = .ok (ObV { zeroOb with kd := k, dv := s }) w := by
  obtain ⟨fs, hu, hp⟩ := ob_places w
  refine run_build_struct hu w (zeroOb_run w) hp ?_
  show Instr.fill _ (encO zeroOb).toArray [(0, .int .i64 k), (1, s.v)] = _
  rw [ofill_two _ _ _ _ _ _ [.int .i64 k] [s.v] 0 1 1 1 rfl rfl rfl rfl rfl rfl (by rw [encO_length]; simp) (by rw [encO_length]; simp), encO_set_kd, encO_set_dv]
theorem build_treeO (w : World) (k : Int) (s : Sl) : (Instr.build 30 #[(0, .int .i64 k), (2, s.v)]).run Tryz.prog w = .ok (ObV { zeroOb with kd := k, ev := s }) w := by
  obtain ⟨fs, hu, hp⟩ := ob_places w
  refine run_build_struct hu w (zeroOb_run w) hp ?_
  show Instr.fill _ (encO zeroOb).toArray [(0, .int .i64 k), (2, s.v)] = _
  rw [ofill_two _ _ _ _ _ _ [.int .i64 k] [s.v] 0 2 1 1 rfl rfl rfl rfl rfl rfl (by rw [encO_length]; simp) (by rw [encO_length]; simp), encO_set_kd, encO_set_ev]
theorem build_commitO (w : World) (k : Int) (x : Co) : (Instr.build 30 #[(0, .int .i64 k), (3, IdV x.tree), (4, x.pv.v), (6, Str x.msg)]).run Tryz.prog w = .ok (ObV { zeroOb with kd := k, tree := x.tree, pv := x.pv, msg := x.msg, h := x.h }) w := by
  obtain ⟨fs, hu, hp⟩ := ob_places w
  refine run_build_struct hu w (zeroOb_run w) hp ?_
  show Instr.fill _ (encO zeroOb).toArray [(0, .int .i64 k), (3, IdV x.tree), (4, x.pv.v), (6, Str x.msg)] = _
  rw [ofill_four _ _ _ _ _ _ _ _ _ _ [.int .i64 k] (x.tree.map B8) [x.pv.v] [Str x.msg] 0 3 35 69 1 32 1 1 rfl rfl rfl rfl rfl rfl rfl rfl rfl (by simp [x.h]) rfl rfl (by rw [encO_length]; simp) (by rw [encO_length]; simp [x.h]) (by rw [encO_length]; simp) (by rw [encO_length]; simp), encO_set_kd, encO_set_tree _ _ x.h, encO_set_pv, encO_set_msg]
theorem build_tagO (w : World) (k : Int) (x : Tg) : (Instr.build 30 #[(0, .int .i64 k), (5, LkV x.tg), (6, Str x.msg)]).run Tryz.prog w = .ok (ObV { zeroOb with kd := k, tg := x.tg, msg := x.msg }) w := by
  obtain ⟨fs, hu, hp⟩ := ob_places w
  refine run_build_struct hu w (zeroOb_run w) hp ?_
  show Instr.fill _ (encO zeroOb).toArray [(0, .int .i64 k), (5, LkV x.tg), (6, Str x.msg)] = _
  rw [ofill_three _ _ _ _ _ _ _ _ [.int .i64 k] (encL x.tg) [Str x.msg] 0 36 69 1 33 1 rfl rfl rfl rfl rfl rfl rfl (encL_length _) rfl (by rw [encO_length]; simp) (by rw [encO_length, encL_length]; simp) (by rw [encO_length]; simp), encO_set_kd, encO_set_tg, encO_set_msg]
end Go.Proofs.YtljihmbmjpcfaaaGreat
namespace Go.Proofs.YtljihmbmjpcfaaaGreat
open Go.RowKit Go.Shelf Go.Great
set_option maxRecDepth 100000

theorem lk_id (x : Lk) : List.take 32 (encL x).tail = x.id.map B8 := by
  rw [encL, List.tail_cons, List.take_of_length_le (by simp [x.h])]
theorem en_id (x : En) : List.take 32 (List.drop 2 (encE x)) = x.id.map B8 := by
  rw [encE, List.drop_succ_cons, List.drop_succ_cons, List.drop_zero, List.take_of_length_le (by simp [x.h])]
theorem aggID (w : World) : (isAgg 25).run Tryz.prog w = .ok true w := by simp [isAgg, run_underlying Tryz.underlying25]
theorem sizeIDrun (w : World) : (sizeOf 25).run Tryz.prog w = .ok 32 w := by
  obtain ⟨i0, hi0, hz0, hz1, hz2⟩ := info_parts infoID3
  simp [sizeOf, typeInfo, hi0, hz1]
theorem part_lk (w : World) (x : Lk) : (part 25 (encL x).toArray 1).run Tryz.prog w = .ok (IdV x.id) w := by
  simp [part, lk_id]
theorem part_en (w : World) (x : En) : (part 25 (encE x).toArray 2).run Tryz.prog w = .ok (IdV x.id) w := by
  simp [part, en_id]
theorem eqId_run (w : World) (xs ys : List UInt8) (hx : xs.length = 32) (hy : ys.length = 32) (d : Nat) : (Op.equalIn (d + 2) 25 (IdV xs) (IdV ys)).run Tryz.prog w = .ok (xs == ys) w :=
  run_equalIn_bytes (P := Tryz.prog) w d 25 5 32 Tryz.underlying25 Tryz.underlying5 size1 xs ys hx hy
theorem lk_ext (x y : Lk) : (x = y) ↔ x.kd = y.kd ∧ x.id = y.id := by
  obtain ⟨k, i, h⟩ := x
  obtain ⟨k', i', h'⟩ := y
  constructor
  · intro h; cases h; exact ⟨rfl, rfl⟩
  · rintro ⟨h1, h2⟩
    dsimp only at h1 h2
    subst h1 h2
    rfl
theorem en_ext (x y : En) : (x = y) ↔ x.nm = y.nm ∧ x.kd = y.kd ∧ x.id = y.id := by
  obtain ⟨n, k, i, h⟩ := x
  obtain ⟨n', k', i', h'⟩ := y
  constructor
  · intro h; cases h; exact ⟨rfl, rfl, rfl⟩
  · rintro ⟨h0, h1, h2⟩
    dsimp only at h0 h1 h2
    subst h0 h1 h2
    rfl
theorem eqLk_run (w : World) (x y : Lk) : (Op.equalIn 10000 28 (LkV x) (LkV y)).run Tryz.prog w = .ok (decide (x = y)) w := by
  have hx0 : (encL x)[0]? = some (.int .i64 x.kd) := rfl
  have hy0 : (encL y)[0]? = some (.int .i64 y.kd) := rfl
  have hi : (Op.equalIn 9999 25 (IdV x.id) (IdV y.id)).run Tryz.prog w = _ := eqId_run w x.id y.id x.h y.h 9997
  rw [run_equalIn_agg (P := Tryz.prog) w 9999 28 _ _ (by kernel_rfl) (by kernel_rfl)]
  simp only [Program.fieldsOf, Tryz.underlying28]
  go_simp
  simp only [lk_id, Result.andThen_ok, hi]
  go_simp
  by_cases h1 : x.kd = y.kd
  · by_cases h2 : x.id = y.id
    · have : x = y := (lk_ext x y).2 ⟨h1, h2⟩
      simp [this]
    · have : ¬ x = y := fun h => h2 ((lk_ext x y).1 h).2
      simp [h1, h2, this]
  · have : ¬ x = y := fun h => h1 ((lk_ext x y).1 h).1
    simp [h1, this]
theorem eqEn_run (w : World) (x y : En) : (Op.equalIn 10000 70 (EnV x) (EnV y)).run Tryz.prog w = .ok (decide (x = y)) w := by
  have hx0 : (encE x)[0]? = some (Str x.nm) := rfl
  have hy0 : (encE y)[0]? = some (Str y.nm) := rfl
  have hx1 : (encE x)[1]? = some (.int .i64 x.kd) := rfl
  have hy1 : (encE y)[1]? = some (.int .i64 y.kd) := rfl
  have hi : (Op.equalIn 9999 25 (IdV x.id) (IdV y.id)).run Tryz.prog w = _ := eqId_run w x.id y.id x.h y.h 9997
  rw [run_equalIn_agg (P := Tryz.prog) w 9999 70 _ _ (by kernel_rfl) (by kernel_rfl)]
  simp only [Program.fieldsOf, Tryz.underlying70]
  go_simp
  simp only [en_id, Result.andThen_ok, hi]
  go_simp
  by_cases h0 : x.nm = y.nm
  · by_cases h1 : x.kd = y.kd
    · by_cases h2 : x.id = y.id
      · have : x = y := (en_ext x y).2 ⟨h0, h1, h2⟩
        simp [this]
      · have : ¬ x = y := fun h => h2 ((en_ext x y).1 h).2.2
        simp [h0, h1, h2, this]
    · have : ¬ x = y := fun h => h1 ((en_ext x y).1 h).2.1
      simp [h0, h1, this]
  · have : ¬ x = y := fun h => h0 ((en_ext x y).1 h).1
    simp [h0, this]
theorem exec_cmp_lk {o : Oper} {a : Act} {p q : Operand} {x y : Lk} {w : World} (ho : o.op = .binOp .neq 28 p q 28) (hp : a.eval p = LkV x) (hq : a.eval q = LkV y) : (execOp a.eval o).run Tryz.prog w = .ok (.value (.bool (!decide (x = y)))) w := by
  have hg := run_eqGuard_agg (P := Tryz.prog) (w := w) .neq 28 p q (encL x).toArray (encL y).toArray (by kernel_rfl)
  have h := eqLk_run w x y
  have hn : (binOp .neq 28 (LkV x) (LkV y)).run Tryz.prog w = .ok (.bool (!decide (x = y))) w := by
    rw [run_neq_struct, h]
    rfl
  unfold execOp
  simp only [ho, hp, hq, Sem.run_bind, hg, hn, Result.andThen_ok, Sem.run_pure]
theorem exec_eql_lk {o : Oper} {a : Act} {p q : Operand} {x y : Lk} {w : World} (ho : o.op = .binOp .eql 28 p q 28) (hp : a.eval p = LkV x) (hq : a.eval q = LkV y) : (execOp a.eval o).run Tryz.prog w = .ok (.value (.bool (decide (x = y)))) w := by
  have hg := run_eqGuard_agg (P := Tryz.prog) (w := w) .eql 28 p q (encL x).toArray (encL y).toArray (by kernel_rfl)
  have h := eqLk_run w x y
  have hn : (binOp .eql 28 (LkV x) (LkV y)).run Tryz.prog w = .ok (.bool (decide (x = y))) w := by
    rw [run_eql_struct, h]
    rfl
  unfold execOp
  simp only [ho, hp, hq, Sem.run_bind, hg, hn, Result.andThen_ok, Sem.run_pure]
theorem exec_neq_en {o : Oper} {a : Act} {p q : Operand} {x y : En} {w : World} (ho : o.op = .binOp .neq 70 p q 70) (hp : a.eval p = EnV x) (hq : a.eval q = EnV y) : (execOp a.eval o).run Tryz.prog w = .ok (.value (.bool (!decide (x = y)))) w := by
  have hg := run_eqGuard_agg (P := Tryz.prog) (w := w) .neq 70 p q (encE x).toArray (encE y).toArray (by kernel_rfl)
  have h := eqEn_run w x y
  have hn : (binOp .neq 70 (EnV x) (EnV y)).run Tryz.prog w = .ok (.bool (!decide (x = y))) w := by
    rw [run_neq_struct, h]
    rfl
  unfold execOp
  simp only [ho, hp, hq, Sem.run_bind, hg, hn, Result.andThen_ok, Sem.run_pure]
theorem exec_eqlI {o : Oper} {a : Act} {p q : Operand} {x y : List UInt8} {w : World} (ho : o.op = .binOp .eql 25 p q 25) (hp : a.eval p = IdV x) (hq : a.eval q = IdV y) (hx : x.length = 32) (hy : y.length = 32) : (execOp a.eval o).run Tryz.prog w = .ok (.value (.bool (decide (x = y)))) w := by
  have hg := run_eqGuard_agg (P := Tryz.prog) (w := w) .eql 25 p q (x.map B8).toArray (y.map B8).toArray (by kernel_rfl)
  have h := eql_id w hx hy
  rw [show (x == y) = decide (x = y) by by_cases e : x = y <;> simp [e]] at h
  unfold execOp
  simp only [ho, hp, hq, Sem.run_bind, hg, h, Result.andThen_ok, Sem.run_pure]
theorem exec_neqI {o : Oper} {a : Act} {p q : Operand} {x y : List UInt8} {w : World} (ho : o.op = .binOp .neq 25 p q 25) (hp : a.eval p = IdV x) (hq : a.eval q = IdV y) (hx : x.length = 32) (hy : y.length = 32) : (execOp a.eval o).run Tryz.prog w = .ok (.value (.bool (!decide (x = y)))) w := by
  have hg := run_eqGuard_agg (P := Tryz.prog) (w := w) .neq 25 p q (x.map B8).toArray (y.map B8).toArray (by kernel_rfl)
  have h := neq_id w hx hy
  rw [show (x == y) = decide (x = y) by by_cases e : x = y <;> simp [e]] at h
  unfold execOp
  simp only [ho, hp, hq, Sem.run_bind, hg, h, Result.andThen_ok, Sem.run_pure]
end Go.Proofs.YtljihmbmjpcfaaaGreat
namespace Go.Proofs.YtljihmbmjpcfaaaGreat
open Go.RowKit Go.Shelf Go.Great
set_option maxRecDepth 100000

abbrev BoxBlob (W : World) (g : Nat) (s : Sl) : Prop := Boxed W g 162 s.v
abbrev BoxTree (W : World) (g : Nat) (s : Sl) : Prop := Boxed W g 165 s.v
abbrev BoxCo (W : World) (g : Nat) (x : Co) : Prop := BoxE eCo 168 W g x
abbrev BoxTg (W : World) (g : Nat) (x : Tg) : Prop := BoxE eTg 171 W g x
abbrev Ob.co (o : Ob) : Co := ⟨o.tree, o.pv, o.msg, o.h⟩
abbrev Ob.tag (o : Ob) : Tg := ⟨o.tg, o.msg⟩
/-- A body, in memory. -/
inductive BodyAt (W : World) (o : Ob) : Value → Prop
  | blob (g : Nat) (hk : o.kd = 1) (h : BoxBlob W g o.dv) : BodyAt W o (.iface 160 (.pointer (some ⟨g, 0, none⟩)))
  | tree (g : Nat) (hk : o.kd = 2) (h : BoxTree W g o.ev) : BodyAt W o (.iface 163 (.pointer (some ⟨g, 0, none⟩)))
  | commit (g : Nat) (hk : o.kd = 3) (h : BoxCo W g o.co) : BodyAt W o (.iface 166 (.pointer (some ⟨g, 0, none⟩)))
  | tag (g : Nat) (hk : o.kd = 4) (h : BoxTg W g o.tag) : BodyAt W o (.iface 169 (.pointer (some ⟨g, 0, none⟩)))
  | none (hk : ¬ (1 ≤ o.kd ∧ o.kd ≤ 4)) : BodyAt W o .nilIface

theorem ob_kd0 {w w' : World} {g : Nat} {o : Ob} (h : BoxE eOb 30 w g o) (hb : Below w.heap.size w w') : w'.cell? ⟨g, 0, none⟩ = some (.int .i64 o.kd) := ObAt.kd (h.below hb).at


theorem wpList_build_co {ops : Array Oper} {rest : List Oper} {o : Oper} {a : Act} {w : World} {Q : Exit → Act → World → Prop} (hg : o.guard = none) (p q r : Operand) (ho : o.op = .build 168 #[(0, p), (1, q), (2, r)]) (x : Co) (h1 : a.eval p = IdV x.tree) (h2 : a.eval q = x.pv.v) (h3 : a.eval r = Str x.msg)
    (h : wpList Tryz.prog ops Q rest (a.put o.dst (eCo.val x)) w) : wpList Tryz.prog ops Q (o :: rest) a w :=
  wpList_build_of hg _ _ ho #[(0, IdV x.tree), (1, x.pv.v), (2, Str x.msg)] (by simp [h1, h2, h3]) _ (build_co w x) h
theorem wpList_build_tg {ops : Array Oper} {rest : List Oper} {o : Oper} {a : Act} {w : World} {Q : Exit → Act → World → Prop} (hg : o.guard = none) (p q : Operand) (ho : o.op = .build 171 #[(0, p), (1, q)]) (x : Tg) (h1 : a.eval p = LkV x.tg) (h2 : a.eval q = Str x.msg)
    (h : wpList Tryz.prog ops Q rest (a.put o.dst (eTg.val x)) w) : wpList Tryz.prog ops Q (o :: rest) a w :=
  wpList_build_of hg _ _ ho #[(0, LkV x.tg), (1, Str x.msg)] (by simp [h1, h2]) _ (build_tg w x) h
set_option maxHeartbeats 1000000 in
theorem oOfKind_any (w : World) (o : Ob) :
    Calls Tryz.prog 51 #[ObV o] w fun e W' => ∃ v, e = .returned v ∧ BodyAt W' o v ∧ Below w.heap.size w W' := by
  have b1 : BoxE eOb 30 (w.alloc (.cells (encO o).toArray 30)) w.heap.size o := BoxE.new w o
  have hB1 : Below w.heap.size w (w.alloc (.cells (encO o).toArray 30)) := (Below.refl _ w).alloc (Nat.le_refl _) _
  have c0 := ObAt.kd b1.at
  have c1 := ObAt.dv b1.at
  have c2 := ObAt.ev b1.at
  have c3 := ObAt.tree b1.at
  have c4 := ObAt.pv b1.at
  have c5 := ObAt.tg b1.at
  have c6 := ObAt.msg b1.at
  simp only [Nat.zero_add] at c0 c1 c2 c3 c4 c5 c6
  by_cases h1 : o.kd = 1
  · go_enter Tryz.func51, Tryz.ntmps51
    go_wp2_with fail
    go_ret
    refine ⟨_, rfl, .blob _ h1 ?_, hB1.alloc hB1.size _⟩
    have := Boxed.new (w.alloc (.cells (encO o).toArray 30)) 162 o.dv.v
    rwa [World.size_alloc] at this
  by_cases h2 : o.kd = 2
  · go_enter Tryz.func51, Tryz.ntmps51
    go_wp2_with fail
    go_ret
    refine ⟨_, rfl, .tree _ h2 ?_, hB1.alloc hB1.size _⟩
    have := Boxed.new (w.alloc (.cells (encO o).toArray 30)) 165 o.ev.v
    rwa [World.size_alloc] at this
  by_cases h3 : o.kd = 3
  · have hh := o.h
    go_enter Tryz.func51, Tryz.ntmps51
    go_wp2_with (first
      | (refine wpList_load_id rfl (.tmp 21) rfl rfl hh c3 ?_)
      | (refine wpList_build_co rfl (.tmp 22) (.tmp 24) (.tmp 26) rfl o.co rfl rfl rfl ?_))
    go_ret
    refine ⟨_, rfl, .commit _ h3 ?_, hB1.alloc hB1.size _⟩
    have : BoxCo _ _ o.co := BoxE.new (w.alloc (.cells (encO o).toArray 30)) o.co
    rwa [World.size_alloc] at this
  by_cases h4 : o.kd = 4
  · go_enter Tryz.func51, Tryz.ntmps51
    go_wp2_with (first
      | (refine elLk.wpLoad rfl (.tmp 32) rfl rfl c5 ?_)
      | (refine wpList_build_tg rfl (.tmp 33) (.tmp 35) rfl o.tag rfl rfl ?_))
    go_ret
    refine ⟨_, rfl, .tag _ h4 ?_, hB1.alloc hB1.size _⟩
    have : BoxTg _ _ o.tag := BoxE.new (w.alloc (.cells (encO o).toArray 30)) o.tag
    rwa [World.size_alloc] at this
  go_enter Tryz.func51, Tryz.ntmps51
  go_wp2_with fail
  go_ret
  exact ⟨_, rfl, .none (by omega), hB1⟩
end Go.Proofs.YtljihmbmjpcfaaaGreat
namespace Go.Proofs.YtljihmbmjpcfaaaGreat
open Go.RowKit Go.Shelf Go.Great
set_option maxRecDepth 100000

theorem fill_one_e {α : Type} {E : Elt α} (x : α) (Z : Array Value) (hZ : Z.size = E.k) : Instr.fill (fun i => some (i * E.k, E.k)) Z [(0, E.val x)] = some (E.enc x).toArray := by
  have h := ofill_one (fun i => some (i * E.k, E.k)) Z.toList 0 (E.val x) (E.enc x) [] (0 * E.k) E.k rfl rfl (E.len x) (by rw [E.len x]; simp [hZ])
  rw [Array.toArray_toList] at h
  rw [h, ofill_none]
  congr 2
  unfold splice
  simp [E.len, hZ]
theorem wp_one_e {α : Type} {E : Elt α} {t ts : TypeId} (he : EltOf Tryz.prog E t ts) (hk : E.k ≤ 1000) {o : Oper} {a : Act} {w : World} {K : Act → World → Prop} {Q : Exit → Act → World → Prop} (y : Operand) (ho : o.op = .buildSlice ts 1 #[(0, y)]) {x : α} (hy : a.eval y = E.val x)
    (h : K (a.put o.dst (.slice (some ⟨w.heap.size, 0, none⟩) 1 1)) (w.alloc (.cells (E.enc x).toArray t))) : o.wp Tryz.prog a w K Q := by
  obtain ⟨i0, z, hi, hz0, hz1, hz2, hz3, hz4⟩ := he.info
  refine wp_buildSlice ts t 1 _ ho _ i0 z he.sl hi hz0 (by rw [hz1]; omega) (by rw [hz1]; have := E.pos; omega) ?_ h
  rw [hz1]
  simp only [List.map_toArray, List.map_cons, List.map_nil, hy]
  exact fill_one_e x _ (by simp)
theorem wpList_one_e {α : Type} {E : Elt α} {t ts : TypeId} (he : EltOf Tryz.prog E t ts) (hk : E.k ≤ 1000) {ops : Array Oper} {rest : List Oper} {o : Oper} {a : Act} {w : World} {Q : Exit → Act → World → Prop} (hg : o.guard = none) (y : Operand) (ho : o.op = .buildSlice ts 1 #[(0, y)]) {x : α} (hy : a.eval y = E.val x)
    (h : wpList Tryz.prog ops Q rest (a.put o.dst (.slice (some ⟨w.heap.size, 0, none⟩) 1 1)) (w.alloc (.cells (E.enc x).toArray t))) : wpList Tryz.prog ops Q (o :: rest) a w :=
  wpList_plain hg fun _ hK => wp_one_e he hk y ho hy (hK _ _ h)
theorem Es.one_e {α : Type} {E : Elt α} (w : World) (x : α) (t : TypeId) : Es E (w.alloc (.cells (E.enc x).toArray t)) (.slice (some ⟨w.heap.size, 0, none⟩) 1 1) [x] :=
  Es.built w [x] t (by simp [flatE])
theorem rowE_one {α : Type} {E : Elt α} {t : TypeId} (w : World) (x : α) : RowE E t (w.alloc (.cells (E.enc x).toArray t)) w.heap.size (.slice (some ⟨w.heap.size, 0, none⟩) 1 1) [x] := by
  refine ⟨by simp [flatE, E.len], .inr ⟨w.heap.size, 1, (E.enc x).toArray, rfl, Nat.le_refl _, heap_alloc_new w _, Nat.le_refl _, by decide, by simp [E.len], ?_⟩⟩
  rw [List.length_cons, List.length_nil, Nat.zero_add, Nat.one_mul, List.take_of_length_le (by simp [E.len])]
  simp [flatE]
end Go.Proofs.YtljihmbmjpcfaaaGreat
