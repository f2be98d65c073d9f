/- Elements of k cells each: lists of them in memory, rows of one's own, append, a block that holds them. For any type of elements whose cells are written out. -/
import Derived.Test.YtljihmbmjpcfaaaGreatLebSrc
import Derived.Deep.MidRow
import Derived.Great.BuildSlice
import Derived.Deep.Upon
namespace Go.Proofs.YtljihmbmjpcfaaaGreat
open Go.RowKit Go.Shelf
set_option maxRecDepth 100000

/-- How elements lie in memory. -/
structure Elt (α : Type) where
  enc : α → List Value
  k : Nat
  pos : 0 < k
  len : ∀ x, (enc x).length = k
  one : ∀ x, ∀ u ∈ enc x, u.oneCell' = true
section
variable {α : Type} {E : Elt α}
/-- An element as a value. -/
abbrev Elt.val (E : Elt α) (x : α) : Value := .agg (E.enc x).toArray
/-- An element lies there. -/
abbrev ElAt (E : Elt α) (W : World) (b o : Nat) (x : α) : Prop := W.rangeAt b o (E.enc x)
theorem ElAt.below {w w' : World} {b o : Nat} {x : α} (h : ElAt E w b o x) (hb : Below w.heap.size w w') : ElAt E w' b o x := fun j v hv =>
  (hb.cell (p := ⟨b, o + j, none⟩) (World.block_lt_of_cell? _ _ (h j v hv))).trans (h j v hv)
theorem ElAt.kept {T : Nat → Prop} {w w' : World} {b o : Nat} {x : α} (h : ElAt E w b o x) (hk : Kept T w w') (hb : ¬ T b) : ElAt E w' b o x := fun j v hv =>
  (hk.cell (p := ⟨b, o + j, none⟩) (World.block_lt_of_cell? _ _ (h j v hv)) hb).trans (h j v hv)
theorem ElAt.box (w : World) (x : α) (t : TypeId) : ElAt E (w.alloc (.cells (E.enc x).toArray t)) w.heap.size 0 x := fun j v hv => by
  obtain ⟨h1, h2⟩ := List.getElem?_eq_some_iff.1 hv
  simp [h1, h2]
theorem load_el {P : Program} {t : TypeId} {d : TypeDesc} (hu : P.underlying t = some d) (hd : d.isRow = true) (hi : (P.info? t).map (·.size) = some E.k) (w : World) (b o : Nat) (x : α) (hx : ElAt E w b o x) : (Instr.loadAt t (.pointer (some ⟨b, o, none⟩))).run P w = .ok (E.val x) w :=
  run_loadAt_mid w b o t (E.enc x) d hx hu hd (by rw [hi, E.len x])
theorem exec_load_el {P : Program} {t : TypeId} {d : TypeDesc} (hu : P.underlying t = some d) (hd : d.isRow = true) (hi : (P.info? t).map (·.size) = some E.k) {a : Act} {o : Oper} {p : Operand} (ho : o.op = .load t p) {b off : Nat} (hp : a.eval p = .pointer (some ⟨b, off, none⟩)) {x : α} {W : World} (h : ElAt E W b off x) : (execOp a.eval o).run P W = .ok (.value (E.val x)) W := by
  unfold execOp
  simp only [ho, hp, Sem.run_bind, load_el hu hd hi W b off x h, Result.andThen_ok, Sem.run_pure]
theorem wp_load_el {P : Program} {t : TypeId} {d : TypeDesc} (hu : P.underlying t = some d) (hd : d.isRow = true) (hi : (P.info? t).map (·.size) = some E.k) {o : Oper} {a : Act} {w : World} {K : Act → World → Prop} {Q : Exit → Act → World → Prop} {p : Operand} (ho : o.op = .load t p) {b off : Nat} (hp : a.eval p = .pointer (some ⟨b, off, none⟩)) {x : α} (hat : ElAt E w b off x)
    (h : K (a.put o.dst (E.val x)) w) : o.wp P a w K Q := by
  unfold Oper.wp
  rw [exec_load_el hu hd hi ho hp hat]
  exact h

/-- A slice of elements. -/
def Es (E : Elt α) (W : World) (v : Value) (l : List α) : Prop :=
  ∃ A c, v = .slice A l.length c ∧ l.length ≤ c ∧ ∀ (i : Nat) (x : α), l[i]? = some x → ∃ b off, A = some ⟨b, off, none⟩ ∧ ElAt E W b (off + i * E.k) x
theorem Es.form {W : World} {v : Value} {l : List α} (h : Es E W v l) : ∃ A c, v = .slice A l.length c ∧ l.length ≤ c := by
  obtain ⟨A, c, rfl, hc, _⟩ := h
  exact ⟨A, c, rfl, hc⟩
theorem Es.at {W : World} {A : Option Addr} {n c : Nat} {l : List α} (h : Es E W (.slice A n c) l) {i : Nat} {x : α} (hx : l[i]? = some x) : ∃ b off, A = some ⟨b, off, none⟩ ∧ ElAt E W b (off + i * E.k) x := by
  obtain ⟨A', c', he, _, h2⟩ := h
  injection he with e1 e2 e3
  subst e1
  exact h2 i x hx
theorem Es.full {W : World} {v : Value} {l : List α} (h : Es E W v l) (h0 : 0 < l.length) : ∃ b off c, v = .slice (some ⟨b, off, none⟩) l.length c ∧ l.length ≤ c ∧ ∀ (i : Nat) (x : α), l[i]? = some x → ElAt E W b (off + i * E.k) x := by
  obtain ⟨A, c, rfl, hc, h2⟩ := h
  obtain ⟨b, off, rfl, _⟩ := h2 0 l[0] (List.getElem?_eq_getElem h0)
  refine ⟨b, off, c, rfl, hc, fun i x hx => ?_⟩
  obtain ⟨b', off', he, h3⟩ := h2 i x hx
  injection he with he
  injection he with e1 e2
  subst e1 e2
  exact h3
theorem Es.below {w w' : World} {v : Value} {l : List α} (h : Es E w v l) (hb : Below w.heap.size w w') : Es E w' v l := by
  obtain ⟨A, c, rfl, hc, h2⟩ := h
  refine ⟨A, c, rfl, hc, fun i x hx => ?_⟩
  obtain ⟨b, off, rfl, h3⟩ := h2 i x hx
  exact ⟨b, off, rfl, h3.below hb⟩
theorem Es.kept {T : Nat → Prop} {w w' : World} {v : Value} {l : List α} (h : Es E w v l) (hk : Kept T w w') (hn : ∀ j, v.ownBlock = some j → ¬ T j) : Es E w' v l := by
  obtain ⟨A, c, rfl, hc, h2⟩ := h
  refine ⟨A, c, rfl, hc, fun i x hx => ?_⟩
  obtain ⟨b, off, rfl, h3⟩ := h2 i x hx
  exact ⟨b, off, rfl, h3.kept hk (hn b rfl)⟩
theorem Es.empty (W : World) (A : Option Addr) (c : Nat) : Es E W (.slice A 0 c) [] := ⟨A, c, rfl, by simp, fun i x hx => by simp at hx⟩
theorem Es.nil (W : World) : Es E W (.slice none 0 0) [] := ⟨none, 0, rfl, by simp, fun i x hx => by simp at hx⟩
theorem Es.take {W : World} {A : Option Addr} {m c : Nat} {l : List α} (h : Es E W (.slice A m c) l) {k : Nat} (hk : k ≤ l.length) : Es E W (.slice A k c) (l.take k) := by
  obtain ⟨A', c', he, hc, h2⟩ := h
  injection he with e1 e2 e3
  subst e1 e3
  have hl : (l.take k).length = k := by simp; omega
  refine ⟨A, c, by rw [hl], by rw [hl]; omega, fun i x hx => h2 i x ?_⟩
  rw [List.getElem?_take] at hx
  split at hx
  · exact hx
  · cases hx
theorem Es.drop {W : World} {A : Option Addr} {m c : Nat} {l : List α} (h : Es E W (.slice A m c) l) {k : Nat} (hk : k ≤ l.length) : Es E W (.slice (if c = k then A else A.map (·.add (k * E.k))) (m - k) (c - k)) (l.drop k) := by
  obtain ⟨A', c', he, hc, h2⟩ := h
  injection he with e1 e2 e3
  subst e1 e2 e3
  refine ⟨_, c - k, by rw [List.length_drop], by rw [List.length_drop]; omega, fun i x hx => ?_⟩
  rw [List.getElem?_drop] at hx
  obtain ⟨b, off, rfl, h3⟩ := h2 _ x hx
  have hlt := (List.getElem?_eq_some_iff.1 hx).1
  rw [if_neg (by omega)]
  refine ⟨b, off + k * E.k, by simp [add_plain], ?_⟩
  rw [Nat.add_assoc, ← Nat.add_mul]
  exact h3

/-- Elements' cells, one behind the other. -/
def flatE (E : Elt α) (l : List α) : List Value := (l.map E.enc).flatten
theorem flatE_nil : flatE E [] = [] := rfl
theorem flatE_cons (x : α) (l : List α) : flatE E (x :: l) = E.enc x ++ flatE E l := by simp [flatE]
theorem flatE_append (l m : List α) : flatE E (l ++ m) = flatE E l ++ flatE E m := by simp [flatE]
theorem flatE_length : ∀ (l : List α), (flatE E l).length = l.length * E.k := by
  intro l
  induction l with
  | nil => simp [flatE]
  | cons x l ih =>
    rw [flatE_cons, List.length_append, E.len, ih, List.length_cons, Nat.add_mul]
    omega
theorem flatE_get : ∀ (l : List α) (i : Nat) (x : α) (r : Nat), l[i]? = some x → r < E.k → (flatE E l)[i * E.k + r]? = (E.enc x)[r]? := by
  intro l
  induction l with
  | nil => intro i x r h; simp at h
  | cons y l ih =>
    intro i x r hi hr
    rw [flatE_cons]
    cases i with
    | zero =>
      simp at hi
      subst hi
      rw [Nat.zero_mul, Nat.zero_add, List.getElem?_append_left (by rw [E.len]; exact hr)]
    | succ i =>
      rw [List.getElem?_append_right (by rw [E.len, Nat.add_mul]; omega)]
      rw [← ih i x r (by simpa using hi) hr]
      congr 1
      rw [E.len, Nat.add_mul]
      omega
theorem flatE_oneCell (l : List α) : ∀ u ∈ flatE E l, u.oneCell' = true := by
  intro u hu
  obtain ⟨y, hy, hu⟩ := List.mem_flatten.1 hu
  obtain ⟨x, _, rfl⟩ := List.mem_map.1 hy
  exact E.one x u hu

/-- A row of elements of the call's own. -/
def RowE (E : Elt α) (t : TypeId) (W : World) (n : Nat) (v : Value) (l : List α) : Prop := W.ownsRow n t E.k v l.length (flatE E l)
variable {t : TypeId}
theorem RowE.nil (W : World) (n : Nat) : RowE E t W n (.slice none 0 0) [] := World.ownsRow_nil _ _ _ _
theorem RowE.is {W : World} {n : Nat} {v : Value} {l : List α} (h : RowE E t W n v l) : Es E W v l := by
  rcases h.2 with ⟨rfl, h0⟩ | ⟨g, cap, cur, rfl, hb, hg, hn, hm, hs, ht⟩
  · have : l = [] := List.eq_nil_of_length_eq_zero h0
    subst this
    exact ⟨none, 0, rfl, by simp, fun i x hx => by simp at hx⟩
  · refine ⟨_, cap, rfl, hn, fun i x hx => ⟨g, 0, rfl, fun r u hu => ?_⟩⟩
    have hr : r < E.k := by have := (List.getElem?_eq_some_iff.1 hu).1; rw [E.len] at this; exact this
    have hi : i < l.length := (List.getElem?_eq_some_iff.1 hx).1
    have h1 := flatE_get l i x r hx hr
    have h2 := Nat.mul_le_mul_right E.k (show i + 1 ≤ l.length by omega)
    rw [Nat.add_mul] at h2
    rw [hu, ← ht, List.getElem?_take, if_pos (by omega)] at h1
    rw [Nat.zero_add]
    simp only [World.cell?, hg]
    simpa using h1
theorem RowE.below {w w' : World} {n : Nat} {v : Value} {l : List α} (h : RowE E t w n v l) (hb : Below w.heap.size w w') : RowE E t w' n v l := owns_below h hb
theorem RowE.base {w : World} {n n' : Nat} {v : Value} {l : List α} (h : RowE E t w n v l) (hn : n' ≤ n) : RowE E t w n' v l := owns_base h hn
theorem RowE.slice {w : World} {n : Nat} {v : Value} {l : List α} (h : RowE E t w n v l) : ∃ A c, v = .slice A l.length c ∧ l.length ≤ c := h.is.form
theorem RowE.made (w : World) : RowE E t (w.alloc (.cells #[] t)) w.heap.size (.slice (some ⟨w.heap.size, 0, none⟩) 0 0) [] :=
  World.ownsRow_made w #[] 0 (Nat.le_refl _) (by simp [maxLen]) (by simp)
/-- A list that was just built. -/
theorem Es.built (w : World) (l : List α) (t : TypeId) {cs : Array Value} (hcs : cs = (flatE E l).toArray) : Es E (w.alloc (.cells cs t)) (.slice (some ⟨w.heap.size, 0, none⟩) l.length l.length) l := by
  subst hcs
  refine ⟨_, _, rfl, Nat.le_refl _, fun i x hx => ⟨_, _, rfl, fun r u hu => ?_⟩⟩
  have hr : r < E.k := by have := (List.getElem?_eq_some_iff.1 hu).1; rw [E.len] at this; exact this
  have h1 := flatE_get l i x r hx hr
  rw [hu] at h1
  rw [Nat.zero_add]
  simp [h1]
theorem Es.one (w : World) (x : α) (t : TypeId) : Es E (w.alloc (.cells (E.enc x).toArray t)) (.slice (some ⟨w.heap.size, 0, none⟩) 1 1) [x] :=
  Es.built w [x] t (by simp [flatE])

/-- What the program says of elements of a type and of slices of them. -/
structure EltOf (P : Program) (E : Elt α) (t ts : TypeId) : Prop where
  sl : P.underlying ts = some (.slice t)
  info : ∃ i z, P.info? t = some i ∧ i.zero = some z ∧ i.size = E.k ∧ i.bytes ≤ 1000 ∧ z.cells.size = E.k ∧ ∀ u ∈ z.cells.toList, u.oneCell' = true
  row : ∃ d, P.underlying t = some d ∧ d.isRow = true
theorem EltOf.size {P : Program} {ts : TypeId} (h : EltOf P E t ts) : (P.info? t).map (·.size) = some E.k := by
  obtain ⟨i, z, h1, _, h2, _⟩ := h.info
  rw [h1, Option.map_some, h2]
theorem EltOf.load {P : Program} {ts : TypeId} (h : EltOf P E t ts) {a : Act} {o : Oper} {p : Operand} (ho : o.op = .load t p) {b off : Nat} (hp : a.eval p = .pointer (some ⟨b, off, none⟩)) {x : α} {W : World} (hx : ElAt E W b off x) : (execOp a.eval o).run P W = .ok (.value (E.val x)) W := by
  obtain ⟨d, h1, h2⟩ := h.row
  exact exec_load_el h1 h2 h.size ho hp hx
theorem EltOf.wpLoad {P : Program} {ts : TypeId} (he : EltOf P E t ts) {ops : Array Oper} {rest : List Oper} {o : Oper} {a : Act} {w : World} {Q : Exit → Act → World → Prop} (hg : o.guard = none) (p : Operand) (ho : o.op = .load t p) {b off : Nat} (hp : a.eval p = .pointer (some ⟨b, off, none⟩)) {x : α} (hx : ElAt E w b off x)
    (h : wpList P ops Q rest (a.put o.dst (E.val x)) w) : wpList P ops Q (o :: rest) a w := by
  obtain ⟨d, h1, h2⟩ := he.row
  exact wpList_plain hg fun _ hK => wp_load_el h1 h2 he.size ho hp hx (hK _ _ h)

/-- append of elements onto a row of the call's own. -/
theorem run_append_es {P : Program} {ts : TypeId} (he : EltOf P E t ts) (w : World) (base : Nat) (ty : TypeId) (v : Value) (l : List α) (hown : RowE E t w base v l) (sv : Value) (m : List α) (hs : Es E w sv m) (hlen : l.length + m.length ≤ 1000000) (hbase : base ≤ w.heap.size) :
    ∃ v' w', (Builtin.append_ #[ts, ts] ty #[v, sv]).run P w = .ok v' w' ∧ RowE E t w' base v' (l ++ m) ∧ w.grownBy w' v.ownBlock ∧ (v'.ownBlock = v.ownBlock ∨ v'.ownBlock = some w.heap.size) := by
  obtain ⟨i0, z, hi, hz0, hz1, hz2, hz3, _⟩ := he.info
  have ht := he.sl
  have hby : (l.length + m.length) * i0.bytes ≤ 140737488355328 := by
    have := Nat.mul_le_mul hlen hz2
    omega
  obtain ⟨A, c, rfl, hc, hat⟩ := hs
  have ho : w.ownsRow base t E.k v l.length (flatE E l) := hown
  cases m with
  | nil =>
    cases A with
    | none =>
      refine ⟨v, w, ?_, by simpa using hown, World.grownBy.refl w _, .inl rfl⟩
      rcases ho.2 with ⟨rfl, h0⟩ | ⟨g, cap, cur, rfl, _, _, hnc, _⟩
      · simp [Builtin.append_, run_underlying ht, sizeOf, typeInfo, hi, Builtin.lenOf, Builtin.firstCells]
      · simp [Builtin.append_, run_underlying ht, sizeOf, typeInfo, hi, Builtin.lenOf, Builtin.firstCells, hnc, storeCells]
    | some ad =>
      obtain ⟨v', w', h1, h2, h3, h4, h5⟩ := run_append_own_at (P := P) w base ts ty t i0 z E.k i0.bytes ht hi hz0 hz1 rfl hz3 E.pos v l.length (flatE E l) ho ad 0 c [] (by simp) (fun j u hu => by simp at hu) (by simp) (by unfold maxLen; simp at hlen ⊢; omega) (by simpa using hby) hbase
      exact ⟨v', w', h1, by unfold RowE; simpa using h2, h3, h5⟩
  | cons y m =>
    obtain ⟨b, off, rfl, _⟩ := hat 0 y rfl
    have hnews : ∀ j u, (flatE E (y :: m))[j]? = some u → w.cell? ((⟨b, off, none⟩ : Addr).add j) = some u := by
      intro j u hu
      have hj := (List.getElem?_eq_some_iff.1 hu).1
      rw [flatE_length] at hj
      have hk := E.pos
      have hi' : j / E.k < (y :: m).length := (Nat.div_lt_iff_lt_mul hk).2 hj
      obtain ⟨b', off', he', hx⟩ := hat (j / E.k) _ (List.getElem?_eq_getElem hi')
      injection he' with he'
      injection he' with e1 e2
      subst e1 e2
      have hdm : j / E.k * E.k + j % E.k = j := by rw [Nat.mul_comm]; exact Nat.div_add_mod j E.k
      have h1 := flatE_get _ (j / E.k) _ (j % E.k) (List.getElem?_eq_getElem hi') (Nat.mod_lt _ hk)
      rw [hdm, hu] at h1
      have h2 := hx (j % E.k) u h1.symm
      rw [add_plain]
      rw [Nat.add_assoc, hdm] at h2
      exact h2
    obtain ⟨v', w', h1, h2, h3, h4, h5⟩ := run_append_own_at (P := P) w base ts ty t i0 z E.k i0.bytes ht hi hz0 hz1 rfl hz3 E.pos v l.length (flatE E l) ho ⟨b, off, none⟩ (y :: m).length c (flatE E (y :: m)) (flatE_length _) hnews (flatE_oneCell _) (by unfold maxLen; omega) hby hbase
    exact ⟨v', w', h1, by unfold RowE; rw [flatE_append, List.length_append]; exact h2, h3, h5⟩
theorem wp_append_es {P : Program} {ts : TypeId} (he : EltOf P E t ts) {w : World} {o : Oper} {a : Act} {K : Act → World → Prop} {Q : Exit → Act → World → Prop} (s x : Operand)
    (ho : o.op = .call { callee := .builtin .append, args := #[s, x], argTypes := #[ts, ts] }) (base : Nat) (v : Value) (l : List α) (hv : a.eval s = v) (hown : RowE E t w base v l) (sv : Value) (m : List α) (hsv : a.eval x = sv) (hs : Es E w sv m)
    (hlen : l.length + m.length ≤ 1000000) (hbase : base ≤ w.heap.size)
    (h : ∀ v' w', RowE E t w' base v' (l ++ m) → w.grownBy w' v.ownBlock → (v'.ownBlock = v.ownBlock ∨ v'.ownBlock = some w.heap.size) → K (a.put o.dst v') w') : o.wp P a w K Q := by
  obtain ⟨v', w', hr, h2, h3, h4⟩ := run_append_es he w base o.type v l hown sv m hs hlen hbase
  unfold Oper.wp execOp
  simp only [ho, resolve, invoke, builtin, Sem.run_bind, Sem.run_pure, Result.andThen_ok, List.map_toArray, List.map_cons, List.map_nil, hv, hsv, hr]
  exact h v' w' h2 h3 h4
theorem wpList_append_es {P : Program} {ts : TypeId} (he : EltOf P E t ts) {w : World} {ops : Array Oper} {rest : List Oper} {o : Oper} {a : Act} {Q : Exit → Act → World → Prop} (hgd : o.guard = none) (s x : Operand)
    (ho : o.op = .call { callee := .builtin .append, args := #[s, x], argTypes := #[ts, ts] }) (base : Nat) (v : Value) (l : List α) (hv : a.eval s = v) (hown : RowE E t w base v l) (sv : Value) (m : List α) (hsv : a.eval x = sv) (hs : Es E w sv m)
    (hlen : l.length + m.length ≤ 1000000) (hbase : base ≤ w.heap.size)
    (h : ∀ v' w', RowE E t w' base v' (l ++ m) → w.grownBy w' v.ownBlock → (v'.ownBlock = v.ownBlock ∨ v'.ownBlock = some w.heap.size) → wpList P ops Q rest (a.put o.dst v') w') : wpList P ops Q (o :: rest) a w :=
  wpList_plain hgd fun _ hK => wp_append_es he s x ho base v l hv hown sv m hsv hs hlen hbase fun v' w' h2 h3 h4 => hK _ _ (h v' w' h2 h3 h4)

/-- Elements in a block of one's own: each lies there, and may be laid over. -/
structure HoldE (E : Elt α) (W : World) (g : Nat) (l : List α) : Prop where
  lies : ∀ i x, l[i]? = some x → ElAt E W g (i * E.k) x
  there : W.there g 0 (l.length * E.k)
theorem HoldE.is {W : World} {g c : Nat} {l : List α} (h : HoldE E W g l) (hc : l.length ≤ c) : Es E W (.slice (some ⟨g, 0, none⟩) l.length c) l :=
  ⟨_, _, rfl, hc, fun i x hx => ⟨g, 0, rfl, by rw [Nat.zero_add]; exact h.lies i x hx⟩⟩
theorem HoldE.isFirst {W : World} {g c k : Nat} {l : List α} (h : HoldE E W g l) (hk : k ≤ l.length) (hc : k ≤ c) : Es E W (.slice (some ⟨g, 0, none⟩) k c) (l.take k) :=
  ⟨_, c, by rw [List.length_take, Nat.min_eq_left hk], by rw [List.length_take, Nat.min_eq_left hk]; exact hc, fun i x hx => ⟨g, 0, rfl, by
    rw [Nat.zero_add]
    refine h.lies i x ?_
    rw [List.getElem?_take] at hx
    split at hx
    · exact hx
    · cases hx⟩⟩
theorem HoldE.thereAt {W : World} {g k : Nat} {l : List α} (h : HoldE E W g l) (hk : k < l.length) : W.there g (k * E.k) E.k := fun j hj => by
  have h2 := Nat.mul_le_mul_right E.k (show k + 1 ≤ l.length by omega)
  rw [Nat.add_mul] at h2
  have := h.there (k * E.k + j) (by omega)
  rw [Nat.zero_add] at this
  exact this
theorem HoldE.set {W : World} {g k : Nat} {l : List α} (h : HoldE E W g l) (hk : k < l.length) (x : α) : HoldE E (W.setCells g (k * E.k) (E.enc x)) g (l.set k x) := by
  refine ⟨fun i y hi => ?_, ?_⟩
  · by_cases hik : i = k
    · subst hik
      rw [List.getElem?_set_self hk] at hi
      cases hi
      exact World.rangeAt_setCells_same W g (i * E.k) (E.enc x) (by rw [E.len]; exact h.thereAt hk)
    · rw [List.getElem?_set_ne (fun e => hik e.symm)] at hi
      refine World.rangeAt_setCells_apart (h.lies i y hi) g (k * E.k) (E.enc x) (.inr ?_)
      rw [E.len, E.len]
      rcases Nat.lt_or_gt_of_ne hik with h1 | h1
      · have := Nat.mul_le_mul_right E.k (show i + 1 ≤ k by omega)
        rw [Nat.add_mul] at this
        omega
      · have := Nat.mul_le_mul_right E.k (show k + 1 ≤ i by omega)
        rw [Nat.add_mul] at this
        omega
  · rw [List.length_set]
    exact World.there_setCells h.there _ _ _
theorem HoldE.below {w w' : World} {g : Nat} {l : List α} (h : HoldE E w g l) (hb : Below w.heap.size w w') (hg : g < w.heap.size) : HoldE E w' g l := by
  refine ⟨fun i x hx => (h.lies i x hx).below hb, fun j hj => ?_⟩
  have h1 := h.there j hj
  have h2 := hb.block g hg
  simp only [World.cell?, World.frozen?, h2] at h1 ⊢
  exact h1
theorem HoldE.drewN {w : World} {g : Nat} {l : List α} (h : HoldE E w g l) (q : Nat) : HoldE E (w.drewN q) g l := ⟨h.lies, h.there⟩
theorem HoldE.drew {w : World} {g : Nat} {l : List α} (h : HoldE E w g l) : HoldE E w.drew g l := ⟨h.lies, h.there⟩
/-- A row of the call's own that is not empty. -/
theorem RowE.hold {W : World} {n : Nat} {v : Value} {l : List α} (h : RowE E t W n v l) (h0 : 0 < l.length) : ∃ g c, v = .slice (some ⟨g, 0, none⟩) l.length c ∧ l.length ≤ c ∧ n ≤ g ∧ g < W.heap.size ∧ HoldE E W g l := by
  have hi := h.is
  rcases h.2 with ⟨rfl, h1⟩ | ⟨g, cap, cur, rfl, hb, hg, hn, hm, hs, ht⟩
  · omega
  · refine ⟨g, cap, rfl, hn, hb, (Array.getElem?_eq_some_iff.1 hg).1, fun i x hx => ?_, fun j hj => ⟨?_, frozen_of_row W g _ _ _ hg⟩⟩
    · obtain ⟨b, off, he, hx'⟩ := hi.at hx
      cases he
      rwa [Nat.zero_add] at hx'
    · have hj' : 0 + j < cur.size := by rw [hs]; have := Nat.mul_le_mul_right E.k hn; omega
      simp [World.cell?, hg] at hj' ⊢
      exact hj'
/-- A store of an element into a block that holds elements. -/
theorem EltOf.wpStore {P : Program} {ts : TypeId} (he : EltOf P E t ts) {ops : Array Oper} {rest : List Oper} {o : Oper} {a : Act} {w : World} {Q : Exit → Act → World → Prop} (hg : o.guard = none) (p y : Operand) (ho : o.op = .store t p y) {g k off : Nat} {l : List α} (hold : HoldE E w g l) (hk : k < l.length) (hoff : off = k * E.k) (hx : a.eval p = .pointer (some ⟨g, off, none⟩)) {z : α} (hy : a.eval y = E.val z)
    (h : wpList P ops Q rest (a.put o.dst undef) (w.setCells g off (E.enc z))) : wpList P ops Q (o :: rest) a w := by
  subst hoff
  refine wpList_store_mid hg t p y ho g (k * E.k) (E.enc z).toArray hx hy (by simpa [E.len] using hold.thereAt hk) (by simpa [E.len] using he.size) (all_oneCell_toArray (E.one z)) ?_
  exact h
/-- The first ones stay, whatever is cleared behind them. -/
theorem HoldE.cleared {W : World} {g c k m : Nat} {l : List α} (h : HoldE E W g l) (hk : k ≤ l.length) (hc : k ≤ c) (z : List Value) (hm : m = k * E.k) : Es E (W.setCells g m z) (.slice (some ⟨g, 0, none⟩) k c) (l.take k) := by
  refine ⟨_, c, by rw [List.length_take, Nat.min_eq_left hk], by rw [List.length_take, Nat.min_eq_left hk]; exact hc, fun i x hx => ⟨g, 0, rfl, ?_⟩⟩
  rw [Nat.zero_add]
  rw [List.getElem?_take] at hx
  split at hx
  · next hik =>
    refine World.rangeAt_setCells_apart (h.lies i x hx) g m z (.inr (.inl ?_))
    rw [E.len, hm]
    have := Nat.mul_le_mul_right E.k (show i + 1 ≤ k by omega)
    rw [Nat.add_mul] at this
    omega
  · cases hx
theorem HoldE.clearedH {W : World} {g k m : Nat} {l : List α} (h : HoldE E W g l) (hk : k ≤ l.length) (z : List Value) (hm : m = k * E.k) : HoldE E (W.setCells g m z) g (l.take k) := by
  refine ⟨fun i x hx => ?_, fun j hj => ?_⟩
  · obtain ⟨b, off, he, h1⟩ := (h.cleared (c := k) hk (Nat.le_refl _) z hm).at hx
    injection he with he
    injection he with e1 e2
    subst e1 e2
    rwa [Nat.zero_add] at h1
  · refine World.there_setCells h.there _ _ _ j (Nat.lt_of_lt_of_le hj (Nat.mul_le_mul_right _ ?_))
    rw [List.length_take]
    omega
/-- A list in new memory, that may be laid over. -/
def NewE (E : Elt α) (W : World) (n : Nat) (v : Value) (l : List α) : Prop :=
  (l = [] ∧ ∃ A c, v = .slice A 0 c ∧ ∀ a, A = some a → n ≤ a.block) ∨ ∃ g c, v = .slice (some ⟨g, 0, none⟩) l.length c ∧ l.length ≤ c ∧ n ≤ g ∧ g < W.heap.size ∧ HoldE E W g l
theorem NewE.is {W : World} {n : Nat} {v : Value} {l : List α} (h : NewE E W n v l) : Es E W v l := by
  rcases h with ⟨rfl, A, c, rfl, _⟩ | ⟨g, c, rfl, hc, _, _, hH⟩
  · exact Es.empty _ _ _
  · exact hH.is hc
theorem NewE.new {W : World} {n : Nat} {v : Value} {l : List α} (h : NewE E W n v l) : ∀ j, v.ownBlock = some j → n ≤ j := by
  rcases h with ⟨rfl, A, c, rfl, hA⟩ | ⟨g, c, rfl, _, hg, _, _⟩
  · intro j hj
    cases A with
    | none => cases hj
    | some a => injection hj with hj; subst hj; exact hA a rfl
  · intro j hj
    injection hj with hj
    subst hj
    exact hg
theorem NewE.below {w w' : World} {n : Nat} {v : Value} {l : List α} (h : NewE E w n v l) (hb : Below w.heap.size w w') : NewE E w' n v l := by
  rcases h with h | ⟨g, c, rfl, hc, hg, hl, hH⟩
  · exact .inl h
  · exact .inr ⟨g, c, rfl, hc, hg, Nat.lt_of_lt_of_le hl hb.size, hH.below hb hl⟩
theorem NewE.base {w : World} {n n' : Nat} {v : Value} {l : List α} (h : NewE E w n v l) (hn : n' ≤ n) : NewE E w n' v l := by
  rcases h with ⟨h0, A, c, hv, hA⟩ | ⟨g, c, rfl, hc, hg, hl, hH⟩
  · exact .inl ⟨h0, A, c, hv, fun a ha => Nat.le_trans hn (hA a ha)⟩
  · exact .inr ⟨g, c, rfl, hc, Nat.le_trans hn hg, hl, hH⟩
theorem NewE.nil (W : World) (n : Nat) : NewE E W n (.slice none 0 0) [] := .inl ⟨rfl, none, 0, rfl, fun a ha => by cases ha⟩
theorem RowE.new {W : World} {n : Nat} {v : Value} {l : List α} (h : RowE E t W n v l) : NewE E W n v l := by
  by_cases h0 : 0 < l.length
  · obtain ⟨g, c, rfl, hc, hg, hl, hH⟩ := h.hold h0
    exact .inr ⟨g, c, rfl, hc, hg, hl, hH⟩
  · obtain rfl : l = [] := List.eq_nil_of_length_eq_zero (by omega)
    rcases h.2 with ⟨rfl, _⟩ | ⟨g, cap, cur, rfl, hb, _⟩
    · exact NewE.nil _ _
    · exact .inl ⟨rfl, _, cap, rfl, fun a ha => by injection ha with ha; subst ha; exact hb⟩
theorem zeroCells_es (z : Array Value) (k : Nat) (hk : 0 < k) (hz : z.size = k) (n : Nat) : (Builtin.zeroCells z n).size = n * k ∧ ∀ u ∈ (Builtin.zeroCells z n).toList, u ∈ z.toList := by
  constructor
  · simp [Builtin.zeroCells, hz, Nat.mul_comm]
  · intro u hu
    simp only [Builtin.zeroCells, Array.toList_map, List.mem_map] at hu
    obtain ⟨i, _, rfl⟩ := hu
    rw [getElem!_pos z (i % z.size) (Nat.mod_lt _ (by omega))]
    simp
theorem run_clear_es {P : Program} {ts : TypeId} (he : EltOf P E t ts) (w : World) (ty : TypeId) (b o n c : Nat) (hn : 0 < n) (ht : w.there b o (n * E.k)) :
    ∃ zs, (Builtin.clear_ #[ts] ty #[.slice (some ⟨b, o, none⟩) n c]).run P w = .ok (.tuple #[]) (w.setCells b o zs) := by
  obtain ⟨i0, z, hi, hz0, hz1, hz2, hz3, hz4⟩ := he.info
  obtain ⟨hzs, hzm⟩ := zeroCells_es z.cells E.k E.pos hz3 n
  have hv : ∀ w, (zeroValue t).run P w = .ok z w := fun w => by simp [zeroValue, typeInfo, hi, hz0]
  have hlen : (Builtin.zeroCells z.cells n).toList.length = n * E.k := by simpa using hzs
  have hst := run_storeCells_cells (P := P) b o (Builtin.zeroCells z.cells n).toList 0 w (fun j hj => (ht j (by rw [← hlen]; exact hj)).1) (fun j hj => (ht j (by rw [← hlen]; exact hj)).2) (fun v hv' => hz4 v (hzm v hv'))
  simp only [Nat.add_zero] at hst
  obtain ⟨m, rfl⟩ : ∃ m, n = m + 1 := ⟨n - 1, by omega⟩
  exact ⟨_, by simp [Builtin.clear_, run_underlying he.sl, hv, hst]; rfl⟩
theorem Kept.setCellsE {T : Nat → Prop} {w w' : World} {g : Nat} (h : Kept T w w') (hg : T g) : ∀ (vs : List Value) (o : Nat), Kept T w (w'.setCells g o vs) := by
  intro vs
  induction vs generalizing w' with
  | nil => intro o; exact h
  | cons v vs ih => intro o; exact ih (h.setCell (p := ⟨g, o, none⟩) (fun _ => hg) v) (o + 1)
end
end Go.Proofs.YtljihmbmjpcfaaaGreat
