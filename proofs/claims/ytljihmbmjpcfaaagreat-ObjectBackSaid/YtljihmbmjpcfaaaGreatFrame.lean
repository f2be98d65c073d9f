/- What is kept: all blocks that were there, but for some; and slices of bytes that read as a list. -/
import Derived.RangeFuncBox
import Derived.RangeFuncNested
import Derived.WalkKit
import Derived.Maps.AppendAt
import Derived.Laws.IdiomStrings
import Derived.Laws.BytesArg
namespace Go.Proofs.YtljihmbmjpcfaaaGreat
open Go Go.RowKit

/-- Of the blocks that w has, those for which T does not hold are in w' as they were. -/
structure Kept (T : Nat → Prop) (w w' : World) : Prop where
  os : w'.os = w.os
  tape : w'.tape = w.tape
  output : w'.output = w.output
  size : w.heap.size ≤ w'.heap.size
  block : ∀ k, k < w.heap.size → ¬ T k → w'.heap[k]? = w.heap[k]?

section
variable {T T' : Nat → Prop} {a b w w' : World}
theorem Kept.refl (T : Nat → Prop) (w : World) : Kept T w w := ⟨rfl, rfl, rfl, Nat.le_refl _, fun _ _ _ => rfl⟩
theorem Kept.trans (h : Kept T a b) (k : Kept T' b w) (hT : ∀ j, j < a.heap.size → T' j → T j) : Kept T a w :=
  ⟨k.os.trans h.os, k.tape.trans h.tape, k.output.trans h.output, Nat.le_trans h.size k.size,
   fun i hi hn => (k.block i (Nat.lt_of_lt_of_le hi h.size) (fun t => hn (hT i hi t))).trans (h.block i hi hn)⟩
theorem Kept.same (h : Kept T a b) (k : Kept T b w) : Kept T a w := h.trans k (fun _ _ t => t)
theorem Kept.mono (h : Kept T w w') (hT : ∀ k, k < w.heap.size → T k → T' k) : Kept T' w w' :=
  ⟨h.os, h.tape, h.output, h.size, fun k hk hn => h.block k hk (fun t => hn (hT k hk t))⟩
theorem Kept.drew (h : Kept T a w) : Kept T a w.drew := ⟨h.os, h.tape, h.output, h.size, h.block⟩
theorem Kept.of_grown {row : Option Nat} (hg : w.grownBy w' row) : Kept (fun j => row = some j) w w' :=
  ⟨hg.os, hg.tape, hg.output, hg.size, fun k hk hn => hg.block k hk (fun e => hn e.symm)⟩
theorem Kept.grown {row : Option Nat} (h : Kept T a w) (hg : w.grownBy w' row) (hr : ∀ j, row = some j → j < a.heap.size → T j) : Kept T a w' :=
  h.trans (Kept.of_grown hg) (fun j hj e => hr j e hj)
theorem Kept.alloc (h : Kept T a w) (o : Obj) : Kept T a (w.alloc o) := h.grown (World.grownBy_alloc w o none) (by simp)
theorem Kept.setCell (h : Kept T a w) {p : Addr} (hp : p.block < a.heap.size → T p.block) (u : Value) : Kept T a (w.setCell p u) :=
  h.trans (T' := fun j => j = p.block) ⟨rfl, rfl, rfl, by simp [World.setCell], fun k _ hk => Below.heap_setCell _ _ _ _ hk⟩ (fun j hj e => by subst e; exact hp hj)
theorem Kept.putObj (h : Kept T a w) {l : Nat} (hl : a.heap.size ≤ l) (o : Obj) : Kept T a (w.putObj l o) :=
  h.grown (grownBy_putObj' w l o) (fun j e hj => by cases e; omega)
theorem Kept.of_below {B : Nat} (h : Below B w w') (hB : w.heap.size ≤ B) (T : Nat → Prop) : Kept T w w' :=
  ⟨h.os, h.tape, h.output, h.size, fun k hk _ => h.block k (by omega)⟩
theorem Kept.of_below' {B : Nat} (h : Below B w w') : Kept (fun j => B ≤ j) w w' :=
  ⟨h.os, h.tape, h.output, h.size, fun k _ hn => h.block k (by omega)⟩
theorem Kept.below {B : Nat} (h : Kept T w w') (hT : ∀ j, j < w.heap.size → T j → B ≤ j) (hB : B ≤ w.heap.size) : Below B w w' :=
  ⟨h.os, h.tape, h.output, h.size, fun k hk => h.block k (by omega) (fun t => by have := hT k (by omega) t; omega)⟩
theorem Kept.boxed {B : Nat} {t : TypeId} {v : Value} (h : Kept T w w') (hb : Boxed w B t v) (hn : ¬ T B) : Boxed w' B t v := (h.block B hb.lt hn).trans hb
theorem Kept.owns {base : Nat} {e : TypeId} {size : Nat} {v : Value} {n : Nat} {xs : List Value} (h : Kept T w w') (hr : w.ownsRow base e size v n xs) (hn : ∀ j, v.ownBlock = some j → ¬ T j) : w'.ownsRow base e size v n xs := by
  refine ⟨hr.1, ?_⟩
  rcases hr.2 with h2 | ⟨g, cap, cur, rfl, hb, hg, r⟩
  · exact .inl h2
  · exact .inr ⟨g, cap, cur, rfl, hb, (h.block g (Array.getElem?_eq_some_iff.1 hg).1 (hn g rfl)).trans hg, r⟩
theorem Kept.cell {p : Addr} (h : Kept T w w') (hp : p.block < w.heap.size) (hn : ¬ T p.block) : w'.cell? p = w.cell? p := World.cell?_of_block (h.block _ hp hn)
theorem Kept.frozen {p : Addr} (h : Kept T w w') (hp : p.block < w.heap.size) (hn : ¬ T p.block) : w'.frozen? p = w.frozen? p := World.frozen?_of_block (h.block _ hp hn)
end

theorem undrew {w w' : World} {row : Option Nat} (h : w.drew.grownBy w' row) : w.grownBy w' row := ⟨h.os, h.tape, h.output, h.size, h.block⟩

theorem owns_form {w : World} {base : Nat} {e : TypeId} {size : Nat} {v : Value} {n : Nat} {xs : List Value} (h : w.ownsRow base e size v n xs) (hn : 0 < n) : ∃ g m cap, v = .slice (some ⟨g, 0, none⟩) m cap := by
  rcases h.2 with ⟨_, h0⟩ | ⟨g, cap, _, rfl, _⟩
  · omega
  · exact ⟨g, n, cap, rfl⟩

theorem owns_slice {w : World} {base : Nat} {e : TypeId} {size : Nat} {v : Value} {n : Nat} {xs : List Value} (h : w.ownsRow base e size v n xs) : ∃ A m cap, v = .slice A m cap := by
  rcases h.2 with ⟨rfl, h0⟩ | ⟨g, cap, _, rfl, _⟩
  · exact ⟨_, _, _, rfl⟩
  · exact ⟨_, _, _, rfl⟩

theorem owns_base {w : World} {base base' : Nat} {e : TypeId} {size : Nat} {v : Value} {n : Nat} {xs : List Value} (h : w.ownsRow base e size v n xs) (hb : base' ≤ base) : w.ownsRow base' e size v n xs := by
  refine ⟨h.1, ?_⟩
  rcases h.2 with h2 | ⟨g, cap, cur, rfl, hg, r⟩
  · exact .inl h2
  · exact .inr ⟨g, cap, cur, rfl, Nat.le_trans hb hg, r⟩
theorem owns_set {w : World} {base : Nat} {e : TypeId} {size : Nat} {v : Value} {n : Nat} {xs : List Value} (h : w.ownsRow base e size v n xs) {b : Nat} {t : TypeId} {u : Value} (hb : Boxed w b t u) (hte : t ≠ e) (u' : Value) : (w.setCell ⟨b, 0, none⟩ u').ownsRow base e size v n xs :=
  h.kept (grownBy_setCell' w b u') (.inr (hb.not_row hte h).symm)

/-- A byte as a value. -/
abbrev B8 (b : UInt8) : Value := .int .u8 (b.toNat : Int)

theorem add_block (a : Addr) (n : Nat) : (a.add n).block = a.block := by unfold Addr.add; split <;> rfl
theorem add_add (a : Addr) (i j : Nat) : (a.add i).add j = a.add (i + j) := by
  unfold Addr.add
  by_cases hi : i = 0 <;> by_cases hj : j = 0 <;> simp [hi, hj, Nat.add_assoc]
theorem add_plain (b off i : Nat) : (⟨b, off, none⟩ : Addr).add i = ⟨b, off + i, none⟩ := by
  unfold Addr.add
  split
  · rename_i h; subst h; rfl
  · rfl
theorem cell_plain {W : World} {a : Addr} {v : Value} (h : W.cell? a = some v) : a = ⟨a.block, a.off, none⟩ := by
  obtain ⟨b, o, s⟩ := a
  cases s with
  | none => rfl
  | some k =>
    simp only [World.cell?] at h
    split at h <;> simp at h

/-- The slice value v reads as the bytes xs. -/
def Bs (W : World) (v : Value) (xs : List UInt8) : Prop :=
  (v = .slice none 0 0 ∧ xs = []) ∨
  ∃ (ad : Addr) (c : Nat), v = .slice (some ad) xs.length c ∧ xs.length ≤ c ∧ ∀ i x, xs[i]? = some x → W.cell? (ad.add i) = some (B8 x)

theorem Kept.bs {T : Nat → Prop} {w w' : World} {v : Value} {xs : List UInt8} (h : Kept T w w') (hr : Bs w v xs) (hn : ∀ j, v.ownBlock = some j → ¬ T j) : Bs w' v xs := by
  rcases hr with hr | ⟨ad, c, rfl, hc, hx⟩
  · exact .inl hr
  · refine .inr ⟨ad, c, rfl, hc, fun i x hi => ?_⟩
    have h1 := hx i x hi
    exact (h.cell (World.block_lt_of_cell? w _ h1) (by rw [add_block]; exact hn ad.block rfl)).trans h1

theorem Kept.bs1 {T : Nat → Prop} {w w' : World} {v : Value} {xs : List UInt8} (h : Kept T w w') (hr : Bs w v xs) (hn : xs ≠ [] → ∀ j, v.ownBlock = some j → ¬ T j) : Bs w' v xs := by
  by_cases hx : xs = []
  · subst hx
    rcases hr with hr | ⟨ad, c, rfl, hc, _⟩
    · exact .inl hr
    · exact .inr ⟨ad, c, rfl, hc, fun i x hi => by simp at hi⟩
  · exact h.bs hr (hn hx)
theorem Bs.nil (W : World) : Bs W (.slice none 0 0) [] := .inl ⟨rfl, rfl⟩
theorem Bs.form {W : World} {v : Value} {xs : List UInt8} (h : Bs W v xs) : ∃ A c, v = .slice A xs.length c ∧ xs.length ≤ c := by
  rcases h with ⟨rfl, rfl⟩ | ⟨ad, c, rfl, hc, _⟩
  · exact ⟨none, 0, rfl, Nat.le_refl _⟩
  · exact ⟨_, c, rfl, hc⟩
/-- Where there is a byte, there is a plain place. -/
theorem Bs.cons {W : World} {v : Value} {x : UInt8} {xs : List UInt8} (h : Bs W v (x :: xs)) : ∃ b off c, v = .slice (some ⟨b, off, none⟩) (x :: xs).length c ∧ (x :: xs).length ≤ c ∧ ∀ i y, (x :: xs)[i]? = some y → W.cell? ⟨b, off + i, none⟩ = some (B8 y) := by
  rcases h with ⟨_, h⟩ | ⟨ad, c, rfl, hc, hx⟩
  · cases h
  · have h0 := hx 0 x rfl
    have h1 : ad.add 0 = ad := by simp [Addr.add]
    rw [h1] at h0
    have hp := cell_plain h0
    rw [hp] at hx
    exact ⟨ad.block, ad.off, c, by rw [← hp], hc, fun i y hi => by have := hx i y hi; rwa [add_plain] at this⟩
theorem Bs.lt {w : World} {v : Value} {xs : List UInt8} (h : Bs w v xs) (hx : xs ≠ []) : ∀ j, v.ownBlock = some j → j < w.heap.size := by
  intro j hj
  cases xs with
  | nil => exact absurd rfl hx
  | cons x xs =>
    obtain ⟨b, off, c, rfl, _, hc⟩ := h.cons
    have := World.block_lt_of_cell? w _ (hc 0 x rfl)
    have e : some b = some j := hj
    cases e
    exact this
theorem Bs.below {w w' : World} {v : Value} {xs : List UInt8} (h : Bs w v xs) (hb : Below w.heap.size w w') : Bs w' v xs :=
  (Kept.of_below' hb).bs1 h (fun hx j hj t => by have := h.lt hx j hj; omega)
theorem Bs.of_owns {W : World} {base : Nat} {e : TypeId} {v : Value} {xs : List UInt8} (h : W.ownsRow base e 1 v xs.length (xs.map B8)) : Bs W v xs := by
  rcases h.2 with ⟨rfl, h0⟩ | ⟨g, cap, cur, rfl, hb, hg, hn, hm, hs, ht⟩
  · exact .inl ⟨rfl, List.eq_nil_of_length_eq_zero h0⟩
  · refine .inr ⟨⟨g, 0, none⟩, cap, rfl, hn, fun i x hi => ?_⟩
    rw [add_plain]
    have hlt : i < xs.length := (List.getElem?_eq_some_iff.1 hi).1
    have : (cur.toList.take (xs.length * 1))[i]? = some (B8 x) := by rw [ht, List.getElem?_map, hi]; rfl
    rw [List.getElem?_take, if_pos (by omega)] at this
    simp only [World.cell?, hg, Nat.zero_add]
    simpa using this

theorem bs_oneCell (xs : List UInt8) : ∀ u ∈ xs.map B8, u.oneCell' = true := by
  intro u hu
  obtain ⟨x, _, rfl⟩ := List.mem_map.1 hu
  rfl

/-- append of bytes that read as ys onto a row of the call's own. -/
theorem run_append_bs {P : Program} (w : World) (base : Nat) (t ty e : TypeId) (i : TypeInfo) (ht : P.underlying t = some (.slice e)) (hi : P.info? e = some i) (hz : i.zero = some (.int .u8 0))
    (hsize : i.size = 1) (hby : i.bytes = 1) (v : Value) (xs : List UInt8) (hown : w.ownsRow base e 1 v xs.length (xs.map B8)) (sv : Value) (ys : List UInt8) (hs : Bs w sv ys)
    (hlen : xs.length + ys.length ≤ 140737488355328) (hbase : base ≤ w.heap.size) :
    ∃ v' w', (Builtin.append_ #[t, t] ty #[v, sv]).run P w = .ok v' w' ∧ w'.ownsRow base e 1 v' (xs ++ ys).length ((xs ++ ys).map B8) ∧ w.grownBy w' v.ownBlock ∧
      (v'.ownBlock = v.ownBlock ∨ v'.ownBlock = some w.heap.size) ∧ (v = .slice none 0 0 ∧ ys = [] → v' = .slice none 0 0) ∧ (v' = .slice none 0 0 → v = .slice none 0 0 ∧ ys = []) := by
  rcases hs with ⟨rfl, rfl⟩ | ⟨ad, c, rfl, hc, hx⟩
  · refine ⟨v, w, ?_, by simpa using hown, World.grownBy.refl w _, .inl rfl, fun h => h.1, fun h => ⟨h, rfl⟩⟩
    rcases hown.2 with ⟨rfl, h0⟩ | ⟨g, cap, cur, rfl, _, _, hnc, _⟩
    · simp [Builtin.append_, run_underlying ht, sizeOf, typeInfo, hi, Builtin.lenOf, Builtin.firstCells]
    · simp [Builtin.append_, run_underlying ht, sizeOf, typeInfo, hi, Builtin.lenOf, Builtin.firstCells, hnc, storeCells]
  · obtain ⟨v', w', h1, h2, h3, h4, h5⟩ := run_append_own_at (P := P) w base t ty e i (.int .u8 0) 1 1 ht hi hz hsize hby rfl (by omega) v xs.length (xs.map B8) hown ad ys.length c (ys.map B8) (by simp)
      (fun j u hu => by
        rw [List.getElem?_map] at hu
        obtain ⟨x, hxj, rfl⟩ := Option.map_eq_some_iff.1 hu
        exact hx j x hxj)
      (bs_oneCell ys) (by unfold maxLen; omega) (by omega) hbase
    refine ⟨v', w', h1, by simpa using h2, h3, h5, fun ⟨h, h'⟩ => h4.2 ⟨h, by simp [h']⟩, fun h => ?_⟩
    obtain ⟨ha, hb⟩ := h4.1 h
    exact ⟨ha, List.eq_nil_of_length_eq_zero hb⟩

/-- At the operation. -/
theorem wp_append_bs {P : Program} {w : World} {o : Oper} {a : Act} {K : Act → World → Prop} {Q : Exit → Act → World → Prop} (s x : Operand) (t : TypeId)
    (ho : o.op = .call { callee := .builtin .append, args := #[s, x], argTypes := #[t, t] })
    (base : Nat) (e : TypeId) (i : TypeInfo) (ht : P.underlying t = some (.slice e)) (hi : P.info? e = some i) (hz : i.zero = some (.int .u8 0))
    (hsize : i.size = 1) (hby : i.bytes = 1) (v : Value) (xs : List UInt8) (hv : a.eval s = v) (hown : w.ownsRow base e 1 v xs.length (xs.map B8)) (sv : Value) (ys : List UInt8) (hsv : a.eval x = sv) (hs : Bs w sv ys)
    (hlen : xs.length + ys.length ≤ 140737488355328) (hbase : base ≤ w.heap.size)
    (h : ∀ v' w', w'.ownsRow base e 1 v' (xs ++ ys).length ((xs ++ ys).map B8) → w.grownBy w' v.ownBlock → (v'.ownBlock = v.ownBlock ∨ v'.ownBlock = some w.heap.size) →
      (v = .slice none 0 0 ∧ ys = [] → v' = .slice none 0 0) → (v' = .slice none 0 0 → v = .slice none 0 0 ∧ ys = []) → K (a.put o.dst v') w') : o.wp P a w K Q := by
  obtain ⟨v', w', hr, h2, h3, h4, h5, h6⟩ := run_append_bs (P := P) w base t o.type e i ht hi hz hsize hby v xs hown sv ys hs hlen hbase
  unfold Oper.wp execOp
  simp only [ho, resolve, invoke, builtin, Sem.run_bind, Sem.run_pure, Result.andThen_ok, List.map_toArray, List.map_cons, List.map_nil, hv, hsv, hr]
  exact h v' w' h2 h3 h4 h5 h6

theorem wpList_append_bs {P : Program} {w : World} {ops : Array Oper} {rest : List Oper} {o : Oper} {a : Act} {Q : Exit → Act → World → Prop} (hgd : o.guard = none) (s x : Operand) (t : TypeId)
    (ho : o.op = .call { callee := .builtin .append, args := #[s, x], argTypes := #[t, t] })
    (base : Nat) (e : TypeId) (i : TypeInfo) (ht : P.underlying t = some (.slice e)) (hi : P.info? e = some i) (hz : i.zero = some (.int .u8 0))
    (hsize : i.size = 1) (hby : i.bytes = 1) (v : Value) (xs : List UInt8) (hv : a.eval s = v) (hown : w.ownsRow base e 1 v xs.length (xs.map B8)) (sv : Value) (ys : List UInt8) (hsv : a.eval x = sv) (hs : Bs w sv ys)
    (hlen : xs.length + ys.length ≤ 140737488355328) (hbase : base ≤ w.heap.size)
    (h : ∀ v' w', w'.ownsRow base e 1 v' (xs ++ ys).length ((xs ++ ys).map B8) → w.grownBy w' v.ownBlock → (v'.ownBlock = v.ownBlock ∨ v'.ownBlock = some w.heap.size) →
      (v = .slice none 0 0 ∧ ys = [] → v' = .slice none 0 0) → (v' = .slice none 0 0 → v = .slice none 0 0 ∧ ys = []) → wpList P ops Q rest (a.put o.dst v') w') : wpList P ops Q (o :: rest) a w :=
  wpList_plain hgd fun _ hK => wp_append_bs s x t ho base e i ht hi hz hsize hby v xs hv hown sv ys hsv hs hlen hbase fun v' w' h2 h3 h4 h5 h6 => hK _ _ (h v' w' h2 h3 h4 h5 h6)

/-- The one byte that an append of one lays in a block of its own. -/
theorem Bs.one (w : World) (x : UInt8) (t : TypeId) : Bs (w.alloc (.cells #[B8 x] t)) (.slice (some ⟨w.heap.size, 0, none⟩) 1 1) [x] := by
  refine .inr ⟨⟨w.heap.size, 0, none⟩, 1, rfl, Nat.le_refl _, fun i y hi => ?_⟩
  rw [add_plain]
  match i, hi with
  | 0, hi =>
    simp at hi
    subst hi
    simp

/-- A beginning of the bytes; what is behind it. -/
theorem Bs.take {W : World} {A : Option Addr} {m c : Nat} {xs : List UInt8} (h : Bs W (.slice A m c) xs) {k : Nat} (hk : k ≤ xs.length) : Bs W (.slice A k c) (xs.take k) := by
  rcases h with ⟨h1, rfl⟩ | ⟨ad, c', h1, hc, hx⟩
  · injection h1 with e1 e2 e3
    subst e1 e3
    obtain rfl : k = 0 := by simpa using hk
    exact .inl ⟨rfl, rfl⟩
  · injection h1 with e1 e2 e3
    subst e1 e2 e3
    have hl : (xs.take k).length = k := by simp; omega
    refine .inr ⟨ad, c, by rw [hl], by rw [hl]; omega, fun i x hi => hx i x ?_⟩
    rw [List.getElem?_take] at hi
    split at hi
    · exact hi
    · cases hi

/-- How the model cuts a slice at k. -/
theorem Bs.drop {W : World} {A : Option Addr} {m c : Nat} {xs : List UInt8} (h : Bs W (.slice A m c) xs) {k : Nat} (hk : k ≤ xs.length) : Bs W (.slice (if c = k then A else A.map (·.add k)) (m - k) (c - k)) (xs.drop k) := by
  rcases h with ⟨h1, rfl⟩ | ⟨ad, c', h1, hc, hx⟩
  · injection h1 with e1 e2 e3
    subst e1 e2 e3
    obtain rfl : k = 0 := by simpa using hk
    exact .inl ⟨by simp, rfl⟩
  · injection h1 with e1 e2 e3
    subst e1 e2 e3
    by_cases hck : c = k
    · subst hck
      rw [if_pos rfl]
      have : c = xs.length := by omega
      subst this
      exact .inr ⟨ad, 0, by simp, by simp, fun i x hi => by simp at hi⟩
    · rw [if_neg hck]
      refine .inr ⟨ad.add k, c - k, by simp, by simp; omega, fun i x hi => ?_⟩
      rw [List.getElem?_drop] at hi
      rw [add_add]
      exact hx (k + i) x hi
theorem ownBlock_cut (A : Option Addr) (m c k m' c' : Nat) : (Value.slice (if c = k then A else A.map (·.add k)) m' c').ownBlock = (Value.slice A m c).ownBlock := by
  cases A with
  | none => simp [Value.ownBlock]
  | some ad => by_cases h : c = k <;> simp [h, Value.ownBlock, Addr.add] <;> split <;> rfl

/-- Bytes as a string. -/
abbrev Str (xs : List UInt8) : Value := .string ⟨xs.toArray⟩
/-- string(b). -/
theorem run_string_bs {P : Program} (w : World) (src dst e : TypeId) (hs : P.underlying src = some (.slice e)) (he : P.underlying e = some (.int .u8)) (hd : P.underlying dst = some .string) {v : Value} {xs : List UInt8} (h : Bs w v xs) :
    (convert src dst v).run P w = .ok (Str xs) w := by
  rcases h with ⟨rfl, rfl⟩ | ⟨ad, c, rfl, hc, hx⟩
  · rw [run_convert_bytes_string w src dst e none 0 0 hs he hd]
    simp [Conv.bytesToString, Sem.run_pure]
    rfl
  · exact run_convert_bytes_back w src dst e ad c xs hs he hd (fun j hj => hx j xs[j] (List.getElem?_eq_getElem hj))

theorem str_take (ys : List UInt8) (n : Nat) : (({ data := ys.toArray } : ByteArray).extract 0 n).toList = ys.take n := by
  rw [ByteArray.toList_eq]
  simp [ByteArray.data_extract]
theorem str_inj {a b : List UInt8} : Str a = Str b ↔ a = b := by simp

end Go.Proofs.YtljihmbmjpcfaaaGreat
