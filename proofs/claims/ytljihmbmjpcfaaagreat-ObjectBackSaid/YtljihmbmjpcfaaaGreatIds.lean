/- Ids: 32 bytes as an array; one read out of memory; two held against one another. -/
import Derived.Test.YtljihmbmjpcfaaaGreatLebSrc
import Derived.Deep.MidRow
import Derived.Stop.BytesEq
namespace Go.Proofs.YtljihmbmjpcfaaaGreat
open Go.RowKit Go.Shelf

/-- An id as a value. -/
abbrev IdV (xs : List UInt8) : Value := .agg (xs.map B8).toArray
theorem infoID : (Tryz.prog.info? 25).map (fun i => (i.size, i.bytes)) = some (32, 32) := by kernel_rfl
theorem sizeID {xs : List UInt8} (h : xs.length = 32) : (Tryz.prog.info? 25).map (·.size) = some (xs.map B8).length := by
  rw [List.length_map, h]
  kernel_rfl
theorem infoID3 : (Tryz.prog.info? 25).map (fun i => (i.zero, i.size, i.bytes)) = some (some (.agg (Array.replicate 32 (.int .u8 0))), 32, 32) := by kernel_rfl
/-- An id lies there. -/
abbrev IdAt (W : World) (b o : Nat) (xs : List UInt8) : Prop := W.rangeAt b o (xs.map B8)
theorem load_id (w : World) (b o : Nat) {xs : List UInt8} (h : xs.length = 32) (hx : IdAt w b o xs) : (Instr.loadAt 25 (.pointer (some ⟨b, o, none⟩))).run Tryz.prog w = .ok (IdV xs) w :=
  run_loadAt_mid w b o 25 (xs.map B8) _ hx Tryz.underlying25 rfl (sizeID h)
theorem IdAt.below {w w' : World} {b o : Nat} {xs : List UInt8} (h : IdAt w b o xs) (hb : Below w.heap.size w w') : IdAt w' b o xs := fun j v hv =>
  (hb.cell (p := ⟨b, o + j, none⟩) (World.block_lt_of_cell? _ _ (h j v hv))).trans (h j v hv)
theorem IdAt.cell {w : World} {b o : Nat} {xs : List UInt8} (h : IdAt w b o xs) {j : Nat} {x : UInt8} (hx : xs[j]? = some x) : w.cell? ⟨b, o + j, none⟩ = some (B8 x) :=
  h j _ (by rw [List.getElem?_map, hx]; rfl)
/-- A boxed id. -/
theorem IdAt.box (w : World) (xs : List UInt8) (t : TypeId) : IdAt (w.alloc (.cells (xs.map B8).toArray t)) w.heap.size 0 xs := fun j v hv => by
  obtain ⟨h1, h2⟩ := List.getElem?_eq_some_iff.1 hv
  simp at h1 h2
  simp [h1, h2]

theorem size1 (w : World) : (sizeOf 5).run Tryz.prog w = .ok 1 w := by
  obtain ⟨i0, hi, hz0, hz1, hz2⟩ := info_parts infoU8
  simp [sizeOf, typeInfo, hi, hz1]
theorem equal_id (w : World) {xs ys : List UInt8} (hx : xs.length = 32) (hy : ys.length = 32) : (Op.equalIn 10000 25 (IdV xs) (IdV ys)).run Tryz.prog w = .ok (xs == ys) w :=
  run_equalIn_bytes (P := Tryz.prog) w 9998 25 5 32 Tryz.underlying25 Tryz.underlying5 size1 xs ys hx hy
theorem exec_load_id {a : Act} {o : Oper} {x : Operand} (ho : o.op = .load 25 x) {b off : Nat} (hx : a.eval x = .pointer (some ⟨b, off, none⟩)) {xs : List UInt8} (h32 : xs.length = 32) {W : World} (h : IdAt W b off xs) : (execOp a.eval o).run Tryz.prog W = .ok (.value (IdV xs)) W := by
  unfold execOp
  simp only [ho, hx, Sem.run_bind, load_id W b off h32 h, Result.andThen_ok, Sem.run_pure]
theorem eql_id (w : World) {xs ys : List UInt8} (hx : xs.length = 32) (hy : ys.length = 32) : (binOp .eql 25 (IdV xs) (IdV ys)).run Tryz.prog w = .ok (.bool (xs == ys)) w :=
  run_eql_bytes w 25 5 32 Tryz.underlying25 Tryz.underlying5 size1 xs ys hx hy
theorem neq_id (w : World) {xs ys : List UInt8} (hx : xs.length = 32) (hy : ys.length = 32) : (binOp .neq 25 (IdV xs) (IdV ys)).run Tryz.prog w = .ok (.bool (!(xs == ys))) w := by
  rw [run_neq_struct]
  have h := run_equalIn_bytes (P := Tryz.prog) w 9998 25 5 32 Tryz.underlying25 Tryz.underlying5 size1 xs ys hx hy
  have h' : (Op.equalIn 10000 25 (IdV xs) (IdV ys)).run Tryz.prog w = .ok (xs == ys) w := h
  rw [h']
  rfl

/-- A slice of ids. -/
def Is (W : World) (v : Value) (l : List (List UInt8)) : Prop :=
  (∀ x ∈ l, x.length = 32) ∧ ∃ A c, v = .slice A l.length c ∧ l.length ≤ c ∧ ∀ (i : Nat) (x : List UInt8), l[i]? = some x → ∃ b off, A = some ⟨b, off, none⟩ ∧ IdAt W b (off + i * 32) x
theorem Is.form {W : World} {v : Value} {l : List (List UInt8)} (h : Is W v l) : ∃ A c, v = .slice A l.length c ∧ l.length ≤ c := by
  obtain ⟨_, A, c, rfl, hc, _⟩ := h
  exact ⟨A, c, rfl, hc⟩
theorem Is.at {W : World} {A : Option Addr} {n c : Nat} {l : List (List UInt8)} (h : Is W (.slice A n c) l) {i : Nat} {x : List UInt8} (hx : l[i]? = some x) : x.length = 32 ∧ ∃ b off, A = some ⟨b, off, none⟩ ∧ IdAt W b (off + i * 32) x := by
  obtain ⟨h1, A', c', he, _, h2⟩ := h
  injection he with e1 e2 e3
  subst e1
  exact ⟨h1 x (List.mem_of_getElem? hx), h2 i x hx⟩
theorem Is.below {w w' : World} {v : Value} {l : List (List UInt8)} (h : Is w v l) (hb : Below w.heap.size w w') : Is w' v l := by
  obtain ⟨h1, A, c, rfl, hc, h2⟩ := h
  refine ⟨h1, A, c, rfl, hc, fun i x hx => ?_⟩
  obtain ⟨b, off, rfl, h3⟩ := h2 i x hx
  exact ⟨b, off, rfl, h3.below hb⟩
theorem Is.empty (W : World) (A : Option Addr) (c : Nat) : Is W (.slice A 0 c) [] := ⟨by simp, A, c, rfl, by simp, fun i x hx => by simp at hx⟩
theorem Is.nil (W : World) : Is W (.slice none 0 0) [] := ⟨by simp, none, 0, rfl, by simp, fun i x hx => by simp at hx⟩

theorem Is.take {W : World} {A : Option Addr} {m c : Nat} {l : List (List UInt8)} (h : Is W (.slice A m c) l) {k : Nat} (hk : k ≤ l.length) : Is W (.slice A k c) (l.take k) := by
  obtain ⟨h1, A', c', he, hc, h2⟩ := h
  injection he with e1 e2 e3
  subst e1 e3
  have hl : (l.take k).length = k := by simp; omega
  refine ⟨fun x hx => h1 x (List.mem_of_mem_take hx), A, c, by rw [hl], by rw [hl]; omega, fun i x hx => h2 i x ?_⟩
  rw [List.getElem?_take] at hx
  split at hx
  · exact hx
  · cases hx
theorem Is.drop {W : World} {A : Option Addr} {m c : Nat} {l : List (List UInt8)} (h : Is W (.slice A m c) l) {k : Nat} (hk : k ≤ l.length) : Is W (.slice (if c = k then A else A.map (·.add (k * 32))) (m - k) (c - k)) (l.drop k) := by
  obtain ⟨h1, A', c', he, hc, h2⟩ := h
  injection he with e1 e2 e3
  subst e1 e2 e3
  refine ⟨fun x hx => h1 x (List.mem_of_mem_drop hx), _, c - k, by rw [List.length_drop], by rw [List.length_drop]; omega, fun i x hx => ?_⟩
  rw [List.getElem?_drop] at hx
  obtain ⟨b, off, rfl, h3⟩ := h2 _ x hx
  have hlt := (List.getElem?_eq_some_iff.1 hx).1
  rw [if_neg (by omega)]
  refine ⟨b, off + k * 32, by simp [add_plain], ?_⟩
  rw [Nat.add_assoc, ← Nat.add_mul]
  exact h3

/-- Which one stands ahead. -/
def cmpB : List UInt8 → List UInt8 → Int
  | x :: xs, y :: ys => if x < y then -1 else if y < x then 1 else cmpB xs ys
  | _, _ => 0
end Go.Proofs.YtljihmbmjpcfaaaGreat
