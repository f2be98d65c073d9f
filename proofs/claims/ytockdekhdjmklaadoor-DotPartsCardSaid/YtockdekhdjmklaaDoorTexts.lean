/- Slices of strings in memory. -/
import Derived.Test.YtockdekhdjmklaaDoorKit
namespace Go.Proofs.YtockdekhdjmklaaDoor
open Go.RowKit

theorem infoStr3 : (Tryd.prog.info? 9).map (fun i => (i.zero, i.size, i.bytes)) = some (some (.string ⟨#[]⟩), 1, 16) := by kernel_rfl
/-- A slice of strings. -/
def Ss (W : World) (v : Value) (l : List (List UInt8)) : Prop :=
  ∃ A c, v = .slice A l.length c ∧ l.length ≤ c ∧ ∀ (i : Nat) (x : List UInt8), l[i]? = some x → ∃ b off, A = some ⟨b, off, none⟩ ∧ W.cell? ⟨b, off + i, none⟩ = some (Str x)
theorem Ss.form {W : World} {v : Value} {l : List (List UInt8)} (h : Ss W v l) : ∃ A c, v = .slice A l.length c ∧ l.length ≤ c := by
  obtain ⟨A, c, rfl, hc, _⟩ := h
  exact ⟨A, c, rfl, hc⟩
theorem Ss.at {W : World} {A : Option Addr} {n c : Nat} {l : List (List UInt8)} (h : Ss W (.slice A n c) l) {i : Nat} {x : List UInt8} (hx : l[i]? = some x) : ∃ b off, A = some ⟨b, off, none⟩ ∧ W.cell? ⟨b, off + i, none⟩ = some (Str x) := by
  obtain ⟨A', c', he, _, h2⟩ := h
  injection he with e1 e2 e3
  subst e1
  exact h2 i x hx
theorem Ss.below {w w' : World} {v : Value} {l : List (List UInt8)} (h : Ss w v l) (hb : Below w.heap.size w w') : Ss w' v l := by
  obtain ⟨A, c, rfl, hc, h2⟩ := h
  refine ⟨A, c, rfl, hc, fun i x hx => ?_⟩
  obtain ⟨b, off, rfl, h3⟩ := h2 i x hx
  exact ⟨b, off, rfl, (hb.cell (p := ⟨b, off + i, none⟩) (World.block_lt_of_cell? _ _ h3)).trans h3⟩
theorem Ss.nil (W : World) : Ss W (.slice none 0 0) [] := ⟨none, 0, rfl, by simp, fun i x hx => by simp at hx⟩
/-- A row of strings of the call's own. -/
def RowS (W : World) (n : Nat) (v : Value) (l : List (List UInt8)) : Prop := W.ownsRow n 9 1 v l.length (l.map fun x => Str x)
theorem RowS.nil (W : World) (n : Nat) : RowS W n (.slice none 0 0) [] := World.ownsRow_nil _ _ _ _
theorem RowS.ss {W : World} {n : Nat} {v : Value} {l : List (List UInt8)} (h : RowS W n v l) : Ss W v l := by
  rcases h.2 with ⟨rfl, h0⟩ | ⟨g, cap, cur, rfl, hb, hg, hn, hm, hs, ht⟩
  · have : l = [] := List.eq_nil_of_length_eq_zero h0
    subst this
    exact Ss.nil W
  · refine ⟨_, cap, rfl, hn, fun i x hx => ⟨g, 0, rfl, ?_⟩⟩
    have hi : i < l.length := (List.getElem?_eq_some_iff.1 hx).1
    have h1 : (l.map fun x => Str x)[i]? = some (Str x) := by rw [List.getElem?_map, hx]; rfl
    rw [← ht, List.getElem?_take, if_pos (by omega)] at h1
    rw [Nat.zero_add]
    simp only [World.cell?, hg]
    simpa using h1
theorem RowS.below {w w' : World} {n : Nat} {v : Value} {l : List (List UInt8)} (h : RowS w n v l) (hb : Below w.heap.size w w') : RowS w' n v l := owns_below h hb
theorem RowS.slice {w : World} {n : Nat} {v : Value} {l : List (List UInt8)} (h : RowS w n v l) : ∃ A c, v = .slice A l.length c ∧ l.length ≤ c := h.ss.form
/-- append of one string, that a buildSlice laid, onto a row of the call's own. -/
theorem wpList_append_s1 {w : World} {ops : Array Oper} {rest : List Oper} {o : Oper} {a : Act} {Q : Exit → Act → World → Prop} (hgd : o.guard = none) (s x : Operand)
    (ho : o.op = .call { callee := .builtin .append, args := #[s, x], argTypes := #[50, 50] }) (base : Nat) (v : Value) (l : List (List UInt8)) (hv : a.eval s = v) (hown : RowS w base v l) (g : Nat) (y : List UInt8) (hsv : a.eval x = .slice (some ⟨g, 0, none⟩) 1 1) (hs : w.cell? ⟨g, 0, none⟩ = some (Str y))
    (hlen : l.length + 1 ≤ 1000000) (hbase : base ≤ w.heap.size)
    (h : ∀ v' w', RowS w' base v' (l ++ [y]) → w.grownBy w' v.ownBlock → (v'.ownBlock = v.ownBlock ∨ v'.ownBlock = some w.heap.size) → wpList Tryd.prog ops Q rest (a.put o.dst v') w') : wpList Tryd.prog ops Q (o :: rest) a w := by
  obtain ⟨i0, hi, hz0, hz1, hz2⟩ := info_parts infoStr3
  obtain ⟨v', w', hr, h2, h3, h4, h5⟩ := run_append_own_at (P := Tryd.prog) w base 50 o.type 9 i0 _ 1 16 Tryd.underlying50 hi hz0 hz1 hz2 (by simp [Value.cells]) (by omega) v l.length (l.map fun x => Str x) hown ⟨g, 0, none⟩ 1 1 [Str y] (by simp) (fun j u hu => by
    match j, hu with
    | 0, hu => simp at hu; subst hu; rw [add_plain]; exact hs) (by simp [Value.oneCell']) (by unfold maxLen; omega) (by omega) hbase
  refine wpList_plain hgd fun _ hK => ?_
  unfold Oper.wp execOp
  simp only [ho, resolve, invoke, builtin, Sem.run_bind, Sem.run_pure, Result.andThen_ok, List.map_toArray, List.map_cons, List.map_nil, hv, hsv, hr]
  refine hK _ _ (h v' w' ?_ h3 h5)
  unfold RowS
  rw [List.length_append, List.map_append]
  exact h2
end Go.Proofs.YtockdekhdjmklaaDoor
