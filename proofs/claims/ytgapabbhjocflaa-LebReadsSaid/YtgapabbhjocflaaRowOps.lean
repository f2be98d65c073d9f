/- From the row's reading of a []Op to what the walks are told. -/
import Derived.Test.YtgapabbhjocflaaRowKit
import Derived.Test.YtgapabbhjocflaaLebOps
import Derived.Deep.Slices
import Derived.SizedLaws
namespace Go.Proofs.Ytgapabbhjocflaa
open Go.ChangeShapes Go.WideShapes Go.ChangeAt Go.RowKit

theorem cellsOp : Try.prog.cellsOf 30 = 4 := by kernel_rfl
theorem cellsInt : Try.prog.cellsOf 3 = 1 := by kernel_rfl
theorem cellsU64 : Try.prog.cellsOf 28 = 1 := by kernel_rfl
theorem cellsBytes : Try.prog.cellsOf 24 = 1 := by kernel_rfl
theorem bytesU8 : Try.prog.bytesOf 5 = 1 := by kernel_rfl

section
variable {H : Type} {enc : TypeId × Value → H}

/-- A []byte that is read within the reach is short. -/
theorem bs_of_trod_short {W : World} {base : Nat} {spare : Nat → Bool} {held : Bool} {fuel : Nat} {v : Value} {x : DataW H × List MemPlace} (h : DataW.trod enc Try.prog W base spare held fuel 24 [v] = some x) (hsz : ∀ n ∈ x.1.weights Try.prog 24, n ≤ reachBytes) :
    ∃ xs : List UInt8, Bs W v xs ∧ xs.length ≤ reachBytes := by
  obtain ⟨xs, hbs, _⟩ := bs_of_trod h
  refine ⟨xs, hbs, ?_⟩
  rcases open_ints Try.underlying24 Try.underlying5 (by kernel_rfl) h with ⟨hcs, rfl⟩ | ⟨a, len, cap, zs, hcs, _, hl, hm, hz, rfl, hcell, hwz⟩
  · simp at hcs
    subst hcs
    obtain ⟨A, c, hv, _⟩ := hbs.form
    have : xs.length = 0 := by injection hv with _ h _; exact h.symm
    omega
  · simp at hcs
    subst hcs
    have h1 := hsz ((zs.take len).length + (zs.drop len).length) (by simp [DataW.weights, Try.underlying24, bytesU8, lits])
    obtain ⟨A, c, hv, _⟩ := hbs.form
    have h2 : len = xs.length := by injection hv
    have hlz : len ≤ zs.length := by rw [hz]; split <;> omega
    have h3 : (zs.take len).length = len := by simp [hlz]
    omega

theorem weights_mem_all {P : Program} {e : TypeId} : ∀ {ds : List (DataW H)} {d : DataW H}, d ∈ ds → ∀ n ∈ d.weights P e, n ∈ DataW.weightsAll P e ds
  | d0 :: ds, d, hd, n, hn => by
    simp only [DataW.weightsAll, List.mem_append]
    rcases List.mem_cons.1 hd with rfl | hd
    · exact Or.inl hn
    · exact Or.inr (weights_mem_all hd n hn)

/-- A call that is read: its four cells. -/
theorem op_of_trod {W : World} {base : Nat} {spare : Nat → Bool} {held : Bool} {fuel : Nat} {cs : List Value} {x : DataW H × List MemPlace} (h : DataW.trod enc Try.prog W base spare held fuel 30 cs = some x) (hsz : ∀ n ∈ x.1.weights Try.prog 30, n ≤ reachBytes) :
    ∃ o : OpV, cs = [.int .i64 o.kind, .int .i64 o.m, .int .u64 o.n, o.v] ∧ Bs W o.v o.bs ∧ o.n < 18446744073709551616 ∧ o.bs.length ≤ 140737488355328 ∧ o.m ≤ 9223372036854775807 := by
  obtain ⟨xs, n, _, rfl, hcl, hxl, hf⟩ := DataW.trod_struct Try.underlying30 h
  rw [cellsOp] at hcl
  match cs, hcl with
  | [v0, v1, v2, v3], _ =>
  replace hxl : xs.length = 4 := hxl
  match xs, hxl with
  | [x0, x1, x2, x3], _ =>
  have f0 : DataW.trod enc Try.prog W base spare held n 3 [v0] = some x0 := by have h0 := hf 0 _ rfl; simpa [cellsInt] using h0
  have f1 : DataW.trod enc Try.prog W base spare held n 3 [v1] = some x1 := by have h0 := hf 1 _ rfl; simpa [cellsInt] using h0
  have f2 : DataW.trod enc Try.prog W base spare held n 28 [v2] = some x2 := by have h0 := hf 2 _ rfl; simpa [cellsU64] using h0
  have f3 : DataW.trod enc Try.prog W base spare held n 24 [v3] = some x3 := by have h0 := hf 3 _ rfl; simpa [cellsBytes] using h0
  clear hf
  obtain ⟨k0, e0, _, w0⟩ := DataW.trod_int Try.underlying3 f0
  obtain ⟨k1, e1, _, w1⟩ := DataW.trod_int Try.underlying3 f1
  obtain ⟨k2, e2, _, w2⟩ := DataW.trod_int Try.underlying28 f2
  obtain ⟨bs, hbs, hbl⟩ := bs_of_trod_short f3 (fun m hm => hsz m (by
    simp only [DataW.weights, Try.underlying30]
    exact DataW.weights_mem_each (j := 3) (t := 24) rfl rfl m hm))
  obtain ⟨k, hk, hks⟩ := wf_u64 w2
  simp only [List.cons.injEq, and_true] at e0 e1 e2
  subst e0 e1 e2 hk
  exact ⟨⟨k0, k1, k, v3, bs⟩, rfl, hbs, hks, by unfold reachBytes at hbl; dsimp only; omega, (wf_i64 w1).2⟩

/-- A []Op that is read within the reach: empty, or its elements at a plain address. -/
theorem ops_of_trod {W : World} {base : Nat} {spare : Nat → Bool} {held : Bool} {fuel : Nat} {v : Value} {x : DataW H × List MemPlace} (h : DataW.trod enc Try.prog W base spare held fuel 22 [v] = some x) (hsz : ∀ n ∈ x.1.weights Try.prog 22, n ≤ reachBytes) :
    (∃ A cap, v = .slice A 0 cap) ∨ ∃ (b off cap : Nat) (l : List OpV), v = .slice (some ⟨b, off, none⟩) l.length cap ∧ 0 < l.length ∧ l.length ≤ 9223372036854775807 ∧ OpsAt W b off l := by
  rcases Deep.open_slice Try.underlying22 h with ⟨hcs, _⟩ | ⟨a, len, cap, m, n, D, Pl, hcs, _, hl, hm, hmm, rfl, hel⟩
  · simp at hcs
    exact .inl ⟨none, 0, hcs⟩
  · simp at hcs
    subst hcs
    by_cases h0 : len = 0
    · subst h0
      exact .inl ⟨some a, cap, rfl⟩
    have hlm : len ≤ m := by rw [hmm]; split <;> omega
    have hp : a = ⟨a.block, a.off, none⟩ := by
      obtain ⟨cs, hc, ht⟩ := hel 0 (by omega)
      rw [cellsOp] at hc
      obtain ⟨_, hcl, hcell⟩ := World.cells?_some hc
      have g0 := hcell 0 (by omega)
      rw [List.getElem?_eq_getElem (by omega)] at g0
      have := cell_plain g0
      simpa [Addr.add] using this
    have hall : ∀ i, i < len → ∃ o : OpV, OpAt W a.block a.off i o := fun i hi => by
      obtain ⟨cs, hc, ht⟩ := hel i (by omega)
      rw [cellsOp] at hc
      obtain ⟨o, rfl, hbs, hn, hs, hm⟩ := op_of_trod ht (fun k hk => hsz k (by
        simp only [DataW.weights, Try.underlying22, List.mem_cons, List.mem_append]
        exact .inr (.inl (weights_mem_all (List.mem_map.2 ⟨i, List.mem_range.2 hi, rfl⟩) k hk))))
      obtain ⟨_, _, hcell⟩ := World.cells?_some hc
      have g0 := hcell 0 (by omega)
      have g1 := hcell 1 (by omega)
      have g2 := hcell 2 (by omega)
      have g3 := hcell 3 (by omega)
      rw [Deep.add_add] at g0 g1 g2 g3
      rw [hp] at g0 g1 g2 g3
      exact ⟨o, ⟨by simpa [add_plain] using g0, by simpa [add_plain, Nat.add_assoc] using g1, by simpa [add_plain, Nat.add_assoc] using g2, by simpa [add_plain, Nat.add_assoc] using g3, hbs, hn, hs, hm⟩⟩
    haveI : Inhabited OpV := ⟨⟨0, 0, 0, .slice none 0 0, []⟩⟩
    obtain ⟨f, hf⟩ := Deep.choose_lt (p := fun i o => OpAt W a.block a.off i o) hall
    refine .inr ⟨a.block, a.off, cap, (List.range len).map f, ?_, by simp; omega, by unfold maxLen at hm; simp; omega, fun i o ho => ?_⟩
    · rw [List.length_map, List.length_range, ← hp]
    · rw [List.getElem?_map] at ho
      obtain ⟨j, hj, rfl⟩ := Option.map_eq_some_iff.1 ho
      obtain ⟨hi, rfl⟩ := List.getElem?_eq_some_iff.1 hj
      rw [List.length_range] at hi
      simp only [List.getElem_range]
      exact hf i hi
end
end Go.Proofs.Ytgapabbhjocflaa
