/- From the row's reading of a list of elements to what the walks are told. -/
import Derived.Test.YtljihmbmjpcfaaaGreatRowKit
import Derived.Test.YtljihmbmjpcfaaaGreatElem
namespace Go.Proofs.YtljihmbmjpcfaaaGreat
open Go.ChangeShapes Go.WideShapes Go.ChangeAt Go.RowKit
set_option maxRecDepth 100000

section
variable {H : Type} {enc : TypeId × Value → H} {α : Type} {E : Elt α} {t ts : TypeId}
/-- A list of elements that is read. -/
theorem es_of_trod [Inhabited α] (hsl : Tryz.prog.underlying ts = some (.slice t)) (hk : Tryz.prog.cellsOf t = E.k) {W : World} {base : Nat} {spare : Nat → Bool} {held : Bool}
    (hone : ∀ (fuel : Nat) (cs : List Value) (x : DataW H × List MemPlace), DataW.trod enc Tryz.prog W base spare held fuel t cs = some x → ∃ y : α, cs = E.enc y)
    {fuel : Nat} {v : Value} {x : DataW H × List MemPlace} (h : DataW.trod enc Tryz.prog W base spare held fuel ts [v] = some x) :
    ∃ l : List α, Es E W v l ∧ l.length ≤ 9223372036854775807 := by
  have hpos := E.pos
  rcases Deep.open_slice hsl h with ⟨hcs, _⟩ | ⟨a, len, cap, m, n, D, Pl, hcs, _, hl, hm, hmm, rfl, hel⟩
  · simp at hcs
    subst hcs
    exact ⟨[], Es.nil W, by simp⟩
  · simp at hcs
    subst hcs
    by_cases h0 : len = 0
    · subst h0
      exact ⟨[], Es.empty W _ _, by simp⟩
    have hlm : len ≤ m := by rw [hmm]; split <;> omega
    have hp : a = ⟨a.block, a.off, none⟩ := by
      obtain ⟨cs, hc, ht⟩ := hel 0 (by omega)
      rw [hk] at hc
      obtain ⟨_, hcl, hcell⟩ := World.cells?_some hc
      have g0 := hcell 0 (by omega)
      rw [List.getElem?_eq_getElem (by omega)] at g0
      have := cell_plain g0
      simpa [Addr.add] using this
    have hall : ∀ i, i < len → ∃ o : α, ElAt E W a.block (a.off + i * E.k) o := fun i hi => by
      obtain ⟨cs, hc, ht⟩ := hel i (by omega)
      rw [hk] at hc
      obtain ⟨_, hcl, hcell⟩ := World.cells?_some hc
      obtain ⟨y, rfl⟩ := hone _ _ _ ht
      refine ⟨y, fun j u hu => ?_⟩
      have hj : j < E.k := by have := (List.getElem?_eq_some_iff.1 hu).1; rw [E.len] at this; exact this
      have g0 := hcell j hj
      rw [Deep.add_add, hu] at g0
      rw [hp] at g0
      simpa [add_plain, Nat.add_assoc] using g0
    obtain ⟨f, hf⟩ := Deep.choose_lt (p := fun i (o : α) => ElAt E W a.block (a.off + i * E.k) o) hall
    refine ⟨(List.range len).map f, ⟨some a, cap, by simp, by simp; omega, fun i o ho => ?_⟩, by unfold maxLen at hm; simp; omega⟩
    rw [List.getElem?_map] at ho
    obtain ⟨j, hj, rfl⟩ := Option.map_eq_some_iff.1 ho
    obtain ⟨hi, rfl⟩ := List.getElem?_eq_some_iff.1 hj
    rw [List.length_range] at hi
    simp only [List.getElem_range]
    exact ⟨a.block, a.off, congrArg some hp, hf i hi⟩
end
end Go.Proofs.YtljihmbmjpcfaaaGreat
