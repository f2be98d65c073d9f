/- From the row's reading of a [][]byte to what the walks are told. -/
import Derived.Test.YtbclhjcnopfegaaRowKit
import Derived.Test.YtbclhjcnopfegaaSumOf
import Derived.Deep.Slices
namespace Go.Proofs.Ytbclhjcnopfegaa
open Go.ChangeShapes Go.WideShapes Go.ChangeAt Go.RowKit

theorem cellsBytes : Try.prog.cellsOf 22 = 1 := by kernel_rfl

section
variable {H : Type} {enc : TypeId × Value → H}

/-- A [][]byte that is read. -/
theorem bss_of_trod {W : World} {base : Nat} {spare : Nat → Bool} {held : Bool} {fuel : Nat} {v : Value} {x : DataW H × List MemPlace} (h : DataW.trod enc Try.prog W base spare held fuel 32 [v] = some x) :
    ∃ l : List (Value × List UInt8), Ps W v l ∧ l.length ≤ 9223372036854775807 ∧ ∀ p ∈ l, p.2.length ≤ 9223372036854775807 := by
  rcases Deep.open_slice Try.underlying32 h with ⟨hcs, _⟩ | ⟨a, len, cap, m, n, D, Pl, hcs, _, hl, hm, hmm, rfl, hel⟩
  · simp at hcs
    subst hcs
    exact ⟨[], ⟨none, 0, rfl, fun i p hi => by simp at hi⟩, by simp, by simp⟩
  · simp at hcs
    subst hcs
    by_cases h0 : len = 0
    · subst h0
      exact ⟨[], ⟨some a, cap, rfl, fun i p hi => by simp at hi⟩, by simp, by simp⟩
    have hlm : len ≤ m := by rw [hmm]; split <;> omega
    have hp : a = ⟨a.block, a.off, none⟩ := by
      obtain ⟨cs, hc, ht⟩ := hel 0 (by omega)
      rw [cellsBytes] at hc
      obtain ⟨_, hcl, hcell⟩ := World.cells?_some hc
      have g0 := hcell 0 (by omega)
      rw [List.getElem?_eq_getElem (by omega)] at g0
      have := cell_plain g0
      simpa [Addr.add] using this
    have hall : ∀ i, i < len → ∃ o : Value × List UInt8, W.cell? ⟨a.block, a.off + i, none⟩ = some o.1 ∧ Bs W o.1 o.2 ∧ o.2.length ≤ 9223372036854775807 := fun i hi => by
      obtain ⟨cs, hc, ht⟩ := hel i (by omega)
      rw [cellsBytes] at hc
      obtain ⟨_, hcl, hcell⟩ := World.cells?_some hc
      match cs, hcl with
      | [u], _ =>
        obtain ⟨xs, hbs, hxl⟩ := bs_of_trod ht
        have g0 := hcell 0 (by omega)
        rw [Deep.add_add] at g0
        rw [hp] at g0
        exact ⟨(u, xs), by simpa [add_plain] using g0, hbs, by simpa [maxLen] using hxl⟩
    haveI : Inhabited (Value × List UInt8) := ⟨(.slice none 0 0, [])⟩
    obtain ⟨f, hf⟩ := Deep.choose_lt (p := fun i (o : Value × List UInt8) => W.cell? ⟨a.block, a.off + i, none⟩ = some o.1 ∧ Bs W o.1 o.2 ∧ o.2.length ≤ 9223372036854775807) hall
    refine ⟨(List.range len).map f, ⟨some a, cap, by simp, fun i o ho => ?_⟩, by unfold maxLen at hm; simp; omega, fun o ho => ?_⟩
    · rw [List.getElem?_map] at ho
      obtain ⟨j, hj, rfl⟩ := Option.map_eq_some_iff.1 ho
      obtain ⟨hi, rfl⟩ := List.getElem?_eq_some_iff.1 hj
      rw [List.length_range] at hi
      simp only [List.getElem_range]
      exact ⟨⟨a.block, a.off, congrArg some hp, (hf i hi).1⟩, (hf i hi).2.1⟩
    · obtain ⟨j, hj, rfl⟩ := List.mem_map.1 ho
      exact (hf j (List.mem_range.1 hj)).2.2
end
end Go.Proofs.Ytbclhjcnopfegaa
