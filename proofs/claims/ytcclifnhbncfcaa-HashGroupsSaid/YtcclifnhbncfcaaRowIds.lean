/- From the row's reading of ids to what the walks are told. -/
import Derived.Test.YtcclifnhbncfcaaRowId
namespace Go.Proofs.Ytcclifnhbncfcaa
open Go.ChangeShapes Go.WideShapes Go.ChangeAt Go.RowKit
set_option maxRecDepth 100000

section
variable {H : Type} {enc : TypeId × Value → H}

/-- A []ID that is read. -/
theorem ids_of_trod {W : World} {base : Nat} {spare : Nat → Bool} {held : Bool} {fuel : Nat} {v : Value} {x : DataW H × List MemPlace} (h : DataW.trod enc Try.prog W base spare held fuel 31 [v] = some x) :
    ∃ l : List (List UInt8), Is W v l ∧ l.length ≤ 9223372036854775807 := by
  rcases Deep.open_slice Try.underlying31 h with ⟨hcs, _⟩ | ⟨a, len, cap, m, n, D, Pl, hcs, _, hl, hm, hmm, rfl, hel⟩
  · simp at hcs
    subst hcs
    exact ⟨[], Is.nil W, by simp⟩
  · simp at hcs
    subst hcs
    by_cases h0 : len = 0
    · subst h0
      exact ⟨[], Is.empty W _ _, by simp⟩
    have hlm : len ≤ m := by rw [hmm]; split <;> omega
    have hp : a = ⟨a.block, a.off, none⟩ := by
      obtain ⟨cs, hc, ht⟩ := hel 0 (by omega)
      rw [cellsID] at hc
      obtain ⟨_, hcl, hcell⟩ := World.cells?_some hc
      have g0 := hcell 0 (by omega)
      rw [List.getElem?_eq_getElem (by omega)] at g0
      have := cell_plain g0
      simpa [Addr.add] using this
    have hall : ∀ i, i < len → ∃ o : List UInt8, o.length = 32 ∧ IdAt W a.block (a.off + i * 32) o := fun i hi => by
      obtain ⟨cs, hc, ht⟩ := hel i (by omega)
      rw [cellsID] at hc
      obtain ⟨_, hcl, hcell⟩ := World.cells?_some hc
      obtain ⟨xs, hx, rfl⟩ := id_of_trod ht
      refine ⟨xs, hx, fun j u hu => ?_⟩
      have hj : j < 32 := by have := (List.getElem?_eq_some_iff.1 hu).1; simp at this; omega
      have g0 := hcell j hj
      rw [Deep.add_add, hu] at g0
      rw [hp] at g0
      simpa [add_plain, Nat.add_assoc] using g0
    haveI : Inhabited (List UInt8) := ⟨[]⟩
    obtain ⟨f, hf⟩ := Deep.choose_lt (p := fun i (o : List UInt8) => o.length = 32 ∧ IdAt W a.block (a.off + i * 32) o) hall
    refine ⟨(List.range len).map f, ⟨fun x hx => ?_, some a, cap, by simp, by simp; omega, fun i o ho => ?_⟩, by unfold maxLen at hm; simp; omega⟩
    · obtain ⟨j, hj, rfl⟩ := List.mem_map.1 hx
      exact (hf j (List.mem_range.1 hj)).1
    · rw [List.getElem?_map] at ho
      obtain ⟨j, hj, rfl⟩ := Option.map_eq_some_iff.1 ho
      obtain ⟨hi, rfl⟩ := List.getElem?_eq_some_iff.1 hj
      rw [List.length_range] at hi
      simp only [List.getElem_range]
      exact ⟨a.block, a.off, congrArg some hp, (hf i hi).2⟩
end
end Go.Proofs.Ytcclifnhbncfcaa
