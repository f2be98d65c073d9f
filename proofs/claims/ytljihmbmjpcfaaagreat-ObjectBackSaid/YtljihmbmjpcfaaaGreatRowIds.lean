/- From the row's reading of an id or a string to what the walks are told. From the row's reading of ids to what the walks are told. -/
import Derived.Test.YtljihmbmjpcfaaaGreatRowKit
import Derived.Test.YtljihmbmjpcfaaaGreatIds
import Derived.Deep.Slices
namespace Go.Proofs.YtljihmbmjpcfaaaGreat
open Go.ChangeShapes Go.WideShapes Go.ChangeAt Go.RowKit
set_option maxRecDepth 100000

theorem cellsID : Tryz.prog.cellsOf 25 = 32 := by kernel_rfl
theorem cellsU8 : Tryz.prog.cellsOf 5 = 1 := by kernel_rfl

section
variable {H : Type} {enc : TypeId × Value → H}

/-- An id that is read: its 32 cells. -/
theorem id_of_trod {W : World} {base : Nat} {spare : Nat → Bool} {held : Bool} {fuel : Nat} {cs : List Value} {x : DataW H × List MemPlace} (h : DataW.trod enc Tryz.prog W base spare held fuel 25 cs = some x) :
    ∃ xs : List UInt8, xs.length = 32 ∧ cs = xs.map B8 := by
  obtain ⟨ys, m, rfl, rfl, hl, hyl, hel⟩ := DataW.trod_array Tryz.underlying25 h
  rw [cellsID] at hl
  rw [cellsU8] at hel
  have hall : ∀ i, i < 32 → ∃ b : UInt8, cs[i]? = some (B8 b) := fun i hi => by
    have h1 := hel i hi
    rw [List.getElem?_eq_getElem (by omega)] at h1
    obtain ⟨k, hk, _, wk⟩ := DataW.trod_int Tryz.underlying5 h1
    have hb := bounds_u8 wk
    refine ⟨UInt8.ofNat k.toNat, ?_⟩
    have h2 : ((cs.drop (i * 1)).take 1)[0]? = some (.int .u8 k) := by rw [hk]; rfl
    rw [List.getElem?_take, if_pos (by omega), List.getElem?_drop, Nat.mul_one, Nat.add_zero] at h2
    rw [h2]
    unfold B8
    rw [UInt8.toNat_ofNat', Nat.mod_eq_of_lt (by omega)]
    congr 2
    omega
  obtain ⟨f, hf⟩ := Deep.choose_lt (p := fun i (b : UInt8) => cs[i]? = some (B8 b)) hall
  refine ⟨(List.range 32).map f, by simp, ?_⟩
  apply List.ext_getElem?
  intro i
  by_cases hi : i < 32
  · rw [hf i hi]
    simp [hi]
  · rw [List.getElem?_eq_none (by omega), List.getElem?_eq_none (by simp; omega)]
/-- An id that is handed over. -/
theorem id_of_arg {W : World} {base b0 : Nat} {spare : Nat → Bool} {held : Bool} {r : Reach} {v : Value} {d : DataW H} {ps : List MemPlace} (hv : Value.okWide Tryz.prog W r b0 25 v) (h : DataW.Trod enc Tryz.prog W base spare held 25 v d ps) :
    ∃ xs : List UInt8, xs.length = 32 ∧ v = IdV xs := by
  simp only [Value.okWide, Tryz.underlying25] at hv
  obtain ⟨cs, rfl, h2, _⟩ := hv
  obtain ⟨fuel, hf⟩ := h
  obtain ⟨xs, hx, hcs⟩ := id_of_trod hf
  refine ⟨xs, hx, ?_⟩
  simp only [Value.cells] at hcs
  show Value.agg cs = Value.agg (xs.map B8).toArray
  rw [← hcs]

/-- A string that is handed over. -/
theorem str_of_arg {W : World} {base b0 : Nat} {spare : Nat → Bool} {held : Bool} {r : Reach} {v : Value} {d : DataW H} {ps : List MemPlace} (hv : Value.okWide Tryz.prog W r b0 9 v) (h : DataW.Trod enc Tryz.prog W base spare held 9 v d ps) :
    ∃ xs : List UInt8, xs.length ≤ 9223372036854775807 ∧ v = Str xs := by
  obtain ⟨⟨⟨xs⟩⟩, rfl⟩ := okWide_string Tryz.underlying9 hv
  obtain ⟨fuel, hf⟩ := h
  obtain ⟨s', h, -, hs⟩ := DataW.trod_string Tryz.underlying9 hf
  simp only [Value.cells, List.cons.injEq, and_true] at h
  injection h with h
  subst h
  refine ⟨xs, ?_, rfl⟩
  simp only [ByteArray.size, List.size_toArray] at hs
  unfold maxLen at hs
  omega
end
end Go.Proofs.YtljihmbmjpcfaaaGreat
namespace Go.Proofs.YtljihmbmjpcfaaaGreat
open Go.ChangeShapes Go.WideShapes Go.ChangeAt Go.RowKit
set_option maxRecDepth 100000

section
variable {H : Type} {enc : TypeId × Value → H}

/-- A []ID that is read. -/
theorem ids_of_trod {W : World} {base : Nat} {spare : Nat → Bool} {held : Bool} {fuel : Nat} {v : Value} {x : DataW H × List MemPlace} (h : DataW.trod enc Tryz.prog W base spare held fuel 26 [v] = some x) :
    ∃ l : List (List UInt8), Is W v l ∧ l.length ≤ 9223372036854775807 := by
  rcases Deep.open_slice Tryz.underlying26 h with ⟨hcs, _⟩ | ⟨a, len, cap, m, n, D, Pl, hcs, _, hl, hm, hmm, rfl, hel⟩
  · simp at hcs
    subst hcs
    exact ⟨[], Is.nil W, by simp⟩
  · simp at hcs
    subst hcs
    by_cases h0 : len = 0
    · subst h0
      exact ⟨[], Is.empty W _ _, by simp⟩
    have hlm : len ≤ m := by rw [hmm]; split <;> omega
    have hp : a = ⟨a.block, a.off, none⟩ := by
      obtain ⟨cs, hc, ht⟩ := hel 0 (by omega)
      rw [cellsID] at hc
      obtain ⟨_, hcl, hcell⟩ := World.cells?_some hc
      have g0 := hcell 0 (by omega)
      rw [List.getElem?_eq_getElem (by omega)] at g0
      have := cell_plain g0
      simpa [Addr.add] using this
    have hall : ∀ i, i < len → ∃ o : List UInt8, o.length = 32 ∧ IdAt W a.block (a.off + i * 32) o := fun i hi => by
      obtain ⟨cs, hc, ht⟩ := hel i (by omega)
      rw [cellsID] at hc
      obtain ⟨_, hcl, hcell⟩ := World.cells?_some hc
      obtain ⟨xs, hx, rfl⟩ := id_of_trod ht
      refine ⟨xs, hx, fun j u hu => ?_⟩
      have hj : j < 32 := by have := (List.getElem?_eq_some_iff.1 hu).1; simp at this; omega
      have g0 := hcell j hj
      rw [Deep.add_add, hu] at g0
      rw [hp] at g0
      simpa [add_plain, Nat.add_assoc] using g0
    haveI : Inhabited (List UInt8) := ⟨[]⟩
    obtain ⟨f, hf⟩ := Deep.choose_lt (p := fun i (o : List UInt8) => o.length = 32 ∧ IdAt W a.block (a.off + i * 32) o) hall
    refine ⟨(List.range len).map f, ⟨fun x hx => ?_, some a, cap, by simp, by simp; omega, fun i o ho => ?_⟩, by unfold maxLen at hm; simp; omega⟩
    · obtain ⟨j, hj, rfl⟩ := List.mem_map.1 hx
      exact (hf j (List.mem_range.1 hj)).1
    · rw [List.getElem?_map] at ho
      obtain ⟨j, hj, rfl⟩ := Option.map_eq_some_iff.1 ho
      obtain ⟨hi, rfl⟩ := List.getElem?_eq_some_iff.1 hj
      rw [List.length_range] at hi
      simp only [List.getElem_range]
      exact ⟨a.block, a.off, congrArg some hp, (hf i hi).2⟩
end
end Go.Proofs.YtljihmbmjpcfaaaGreat
