/- From the row's reading of an id or a string to what the walks are told. -/
import Derived.Test.YtcclifnhbncfcaaRowKit
import Derived.Test.YtcclifnhbncfcaaIds
import Derived.Deep.Slices
namespace Go.Proofs.Ytcclifnhbncfcaa
open Go.ChangeShapes Go.WideShapes Go.ChangeAt Go.RowKit
set_option maxRecDepth 100000

theorem cellsID : Try.prog.cellsOf 23 = 32 := by kernel_rfl
theorem cellsU8 : Try.prog.cellsOf 5 = 1 := by kernel_rfl

section
variable {H : Type} {enc : TypeId × Value → H}

/-- An id that is read: its 32 cells. -/
theorem id_of_trod {W : World} {base : Nat} {spare : Nat → Bool} {held : Bool} {fuel : Nat} {cs : List Value} {x : DataW H × List MemPlace} (h : DataW.trod enc Try.prog W base spare held fuel 23 cs = some x) :
    ∃ xs : List UInt8, xs.length = 32 ∧ cs = xs.map B8 := by
  obtain ⟨ys, m, rfl, rfl, hl, hyl, hel⟩ := DataW.trod_array Try.underlying23 h
  rw [cellsID] at hl
  rw [cellsU8] at hel
  have hall : ∀ i, i < 32 → ∃ b : UInt8, cs[i]? = some (B8 b) := fun i hi => by
    have h1 := hel i hi
    rw [List.getElem?_eq_getElem (by omega)] at h1
    obtain ⟨k, hk, _, wk⟩ := DataW.trod_int Try.underlying5 h1
    have hb := bounds_u8 wk
    refine ⟨UInt8.ofNat k.toNat, ?_⟩
    have h2 : ((cs.drop (i * 1)).take 1)[0]? = some (.int .u8 k) := by rw [hk]; rfl
    rw [List.getElem?_take, if_pos (by omega), List.getElem?_drop, Nat.mul_one, Nat.add_zero] at h2
    rw [h2]
    unfold B8
    rw [UInt8.toNat_ofNat', Nat.mod_eq_of_lt (by omega)]
    congr 2
    omega
  obtain ⟨f, hf⟩ := Deep.choose_lt (p := fun i (b : UInt8) => cs[i]? = some (B8 b)) hall
  refine ⟨(List.range 32).map f, by simp, ?_⟩
  apply List.ext_getElem?
  intro i
  by_cases hi : i < 32
  · rw [hf i hi]
    simp [hi]
  · rw [List.getElem?_eq_none (by omega), List.getElem?_eq_none (by simp; omega)]
/-- An id that is handed over. -/
theorem id_of_arg {W : World} {base b0 : Nat} {spare : Nat → Bool} {held : Bool} {r : Reach} {v : Value} {d : DataW H} {ps : List MemPlace} (hv : Value.okWide Try.prog W r b0 23 v) (h : DataW.Trod enc Try.prog W base spare held 23 v d ps) :
    ∃ xs : List UInt8, xs.length = 32 ∧ v = IdV xs := by
  simp only [Value.okWide, Try.underlying23] at hv
  obtain ⟨cs, rfl, h2, _⟩ := hv
  obtain ⟨fuel, hf⟩ := h
  obtain ⟨xs, hx, hcs⟩ := id_of_trod hf
  refine ⟨xs, hx, ?_⟩
  simp only [Value.cells] at hcs
  show Value.agg cs = Value.agg (xs.map B8).toArray
  rw [← hcs]

/-- A string that is handed over. -/
theorem str_of_arg {W : World} {base b0 : Nat} {spare : Nat → Bool} {held : Bool} {r : Reach} {v : Value} {d : DataW H} {ps : List MemPlace} (hv : Value.okWide Try.prog W r b0 9 v) (h : DataW.Trod enc Try.prog W base spare held 9 v d ps) :
    ∃ xs : List UInt8, xs.length ≤ 9223372036854775807 ∧ v = Str xs := by
  obtain ⟨⟨⟨xs⟩⟩, rfl⟩ := okWide_string Try.underlying9 hv
  obtain ⟨fuel, hf⟩ := h
  obtain ⟨s', h, -, hs⟩ := DataW.trod_string Try.underlying9 hf
  simp only [Value.cells, List.cons.injEq, and_true] at h
  injection h with h
  subst h
  refine ⟨xs, ?_, rfl⟩
  simp only [ByteArray.size, List.size_toArray] at hs
  unfold maxLen at hs
  omega
end
end Go.Proofs.Ytcclifnhbncfcaa
