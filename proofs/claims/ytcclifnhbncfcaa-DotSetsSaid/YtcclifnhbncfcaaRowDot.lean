/- From the row's reading of a dot, a list of dots, to what the walks are told. -/
import Derived.Test.YtcclifnhbncfcaaRowElem
import Derived.Test.YtcclifnhbncfcaaDots
import Derived.Deep.Slices
namespace Go.Proofs.Ytcclifnhbncfcaa
open Go.ChangeShapes Go.WideShapes Go.ChangeAt Go.RowKit
set_option maxRecDepth 100000

theorem cellsDot6 : Try.prog.cellsOf 38 = 2 := by kernel_rfl
theorem cellsInt6 : Try.prog.cellsOf 3 = 1 := by kernel_rfl
section
variable {H : Type} {enc : TypeId × Value → H}
theorem dot_of_trod6 {W : World} {base : Nat} {spare : Nat → Bool} {held : Bool} {fuel : Nat} {cs : List Value} {x : DataW H × List MemPlace} (h : DataW.trod enc Try.prog W base spare held fuel 38 cs = some x) :
    ∃ a b : Int, cs = [.int .i64 a, .int .i64 b] := by
  obtain ⟨xs, n, _, rfl, hcl, hxl, hf⟩ := DataW.trod_struct Try.underlying38 h
  rw [cellsDot6] at hcl
  match cs, hcl with
  | [v0, v1], _ =>
  replace hxl : xs.length = 2 := hxl
  match xs, hxl with
  | [x0, x1], _ =>
  have f0 : DataW.trod enc Try.prog W base spare held n 3 [v0] = some x0 := by have h0 := hf 0 _ rfl; simpa [cellsInt6] using h0
  have f1 : DataW.trod enc Try.prog W base spare held n 3 [v1] = some x1 := by have h0 := hf 1 _ rfl; simpa [cellsInt6] using h0
  obtain ⟨k0, e0, _, _⟩ := DataW.trod_int Try.underlying3 f0
  obtain ⟨k1, e1, _, _⟩ := DataW.trod_int Try.underlying3 f1
  simp only [List.cons.injEq, and_true] at e0 e1
  subst e0
  subst e1
  exact ⟨k0, k1, rfl⟩
theorem dot_of_arg {W : World} {base b0 : Nat} {spare : Nat → Bool} {held : Bool} {r : Reach} {v : Value} {d : DataW H} {ps : List MemPlace} (hv : Value.okWide Try.prog W r b0 38 v) (h : DataW.Trod enc Try.prog W base spare held 38 v d ps) :
    ∃ a b : Int, v = DotV a b := by
  simp only [Value.okWide, Try.underlying38] at hv
  obtain ⟨cs, rfl, h2, _⟩ := hv
  obtain ⟨fuel, hf⟩ := h
  obtain ⟨a, b, hcs⟩ := dot_of_trod6 hf
  refine ⟨a, b, ?_⟩
  simp only [Value.cells] at hcs
  obtain ⟨l⟩ := cs
  simp only at hcs
  rw [hcs]
theorem ds_of_trod {W : World} {base : Nat} {spare : Nat → Bool} {held : Bool} {fuel : Nat} {v : Value} {x : DataW H × List MemPlace} (h : DataW.trod enc Try.prog W base spare held fuel 36 [v] = some x) :
    ∃ l : List (Int × Int), Ds W v l ∧ l.length ≤ 9223372036854775807 :=
  haveI : Inhabited (Int × Int) := ⟨(0, 0)⟩
  es_of_trod (E := eDot) Try.underlying36 cellsDot6 (fun _ _ _ ht => by obtain ⟨a, b, he⟩ := dot_of_trod6 ht; exact ⟨(a, b), he⟩) h
end
end Go.Proofs.Ytcclifnhbncfcaa
