/- From the row's reading of a vector, a list of vectors, a dot to what the walks are told. -/
import Derived.Test.YtbkbogblbniogaaRowElem
import Derived.Test.YtbkbogblbniogaaStep
import Derived.Test.YtbkbogblbniogaaDotCheck
import Derived.Deep.Slices
namespace Go.Proofs.Ytbkbogblbniogaa
open Go.ChangeShapes Go.WideShapes Go.ChangeAt Go.RowKit
set_option maxRecDepth 100000

theorem cellsVec : Try.prog.cellsOf 24 = 16 := by kernel_rfl
theorem cellsDot6 : Try.prog.cellsOf 27 = 2 := by kernel_rfl
theorem cellsInt6 : Try.prog.cellsOf 3 = 1 := by kernel_rfl
theorem cellsU32 : Try.prog.cellsOf 22 = 1 := by kernel_rfl

section
variable {H : Type} {enc : TypeId × Value → H}

/-- A vector that is read: its sixteen cells. -/
theorem vec_of_trod {W : World} {base : Nat} {spare : Nat → Bool} {held : Bool} {fuel : Nat} {cs : List Value} {x : DataW H × List MemPlace} (h : DataW.trod enc Try.prog W base spare held fuel 24 cs = some x) :
    ∃ v : Vc, cs = encC v := by
  obtain ⟨ys, m, rfl, rfl, hl, hyl, hel⟩ := DataW.trod_array Try.underlying24 h
  rw [cellsVec] at hl
  rw [cellsU32] at hel
  have hall : ∀ i, i < 16 → ∃ b : UInt32, cs[i]? = some (W32 b) := fun i hi => by
    have h1 := hel i hi
    rw [List.getElem?_eq_getElem (by omega)] at h1
    obtain ⟨k, hk, _, wk⟩ := DataW.trod_int Try.underlying22 h1
    have hb := bounds_u32 wk
    refine ⟨UInt32.ofNat k.toNat, ?_⟩
    have h2 : ((cs.drop (i * 1)).take 1)[0]? = some (.int .u32 k) := by rw [hk]; rfl
    rw [List.getElem?_take, if_pos (by omega), List.getElem?_drop, Nat.mul_one, Nat.add_zero] at h2
    rw [h2]
    unfold W32
    rw [UInt32.toNat_ofNat', Nat.mod_eq_of_lt (by omega)]
    congr 2
    omega
  obtain ⟨f, hf⟩ := Deep.choose_lt (p := fun i (b : UInt32) => cs[i]? = some (W32 b)) hall
  refine ⟨fun i => f i.val, ?_⟩
  apply List.ext_getElem?
  intro i
  by_cases hi : i < 16
  · rw [hf i hi, encC_get _ hi]
    simp [atV, hi]
  · rw [List.getElem?_eq_none (by omega), List.getElem?_eq_none (by rw [encC_length]; omega)]
/-- A vector that is handed over. -/
theorem vec_of_arg {W : World} {base b0 : Nat} {spare : Nat → Bool} {held : Bool} {r : Reach} {v : Value} {d : DataW H} {ps : List MemPlace} (hv : Value.okWide Try.prog W r b0 24 v) (h : DataW.Trod enc Try.prog W base spare held 24 v d ps) :
    ∃ x : Vc, v = VecV x := by
  simp only [Value.okWide, Try.underlying24] at hv
  obtain ⟨cs, rfl, h2, _⟩ := hv
  obtain ⟨fuel, hf⟩ := h
  obtain ⟨x, hcs⟩ := vec_of_trod hf
  refine ⟨x, ?_⟩
  simp only [Value.cells] at hcs
  show Value.agg cs = Value.agg (encC x).toArray
  rw [← hcs]
/-- A list of vectors that is read. -/
theorem vs_of_trod {W : World} {base : Nat} {spare : Nat → Bool} {held : Bool} {fuel : Nat} {v : Value} {x : DataW H × List MemPlace} (h : DataW.trod enc Try.prog W base spare held fuel 25 [v] = some x) :
    ∃ l : List Vc, Es eVec W v l ∧ l.length ≤ 9223372036854775807 :=
  haveI : Inhabited Vc := ⟨zeroV⟩
  es_of_trod (E := eVec) Try.underlying25 cellsVec (fun _ _ _ ht => by obtain ⟨y, he⟩ := vec_of_trod ht; exact ⟨y, he⟩) h
theorem dot_of_trod6 {W : World} {base : Nat} {spare : Nat → Bool} {held : Bool} {fuel : Nat} {cs : List Value} {x : DataW H × List MemPlace} (h : DataW.trod enc Try.prog W base spare held fuel 27 cs = some x) :
    ∃ a b : Int, cs = [.int .i64 a, .int .i64 b] := by
  obtain ⟨xs, n, _, rfl, hcl, hxl, hf⟩ := DataW.trod_struct Try.underlying27 h
  rw [cellsDot6] at hcl
  match cs, hcl with
  | [v0, v1], _ =>
  replace hxl : xs.length = 2 := hxl
  match xs, hxl with
  | [x0, x1], _ =>
  have f0 : DataW.trod enc Try.prog W base spare held n 3 [v0] = some x0 := by have h0 := hf 0 _ rfl; simpa [cellsInt6] using h0
  have f1 : DataW.trod enc Try.prog W base spare held n 3 [v1] = some x1 := by have h0 := hf 1 _ rfl; simpa [cellsInt6] using h0
  obtain ⟨k0, e0, _, _⟩ := DataW.trod_int Try.underlying3 f0
  obtain ⟨k1, e1, _, _⟩ := DataW.trod_int Try.underlying3 f1
  simp only [List.cons.injEq, and_true] at e0 e1
  subst e0
  subst e1
  exact ⟨k0, k1, rfl⟩
theorem dot_of_arg {W : World} {base b0 : Nat} {spare : Nat → Bool} {held : Bool} {r : Reach} {v : Value} {d : DataW H} {ps : List MemPlace} (hv : Value.okWide Try.prog W r b0 27 v) (h : DataW.Trod enc Try.prog W base spare held 27 v d ps) :
    ∃ a b : Int, v = DotV a b := by
  simp only [Value.okWide, Try.underlying27] at hv
  obtain ⟨cs, rfl, h2, _⟩ := hv
  obtain ⟨fuel, hf⟩ := h
  obtain ⟨a, b, hcs⟩ := dot_of_trod6 hf
  refine ⟨a, b, ?_⟩
  simp only [Value.cells] at hcs
  obtain ⟨l⟩ := cs
  simp only at hcs
  rw [hcs]
end
end Go.Proofs.Ytbkbogblbniogaa
