/- The rows of layer 5 that hand over lists of dots, and list the tables alone. -/
import Derived.Test.YtockdekhdjmklaaDoorDotRow
import Derived.Test.YtockdekhdjmklaaDoorRowElem
import Derived.Test.YtockdekhdjmklaaDoorDots
namespace Go.Proofs.YtockdekhdjmklaaDoor
open Go.ChangeShapes Go.WideShapes Go.ChangeAt Go.RowKit
set_option maxRecDepth 100000

theorem ds_of_trod {H : Type} {enc : TypeId × Value → H} {W : World} {base : Nat} {spare : Nat → Bool} {held : Bool} {fuel : Nat} {v : Value} {x : DataW H × List MemPlace} (h : DataW.trod enc Tryd.prog W base spare held fuel 49 [v] = some x) :
    ∃ l : List (Int × Int), Ds W v l ∧ l.length ≤ 9223372036854775807 :=
  haveI : Inhabited (Int × Int) := ⟨(0, 0)⟩
  es_of_trod (E := eDot) Tryd.underlying49 cellsDot (fun _ _ _ ht => by obtain ⟨a, b, he⟩ := dot_of_trod ht; exact ⟨(a, b), he⟩) h
def laid3 : List (String × DataW Unit) := Rows.dotOrderRow.laid
theorem tab_of {W : World} (hl : laidMetH Tryd.prog laid3 W) : Tab W := by
  have h0 : laidMet Tryd.prog Rows.dotOrderRow.laid W := hl
  have h3 : laidMet Tryd.prog [("internal/strconv.uint64pow10", Rows.laid_internal_strconv_uint64pow10)] W := laidMet.tail (laidMet.tail h0)
  refine Lib.tabIs_of_head (g := 3) (t := 157) (e := 63) (n := 20) (by kernel_rfl) (by kernel_rfl) (by kernel_rfl) Tryd.underlying63 (by kernel_rfl) (by kernel_rfl) (rest := []) ?_
  have e : (Rows.laid_internal_strconv_uint64pow10 : DataW Unit) = Lib.tabData .u64 Lib.pow10Tab := by first | rfl | kernel_rfl
  rw [← e]
  exact h3
theorem laidWorld_met3 (os : Os) (args : Array Value) : laidMetH Tryd.prog laid3 ((laidWorld os).forCall (fun _ _ => 0) ⟨#[], args, []⟩).memory :=
  laidMetH_of_parts3 (fuel := 8) (laidMet_of_run' 8 (by kernel_rfl) (by kernel_rfl)) (by kernel_rfl) (by kernel_rfl)
end Go.Proofs.YtockdekhdjmklaaDoor
