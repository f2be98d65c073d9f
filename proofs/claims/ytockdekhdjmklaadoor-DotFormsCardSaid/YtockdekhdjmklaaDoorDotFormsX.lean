/- The walk of DotForms, as the row hands its arguments. -/
import Derived.Test.YtockdekhdjmklaaDoorDotFormsW
namespace Go.Proofs.YtockdekhdjmklaaDoor
open Go.RowKit
theorem forms_walk (W : World) (p q p' q' : Int) (v : Value) (xs : List UInt8) (hbs : Bs W v xs) (_ : xs.length ≤ 9223372036854775807) (s : List UInt8) (hs : s.length ≤ 9223372036854775807) (hT : Tb W) :
    Calls Tryd.prog 3 #[DotV p q, DotV p' q', v, Str s] W fun e W' => e = .returned (.bool true) ∧ Below W.heap.size W W' := by
  obtain ⟨A, c, rfl, _⟩ := hbs.form
  exact forms_arg W p q p' q' A c xs s hbs hs hT
end Go.Proofs.YtockdekhdjmklaaDoor
