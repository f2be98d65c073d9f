/- The reference's Less. -/
import Derived.Test.YtcclifnhbncfcaaIdRows
import Derived.Test.YtcclifnhbncfcaaHashRefCmp
namespace Go.Proofs.Ytcclifnhbncfcaa
open Go.RowKit
set_option maxRecDepth 100000

/-- Those that the other list has not. -/
def lessI (l m : List (List UInt8)) : List (List UInt8) := l.filter fun x => !decide (x ∈ m)
theorem lessI_succ {l m : List (List UInt8)} {k : Nat} {x : List UInt8} (hx : l[k]? = some x) : lessI (l.take (k + 1)) m = lessI (l.take k) m ++ (if x ∈ m then [] else [x]) := by
  unfold lessI
  rw [List.take_add_one, hx, List.filter_append]
  by_cases h : x ∈ m <;> simp [h]
theorem lessI_le (l m : List (List UInt8)) : (lessI l m).length ≤ l.length := List.length_filter_le _ _

end Go.Proofs.Ytcclifnhbncfcaa
