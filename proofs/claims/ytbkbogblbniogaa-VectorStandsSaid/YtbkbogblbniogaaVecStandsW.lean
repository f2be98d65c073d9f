/- The walk of VectorStands (tools/genstands.py). -/
import Derived.Test.YtbkbogblbniogaaVecStands0
import Derived.Test.YtbkbogblbniogaaVecStands1a
import Derived.Test.YtbkbogblbniogaaVecStands1b
import Derived.Test.YtbkbogblbniogaaVecStands2
import Derived.Test.YtbkbogblbniogaaVecStands3
namespace Go.Proofs.Ytbkbogblbniogaa
open Go.RowKit Go.Great

theorem stands_walk (w : World) (a b c : Vc) :
    Calls Try.prog 9 #[VecV a, VecV b, VecV c] w fun e W' => e = .returned (.bool true) ∧ Below w.heap.size w W' := by
  rcases cmpV_cases a b with ⟨hx, hy, hab, h1, h2⟩ | ⟨hx, hy, hab, h1, h2⟩ | ⟨hx, hy, hab, h1, h2⟩ | ⟨hx, hy, hab, h1, h2⟩
  · exact stands_0 w a b c hx hy (decide_eq_true hab) (decide_eq_true h1) (decide_eq_true h2) _ rfl ((lacks_iff a b).2 h2) _ rfl
  · by_cases hz : cmpV b c = 1
    · exact stands_1a w a b c hx hy (decide_eq_false hab) (decide_eq_true h1) (decide_eq_false h2) _ rfl (fun e => h2 ((lacks_iff a b).1 e)) _ rfl hz (before_trans hx hz)
    · exact stands_1b w a b c hx hy (decide_eq_false hab) (decide_eq_true h1) (decide_eq_false h2) _ rfl (fun e => h2 ((lacks_iff a b).1 e)) _ rfl hz
  · exact stands_2 w a b c hx hy (decide_eq_false hab) (decide_eq_false h1) (decide_eq_true h2) _ rfl ((lacks_iff a b).2 h2) _ rfl
  · exact stands_3 w a b c hx hy (decide_eq_false hab) (decide_eq_false h1) (decide_eq_false h2) _ rfl (fun e => h2 ((lacks_iff a b).1 e)) _ rfl
end Go.Proofs.Ytbkbogblbniogaa
