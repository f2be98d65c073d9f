/- Operations stepped by hand in a region that does not draw; a goal that the walk lets be. -/
import Derived.Test.YtljihmbmjpcfaaaGreatLebSrc
import Derived.Great.Walk
namespace Go.Proofs.YtljihmbmjpcfaaaGreat
open Go.RowKit Go.Great
set_option maxRecDepth 100000

/-- An operation whose value is known. -/
theorem list_known {P : Program} {ops : Array Oper} {rest : List Oper} {o : Oper} {a : Act} {w : World} {Q : Exit → Act → World → Prop} (v : Value) (hw : Region.wanted o (yielded ops a.tmps) = true) (hrun : (execOp a.eval o).run P w = .ok (.value v) w)
    (h : ∀ a', a.put o.dst v = a' → wpList P ops Q rest a' w) : wpList P ops Q (o :: rest) a w :=
  wpList_step fun K hK => by
    rw [if_pos hw]
    unfold Oper.wp
    rw [hrun]
    exact hK _ _ (h _ rfl)
/-- An operation that is guarded, and passed over. -/
theorem list_skip {P : Program} {ops : Array Oper} {rest : List Oper} {o : Oper} {a : Act} {w : World} {Q : Exit → Act → World → Prop} (hw : Region.wanted o (yielded ops a.tmps) = false)
    (h : ∀ a', a.put o.dst undef = a' → wpList P ops Q rest a' w) : wpList P ops Q (o :: rest) a w :=
  wpList_skip hw (h _ rfl)
/-- An operation, its guard met. -/
theorem list_want {P : Program} {ops : Array Oper} {rest : List Oper} {o : Oper} {a : Act} {w : World} {Q : Exit → Act → World → Prop} (hw : Region.wanted o (yielded ops a.tmps) = true)
    (h : ∀ K : Act → World → Prop, (∀ a' w', wpList P ops Q rest a' w' → K a' w') → o.wp P a w K Q) : wpList P ops Q (o :: rest) a w :=
  wpList_step fun K hK => by
    rw [if_pos hw]
    exact h K hK
/-- A goal that the walk lets be. -/
def Held (p : Prop) (_ : (p → Nat) → Nat) : Prop := p
theorem held_in {p : Prop} (h : Held p fun _ => 0) : p := h
theorem held_at (n : Nat) {l : Array Oper} {b : Bool} {P : Program} {Q : Exit → Act → World → Prop} {a : Act} {w : World} (h : Held ((Code.region n l b).wp P Q a w) fun _ => 0) : (Code.region n l b).wp P Q a w := h
end Go.Proofs.YtljihmbmjpcfaaaGreat
