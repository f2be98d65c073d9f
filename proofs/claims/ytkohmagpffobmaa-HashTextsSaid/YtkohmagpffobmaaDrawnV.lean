/- A region that draws its order, each operation leaving a value that is known. -/
import Derived.Test.YtkohmagpffobmaaDrawnG
namespace Go.Proofs.Ytkohmagpffobmaa
open Go Go.RowKit

/-- Each guard is met. -/
def guardedV (ops : Array Oper) (L : List Value) : Bool :=
  (List.range ops.size).all fun i => match (ops[i]?).bind (·.guard) with
    | none => true
    | some (j, b) => match L.getD j undef with
      | .bool b' => b == b'
      | _ => false
theorem guardedV_spec {ops : Array Oper} {L : List Value} (h : guardedV ops L = true) (i : Nat) (o : Oper) (j : Nat) (b : Bool) (hi : ops[i]? = some o) (hg : o.guard = some (j, b)) (v : Value) (hv : v = L.getD j undef) : v = .bool b := by
  have h1 := List.all_eq_true.1 h i (List.mem_range.2 (Array.getElem?_eq_some_iff.1 hi).1)
  simp only [hi, Option.bind_some, hg] at h1
  rw [← hv] at h1
  cases v <;> simp at h1
  rw [h1]
/-- The law, by a table of the values that are left. -/
theorem wp_vals {P : Program} {ops : Array Oper} {Q : Exit → Act → World → Prop} {a0 : Act} {w0 : World} {id : Nat} (L : List Value) (hm : P.follows .mixedOrders = true) (hf : fine ops a0.tmps.size = true) (hg : guardedV ops L = true)
    (hstep : ∀ i o, ops[i]? = some o → ∀ a w, a.defers = a0.defers → Below w0.heap.size w0 w → (∀ s, before ops i s = true → a.tmps[s]?.getD undef = a0.tmps[s]?.getD undef) →
      (∀ j, waits ops i j = true → a.tmps[slotOf ops j]?.getD undef = L.getD j undef) → o.wp P a w (fun a' w' => ∃ v, a' = a.put o.dst v ∧ v = L.getD i undef ∧ Below w.heap.size w w') (only (fun _ _ => False)))
    (hfin : ∀ a w, a.defers = a0.defers → a.tmps.size = a0.tmps.size → Below w0.heap.size w0 w → (∀ s, untouched ops s = true → a.tmps[s]?.getD undef = a0.tmps[s]?.getD undef) → (∀ j, j < ops.size → a.tmps[slotOf ops j]?.getD undef = L.getD j undef) → Q .normal a w) :
    (Code.region id ops true).wp P Q a0 w0 :=
  wp_drawn hm (fun i v _ => v = L.getD i undef) (fun _ _ _ _ h _ => h) hf (fun i o j b hi hgd v _ hv => guardedV_spec hg i o j b hi hgd v hv)
    (fun i o ho a w h1 h2 h3 h4 => hstep i o ho a w h1 h2 (fun s hs => by have := h3 s hs; simpa only [Array.getD_eq_getD_getElem?] using this) (fun j hj => by have := h4 j hj; simpa only [Array.getD_eq_getD_getElem?] using this))
    (fun a w h1 h2 h3 h4 h5 => hfin a w h1 h2 h3 (fun s hs => by have := h4 s hs; simpa only [Array.getD_eq_getD_getElem?] using this) (fun j hj => by have := h5 j hj; simpa only [Array.getD_eq_getD_getElem?] using this))
end Go.Proofs.Ytkohmagpffobmaa
