/- A region that draws its order, each operation leaving a value that is known. -/
import Derived.Test.YtljihmbmjpcfaaaGreatDrawnG
namespace Go.Proofs.YtljihmbmjpcfaaaGreat
open Go Go.RowKit

/-- Each guard is met. -/
def guardedV (ops : Array Oper) (L : List Value) : Bool :=
  (List.range ops.size).all fun i => match (ops[i]?).bind (·.guard) with
    | none => true
    | some (j, b) => match L.getD j undef with
      | .bool b' => b == b'
      | _ => false
theorem guardedV_spec {ops : Array Oper} {L : List Value} (h : guardedV ops L = true) (i : Nat) (o : Oper) (j : Nat) (b : Bool) (hi : ops[i]? = some o) (hg : o.guard = some (j, b)) (v : Value) (hv : v = L.getD j undef) : v = .bool b := by
  have h1 := List.all_eq_true.1 h i (List.mem_range.2 (Array.getElem?_eq_some_iff.1 hi).1)
  simp only [hi, Option.bind_some, hg] at h1
  rw [← hv] at h1
  cases v <;> simp at h1
  rw [h1]
/-- The law, by a table of the values that are left. -/
theorem wp_vals {P : Program} {ops : Array Oper} {Q : Exit → Act → World → Prop} {a0 : Act} {w0 : World} {id : Nat} (L : List Value) (hm : P.follows .mixedOrders = true) (hf : fine ops a0.tmps.size = true) (hg : guardedV ops L = true)
    (hstep : ∀ i o, ops[i]? = some o → ∀ a w, a.defers = a0.defers → Below w0.heap.size w0 w → (∀ s, before ops i s = true → a.tmps[s]?.getD undef = a0.tmps[s]?.getD undef) →
      (∀ j, waits ops i j = true → a.tmps[slotOf ops j]?.getD undef = L.getD j undef) → o.wp P a w (fun a' w' => ∃ v, a' = a.put o.dst v ∧ v = L.getD i undef ∧ Below w.heap.size w w') (only (fun _ _ => False)))
    (hfin : ∀ a w, a.defers = a0.defers → a.tmps.size = a0.tmps.size → Below w0.heap.size w0 w → (∀ s, untouched ops s = true → a.tmps[s]?.getD undef = a0.tmps[s]?.getD undef) → (∀ j, j < ops.size → a.tmps[slotOf ops j]?.getD undef = L.getD j undef) → Q .normal a w) :
    (Code.region id ops true).wp P Q a0 w0 :=
  wp_drawn hm (fun i v _ => v = L.getD i undef) (fun _ _ _ _ h _ => h) hf (fun i o j b hi hgd v _ hv => guardedV_spec hg i o j b hi hgd v hv)
    (fun i o ho a w h1 h2 h3 h4 => hstep i o ho a w h1 h2 (fun s hs => by have := h3 s hs; simpa only [Array.getD_eq_getD_getElem?] using this) (fun j hj => by have := h4 j hj; simpa only [Array.getD_eq_getD_getElem?] using this))
    (fun a w h1 h2 h3 h4 h5 => hfin a w h1 h2 h3 (fun s hs => by have := h4 s hs; simpa only [Array.getD_eq_getD_getElem?] using this) (fun j hj => by have := h5 j hj; simpa only [Array.getD_eq_getD_getElem?] using this))

/-- Each operation's value in its slot. -/
def putsL : List Oper → List Value → Act → Act
  | o :: os, v :: L, a => putsL os L (a.put o.dst v)
  | _, _, a => a
theorem putsL_spec : ∀ (os : List Oper) (L : List Value) (a : Act), os.length = L.length → (∀ (i : Nat) (o : Oper), os[i]? = some o → ∃ d, o.dst = some d ∧ d < a.tmps.size) → (∀ (i j : Nat) (oi oj : Oper) (d : Nat), os[i]? = some oi → os[j]? = some oj → oi.dst = some d → oj.dst = some d → i = j) →
    (putsL os L a).defers = a.defers ∧ (putsL os L a).tmps.size = a.tmps.size ∧ (∀ s, (∀ (j : Nat) (o : Oper), os[j]? = some o → o.dst ≠ some s) → (putsL os L a).tmps.getD s undef = a.tmps.getD s undef) ∧
    (∀ (j : Nat) (o : Oper) (d : Nat), os[j]? = some o → o.dst = some d → (putsL os L a).tmps.getD d undef = L.getD j undef)
  | [], L, a, _, _, _ => ⟨by simp [putsL], by simp [putsL], fun s _ => by simp [putsL], fun j o d h => by simp at h⟩
  | o :: os, [], a, h, _, _ => by simp at h
  | o :: os, v :: L, a, h, hd, hu => by
    obtain ⟨d, hod, hds⟩ := hd 0 o rfl
    have hsz : (a.put o.dst v).tmps.size = a.tmps.size := by rw [hod]; simp [Act.put]
    obtain ⟨h1, h2, h3, h4⟩ := putsL_spec os L (a.put o.dst v) (by simpa using h) (fun i oi hi => by rw [hsz]; exact hd (i + 1) oi (by simpa using hi)) (fun i j oi oj e hi hj h5 h6 => by
      have := hu (i + 1) (j + 1) oi oj e (by simpa using hi) (by simpa using hj) h5 h6
      omega)
    have hne : ∀ (j : Nat) (oj : Oper), os[j]? = some oj → oj.dst ≠ some d := fun j oj hj e => by
      have := hu 0 (j + 1) o oj d rfl (by simpa using hj) hod e
      omega
    rw [putsL]
    refine ⟨by rw [h1, hod]; rfl, by rw [h2, hsz], fun s hs => ?_, fun j oj e hj he => ?_⟩
    · rw [h3 s (fun j oj hj => hs (j + 1) oj (by simpa using hj)), hod]
      exact put_other (fun e => hs 0 o rfl (by rw [hod, e]))
    · cases j with
      | zero =>
        simp at hj
        subst hj
        rw [hod] at he
        cases he
        rw [h3 d hne, hod, put_same hds]
        rfl
      | succ j => exact h4 j oj e (by simpa using hj) he
theorem act_eq {a b : Act} (hd : a.defers = b.defers) (hs : a.tmps.size = b.tmps.size) (h : ∀ s, a.tmps.getD s undef = b.tmps.getD s undef) : a = b := by
  obtain ⟨ta, da⟩ := a
  obtain ⟨tb, db⟩ := b
  simp only at hd hs h
  subst hd
  congr 1
  refine Array.ext hs fun i h1 h2 => ?_
  have := h i
  simpa [Array.getD_eq_getD_getElem?, Array.getElem?_eq_getElem h1, Array.getElem?_eq_getElem h2] using this
/-- The law, the frame behind it written out. -/
theorem wp_vals_put {P : Program} {ops : Array Oper} {Q : Exit → Act → World → Prop} {a0 : Act} {w0 : World} {id : Nat} (L : List Value) (hm : P.follows .mixedOrders = true) (hf : fine ops a0.tmps.size = true) (hg : guardedV ops L = true) (hl : ops.toList.length = L.length)
    (hstep : ∀ i o, ops[i]? = some o → ∀ a w, a.defers = a0.defers → Below w0.heap.size w0 w → (∀ s, before ops i s = true → a.tmps[s]?.getD undef = a0.tmps[s]?.getD undef) →
      (∀ j, waits ops i j = true → a.tmps[slotOf ops j]?.getD undef = L.getD j undef) → o.wp P a w (fun a' w' => ∃ v, a' = a.put o.dst v ∧ v = L.getD i undef ∧ Below w.heap.size w w') (only (fun _ _ => False)))
    (hfin : ∀ a, putsL ops.toList L a0 = a → ∀ w, Below w0.heap.size w0 w → Q .normal a w) :
    (Code.region id ops true).wp P Q a0 w0 := by
  refine wp_vals L hm hf hg hstep fun a w h1 h2 h3 h4 h5 => hfin a ?_ w h3
  obtain ⟨p1, p2, p3, p4⟩ := putsL_spec ops.toList L a0 hl (fun i o hi => by
    obtain ⟨⟨d, hd, hdn, -⟩, -, -⟩ := fine_spec hf (i := i) (o := o) (by simpa using hi)
    exact ⟨d, hd, hdn⟩) (fun i j oi oj d hi hj hdi hdj => by
    obtain ⟨⟨e, he, -, hu⟩, -, -⟩ := fine_spec hf (i := j) (o := oj) (by simpa using hj)
    rw [hdj] at he
    cases he
    exact hu i oi (by simpa using hi) hdi)
  refine act_eq (by rw [p1, h1]) (by rw [p2, h2]) fun s => ?_
  by_cases hs : ∃ (j : Nat) (o : Oper), ops.toList[j]? = some o ∧ o.dst = some s
  · obtain ⟨j, o, hj, ho⟩ := hs
    rw [p4 j o s hj ho]
    have hj' : ops[j]? = some o := by simpa using hj
    have := h5 j (Array.getElem?_eq_some_iff.1 hj').1
    rw [← this]
    unfold slotOf
    rw [hj']
    simp [ho, Array.getD_eq_getD_getElem?]
  · have hs' : ∀ (j : Nat) (o : Oper), ops.toList[j]? = some o → o.dst ≠ some s := fun j o hj ho => hs ⟨j, o, hj, ho⟩
    rw [p3 s hs']
    have := h4 s (List.all_eq_true.2 fun j hj => by
      have hjl := List.mem_range.1 hj
      rw [Array.getElem?_eq_getElem hjl]
      have := hs' j ops[j] (by simp [hjl])
      simpa using this)
    simp only [Array.getD_eq_getD_getElem?]
    exact this.symm
end Go.Proofs.YtljihmbmjpcfaaaGreat
