/- A region that draws its order, in a round of a range over a function: what holds of it in the plain calculus, for every order, holds in the round, at the wide fence. A region that draws its order, walked by what each of its operations leaves: whatever the order, and wherever new blocks come to lie. A region that draws its order, each operation leaving a value that is known. -/
import Derived.RangeFuncNested
import Derived.OrdersIn
import Derived.OrdersHeld
import Derived.Shelf.RegionOpen
import Derived.Scope
import Derived.Below
namespace Go.Proofs.YtljihmbmjpcfaaaGreat
open Go

/-- No operation of the region is a defer statement. -/
def noDefer (ops : Array Oper) : Bool := ops.all fun o => match o.op with | .defer _ => false | _ => true
theorem noDefer_spec {ops : Array Oper} (h : noDefer ops = true) {i : Nat} {o : Oper} (hi : ops[i]? = some o) : ∀ c, o.op ≠ .defer c := by
  intro c hc
  unfold noDefer at h
  rw [Array.all_eq_true] at h
  obtain ⟨hlt, he⟩ := Array.getElem?_eq_some_iff.1 hi
  have := h i hlt
  rw [he, hc] at this
  simp at this

section
variable {P : Program} {ops : Array Oper} {Q : Exit → Act → World → Prop} {md : Region.Mode} {l n : Nat}

theorem rowsIn_wide' {row : String} {args : Array Value} {w : World} {R : Value → World → Prop} (h : Rows P row args w R) : RowsIn Fence.wide n P row args w R :=
  fun c cs _ => let ⟨v, w', r, s⟩ := h c cs; ⟨v, w', r, stepsIn_wide.2 s⟩

theorem operIn_of_oper {o : Oper} (hd : ∀ c, o.op ≠ .defer c) {a : Act} {w : World} {K : Act → World → Prop} (h : o.wp P a w K Q) : o.wpIn (Fence.wide.inRound l) n P a w K Q := by
  refine ⟨fun _ _ => trivial, ?_⟩
  rw [Oper.semAt_eq _ _ _ hd]
  unfold Oper.wp at h
  generalize (execOp a.eval o).run P w = r at *
  cases r with
  | ok x w' =>
    cases x <;> simp only [Oper.upon] at h <;> simp only [Oper.uponIn]
    case value => exact h
    case skip => exact h
    case defer => exact h
    case enter f args => exact ⟨fun hh => (by cases hh), CallsIn.inRound l (callsIn_wide.2 h)⟩
    case row row args => exact ⟨fun hh => (by cases hh), rowsIn_wide' h⟩
  | halt x w' => cases x <;> simp only [Oper.upon] at h <;> simp only [Oper.uponIn]; exact h

theorem wpAnyIn_of_wpAny (hno : ¬ LetsOut Q) (hd : noDefer ops = true) : ∀ (fuel : Nat) (listed : Array Bool) (a : Act) (w : World),
    wpAny P md ops Q fuel listed a w → wpAnyIn (Fence.wide.inRound l) n P md ops Q fuel listed a w
  | 0, _, _, _, h => h
  | fuel + 1, listed, a, w, h => by
    refine ⟨h.1, fun i hi => ?_⟩
    have h1 := h.2 i hi
    unfold wpOp at h1
    unfold wpOpIn
    cases ho : ops[i]? with
    | none => rw [ho] at h1; exact wpAnyIn_of_wpAny hno hd fuel _ _ _ h1
    | some o =>
      rw [ho] at h1
      simp only at h1 ⊢
      split
      · rename_i hw
        simp only [hw, if_true] at h1
        rcases h1 with h1 | ⟨_, h1⟩
        · exact Oper.wpIn_mono (fun a' w' h' => wpAnyIn_of_wpAny hno hd fuel _ a' w' h') (operIn_of_oper (noDefer_spec hd ho) h1)
        · exact absurd h1 hno
      · rename_i hw
        simp only [hw] at h1
        exact ⟨fun _ _ => trivial, wpAnyIn_of_wpAny hno hd fuel _ _ _ h1⟩

/-- It comes to its end, and no other way out is taken. -/
def only (K : Act → World → Prop) : Exit → Act → World → Prop
  | .normal, a, w => K a w
  | _, _, _ => False
theorem only_not (K : Act → World → Prop) : ¬ LetsOut (only K) := by rintro ⟨_, _, h⟩; exact h
theorem wpIn_only {F : Fence} {c : Code} {a : Act} {w : World} (h : c.wpIn F n P (only (Q .normal)) a w) : c.wpIn F n P Q a w :=
  wpIn_mono h (fun e a w h => by cases e <;> first | exact h | exact h.elim)
theorem wpAnyH_fin {S : World → Prop} {K : Act → World → Prop} {listed : Array Bool} {a : Act} {w : World} (hr : Region.ready md ops listed = []) (h : K a w) :
    ∀ fuel, wpAnyH P md ops (only K) S fuel listed a w := wpAnyH_done hr h

/-- A region that draws, in a round: walked by the held laws of the plain calculus. S: what holds of the world all along. -/
theorem wpIn_round_held {id : Nat} {a : Act} {w : World} (S : World → Prop) (hm : P.follows .mixedOrders = true) (hd : noDefer ops = true)
    (h : wpAnyH P .any ops (only (Q .normal)) S ops.size (Array.replicate ops.size false) a w.drew) : (Code.region id ops true).wpIn (Fence.wide.inRound l) n P Q a w :=
  wpIn_only (wpIn_region_any hm (wpAnyIn_of_wpAny (only_not _) hd _ _ _ _ (wpAny_of_held _ _ _ _ h)))

theorem wpIn_wide_held {id : Nat} {a : Act} {w : World} (S : World → Prop) (hm : P.follows .mixedOrders = true)
    (h : wpAnyH P .any ops (only (Q .normal)) S ops.size (Array.replicate ops.size false) a w.drew) : (Code.region id ops true).wpIn Fence.wide n P Q a w :=
  wpIn_only (wpIn_wide.2 (wp_region_held hm h))

/-- The same in the plain calculus. -/
theorem wp_held {id : Nat} {a : Act} {w : World} (S : World → Prop) (hm : P.follows .mixedOrders = true)
    (h : wpAnyH P .any ops (only (Q .normal)) S ops.size (Array.replicate ops.size false) a w.drew) : (Code.region id ops true).wp P Q a w :=
  wp_mono (wp_region_held hm h) (fun e a w h => by cases e <;> first | exact h | exact h.elim)

/-- A scope through which the run goes without a goto, at the wide fence. -/
theorem wpIn_scope_wide {c : Code} {a : Act} {w : World} (h : c.wpIn Fence.wide n P (Exit.noGoto Q) a w) : (Code.scope c).wpIn Fence.wide n P Q a w :=
  wpIn_wide.2 (wp_scope_straight (wpIn_wide.1 h))
theorem wpIn_label_wide {l : Nat} {a : Act} {w : World} (h : Q .normal a w) : (Code.label l).wpIn Fence.wide n P Q a w := wpIn_wide.2 (wp_label h)

/-- The one operation that may come up. -/
theorem wpAnyH_one {S : World → Prop} {i : Nat} {o : Oper} {fuel : Nat} {listed : Array Bool} {a : Act} {w : World} (hr : Region.ready md ops listed = [i]) (hi : ops[i]? = some o) (hg : o.guard = none)
    (h : ∀ K : Act → World → Prop, (∀ a' w', S w' → wpAnyH P md ops Q S fuel (listed.setIfInBounds i true) a' w' → K a' w') → o.wp P a w K Q) : wpAnyH P md ops Q S (fuel + 1) listed a w := by
  refine wpAnyH_all hr (by simp) (fun j hj => ?_)
  obtain rfl : j = i := by simpa using hj
  unfold wpOp
  simp only [hi, Region.wanted, hg, if_true]
  exact .inl (h _ (fun a' w' hs h' => ⟨hs, h'⟩))
/-- Take number i first; the state behind it under a name, to be written out. -/
theorem wpAnyH_next {S : World → Prop} {i : Nat} {oi : Oper} {v : Value} {fuel : Nat} {listed : Array Bool} {a : Act} {w : World} (hi : ops[i]? = some oi)
    (hs : Region.noSelect ops = true) (hf : Region.free md ops listed i = true) (hr : (Region.ready md ops listed).contains i = true)
    (hQ : ∀ c a w, Q (.panic c) (a.put oi.dst v) w → Q (.panic c) a w) (hw : Region.wanted oi (yielded ops a.tmps) = true) (hy : ∀ w, S w → (execOp a.eval oi).run P w = .ok (.value v) w) (hS : S w)
    (h : ∀ a', a.put oi.dst v = a' → wpAnyH P md ops Q S fuel (listed.setIfInBounds i true) a' w) : wpAnyH P md ops Q S (fuel + 1) listed a w :=
  wpAnyH_take hi hs hf hr hQ (.inl ⟨hw, hy⟩) hS (h _ rfl)

/-- Take number i first: its guard is not met, it leaves nothing. -/
theorem wpAnyH_skip {S : World → Prop} {i : Nat} {oi : Oper} {fuel : Nat} {listed : Array Bool} {a : Act} {w : World} (hi : ops[i]? = some oi)
    (hs : Region.noSelect ops = true) (hf : Region.free md ops listed i = true) (hr : (Region.ready md ops listed).contains i = true)
    (hQ : ∀ c a w, Q (.panic c) (a.put oi.dst undef) w → Q (.panic c) a w) (hw : Region.wanted oi (yielded ops a.tmps) = false) (hS : S w)
    (h : ∀ a', a.put oi.dst undef = a' → wpAnyH P md ops Q S fuel (listed.setIfInBounds i true) a' w) : wpAnyH P md ops Q S (fuel + 1) listed a w :=
  wpAnyH_take hi hs hf hr hQ (.inr ⟨hw, rfl⟩) hS (h _ rfl)

/-- The one operation that may come up, its guard met. -/
theorem wpAnyH_want {S : World → Prop} {i : Nat} {o : Oper} {fuel : Nat} {listed : Array Bool} {a : Act} {w : World} (hr : Region.ready md ops listed = [i]) (hi : ops[i]? = some o) (hg : Region.wanted o (yielded ops a.tmps) = true)
    (h : ∀ K : Act → World → Prop, (∀ a' w', S w' → wpAnyH P md ops Q S fuel (listed.setIfInBounds i true) a' w' → K a' w') → o.wp P a w K Q) : wpAnyH P md ops Q S (fuel + 1) listed a w := by
  refine wpAnyH_all hr (by simp) (fun j hj => ?_)
  obtain rfl : j = i := by simpa using hj
  unfold wpOp
  simp only [hi, hg, if_true]
  exact .inl (h _ (fun a' w' hs h' => ⟨hs, h'⟩))

/-- One of two that may come up. -/
theorem wpAnyH_two {S : World → Prop} {i j : Nat} {oi oj : Oper} {fuel : Nat} {listed : Array Bool} {a : Act} {w : World} (hr : Region.ready md ops listed = [i, j]) (hi : ops[i]? = some oi) (hj : ops[j]? = some oj) (hgi : oi.guard = none) (hgj : oj.guard = none)
    (h1 : ∀ K : Act → World → Prop, (∀ a' w', S w' → wpAnyH P md ops Q S fuel (listed.setIfInBounds i true) a' w' → K a' w') → oi.wp P a w K Q)
    (h2 : ∀ K : Act → World → Prop, (∀ a' w', S w' → wpAnyH P md ops Q S fuel (listed.setIfInBounds j true) a' w' → K a' w') → oj.wp P a w K Q) : wpAnyH P md ops Q S (fuel + 1) listed a w := by
  refine wpAnyH_all hr (by simp) (fun k hk => ?_)
  unfold wpOp
  rcases (by simpa using hk : k = i ∨ k = j) with rfl | rfl
  · simp only [hi, Region.wanted, hgi, if_true]
    exact .inl (h1 _ (fun a' w' hs h' => ⟨hs, h'⟩))
  · simp only [hj, Region.wanted, hgj, if_true]
    exact .inl (h2 _ (fun a' w' hs h' => ⟨hs, h'⟩))
end
end Go.Proofs.YtljihmbmjpcfaaaGreat
namespace Go.Proofs.YtljihmbmjpcfaaaGreat
open Go Go.RowKit

section
variable {P : Program} {ops : Array Oper} {Q : Exit → Act → World → Prop}

/-- Operation number i waits for number j. -/
def waits (ops : Array Oper) (i j : Nat) : Bool := ((ops[i]?).map (fun o => o.after.any fun e => e.on == j && Region.binds .any e)).getD false
/-- Where operation number j leaves its value. -/
def slotOf (ops : Array Oper) (j : Nat) : Nat := ((ops[j]?).bind (·.dst)).getD 0
/-- Slot s is as it was while operation number i is done: whoever writes it waits for that. -/
def before (ops : Array Oper) (i s : Nat) : Bool := (List.range ops.size).all fun j => ((ops[j]?).bind (·.dst)) != some s || waits ops j i
/-- Slot s is no operation's. -/
def untouched (ops : Array Oper) (s : Nat) : Bool := (List.range ops.size).all fun j => ((ops[j]?).bind (·.dst)) != some s
/-- Each operation has a slot of its own, below n; waits for earlier ones alone; and for its guard. -/
def fine (ops : Array Oper) (n : Nat) : Bool :=
  (List.range ops.size).all fun i => match ops[i]? with
    | none => false
    | some o => (match o.dst with | none => false | some d => decide (d < n) && (List.range ops.size).all fun j => j == i || ((ops[j]?).bind (·.dst)) != some d) &&
      (o.after.all fun e => !Region.binds .any e || decide (e.on < i)) && (match o.guard with | none => true | some (j, _) => waits ops i j)

theorem fine_spec {n : Nat} (h : fine ops n = true) {i : Nat} {o : Oper} (hi : ops[i]? = some o) :
    (∃ d, o.dst = some d ∧ d < n ∧ ∀ j oj, ops[j]? = some oj → oj.dst = some d → j = i) ∧ (∀ e ∈ o.after, Region.binds .any e = true → e.on < i) ∧ (∀ j b, o.guard = some (j, b) → waits ops i j = true) := by
  unfold fine at h
  have hlt : i < ops.size := (Array.getElem?_eq_some_iff.1 hi).1
  have h1 := List.all_eq_true.1 h i (List.mem_range.2 hlt)
  simp only [hi, Bool.and_eq_true] at h1
  obtain ⟨⟨h2, h3⟩, h4⟩ := h1
  refine ⟨?_, ?_, ?_⟩
  · cases hd : o.dst with
    | none => simp [hd] at h2
    | some d =>
      simp only [hd, Bool.and_eq_true, decide_eq_true_eq] at h2
      refine ⟨d, rfl, h2.1, fun j oj hj hdj => ?_⟩
      have hjl : j < ops.size := (Array.getElem?_eq_some_iff.1 hj).1
      have h5 := List.all_eq_true.1 h2.2 j (List.mem_range.2 hjl)
      simp only [hj, Option.bind_some, hdj, bne_self_eq_false, Bool.or_false, beq_iff_eq] at h5
      exact h5
  · intro e he hb
    have h5 := Array.all_eq_true.1 h3
    obtain ⟨k, hk, rfl⟩ := Array.mem_iff_getElem.1 he
    have h6 := h5 k hk
    simp only [hb, Bool.not_true, Bool.false_or, decide_eq_true_eq] at h6
    exact h6
  · intro j b hg
    simp only [hg] at h4
    exact h4

theorem waits_spec {i j : Nat} {o : Oper} (hi : ops[i]? = some o) (h : waits ops i j = true) : ∃ e ∈ o.after, e.on = j ∧ Region.binds .any e = true := by
  unfold waits at h
  simp only [hi, Option.map_some, Option.getD_some] at h
  obtain ⟨k, hk, h1⟩ := Array.any_eq_true.1 h
  simp only [Bool.and_eq_true, beq_iff_eq] at h1
  exact ⟨_, Array.getElem_mem hk, h1.1, h1.2⟩

theorem ready_spec {listed : Array Bool} {i : Nat} (h : i ∈ Region.ready .any ops listed) : ∃ o, ops[i]? = some o ∧ listed.getD i true = false ∧ ∀ e ∈ o.after, Region.binds .any e = true → listed.getD e.on false = true := by
  unfold Region.ready at h
  obtain ⟨h1, h2⟩ := List.mem_filter.1 h
  have hlt := List.mem_range.1 h1
  simp only [Bool.and_eq_true, Bool.not_eq_true'] at h2
  rw [Array.getElem?_eq_getElem hlt] at h2
  simp only [Option.map_some, Option.getD_some] at h2
  refine ⟨ops[i], Array.getElem?_eq_getElem hlt, h2.1, fun e he hb => ?_⟩
  obtain ⟨k, hk, rfl⟩ := Array.mem_iff_getElem.1 he
  have h3 := Array.all_eq_true.1 h2.2 k hk
  simp only [hb, Bool.not_true, Bool.false_or] at h3
  exact h3

/-- Where nothing is ready, all have come up. -/
theorem all_listed {n : Nat} (hf : fine ops n = true) {listed : Array Bool} (hs : listed.size = ops.size) (hr : Region.ready .any ops listed = []) : ∀ i, i < ops.size → listed.getD i true = true := by
  intro i
  induction i using Nat.strongRecOn with
  | _ i ih =>
    intro hi
    by_cases h : listed.getD i true = true
    · exact h
    · have h0 : listed.getD i true = false := by simpa using h
      have hm : i ∈ Region.ready .any ops listed := by
        unfold Region.ready
        refine List.mem_filter.2 ⟨List.mem_range.2 hi, ?_⟩
        rw [h0, Array.getElem?_eq_getElem hi]
        simp only [Bool.not_false, Bool.true_and, Option.map_some, Option.getD_some]
        refine Array.all_eq_true.2 fun k hk => ?_
        by_cases hb : Region.binds .any ops[i].after[k] = true
        · have h1 := (fine_spec hf (Array.getElem?_eq_getElem hi)).2.1 _ (Array.getElem_mem hk) hb
          have h2 := ih _ h1 (by omega)
          have h3 : (ops[i].after[k]).on < listed.size := by omega
          simp only [Array.getD_eq_getD_getElem?, Array.getElem?_eq_getElem h3, Option.getD_some] at h2 ⊢
          simp [h2]
        · simp [hb]
      rw [hr] at hm
      cases hm

/-- What holds all along. -/
structure Along (ops : Array Oper) (Spec : Nat → Value → World → Prop) (a0 : Act) (w0 : World) (listed : Array Bool) (a : Act) (w : World) : Prop where
  sized : listed.size = ops.size
  defers : a.defers = a0.defers
  slots : a.tmps.size = a0.tmps.size
  later : Below w0.heap.size w0 w
  rest : ∀ s, (∀ j o, ops[j]? = some o → o.dst = some s → listed.getD j true = false) → a.tmps.getD s undef = a0.tmps.getD s undef
  done : ∀ j o d, ops[j]? = some o → o.dst = some d → listed.getD j true = true → Spec j (a.tmps.getD d undef) w
  closed : ∀ j o, ops[j]? = some o → listed.getD j true = true → ∀ e ∈ o.after, Region.binds .any e = true → listed.getD e.on true = true

theorem getD_same {l : Array Bool} {i : Nat} (h : i < l.size) : l.getD i false = l.getD i true := by
  simp only [Array.getD_eq_getD_getElem?, Array.getElem?_eq_getElem h, Option.getD_some]
theorem put_same {a : Act} {d : Nat} {v : Value} (h : d < a.tmps.size) : (a.put (some d) v).tmps.getD d undef = v := by
  simp [Act.put, Array.getD_eq_getD_getElem?, h]
theorem put_other {a : Act} {d s : Nat} {v : Value} (h : s ≠ d) : (a.put (some d) v).tmps.getD s undef = a.tmps.getD s undef := by
  simp only [Act.put, Array.getD_eq_getD_getElem?]
  rw [Array.getElem?_setIfInBounds_ne (by omega)]
theorem set_same {l : Array Bool} {i : Nat} (h : i < l.size) : (l.setIfInBounds i true).getD i true = true := by
  simp [Array.getD_eq_getD_getElem?, h]
theorem set_other {l : Array Bool} {i j : Nat} (h : j ≠ i) : (l.setIfInBounds i true).getD j true = l.getD j true := by
  simp only [Array.getD_eq_getD_getElem?]
  rw [Array.getElem?_setIfInBounds_ne (by omega)]
theorem count_set_true {l : Array Bool} {i : Nat} (h : i < l.size) (h0 : l.getD i true = false) : (l.setIfInBounds i true).toList.count false + 1 = l.toList.count false := by
  have h1 : l[i] = false := by simpa [Array.getD_eq_getD_getElem?, h] using h0
  have hl : i < l.toList.length := by simpa using h
  have h2 : l.toList[i] = false := by simpa using h1
  rw [Array.toList_setIfInBounds, List.count_set hl]
  have h3 : 0 < l.toList.count false := List.count_pos_iff.2 (h2 ▸ List.getElem_mem hl)
  have e1 : (l.toList[i] == false) = true := by rw [h2]; rfl
  rw [if_pos e1, if_neg (by decide)]
  omega

variable {Spec : Nat → Value → World → Prop} {a0 : Act} {w0 : World}

theorem Along.step {n : Nat} (hf : fine ops n = true) (hn : n ≤ a0.tmps.size) (hst : ∀ i v w w', Spec i v w → Below w.heap.size w w' → Spec i v w') {listed : Array Bool} {a : Act} {w : World} (h : Along ops Spec a0 w0 listed a w)
    {i : Nat} {o : Oper} (hi : ops[i]? = some o) (hdeps : ∀ e ∈ o.after, Region.binds .any e = true → listed.getD e.on false = true) {v : Value} {w' : World} (hv : Spec i v w') (hb : Below w.heap.size w w') : Along ops Spec a0 w0 (listed.setIfInBounds i true) (a.put o.dst v) w' := by
  obtain ⟨⟨d, hd, hdn, hdu⟩, -, -⟩ := fine_spec hf hi
  have hlt : i < ops.size := (Array.getElem?_eq_some_iff.1 hi).1
  have hda : d < a.tmps.size := Nat.lt_of_lt_of_le hdn (h.slots ▸ hn)
  rw [hd]
  refine ⟨by simpa using h.sized, h.defers, by simpa [Act.put] using h.slots, h.later.trans (hb.mono h.later.size), fun s hs => ?_, fun j oj dj hj hdj hl => ?_, fun j oj hj hl e he hbd => ?_⟩
  · have hsd : s ≠ d := by
      rintro rfl
      have := hs i o hi hd
      rw [set_same (by rw [h.sized]; exact hlt)] at this
      cases this
    rw [put_other hsd]
    refine h.rest s fun j oj hj hdj => ?_
    have h1 := hs j oj hj hdj
    by_cases hji : j = i
    · subst hji
      rw [hi] at hj
      cases hj
      rw [hd] at hdj
      cases hdj
      exact absurd rfl hsd
    · rwa [set_other hji] at h1
  · by_cases hji : j = i
    · subst hji
      rw [hi] at hj
      cases hj
      rw [hd] at hdj
      cases hdj
      rw [put_same hda]
      exact hv
    · rw [set_other hji] at hl
      have hne : dj ≠ d := fun e => hji (hdu j oj hj (e ▸ hdj))
      rw [put_other hne]
      exact hst _ _ _ _ (h.done j oj dj hj hdj hl) hb
  · have hlt' : e.on < j := (fine_spec hf hj).2.1 e he hbd
    have hjl : j < ops.size := (Array.getElem?_eq_some_iff.1 hj).1
    have h1 : listed.getD e.on true = true := by
      by_cases hji : j = i
      · subst hji
        rw [hi] at hj
        cases hj
        have h2 := hdeps e he hbd
        rwa [getD_same (by rw [h.sized]; omega)] at h2
      · rw [set_other hji] at hl
        exact h.closed j oj hj hl e he hbd
    by_cases hei : e.on = i
    · rw [hei, set_same (by rw [h.sized]; omega)]
    · rwa [set_other hei]

/-- What comes to its end alone goes on whatever else is asked. -/
theorem wp_off {o : Oper} {a : Act} {w : World} {K K' : Act → World → Prop} (h : o.wp P a w K (only (fun _ _ => False))) (hk : ∀ a w, K a w → K' a w) : o.wp P a w K' Q := by
  unfold Oper.wp at *
  generalize (execOp a.eval o).run P w = r at *
  cases r with
  | ok n w' =>
    cases n <;> simp only [Oper.upon] at h ⊢ <;>
      first
        | exact hk _ _ h
        | exact Calls.mono h (fun e w'' he => by cases e <;> first | exact hk _ _ he | exact False.elim he | exact absurd he (only_not _))
        | exact Rows.mono h (fun _ _ he => hk _ _ he)
  | halt x w' => cases x <;> simp only [Oper.upon] at h ⊢ <;> exact False.elim h

/-- The law: each operation, done in whatever world comes, in a frame in which what it waits for is there, leaves what is said of it. -/
theorem wp_drawn {id : Nat} (hm : P.follows .mixedOrders = true) (Spec : Nat → Value → World → Prop) (hst : ∀ i v w w', Spec i v w → Below w.heap.size w w' → Spec i v w')
    (hf : fine ops a0.tmps.size = true) (hg : ∀ (i : Nat) (o : Oper) (j : Nat) (b : Bool), ops[i]? = some o → o.guard = some (j, b) → ∀ v w, Spec j v w → v = .bool b)
    (hstep : ∀ i o, ops[i]? = some o → ∀ a w, a.defers = a0.defers → Below w0.heap.size w0 w → (∀ s, before ops i s = true → a.tmps.getD s undef = a0.tmps.getD s undef) →
      (∀ j, waits ops i j = true → Spec j (a.tmps.getD (slotOf ops j) undef) w) → o.wp P a w (fun a' w' => ∃ v, a' = a.put o.dst v ∧ Spec i v w' ∧ Below w.heap.size w w') (only (fun _ _ => False)))
    (hfin : ∀ a w, a.defers = a0.defers → a.tmps.size = a0.tmps.size → Below w0.heap.size w0 w → (∀ s, untouched ops s = true → a.tmps.getD s undef = a0.tmps.getD s undef) → (∀ j, j < ops.size → Spec j (a.tmps.getD (slotOf ops j) undef) w) → Q .normal a w) :
    (Code.region id ops true).wp P Q a0 w0 := by
  have key : ∀ (fuel : Nat) (listed : Array Bool) (a : Act) (w : World), Along ops Spec a0 w0 listed a w → listed.toList.count false ≤ fuel → wpAny P .any ops Q fuel listed a w := by
    intro fuel
    have hend : ∀ (listed : Array Bool) (a : Act) (w : World), Along ops Spec a0 w0 listed a w → Region.ready .any ops listed = [] → Q .normal a w := by
      intro listed a w h hr
      have hall := all_listed hf h.sized hr
      refine hfin a w h.defers h.slots h.later (fun s hs => h.rest s fun j o hj hd => ?_) (fun j hj => ?_)
      · have h1 := List.all_eq_true.1 hs j (List.mem_range.2 (Array.getElem?_eq_some_iff.1 hj).1)
        simp [hj, hd] at h1
      · obtain ⟨⟨d, hd, -, -⟩, -, -⟩ := fine_spec hf (Array.getElem?_eq_getElem hj)
        have := h.done j _ d (Array.getElem?_eq_getElem hj) hd (hall j hj)
        unfold slotOf
        rw [Array.getElem?_eq_getElem hj]
        simpa [hd] using this
    induction fuel with
    | zero =>
      intro listed a w h hc
      have hr : Region.ready .any ops listed = [] := by
        refine List.filter_eq_nil_iff.2 fun i hi => ?_
        have hlt := List.mem_range.1 hi
        have hl : i < listed.size := by rw [h.sized]; exact hlt
        have h0 : ¬ false ∈ listed.toList := List.count_eq_zero.1 (by omega)
        have h1 : listed[i] = true := by
          cases hb : listed[i] with
          | true => rfl
          | false => exact absurd (hb ▸ Array.getElem_mem_toList hl) h0
        simp [Array.getD_eq_getD_getElem?, hl, h1]
      exact ⟨hr, hend listed a w h hr⟩
    | succ fuel ih =>
      intro listed a w h hc
      refine ⟨hend listed a w h, fun i hi => ?_⟩
      obtain ⟨o, ho, hl0, hdeps⟩ := ready_spec hi
      have hlt : i < ops.size := (Array.getElem?_eq_some_iff.1 ho).1
      have hll : i < listed.size := by rw [h.sized]; exact hlt
      have hD : ∀ j, waits ops i j = true → Spec j (a.tmps.getD (slotOf ops j) undef) w ∧ ∃ oj d, ops[j]? = some oj ∧ oj.dst = some d ∧ d < a0.tmps.size := by
        intro j hj
        obtain ⟨e, he, rfl, hb⟩ := waits_spec ho hj
        have h1 := hdeps e he hb
        have h2 := (fine_spec hf ho).2.1 e he hb
        have h3 : e.on < ops.size := by omega
        obtain ⟨⟨d, hd, hdn, -⟩, -, -⟩ := fine_spec hf (Array.getElem?_eq_getElem h3)
        rw [getD_same (by rw [h.sized]; exact h3)] at h1
        have h4 := h.done e.on _ d (Array.getElem?_eq_getElem h3) hd h1
        refine ⟨?_, _, d, Array.getElem?_eq_getElem h3, hd, hdn⟩
        unfold slotOf
        rw [Array.getElem?_eq_getElem h3]
        simpa [hd] using h4
      have hF : ∀ s, before ops i s = true → a.tmps.getD s undef = a0.tmps.getD s undef := by
        intro s hs
        refine h.rest s fun j oj hj hdj => ?_
        have hjl : j < ops.size := (Array.getElem?_eq_some_iff.1 hj).1
        have h1 := List.all_eq_true.1 hs j (List.mem_range.2 hjl)
        simp only [hj, Option.bind_some, hdj, bne_self_eq_false, Bool.false_or] at h1
        obtain ⟨e, he, hei, hb⟩ := waits_spec hj h1
        cases hlj : listed.getD j true with
        | false => rfl
        | true =>
          have h2 := h.closed j oj hj hlj e he hb
          rw [hei, hl0] at h2
          cases h2
      have hw : Region.wanted o (yielded ops a.tmps) = true := by
        unfold Region.wanted
        cases hgd : o.guard with
        | none => rfl
        | some jb =>
          obtain ⟨j, b⟩ := jb
          obtain ⟨h1, oj, d, hoj, hd, hdn⟩ := hD j ((fine_spec hf ho).2.2 j b hgd)
          have h2 := hg i o j b ho hgd _ _ h1
          unfold slotOf at h2
          rw [hoj] at h2
          simp only [Option.bind_some, hd, Option.getD_some] at h2
          have h3 : d < a.tmps.size := by rw [h.slots]; exact hdn
          simp only [Array.getD_eq_getD_getElem?, Array.getElem?_eq_getElem h3, Option.getD_some] at h2
          simp [yielded, hoj, hd, Array.getElem?_eq_getElem h3, h2]
      unfold wpOp
      simp only [ho, hw, if_true]
      refine .inl ?_
      refine wp_off (hstep i o ho a w h.defers h.later hF (fun j hj => (hD j hj).1)) ?_
      rintro a' w' ⟨v, rfl, hv, hb⟩
      refine ih _ _ _ (h.step hf (Nat.le_refl _) hst ho hdeps hv hb) ?_
      have := count_set_true hll hl0
      omega
  refine wp_region_any hm (key _ _ _ _ ⟨by simp, rfl, rfl, (Below.refl _ w0).drew, fun _ _ => rfl, fun j o d hj hd hl => ?_, fun j o hj hl => ?_⟩ ?_)
  · have hjl : j < ops.size := (Array.getElem?_eq_some_iff.1 hj).1
    simp [Array.getD_eq_getD_getElem?, hjl] at hl
  · have hjl : j < ops.size := (Array.getElem?_eq_some_iff.1 hj).1
    simp [Array.getD_eq_getD_getElem?, hjl] at hl
  · simp
end
end Go.Proofs.YtljihmbmjpcfaaaGreat
namespace Go.Proofs.YtljihmbmjpcfaaaGreat
open Go Go.RowKit

/-- Each guard is met. -/
def guardedV (ops : Array Oper) (L : List Value) : Bool :=
  (List.range ops.size).all fun i => match (ops[i]?).bind (·.guard) with
    | none => true
    | some (j, b) => match L.getD j undef with
      | .bool b' => b == b'
      | _ => false
theorem guardedV_spec {ops : Array Oper} {L : List Value} (h : guardedV ops L = true) (i : Nat) (o : Oper) (j : Nat) (b : Bool) (hi : ops[i]? = some o) (hg : o.guard = some (j, b)) (v : Value) (hv : v = L.getD j undef) : v = .bool b := by
  have h1 := List.all_eq_true.1 h i (List.mem_range.2 (Array.getElem?_eq_some_iff.1 hi).1)
  simp only [hi, Option.bind_some, hg] at h1
  rw [← hv] at h1
  cases v <;> simp at h1
  rw [h1]
/-- The law, by a table of the values that are left. -/
theorem wp_vals {P : Program} {ops : Array Oper} {Q : Exit → Act → World → Prop} {a0 : Act} {w0 : World} {id : Nat} (L : List Value) (hm : P.follows .mixedOrders = true) (hf : fine ops a0.tmps.size = true) (hg : guardedV ops L = true)
    (hstep : ∀ i o, ops[i]? = some o → ∀ a w, a.defers = a0.defers → Below w0.heap.size w0 w → (∀ s, before ops i s = true → a.tmps[s]?.getD undef = a0.tmps[s]?.getD undef) →
      (∀ j, waits ops i j = true → a.tmps[slotOf ops j]?.getD undef = L.getD j undef) → o.wp P a w (fun a' w' => ∃ v, a' = a.put o.dst v ∧ v = L.getD i undef ∧ Below w.heap.size w w') (only (fun _ _ => False)))
    (hfin : ∀ a w, a.defers = a0.defers → a.tmps.size = a0.tmps.size → Below w0.heap.size w0 w → (∀ s, untouched ops s = true → a.tmps[s]?.getD undef = a0.tmps[s]?.getD undef) → (∀ j, j < ops.size → a.tmps[slotOf ops j]?.getD undef = L.getD j undef) → Q .normal a w) :
    (Code.region id ops true).wp P Q a0 w0 :=
  wp_drawn hm (fun i v _ => v = L.getD i undef) (fun _ _ _ _ h _ => h) hf (fun i o j b hi hgd v _ hv => guardedV_spec hg i o j b hi hgd v hv)
    (fun i o ho a w h1 h2 h3 h4 => hstep i o ho a w h1 h2 (fun s hs => by have := h3 s hs; simpa only [Array.getD_eq_getD_getElem?] using this) (fun j hj => by have := h4 j hj; simpa only [Array.getD_eq_getD_getElem?] using this))
    (fun a w h1 h2 h3 h4 h5 => hfin a w h1 h2 h3 (fun s hs => by have := h4 s hs; simpa only [Array.getD_eq_getD_getElem?] using this) (fun j hj => by have := h5 j hj; simpa only [Array.getD_eq_getD_getElem?] using this))

/-- Each operation's value in its slot. -/
def putsL : List Oper → List Value → Act → Act
  | o :: os, v :: L, a => putsL os L (a.put o.dst v)
  | _, _, a => a
theorem putsL_spec : ∀ (os : List Oper) (L : List Value) (a : Act), os.length = L.length → (∀ (i : Nat) (o : Oper), os[i]? = some o → ∃ d, o.dst = some d ∧ d < a.tmps.size) → (∀ (i j : Nat) (oi oj : Oper) (d : Nat), os[i]? = some oi → os[j]? = some oj → oi.dst = some d → oj.dst = some d → i = j) →
    (putsL os L a).defers = a.defers ∧ (putsL os L a).tmps.size = a.tmps.size ∧ (∀ s, (∀ (j : Nat) (o : Oper), os[j]? = some o → o.dst ≠ some s) → (putsL os L a).tmps.getD s undef = a.tmps.getD s undef) ∧
    (∀ (j : Nat) (o : Oper) (d : Nat), os[j]? = some o → o.dst = some d → (putsL os L a).tmps.getD d undef = L.getD j undef)
  | [], L, a, _, _, _ => ⟨by simp [putsL], by simp [putsL], fun s _ => by simp [putsL], fun j o d h => by simp at h⟩
  | o :: os, [], a, h, _, _ => by simp at h
  | o :: os, v :: L, a, h, hd, hu => by
    obtain ⟨d, hod, hds⟩ := hd 0 o rfl
    have hsz : (a.put o.dst v).tmps.size = a.tmps.size := by rw [hod]; simp [Act.put]
    obtain ⟨h1, h2, h3, h4⟩ := putsL_spec os L (a.put o.dst v) (by simpa using h) (fun i oi hi => by rw [hsz]; exact hd (i + 1) oi (by simpa using hi)) (fun i j oi oj e hi hj h5 h6 => by
      have := hu (i + 1) (j + 1) oi oj e (by simpa using hi) (by simpa using hj) h5 h6
      omega)
    have hne : ∀ (j : Nat) (oj : Oper), os[j]? = some oj → oj.dst ≠ some d := fun j oj hj e => by
      have := hu 0 (j + 1) o oj d rfl (by simpa using hj) hod e
      omega
    rw [putsL]
    refine ⟨by rw [h1, hod]; rfl, by rw [h2, hsz], fun s hs => ?_, fun j oj e hj he => ?_⟩
    · rw [h3 s (fun j oj hj => hs (j + 1) oj (by simpa using hj)), hod]
      exact put_other (fun e => hs 0 o rfl (by rw [hod, e]))
    · cases j with
      | zero =>
        simp at hj
        subst hj
        rw [hod] at he
        cases he
        rw [h3 d hne, hod, put_same hds]
        rfl
      | succ j => exact h4 j oj e (by simpa using hj) he
theorem act_eq {a b : Act} (hd : a.defers = b.defers) (hs : a.tmps.size = b.tmps.size) (h : ∀ s, a.tmps.getD s undef = b.tmps.getD s undef) : a = b := by
  obtain ⟨ta, da⟩ := a
  obtain ⟨tb, db⟩ := b
  simp only at hd hs h
  subst hd
  congr 1
  refine Array.ext hs fun i h1 h2 => ?_
  have := h i
  simpa [Array.getD_eq_getD_getElem?, Array.getElem?_eq_getElem h1, Array.getElem?_eq_getElem h2] using this
/-- The law, the frame behind it written out. -/
theorem wp_vals_put {P : Program} {ops : Array Oper} {Q : Exit → Act → World → Prop} {a0 : Act} {w0 : World} {id : Nat} (L : List Value) (hm : P.follows .mixedOrders = true) (hf : fine ops a0.tmps.size = true) (hg : guardedV ops L = true) (hl : ops.toList.length = L.length)
    (hstep : ∀ i o, ops[i]? = some o → ∀ a w, a.defers = a0.defers → Below w0.heap.size w0 w → (∀ s, before ops i s = true → a.tmps[s]?.getD undef = a0.tmps[s]?.getD undef) →
      (∀ j, waits ops i j = true → a.tmps[slotOf ops j]?.getD undef = L.getD j undef) → o.wp P a w (fun a' w' => ∃ v, a' = a.put o.dst v ∧ v = L.getD i undef ∧ Below w.heap.size w w') (only (fun _ _ => False)))
    (hfin : ∀ a, putsL ops.toList L a0 = a → ∀ w, Below w0.heap.size w0 w → Q .normal a w) :
    (Code.region id ops true).wp P Q a0 w0 := by
  refine wp_vals L hm hf hg hstep fun a w h1 h2 h3 h4 h5 => hfin a ?_ w h3
  obtain ⟨p1, p2, p3, p4⟩ := putsL_spec ops.toList L a0 hl (fun i o hi => by
    obtain ⟨⟨d, hd, hdn, -⟩, -, -⟩ := fine_spec hf (i := i) (o := o) (by simpa using hi)
    exact ⟨d, hd, hdn⟩) (fun i j oi oj d hi hj hdi hdj => by
    obtain ⟨⟨e, he, -, hu⟩, -, -⟩ := fine_spec hf (i := j) (o := oj) (by simpa using hj)
    rw [hdj] at he
    cases he
    exact hu i oi (by simpa using hi) hdi)
  refine act_eq (by rw [p1, h1]) (by rw [p2, h2]) fun s => ?_
  by_cases hs : ∃ (j : Nat) (o : Oper), ops.toList[j]? = some o ∧ o.dst = some s
  · obtain ⟨j, o, hj, ho⟩ := hs
    rw [p4 j o s hj ho]
    have hj' : ops[j]? = some o := by simpa using hj
    have := h5 j (Array.getElem?_eq_some_iff.1 hj').1
    rw [← this]
    unfold slotOf
    rw [hj']
    simp [ho, Array.getD_eq_getD_getElem?]
  · have hs' : ∀ (j : Nat) (o : Oper), ops.toList[j]? = some o → o.dst ≠ some s := fun j o hj ho => hs ⟨j, o, hj, ho⟩
    rw [p3 s hs']
    have := h4 s (List.all_eq_true.2 fun j hj => by
      have hjl := List.mem_range.1 hj
      rw [Array.getElem?_eq_getElem hjl]
      have := hs' j ops[j] (by simp [hjl])
      simpa using this)
    simp only [Array.getD_eq_getD_getElem?]
    exact this.symm
end Go.Proofs.YtljihmbmjpcfaaaGreat
