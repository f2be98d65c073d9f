/- The program's Set. Whether an object may have a body: the program's. A region that draws its order, walked by what each of its operations leaves: whatever the order, and wherever new blocks come to lie. -/
import Derived.Test.YtljihmbmjpcfaaaGreatHashClone
import Derived.Test.YtljihmbmjpcfaaaGreatHashCompact
import Derived.Test.YtljihmbmjpcfaaaGreatUtf8
import Derived.Test.YtljihmbmjpcfaaaGreatObjAny
import Derived.Test.YtljihmbmjpcfaaaGreatRound
import Derived.Below
namespace Go.Proofs.YtljihmbmjpcfaaaGreat
open Go.RowKit Go.Great
set_option maxRecDepth 100000

theorem compUp_small (l : List (List UInt8)) (h : l.length < 2) : compUp l l.length = l := by
  cases l with
  | nil => rfl
  | cons x l =>
    cases l with
    | nil => simp [compUp]
    | cons y l => simp at h; omega

set_option maxRecDepth 100000 in
set_option maxHeartbeats 1000000 in
/-- Set. -/
theorem hSet_any (w : World) (v : Value) (l : List (List UInt8)) (hs : Is w v l) (hl : l.length ≤ 1000) :
    Calls Tryz.prog 42 #[v] w fun e W' => ∃ v', e = .returned v' ∧ Is W' v' (setI l) ∧ Below w.heap.size w W' := by
  have h32 := hs.1
  have hc1 := idClone_any w v l hs hl
  obtain ⟨A, c, rfl, hc⟩ := hs.form
  go_enter Tryz.func42, Tryz.ntmps42
  go_wp2_with fail
  refine hc1.mono ?_
  rintro e w1 ⟨v1, rfl, hrow, hB1⟩
  clear hc1 hs
  by_cases h0 : 0 < l.length
  case neg =>
    have hl0 : l = [] := List.eq_nil_of_length_eq_zero (by omega)
    subst hl0
    obtain ⟨A1, c1, rfl, _⟩ := hrow.slice
    have hs1 := idSort_none w1 A1 c1
    have hk1 := idCompact_small w1 A1 c1 [] (by simp)
    clear hrow
    go_wp2_with fail
    refine hs1.mono ?_
    rintro e w2 ⟨rfl, rfl⟩
    go_wp2_with fail
    refine hk1.mono ?_
    rintro e w3 ⟨rfl, rfl⟩
    go_wp2
    go_ret
    exact ⟨_, rfl, Is.empty _ _ _, hB1⟩
  case pos =>
    obtain ⟨g, c1, rfl, hc1, hng, hg, hH⟩ := hrow.hold h0
    have hs1 := idSort_some w1 g c1 l hH hg (by omega)
    clear hrow hH
    go_wp2_with fail
    refine hs1.mono ?_
    rintro e w2 ⟨rfl, l', hp, hpw, hH2, hK2⟩
    have hlen := hp.length_eq
    have hB2 := hB1.trans (hK2.below (fun j _ e => by omega) hB1.size)
    have hg2 : g < w2.heap.size := Nat.lt_of_lt_of_le hg hK2.size
    have HE := Lib.hid (compact_set l l' h32 hp hpw)
    rw [← hlen]
    rw [← hlen] at hc1 hl
    clear hp hpw hs1 hlen
    by_cases h2 : l'.length < 2
    · have hk2 := idCompact_small w2 (some ⟨g, 0, none⟩) c1 l' h2
      have hi := hH2.is hc1
      have HI := Lib.hid (show Is w2 (.slice (some ⟨g, 0, none⟩) l'.length c1) (setI l) by
        rw [← HE.out, compUp_small l' h2]
        exact hi)
      clear hi hH2
      go_wp2_with fail
      refine hk2.mono ?_
      rintro e w3 ⟨rfl, rfl⟩
      go_wp2
      go_ret
      exact ⟨_, rfl, HI.out, hB2⟩
    · have hk2 := idCompact_some w2 g c1 l' hH2 hg2 hc1 (by omega) (by omega)
      rw [HE.out] at hk2
      clear hH2
      go_wp2_with fail
      refine hk2.mono ?_
      rintro e w3 ⟨v3, rfl, hi3, hK3⟩
      obtain ⟨A3, c3, rfl, _⟩ := hi3.form
      have HI := Lib.hid hi3
      clear hi3
      go_wp2
      go_ret
      exact ⟨_, rfl, HI.out, hB2.trans (hK3.below (fun j _ e => by omega) hB2.size)⟩
end Go.Proofs.YtljihmbmjpcfaaaGreat
namespace Go.Proofs.YtljihmbmjpcfaaaGreat
open Go.RowKit Go.Shelf Go.Great
set_option maxRecDepth 100000

/-- May an entry's name be, an entry. -/
def nameB (x : List UInt8) : Bool := decide (x ≠ []) && (decide (x.length ≤ 64) && !barred x)
def entryB (x : En) : Bool := (decide (x.kd = 1) || decide (x.kd = 2)) && nameB x.nm
theorem str_neq_nil (x : List UInt8) : ((Str x) = .string ⟨#[]⟩) ↔ x = [] := by
  constructor
  · intro h
    injection h with h
    injection h with h
    simpa using h
  · rintro rfl; rfl

set_option maxHeartbeats 1000000 in
theorem oEntryMay_any (w : World) (x : En) :
    Calls Tryz.prog 222 #[EnV x] w fun e W' => e = .returned (.bool (entryB x)) ∧ Below w.heap.size w W' := by
  have b1 : BoxE eEn 70 (w.alloc (.cells (encE x).toArray 70)) w.heap.size x := BoxE.new w x
  have hB1 : Below w.heap.size w (w.alloc (.cells (encE x).toArray 70)) := (Below.refl _ w).alloc (Nat.le_refl _) _
  have c0 := EnAt.nm b1.at
  have c1 := EnAt.kd b1.at
  simp only [Nat.zero_add] at c0 c1
  by_cases hk : x.kd = 1 ∨ x.kd = 2
  case neg =>
    have h1 : ¬ x.kd = 1 := fun h => hk (.inl h)
    have h2 : ¬ x.kd = 2 := fun h => hk (.inr h)
    have HE := Lib.hid (show entryB x = false by simp [entryB, h1, h2])
    have e1 : (x.kd != 1) = true := by simp [h1]
    have e2 : (x.kd != 2) = true := by simp [h2]
    clear hk
    go_enter Tryz.func222, Tryz.ntmps222
    go_wp2_with fail
    go_ret
    exact ⟨by rw [HE.out]; rfl, hB1⟩
  case pos =>
    have HK := Lib.hid (show entryB x = nameB x.nm by rcases hk with h | h <;> simp [entryB, h])
    by_cases h0 : x.nm = []
    · have HE := Lib.hid (show entryB x = false by rw [HK.out, h0]; rfl)
      rcases hk with h | h
      · go_enter Tryz.func222, Tryz.ntmps222
        go_wp2_with fail
        go_ret
        exact ⟨by rw [HE.out]; rfl, hB1⟩
      · go_enter Tryz.func222, Tryz.ntmps222
        go_wp2_with fail
        go_ret
        exact ⟨by rw [HE.out]; rfl, hB1⟩
    · have hl : (x.nm.length : Int) ≤ 64 ∨ ¬ (x.nm.length : Int) ≤ 64 := Classical.em _
      rcases hl with hl | hl
      case inr =>
        have HE := Lib.hid (show entryB x = false by rw [HK.out]; simp [nameB]; omega)
        rcases hk with h | h
        · go_enter Tryz.func222, Tryz.ntmps222
          go_wp2_with fail
          go_ret
          exact ⟨by rw [HE.out]; rfl, hB1⟩
        · go_enter Tryz.func222, Tryz.ntmps222
          go_wp2_with fail
          go_ret
          exact ⟨by rw [HE.out]; rfl, hB1⟩
      case inl =>
        have h0' : x.nm.isEmpty = false := by simpa using h0
        have HE := Lib.hid (show entryB x = !barred x.nm by rw [HK.out]; simp [nameB, h0]; omega)
        rcases hk with h | h
        · go_enter Tryz.func222, Tryz.ntmps222
          go_wp2_with fail
          refine (sContainsAny_any _ x.nm (by omega)).mono ?_
          rintro e w2 ⟨rfl, h2⟩
          go_wp2_with fail
          go_ret
          exact ⟨by rw [HE.out]; rfl, hB1.trans (h2.mono hB1.size)⟩
        · go_enter Tryz.func222, Tryz.ntmps222
          go_wp2_with fail
          refine (sContainsAny_any _ x.nm (by omega)).mono ?_
          rintro e w2 ⟨rfl, h2⟩
          go_wp2_with fail
          go_ret
          exact ⟨by rw [HE.out]; rfl, hB1.trans (h2.mono hB1.size)⟩
end Go.Proofs.YtljihmbmjpcfaaaGreat
namespace Go.Proofs.YtljihmbmjpcfaaaGreat
open Go Go.RowKit

section
variable {P : Program} {ops : Array Oper} {Q : Exit → Act → World → Prop}

/-- Operation number i waits for number j. -/
def waits (ops : Array Oper) (i j : Nat) : Bool := ((ops[i]?).map (fun o => o.after.any fun e => e.on == j && Region.binds .any e)).getD false
/-- Where operation number j leaves its value. -/
def slotOf (ops : Array Oper) (j : Nat) : Nat := ((ops[j]?).bind (·.dst)).getD 0
/-- Slot s is as it was while operation number i is done: whoever writes it waits for that. -/
def before (ops : Array Oper) (i s : Nat) : Bool := (List.range ops.size).all fun j => ((ops[j]?).bind (·.dst)) != some s || waits ops j i
/-- Slot s is no operation's. -/
def untouched (ops : Array Oper) (s : Nat) : Bool := (List.range ops.size).all fun j => ((ops[j]?).bind (·.dst)) != some s
/-- Each operation has a slot of its own, below n; waits for earlier ones alone; and for its guard. -/
def fine (ops : Array Oper) (n : Nat) : Bool :=
  (List.range ops.size).all fun i => match ops[i]? with
    | none => false
    | some o => (match o.dst with | none => false | some d => decide (d < n) && (List.range ops.size).all fun j => j == i || ((ops[j]?).bind (·.dst)) != some d) &&
      (o.after.all fun e => !Region.binds .any e || decide (e.on < i)) && (match o.guard with | none => true | some (j, _) => waits ops i j)

theorem fine_spec {n : Nat} (h : fine ops n = true) {i : Nat} {o : Oper} (hi : ops[i]? = some o) :
    (∃ d, o.dst = some d ∧ d < n ∧ ∀ j oj, ops[j]? = some oj → oj.dst = some d → j = i) ∧ (∀ e ∈ o.after, Region.binds .any e = true → e.on < i) ∧ (∀ j b, o.guard = some (j, b) → waits ops i j = true) := by
  unfold fine at h
  have hlt : i < ops.size := (Array.getElem?_eq_some_iff.1 hi).1
  have h1 := List.all_eq_true.1 h i (List.mem_range.2 hlt)
  simp only [hi, Bool.and_eq_true] at h1
  obtain ⟨⟨h2, h3⟩, h4⟩ := h1
  refine ⟨?_, ?_, ?_⟩
  · cases hd : o.dst with
    | none => simp [hd] at h2
    | some d =>
      simp only [hd, Bool.and_eq_true, decide_eq_true_eq] at h2
      refine ⟨d, rfl, h2.1, fun j oj hj hdj => ?_⟩
      have hjl : j < ops.size := (Array.getElem?_eq_some_iff.1 hj).1
      have h5 := List.all_eq_true.1 h2.2 j (List.mem_range.2 hjl)
      simp only [hj, Option.bind_some, hdj, bne_self_eq_false, Bool.or_false, beq_iff_eq] at h5
      exact h5
  · intro e he hb
    have h5 := Array.all_eq_true.1 h3
    obtain ⟨k, hk, rfl⟩ := Array.mem_iff_getElem.1 he
    have h6 := h5 k hk
    simp only [hb, Bool.not_true, Bool.false_or, decide_eq_true_eq] at h6
    exact h6
  · intro j b hg
    simp only [hg] at h4
    exact h4

theorem waits_spec {i j : Nat} {o : Oper} (hi : ops[i]? = some o) (h : waits ops i j = true) : ∃ e ∈ o.after, e.on = j ∧ Region.binds .any e = true := by
  unfold waits at h
  simp only [hi, Option.map_some, Option.getD_some] at h
  obtain ⟨k, hk, h1⟩ := Array.any_eq_true.1 h
  simp only [Bool.and_eq_true, beq_iff_eq] at h1
  exact ⟨_, Array.getElem_mem hk, h1.1, h1.2⟩

theorem ready_spec {listed : Array Bool} {i : Nat} (h : i ∈ Region.ready .any ops listed) : ∃ o, ops[i]? = some o ∧ listed.getD i true = false ∧ ∀ e ∈ o.after, Region.binds .any e = true → listed.getD e.on false = true := by
  unfold Region.ready at h
  obtain ⟨h1, h2⟩ := List.mem_filter.1 h
  have hlt := List.mem_range.1 h1
  simp only [Bool.and_eq_true, Bool.not_eq_true'] at h2
  rw [Array.getElem?_eq_getElem hlt] at h2
  simp only [Option.map_some, Option.getD_some] at h2
  refine ⟨ops[i], Array.getElem?_eq_getElem hlt, h2.1, fun e he hb => ?_⟩
  obtain ⟨k, hk, rfl⟩ := Array.mem_iff_getElem.1 he
  have h3 := Array.all_eq_true.1 h2.2 k hk
  simp only [hb, Bool.not_true, Bool.false_or] at h3
  exact h3

/-- Where nothing is ready, all have come up. -/
theorem all_listed {n : Nat} (hf : fine ops n = true) {listed : Array Bool} (hs : listed.size = ops.size) (hr : Region.ready .any ops listed = []) : ∀ i, i < ops.size → listed.getD i true = true := by
  intro i
  induction i using Nat.strongRecOn with
  | _ i ih =>
    intro hi
    by_cases h : listed.getD i true = true
    · exact h
    · have h0 : listed.getD i true = false := by simpa using h
      have hm : i ∈ Region.ready .any ops listed := by
        unfold Region.ready
        refine List.mem_filter.2 ⟨List.mem_range.2 hi, ?_⟩
        rw [h0, Array.getElem?_eq_getElem hi]
        simp only [Bool.not_false, Bool.true_and, Option.map_some, Option.getD_some]
        refine Array.all_eq_true.2 fun k hk => ?_
        by_cases hb : Region.binds .any ops[i].after[k] = true
        · have h1 := (fine_spec hf (Array.getElem?_eq_getElem hi)).2.1 _ (Array.getElem_mem hk) hb
          have h2 := ih _ h1 (by omega)
          have h3 : (ops[i].after[k]).on < listed.size := by omega
          simp only [Array.getD_eq_getD_getElem?, Array.getElem?_eq_getElem h3, Option.getD_some] at h2 ⊢
          simp [h2]
        · simp [hb]
      rw [hr] at hm
      cases hm

/-- What holds all along. -/
structure Along (ops : Array Oper) (Spec : Nat → Value → World → Prop) (a0 : Act) (w0 : World) (listed : Array Bool) (a : Act) (w : World) : Prop where
  sized : listed.size = ops.size
  defers : a.defers = a0.defers
  slots : a.tmps.size = a0.tmps.size
  later : Below w0.heap.size w0 w
  rest : ∀ s, (∀ j o, ops[j]? = some o → o.dst = some s → listed.getD j true = false) → a.tmps.getD s undef = a0.tmps.getD s undef
  done : ∀ j o d, ops[j]? = some o → o.dst = some d → listed.getD j true = true → Spec j (a.tmps.getD d undef) w
  closed : ∀ j o, ops[j]? = some o → listed.getD j true = true → ∀ e ∈ o.after, Region.binds .any e = true → listed.getD e.on true = true

theorem getD_same {l : Array Bool} {i : Nat} (h : i < l.size) : l.getD i false = l.getD i true := by
  simp only [Array.getD_eq_getD_getElem?, Array.getElem?_eq_getElem h, Option.getD_some]
theorem put_same {a : Act} {d : Nat} {v : Value} (h : d < a.tmps.size) : (a.put (some d) v).tmps.getD d undef = v := by
  simp [Act.put, Array.getD_eq_getD_getElem?, h]
theorem put_other {a : Act} {d s : Nat} {v : Value} (h : s ≠ d) : (a.put (some d) v).tmps.getD s undef = a.tmps.getD s undef := by
  simp only [Act.put, Array.getD_eq_getD_getElem?]
  rw [Array.getElem?_setIfInBounds_ne (by omega)]
theorem set_same {l : Array Bool} {i : Nat} (h : i < l.size) : (l.setIfInBounds i true).getD i true = true := by
  simp [Array.getD_eq_getD_getElem?, h]
theorem set_other {l : Array Bool} {i j : Nat} (h : j ≠ i) : (l.setIfInBounds i true).getD j true = l.getD j true := by
  simp only [Array.getD_eq_getD_getElem?]
  rw [Array.getElem?_setIfInBounds_ne (by omega)]
theorem count_set_true {l : Array Bool} {i : Nat} (h : i < l.size) (h0 : l.getD i true = false) : (l.setIfInBounds i true).toList.count false + 1 = l.toList.count false := by
  have h1 : l[i] = false := by simpa [Array.getD_eq_getD_getElem?, h] using h0
  have hl : i < l.toList.length := by simpa using h
  have h2 : l.toList[i] = false := by simpa using h1
  rw [Array.toList_setIfInBounds, List.count_set hl]
  have h3 : 0 < l.toList.count false := List.count_pos_iff.2 (h2 ▸ List.getElem_mem hl)
  have e1 : (l.toList[i] == false) = true := by rw [h2]; rfl
  rw [if_pos e1, if_neg (by decide)]
  omega

variable {Spec : Nat → Value → World → Prop} {a0 : Act} {w0 : World}

theorem Along.step {n : Nat} (hf : fine ops n = true) (hn : n ≤ a0.tmps.size) (hst : ∀ i v w w', Spec i v w → Below w.heap.size w w' → Spec i v w') {listed : Array Bool} {a : Act} {w : World} (h : Along ops Spec a0 w0 listed a w)
    {i : Nat} {o : Oper} (hi : ops[i]? = some o) (hdeps : ∀ e ∈ o.after, Region.binds .any e = true → listed.getD e.on false = true) {v : Value} {w' : World} (hv : Spec i v w') (hb : Below w.heap.size w w') : Along ops Spec a0 w0 (listed.setIfInBounds i true) (a.put o.dst v) w' := by
  obtain ⟨⟨d, hd, hdn, hdu⟩, -, -⟩ := fine_spec hf hi
  have hlt : i < ops.size := (Array.getElem?_eq_some_iff.1 hi).1
  have hda : d < a.tmps.size := Nat.lt_of_lt_of_le hdn (h.slots ▸ hn)
  rw [hd]
  refine ⟨by simpa using h.sized, h.defers, by simpa [Act.put] using h.slots, h.later.trans (hb.mono h.later.size), fun s hs => ?_, fun j oj dj hj hdj hl => ?_, fun j oj hj hl e he hbd => ?_⟩
  · have hsd : s ≠ d := by
      rintro rfl
      have := hs i o hi hd
      rw [set_same (by rw [h.sized]; exact hlt)] at this
      cases this
    rw [put_other hsd]
    refine h.rest s fun j oj hj hdj => ?_
    have h1 := hs j oj hj hdj
    by_cases hji : j = i
    · subst hji
      rw [hi] at hj
      cases hj
      rw [hd] at hdj
      cases hdj
      exact absurd rfl hsd
    · rwa [set_other hji] at h1
  · by_cases hji : j = i
    · subst hji
      rw [hi] at hj
      cases hj
      rw [hd] at hdj
      cases hdj
      rw [put_same hda]
      exact hv
    · rw [set_other hji] at hl
      have hne : dj ≠ d := fun e => hji (hdu j oj hj (e ▸ hdj))
      rw [put_other hne]
      exact hst _ _ _ _ (h.done j oj dj hj hdj hl) hb
  · have hlt' : e.on < j := (fine_spec hf hj).2.1 e he hbd
    have hjl : j < ops.size := (Array.getElem?_eq_some_iff.1 hj).1
    have h1 : listed.getD e.on true = true := by
      by_cases hji : j = i
      · subst hji
        rw [hi] at hj
        cases hj
        have h2 := hdeps e he hbd
        rwa [getD_same (by rw [h.sized]; omega)] at h2
      · rw [set_other hji] at hl
        exact h.closed j oj hj hl e he hbd
    by_cases hei : e.on = i
    · rw [hei, set_same (by rw [h.sized]; omega)]
    · rwa [set_other hei]

/-- What comes to its end alone goes on whatever else is asked. -/
theorem wp_off {o : Oper} {a : Act} {w : World} {K K' : Act → World → Prop} (h : o.wp P a w K (only (fun _ _ => False))) (hk : ∀ a w, K a w → K' a w) : o.wp P a w K' Q := by
  unfold Oper.wp at *
  generalize (execOp a.eval o).run P w = r at *
  cases r with
  | ok n w' =>
    cases n <;> simp only [Oper.upon] at h ⊢ <;>
      first
        | exact hk _ _ h
        | exact Calls.mono h (fun e w'' he => by cases e <;> first | exact hk _ _ he | exact False.elim he | exact absurd he (only_not _))
        | exact Rows.mono h (fun _ _ he => hk _ _ he)
  | halt x w' => cases x <;> simp only [Oper.upon] at h ⊢ <;> exact False.elim h

/-- The law: each operation, done in whatever world comes, in a frame in which what it waits for is there, leaves what is said of it. -/
theorem wp_drawn {id : Nat} (hm : P.follows .mixedOrders = true) (Spec : Nat → Value → World → Prop) (hst : ∀ i v w w', Spec i v w → Below w.heap.size w w' → Spec i v w')
    (hf : fine ops a0.tmps.size = true) (hg : ∀ (i : Nat) (o : Oper) (j : Nat) (b : Bool), ops[i]? = some o → o.guard = some (j, b) → ∀ v w, Spec j v w → v = .bool b)
    (hstep : ∀ i o, ops[i]? = some o → ∀ a w, a.defers = a0.defers → Below w0.heap.size w0 w → (∀ s, before ops i s = true → a.tmps.getD s undef = a0.tmps.getD s undef) →
      (∀ j, waits ops i j = true → Spec j (a.tmps.getD (slotOf ops j) undef) w) → o.wp P a w (fun a' w' => ∃ v, a' = a.put o.dst v ∧ Spec i v w' ∧ Below w.heap.size w w') (only (fun _ _ => False)))
    (hfin : ∀ a w, a.defers = a0.defers → a.tmps.size = a0.tmps.size → Below w0.heap.size w0 w → (∀ s, untouched ops s = true → a.tmps.getD s undef = a0.tmps.getD s undef) → (∀ j, j < ops.size → Spec j (a.tmps.getD (slotOf ops j) undef) w) → Q .normal a w) :
    (Code.region id ops true).wp P Q a0 w0 := by
  have key : ∀ (fuel : Nat) (listed : Array Bool) (a : Act) (w : World), Along ops Spec a0 w0 listed a w → listed.toList.count false ≤ fuel → wpAny P .any ops Q fuel listed a w := by
    intro fuel
    have hend : ∀ (listed : Array Bool) (a : Act) (w : World), Along ops Spec a0 w0 listed a w → Region.ready .any ops listed = [] → Q .normal a w := by
      intro listed a w h hr
      have hall := all_listed hf h.sized hr
      refine hfin a w h.defers h.slots h.later (fun s hs => h.rest s fun j o hj hd => ?_) (fun j hj => ?_)
      · have h1 := List.all_eq_true.1 hs j (List.mem_range.2 (Array.getElem?_eq_some_iff.1 hj).1)
        simp [hj, hd] at h1
      · obtain ⟨⟨d, hd, -, -⟩, -, -⟩ := fine_spec hf (Array.getElem?_eq_getElem hj)
        have := h.done j _ d (Array.getElem?_eq_getElem hj) hd (hall j hj)
        unfold slotOf
        rw [Array.getElem?_eq_getElem hj]
        simpa [hd] using this
    induction fuel with
    | zero =>
      intro listed a w h hc
      have hr : Region.ready .any ops listed = [] := by
        refine List.filter_eq_nil_iff.2 fun i hi => ?_
        have hlt := List.mem_range.1 hi
        have hl : i < listed.size := by rw [h.sized]; exact hlt
        have h0 : ¬ false ∈ listed.toList := List.count_eq_zero.1 (by omega)
        have h1 : listed[i] = true := by
          cases hb : listed[i] with
          | true => rfl
          | false => exact absurd (hb ▸ Array.getElem_mem_toList hl) h0
        simp [Array.getD_eq_getD_getElem?, hl, h1]
      exact ⟨hr, hend listed a w h hr⟩
    | succ fuel ih =>
      intro listed a w h hc
      refine ⟨hend listed a w h, fun i hi => ?_⟩
      obtain ⟨o, ho, hl0, hdeps⟩ := ready_spec hi
      have hlt : i < ops.size := (Array.getElem?_eq_some_iff.1 ho).1
      have hll : i < listed.size := by rw [h.sized]; exact hlt
      have hD : ∀ j, waits ops i j = true → Spec j (a.tmps.getD (slotOf ops j) undef) w ∧ ∃ oj d, ops[j]? = some oj ∧ oj.dst = some d ∧ d < a0.tmps.size := by
        intro j hj
        obtain ⟨e, he, rfl, hb⟩ := waits_spec ho hj
        have h1 := hdeps e he hb
        have h2 := (fine_spec hf ho).2.1 e he hb
        have h3 : e.on < ops.size := by omega
        obtain ⟨⟨d, hd, hdn, -⟩, -, -⟩ := fine_spec hf (Array.getElem?_eq_getElem h3)
        rw [getD_same (by rw [h.sized]; exact h3)] at h1
        have h4 := h.done e.on _ d (Array.getElem?_eq_getElem h3) hd h1
        refine ⟨?_, _, d, Array.getElem?_eq_getElem h3, hd, hdn⟩
        unfold slotOf
        rw [Array.getElem?_eq_getElem h3]
        simpa [hd] using h4
      have hF : ∀ s, before ops i s = true → a.tmps.getD s undef = a0.tmps.getD s undef := by
        intro s hs
        refine h.rest s fun j oj hj hdj => ?_
        have hjl : j < ops.size := (Array.getElem?_eq_some_iff.1 hj).1
        have h1 := List.all_eq_true.1 hs j (List.mem_range.2 hjl)
        simp only [hj, Option.bind_some, hdj, bne_self_eq_false, Bool.false_or] at h1
        obtain ⟨e, he, hei, hb⟩ := waits_spec hj h1
        cases hlj : listed.getD j true with
        | false => rfl
        | true =>
          have h2 := h.closed j oj hj hlj e he hb
          rw [hei, hl0] at h2
          cases h2
      have hw : Region.wanted o (yielded ops a.tmps) = true := by
        unfold Region.wanted
        cases hgd : o.guard with
        | none => rfl
        | some jb =>
          obtain ⟨j, b⟩ := jb
          obtain ⟨h1, oj, d, hoj, hd, hdn⟩ := hD j ((fine_spec hf ho).2.2 j b hgd)
          have h2 := hg i o j b ho hgd _ _ h1
          unfold slotOf at h2
          rw [hoj] at h2
          simp only [Option.bind_some, hd, Option.getD_some] at h2
          have h3 : d < a.tmps.size := by rw [h.slots]; exact hdn
          simp only [Array.getD_eq_getD_getElem?, Array.getElem?_eq_getElem h3, Option.getD_some] at h2
          simp [yielded, hoj, hd, Array.getElem?_eq_getElem h3, h2]
      unfold wpOp
      simp only [ho, hw, if_true]
      refine .inl ?_
      refine wp_off (hstep i o ho a w h.defers h.later hF (fun j hj => (hD j hj).1)) ?_
      rintro a' w' ⟨v, rfl, hv, hb⟩
      refine ih _ _ _ (h.step hf (Nat.le_refl _) hst ho hdeps hv hb) ?_
      have := count_set_true hll hl0
      omega
  refine wp_region_any hm (key _ _ _ _ ⟨by simp, rfl, rfl, (Below.refl _ w0).drew, fun _ _ => rfl, fun j o d hj hd hl => ?_, fun j o hj hl => ?_⟩ ?_)
  · have hjl : j < ops.size := (Array.getElem?_eq_some_iff.1 hj).1
    simp [Array.getD_eq_getD_getElem?, hjl] at hl
  · have hjl : j < ops.size := (Array.getElem?_eq_some_iff.1 hj).1
    simp [Array.getD_eq_getD_getElem?, hjl] at hl
  · simp
end
end Go.Proofs.YtljihmbmjpcfaaaGreat
