/- A region that draws its order up to a tail: its head walked by what each of its operations leaves, wherever new blocks come to lie; its tail in order. -/
import Derived.Test.YtljihmbmjpcfaaaGreatDrawnV
import Derived.StillTail
namespace Go.Proofs.YtljihmbmjpcfaaaGreat
open Go Go.RowKit

/-- The block that a value leads to. -/
def blk : Value → Option Nat
  | .pointer (some a) => some a.block
  | .slice (some a) _ _ => some a.block
  | _ => none

section
variable {P : Program} {ops : Array Oper} {Q : Exit → Act → World → Prop}

/-- Each of the first n operations has a slot of its own, below m; waits for earlier ones alone, and for its guard. -/
def fineH (ops : Array Oper) (n m : Nat) : Bool :=
  (List.range n).all fun i => match ops[i]? with
    | none => false
    | some o => (match o.dst with | none => false | some d => decide (d < m) && (List.range n).all fun j => j == i || ((ops[j]?).bind (·.dst)) != some d) &&
      (o.after.all fun e => !Region.binds .any e || decide (e.on < i)) && (match o.guard with | none => true | some (j, _) => waits ops i j)
theorem fineH_spec {n m : Nat} (h : fineH ops n m = true) {i : Nat} (hin : i < n) {o : Oper} (hi : ops[i]? = some o) :
    (∃ d, o.dst = some d ∧ d < m ∧ ∀ j oj, j < n → ops[j]? = some oj → oj.dst = some d → j = i) ∧ (∀ e ∈ o.after, Region.binds .any e = true → e.on < i) ∧ (∀ j b, o.guard = some (j, b) → waits ops i j = true) := by
  unfold fineH at h
  have h1 := List.all_eq_true.1 h i (List.mem_range.2 hin)
  simp only [hi, Bool.and_eq_true] at h1
  obtain ⟨⟨h2, h3⟩, h4⟩ := h1
  refine ⟨?_, ?_, fun j b hg => by simp only [hg] at h4; exact h4⟩
  · cases hd : o.dst with
    | none => simp [hd] at h2
    | some d =>
      simp only [hd, Bool.and_eq_true, decide_eq_true_eq] at h2
      refine ⟨d, rfl, h2.1, fun j oj hjn hj hdj => ?_⟩
      have h5 := List.all_eq_true.1 h2.2 j (List.mem_range.2 hjn)
      simp only [hj, Option.bind_some, hdj, bne_self_eq_false, Bool.or_false, beq_iff_eq] at h5
      exact h5
  · intro e he hb
    obtain ⟨k, hk, rfl⟩ := Array.mem_iff_getElem.1 he
    have h6 := Array.all_eq_true.1 h3 k hk
    simp only [hb, Bool.not_true, Bool.false_or, decide_eq_true_eq] at h6
    exact h6
theorem fineH_there {n m : Nat} (h : fineH ops n m = true) {i : Nat} (hin : i < n) : ∃ o, ops[i]? = some o := by
  unfold fineH at h
  have h1 := List.all_eq_true.1 h i (List.mem_range.2 hin)
  cases ho : ops[i]? with
  | none => simp [ho] at h1
  | some o => exact ⟨o, rfl⟩
/-- Slot s is as it was while operation number i of the head is done. -/
def beforeH (ops : Array Oper) (n i s : Nat) : Bool := (List.range n).all fun j => ((ops[j]?).bind (·.dst)) != some s || waits ops j i

/-- What holds all along the head. -/
structure AlongH (ops : Array Oper) (n : Nat) (New : Nat → Bool) (Spec : Nat → Value → World → Prop) (a0 : Act) (w0 : World) (listed : Array Bool) (a : Act) (w : World) : Prop where
  inv : HeadInv .any ops n listed
  defers : a.defers = a0.defers
  slots : a.tmps.size = a0.tmps.size
  later : Below w0.heap.size w0 w
  rest : ∀ s, (∀ j o, j < n → ops[j]? = some o → o.dst = some s → listed.getD j true = false) → a.tmps.getD s undef = a0.tmps.getD s undef
  done : ∀ j o d, j < n → ops[j]? = some o → o.dst = some d → listed.getD j true = true → Spec j (a.tmps.getD d undef) w ∧ (New j = true → ∃ b, blk (a.tmps.getD d undef) = some b ∧ b < w.heap.size)
  apart : ∀ i j oi oj di dj, i < n → j < n → i ≠ j → New i = true → New j = true → ops[i]? = some oi → ops[j]? = some oj → oi.dst = some di → oj.dst = some dj → listed.getD i true = true → listed.getD j true = true → blk (a.tmps.getD di undef) ≠ blk (a.tmps.getD dj undef)

variable {Spec : Nat → Value → World → Prop} {New : Nat → Bool} {a0 : Act} {w0 : World}

theorem getD_tf {l : Array Bool} {i : Nat} (h : i < l.size) : l.getD i false = l.getD i true := by
  simp only [Array.getD_eq_getD_getElem?, Array.getElem?_eq_getElem h, Option.getD_some]
theorem AlongH.step {n : Nat} (hf : fineH ops n a0.tmps.size = true) (hst : ∀ i v w w', Spec i v w → Below w.heap.size w w' → Spec i v w') {listed : Array Bool} {a : Act} {w : World} (h : AlongH ops n New Spec a0 w0 listed a w)
    {i : Nat} {o : Oper} (hin : i < n) (hr : i ∈ Region.ready .any ops listed) (hi : ops[i]? = some o) {v : Value} {w' : World} (hv : Spec i v w') (hb : Below w.heap.size w w') (hnew : New i = true → ∃ b, blk v = some b ∧ w.heap.size ≤ b ∧ b < w'.heap.size) : AlongH ops n New Spec a0 w0 (listed.setIfInBounds i true) (a.put o.dst v) w' := by
  obtain ⟨⟨d, hd, hdn, hdu⟩, -, -⟩ := fineH_spec hf hin hi
  have hlt : i < ops.size := (Array.getElem?_eq_some_iff.1 hi).1
  have hll : i < listed.size := by rw [h.inv.size]; exact hlt
  have hda : d < a.tmps.size := by rw [h.slots]; exact hdn
  rw [hd]
  have other : ∀ j oj dj, j < n → ops[j]? = some oj → oj.dst = some dj → j ≠ i → dj ≠ d := fun j oj dj hjn hj hdj hji e => hji (hdu j oj hjn hj (e ▸ hdj))
  refine ⟨h.inv.set hr hin, h.defers, by simpa [Act.put] using h.slots, h.later.trans (hb.mono h.later.size), fun s hs => ?_, fun j oj dj hjn hj hdj hl => ?_, fun j k oj ok dj dk hjn hkn hjk nj nk hj hk hdj hdk hlj hlk => ?_⟩
  · have hsd : s ≠ d := by
      rintro rfl
      have := hs i o hin hi hd
      rw [set_same hll] at this
      cases this
    rw [put_other hsd]
    refine h.rest s fun j oj hjn hj hdj => ?_
    have h1 := hs j oj hjn hj hdj
    by_cases hji : j = i
    · subst hji
      rw [hi] at hj
      cases hj
      rw [hd] at hdj
      cases hdj
      exact absurd rfl hsd
    · rwa [set_other hji] at h1
  · by_cases hji : j = i
    · subst hji
      rw [hi] at hj
      cases hj
      rw [hd] at hdj
      cases hdj
      rw [put_same hda]
      exact ⟨hv, fun hn => by obtain ⟨b, h1, _, h2⟩ := hnew hn; exact ⟨b, h1, h2⟩⟩
    · rw [set_other hji] at hl
      rw [put_other (other j oj dj hjn hj hdj hji)]
      obtain ⟨h1, h2⟩ := h.done j oj dj hjn hj hdj hl
      exact ⟨hst _ _ _ _ h1 hb, fun hn => by obtain ⟨b, h3, h4⟩ := h2 hn; exact ⟨b, h3, Nat.lt_of_lt_of_le h4 hb.size⟩⟩
  · by_cases hji : j = i
    · subst hji
      rw [hi] at hj
      cases hj
      rw [hd] at hdj
      cases hdj
      have hki : k ≠ j := fun e => hjk e.symm
      rw [put_same hda, put_other (other k ok dk hkn hk hdk hki)]
      rw [set_other hki] at hlk
      obtain ⟨b, h1, h2, _⟩ := hnew nj
      obtain ⟨b', h3, h4⟩ := (h.done k ok dk hkn hk hdk hlk).2 nk
      rw [h1, h3]
      intro e
      injection e with e
      omega
    · by_cases hki : k = i
      · subst hki
        rw [hi] at hk
        cases hk
        rw [hd] at hdk
        cases hdk
        rw [put_same hda, put_other (other j oj dj hjn hj hdj hji)]
        rw [set_other hji] at hlj
        obtain ⟨b, h1, h2, _⟩ := hnew nk
        obtain ⟨b', h3, h4⟩ := (h.done j oj dj hjn hj hdj hlj).2 nj
        rw [h1, h3]
        intro e
        injection e with e
        omega
      · rw [set_other hji] at hlj
        rw [set_other hki] at hlk
        rw [put_other (other j oj dj hjn hj hdj hji), put_other (other k ok dk hkn hk hdk hki)]
        exact h.apart j k oj ok dj dk hjn hkn hjk nj nk hj hk hdj hdk hlj hlk

/-- All of the head has come up, nothing of the tail. -/
def headAll (n m : Nat) : Array Bool := ((List.range m).map fun j => decide (j < n)).toArray
theorem listed_all {n : Nat} {listed : Array Bool} (inv : HeadInv .any ops n listed) (h : ∀ j, j < n → listed.getD j true = true) : listed = headAll n ops.size := by
  refine Array.ext (by simp [headAll, inv.size]) fun i h1 h2 => ?_
  have hi : i < ops.size := by rw [← inv.size]; exact h1
  by_cases hin : i < n
  · have := h i hin
    simp [Array.getD_eq_getD_getElem?, h1] at this
    simp [headAll, hin, this]
  · have := inv.tail i (by omega) hi
    simp [Array.getD_eq_getD_getElem?, h1] at this
    simp [headAll, hin, this]
theorem count_head {n m : Nat} (h : n ≤ m) : (headAll n m).toList.count false = m - n := by
  unfold headAll
  simp only
  induction m with
  | zero => simp
  | succ m ih =>
    rw [List.range_succ, List.map_append, List.count_append]
    by_cases hm : n ≤ m
    · rw [ih hm]
      have : decide (m < n) = false := by simp; omega
      simp [this]
      omega
    · have hnm : n = m + 1 := by omega
      subst hnm
      have h0 : ∀ k, k ≤ m → List.count false ((List.range k).map fun j => decide (j < m + 1)) = 0 := fun k hk => by
        rw [List.count_eq_zero]
        intro hmem
        obtain ⟨j, hj, e⟩ := List.mem_map.1 hmem
        have := List.mem_range.1 hj
        simp at e
        omega
      rw [h0 m (Nat.le_refl _)]
      simp

/-- The law. -/
theorem wp_drawn_tail {id : Nat} (n : Nat) (New : Nat → Bool) (Spec : Nat → Value → World → Prop) (hm : P.follows .mixedOrders = true) (hst : ∀ i v w w', Spec i v w → Below w.heap.size w w' → Spec i v w')
    (hn : n < ops.size) (hf : fineH ops n a0.tmps.size = true) (hs : Region.sinkB .any ops n = true) (hc : Region.chainB .any ops n = true) (hq : Region.seqB .any ops (ops.size - n) n (headAll n ops.size) = true)
    (hg : ∀ (i : Nat) (o : Oper) (j : Nat) (b : Bool), i < n → ops[i]? = some o → o.guard = some (j, b) → (∀ v w, Spec j v w → v = .bool b) ∨ ((∀ v w, Spec j v w → v = .bool (!b)) ∧ (∀ w, Spec i undef w) ∧ New i = false))
    (hstep : ∀ i o, i < n → ops[i]? = some o → (∀ j b, o.guard = some (j, b) → ¬ ∀ v w, Spec j v w → v = .bool (!b)) → ∀ a w, a.defers = a0.defers → Below w0.heap.size w0 w → (∀ s, beforeH ops n i s = true → a.tmps[s]?.getD undef = a0.tmps[s]?.getD undef) →
      (∀ j, waits ops i j = true → Spec j (a.tmps[slotOf ops j]?.getD undef) w) → o.wp P a w (fun a' w' => ∃ v, a' = a.put o.dst v ∧ Spec i v w' ∧ Below w.heap.size w w' ∧ (New i = true → ∃ b, blk v = some b ∧ w.heap.size ≤ b ∧ b < w'.heap.size)) (only (fun _ _ => False)))
    (hfin : ∀ (L : List Value) w, L.length = n → Below w0.heap.size w0 w → (∀ j v, L[j]? = some v → Spec j v w) → (∀ i j vi vj, i ≠ j → New i = true → New j = true → L[i]? = some vi → L[j]? = some vj → blk vi ≠ blk vj) →
      ∀ a, putsL (ops.toList.take n) L a0 = a → wpList P ops Q (ops.toList.drop n) a w) :
    (Code.region id ops true).wp P Q a0 w0 := by
  have key : ∀ (fuel : Nat) (listed : Array Bool) (a : Act) (w : World), AlongH ops n New Spec a0 w0 listed a w → listed.toList.count false = fuel → wpAny P .any ops Q fuel listed a w := by
    intro fuel
    induction fuel with
    | zero =>
      intro listed a w h hcnt
      exfalso
      have h0 : ¬ false ∈ listed.toList := List.count_eq_zero.1 hcnt
      have h1 := h.inv.tail n (Nat.le_refl _) hn
      have hl : n < listed.size := by rw [h.inv.size]; exact hn
      simp [Array.getD_eq_getD_getElem?, hl] at h1
      exact h0 (h1 ▸ Array.getElem_mem_toList hl)
    | succ fuel ih =>
      intro listed a w h hcnt
      by_cases hall : ∀ j, j < n → listed.getD j true = true
      · have hlst := listed_all h.inv hall
        subst hlst
        rw [count_head (Nat.le_of_lt hn)] at hcnt
        have hdl : (ops.toList.drop n).length = ops.size - n := by simp
        have hval : ∀ j (hj : j < n), ∃ o d, ops[j]? = some o ∧ o.dst = some d ∧ d < a0.tmps.size ∧ slotOf ops j = d := fun j hj => by
          obtain ⟨o, ho⟩ := fineH_there hf hj
          obtain ⟨⟨d, hd, hdn, -⟩, -, -⟩ := fineH_spec hf hj ho
          exact ⟨o, d, ho, hd, hdn, by unfold slotOf; rw [ho]; simp [hd]⟩
        have hget : ∀ (j : Nat) (v : Value), ((List.range n).map fun j => a.tmps.getD (slotOf ops j) undef)[j]? = some v → j < n ∧ v = a.tmps.getD (slotOf ops j) undef := fun j v hv => by
          obtain ⟨h1, h2⟩ := List.getElem?_eq_some_iff.1 hv
          simp at h1 h2
          exact ⟨h1, by rw [← h2]; simp [Array.getD_eq_getD_getElem?]⟩
        have hlist := hfin ((List.range n).map fun j => a.tmps.getD (slotOf ops j) undef) w (by simp) h.later (fun j v hv => by
          obtain ⟨hj, rfl⟩ := hget j v hv
          obtain ⟨o, d, ho, hd, hdn, hsl⟩ := hval j hj
          rw [hsl]
          exact (h.done j o d hj ho hd (hall j hj)).1) (fun i j vi vj hij ni nj hvi hvj => by
          obtain ⟨hi, rfl⟩ := hget i vi hvi
          obtain ⟨hj, rfl⟩ := hget j vj hvj
          obtain ⟨oi, di, hoi, hdi, _, hsi⟩ := hval i hi
          obtain ⟨oj, dj, hoj, hdj, _, hsj⟩ := hval j hj
          rw [hsi, hsj]
          exact h.apart i j oi oj di dj hi hj hij ni nj hoi hoj hdi hdj (hall i hi) (hall j hj)) a (by
          have htake : ∀ (j : Nat) (o : Oper), (ops.toList.take n)[j]? = some o → j < n ∧ ops[j]? = some o := fun j o hj => by
            rw [List.getElem?_take] at hj
            split at hj
            · exact ⟨‹_›, by simpa using hj⟩
            · cases hj
          obtain ⟨p1, p2, p3, p4⟩ := putsL_spec (ops.toList.take n) ((List.range n).map fun j => a.tmps.getD (slotOf ops j) undef) a0 (by simp; omega) (fun i o hi => by
            obtain ⟨hin, hi'⟩ := htake i o hi
            obtain ⟨⟨d, hd, hdn, -⟩, -, -⟩ := fineH_spec hf hin hi'
            exact ⟨d, hd, hdn⟩) (fun i j oi oj d hi hj hdi hdj => by
            obtain ⟨hin, hi'⟩ := htake i oi hi
            obtain ⟨hjn, hj'⟩ := htake j oj hj
            obtain ⟨⟨e, he, -, hu⟩, -, -⟩ := fineH_spec hf hjn hj'
            rw [hdj] at he
            cases he
            exact hu i oi hin hi' hdi)
          refine act_eq (by rw [p1, h.defers]) (by rw [p2, h.slots]) fun s => ?_
          by_cases hsx : ∃ (j : Nat) (o : Oper), (ops.toList.take n)[j]? = some o ∧ o.dst = some s
          · obtain ⟨j, o, hj, ho⟩ := hsx
            obtain ⟨hjn, hj'⟩ := htake j o hj
            rw [p4 j o s hj ho]
            obtain ⟨o', d, ho', hd, _, hsl⟩ := hval j hjn
            rw [hj'] at ho'
            cases ho'
            rw [ho] at hd
            cases hd
            simp [hjn, hsl, Array.getD_eq_getD_getElem?]
          · rw [p3 s (fun j o hj ho => hsx ⟨j, o, hj, ho⟩)]
            refine (h.rest s fun j o hjn hj ho => absurd ⟨j, o, ?_, ho⟩ hsx).symm
            rw [List.getElem?_take, if_pos hjn]
            simpa using hj)
        have := wpAny_of_seq (md := .any) (Q' := Q) (ops.toList.drop n) n (headAll n ops.size) a w (fun j => by simp [List.getElem?_drop]) (by rw [hdl]; exact hq) hlist
        rw [hdl] at this
        rw [← hcnt]
        exact this
      · obtain ⟨k, hk⟩ := Classical.not_forall.1 hall
        have hkn : k < n := by
          rcases Nat.lt_or_ge k n with h' | h'
          · exact h'
          · exact absurd (fun hlt => absurd hlt (by omega)) hk
        have hk0 : listed.getD k true = false := by
          cases hb : listed.getD k true with
          | false => rfl
          | true => exact absurd (fun _ => hb) hk
        refine ⟨fun h0 => ?_, fun i hi => ?_⟩
        · exfalso
          have hun : ∀ i, i < n → listed.getD i true = true := by
            intro i
            induction i using Nat.strongRecOn with
            | _ i ihh =>
              intro hin
              cases hb : listed.getD i true with
              | true => rfl
              | false =>
                exfalso
                obtain ⟨o, ho⟩ := fineH_there hf hin
                have hlt : i < ops.size := (Array.getElem?_eq_some_iff.1 ho).1
                have hmem : i ∈ Region.ready .any ops listed := by
                  unfold Region.ready
                  refine List.mem_filter.2 ⟨List.mem_range.2 hlt, ?_⟩
                  rw [hb, ho]
                  simp only [Bool.not_false, Bool.true_and, Option.map_some, Option.getD_some]
                  refine Array.all_eq_true.2 fun q hq' => ?_
                  by_cases hbd : Region.binds .any o.after[q] = true
                  · have h1 := (fineH_spec hf hin ho).2.1 _ (Array.getElem_mem hq') hbd
                    have h2 := ihh _ h1 (by omega)
                    have h3 : (o.after[q]).on < listed.size := by rw [h.inv.size]; omega
                    rw [← getD_tf h3] at h2
                    simp [h2]
                  · simp [hbd]
                rw [h0] at hmem
                cases hmem
          rw [hun k hkn] at hk0
          cases hk0
        · have hin : i < n := by
            rcases Nat.lt_or_ge i n with h' | h'
            · exact h'
            · exact absurd hi (tail_waits hs hc hn h.inv _ k rfl hkn hk0 i h')
          obtain ⟨o, ho, hl0, hdeps⟩ := ready_spec hi
          have hlt : i < ops.size := (Array.getElem?_eq_some_iff.1 ho).1
          have hll : i < listed.size := by rw [h.inv.size]; exact hlt
          have hD : ∀ j, waits ops i j = true → Spec j (a.tmps[slotOf ops j]?.getD undef) w ∧ ∃ oj d, ops[j]? = some oj ∧ oj.dst = some d ∧ d < a0.tmps.size := fun j hj => by
            obtain ⟨e, he, rfl, hb⟩ := waits_spec ho hj
            have h1 := hdeps e he hb
            have h2 := (fineH_spec hf hin ho).2.1 e he hb
            have h3 : e.on < n := by omega
            obtain ⟨oj, hoj⟩ := fineH_there hf h3
            obtain ⟨⟨d, hd, hdn, -⟩, -, -⟩ := fineH_spec hf h3 hoj
            rw [getD_tf (by rw [h.inv.size]; omega)] at h1
            have h4 := (h.done e.on oj d h3 hoj hd h1).1
            refine ⟨?_, oj, d, hoj, hd, hdn⟩
            unfold slotOf
            rw [hoj]
            simpa [hd, Array.getD_eq_getD_getElem?] using h4
          have hyield : ∀ (j : Nat) (v : Bool), waits ops i j = true → (a.tmps[slotOf ops j]?.getD undef) = .bool v → yielded ops a.tmps j = some v := fun j v hj hv => by
            obtain ⟨_, oj, d, hoj, hd, hdn⟩ := hD j hj
            have h3 : d < a.tmps.size := by rw [h.slots]; exact hdn
            unfold slotOf at hv
            rw [hoj] at hv
            simp [hd, Array.getElem?_eq_getElem h3] at hv
            simp [yielded, hoj, hd, Array.getElem?_eq_getElem h3, hv]
          by_cases hun : ∃ j b, o.guard = some (j, b) ∧ ∀ v w, Spec j v w → v = .bool (!b)
          · obtain ⟨j, b, hgd, hno⟩ := hun
            have hj := (fineH_spec hf hin ho).2.2 j b hgd
            have hval := hno _ _ (hD j hj).1
            have hsp : (∀ w, Spec i undef w) ∧ New i = false := by
              rcases hg i o j b hin ho hgd with h1 | ⟨_, h2⟩
              · have h3 := h1 _ _ (hD j hj).1
                rw [hval] at h3
                cases b <;> cases h3
              · exact h2
            have hw : Region.wanted o (yielded ops a.tmps) = false := by
              have hy := hyield j _ hj hval
              unfold Region.wanted
              rw [hgd]
              simp only [hy]
              cases b <;> rfl
            unfold wpOp
            simp only [ho, hw, Bool.false_eq_true, if_false]
            refine ih _ _ _ (h.step hf hst hin hi ho (hsp.1 w) (Below.refl _ _) (fun hn' => by rw [hsp.2] at hn'; cases hn')) ?_
            have := count_set_true hll hl0
            omega
          have hw : Region.wanted o (yielded ops a.tmps) = true := by
            unfold Region.wanted
            cases hgd : o.guard with
            | none => rfl
            | some jb =>
              obtain ⟨j, b⟩ := jb
              have hj := (fineH_spec hf hin ho).2.2 j b hgd
              rcases hg i o j b hin ho hgd with h1 | ⟨h2, _⟩
              · have hy := hyield j _ hj (h1 _ _ (hD j hj).1)
                simp only [hy]
                cases b <;> rfl
              · exact absurd ⟨j, b, hgd, h2⟩ hun
          unfold wpOp
          simp only [ho, hw, if_true]
          refine .inl ?_
          refine wp_off (hstep i o hin ho (fun j b hgd hno => hun ⟨j, b, hgd, hno⟩) a w h.defers h.later (fun s hs' => ?_) (fun j hj => (hD j hj).1)) ?_
          · have := h.rest s fun j oj hjn hj hdj => ?_
            · simpa only [Array.getD_eq_getD_getElem?] using this
            · have h1 := List.all_eq_true.1 hs' j (List.mem_range.2 hjn)
              simp only [hj, Option.bind_some, hdj, bne_self_eq_false, Bool.false_or] at h1
              obtain ⟨e, he, hei, hb⟩ := waits_spec hj h1
              cases hlj : listed.getD j true with
              | false => rfl
              | true =>
                have hjl : j < ops.size := (Array.getElem?_eq_some_iff.1 hj).1
                have h2 := h.inv.closed j oj hj (by rw [getD_tf (by rw [h.inv.size]; exact hjl)]; exact hlj) e he hb
                rw [hei, getD_tf hll, hl0] at h2
                cases h2
          · rintro a' w' ⟨v, rfl, hv, hb, hnew⟩
            refine ih _ _ _ (h.step hf hst hin hi ho hv hb hnew) ?_
            have := count_set_true hll hl0
            omega
  refine wp_region_any hm (key _ _ _ _ ⟨⟨by simp, fun j oj _ hl => (by rw [getD_replicate_false] at hl; cases hl), fun t _ ht => getD_in (by simpa using ht) (getD_replicate_false _ _)⟩, rfl, rfl, (Below.refl _ w0).drew, fun _ _ => rfl, fun j o d _ hj hd hl => ?_, fun i j oi oj di dj _ _ _ _ _ hi _ _ _ hl => ?_⟩ (by simp))
  · have hjl : j < ops.size := (Array.getElem?_eq_some_iff.1 hj).1
    simp [Array.getD_eq_getD_getElem?, hjl] at hl
  · have hjl : i < ops.size := (Array.getElem?_eq_some_iff.1 hi).1
    simp [Array.getD_eq_getD_getElem?, hjl] at hl
end
end Go.Proofs.YtljihmbmjpcfaaaGreat
