/- Two sets of dots side by side, in plain lists; what DotParts comes down to. -/
import Derived.Test.YtcclifnhbncfcaaDotIs
namespace Go.Proofs.Ytcclifnhbncfcaa

abbrev X2 := Int × Int
def mergeX : List X2 → List X2 → List (X2 × Bool)
  | [], m => m.map fun x => (x, true)
  | a :: l, [] => (a :: l).map fun x => (x, false)
  | a :: l, b :: m => if cmpX a b < 0 then (a, false) :: mergeX l (b :: m) else if a = b then (b, true) :: mergeX l m else (b, true) :: mergeX (a :: l) m
termination_by l m => l.length + m.length
theorem merge_nil_l (m : List X2) : mergeX [] m = m.map fun x => (x, true) := by rw [mergeX]
theorem merge_nil_r : ∀ l : List X2, mergeX l [] = l.map fun x => (x, false)
  | [] => by rw [mergeX]; rfl
  | a :: l => by rw [mergeX]
theorem merge_cons (a b : X2) (l m : List X2) : mergeX (a :: l) (b :: m) = if cmpX a b < 0 then (a, false) :: mergeX l (b :: m) else if a = b then (b, true) :: mergeX l m else (b, true) :: mergeX (a :: l) m := by rw [mergeX]
theorem merge_step {l m : List X2} {d : X2} (h : firstOf l m = some d) : mergeX l m = (d, decide (m.head? = some d)) :: mergeX (if l.head? = some d then l.tail else l) (if m.head? = some d then m.tail else m) := by
  cases l with
  | nil =>
    cases m with
    | nil => cases h
    | cons b m =>
      obtain rfl : b = d := Option.some.inj h
      simp [merge_nil_l]
  | cons a l =>
    cases m with
    | nil =>
      obtain rfl : a = d := Option.some.inj h
      simp [merge_nil_r]
    | cons b m =>
      rw [merge_cons]
      replace h : (if cmpX a b < 0 then some a else some b) = some d := h
      by_cases hc : cmpX a b < 0
      · rw [if_pos hc] at h ⊢
        obtain rfl : a = d := Option.some.inj h
        have hne : ¬ b = a := fun e => by subst e; rw [totD.same] at hc; omega
        simp [hne]
      · rw [if_neg hc] at h ⊢
        obtain rfl : b = d := Option.some.inj h
        by_cases he : a = b
        · subst he; simp
        · simp [he]
theorem merge_end {l m : List X2} (h : firstOf l m = none) : l = [] ∧ m = [] := by
  cases l with
  | nil =>
    cases m with
    | nil => exact ⟨rfl, rfl⟩
    | cons b m => cases h
  | cons a l =>
    cases m with
    | nil => cases h
    | cons b m =>
      replace h : (if cmpX a b < 0 then some a else some b) = none := h
      by_cases hc : cmpX a b < 0
      · rw [if_pos hc] at h; cases h
      · rw [if_neg hc] at h; cases h
theorem first_some {l m : List X2} (h : 0 < l.length ∨ 0 < m.length) : ∃ d, firstOf l m = some d := by
  cases hf : firstOf l m with
  | some d => exact ⟨d, rfl⟩
  | none =>
    obtain ⟨rfl, rfl⟩ := merge_end hf
    simp at h
theorem rises_cons {a : X2} {l : List X2} : Rises cmpX (a :: l) ↔ (∀ y ∈ l, cmpX a y < 0) ∧ Rises cmpX l := List.pairwise_cons
theorem merge_spec : ∀ (n : Nat) (l m : List X2), l.length + m.length ≤ n → Rises cmpX l → Rises cmpX m →
    Rises cmpX ((mergeX l m).map (·.1)) ∧ (∀ x, x ∈ (mergeX l m).map (·.1) ↔ x ∈ l ∨ x ∈ m) ∧ ∀ p ∈ mergeX l m, p.2 = decide (p.1 ∈ m)
  | n, [], m, _, _, hm => by
    rw [merge_nil_l]
    refine ⟨by simpa [Function.comp_def] using hm, fun x => by simp [Function.comp_def], fun p hp => ?_⟩
    obtain ⟨x, hx, rfl⟩ := List.mem_map.1 hp
    simp [hx]
  | n, a :: l, [], _, hl, _ => by
    rw [merge_nil_r]
    refine ⟨by simpa [Function.comp_def] using hl, fun x => by simp [Function.comp_def], fun p hp => ?_⟩
    obtain ⟨x, hx, rfl⟩ := List.mem_map.1 hp
    simp
  | 0, a :: l, b :: m, hn, _, _ => by simp at hn
  | n + 1, a :: l, b :: m, hn, hl, hm => by
    obtain ⟨ha, hl'⟩ := rises_cons.1 hl
    obtain ⟨hb, hm'⟩ := rises_cons.1 hm
    simp only [List.length_cons] at hn
    rw [merge_cons]
    by_cases hc : cmpX a b < 0
    · rw [if_pos hc]
      obtain ⟨h1, h2, h3⟩ := merge_spec n l (b :: m) (by simp; omega) hl' hm
      have hab : ∀ y ∈ b :: m, cmpX a y < 0 := fun y hy => by
        rcases List.mem_cons.1 hy with rfl | hy
        · exact hc
        · exact totD.trans a b y hc (hb y hy)
      refine ⟨?_, fun x => ?_, fun p hp => ?_⟩
      · rw [List.map_cons, rises_cons]
        refine ⟨fun y hy => ?_, h1⟩
        rcases (h2 y).1 hy with hy | hy
        · exact ha y hy
        · exact hab y hy
      · rw [List.map_cons, List.mem_cons, h2 x, List.mem_cons (a := x) (b := a), or_assoc]
      · rcases List.mem_cons.1 hp with rfl | hp
        · refine (decide_eq_false fun hy => ?_).symm
          have := hab a hy
          rw [totD.same] at this
          omega
        · exact h3 p hp
    · rw [if_neg hc]
      by_cases he : a = b
      · subst he
        rw [if_pos rfl]
        obtain ⟨h1, h2, h3⟩ := merge_spec n l m (by omega) hl' hm'
        refine ⟨?_, fun x => ?_, fun p hp => ?_⟩
        · rw [List.map_cons, rises_cons]
          refine ⟨fun y hy => ?_, h1⟩
          rcases (h2 y).1 hy with hy | hy
          · exact ha y hy
          · exact hb y hy
        · rw [List.map_cons, List.mem_cons, h2 x, List.mem_cons, List.mem_cons]
          constructor
          · rintro (h | h | h)
            · exact .inl (.inl h)
            · exact .inl (.inr h)
            · exact .inr (.inr h)
          · rintro ((h | h) | (h | h))
            · exact .inl h
            · exact .inr (.inl h)
            · exact .inl h
            · exact .inr (.inr h)
        · rcases List.mem_cons.1 hp with rfl | hp
          · simp
          · rw [h3 p hp]
            have hp1 : p.1 ∈ (mergeX l m).map (·.1) := List.mem_map.2 ⟨p, hp, rfl⟩
            have hne : p.1 ≠ a := fun e => by
              have hlt : cmpX a p.1 < 0 := by
                rcases (h2 _).1 hp1 with h | h
                · exact ha _ h
                · exact hb _ h
              rw [e, totD.same] at hlt
              omega
            simp [hne]
      · rw [if_neg he]
        have hba : cmpX b a < 0 := by
          have h1 := totD.neg a b
          have h2 : cmpX a b ≠ 0 := fun h => he (totD.zero a b h)
          omega
        obtain ⟨h1, h2, h3⟩ := merge_spec n (a :: l) m (by simp; omega) hl hm'
        have hbl : ∀ y ∈ a :: l, cmpX b y < 0 := fun y hy => by
          rcases List.mem_cons.1 hy with rfl | hy
          · exact hba
          · exact totD.trans b a y hba (ha y hy)
        refine ⟨?_, fun x => ?_, fun p hp => ?_⟩
        · rw [List.map_cons, rises_cons]
          refine ⟨fun y hy => ?_, h1⟩
          rcases (h2 y).1 hy with hy | hy
          · exact hbl y hy
          · exact hb y hy
        · rw [List.map_cons, List.mem_cons, h2 x, List.mem_cons (a := x) (b := b)]
          constructor
          · rintro (h | h | h)
            · exact .inr (.inl h)
            · exact .inl h
            · exact .inr (.inr h)
          · rintro (h | h | h)
            · exact .inr (.inl h)
            · exact .inl h
            · exact .inr (.inr h)
        · rcases List.mem_cons.1 hp with rfl | hp
          · simp
          · rw [h3 p hp]
            have hp1 : p.1 ∈ (mergeX (a :: l) m).map (·.1) := List.mem_map.2 ⟨p, hp, rfl⟩
            have hne : p.1 ≠ b := fun e => by
              have hlt : cmpX b p.1 < 0 := by
                rcases (h2 _).1 hp1 with h | h
                · exact hbl _ h
                · exact hb _ h
              rw [e, totD.same] at hlt
              omega
            simp [hne]
/-- Both together, and one without the other. -/
def unionX (l m : List X2) : List X2 := (mergeX l m).map (·.1)
def lessX (l m : List X2) : List X2 := ((mergeX l m).filter (fun p => !p.2)).map (·.1)
theorem union_spec {l m : List X2} (hl : Rises cmpX l) (hm : Rises cmpX m) : Rises cmpX (unionX l m) ∧ ∀ x, x ∈ unionX l m ↔ x ∈ l ∨ x ∈ m := by
  obtain ⟨h1, h2, _⟩ := merge_spec _ l m (Nat.le_refl _) hl hm
  exact ⟨h1, h2⟩
theorem less_spec {l m : List X2} (hl : Rises cmpX l) (hm : Rises cmpX m) : Rises cmpX (lessX l m) ∧ ∀ x, x ∈ lessX l m ↔ x ∈ l ∧ ¬ x ∈ m := by
  obtain ⟨h1, h2, h3⟩ := merge_spec _ l m (Nat.le_refl _) hl hm
  refine ⟨List.Pairwise.sublist (List.Sublist.map _ List.filter_sublist) h1, fun x => ?_⟩
  unfold lessX
  simp only [List.mem_map, List.mem_filter]
  constructor
  · rintro ⟨p, ⟨hp, hq⟩, rfl⟩
    have := h3 p hp
    rw [this] at hq
    have hnm : ¬ p.1 ∈ m := by simpa using hq
    rcases (h2 p.1).1 (List.mem_map.2 ⟨p, hp, rfl⟩) with h | h
    · exact ⟨h, hnm⟩
    · exact absurd h hnm
  · rintro ⟨hx, hn⟩
    obtain ⟨p, hp, rfl⟩ := List.mem_map.1 ((h2 x).2 (.inl hx))
    exact ⟨p, ⟨hp, by rw [h3 p hp]; simpa using hn⟩, rfl⟩
theorem merge_len : ∀ (n : Nat) (l m : List X2), l.length + m.length ≤ n → (mergeX l m).length ≤ l.length + m.length
  | n, [], m, _ => by rw [merge_nil_l]; simp
  | n, a :: l, [], _ => by rw [merge_nil_r]; simp
  | 0, a :: l, b :: m, hn => by simp at hn
  | n + 1, a :: l, b :: m, hn => by
    rw [merge_cons]
    simp only [List.length_cons] at hn
    split
    · have := merge_len n l (b :: m) (by simp; omega)
      simp at this ⊢
      omega
    · split
      · have := merge_len n l m (by omega)
        simp
        omega
      · have := merge_len n (a :: l) m (by simp; omega)
        simp at this ⊢
        omega
theorem all_mem {l : List X2} (h : l.all okX = true) {m : List X2} (hm : ∀ x ∈ m, x ∈ l) : m.all okX = true := List.all_eq_true.2 fun x hx => List.all_eq_true.1 h x (hm x hx)
theorem is_union {l m : List X2} (hl : isB l = true) (hm : isB m = true) : isB (unionX l m) = true := by
  obtain ⟨a1, r1⟩ := (isB_iff l).1 hl
  obtain ⟨a2, r2⟩ := (isB_iff m).1 hm
  obtain ⟨h1, h2⟩ := union_spec r1 r2
  refine (isB_iff _).2 ⟨List.all_eq_true.2 fun x hx => ?_, h1⟩
  rcases (h2 x).1 hx with h | h
  · exact List.all_eq_true.1 a1 x h
  · exact List.all_eq_true.1 a2 x h
theorem is_less {l m : List X2} (hl : isB l = true) (hm : isB m = true) : isB (lessX l m) = true := by
  obtain ⟨a1, r1⟩ := (isB_iff l).1 hl
  obtain ⟨_, r2⟩ := (isB_iff m).1 hm
  obtain ⟨h1, h2⟩ := less_spec r1 r2
  exact (isB_iff _).2 ⟨all_mem a1 fun x hx => ((h2 x).1 hx).1, h1⟩
theorem is_set {l : List X2} (h : l.all okX = true) : isB (setE cmpX l) = true := by
  obtain ⟨h1, h2⟩ := setE_spec totD l
  exact (isB_iff _).2 ⟨all_mem h fun x hx => (h2 x).1 hx, h1⟩
/-- What DotParts says of two sets. -/
theorem parts_laws {a b : List X2} (ha : isB a = true) (hb : isB b = true) :
    unionX (lessX a b) (lessX a (lessX a b)) = a ∧ unionX a b = unionX a (lessX b a) ∧ (unionX a b).length = a.length + (lessX b a).length ∧ (lessX a b).length + (lessX a (lessX a b)).length = a.length ∧ ∀ x ∈ lessX a (lessX a b), x ∈ a ∧ x ∈ b := by
  obtain ⟨_, ra⟩ := (isB_iff a).1 ha
  obtain ⟨_, rb⟩ := (isB_iff b).1 hb
  obtain ⟨r1, m1⟩ := less_spec ra rb
  obtain ⟨r2, m2⟩ := less_spec ra r1
  obtain ⟨r3, m3⟩ := less_spec rb ra
  obtain ⟨r4, m4⟩ := union_spec r1 r2
  obtain ⟨r5, m5⟩ := union_spec ra rb
  obtain ⟨r6, m6⟩ := union_spec ra r3
  have e1 : unionX (lessX a b) (lessX a (lessX a b)) = a := rises_ext totD _ _ r4 ra fun x => by
    rw [m4, m2, m1]
    by_cases h1 : x ∈ a <;> by_cases h2 : x ∈ b <;> simp [h1, h2]
  have e2 : unionX a b = unionX a (lessX b a) := rises_ext totD _ _ r5 r6 fun x => by
    rw [m5, m6, m3]
    by_cases h1 : x ∈ a <;> by_cases h2 : x ∈ b <;> simp [h1, h2]
  have dis : ∀ {p q : List X2}, Rises cmpX p → Rises cmpX q → (∀ x ∈ p, ¬ x ∈ q) → (p ++ q).Nodup := fun hp hq hd =>
    List.nodup_append.2 ⟨rises_nodup totD hp, rises_nodup totD hq, fun x hx y hy e => hd x hx (e ▸ hy)⟩
  refine ⟨e1, e2, ?_, ?_, fun x hx => ?_⟩
  · have hp : (unionX a b).Perm (a ++ lessX b a) := (List.perm_ext_iff_of_nodup (rises_nodup totD r5) (dis ra r3 fun x hx h => ((m3 x).1 h).2 hx)).2 fun x => by
      rw [e2, m6, List.mem_append]
    rw [hp.length_eq, List.length_append]
  · have hp : a.Perm (lessX a b ++ lessX a (lessX a b)) := (List.perm_ext_iff_of_nodup (rises_nodup totD ra) (dis r1 r2 fun x hx h => ((m2 x).1 h).2 hx)).2 fun x => by
      rw [List.mem_append, ← m4, e1]
    have h := hp.length_eq
    rw [List.length_append] at h
    exact h.symm
  · obtain ⟨h1, h2⟩ := (m2 x).1 hx
    refine ⟨h1, Classical.byContradiction fun h => h2 ((m1 x).2 ⟨h1, h⟩)⟩
theorem set_reverse (l : List X2) : setE cmpX l.reverse = setE cmpX l := by
  obtain ⟨h1, h2⟩ := setE_spec totD l
  exact setE_of totD h1 fun x => by rw [h2]; simp
end Go.Proofs.Ytcclifnhbncfcaa
