/- Ids in order, as plain lists: sorted lists, sets, what Compact leaves. -/
import Derived.Test.YtljihmbmjpcfaaaGreatHashRefSet
namespace Go.Proofs.YtljihmbmjpcfaaaGreat
set_option maxRecDepth 100000

theorem cmpB_cons_lt {x y : UInt8} {xs ys : List UInt8} : cmpB (x :: xs) (y :: ys) < 0 ↔ x < y ∨ (x = y ∧ cmpB xs ys < 0) := by
  rw [cmpB]
  by_cases h1 : x < y
  · simp [h1]
  · by_cases h2 : y < x
    · have h3 : x ≠ y := fun e => by subst e; exact UInt8.lt_irrefl _ h2
      simp [h1, h2, h3]
    · have h3 : x = y := UInt8.le_antisymm (UInt8.not_lt.1 h2) (UInt8.not_lt.1 h1)
      subst h3
      simp [UInt8.lt_irrefl]
theorem cmpB_neg : ∀ (xs ys : List UInt8), cmpB ys xs = -cmpB xs ys
  | [], [] => rfl
  | [], _ :: _ => rfl
  | _ :: _, [] => rfl
  | x :: xs, y :: ys => by
    rw [cmpB, cmpB, cmpB_neg xs ys]
    by_cases h1 : x < y
    · have h2 : ¬ y < x := fun h => UInt8.lt_irrefl _ (UInt8.lt_trans h1 h)
      simp [h1, h2]
    · by_cases h2 : y < x <;> simp [h1, h2]
theorem cmpB_zero : ∀ (xs ys : List UInt8), xs.length = ys.length → cmpB xs ys = 0 → xs = ys
  | [], [], _, _ => rfl
  | [], _ :: _, h, _ => by simp at h
  | _ :: _, [], h, _ => by simp at h
  | x :: xs, y :: ys, h, h0 => by
    rw [cmpB] at h0
    by_cases h1 : x < y
    · simp [h1] at h0
    · by_cases h2 : y < x
      · simp [h1, h2] at h0
      · have h3 : x = y := UInt8.le_antisymm (UInt8.not_lt.1 h2) (UInt8.not_lt.1 h1)
        simp only [h1, h2, if_false] at h0
        rw [h3, cmpB_zero xs ys (by simpa using h) h0]
theorem cmpB_same (xs : List UInt8) : cmpB xs xs = 0 := by
  have := cmpB_neg xs xs
  omega
theorem cmpB_trans : ∀ (a b c : List UInt8), a.length = b.length → b.length = c.length → cmpB a b < 0 → cmpB b c < 0 → cmpB a c < 0
  | [], b, c, _, _, h, _ => by cases b <;> simp [cmpB] at h
  | _ :: _, [], _, h, _, _, _ => by simp at h
  | _ :: _, _ :: _, [], _, h, _, _ => by simp at h
  | x :: a, y :: b, z :: c, h1, h2, h3, h4 => by
    rw [cmpB_cons_lt] at h3 h4 ⊢
    rcases h3 with h3 | ⟨rfl, h3⟩
    · rcases h4 with h4 | ⟨rfl, _⟩
      · exact .inl (UInt8.lt_trans h3 h4)
      · exact .inl h3
    · rcases h4 with h4 | ⟨rfl, h4⟩
      · exact .inl h4
      · exact .inr ⟨rfl, cmpB_trans a b c (by simpa using h1) (by simpa using h2) h3 h4⟩
/-- Not behind, then ahead: ahead. -/
theorem cmpB_le_lt {a b c : List UInt8} (ha : a.length = 32) (hb : b.length = 32) (hc : c.length = 32) (h1 : cmpB a b ≤ 0) (h2 : cmpB b c < 0) : cmpB a c < 0 := by
  by_cases h0 : cmpB a b = 0
  · rw [cmpB_zero a b (by omega) h0]; exact h2
  · exact cmpB_trans a b c (by omega) (by omega) (by omega) h2
theorem cmpB_lt_le {a b c : List UInt8} (ha : a.length = 32) (hb : b.length = 32) (hc : c.length = 32) (h1 : cmpB a b < 0) (h2 : cmpB b c ≤ 0) : cmpB a c < 0 := by
  by_cases h0 : cmpB b c = 0
  · rw [← cmpB_zero b c (by omega) h0]; exact h1
  · exact cmpB_trans a b c (by omega) (by omega) h1 (by omega)
theorem cmpB_le_trans {a b c : List UInt8} (ha : a.length = 32) (hb : b.length = 32) (hc : c.length = 32) (h1 : cmpB a b ≤ 0) (h2 : cmpB b c ≤ 0) : cmpB a c ≤ 0 := by
  by_cases h0 : cmpB b c = 0
  · rw [← cmpB_zero b c (by omega) h0]; exact h1
  · have := cmpB_le_lt ha hb hc h1 (by omega)
    omega

/-- A list that rises. -/
def SS (l : List (List UInt8)) : Prop := l.Pairwise fun a b => cmpB a b < 0
def A32 (l : List (List UInt8)) : Prop := ∀ x ∈ l, x.length = 32
/-- Two lists that rise and have the same are the same. -/
theorem ss_ext : ∀ (l m : List (List UInt8)), A32 l → A32 m → SS l → SS m → (∀ x, x ∈ l ↔ x ∈ m) → l = m
  | [], m, _, _, _, _, h => by
    cases m with
    | nil => rfl
    | cons b m => exact absurd ((h b).2 List.mem_cons_self) (by simp)
  | a :: l, [], _, _, _, _, h => absurd ((h a).1 List.mem_cons_self) (by simp)
  | a :: l, b :: m, hl, hm, sl, sm, h => by
    obtain ⟨sa, sl'⟩ := List.pairwise_cons.1 sl
    obtain ⟨sb, sm'⟩ := List.pairwise_cons.1 sm
    have la := hl a List.mem_cons_self
    have lb := hm b List.mem_cons_self
    have hab : a = b := by
      rcases List.mem_cons.1 ((h a).1 List.mem_cons_self) with e | h1
      · exact e
      · rcases List.mem_cons.1 ((h b).2 List.mem_cons_self) with e | h2
        · exact e.symm
        · have := cmpB_trans a b a (by omega) (by omega) (sa b h2) (sb a h1)
          rw [cmpB_same] at this
          omega
    subst hab
    congr 1
    refine ss_ext l m (fun x hx => hl x (List.mem_cons_of_mem _ hx)) (fun x hx => hm x (List.mem_cons_of_mem _ hx)) sl' sm' fun x => ?_
    constructor
    · intro hx
      rcases List.mem_cons.1 ((h x).1 (List.mem_cons_of_mem _ hx)) with rfl | h1
      · have := sa x hx; rw [cmpB_same] at this; omega
      · exact h1
    · intro hx
      rcases List.mem_cons.1 ((h x).2 (List.mem_cons_of_mem _ hx)) with rfl | h1
      · have := sb x hx; rw [cmpB_same] at this; omega
      · exact h1

theorem insI_mem (x : List UInt8) (out : List (List UInt8)) (y : List UInt8) : y ∈ insI x out ↔ y = x ∨ y ∈ out := by
  unfold insI
  conv => rhs; rw [← List.takeWhile_append_dropWhile (p := fun y => decide (cmpB y x < 0)) (l := out)]
  simp only [List.mem_append, List.mem_singleton]
  constructor
  · rintro ((h | h) | h)
    · exact .inr (.inl h)
    · exact .inl h
    · exact .inr (.inr h)
  · rintro (h | h | h)
    · exact .inl (.inr h)
    · exact .inl (.inl h)
    · exact .inr h
theorem takeW_lt (x : List UInt8) : ∀ (out : List (List UInt8)), ∀ y ∈ out.takeWhile (fun y => decide (cmpB y x < 0)), cmpB y x < 0
  | [], y, hy => by simp at hy
  | z :: out, y, hy => by
    rw [List.takeWhile_cons] at hy
    split at hy
    · next h =>
      rcases List.mem_cons.1 hy with rfl | hy
      · simpa using h
      · exact takeW_lt x out y hy
    · simp at hy
theorem dropW_ge (x : List UInt8) (hx : x.length = 32) : ∀ (out : List (List UInt8)), A32 out → SS out → ∀ y ∈ out.dropWhile (fun y => decide (cmpB y x < 0)), ¬ cmpB y x < 0
  | [], _, _, y, hy => by simp at hy
  | z :: out, h32, hs, y, hy => by
    obtain ⟨sz, hs'⟩ := List.pairwise_cons.1 hs
    rw [List.dropWhile_cons] at hy
    split at hy
    · exact dropW_ge x hx out (fun u hu => h32 u (List.mem_cons_of_mem _ hu)) hs' y hy
    · next h =>
      have hz : ¬ cmpB z x < 0 := by simpa using h
      rcases List.mem_cons.1 hy with rfl | hy
      · exact hz
      · intro hyx
        exact hz (cmpB_trans z y x (by rw [h32 z List.mem_cons_self, h32 y (List.mem_cons_of_mem _ hy)]) (by rw [h32 y (List.mem_cons_of_mem _ hy), hx]) (sz y hy) hyx)
theorem insI_ss {x : List UInt8} (hx : x.length = 32) {out : List (List UInt8)} (h32 : A32 out) (hs : SS out) (hn : ¬ x ∈ out) : SS (insI x out) := by
  have h1 := takeW_lt x out
  have h2 := dropW_ge x hx out h32 hs
  have hd : ∀ y ∈ out.dropWhile (fun y => decide (cmpB y x < 0)), cmpB x y < 0 := fun y hy => by
    have hm : y ∈ out := (List.dropWhile_sublist _).mem hy
    have h3 := h2 y hy
    have h4 : cmpB y x ≠ 0 := fun h => hn (cmpB_zero y x (by rw [h32 y hm, hx]) h ▸ hm)
    have := cmpB_neg y x
    omega
  unfold SS insI
  rw [List.append_assoc, List.singleton_append]
  refine List.pairwise_append.2 ⟨hs.sublist (List.takeWhile_sublist _), List.pairwise_cons.2 ⟨hd, hs.sublist (List.dropWhile_sublist _)⟩, fun a ha b hb => ?_⟩
  rcases List.mem_cons.1 hb with rfl | hb
  · exact h1 a ha
  · have hma : a ∈ out := (List.takeWhile_sublist _).mem ha
    have hmb : b ∈ out := (List.dropWhile_sublist _).mem hb
    exact cmpB_trans a x b (by rw [h32 a hma, hx]) (by rw [h32 b hmb, hx]) (h1 a ha) (hd b hb)
theorem fold_set_spec : ∀ (l out : List (List UInt8)), A32 l → A32 out → SS out →
    SS (l.foldl (fun out x => if x ∈ out then out else insI x out) out) ∧ A32 (l.foldl (fun out x => if x ∈ out then out else insI x out) out) ∧ ∀ x, x ∈ l.foldl (fun out x => if x ∈ out then out else insI x out) out ↔ x ∈ l ∨ x ∈ out
  | [], out, _, ho, hs => ⟨hs, ho, fun x => by simp⟩
  | a :: l, out, hl, ho, hs => by
    rw [List.foldl_cons]
    have ha := hl a List.mem_cons_self
    by_cases h : a ∈ out
    · rw [if_pos h]
      obtain ⟨h1, h2, h3⟩ := fold_set_spec l out (fun x hx => hl x (List.mem_cons_of_mem _ hx)) ho hs
      refine ⟨h1, h2, fun x => ?_⟩
      rw [h3 x, List.mem_cons]
      constructor
      · rintro (h4 | h4)
        · exact .inl (.inr h4)
        · exact .inr h4
      · rintro ((rfl | h4) | h4)
        · exact .inr h
        · exact .inl h4
        · exact .inr h4
    · rw [if_neg h]
      have ho' : A32 (insI a out) := fun x hx => by
        rcases (insI_mem a out x).1 hx with rfl | hx
        · exact ha
        · exact ho x hx
      obtain ⟨h1, h2, h3⟩ := fold_set_spec l (insI a out) (fun x hx => hl x (List.mem_cons_of_mem _ hx)) ho' (insI_ss ha ho hs h)
      refine ⟨h1, h2, fun x => ?_⟩
      rw [h3 x, insI_mem, List.mem_cons]
      constructor
      · rintro (h4 | h4 | h4)
        · exact .inl (.inr h4)
        · exact .inl (.inl h4)
        · exact .inr h4
      · rintro ((h4 | h4) | h4)
        · exact .inr (.inl h4)
        · exact .inl h4
        · exact .inr (.inr h4)
theorem setI_spec (l : List (List UInt8)) (hl : A32 l) : SS (setI l) ∧ A32 (setI l) ∧ ∀ x, x ∈ setI l ↔ x ∈ l := by
  obtain ⟨h1, h2, h3⟩ := fold_set_spec l [] hl (fun x hx => by simp at hx) List.Pairwise.nil
  exact ⟨h1, h2, fun x => by rw [setI, h3 x]; simp⟩

/-- What Compact keeps of the first j. -/
def compUp (l : List (List UInt8)) : Nat → List (List UInt8)
  | 0 => []
  | j + 1 => if 0 < j ∧ l[j]? = l[j - 1]? then compUp l j else compUp l j ++ l[j]?.toList
theorem compUp_len (l : List (List UInt8)) : ∀ j, (compUp l j).length ≤ j
  | 0 => by simp [compUp]
  | j + 1 => by
    have := compUp_len l j
    rw [compUp]
    split
    · omega
    · rw [List.length_append]
      have : l[j]?.toList.length ≤ 1 := by cases l[j]? <;> simp
      omega
theorem compUp_mem (l : List (List UInt8)) : ∀ j, j ≤ l.length → ∀ x, x ∈ compUp l j ↔ x ∈ l.take j
  | 0, _, x => by simp [compUp]
  | j + 1, h, x => by
    have ih := compUp_mem l j (by omega) x
    have hj : j < l.length := by omega
    rw [compUp, List.take_add_one, List.mem_append]
    split
    · next h0 =>
      rw [ih]
      constructor
      · exact .inl
      · rintro (h1 | h1)
        · exact h1
        · rw [h0.2] at h1
          have h2 : j - 1 < l.length := by omega
          rw [List.getElem?_eq_getElem h2] at h1
          simp at h1
          subst h1
          exact List.mem_take_iff_getElem.2 ⟨j - 1, by omega, rfl⟩
    · rw [List.mem_append, ih]
/-- Of a list that never falls: what is kept rises. -/
theorem compUp_ss (l : List (List UInt8)) (h32 : A32 l) (hs : l.Pairwise fun a b => cmpB a b ≤ 0) : ∀ j, j ≤ l.length → SS (compUp l j)
  | 0, _ => List.Pairwise.nil
  | j + 1, h => by
    have ih := compUp_ss l h32 hs j (by omega)
    have hj : j < l.length := by omega
    rw [compUp]
    split
    · exact ih
    · next h0 =>
      rw [List.getElem?_eq_getElem hj]
      refine List.pairwise_append.2 ⟨ih, by simp, fun a ha b hb => ?_⟩
      simp at hb
      subst hb
      rw [compUp_mem l j (by omega)] at ha
      obtain ⟨i, hi, rfl⟩ := List.mem_take_iff_getElem.1 ha
      have hj1 : j - 1 < l.length := by omega
      have hle : cmpB l[i] l[j - 1] ≤ 0 := by
        by_cases hij : i = j - 1
        · subst hij; rw [cmpB_same]; omega
        · exact List.pairwise_iff_getElem.1 hs i (j - 1) (by omega) hj1 (by omega)
      have hle2 : cmpB l[j - 1] l[j] ≤ 0 := List.pairwise_iff_getElem.1 hs (j - 1) j hj1 hj (by omega)
      have hne : cmpB l[j - 1] l[j] ≠ 0 := fun e => h0 ⟨by omega, by
        rw [List.getElem?_eq_getElem hj, List.getElem?_eq_getElem hj1, cmpB_zero _ _ (by rw [h32 _ (List.getElem_mem hj1), h32 _ (List.getElem_mem hj)]) e]⟩
      exact cmpB_le_lt (h32 _ (List.getElem_mem _)) (h32 _ (List.getElem_mem _)) (h32 _ (List.getElem_mem _)) hle (by omega)
/-- Sorted and compacted: the set. -/
theorem compact_set (l l' : List (List UInt8)) (h32 : A32 l) (hp : l'.Perm l) (hs : l'.Pairwise fun a b => cmpB a b ≤ 0) : compUp l' l'.length = setI l := by
  have h32' : A32 l' := fun x hx => h32 x (hp.mem_iff.1 hx)
  obtain ⟨h1, h2, h3⟩ := setI_spec l h32
  have hm : ∀ x, x ∈ compUp l' l'.length ↔ x ∈ l' := fun x => by rw [compUp_mem l' _ (Nat.le_refl _), List.take_length]
  refine ss_ext _ _ (fun x hx => h32' x ((hm x).1 hx)) h2 (compUp_ss l' h32' hs _ (Nat.le_refl _)) h1 fun x => ?_
  rw [hm, h3, hp.mem_iff]
end Go.Proofs.YtljihmbmjpcfaaaGreat
