/- One order of elements, in plain lists: what rises, sets, what Compact keeps. -/
import Derived.Test.YtcclifnhbncfcaaFrame
namespace Go.Proofs.Ytcclifnhbncfcaa

/-- A comparison that is one order. -/
structure TotC {α : Type} (cf : α → α → Int) : Prop where
  neg : ∀ x y, cf y x = -cf x y
  zero : ∀ x y, cf x y = 0 → x = y
  trans : ∀ x y z, cf x y < 0 → cf y z < 0 → cf x z < 0
section
variable {α : Type} {cf : α → α → Int}
theorem TotC.same (h : TotC cf) (x : α) : cf x x = 0 := by have := h.neg x x; omega
theorem TotC.le_lt (h : TotC cf) {a b c : α} (h1 : cf a b ≤ 0) (h2 : cf b c < 0) : cf a c < 0 := by
  by_cases h0 : cf a b = 0
  · rw [h.zero a b h0]; exact h2
  · exact h.trans a b c (by omega) h2
theorem TotC.le_trans (h : TotC cf) {a b c : α} (h1 : cf a b ≤ 0) (h2 : cf b c ≤ 0) : cf a c ≤ 0 := by
  by_cases h0 : cf b c = 0
  · rw [← h.zero b c h0]; exact h1
  · have := h.le_lt h1 (show cf b c < 0 by omega)
    omega
theorem TotC.zero_iff (h : TotC cf) (x y : α) : cf x y = 0 ↔ x = y := ⟨h.zero x y, fun e => e ▸ h.same x⟩

/-- A list that rises. -/
def Rises (cf : α → α → Int) (l : List α) : Prop := l.Pairwise fun a b => cf a b < 0
/-- Two lists that rise and have the same are the same. -/
theorem rises_ext (T : TotC cf) : ∀ (l m : List α), Rises cf l → Rises cf m → (∀ x, x ∈ l ↔ x ∈ m) → l = m
  | [], m, _, _, h => by
    cases m with
    | nil => rfl
    | cons b m => exact absurd ((h b).2 List.mem_cons_self) (by simp)
  | a :: l, [], _, _, h => absurd ((h a).1 List.mem_cons_self) (by simp)
  | a :: l, b :: m, sl, sm, h => by
    obtain ⟨sa, sl'⟩ := List.pairwise_cons.1 sl
    obtain ⟨sb, sm'⟩ := List.pairwise_cons.1 sm
    have hab : a = b := by
      rcases List.mem_cons.1 ((h a).1 List.mem_cons_self) with e | h1
      · exact e
      · rcases List.mem_cons.1 ((h b).2 List.mem_cons_self) with e | h2
        · exact e.symm
        · have := T.trans a b a (sa b h2) (sb a h1)
          rw [T.same] at this
          omega
    subst hab
    congr 1
    refine rises_ext T l m sl' sm' fun x => ?_
    constructor
    · intro hx
      rcases List.mem_cons.1 ((h x).1 (List.mem_cons_of_mem _ hx)) with rfl | h1
      · have := sa x hx; rw [T.same] at this; omega
      · exact h1
    · intro hx
      rcases List.mem_cons.1 ((h x).2 (List.mem_cons_of_mem _ hx)) with rfl | h1
      · have := sb x hx; rw [T.same] at this; omega
      · exact h1
theorem rises_nodup (T : TotC cf) {l : List α} (h : Rises cf l) : l.Nodup :=
  h.imp fun {a b} hab e => by subst e; rw [T.same] at hab; omega

/-- A list that rises has one more put in. -/
def insE (cf : α → α → Int) (x : α) (out : List α) : List α := out.takeWhile (fun y => decide (cf y x < 0)) ++ [x] ++ out.dropWhile (fun y => decide (cf y x < 0))
theorem insE_mem (x : α) (out : List α) (y : α) : y ∈ insE cf x out ↔ y = x ∨ y ∈ out := by
  unfold insE
  conv => rhs; rw [← List.takeWhile_append_dropWhile (p := fun y => decide (cf y x < 0)) (l := out)]
  simp only [List.mem_append, List.mem_singleton]
  constructor
  · rintro ((h | h) | h)
    · exact .inr (.inl h)
    · exact .inl h
    · exact .inr (.inr h)
  · rintro (h | h | h)
    · exact .inl (.inr h)
    · exact .inl (.inl h)
    · exact .inr h
theorem takeE_lt (x : α) : ∀ (out : List α), ∀ y ∈ out.takeWhile (fun y => decide (cf y x < 0)), cf y x < 0
  | [], y, hy => by simp at hy
  | z :: out, y, hy => by
    rw [List.takeWhile_cons] at hy
    split at hy
    · next h =>
      rcases List.mem_cons.1 hy with rfl | hy
      · simpa using h
      · exact takeE_lt x out y hy
    · simp at hy
theorem dropE_ge (T : TotC cf) (x : α) : ∀ (out : List α), Rises cf out → ∀ y ∈ out.dropWhile (fun y => decide (cf y x < 0)), ¬ cf y x < 0
  | [], _, y, hy => by simp at hy
  | z :: out, hs, y, hy => by
    obtain ⟨sz, hs'⟩ := List.pairwise_cons.1 hs
    rw [List.dropWhile_cons] at hy
    split at hy
    · exact dropE_ge T x out hs' y hy
    · next h =>
      have hz : ¬ cf z x < 0 := by simpa using h
      rcases List.mem_cons.1 hy with rfl | hy
      · exact hz
      · intro hyx
        exact hz (T.trans z y x (sz y hy) hyx)
theorem insE_rises (T : TotC cf) {x : α} {out : List α} (hs : Rises cf out) (hn : ¬ x ∈ out) : Rises cf (insE cf x out) := by
  have h1 := takeE_lt (cf := cf) x out
  have h2 := dropE_ge T x out hs
  have hd : ∀ y ∈ out.dropWhile (fun y => decide (cf y x < 0)), cf x y < 0 := fun y hy => by
    have hm : y ∈ out := (List.dropWhile_sublist _).mem hy
    have h3 := h2 y hy
    have h4 : cf y x ≠ 0 := fun h => hn (T.zero y x h ▸ hm)
    have := T.neg y x
    omega
  unfold Rises insE
  rw [List.append_assoc, List.singleton_append]
  refine List.pairwise_append.2 ⟨hs.sublist (List.takeWhile_sublist _), List.pairwise_cons.2 ⟨hd, hs.sublist (List.dropWhile_sublist _)⟩, fun a ha b hb => ?_⟩
  rcases List.mem_cons.1 hb with rfl | hb
  · exact h1 a ha
  · exact T.trans a x b (h1 a ha) (hd b hb)
/-- A list's set: put in one by one. -/
def putE [DecidableEq α] (cf : α → α → Int) (out : List α) (x : α) : List α := if x ∈ out then out else insE cf x out
def setE [DecidableEq α] (cf : α → α → Int) (l : List α) : List α := l.foldl (putE cf) []
theorem putE_mem [DecidableEq α] (out : List α) (x y : α) : y ∈ putE cf out x ↔ y = x ∨ y ∈ out := by
  unfold putE
  split
  · next h =>
    constructor
    · exact .inr
    · rintro (rfl | h1)
      · exact h
      · exact h1
  · exact insE_mem x out y
theorem putE_rises [DecidableEq α] (T : TotC cf) {out : List α} (hs : Rises cf out) (x : α) : Rises cf (putE cf out x) := by
  unfold putE
  split
  · exact hs
  · next h => exact insE_rises T hs h
theorem foldE_spec [DecidableEq α] (T : TotC cf) : ∀ (l out : List α), Rises cf out →
    Rises cf (l.foldl (putE cf) out) ∧ ∀ x, x ∈ l.foldl (putE cf) out ↔ x ∈ l ∨ x ∈ out
  | [], out, hs => ⟨hs, fun x => by simp⟩
  | a :: l, out, hs => by
    rw [List.foldl_cons]
    obtain ⟨h1, h3⟩ := foldE_spec T l (putE cf out a) (putE_rises T hs a)
    refine ⟨h1, fun x => ?_⟩
    rw [h3 x, putE_mem, List.mem_cons]
    constructor
    · rintro (h4 | h4 | h4)
      · exact .inl (.inr h4)
      · exact .inl (.inl h4)
      · exact .inr h4
    · rintro ((h4 | h4) | h4)
      · exact .inr (.inl h4)
      · exact .inl h4
      · exact .inr (.inr h4)
theorem setE_spec [DecidableEq α] (T : TotC cf) (l : List α) : Rises cf (setE cf l) ∧ ∀ x, x ∈ setE cf l ↔ x ∈ l := by
  obtain ⟨h1, h3⟩ := foldE_spec T l [] List.Pairwise.nil
  exact ⟨h1, fun x => by rw [setE, h3 x]; simp⟩
theorem setE_of [DecidableEq α] (T : TotC cf) {l m : List α} (hm : Rises cf m) (h : ∀ x, x ∈ m ↔ x ∈ l) : setE cf l = m := by
  obtain ⟨h1, h2⟩ := setE_spec T l
  exact rises_ext T _ _ h1 hm fun x => by rw [h2, h]
theorem setE_self [DecidableEq α] (T : TotC cf) {l : List α} (h : Rises cf l) : setE cf l = l := setE_of T h fun _ => Iff.rfl

/-- What Compact keeps of the first j. -/
def compE [DecidableEq α] (l : List α) : Nat → List α
  | 0 => []
  | j + 1 => if 0 < j ∧ l[j]? = l[j - 1]? then compE l j else compE l j ++ l[j]?.toList
theorem compE_len [DecidableEq α] (l : List α) : ∀ j, (compE l j).length ≤ j
  | 0 => by simp [compE]
  | j + 1 => by
    have := compE_len l j
    rw [compE]
    split
    · omega
    · rw [List.length_append]
      have : l[j]?.toList.length ≤ 1 := by cases l[j]? <;> simp
      omega
theorem compE_mem [DecidableEq α] (l : List α) : ∀ j, j ≤ l.length → ∀ x, x ∈ compE l j ↔ x ∈ l.take j
  | 0, _, x => by simp [compE]
  | j + 1, h, x => by
    have ih := compE_mem l j (by omega) x
    have hj : j < l.length := by omega
    rw [compE, List.take_add_one, List.mem_append]
    split
    · next h0 =>
      rw [ih]
      constructor
      · exact .inl
      · rintro (h1 | h1)
        · exact h1
        · rw [h0.2] at h1
          have h2 : j - 1 < l.length := by omega
          rw [List.getElem?_eq_getElem h2] at h1
          simp at h1
          subst h1
          exact List.mem_take_iff_getElem.2 ⟨j - 1, by omega, rfl⟩
    · rw [List.mem_append, ih]
/-- Of a list that never falls: what is kept rises. -/
theorem compE_rises [DecidableEq α] (T : TotC cf) (l : List α) (hs : l.Pairwise fun a b => cf a b ≤ 0) : ∀ j, j ≤ l.length → Rises cf (compE l j)
  | 0, _ => List.Pairwise.nil
  | j + 1, h => by
    have ih := compE_rises T l hs j (by omega)
    have hj : j < l.length := by omega
    rw [compE]
    split
    · exact ih
    · next h0 =>
      rw [List.getElem?_eq_getElem hj]
      refine List.pairwise_append.2 ⟨ih, by simp, fun a ha b hb => ?_⟩
      simp at hb
      subst hb
      rw [compE_mem l j (by omega)] at ha
      obtain ⟨i, hi, rfl⟩ := List.mem_take_iff_getElem.1 ha
      have hj1 : j - 1 < l.length := by omega
      have hle : cf l[i] l[j - 1] ≤ 0 := by
        by_cases hij : i = j - 1
        · subst hij; rw [T.same]; omega
        · exact List.pairwise_iff_getElem.1 hs i (j - 1) (by omega) hj1 (by omega)
      have hle2 : cf l[j - 1] l[j] ≤ 0 := List.pairwise_iff_getElem.1 hs (j - 1) j hj1 hj (by omega)
      have hne : cf l[j - 1] l[j] ≠ 0 := fun e => h0 ⟨by omega, by
        rw [List.getElem?_eq_getElem hj, List.getElem?_eq_getElem hj1, T.zero _ _ e]⟩
      exact T.le_lt hle (by omega)
/-- Sorted and compacted: the set. -/
theorem compact_setE [DecidableEq α] (T : TotC cf) (l l' : List α) (hp : l'.Perm l) (hs : l'.Pairwise fun a b => cf a b ≤ 0) : compE l' l'.length = setE cf l := by
  have hm : ∀ x, x ∈ compE l' l'.length ↔ x ∈ l' := fun x => by rw [compE_mem l' _ (Nat.le_refl _), List.take_length]
  exact (setE_of T (compE_rises T l' hs _ (Nat.le_refl _)) fun x => by rw [hm, hp.mem_iff]).symm
theorem compE_small [DecidableEq α] (l : List α) (h : l.length < 2) : compE l l.length = l := by
  cases l with
  | nil => rfl
  | cons x l =>
    cases l with
    | nil => simp [compE]
    | cons y l => simp at h; omega
theorem compE_same [DecidableEq α] {l : List α} {p : Nat} (h : l[p + 1]? = l[p]?) : compE l (p + 2) = compE l (p + 1) := by
  rw [compE, if_pos ⟨Nat.succ_pos p, h⟩]
theorem compE_other [DecidableEq α] {l : List α} {p : Nat} {x : α} (hx : l[p + 1]? = some x) (h : l[p + 1]? ≠ l[p]?) : compE l (p + 2) = compE l (p + 1) ++ [x] := by
  rw [compE, if_neg (fun e => h e.2), hx]
  rfl
/-- All along Compact's inner loop: what is kept of the first j stands in front; from j - 1 on nothing is turned. -/
structure CompS [DecidableEq α] (l : List α) (q kk : Nat) (lc : List α) : Prop where
  len : lc.length = l.length
  front : lc.take kk = compE l (q + 1)
  size : kk = (compE l (q + 1)).length
  lt : kk < q + 1
  high : ∀ i, q ≤ i → lc[i]? = l[i]?
theorem CompS.eq [DecidableEq α] {l lc : List α} {q kk : Nat} (h : CompS l q kk lc) (he : l[q + 1]? = l[q]?) : CompS l (q + 1) kk lc :=
  ⟨h.len, by rw [compE_same he]; exact h.front, by rw [compE_same he]; exact h.size, by have := h.lt; omega, fun i hi => h.high i (by omega)⟩
theorem CompS.ne [DecidableEq α] {l lc : List α} {q kk : Nat} (h : CompS l q kk lc) {x : α} (hx : l[q + 1]? = some x) (he : l[q + 1]? ≠ l[q]?) : CompS l (q + 1) (kk + 1) (lc.set kk x) := by
  have hq : q + 1 < l.length := (List.getElem?_eq_some_iff.1 hx).1
  have h1 := h.lt
  have h2 := h.len
  refine ⟨by rw [List.length_set]; exact h.len, ?_, ?_, by omega, fun i hi => ?_⟩
  · rw [compE_other hx he, ← h.front, List.take_add_one, List.take_set_of_le (Nat.le_refl _), List.getElem?_set_self (by omega)]
    rfl
  · rw [compE_other hx he, List.length_append, ← h.size]
    rfl
  · rw [List.getElem?_set_ne (by omega)]
    exact h.high i (by omega)
end
end Go.Proofs.Ytcclifnhbncfcaa
