/- The library's plain words and mine: parts, pairs, ends, a cut. -/
import Derived.Test.YtldgnkngjdgiaaaDoorRefnSplit
import Derived.Test.YtldgnkngjdgiaaaDoorShelf
namespace Go.Proofs.YtldgnkngjdgiaaaDoor
open Go.RowKit

theorem splitS_cur : ∀ (s cur : List UInt8), ∃ h t, splitS [] s = h :: t ∧ splitS cur s = (cur ++ h) :: t
  | [], cur => ⟨[], [], rfl, by simp [splitS]⟩
  | c :: s, cur => by
    by_cases hc : c = 47
    · exact ⟨[], splitS [] s, by simp [splitS, hc], by simp [splitS, hc]⟩
    · obtain ⟨h1, t1, e1, e2⟩ := splitS_cur s [c]
      obtain ⟨h2, t2, e3, e4⟩ := splitS_cur s (cur ++ [c])
      rw [e1] at e3
      obtain ⟨rfl, rfl⟩ := List.cons.inj e3
      refine ⟨c :: h1, t1, ?_, ?_⟩
      · rw [splitS, if_neg hc, List.nil_append, e2]; rfl
      · rw [splitS, if_neg hc, e4]; simp
theorem index_cons1 (c x : UInt8) (s : List UInt8) : Lib.index (x :: s) [c] = if x = c then 0 else if Lib.index s [c] == -1 then -1 else Lib.index s [c] + 1 := by
  rw [Lib.index]
  by_cases h : x = c
  · subst h; simp [List.isPrefixOf]
  · have : ([c].isPrefixOf (x :: s)) = false := by simp [List.isPrefixOf, Ne.symm h]
    rw [if_neg (by rw [this]; simp), if_neg h]
theorem splitK_parts : ∀ (s : List UInt8), Lib.splitK [47] 0 (Lib.count s [47]) s = partsB s
  | [] => by
    rw [Lib.count_miss (by rfl)]; rfl
  | c :: s => by
    have ih := splitK_parts s
    by_cases hc : c = 47
    · subst hc
      rw [Lib.count_cons_eq, Nat.add_comm, Lib.splitK, index_cons1, if_pos rfl]
      simp only [partsB, splitS]
      rw [if_neg (by decide)]
      simp only [if_true, Int.toNat_zero, Nat.zero_add, List.take_zero, List.length_cons, List.length_nil, List.drop_succ_cons, List.drop_zero]
      rw [ih]; rfl
    · rw [Lib.count_cons_ne _ _ _ hc]
      obtain ⟨h, t, e1, e2⟩ := splitS_cur s [c]
      have e3 : partsB (c :: s) = (c :: h) :: t := by
        show splitS [] (c :: s) = _
        rw [splitS, if_neg hc, List.nil_append, e2]; rfl
      rw [e3]
      have ih' : Lib.splitK [47] 0 (Lib.count s [47]) s = h :: t := ih.trans e1
      by_cases hi : Lib.index s [47] = -1
      · rw [Lib.count_miss hi] at ih' ⊢
        simp only [Lib.splitK] at ih' ⊢
        obtain ⟨rfl, rfl⟩ := List.cons.inj ih'
        rfl
      · obtain ⟨i, hi2⟩ : ∃ i : Nat, Lib.index s [47] = i := ⟨(Lib.index s [47]).toNat, by have := Lib.index_ge s [47]; omega⟩
        rw [Lib.count_hit (by simp) hi2, Nat.add_comm] at ih' ⊢
        rw [Lib.splitK, if_neg (by rw [hi2]; simp), hi2] at ih'
        rw [Lib.splitK, index_cons1, if_neg hc, if_neg (by rw [hi2]; simp; omega), hi2, if_neg (by simp)]
        obtain ⟨e4, e5⟩ := List.cons.inj ih'
        have t1 : ((i : Int) + 1).toNat = i + 1 := by omega
        rw [t1]
        simp only [Nat.add_zero, Int.toNat_natCast, List.take_succ_cons, List.length_cons, List.length_nil, Nat.zero_add] at e4 e5 ⊢
        rw [e4]
        congr 1
theorem parts_split (s : List UInt8) : ((Lib.splitB ⟨#[47]⟩ 0 (Lib.countB ⟨s.toArray⟩ ⟨#[47]⟩) ⟨s.toArray⟩).map Value.string) = (partsB s).map fun x => Str x := by
  have h := Lib.splitB_data ⟨#[47]⟩ 0 (Lib.countB ⟨s.toArray⟩ ⟨#[47]⟩) ⟨s.toArray⟩
  have e : Lib.splitK [47] 0 (Lib.countB ⟨s.toArray⟩ ⟨#[47]⟩) s = partsB s := splitK_parts s
  have h2 : (Lib.splitB ⟨#[47]⟩ 0 (Lib.countB ⟨s.toArray⟩ ⟨#[47]⟩) ⟨s.toArray⟩).map (·.data.toList) = partsB s := h.trans e
  rw [← h2, List.map_map]
  rfl
theorem parts_count (s : List UInt8) : Lib.countB ⟨s.toArray⟩ ⟨#[47]⟩ + 1 = (partsB s).length := by
  have h := Lib.splitB_all ⟨#[47]⟩ (by decide) 0 _ ⟨s.toArray⟩ rfl
  have h2 := congrArg List.length (parts_split s)
  simp only [List.length_map] at h2
  omega
theorem pair_contains (a b : UInt8) : ∀ s : List UInt8, Lib.contains s [a, b] = hasPair a b s
  | [] => by simp [Lib.contains, Lib.index, hasPair]
  | [x] => by
    simp [Lib.contains, Lib.index, hasPair, List.isPrefixOf]
  | x :: y :: r => by
    have ih := pair_contains a b (y :: r)
    unfold Lib.contains at ih ⊢
    rw [hasPair_cons, ← ih, Lib.index]
    by_cases h : x = a ∧ y = b
    · obtain ⟨rfl, rfl⟩ := h; simp [List.isPrefixOf]
    · have hp : ([a, b].isPrefixOf (x :: y :: r)) = false := by
        simp [List.isPrefixOf]
        intro e; subst e
        exact fun e => h ⟨rfl, e.symm⟩
      have hq : (x == a && y == b) = false := by
        rw [Bool.eq_false_iff]; intro e; simp at e; exact h e
      rw [if_neg (by rw [hp]; simp), hq, Bool.false_or]
      have := Lib.index_ge (y :: r) [a, b]
      by_cases hm : Lib.index (y :: r) [a, b] = -1
      · rw [hm]; simp
      · rw [if_neg (by simpa using hm)]
        apply decide_eq_decide.2
        omega
theorem prefix_dot (p : List UInt8) : Lib.hasPrefix p [46] = (p[0]? == some 46) := by
  unfold Lib.hasPrefix
  cases p with
  | nil => rfl
  | cons x r =>
    by_cases h : x = 46
    · subst h; simp [List.isPrefixOf]
    · simp [List.isPrefixOf, Bool.beq_comm]
theorem suffix_lock (p : List UInt8) : Lib.hasSuffix p lockB = endsLock p := by
  unfold Lib.hasSuffix endsLock
  rw [Bool.eq_iff_iff, List.isSuffixOf_iff_suffix, Bool.and_eq_true, decide_eq_true_eq, beq_iff_eq, List.suffix_iff_eq_drop]
  constructor
  · intro h
    have hl : lockB.length = 5 := rfl
    rw [hl] at h
    have h5 := congrArg List.length h
    rw [List.length_drop, hl] at h5
    exact ⟨by omega, h.symm⟩
  · rintro ⟨h5, h⟩
    exact h.symm
theorem suffix_dot (s : List UInt8) : Lib.hasSuffix s [46] = (s[s.length - 1]? == some 46) := by
  unfold Lib.hasSuffix
  rw [Bool.eq_iff_iff, List.isSuffixOf_iff_suffix, beq_iff_eq, List.suffix_iff_eq_drop]
  show [46] = s.drop (s.length - 1) ↔ _
  constructor
  · intro h
    have := congrArg (·[0]?) h
    simpa using this.symm
  · intro h
    have hlt : s.length - 1 < s.length := (List.getElem?_eq_some_iff.1 h).1
    rw [List.drop_eq_getElem_cons hlt, (List.getElem?_eq_some_iff.1 h).2, List.drop_eq_nil_of_le (by omega)]
theorem index_tilde : ∀ s : List UInt8, Lib.index s [126] = match tilde s with | some j => (j : Int) | none => -1
  | [] => rfl
  | c :: s => by
    rw [index_cons1, index_tilde s, tilde]
    by_cases h : c = 126
    · rw [if_pos h, if_pos h]; rfl
    · rw [if_neg h, if_neg h]
      cases tilde s with
      | none => rfl
      | some j => simp
theorem cut_tilde (s : List UInt8) : Lib.cut s [126] = match tilde s with | some j => (s.take j, s.drop (j + 1), true) | none => (s, [], false) := by
  unfold Lib.cut
  rw [index_tilde]
  cases tilde s with
  | none => rfl
  | some j => simp
def barredB : List UInt8 := [126, 94, 58, 63, 42, 91, 92]
theorem barred_may (c : UInt8) (h : c.toNat < 128) : (decide ((c.toNat : Int) < 33) || decide ((c.toNat : Int) > 126) || decide (0 ≤ Lib.indexByte barredB c)) = !mayB c := by
  have key : ∀ n : Fin 256, n.1 < 128 → (decide (((UInt8.ofNat n.1).toNat : Int) < 33) || decide (((UInt8.ofNat n.1).toNat : Int) > 126) || decide (0 ≤ Lib.indexByte barredB (UInt8.ofNat n.1))) = !mayB (UInt8.ofNat n.1) := by decide +kernel
  have := key ⟨c.toNat, c.toNat_lt⟩ h
  simpa using this
theorem high_may (c : UInt8) (h : 128 ≤ c.toNat) : mayB c = false := by
  unfold mayB
  have : decide (c.toNat ≤ 126) = false := by simp; omega
  rw [this]; simp
end Go.Proofs.YtldgnkngjdgiaaaDoor
