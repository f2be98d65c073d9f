/- A dot's text in plain lists: where the point stands, and what is read (tools/gendotpar.py). -/
import Derived.Test.YtockdekhdjmklaaDoorDotMath
import Derived.Lib.IndexMore
import Derived.Lib.IndexLaws
namespace Go.Proofs.YtockdekhdjmklaaDoor
open Go.Lib

def at46 : List UInt8 → Option Nat
  | [] => none
  | c :: r => if c = 46 then some 0 else (at46 r).map (· + 1)
theorem index_cons1 (c x : UInt8) (s : List UInt8) : index (x :: s) [c] = if x = c then 0 else if index s [c] == -1 then -1 else index s [c] + 1 := by
  rw [index]
  by_cases h : x = c
  · subst h; simp [List.isPrefixOf]
  · have : ([c].isPrefixOf (x :: s)) = false := by simp [List.isPrefixOf, Ne.symm h]
    rw [if_neg (by rw [this]; simp), if_neg h]
theorem index_at46 : ∀ s : List UInt8, index s [46] = match at46 s with | some j => (j : Int) | none => -1
  | [] => rfl
  | c :: s => by
    rw [index_cons1, index_at46 s, at46]
    by_cases h : c = 46
    · rw [if_pos h, if_pos h]; rfl
    · rw [if_neg h, if_neg h]
      cases at46 s with
      | none => rfl
      | some j => simp
theorem cut_at46 (s : List UInt8) : cut s [46] = match at46 s with | some j => (s.take j, s.drop (j + 1), true) | none => (s, [], false) := by
  unfold cut
  rw [index_at46]
  cases at46 s with
  | none => rfl
  | some j => simp
theorem at46_none : ∀ (s : List UInt8), ¬ 46 ∈ s → at46 s = none
  | [], _ => rfl
  | c :: s, h => by
    rw [at46, if_neg (fun e => h (by rw [e]; exact List.mem_cons_self)), at46_none s (fun hm => h (List.mem_cons_of_mem _ hm))]
    rfl
theorem at46_none' : ∀ (s : List UInt8), at46 s = none → ¬ 46 ∈ s
  | [], _ => by simp
  | c :: s, h => by
    rw [at46] at h
    split at h
    · cases h
    · next hc =>
      have h1 := at46_none' s (Option.map_eq_none_iff.1 h)
      intro hm
      rcases List.mem_cons.1 hm with e | hm
      · exact hc e.symm
      · exact h1 hm
theorem at46_app : ∀ (a r : List UInt8), ¬ 46 ∈ a → at46 (a ++ 46 :: r) = some a.length
  | [], r, _ => by simp [at46]
  | c :: a, r, h => by
    rw [List.cons_append, at46, if_neg (fun e => h (by rw [e]; exact List.mem_cons_self)), at46_app a r (fun hm => h (List.mem_cons_of_mem _ hm))]
    rfl
theorem at46_some : ∀ (s : List UInt8) (j : Nat), at46 s = some j → s = s.take j ++ 46 :: s.drop (j + 1)
  | [], j, h => by simp [at46] at h
  | c :: s, j, h => by
    rw [at46] at h
    split at h
    · next hc => cases h; simp [hc]
    · obtain ⟨i, hi, rfl⟩ := Option.map_eq_some_iff.1 h
      have := at46_some s i hi
      simp only [List.take_succ_cons, List.drop_succ_cons, List.cons_append]
      rw [← this]
theorem at46_lt : ∀ (s : List UInt8) (j : Nat), at46 s = some j → j < s.length
  | [], j, h => by simp [at46] at h
  | c :: r, j, h => by
    rw [at46] at h
    split at h
    · cases h; simp
    · obtain ⟨i, hi, rfl⟩ := Option.map_eq_some_iff.1 h
      have := at46_lt r i hi
      simp only [List.length_cons]
      omega
/-- What a name is made of: ref, tip, whether it is a conflict name, the error. -/

theorem at46_here {s : List UInt8} {k : Nat} (hn : ¬ 46 ∈ s.take k) (hk : s[k]? = some 46) : at46 s = some k := by
  obtain ⟨h1, h2⟩ := List.getElem?_eq_some_iff.1 hk
  have h : s = s.take k ++ 46 :: s.drop (k + 1) := by
    rw [← h2, ← List.drop_eq_getElem_cons h1, List.take_append_drop]
  have h3 := at46_app (s.take k) (s.drop (k + 1)) hn
  rw [← h] at h3
  rw [h3, List.length_take, Nat.min_eq_left (by omega)]
def parD (s : List UInt8) : Int × (Int × Int) :=
  match at46 s with
  | none => (50, (0, 0))
  | some j => if DotOk (numR (s.take j)) (numR (s.drop (j + 1))) then (0, (numR (s.take j), numR (s.drop (j + 1)))) else (50, (0, 0))
theorem parD_some {s : List UInt8} {j : Nat} (h : at46 s = some j) : parD s = if DotOk (numR (s.take j)) (numR (s.drop (j + 1))) then (0, (numR (s.take j), numR (s.drop (j + 1)))) else (50, (0, 0)) := by unfold parD; rw [h]
theorem parD_none {s : List UInt8} (h : at46 s = none) : parD s = (50, (0, 0)) := by unfold parD; rw [h]
theorem parD_ok {s : List UInt8} {a b : Int} (h1 : atoiAll (cut s [46]).1 = .ok a) (ht : textD a b = s) : parD s = (0, (a, b)) := by
  by_cases hok : DotOk a b
  · have hs : s = itoa a ++ 46 :: itoa b := by rw [← ht]; exact if_pos hok
    have h0 := hok
    obtain ⟨p1, p2, p3, p4⟩ := hok
    have hj : at46 s = some (itoa a).length := by rw [hs]; exact at46_app _ _ (itoa_no46 p1)
    have e1 : s.take (itoa a).length = itoa a := by rw [hs]; simp
    have e2 : s.drop ((itoa a).length + 1) = itoa b := by rw [hs]; simp
    rw [parD_some hj, e1, e2, numR_itoa p1 (by omega), numR_itoa (by omega) (by omega), if_pos h0]
  · have hs : s = [] := by rw [← ht]; exact if_neg hok
    subst hs
    rw [show (cut [] [46]).1 = ([] : List UInt8) from rfl, atoi_nil] at h1
    cases h1
theorem parD_no {s : List UInt8} (h : parD s ≠ (50, (0, 0))) : ∃ a b, atoiAll (cut s [46]).1 = .ok a ∧ atoiAll (cut s [46]).2.1 = .ok b ∧ textD a b = s := by
  cases hj : at46 s with
  | none => exact absurd (parD_none hj) h
  | some j =>
    rw [parD_some hj] at h
    by_cases hok : DotOk (numR (s.take j)) (numR (s.drop (j + 1)))
    · have hc : cut s [46] = (s.take j, s.drop (j + 1), true) := by rw [cut_at46, hj]
      have hs := at46_some s j hj
      obtain ⟨A, hA0⟩ : ∃ A, A = numR (s.take j) := ⟨_, rfl⟩
      obtain ⟨B, hB0⟩ : ∃ B, B = numR (s.drop (j + 1)) := ⟨_, rfl⟩
      rw [← hA0, ← hB0] at hok
      have h0 := hok
      obtain ⟨p1, p2, p3, p4⟩ := hok
      have hA := numR_inv hA0.symm p1
      have hB := numR_inv hB0.symm (by omega)
      refine ⟨A, B, ?_, ?_, ?_⟩
      · rw [hc]
        show atoiAll (s.take j) = _
        rw [hA]
        exact atoi_itoa p1 (by omega)
      · rw [hc]
        show atoiAll (s.drop (j + 1)) = _
        rw [hB]
        exact atoi_itoa (by omega) (by omega)
      · rw [show textD A B = itoa A ++ 46 :: itoa B from if_pos h0, ← hA, ← hB]
        exact hs.symm
    · rw [if_neg hok] at h
      exact absurd rfl h
theorem numR_stop {s : List UInt8} {k : Nat} {y : UInt8} (hy : s[k]? = some y) (h : y.toNat < 48 ∨ 57 < y.toNat) : numR s = -1 := by
  unfold numR
  split
  · rfl
  · rw [if_neg]
    intro ha
    rw [List.all_eq_true] at ha
    have := ha y (List.mem_of_getElem? hy)
    simp at this
    omega
theorem numR_all {s : List UInt8} (h : ¬ (s.length < 1 ∨ 10 < s.length ∨ (s.head? = some 48 ∧ 1 < s.length))) (ha : ∀ c ∈ s, 48 ≤ c.toNat ∧ c.toNat ≤ 57) : numR s = valD s := by
  unfold numR
  rw [if_neg h, if_pos]
  rw [List.all_eq_true]
  intro c hc
  simp [ha c hc]
theorem valD_take {s : List UInt8} {k : Nat} {y : UInt8} (hy : s[k]? = some y) : valD (s.take (k + 1)) = 10 * valD (s.take k) + (y.toNat - 48) := by
  rw [List.take_add_one, hy]
  exact valD_snoc _ _
theorem numR_bound (s : List UInt8) : -1 ≤ numR s ∧ numR s < 10000000000 := by
  unfold numR
  split
  · omega
  · split
    · rename_i h ha
      have h1 := valD_lt s (by
        intro c hc
        have := (List.all_eq_true.1 ha) c hc
        simpa using this)
      have h2 : 10 ^ s.length ≤ 10000000000 := Nat.le_trans (Nat.pow_le_pow_right (by omega) (show s.length ≤ 10 by omega)) (by decide)
      omega
    · omega
end Go.Proofs.YtockdekhdjmklaaDoor
