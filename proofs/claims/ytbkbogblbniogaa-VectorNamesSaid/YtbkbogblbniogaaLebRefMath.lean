/- The reference's number, in plain lists: the same as what is read. -/
import Derived.Test.YtbkbogblbniogaaLebReadB
namespace Go.Proofs.Ytbkbogblbniogaa

/-- How many bytes the number has that stands at the front; 0: there is no last one. -/
def wh : List UInt8 → Nat
  | [] => 0
  | b :: bs => if b.toNat < 128 then 1 else if wh bs = 0 then 0 else wh bs + 1
theorem wh_cons (b : UInt8) (bs : List UInt8) : wh (b :: bs) = if b.toNat < 128 then 1 else if wh bs = 0 then 0 else wh bs + 1 := rfl
theorem wh_le : ∀ xs : List UInt8, wh xs ≤ xs.length
  | [] => Nat.le_refl _
  | b :: bs => by
    have h := wh_le bs
    unfold wh
    split
    · simp
    · split <;> simp; omega
/-- The value of bytes. -/
def vl : List UInt8 → Nat
  | [] => 0
  | b :: bs => b.toNat % 128 + 128 * vl bs

theorem vl_lebB : ∀ (n k : Nat), k ≤ n → vl (lebB k) = k := by
  intro n
  induction n with
  | zero =>
    intro k hk
    obtain rfl : k = 0 := by omega
    simp [lebB, lebF, vl]
  | succ n ih =>
    intro k hk
    by_cases h : k < 128
    · rw [lebB_small h]
      simp only [vl]
      rw [toNat_small (by omega)]
      omega
    · rw [lebB_great (by omega)]
      simp only [vl]
      rw [toNat_small (by omega), ih (k / 128) (by omega)]
      omega
theorem wh_lebB (rest : List UInt8) : ∀ (n k : Nat), k ≤ n → wh (lebB k ++ rest) = (lebB k).length := by
  intro n
  induction n with
  | zero =>
    intro k hk
    obtain rfl : k = 0 := by omega
    simp [lebB, lebF, wh]
  | succ n ih =>
    intro k hk
    by_cases h : k < 128
    · rw [lebB_small h, List.singleton_append]
      unfold wh
      rw [toNat_small (by omega), if_pos h]
      rfl
    · rw [lebB_great (by omega), List.cons_append]
      unfold wh
      have hp := lebB_pos (k / 128)
      rw [toNat_small (by omega), if_neg (by omega), ih (k / 128) (by omega), if_neg (by omega)]
      simp

theorem scan_ten : ∀ (xs : List UInt8) (p m : Nat), p ≤ 9 → (scan p m xs).1 = 10 → wh xs = 0 ∧ xs.length + p ≤ 9
  | [], p, m, hp, _ => ⟨rfl, by simpa using hp⟩
  | b :: bs, p, m, hp, h => by
    by_cases h1 : (p = 9 ∧ 1 < b.toNat) ∨ (0 < p ∧ b.toNat = 0)
    · rw [scan_form bs h1] at h
      simp at h
    · by_cases h2 : b.toNat < 128
      · rw [scan_last bs h1 h2] at h
        simp at h
      · rw [scan_more bs h1 h2] at h
        obtain ⟨h3, h4⟩ := scan_ten bs (p + 1) _ (by omega) h
        unfold wh
        rw [if_neg h2, if_pos h3]
        exact ⟨rfl, by simp; omega⟩
theorem scan_ten' : ∀ (xs : List UInt8) (p m : Nat), wh xs = 0 → xs.length + p ≤ 9 → (scan p m xs).1 = 10
  | [], p, m, _, _ => rfl
  | b :: bs, p, m, h, hl => by
    have h1 : ¬ b.toNat < 128 := fun h2 => by unfold wh at h; rw [if_pos h2] at h; omega
    have h3 : wh bs = 0 := by
      unfold wh at h
      rw [if_neg h1] at h
      split at h
      · assumption
      · omega
    simp at hl
    rw [scan_more bs (by omega) h1]
    exact scan_ten' bs (p + 1) _ h3 (by omega)

/-- The reference's answer. -/
def refNum (most : Nat) (xs : List UInt8) : Int × Nat × List UInt8 :=
  if wh xs = 0 ∧ xs.length < 10 then (10, 0, xs) else if wh xs = 0 ∨ 10 < wh xs then (11, 0, xs) else
  if lebB (vl (xs.take (wh xs)) % 18446744073709551616) ≠ xs.take (wh xs) then (11, 0, xs) else
  if most < vl (xs.take (wh xs)) % 18446744073709551616 then (12, 0, xs) else (0, vl (xs.take (wh xs)) % 18446744073709551616, xs.drop (wh xs))

theorem refNum_eq (most : Nat) (xs : List UInt8) : refNum most xs = back xs (numRes most xs) := by
  rcases scan_err xs 0 0 with h | ⟨h | h, h'⟩
  · obtain ⟨er, n, rest, hs⟩ : ∃ er n rest, scan 0 0 xs = (er, n, rest) := ⟨_, _, _, rfl⟩
    rw [hs] at h
    simp only at h
    subst h
    obtain ⟨rfl, hn⟩ := scan_told hs
    have hw := wh_lebB rest n n (Nat.le_refl _)
    have hp := lebB_pos n
    have hl := lebB_u64 hn
    have ht : (lebB n ++ rest).take (lebB n).length = lebB n := by simp
    have hd : (lebB n ++ rest).drop (lebB n).length = rest := by simp
    unfold refNum back numRes
    rw [hs, hw, ht, hd, vl_lebB n n (Nat.le_refl _), Nat.mod_eq_of_lt hn, if_neg (by omega), if_neg (by omega), if_neg (by simp)]
    simp only [ne_eq, not_true, if_false]
    split <;> simp
  · obtain ⟨h1, h2⟩ := scan_ten xs 0 0 (by omega) h
    unfold refNum back numRes
    rw [if_pos ⟨h1, by omega⟩, if_pos (by rw [h]; decide), h]
    simp
  · have hb : back xs (numRes most xs) = (11, 0, xs) := by
      unfold back numRes
      rw [if_pos (by rw [h]; decide), h]
      simp
    rw [hb]
    unfold refNum
    have h1 : ¬ (wh xs = 0 ∧ xs.length < 10) := fun ⟨a, b⟩ => by
      have := scan_ten' xs 0 0 a (by omega)
      rw [this] at h
      simp at h
    rw [if_neg h1]
    by_cases h2 : wh xs = 0 ∨ 10 < wh xs
    · rw [if_pos h2]
    · rw [if_neg h2, if_pos]
      intro he
      have h3 := scan_read (k := vl (xs.take (wh xs)) % 18446744073709551616) (by omega) (xs.drop (wh xs))
      rw [he, List.take_append_drop] at h3
      rw [h3] at h
      simp at h
end Go.Proofs.Ytbkbogblbniogaa
