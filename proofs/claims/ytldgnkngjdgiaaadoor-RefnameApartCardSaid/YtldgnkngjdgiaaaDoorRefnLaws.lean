/- What follows of names of refs and texts of ids, in plain lists: for the laws that don't ask the reference. -/
import Derived.Test.YtldgnkngjdgiaaaDoorRefnSplit
namespace Go.Proofs.YtldgnkngjdgiaaaDoor

/-! Texts of ids -/
theorem digV_hexd {n : Nat} (h : n < 16) : digV (hexd n) = (n : Int) := by
  have key : ∀ n : Fin 16, digV (hexd n.1) = (n.1 : Int) := by decide +kernel
  exact key ⟨n, h⟩
theorem hexd_digV (c : UInt8) (h : ¬ digV c < 0) : hexd (digV c).toNat = c := by
  have key : ∀ n : Fin 256, ¬ digV (UInt8.ofNat n.1) < 0 → hexd (digV (UInt8.ofNat n.1)).toNat = UInt8.ofNat n.1 := by decide +kernel
  have h1 := key ⟨c.toNat, c.toNat_lt⟩
  simp only [UInt8.ofNat_toNat] at h1
  exact h1 h
theorem textB_cons (c : UInt8) (x : List UInt8) : textB (c :: x) = hexd (c.toNat / 16) :: hexd (c.toNat % 16) :: textB x := rfl
theorem parse_text : ∀ (x : List UInt8), parseB (textB x) = some x
  | [] => rfl
  | c :: x => by
    have h8 := c.toNat_lt
    rw [textB_cons, parseB, digV_hexd (by omega), digV_hexd (by omega), if_neg (by omega), parse_text x]
    simp only [Option.map_some]
    congr 2
    have : (16 * ((c.toNat / 16 : Nat) : Int) + ((c.toNat % 16 : Nat) : Int)).toNat = c.toNat := by omega
    rw [this]
    simp
theorem text_parse : ∀ (s xs : List UInt8), parseB s = some xs → textB xs = s := by
  intro s
  induction s using parseB.induct with
  | case1 a b r h => intro xs hx; rw [parseB, if_pos h] at hx; cases hx
  | case2 a b r h ih =>
    intro xs hx
    rw [parseB, if_neg h] at hx
    obtain ⟨ys, hy, rfl⟩ := Option.map_eq_some_iff.1 hx
    have ha : ¬ digV a < 0 := fun h1 => h (.inl h1)
    have hb : ¬ digV b < 0 := fun h1 => h (.inr h1)
    have da := digV_lt a
    have db := digV_lt b
    rw [textB_cons, ih ys hy]
    have hn : (UInt8.ofNat (16 * digV a + digV b).toNat).toNat = (16 * digV a + digV b).toNat := by
      rw [UInt8.toNat_ofNat', Nat.mod_eq_of_lt (by omega)]
    rw [hn]
    have e1 : (16 * digV a + digV b).toNat / 16 = (digV a).toNat := by omega
    have e2 : (16 * digV a + digV b).toNat % 16 = (digV b).toNat := by omega
    rw [e1, e2, hexd_digV a ha, hexd_digV b hb]
  | case3 => intro xs hx; cases hx; rfl
  | case4 a => intro xs hx; cases hx
theorem parseR_text {x : List UInt8} (h : x.length = 32) : parseR (textB x) = (0, x) := by
  unfold parseR
  rw [if_pos (by rw [textB_length, h]), parse_text x]
theorem parseR_ok {s : List UInt8} (h : (parseR s).1 = 0) : textB (parseR s).2 = s := by
  unfold parseR at h ⊢
  split
  · next h64 =>
    rw [if_pos h64] at h
    cases hp : parseB s with
    | none => rw [hp] at h; simp at h
    | some xs => exact text_parse s xs hp
  · next h64 =>
    rw [if_neg h64] at h
    simp at h

/-! Tildes -/
theorem tilde_none : ∀ (s : List UInt8), ¬ 126 ∈ s → tilde s = none
  | [], _ => rfl
  | c :: s, h => by
    rw [tilde, if_neg (fun e => h (by rw [e]; exact List.mem_cons_self)), tilde_none s (fun hm => h (List.mem_cons_of_mem _ hm))]
    rfl
theorem tilde_none' : ∀ (s : List UInt8), tilde s = none → ¬ 126 ∈ s
  | [], _ => by simp
  | c :: s, h => by
    rw [tilde] at h
    split at h
    · cases h
    · next hc =>
      have h1 := tilde_none' s (Option.map_eq_none_iff.1 h)
      intro hm
      rcases List.mem_cons.1 hm with e | hm
      · exact hc e.symm
      · exact h1 hm
theorem tilde_app : ∀ (a r : List UInt8), ¬ 126 ∈ a → tilde (a ++ 126 :: r) = some a.length
  | [], r, _ => by simp [tilde]
  | c :: a, r, h => by
    rw [List.cons_append, tilde, if_neg (fun e => h (by rw [e]; exact List.mem_cons_self)), tilde_app a r (fun hm => h (List.mem_cons_of_mem _ hm))]
    rfl
theorem tilde_some : ∀ (s : List UInt8) (j : Nat), tilde s = some j → s = s.take j ++ 126 :: s.drop (j + 1)
  | [], j, h => by simp [tilde] at h
  | c :: s, j, h => by
    rw [tilde] at h
    split at h
    · next hc => cases h; simp [hc]
    · obtain ⟨i, hi, rfl⟩ := Option.map_eq_some_iff.1 h
      have := tilde_some s i hi
      simp only [List.take_succ_cons, List.drop_succ_cons, List.cons_append]
      rw [← this]
theorem tilde_mem {s : List UInt8} {j : Nat} (h : tilde s = some j) : 126 ∈ s := by
  rw [tilde_some s j h]
  simp

/-! Names -/
theorem breaks_zero {s : List UInt8} : breaksB s = 0 ↔ ¬ (s.length < 1 ∨ 100 < s.length) ∧ (s.any fun c => !mayB c) = false ∧ ((partsB s).any fun p => p == []) = false ∧ ((partsB s).any fun p => p[0]? == some 46) = false ∧ hasPair 46 46 s = false ∧ ((partsB s).any endsLock) = false ∧ (s[s.length - 1]? == some 46) = false ∧ hasPair 64 123 s = false := by
  unfold breaksB
  constructor
  · intro h
    repeat' (split at h <;> try (cases h; done))
    refine ⟨by assumption, ?_, ?_, ?_, ?_, ?_, ?_, ?_⟩ <;> exact Bool.eq_false_iff.2 (by assumption)
  · rintro ⟨h1, h2, h3, h4, h5, h6, h7, h8⟩
    rw [if_neg h1, if_neg (by rw [h2]; simp), if_neg (by rw [h3]; simp), if_neg (by rw [h4]; simp), if_neg (by rw [h5]; simp), if_neg (by rw [h6]; simp), if_neg (by rw [h7]; simp), if_neg (by rw [h8]; simp)]
theorem may_126 : mayB 126 = false := by decide
theorem no_tilde {s : List UInt8} (h : breaksB s = 0) : ¬ 126 ∈ s := fun hm => by
  have h2 := (breaks_zero.1 h).2.1
  have := List.any_eq_false.1 h2 126 hm
  rw [may_126] at this
  simp at this
theorem tilde_breaks {s : List UInt8} (h : 126 ∈ s) : breaksB s ≠ 0 := fun h0 => no_tilde h0 h
/-- A conflict name is no ref's. -/
theorem conflict_breaks (a x : List UInt8) : breaksB (a ++ 126 :: textB x) ≠ 0 := tilde_breaks (by simp)
/-- It splits into its ref and tip. -/
theorem split_conflict {a x : List UInt8} (ha : breaksB a = 0) (hx : x.length = 32) : splitR (a ++ 126 :: textB x) = (a, x, true, 0) := by
  have hd : (a ++ 126 :: textB x).drop (a.length + 1) = textB x := by
    rw [List.drop_append]
    simp
  have ht : (a ++ 126 :: textB x).take a.length = a := by simp
  unfold splitR
  rw [tilde_app a _ (no_tilde ha)]
  simp only
  rw [hd, ht, parseR_text hx, if_pos ⟨rfl, ha⟩]
theorem split_plain {a : List UInt8} (ha : breaksB a = 0) : splitR a = (a, zeroID, false, 0) := by
  unfold splitR
  rw [tilde_none a (no_tilde ha)]
  simp only
  rw [if_pos ha]
theorem conflict_inj {a b x y : List UInt8} (ha : breaksB a = 0) (hb : breaksB b = 0) (hx : x.length = 32) (hy : y.length = 32) : a ++ 126 :: textB x = b ++ 126 :: textB y ↔ a = b ∧ x = y := by
  constructor
  · intro h
    have h1 := split_conflict ha hx
    rw [h, split_conflict hb hy] at h1
    simp only [Prod.mk.injEq] at h1
    exact ⟨h1.1.symm, h1.2.1.symm⟩
  · rintro ⟨rfl, rfl⟩
    rfl
/-- What a listed name is made of makes it again. -/
theorem split_again {s : List UInt8} (h : (splitR s).2.2.2 = 0) : breaksB (splitR s).1 = 0 ∧ (splitR s).2.1.length = 32 ∧ (if (splitR s).2.2.1 = true then (splitR s).1 ++ 126 :: textB (splitR s).2.1 else (splitR s).1) = s := by
  unfold splitR at h ⊢
  cases ht : tilde s with
  | none =>
    rw [ht] at h
    simp only at h ⊢
    by_cases h0 : breaksB s = 0
    · rw [if_pos h0]
      exact ⟨h0, zeroID_length, by simp⟩
    · rw [if_neg h0] at h
      simp at h
  | some j =>
    rw [ht] at h
    simp only at h ⊢
    by_cases h0 : (parseR (s.drop (j + 1))).1 = 0 ∧ breaksB (s.take j) = 0
    · rw [if_pos h0]
      refine ⟨h0.2, parseR_len4 _, ?_⟩
      simp only [if_true]
      rw [parseR_ok h0.1]
      exact (tilde_some s j ht).symm
    · rw [if_neg h0] at h
      simp at h
theorem split_none {s : List UInt8} (h : (splitR s).2.2.2 ≠ 0) : breaksB s ≠ 0 := by
  unfold splitR at h
  cases ht : tilde s with
  | none =>
    rw [ht] at h
    simp only at h
    intro h0
    rw [if_pos h0] at h
    exact h rfl
  | some j => exact tilde_breaks (tilde_mem ht)
end Go.Proofs.YtldgnkngjdgiaaaDoor
