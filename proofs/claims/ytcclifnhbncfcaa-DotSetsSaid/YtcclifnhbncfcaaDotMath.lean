/- Dots in plain lists: decimal texts, and what a text's dot is. -/
import Derived.Lib.AtoiAll
import Derived.Lib.ItoaMem
import Derived.Lib.IndexMore
namespace Go.Proofs.Ytcclifnhbncfcaa
open Go.Lib

theorem snoc_ind {P : List UInt8 → Prop} (nil : P []) (snoc : ∀ l c, P l → P (l ++ [c])) (l : List UInt8) : P l := by
  have h : ∀ r : List UInt8, P r.reverse := fun r => by
    induction r with
    | nil => exact nil
    | cons x r ih => rw [List.reverse_cons]; exact snoc _ _ ih
  simpa using h l.reverse
/-- May a dot be? -/
def DotOk (s c : Int) : Prop := 0 ≤ s ∧ s ≤ 15 ∧ 1 ≤ c ∧ c ≤ 4294967295
instance (s c : Int) : Decidable (DotOk s c) := by unfold DotOk; infer_instance
def checkD (s c : Int) : Int := if DotOk s c then 0 else 50
theorem checkD_ok {s c : Int} (h : DotOk s c) : checkD s c = 0 := if_pos h
theorem checkD_no {s c : Int} (h : ¬ DotOk s c) : checkD s c = 50 := if_neg h
def cmpI (a b : Int) : Int := if a < b then -1 else if a = b then 0 else 1
def cmpD (s c s' c' : Int) : Int := if cmpI s s' = 0 then cmpI c c' else cmpI s s'
def textD (s c : Int) : List UInt8 := if DotOk s c then itoa s ++ 46 :: itoa c else []

theorem ofNat_val (u : Nat) (h : u < 10) : (UInt8.ofNat (48 + u)).toNat = 48 + u := by
  simp [UInt8.toNat_ofNat']; omega
theorem dec_step {u : Nat} (h : ¬ u < 10) : decDigits u = decDigits (u / 10) ++ [UInt8.ofNat (48 + u % 10)] := by rw [decDigits, dif_neg h]
theorem dec_digit (u : Nat) : ∀ c ∈ decDigits u, 48 ≤ c.toNat ∧ c.toNat ≤ 57 := by
  induction u using Nat.strongRecOn with
  | ind u ih =>
    intro c hc
    by_cases h : u < 10
    · rw [decDigits_one h] at hc
      simp only [List.mem_singleton] at hc
      subst hc
      rw [ofNat_val u h]; omega
    · rw [dec_step h] at hc
      rcases List.mem_append.1 hc with h1 | h1
      · exact ih _ (by omega) c h1
      · simp only [List.mem_singleton] at h1
        subst h1
        rw [ofNat_val _ (by omega)]; omega
theorem dec_ne (u : Nat) : decDigits u ≠ [] := by
  by_cases h : u < 10
  · rw [decDigits_one h]; simp
  · rw [dec_step h]; simp
/-- The number of digits, one by one. -/
def valD (l : List UInt8) : Nat := l.foldl (fun n c => 10 * n + (c.toNat - 48)) 0
theorem valD_snoc (l : List UInt8) (c : UInt8) : valD (l ++ [c]) = 10 * valD l + (c.toNat - 48) := by simp [valD]
theorem valD_dec (u : Nat) : valD (decDigits u) = u := by
  induction u using Nat.strongRecOn with
  | ind u ih =>
    by_cases h : u < 10
    · rw [decDigits_one h]; simp only [valD, List.foldl_cons, List.foldl_nil]; rw [ofNat_val u h]; omega
    · rw [dec_step h, valD_snoc, ih _ (by omega), ofNat_val _ (by omega)]; omega
theorem dec_len (u : Nat) : ∀ k, u < 10 ^ k → 1 ≤ k → (decDigits u).length ≤ k := by
  induction u using Nat.strongRecOn with
  | ind u ih =>
    intro k hk h1
    by_cases h : u < 10
    · rw [decDigits_one h]; simpa using h1
    · rw [dec_step h]
      obtain ⟨j, rfl⟩ : ∃ j, k = j + 1 := ⟨k - 1, by omega⟩
      have h2 : 1 ≤ j := by
        rcases Nat.eq_zero_or_pos j with rfl | h'
        · simp at hk; omega
        · exact h'
      have := ih (u / 10) (by omega) j (by rw [Nat.pow_succ] at hk; omega) h2
      simp; omega
theorem valD_lt (l : List UInt8) (h : ∀ c ∈ l, 48 ≤ c.toNat ∧ c.toNat ≤ 57) : valD l < 10 ^ l.length := by
  induction l using snoc_ind with
  | nil => simp [valD]
  | snoc l c ih =>
    rw [valD_snoc]
    have h1 := ih (fun x hx => h x (by simp [hx]))
    have h2 := h c (by simp)
    simp only [List.length_append, List.length_cons, List.length_nil, Nat.pow_succ, Nat.zero_add]
    omega
/-- The first digit is no 0, unless it is alone. -/
def NoFront (l : List UInt8) : Prop := l.head? = some 48 → l.length = 1
theorem valD_pos (l : List UInt8) (h : ∀ c ∈ l, 48 ≤ c.toNat ∧ c.toNat ≤ 57) (h0 : l ≠ []) (hf : l.head? ≠ some 48) : 0 < valD l := by
  induction l using snoc_ind with
  | nil => exact absurd rfl h0
  | snoc l c ih =>
    rw [valD_snoc]
    by_cases hl : l = []
    · subst hl
      have h2 := h c (by simp)
      have : c.toNat ≠ 48 := fun e => hf (by
        simp only [List.nil_append, List.head?_cons, Option.some.injEq]
        exact UInt8.toNat_inj.1 (by simpa using e))
      simp [valD]; omega
    · have := ih (fun x hx => h x (by simp [hx])) hl (by
        cases l with
        | nil => exact absurd rfl hl
        | cons x l => simpa using hf)
      omega
theorem dec_val (l : List UInt8) (h : ∀ c ∈ l, 48 ≤ c.toNat ∧ c.toNat ≤ 57) (h0 : l ≠ []) (hf : NoFront l) : decDigits (valD l) = l := by
  induction l using snoc_ind with
  | nil => exact absurd rfl h0
  | snoc l c ih =>
    have h2 := h c (by simp)
    have hc : UInt8.ofNat (48 + (c.toNat - 48)) = c := by
      rw [show 48 + (c.toNat - 48) = c.toNat by omega]; exact UInt8.ofNat_toNat
    by_cases hl : l = []
    · subst hl
      simp only [List.nil_append, valD, List.foldl_cons, List.foldl_nil, Nat.mul_zero, Nat.zero_add]
      rw [decDigits_one (by omega), hc]
    · have hf' : l.head? ≠ some 48 := fun e => by
        have : (l ++ [c]).length = 1 := hf (by cases l with | nil => exact absurd rfl hl | cons x l => simpa using e)
        cases l with
        | nil => exact hl rfl
        | cons x l => simp at this
      have hp := valD_pos l (fun x hx => h x (by simp [hx])) hl hf'
      have := ih (fun x hx => h x (by simp [hx])) hl (fun e => absurd e hf')
      rw [valD_snoc, dec_step (by omega), show (10 * valD l + (c.toNat - 48)) / 10 = valD l by omega, this, show (10 * valD l + (c.toNat - 48)) % 10 = c.toNat - 48 by omega, hc]
theorem dec_front (u : Nat) : NoFront (decDigits u) := by
  induction u using Nat.strongRecOn with
  | ind u ih =>
    intro e
    by_cases h : u < 10
    · rw [decDigits_one h]; rfl
    · exfalso
      rw [dec_step h] at e
      have e' : (decDigits (u / 10)).head? = some 48 := by
        cases hd : decDigits (u / 10) with
        | nil => exact absurd hd (dec_ne _)
        | cons x l => rw [hd] at e; simpa using e
      have h1 := ih (u / 10) (by omega) e'
      have h2 := valD_dec (u / 10)
      cases hd : decDigits (u / 10) with
      | nil => exact absurd hd (dec_ne _)
      | cons x l =>
        rw [hd] at h1 h2 e'
        simp at h1 e'
        subst h1; subst e'
        simp [valD] at h2
        omega

/-- The reference's number. -/
def numR (s : List UInt8) : Int := if s.length < 1 ∨ 10 < s.length ∨ (s.head? = some 48 ∧ 1 < s.length) then -1 else if s.all (fun c => 48 ≤ c.toNat && c.toNat ≤ 57) then (valD s : Int) else -1
theorem numR_dec {v : Nat} (h : v < 10000000000) : numR (decDigits v) = v := by
  have h1 := dec_ne v
  have h2 := dec_len v 10 (by simpa using h) (by omega)
  have h3 := dec_front v
  have h4 : 0 < (decDigits v).length := List.length_pos_iff.2 h1
  unfold numR
  rw [if_neg, if_pos, valD_dec]
  · rw [List.all_eq_true]; intro c hc; have := dec_digit v c hc; simp; omega
  · rintro (h | h | ⟨h, h'⟩)
    · omega
    · omega
    · have := h3 h; omega
theorem numR_inv {s : List UInt8} {v : Int} (h : numR s = v) (h0 : 0 ≤ v) : s = itoa v := by
  unfold numR at h
  split at h
  · omega
  next hn =>
  split at h
  next ha =>
    rw [List.all_eq_true] at ha
    subst h
    rw [itoa_nonneg]
    exact (dec_val s (fun c hc => by have := ha c hc; simp at this; omega) (fun e => hn (Or.inl (by simp [e]))) (fun e => by
      rcases Nat.lt_or_ge 1 s.length with h' | h'
      · exact absurd (Or.inr (Or.inr ⟨e, h'⟩)) hn
      · omega)).symm
  · omega
theorem numR_itoa {v : Int} (h0 : 0 ≤ v) (h : v < 10000000000) : numR (itoa v) = v := by
  obtain ⟨n, rfl⟩ : ∃ n : Nat, v = n := ⟨v.toNat, by omega⟩
  rw [itoa_nonneg]
  exact numR_dec (by omega)
theorem itoa_no46 {v : Int} (h0 : 0 ≤ v) : ¬ (46 : UInt8) ∈ itoa v := by
  obtain ⟨n, rfl⟩ : ∃ n : Nat, v = n := ⟨v.toNat, by omega⟩
  rw [itoa_nonneg]
  intro hm
  have := dec_digit n _ hm
  simp at this

theorem parseUint_dec : ∀ (l : List UInt8) (acc : Nat), (∀ c ∈ l, 48 ≤ c.toNat ∧ c.toNat ≤ 57) → (l.foldl (fun n c => 10 * n + (c.toNat - 48)) acc) < 10000000000 → parseUint10 acc l = .ok (l.foldl (fun n c => 10 * n + (c.toNat - 48)) acc)
  | [], acc, _, _ => rfl
  | c :: r, acc, hd, hl => by
    have hc := hd c (by simp)
    have hm : ∀ (l : List UInt8) (a : Nat), a ≤ l.foldl (fun n c => 10 * n + (c.toNat - 48)) a := fun l => by
      induction l with
      | nil => intro a; exact Nat.le_refl _
      | cons x l ih => intro a; simp only [List.foldl_cons]; exact Nat.le_trans (by omega) (ih _)
    have h1 := hm r (10 * acc + (c.toNat - 48))
    simp only [List.foldl_cons] at hl ⊢
    rw [parseUint10, if_pos hc, if_neg (by omega), if_neg (by omega), Nat.mul_comm acc 10]
    exact parseUint_dec r _ (fun x hx => hd x (by simp [hx])) hl
theorem atoi_itoa {v : Int} (h0 : 0 ≤ v) (h : v < 10000000000) : atoiAll (itoa v) = .ok v := by
  obtain ⟨n, rfl⟩ : ∃ n : Nat, v = n := ⟨v.toNat, by omega⟩
  rw [itoa_nonneg]
  have hd := dec_digit n
  have hv := valD_dec n
  have hp := parseUint_dec (decDigits n) 0 hd (by rw [show (decDigits n).foldl _ 0 = n from hv]; omega)
  rw [show (decDigits n).foldl _ 0 = n from hv] at hp
  cases hl : decDigits n with
  | nil => exact absurd hl (dec_ne n)
  | cons c r =>
    rw [hl] at hp hd
    have hc := hd c (by simp)
    unfold atoiAll
    simp only
    rw [if_neg (by omega)]
    unfold parseMag
    rw [if_neg (by simp), hp]
    simp only
    rw [if_neg (by omega), if_neg (by omega), if_neg (by omega)]
theorem atoi_nil : atoiAll [] = NumEnd.syntax := rfl
end Go.Proofs.Ytcclifnhbncfcaa
