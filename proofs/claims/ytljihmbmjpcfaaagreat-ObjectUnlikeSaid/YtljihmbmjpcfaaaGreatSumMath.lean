/- CRC-32 as a register that goes on over numbers: plain mathematics, no program. -/
namespace Go.Proofs.YtljihmbmjpcfaaaGreat

/-- The register over one nought. -/
def step (n : Nat) : Nat := if n % 2 = 1 then n / 2 ^^^ 3988292384 else n / 2
/-- Over k noughts. -/
def stepN : Nat → Nat → Nat
  | 0, n => n
  | k + 1, n => stepN k (step n)
/-- Over bytes. -/
def byteOn (n : Nat) (c : UInt8) : Nat := stepN 8 (n ^^^ c.toNat)
def over (n : Nat) (bs : List UInt8) : Nat := bs.foldl byteOn n
theorem over_nil (n : Nat) : over n [] = n := rfl
theorem over_cons (n : Nat) (c : UInt8) (cs : List UInt8) : over n (c :: cs) = over (byteOn n c) cs := rfl
/-- Each bit turned. -/
def inv (n : Nat) : Nat := 4294967295 - n
/-- A sum that goes on. -/
def crcOn (s : Nat) (bs : List UInt8) : Nat := inv (over (inv s) bs)
/-- The sum of bytes. -/
def crc (bs : List UInt8) : Nat := crcOn 0 bs
/-- Bytes as a number, the lowest first. -/
def le : List UInt8 → Nat
  | [] => 0
  | c :: cs => c.toNat + 256 * le cs

theorem xor_mod2 (a b : Nat) : (a ^^^ b) % 2 = (a + b) % 2 := by
  have h := Nat.testBit_xor a b 0
  rw [Nat.testBit_zero, Nat.testBit_zero, Nat.testBit_zero] at h
  generalize a ^^^ b = x at h ⊢
  by_cases ha : a % 2 = 1 <;> by_cases hb : b % 2 = 1 <;> by_cases hx : x % 2 = 1 <;> simp only [ha, hb, hx, decide_true, decide_false, Bool.xor_self, Bool.xor_false, Bool.xor_true, Bool.not_false, reduceCtorEq] at h <;> omega
theorem xor_swap (a b c d : Nat) : (a ^^^ b) ^^^ (c ^^^ d) = (a ^^^ c) ^^^ (b ^^^ d) := by
  apply Nat.eq_of_testBit_eq
  intro i
  simp only [Nat.testBit_xor]
  cases a.testBit i <;> cases b.testBit i <;> cases c.testBit i <;> cases d.testBit i <;> rfl
theorem step_xor (a b : Nat) : step (a ^^^ b) = step a ^^^ step b := by
  have h := xor_mod2 a b
  have hd : (a ^^^ b) / 2 = a / 2 ^^^ b / 2 := Nat.xor_div_two
  unfold step
  rw [hd]
  by_cases ha : a % 2 = 1 <;> by_cases hb : b % 2 = 1
  · rw [if_neg (by omega), if_pos ha, if_pos hb, xor_swap, Nat.xor_self, Nat.xor_zero]
  · rw [if_pos (by omega), if_pos ha, if_neg hb, Nat.xor_assoc, Nat.xor_assoc, Nat.xor_comm (b / 2)]
  · rw [if_pos (by omega), if_neg ha, if_pos hb, Nat.xor_assoc]
  · rw [if_neg (by omega), if_neg ha, if_neg hb]
theorem stepN_xor (k : Nat) : ∀ a b, stepN k (a ^^^ b) = stepN k a ^^^ stepN k b := by
  induction k with
  | zero => intro a b; rfl
  | succ k ih => intro a b; simp only [stepN, step_xor, ih]
theorem step_double (n : Nat) : step (2 * n) = n := by
  unfold step
  rw [if_neg (by omega)]
  omega
theorem stepN_shift (k : Nat) : ∀ n, stepN k (2 ^ k * n) = n := by
  induction k with
  | zero => intro n; simp [stepN]
  | succ k ih =>
    intro n
    have : 2 ^ (k + 1) * n = 2 * (2 ^ k * n) := by rw [Nat.pow_succ, Nat.mul_comm (2 ^ k), Nat.mul_assoc]
    rw [this, stepN, step_double, ih]
theorem stepN_add (j : Nat) : ∀ k n, stepN (j + k) n = stepN k (stepN j n) := by
  induction j with
  | zero => intro k n; rw [Nat.zero_add]; rfl
  | succ j ih =>
    intro k n
    have : j + 1 + k = (j + k) + 1 := by omega
    rw [this, stepN, ih, stepN]
theorem sum_step_lt {n : Nat} (h : n < 4294967296) : step n < 4294967296 := by
  unfold step
  split
  · exact Nat.xor_lt_two_pow (n := 32) (by omega) (by omega)
  · omega
theorem stepN_lt (k : Nat) : ∀ n, n < 4294967296 → stepN k n < 4294967296 := by
  induction k with
  | zero => intro n h; exact h
  | succ k ih => intro n h; exact ih _ (sum_step_lt h)
theorem step_ne {n : Nat} (h : n < 4294967296) (h0 : n ≠ 0) : step n ≠ 0 := by
  unfold step
  split
  · intro e
    have h1 : (n / 2 ^^^ 3988292384).testBit 31 = false := by rw [e]; simp
    rw [Nat.testBit_xor, Nat.testBit_lt_two_pow (by omega)] at h1
    revert h1
    decide
  · omega
theorem stepN_ne (k : Nat) : ∀ n, n < 4294967296 → n ≠ 0 → stepN k n ≠ 0 := by
  induction k with
  | zero => intro n _ h; exact h
  | succ k ih => intro n h h0; exact ih _ (sum_step_lt h) (step_ne h h0)
theorem stepN_zero (k : Nat) : stepN k 0 = 0 := by
  have := stepN_xor k 0 0
  simpa using this
/-- A run of 32 bits, one at least, wherever it stands, is never lost. -/
theorem stepN_run {B k : Nat} (m : Nat) (hB : B < 4294967296) (h0 : B ≠ 0) : stepN m (2 ^ k * B) ≠ 0 := by
  by_cases h : k ≤ m
  · obtain ⟨j, rfl⟩ := Nat.exists_eq_add_of_le h
    rw [stepN_add, stepN_shift]
    exact stepN_ne j B hB h0
  · obtain ⟨j, rfl⟩ := Nat.exists_eq_add_of_le (by omega : m ≤ k)
    rw [Nat.pow_add, Nat.mul_assoc, stepN_shift]
    exact Nat.mul_ne_zero (by have := Nat.two_pow_pos j; omega) h0
theorem xor_zero {a b : Nat} (h : a ^^^ b = 0) : a = b := by
  have h1 := congrArg (fun x => x ^^^ b) h
  simpa [Nat.xor_assoc] using h1
theorem stepN_inj {k a b : Nat} (ha : a < 4294967296) (hb : b < 4294967296) (h : stepN k a = stepN k b) : a = b := by
  by_cases e : a ^^^ b = 0
  · exact xor_zero e
  · have h1 := stepN_ne k _ (Nat.xor_lt_two_pow (n := 32) ha hb) e
    rw [stepN_xor, h, Nat.xor_self] at h1
    exact absurd rfl h1

theorem add_mul_xor {c k : Nat} (h : c < 256) : c + 256 * k = c ^^^ 256 * k := by
  have h1 := Nat.two_pow_add_eq_or_of_lt (i := 8) (b := c) (by simpa using h) k
  have h2 : c ^^^ 256 * k = 256 * k ||| c := by
    apply Nat.eq_of_testBit_eq
    intro i
    have h3 : (256 * k) = 2 ^ 8 * k := rfl
    rw [Nat.testBit_xor, Nat.testBit_or, h3, Nat.testBit_two_pow_mul]
    by_cases hi : 8 ≤ i
    · rw [Nat.testBit_lt_two_pow (x := c) (Nat.lt_of_lt_of_le h (by simpa using Nat.pow_le_pow_right (n := 2) (by omega) hi))]
      simp
    · simp [hi]
  rw [h2, ← h1, Nat.add_comm]
theorem toNat_lt8 (c : UInt8) : c.toNat < 256 := c.toNat_lt
/-- Over bytes: over as many noughts, their number laid over the register. -/
theorem over_eq (bs : List UInt8) : ∀ n, over n bs = stepN (8 * bs.length) (n ^^^ le bs) := by
  induction bs with
  | nil => intro n; simp [over_nil, le, stepN]
  | cons c cs ih =>
    intro n
    rw [over_cons, ih, byteOn, le, add_mul_xor (toNat_lt8 c), ← Nat.xor_assoc]
    have : 8 * (c :: cs).length = 8 + 8 * cs.length := by simp; omega
    rw [this, stepN_add, stepN_xor 8 (n ^^^ c.toNat)]
    have h8 : stepN 8 (256 * le cs) = le cs := stepN_shift 8 (le cs)
    rw [h8]
theorem over_append (a b : List UInt8) : ∀ n, over n (a ++ b) = over (over n a) b := by
  induction a with
  | nil => intro n; rfl
  | cons c cs ih => intro n; exact ih _
theorem over_lt (bs : List UInt8) : ∀ n, n < 4294967296 → over n bs < 4294967296 := by
  induction bs with
  | nil => intro n h; exact h
  | cons c cs ih => intro n h; exact ih _ (stepN_lt 8 _ (Nat.xor_lt_two_pow (n := 32) h (by have := toNat_lt8 c; omega)))
theorem inv_lt (n : Nat) : inv n < 4294967296 := by unfold inv; omega
theorem inv_inv {n : Nat} (h : n < 4294967296) : inv (inv n) = n := by unfold inv; omega
theorem inv_xor {n : Nat} (h : n < 4294967296) : inv n = n ^^^ 4294967295 := by
  unfold inv
  apply Nat.eq_of_testBit_eq
  intro i
  have h1 : 4294967295 - n = 2 ^ 32 - (n + 1) := by omega
  have h2 : (4294967295 : Nat) = 2 ^ 32 - 1 := by omega
  rw [h1, Nat.testBit_two_pow_sub_succ h, Nat.testBit_xor, h2, Nat.testBit_two_pow_sub_one]
  by_cases hi : i < 32
  · simp [hi]
  · rw [Nat.testBit_lt_two_pow (x := n) (Nat.lt_of_lt_of_le h (by simpa using Nat.pow_le_pow_right (n := 2) (by omega) (by omega : 32 ≤ i)))]
    simp [hi]
theorem crcOn_lt (s : Nat) (bs : List UInt8) : crcOn s bs < 4294967296 := inv_lt _
theorem crc_lt (bs : List UInt8) : crc bs < 4294967296 := inv_lt _
/-- A sum goes on part by part. -/
theorem crcOn_append (s : Nat) (a b : List UInt8) : crcOn s (a ++ b) = crcOn (crcOn s a) b := by
  unfold crcOn
  rw [inv_inv (over_lt a _ (inv_lt s)), over_append]
theorem crcOn_nil {s : Nat} (h : s < 4294967296) : crcOn s [] = s := inv_inv h
theorem le_lt (bs : List UInt8) : le bs < 2 ^ (8 * bs.length) := by
  induction bs with
  | nil => simp [le]
  | cons c cs ih =>
    have : 8 * (c :: cs).length = 8 * cs.length + 8 := by simp; omega
    rw [this, Nat.pow_add, le]
    have := toNat_lt8 c
    omega
theorem le_append (a b : List UInt8) : le (a ++ b) = le a + 2 ^ (8 * a.length) * le b := by
  induction a with
  | nil => simp [le]
  | cons c cs ih =>
    have : 8 * (c :: cs).length = 8 + 8 * cs.length := by simp; omega
    rw [List.cons_append, le, ih, le, this, Nat.pow_add, Nat.mul_add, Nat.mul_assoc]
    omega
theorem le_inj : ∀ (a b : List UInt8), a.length = b.length → le a = le b → a = b := by
  intro a
  induction a with
  | nil => intro b h _; simp at h; exact (List.eq_nil_of_length_eq_zero h.symm).symm
  | cons c cs ih =>
    intro b h he
    cases b with
    | nil => simp at h
    | cons d ds =>
      have h1 := toNat_lt8 c
      have h2 := toNat_lt8 d
      simp only [le] at he
      have h3 : c = d := UInt8.toNat_inj.1 (by omega)
      rw [h3, ih ds (by simpa using h) (by omega)]

/-- A number's four bytes, the lowest first. -/
def four (n : Nat) : List UInt8 := [UInt8.ofNat n, UInt8.ofNat (n / 256), UInt8.ofNat (n / 65536), UInt8.ofNat (n / 16777216)]
theorem four_length (n : Nat) : (four n).length = 4 := rfl
theorem le_four {n : Nat} (h : n < 4294967296) : le (four n) = n := by
  simp only [four, le, UInt8.toNat_ofNat']
  omega
theorem four_le (a b c d : UInt8) : four (le [a, b, c, d]) = [a, b, c, d] := by
  refine le_inj _ _ rfl ?_
  have h := le_lt [a, b, c, d]
  rw [le_four (by simpa using h)]
/-- Wrapped bytes. -/
def wrapB (bs : List UInt8) : List UInt8 := four bs.length ++ bs ++ four (crc (four bs.length ++ bs))
theorem wrapB_length (bs : List UInt8) : (wrapB bs).length = bs.length + 8 := by simp [wrapB, four_length]; omega
/-- What is in the wrapped bytes with which xs begins, and what is behind them. -/
def splitR (xs : List UInt8) : Option (List UInt8 × List UInt8) :=
  if xs.length < 8 then none
  else if 4194304 < le (xs.take 4) ∨ xs.length < le (xs.take 4) + 8 then none
  else if le ((xs.drop (4 + le (xs.take 4))).take 4) ≠ crc (xs.take (4 + le (xs.take 4))) then none
  else some ((xs.drop 4).take (le (xs.take 4)), xs.drop (8 + le (xs.take 4)))

theorem splitR_wrap {bs : List UInt8} (h : bs.length ≤ 4194304) (more : List UInt8) : splitR (wrapB bs ++ more) = some (bs, more) := by
  have hl : (wrapB bs ++ more).length = bs.length + 8 + more.length := by simp [wrapB_length]
  have h4 : le ((wrapB bs ++ more).take 4) = bs.length := by
    have : (wrapB bs ++ more).take 4 = four bs.length := by
      unfold wrapB
      rw [List.append_assoc, List.append_assoc, List.take_append_of_le_length (by simp [four_length])]
      simp [four]
    rw [this, le_four (by omega)]
  have ht : (wrapB bs ++ more).take (4 + bs.length) = four bs.length ++ bs := by
    unfold wrapB
    rw [List.append_assoc]
    exact List.take_left' (by simp [four_length])
  have hd : (wrapB bs ++ more).drop (4 + bs.length) = four (crc (four bs.length ++ bs)) ++ more := by
    unfold wrapB
    rw [List.append_assoc]
    exact List.drop_left' (by simp [four_length])
  unfold splitR
  rw [h4, hl, if_neg (by omega), if_neg (by omega), ht, hd, if_neg]
  · have h8 : (wrapB bs ++ more).drop (8 + bs.length) = more := List.drop_left' (by rw [wrapB_length]; omega)
    have h5 : ((wrapB bs ++ more).drop 4).take bs.length = bs := by
      unfold wrapB
      rw [List.append_assoc, List.append_assoc, List.drop_left' (four_length _)]
      exact List.take_left' rfl
    rw [h8, h5]
  · have : (four (crc (four bs.length ++ bs)) ++ more).take 4 = four (crc (four bs.length ++ bs)) := List.take_left' (four_length _)
    rw [this, le_four (crc_lt _)]
    simp
theorem len4 {xs : List UInt8} (h : xs.length = 4) : ∃ a b c d, xs = [a, b, c, d] := by
  match xs, h with
  | [a, b, c, d], _ => exact ⟨a, b, c, d, rfl⟩
/-- What is found was wrapped. -/
theorem splitR_some {xs a b : List UInt8} (h : splitR xs = some (a, b)) : xs = wrapB a ++ b ∧ a.length ≤ 4194304 := by
  unfold splitR at h
  split at h
  · cases h
  · split at h
    · cases h
    · split at h
      · cases h
      · rename_i h1 h2 h3
        simp only [not_or, Nat.not_lt] at h2
        simp only [ne_eq, Decidable.not_not] at h3
        have e := Option.some.inj h
        injection e with e1 e2
        generalize hn : le (xs.take 4) = n at *
        have ha : a.length = n := by rw [← e1]; simp; omega
        have h4 : xs.take 4 = four n := by
          obtain ⟨p, q, r, s, hp⟩ := len4 (xs := xs.take 4) (by simp; omega)
          rw [← hn, hp, four_le]
        have ht : xs.take (4 + n) = four n ++ a := by
          rw [List.take_add, h4, e1]
        have hs : (xs.drop (4 + n)).take 4 = four (crc (four n ++ a)) := by
          obtain ⟨p, q, r, s, hp⟩ := len4 (xs := (xs.drop (4 + n)).take 4) (by simp; omega)
          rw [hp, ← four_le p q r s, ← hp, h3, ht]
        refine ⟨?_, by omega⟩
        have hx := (List.take_append_drop (4 + n) xs).symm
        have hy := (List.take_append_drop 4 (xs.drop (4 + n))).symm
        rw [hs, List.drop_drop, show 4 + n + 4 = 8 + n by omega, e2] at hy
        rw [hx, hy, ht]
        unfold wrapB
        rw [ha]
        simp
/-- What is told of it: the error, what is in it. -/
def unwrapR (xs : List UInt8) : Int × List UInt8 :=
  match splitR xs with
  | some (a, []) => (0, a)
  | _ => (20, [])
theorem unwrapR_cases (xs : List UInt8) : (∃ a, splitR xs = some (a, []) ∧ unwrapR xs = (0, a)) ∨ ((∀ a, splitR xs ≠ some (a, [])) ∧ unwrapR xs = (20, [])) := by
  unfold unwrapR
  rcases h : splitR xs with _ | ⟨a, b⟩
  · exact .inr ⟨by simp, rfl⟩
  · cases b with
    | nil => exact .inl ⟨a, rfl, rfl⟩
    | cons x b => exact .inr ⟨by simp, rfl⟩
theorem unwrapR_wrap {bs : List UInt8} (h : bs.length ≤ 4194304) : unwrapR (wrapB bs) = (0, bs) := by
  have := splitR_wrap h []
  rw [List.append_nil] at this
  simp [unwrapR, this]
/-- The residue of wrapped bytes. -/
theorem over_wrapB (bs : List UInt8) : over 4294967295 (wrapB bs) = stepN 32 4294967295 := by
  unfold wrapB
  rw [over_append, over_eq (four _), le_four (crc_lt _), four_length]
  unfold crc crcOn
  have h0 : inv 0 = 4294967295 := rfl
  rw [h0, inv_xor (over_lt _ _ (by omega)), ← Nat.xor_assoc, Nat.xor_self, Nat.zero_xor]
/-- Wrapped bytes with a run of bits turned are wrapped no more. -/
theorem run_found {bs cs : List UInt8} (hl : (wrapB bs).length = (wrapB cs).length) {B k : Nat} (hB : B < 4294967296) (h : le (wrapB cs) = le (wrapB bs) ^^^ 2 ^ k * B) : B = 0 := by
  by_cases h0 : B = 0
  · exact h0
  · have h1 := over_wrapB bs
    have h2 := over_wrapB cs
    rw [over_eq] at h1 h2
    rw [h, ← hl, ← Nat.xor_assoc, stepN_xor, h1] at h2
    have h3 := stepN_run (k := k) (8 * (wrapB bs).length) hB h0
    refine absurd ?_ h3
    have h4 := congrArg (fun x => stepN 32 4294967295 ^^^ x) h2
    simp only [← Nat.xor_assoc, Nat.xor_self, Nat.zero_xor] at h4
    exact h4
/-- Cut, they are none. -/
theorem cut_none2 {bs : List UInt8} (h : bs.length ≤ 4194304) {k : Nat} (hk : k < (wrapB bs).length) : splitR ((wrapB bs).take k) = none := by
  rcases he : splitR ((wrapB bs).take k) with _ | ⟨a, b⟩
  · rfl
  · obtain ⟨h1, h2⟩ := splitR_some he
    have h3 : wrapB bs = wrapB a ++ (b ++ (wrapB bs).drop k) := by rw [← List.append_assoc, ← h1, List.take_append_drop]
    have h4 := splitR_wrap h []
    rw [List.append_nil, h3, splitR_wrap h2] at h4
    injection h4 with h5
    injection h5 with h6 h7
    have := congrArg List.length h7
    simp at this
    omega

theorem pow_mul_xor (i a b : Nat) : 2 ^ i * (a ^^^ b) = 2 ^ i * a ^^^ 2 ^ i * b := by
  apply Nat.eq_of_testBit_eq
  intro j
  simp only [Nat.testBit_two_pow_mul, Nat.testBit_xor]
  by_cases h : i ≤ j <;> simp [h]
/-- One byte laid over. -/
theorem le_set : ∀ (ts : List UInt8) (q : Nat) (hq : q < ts.length) (y : UInt8) (m : Nat), m < 256 → y.toNat = ts[q].toNat ^^^ m → le (ts.set q y) = le ts ^^^ 256 ^ q * m := by
  intro ts
  induction ts with
  | nil => intro q hq; simp at hq
  | cons c cs ih =>
    intro q hq y m hm hy
    cases q with
    | zero =>
      simp only [List.getElem_cons_zero] at hy
      simp only [List.set_cons_zero, le, Nat.pow_zero, Nat.one_mul]
      rw [add_mul_xor (toNat_lt8 y), add_mul_xor (toNat_lt8 c), hy, Nat.xor_assoc, Nat.xor_assoc, Nat.xor_comm m]
    | succ q =>
      simp only [List.getElem_cons_succ] at hy
      simp only [List.set_cons_succ, le]
      rw [add_mul_xor (toNat_lt8 c), add_mul_xor (toNat_lt8 c), ih q (by simpa using hq) y m hm hy]
      have h := pow_mul_xor 8 (le cs) (256 ^ q * m)
      rw [show (2 : Nat) ^ 8 = 256 from rfl] at h
      rw [h, Nat.xor_assoc, Nat.pow_succ, ← Nat.mul_assoc, Nat.mul_comm (256 ^ q) 256]
theorem pow_bits (k : Nat) : 256 ^ (k / 8) * 2 ^ (k % 8) = 2 ^ k := by
  have : (256 : Nat) = 2 ^ 8 := rfl
  rw [this, ← Nat.pow_mul, ← Nat.pow_add]
  congr 1
  omega
/-- A bit turned. -/
theorem le_flip (ts : List UInt8) (k : Nat) (hk : k / 8 < ts.length) (y : UInt8) (hy : y.toNat = ts[k / 8].toNat ^^^ 2 ^ (k % 8)) : le (ts.set (k / 8) y) = le ts ^^^ 2 ^ k := by
  rw [le_set ts (k / 8) hk y (2 ^ (k % 8)) (by have := Nat.pow_lt_pow_right (a := 2) (by omega) (Nat.mod_lt k (by omega : 8 > 0)); simpa using this) hy, pow_bits]
theorem add_pow_xor {x i : Nat} (h : x < 2 ^ i) : x + 2 ^ i = x ^^^ 2 ^ i := by
  apply Nat.eq_of_testBit_eq
  intro j
  rw [Nat.testBit_xor, Nat.add_comm]
  by_cases hj : i = j
  · subst hj
    rw [Nat.testBit_two_pow_add_eq, Nat.testBit_two_pow_self, Nat.testBit_lt_two_pow h]
    rfl
  · rcases Nat.lt_or_gt_of_ne hj with h1 | h1
    · have h2 : (2 ^ i + x).testBit j = false := Nat.testBit_lt_two_pow (by
        have : 2 ^ (i + 1) ≤ 2 ^ j := Nat.pow_le_pow_right (by omega) h1
        rw [Nat.pow_succ] at this
        omega)
      have h3 : x.testBit j = false := Nat.testBit_lt_two_pow (Nat.lt_of_lt_of_le h (Nat.pow_le_pow_right (by omega) (by omega)))
      rw [h2, h3, Nat.testBit_two_pow_of_ne hj]
      rfl
    · rw [Nat.testBit_two_pow_add_gt h1, Nat.testBit_two_pow_of_ne hj]
      simp
/-- The bits that were turned so far: those within the bytes. -/
theorem flips_no {n m i : Nat} (h : ¬ (n / 2 ^ i % 2 = 1 ∧ i < m)) : n % 2 ^ min (i + 1) m = n % 2 ^ min i m := by
  by_cases hm : i < m
  · have h2 : n / 2 ^ i % 2 = 0 := by omega
    rw [Nat.min_eq_left (by omega), Nat.min_eq_left (by omega), Nat.mod_pow_succ, h2]
    simp
  · rw [Nat.min_eq_right (by omega), Nat.min_eq_right (by omega)]
theorem flips_yes {n m i f : Nat} (h : n / 2 ^ i % 2 = 1) (hm : i < m) : 2 ^ f * (n % 2 ^ min (i + 1) m) = 2 ^ f * (n % 2 ^ min i m) ^^^ 2 ^ (f + i) := by
  rw [Nat.min_eq_left (by omega), Nat.min_eq_left (by omega), Nat.mod_pow_succ, h, Nat.mul_one, add_pow_xor (Nat.mod_lt _ (Nat.two_pow_pos i)), pow_mul_xor, Nat.pow_add]
end Go.Proofs.YtljihmbmjpcfaaaGreat
