/- A number's bytes, seven bits a byte, as lists: plain mathematics, no program. CRC-32 as a register that goes on over numbers: plain mathematics, no program. SHA-256 over lists of numbers: plain mathematics, no program. The program's hash in plain lists: primes, the bits behind the point of their roots, what a hash that goes on keeps. -/
namespace Go.Proofs.YtljihmbmjpcfaaaGreat

/-- A number's bytes, with fuel. -/
def lebF : Nat → Nat → List UInt8
  | 0, n => [UInt8.ofNat n]
  | k + 1, n => if n < 128 then [UInt8.ofNat n] else UInt8.ofNat (n % 128 + 128) :: lebF k (n / 128)
/-- A number's bytes. -/
def lebB (n : Nat) : List UInt8 := lebF n n

theorem lebF_fuel : ∀ (k m n : Nat), n ≤ k → n ≤ m → lebF k n = lebF m n := by
  intro k
  induction k with
  | zero => intro m n h _; obtain rfl : n = 0 := by omega
            cases m <;> simp [lebF]
  | succ k ih =>
    intro m n h h'
    cases m with
    | zero => obtain rfl : n = 0 := by omega
              simp [lebF]
    | succ m =>
      simp only [lebF]
      split
      · rfl
      · rw [ih m (n / 128) (by omega) (by omega)]

theorem lebB_small {n : Nat} (h : n < 128) : lebB n = [UInt8.ofNat n] := by
  unfold lebB
  cases n <;> simp [lebF, h]
theorem lebB_great {n : Nat} (h : 128 ≤ n) : lebB n = UInt8.ofNat (n % 128 + 128) :: lebB (n / 128) := by
  unfold lebB
  cases n with
  | zero => omega
  | succ k => rw [lebF, if_neg (by omega), lebF_fuel k ((k + 1) / 128) _ (by omega) (by omega)]
theorem lebB_pos (n : Nat) : 0 < (lebB n).length := by
  by_cases h : n < 128
  · rw [lebB_small h]; simp
  · rw [lebB_great (by omega)]; simp
/-- Of a number below 128^k at most k bytes. -/
theorem lebB_le : ∀ (k n : Nat), n < 128 ^ (k + 1) → (lebB n).length ≤ k + 1 := by
  intro k
  induction k with
  | zero => intro n h; rw [lebB_small (by simpa using h)]; simp
  | succ k ih =>
    intro n h
    by_cases h1 : n < 128
    · rw [lebB_small h1]; simp
    · rw [lebB_great (by omega)]
      have := ih (n / 128) (by rw [Nat.div_lt_iff_lt_mul (by omega)]; rw [Nat.pow_succ] at h; exact h)
      simp; omega
theorem lebB_u64 {n : Nat} (h : n < 18446744073709551616) : (lebB n).length ≤ 10 := lebB_le 9 n (by omega)


/-- What stands at the front, read as a number: the error, the number, what is left behind the bytes that were looked at. -/
def scan (p n : Nat) : List UInt8 → Int × Nat × List UInt8
  | [] => (10, 0, [])
  | b :: bs => if (p = 9 ∧ 1 < b.toNat) ∨ (0 < p ∧ b.toNat = 0) then (11, 0, bs) else if b.toNat < 128 then (0, n + b.toNat * 128 ^ p, bs) else scan (p + 1) (n + b.toNat % 128 * 128 ^ p) bs

theorem pow_step {m p x : Nat} (hm : m < 128 ^ p) : m + x % 128 * 128 ^ p < 128 ^ (p + 1) := by
  have h1 : x % 128 < 128 := Nat.mod_lt _ (by omega)
  have h2 : (x % 128 + 1) * 128 ^ p ≤ 128 * 128 ^ p := Nat.mul_le_mul_right _ (by omega)
  rw [Nat.add_mul, Nat.one_mul] at h2
  rw [Nat.pow_succ, Nat.mul_comm (128 ^ p)]
  omega
theorem pow9 {p : Nat} (h : p ≤ 9) : 128 ^ p ≤ 9223372036854775808 := Nat.le_trans (Nat.pow_le_pow_right (by omega) h) (by decide)
theorem step_lt {m p x : Nat} (hm : m < 128 ^ p) (hp : p ≤ 9) (hx : p < 9 ∨ x ≤ 1) : m + x % 128 * 128 ^ p < 18446744073709551616 := by
  rcases hx with h | h
  · have h1 := pow_step (x := x) hm
    have h2 := pow9 (p := p + 1) (by omega)
    omega
  · have h1 := pow9 hp
    have h2 : x % 128 * 128 ^ p ≤ 1 * 128 ^ p := Nat.mul_le_mul_right _ (by omega)
    omega
theorem or_step {m p x : Nat} (hm : m < 128 ^ p) (hp : p ≤ 9) (hx : p < 9 ∨ x ≤ 1) : m ||| (x % 128 * 128 ^ p) % 18446744073709551616 = m + x % 128 * 128 ^ p := by
  have h0 := step_lt hm hp hx
  rw [Nat.mod_eq_of_lt (by omega)]
  have h128 : (128 : Nat) ^ p = 2 ^ (7 * p) := by rw [Nat.pow_mul]
  rw [h128] at hm ⊢
  have := Nat.two_pow_add_eq_or_of_lt hm (x % 128)
  rw [Nat.or_comm, Nat.mul_comm (x % 128), ← this]
  omega

theorem scan_form {p n : Nat} {b : UInt8} (bs : List UInt8) (h : (p = 9 ∧ 1 < b.toNat) ∨ (0 < p ∧ b.toNat = 0)) : scan p n (b :: bs) = (11, 0, bs) := by rw [scan, if_pos h]
theorem scan_last {p n : Nat} {b : UInt8} (bs : List UInt8) (h : ¬ ((p = 9 ∧ 1 < b.toNat) ∨ (0 < p ∧ b.toNat = 0))) (hb : b.toNat < 128) : scan p n (b :: bs) = (0, n + b.toNat * 128 ^ p, bs) := by rw [scan, if_neg h, if_pos hb]
theorem scan_more {p n : Nat} {b : UInt8} (bs : List UInt8) (h : ¬ ((p = 9 ∧ 1 < b.toNat) ∨ (0 < p ∧ b.toNat = 0))) (hb : ¬ b.toNat < 128) : scan p n (b :: bs) = scan (p + 1) (n + b.toNat % 128 * 128 ^ p) bs := by rw [scan, if_neg h, if_neg hb]

theorem scan_le : ∀ (xs : List UInt8) (p n : Nat), (scan p n xs).2.2.length ≤ xs.length
  | [], _, _ => by simp [scan]
  | b :: bs, p, n => by
    unfold scan
    split
    · simp
    · split
      · simp
      · have := scan_le bs (p + 1) (n + b.toNat % 128 * 128 ^ p); simp; omega

theorem toNat_small {n : Nat} (h : n < 256) : (UInt8.ofNat n).toNat = n := by rw [UInt8.toNat_ofNat', Nat.mod_eq_of_lt h]

/-- A number's bytes, with whatever is behind them, are read as the number. -/
theorem scan_lebB (rest : List UInt8) : ∀ (n k p m : Nat), k ≤ n → (p = 0 ∨ 0 < k) → k * 128 ^ p < 18446744073709551616 → scan p m (lebB k ++ rest) = (0, m + k * 128 ^ p, rest) := by
  intro n
  induction n with
  | zero =>
    intro k p m hk hp _
    obtain rfl : k = 0 := by omega
    obtain rfl : p = 0 := by omega
    simp [lebB, lebF, scan]
  | succ n ih =>
    intro k p m hk hp hb
    have h9 : p = 9 → k ≤ 1 := by rintro rfl; simp at hb; omega
    by_cases h : k < 128
    · rw [lebB_small h, List.singleton_append, scan_last rest (by rw [toNat_small (by omega)]; omega) (by rw [toNat_small (by omega)]; exact h), toNat_small (by omega)]
    · have h1 : (UInt8.ofNat (k % 128 + 128)).toNat = k % 128 + 128 := toNat_small (by omega)
      have h2 : k / 128 * 128 ^ (p + 1) + k % 128 * 128 ^ p = k * 128 ^ p := by
        rw [Nat.pow_succ, Nat.mul_comm (128 ^ p) 128, ← Nat.mul_assoc, ← Nat.add_mul]
        congr 1
        omega
      rw [lebB_great (by omega), List.cons_append, scan_more _ (by rw [h1]; omega) (by rw [h1]; omega), h1, ih (k / 128) (p + 1) _ (by omega) (by omega) (by omega)]
      have h3 : (k % 128 + 128) % 128 = k % 128 := by omega
      rw [h3, Nat.add_assoc, Nat.add_comm (k % 128 * 128 ^ p), h2]

/-- What is read as a number begins with its bytes. -/
theorem scan_inv : ∀ (xs : List UInt8) (p m n : Nat) (rest : List UInt8), p ≤ 9 → scan p m xs = (0, n, rest) → ∃ k, xs = lebB k ++ rest ∧ n = m + k * 128 ^ p ∧ (p = 0 ∨ 0 < k) ∧ k * 128 ^ p < 18446744073709551616 := by
  intro xs
  induction xs with
  | nil => intro p m n rest _ h; simp [scan] at h
  | cons b bs ih =>
    intro p m n rest hp h
    have hb := b.toNat_lt
    have h9 := pow9 hp
    by_cases hf : (p = 9 ∧ 1 < b.toNat) ∨ (0 < p ∧ b.toNat = 0)
    · rw [scan_form bs hf] at h; simp at h
    · by_cases hl : b.toNat < 128
      · rw [scan_last bs hf hl] at h
        simp only [Prod.mk.injEq, true_and] at h
        obtain ⟨rfl, rfl⟩ := h
        refine ⟨b.toNat, by rw [lebB_small hl]; simp, rfl, by omega, ?_⟩
        have := step_lt (m := 0) (p := p) (x := b.toNat) (Nat.pow_pos (by omega)) hp (by omega)
        rw [Nat.mod_eq_of_lt hl] at this
        omega
      · rw [scan_more bs hf hl] at h
        obtain ⟨k, rfl, rfl, hk, hlt⟩ := ih (p + 1) _ n rest (by omega) h
        have hk0 : 0 < k := by omega
        have e1 : (b.toNat % 128 + 128 * k) % 128 = b.toNat % 128 := by omega
        have e2 : (b.toNat % 128 + 128 * k) / 128 = k := by omega
        have e3 : k * 128 ^ (p + 1) + b.toNat % 128 * 128 ^ p = (b.toNat % 128 + 128 * k) * 128 ^ p := by
          rw [Nat.pow_succ, Nat.mul_comm (128 ^ p) 128, ← Nat.mul_assoc, ← Nat.add_mul]
          congr 1
          omega
        refine ⟨b.toNat % 128 + 128 * k, ?_, by rw [← e3]; omega, by omega, ?_⟩
        · rw [lebB_great (n := b.toNat % 128 + 128 * k) (by omega), e1, e2, show b.toNat % 128 + 128 = b.toNat by omega]
          simp
        · rw [← e3]
          have h8 : p + 1 ≤ 9 := by omega
          have hpp := pow9 h8
          have : b.toNat % 128 * 128 ^ p < 128 ^ (p + 1) := by have := pow_step (m := 0) (p := p) (x := b.toNat) (Nat.pow_pos (by omega)); omega
          -- k * 128 ^ (p + 1) is a multiple of 128 ^ (p + 1), as 2 ^ 64 is
          have hdvd : ∃ q, 18446744073709551616 = q * 128 ^ (p + 1) := ⟨2 ^ (64 - 7 * (p + 1)), by rw [show (128 : Nat) ^ (p + 1) = 2 ^ (7 * (p + 1)) by rw [Nat.pow_mul], ← Nat.pow_add, show 64 - 7 * (p + 1) + 7 * (p + 1) = 64 by omega]⟩
          obtain ⟨q, hq⟩ := hdvd
          have hkq : k + 1 ≤ q := by
            rcases Nat.lt_or_ge k q with h' | h'
            · omega
            · have := Nat.mul_le_mul_right (128 ^ (p + 1)) h'
              omega
          have := Nat.mul_le_mul_right (128 ^ (p + 1)) hkq
          rw [Nat.add_mul, Nat.one_mul] at this
          omega

theorem scan_read {k : Nat} (hk : k < 18446744073709551616) (rest : List UInt8) : scan 0 0 (lebB k ++ rest) = (0, k, rest) := by
  have := scan_lebB rest k k 0 0 (Nat.le_refl _) (.inl rfl) (by simpa using hk)
  simpa using this
theorem scan_told {xs : List UInt8} {n : Nat} {rest : List UInt8} (h : scan 0 0 xs = (0, n, rest)) : xs = lebB n ++ rest ∧ n < 18446744073709551616 := by
  obtain ⟨k, h1, h2, _, h3⟩ := scan_inv xs 0 0 n rest (by omega) h
  simp at h2 h3
  subst h2
  exact ⟨h1, h3⟩
theorem lebB_begins {a b : Nat} (ha : a < 18446744073709551616) (hb : b < 18446744073709551616) (t : List UInt8) (h : lebB b = lebB a ++ t) : a = b := by
  have h1 := scan_read ha t
  have h2 := scan_read hb []
  rw [List.append_nil, h, h1] at h2
  simp at h2
  exact h2.1
theorem lebB_mono : ∀ (n a b : Nat), b ≤ n → a ≤ b → (lebB a).length ≤ (lebB b).length := by
  intro n
  induction n with
  | zero => intro a b h h'; obtain rfl : a = b := by omega
            exact Nat.le_refl _
  | succ n ih =>
    intro a b h h'
    by_cases hb : b < 128
    · rw [lebB_small hb, lebB_small (by omega)]; simp
    · rw [lebB_great (n := b) (by omega)]
      by_cases ha : a < 128
      · rw [lebB_small ha]; simp
      · rw [lebB_great (n := a) (by omega)]
        have := ih (a / 128) (b / 128) (by omega) (Nat.div_le_div_right h')
        simp; omega

theorem scan_err : ∀ (xs : List UInt8) (p n : Nat), (scan p n xs).1 = 0 ∨ ((scan p n xs).1 = 10 ∨ (scan p n xs).1 = 11) ∧ (scan p n xs).2.1 = 0
  | [], _, _ => .inr ⟨.inl rfl, rfl⟩
  | b :: bs, p, n => by
    unfold scan
    split
    · exact .inr ⟨.inr rfl, rfl⟩
    · split
      · exact .inl rfl
      · exact scan_err bs _ _

end Go.Proofs.YtljihmbmjpcfaaaGreat
namespace Go.Proofs.YtljihmbmjpcfaaaGreat

/-- The register over one nought. -/
def step (n : Nat) : Nat := if n % 2 = 1 then n / 2 ^^^ 3988292384 else n / 2
/-- Over k noughts. -/
def stepN : Nat → Nat → Nat
  | 0, n => n
  | k + 1, n => stepN k (step n)
/-- Over bytes. -/
def byteOn (n : Nat) (c : UInt8) : Nat := stepN 8 (n ^^^ c.toNat)
def over (n : Nat) (bs : List UInt8) : Nat := bs.foldl byteOn n
theorem over_nil (n : Nat) : over n [] = n := rfl
theorem over_cons (n : Nat) (c : UInt8) (cs : List UInt8) : over n (c :: cs) = over (byteOn n c) cs := rfl
/-- Each bit turned. -/
def inv (n : Nat) : Nat := 4294967295 - n
/-- A sum that goes on. -/
def crcOn (s : Nat) (bs : List UInt8) : Nat := inv (over (inv s) bs)
/-- The sum of bytes. -/
def crc (bs : List UInt8) : Nat := crcOn 0 bs
/-- Bytes as a number, the lowest first. -/
def le : List UInt8 → Nat
  | [] => 0
  | c :: cs => c.toNat + 256 * le cs

theorem xor_mod2 (a b : Nat) : (a ^^^ b) % 2 = (a + b) % 2 := by
  have h := Nat.testBit_xor a b 0
  rw [Nat.testBit_zero, Nat.testBit_zero, Nat.testBit_zero] at h
  generalize a ^^^ b = x at h ⊢
  by_cases ha : a % 2 = 1 <;> by_cases hb : b % 2 = 1 <;> by_cases hx : x % 2 = 1 <;> simp only [ha, hb, hx, decide_true, decide_false, Bool.xor_self, Bool.xor_false, Bool.xor_true, Bool.not_false, reduceCtorEq] at h <;> omega
theorem xor_swap (a b c d : Nat) : (a ^^^ b) ^^^ (c ^^^ d) = (a ^^^ c) ^^^ (b ^^^ d) := by
  apply Nat.eq_of_testBit_eq
  intro i
  simp only [Nat.testBit_xor]
  cases a.testBit i <;> cases b.testBit i <;> cases c.testBit i <;> cases d.testBit i <;> rfl
theorem step_xor (a b : Nat) : step (a ^^^ b) = step a ^^^ step b := by
  have h := xor_mod2 a b
  have hd : (a ^^^ b) / 2 = a / 2 ^^^ b / 2 := Nat.xor_div_two
  unfold step
  rw [hd]
  by_cases ha : a % 2 = 1 <;> by_cases hb : b % 2 = 1
  · rw [if_neg (by omega), if_pos ha, if_pos hb, xor_swap, Nat.xor_self, Nat.xor_zero]
  · rw [if_pos (by omega), if_pos ha, if_neg hb, Nat.xor_assoc, Nat.xor_assoc, Nat.xor_comm (b / 2)]
  · rw [if_pos (by omega), if_neg ha, if_pos hb, Nat.xor_assoc]
  · rw [if_neg (by omega), if_neg ha, if_neg hb]
theorem stepN_xor (k : Nat) : ∀ a b, stepN k (a ^^^ b) = stepN k a ^^^ stepN k b := by
  induction k with
  | zero => intro a b; rfl
  | succ k ih => intro a b; simp only [stepN, step_xor, ih]
theorem step_double (n : Nat) : step (2 * n) = n := by
  unfold step
  rw [if_neg (by omega)]
  omega
theorem stepN_shift (k : Nat) : ∀ n, stepN k (2 ^ k * n) = n := by
  induction k with
  | zero => intro n; simp [stepN]
  | succ k ih =>
    intro n
    have : 2 ^ (k + 1) * n = 2 * (2 ^ k * n) := by rw [Nat.pow_succ, Nat.mul_comm (2 ^ k), Nat.mul_assoc]
    rw [this, stepN, step_double, ih]
theorem stepN_add (j : Nat) : ∀ k n, stepN (j + k) n = stepN k (stepN j n) := by
  induction j with
  | zero => intro k n; rw [Nat.zero_add]; rfl
  | succ j ih =>
    intro k n
    have : j + 1 + k = (j + k) + 1 := by omega
    rw [this, stepN, ih, stepN]
theorem sum_step_lt {n : Nat} (h : n < 4294967296) : step n < 4294967296 := by
  unfold step
  split
  · exact Nat.xor_lt_two_pow (n := 32) (by omega) (by omega)
  · omega
theorem stepN_lt (k : Nat) : ∀ n, n < 4294967296 → stepN k n < 4294967296 := by
  induction k with
  | zero => intro n h; exact h
  | succ k ih => intro n h; exact ih _ (sum_step_lt h)
theorem step_ne {n : Nat} (h : n < 4294967296) (h0 : n ≠ 0) : step n ≠ 0 := by
  unfold step
  split
  · intro e
    have h1 : (n / 2 ^^^ 3988292384).testBit 31 = false := by rw [e]; simp
    rw [Nat.testBit_xor, Nat.testBit_lt_two_pow (by omega)] at h1
    revert h1
    decide
  · omega
theorem stepN_ne (k : Nat) : ∀ n, n < 4294967296 → n ≠ 0 → stepN k n ≠ 0 := by
  induction k with
  | zero => intro n _ h; exact h
  | succ k ih => intro n h h0; exact ih _ (sum_step_lt h) (step_ne h h0)
theorem stepN_zero (k : Nat) : stepN k 0 = 0 := by
  have := stepN_xor k 0 0
  simpa using this
/-- A run of 32 bits, one at least, wherever it stands, is never lost. -/
theorem stepN_run {B k : Nat} (m : Nat) (hB : B < 4294967296) (h0 : B ≠ 0) : stepN m (2 ^ k * B) ≠ 0 := by
  by_cases h : k ≤ m
  · obtain ⟨j, rfl⟩ := Nat.exists_eq_add_of_le h
    rw [stepN_add, stepN_shift]
    exact stepN_ne j B hB h0
  · obtain ⟨j, rfl⟩ := Nat.exists_eq_add_of_le (by omega : m ≤ k)
    rw [Nat.pow_add, Nat.mul_assoc, stepN_shift]
    exact Nat.mul_ne_zero (by have := Nat.two_pow_pos j; omega) h0
theorem xor_zero {a b : Nat} (h : a ^^^ b = 0) : a = b := by
  have h1 := congrArg (fun x => x ^^^ b) h
  simpa [Nat.xor_assoc] using h1
theorem stepN_inj {k a b : Nat} (ha : a < 4294967296) (hb : b < 4294967296) (h : stepN k a = stepN k b) : a = b := by
  by_cases e : a ^^^ b = 0
  · exact xor_zero e
  · have h1 := stepN_ne k _ (Nat.xor_lt_two_pow (n := 32) ha hb) e
    rw [stepN_xor, h, Nat.xor_self] at h1
    exact absurd rfl h1

theorem add_mul_xor {c k : Nat} (h : c < 256) : c + 256 * k = c ^^^ 256 * k := by
  have h1 := Nat.two_pow_add_eq_or_of_lt (i := 8) (b := c) (by simpa using h) k
  have h2 : c ^^^ 256 * k = 256 * k ||| c := by
    apply Nat.eq_of_testBit_eq
    intro i
    have h3 : (256 * k) = 2 ^ 8 * k := rfl
    rw [Nat.testBit_xor, Nat.testBit_or, h3, Nat.testBit_two_pow_mul]
    by_cases hi : 8 ≤ i
    · rw [Nat.testBit_lt_two_pow (x := c) (Nat.lt_of_lt_of_le h (by simpa using Nat.pow_le_pow_right (n := 2) (by omega) hi))]
      simp
    · simp [hi]
  rw [h2, ← h1, Nat.add_comm]
theorem toNat_lt8 (c : UInt8) : c.toNat < 256 := c.toNat_lt
/-- Over bytes: over as many noughts, their number laid over the register. -/
theorem over_eq (bs : List UInt8) : ∀ n, over n bs = stepN (8 * bs.length) (n ^^^ le bs) := by
  induction bs with
  | nil => intro n; simp [over_nil, le, stepN]
  | cons c cs ih =>
    intro n
    rw [over_cons, ih, byteOn, le, add_mul_xor (toNat_lt8 c), ← Nat.xor_assoc]
    have : 8 * (c :: cs).length = 8 + 8 * cs.length := by simp; omega
    rw [this, stepN_add, stepN_xor 8 (n ^^^ c.toNat)]
    have h8 : stepN 8 (256 * le cs) = le cs := stepN_shift 8 (le cs)
    rw [h8]
theorem over_append (a b : List UInt8) : ∀ n, over n (a ++ b) = over (over n a) b := by
  induction a with
  | nil => intro n; rfl
  | cons c cs ih => intro n; exact ih _
theorem over_lt (bs : List UInt8) : ∀ n, n < 4294967296 → over n bs < 4294967296 := by
  induction bs with
  | nil => intro n h; exact h
  | cons c cs ih => intro n h; exact ih _ (stepN_lt 8 _ (Nat.xor_lt_two_pow (n := 32) h (by have := toNat_lt8 c; omega)))
theorem inv_lt (n : Nat) : inv n < 4294967296 := by unfold inv; omega
theorem inv_inv {n : Nat} (h : n < 4294967296) : inv (inv n) = n := by unfold inv; omega
theorem inv_xor {n : Nat} (h : n < 4294967296) : inv n = n ^^^ 4294967295 := by
  unfold inv
  apply Nat.eq_of_testBit_eq
  intro i
  have h1 : 4294967295 - n = 2 ^ 32 - (n + 1) := by omega
  have h2 : (4294967295 : Nat) = 2 ^ 32 - 1 := by omega
  rw [h1, Nat.testBit_two_pow_sub_succ h, Nat.testBit_xor, h2, Nat.testBit_two_pow_sub_one]
  by_cases hi : i < 32
  · simp [hi]
  · rw [Nat.testBit_lt_two_pow (x := n) (Nat.lt_of_lt_of_le h (by simpa using Nat.pow_le_pow_right (n := 2) (by omega) (by omega : 32 ≤ i)))]
    simp [hi]
theorem crcOn_lt (s : Nat) (bs : List UInt8) : crcOn s bs < 4294967296 := inv_lt _
theorem crc_lt (bs : List UInt8) : crc bs < 4294967296 := inv_lt _
/-- A sum goes on part by part. -/
theorem crcOn_append (s : Nat) (a b : List UInt8) : crcOn s (a ++ b) = crcOn (crcOn s a) b := by
  unfold crcOn
  rw [inv_inv (over_lt a _ (inv_lt s)), over_append]
theorem crcOn_nil {s : Nat} (h : s < 4294967296) : crcOn s [] = s := inv_inv h
theorem le_lt (bs : List UInt8) : le bs < 2 ^ (8 * bs.length) := by
  induction bs with
  | nil => simp [le]
  | cons c cs ih =>
    have : 8 * (c :: cs).length = 8 * cs.length + 8 := by simp; omega
    rw [this, Nat.pow_add, le]
    have := toNat_lt8 c
    omega
theorem le_append (a b : List UInt8) : le (a ++ b) = le a + 2 ^ (8 * a.length) * le b := by
  induction a with
  | nil => simp [le]
  | cons c cs ih =>
    have : 8 * (c :: cs).length = 8 + 8 * cs.length := by simp; omega
    rw [List.cons_append, le, ih, le, this, Nat.pow_add, Nat.mul_add, Nat.mul_assoc]
    omega
theorem le_inj : ∀ (a b : List UInt8), a.length = b.length → le a = le b → a = b := by
  intro a
  induction a with
  | nil => intro b h _; simp at h; exact (List.eq_nil_of_length_eq_zero h.symm).symm
  | cons c cs ih =>
    intro b h he
    cases b with
    | nil => simp at h
    | cons d ds =>
      have h1 := toNat_lt8 c
      have h2 := toNat_lt8 d
      simp only [le] at he
      have h3 : c = d := UInt8.toNat_inj.1 (by omega)
      rw [h3, ih ds (by simpa using h) (by omega)]

/-- A number's four bytes, the lowest first. -/
def four (n : Nat) : List UInt8 := [UInt8.ofNat n, UInt8.ofNat (n / 256), UInt8.ofNat (n / 65536), UInt8.ofNat (n / 16777216)]
theorem four_length (n : Nat) : (four n).length = 4 := rfl
theorem le_four {n : Nat} (h : n < 4294967296) : le (four n) = n := by
  simp only [four, le, UInt8.toNat_ofNat']
  omega
theorem four_le (a b c d : UInt8) : four (le [a, b, c, d]) = [a, b, c, d] := by
  refine le_inj _ _ rfl ?_
  have h := le_lt [a, b, c, d]
  rw [le_four (by simpa using h)]
/-- Wrapped bytes. -/
def wrapB (bs : List UInt8) : List UInt8 := four bs.length ++ bs ++ four (crc (four bs.length ++ bs))
theorem wrapB_length (bs : List UInt8) : (wrapB bs).length = bs.length + 8 := by simp [wrapB, four_length]; omega
/-- What is in the wrapped bytes with which xs begins, and what is behind them. -/
def splitR (xs : List UInt8) : Option (List UInt8 × List UInt8) :=
  if xs.length < 8 then none
  else if 4194304 < le (xs.take 4) ∨ xs.length < le (xs.take 4) + 8 then none
  else if le ((xs.drop (4 + le (xs.take 4))).take 4) ≠ crc (xs.take (4 + le (xs.take 4))) then none
  else some ((xs.drop 4).take (le (xs.take 4)), xs.drop (8 + le (xs.take 4)))

theorem splitR_wrap {bs : List UInt8} (h : bs.length ≤ 4194304) (more : List UInt8) : splitR (wrapB bs ++ more) = some (bs, more) := by
  have hl : (wrapB bs ++ more).length = bs.length + 8 + more.length := by simp [wrapB_length]
  have h4 : le ((wrapB bs ++ more).take 4) = bs.length := by
    have : (wrapB bs ++ more).take 4 = four bs.length := by
      unfold wrapB
      rw [List.append_assoc, List.append_assoc, List.take_append_of_le_length (by simp [four_length])]
      simp [four]
    rw [this, le_four (by omega)]
  have ht : (wrapB bs ++ more).take (4 + bs.length) = four bs.length ++ bs := by
    unfold wrapB
    rw [List.append_assoc]
    exact List.take_left' (by simp [four_length])
  have hd : (wrapB bs ++ more).drop (4 + bs.length) = four (crc (four bs.length ++ bs)) ++ more := by
    unfold wrapB
    rw [List.append_assoc]
    exact List.drop_left' (by simp [four_length])
  unfold splitR
  rw [h4, hl, if_neg (by omega), if_neg (by omega), ht, hd, if_neg]
  · have h8 : (wrapB bs ++ more).drop (8 + bs.length) = more := List.drop_left' (by rw [wrapB_length]; omega)
    have h5 : ((wrapB bs ++ more).drop 4).take bs.length = bs := by
      unfold wrapB
      rw [List.append_assoc, List.append_assoc, List.drop_left' (four_length _)]
      exact List.take_left' rfl
    rw [h8, h5]
  · have : (four (crc (four bs.length ++ bs)) ++ more).take 4 = four (crc (four bs.length ++ bs)) := List.take_left' (four_length _)
    rw [this, le_four (crc_lt _)]
    simp
theorem len4 {xs : List UInt8} (h : xs.length = 4) : ∃ a b c d, xs = [a, b, c, d] := by
  match xs, h with
  | [a, b, c, d], _ => exact ⟨a, b, c, d, rfl⟩
/-- What is found was wrapped. -/
theorem splitR_some {xs a b : List UInt8} (h : splitR xs = some (a, b)) : xs = wrapB a ++ b ∧ a.length ≤ 4194304 := by
  unfold splitR at h
  split at h
  · cases h
  · split at h
    · cases h
    · split at h
      · cases h
      · rename_i h1 h2 h3
        simp only [not_or, Nat.not_lt] at h2
        simp only [ne_eq, Decidable.not_not] at h3
        have e := Option.some.inj h
        injection e with e1 e2
        generalize hn : le (xs.take 4) = n at *
        have ha : a.length = n := by rw [← e1]; simp; omega
        have h4 : xs.take 4 = four n := by
          obtain ⟨p, q, r, s, hp⟩ := len4 (xs := xs.take 4) (by simp; omega)
          rw [← hn, hp, four_le]
        have ht : xs.take (4 + n) = four n ++ a := by
          rw [List.take_add, h4, e1]
        have hs : (xs.drop (4 + n)).take 4 = four (crc (four n ++ a)) := by
          obtain ⟨p, q, r, s, hp⟩ := len4 (xs := (xs.drop (4 + n)).take 4) (by simp; omega)
          rw [hp, ← four_le p q r s, ← hp, h3, ht]
        refine ⟨?_, by omega⟩
        have hx := (List.take_append_drop (4 + n) xs).symm
        have hy := (List.take_append_drop 4 (xs.drop (4 + n))).symm
        rw [hs, List.drop_drop, show 4 + n + 4 = 8 + n by omega, e2] at hy
        rw [hx, hy, ht]
        unfold wrapB
        rw [ha]
        simp
/-- What is told of it: the error, what is in it. -/
def unwrapR (xs : List UInt8) : Int × List UInt8 :=
  match splitR xs with
  | some (a, []) => (0, a)
  | _ => (20, [])
theorem unwrapR_cases (xs : List UInt8) : (∃ a, splitR xs = some (a, []) ∧ unwrapR xs = (0, a)) ∨ ((∀ a, splitR xs ≠ some (a, [])) ∧ unwrapR xs = (20, [])) := by
  unfold unwrapR
  rcases h : splitR xs with _ | ⟨a, b⟩
  · exact .inr ⟨by simp, rfl⟩
  · cases b with
    | nil => exact .inl ⟨a, rfl, rfl⟩
    | cons x b => exact .inr ⟨by simp, rfl⟩
theorem unwrapR_wrap {bs : List UInt8} (h : bs.length ≤ 4194304) : unwrapR (wrapB bs) = (0, bs) := by
  have := splitR_wrap h []
  rw [List.append_nil] at this
  simp [unwrapR, this]
/-- The residue of wrapped bytes. -/
theorem over_wrapB (bs : List UInt8) : over 4294967295 (wrapB bs) = stepN 32 4294967295 := by
  unfold wrapB
  rw [over_append, over_eq (four _), le_four (crc_lt _), four_length]
  unfold crc crcOn
  have h0 : inv 0 = 4294967295 := rfl
  rw [h0, inv_xor (over_lt _ _ (by omega)), ← Nat.xor_assoc, Nat.xor_self, Nat.zero_xor]
/-- Wrapped bytes with a run of bits turned are wrapped no more. -/
theorem run_found {bs cs : List UInt8} (hl : (wrapB bs).length = (wrapB cs).length) {B k : Nat} (hB : B < 4294967296) (h : le (wrapB cs) = le (wrapB bs) ^^^ 2 ^ k * B) : B = 0 := by
  by_cases h0 : B = 0
  · exact h0
  · have h1 := over_wrapB bs
    have h2 := over_wrapB cs
    rw [over_eq] at h1 h2
    rw [h, ← hl, ← Nat.xor_assoc, stepN_xor, h1] at h2
    have h3 := stepN_run (k := k) (8 * (wrapB bs).length) hB h0
    refine absurd ?_ h3
    have h4 := congrArg (fun x => stepN 32 4294967295 ^^^ x) h2
    simp only [← Nat.xor_assoc, Nat.xor_self, Nat.zero_xor] at h4
    exact h4
/-- Cut, they are none. -/
theorem cut_none2 {bs : List UInt8} (h : bs.length ≤ 4194304) {k : Nat} (hk : k < (wrapB bs).length) : splitR ((wrapB bs).take k) = none := by
  rcases he : splitR ((wrapB bs).take k) with _ | ⟨a, b⟩
  · rfl
  · obtain ⟨h1, h2⟩ := splitR_some he
    have h3 : wrapB bs = wrapB a ++ (b ++ (wrapB bs).drop k) := by rw [← List.append_assoc, ← h1, List.take_append_drop]
    have h4 := splitR_wrap h []
    rw [List.append_nil, h3, splitR_wrap h2] at h4
    injection h4 with h5
    injection h5 with h6 h7
    have := congrArg List.length h7
    simp at this
    omega

theorem pow_mul_xor (i a b : Nat) : 2 ^ i * (a ^^^ b) = 2 ^ i * a ^^^ 2 ^ i * b := by
  apply Nat.eq_of_testBit_eq
  intro j
  simp only [Nat.testBit_two_pow_mul, Nat.testBit_xor]
  by_cases h : i ≤ j <;> simp [h]
/-- One byte laid over. -/
theorem le_set : ∀ (ts : List UInt8) (q : Nat) (hq : q < ts.length) (y : UInt8) (m : Nat), m < 256 → y.toNat = ts[q].toNat ^^^ m → le (ts.set q y) = le ts ^^^ 256 ^ q * m := by
  intro ts
  induction ts with
  | nil => intro q hq; simp at hq
  | cons c cs ih =>
    intro q hq y m hm hy
    cases q with
    | zero =>
      simp only [List.getElem_cons_zero] at hy
      simp only [List.set_cons_zero, le, Nat.pow_zero, Nat.one_mul]
      rw [add_mul_xor (toNat_lt8 y), add_mul_xor (toNat_lt8 c), hy, Nat.xor_assoc, Nat.xor_assoc, Nat.xor_comm m]
    | succ q =>
      simp only [List.getElem_cons_succ] at hy
      simp only [List.set_cons_succ, le]
      rw [add_mul_xor (toNat_lt8 c), add_mul_xor (toNat_lt8 c), ih q (by simpa using hq) y m hm hy]
      have h := pow_mul_xor 8 (le cs) (256 ^ q * m)
      rw [show (2 : Nat) ^ 8 = 256 from rfl] at h
      rw [h, Nat.xor_assoc, Nat.pow_succ, ← Nat.mul_assoc, Nat.mul_comm (256 ^ q) 256]
theorem pow_bits (k : Nat) : 256 ^ (k / 8) * 2 ^ (k % 8) = 2 ^ k := by
  have : (256 : Nat) = 2 ^ 8 := rfl
  rw [this, ← Nat.pow_mul, ← Nat.pow_add]
  congr 1
  omega
/-- A bit turned. -/
theorem le_flip (ts : List UInt8) (k : Nat) (hk : k / 8 < ts.length) (y : UInt8) (hy : y.toNat = ts[k / 8].toNat ^^^ 2 ^ (k % 8)) : le (ts.set (k / 8) y) = le ts ^^^ 2 ^ k := by
  rw [le_set ts (k / 8) hk y (2 ^ (k % 8)) (by have := Nat.pow_lt_pow_right (a := 2) (by omega) (Nat.mod_lt k (by omega : 8 > 0)); simpa using this) hy, pow_bits]
theorem add_pow_xor {x i : Nat} (h : x < 2 ^ i) : x + 2 ^ i = x ^^^ 2 ^ i := by
  apply Nat.eq_of_testBit_eq
  intro j
  rw [Nat.testBit_xor, Nat.add_comm]
  by_cases hj : i = j
  · subst hj
    rw [Nat.testBit_two_pow_add_eq, Nat.testBit_two_pow_self, Nat.testBit_lt_two_pow h]
    rfl
  · rcases Nat.lt_or_gt_of_ne hj with h1 | h1
    · have h2 : (2 ^ i + x).testBit j = false := Nat.testBit_lt_two_pow (by
        have : 2 ^ (i + 1) ≤ 2 ^ j := Nat.pow_le_pow_right (by omega) h1
        rw [Nat.pow_succ] at this
        omega)
      have h3 : x.testBit j = false := Nat.testBit_lt_two_pow (Nat.lt_of_lt_of_le h (Nat.pow_le_pow_right (by omega) (by omega)))
      rw [h2, h3, Nat.testBit_two_pow_of_ne hj]
      rfl
    · rw [Nat.testBit_two_pow_add_gt h1, Nat.testBit_two_pow_of_ne hj]
      simp
/-- The bits that were turned so far: those within the bytes. -/
theorem flips_no {n m i : Nat} (h : ¬ (n / 2 ^ i % 2 = 1 ∧ i < m)) : n % 2 ^ min (i + 1) m = n % 2 ^ min i m := by
  by_cases hm : i < m
  · have h2 : n / 2 ^ i % 2 = 0 := by omega
    rw [Nat.min_eq_left (by omega), Nat.min_eq_left (by omega), Nat.mod_pow_succ, h2]
    simp
  · rw [Nat.min_eq_right (by omega), Nat.min_eq_right (by omega)]
theorem flips_yes {n m i f : Nat} (h : n / 2 ^ i % 2 = 1) (hm : i < m) : 2 ^ f * (n % 2 ^ min (i + 1) m) = 2 ^ f * (n % 2 ^ min i m) ^^^ 2 ^ (f + i) := by
  rw [Nat.min_eq_left (by omega), Nat.min_eq_left (by omega), Nat.mod_pow_succ, h, Nat.mul_one, add_pow_xor (Nat.mod_lt _ (Nat.two_pow_pos i)), pow_mul_xor, Nat.pow_add]
end Go.Proofs.YtljihmbmjpcfaaaGreat
namespace Go.Proofs.YtljihmbmjpcfaaaGreat

/-- A word turned to the right. -/
def rotr (w n : Nat) : Nat := w / 2 ^ n ||| w * 2 ^ (32 - n) % 4294967296
def smallLow (w : Nat) : Nat := rotr w 7 ^^^ rotr w 18 ^^^ w / 8
def smallHigh (w : Nat) : Nat := rotr w 17 ^^^ rotr w 19 ^^^ w / 1024
/-- The constants, as published. -/
def shaK : List Nat := [
  0x428a2f98, 0x71374491, 0xb5c0fbcf, 0xe9b5dba5, 0x3956c25b, 0x59f111f1, 0x923f82a4, 0xab1c5ed5,
  0xd807aa98, 0x12835b01, 0x243185be, 0x550c7dc3, 0x72be5d74, 0x80deb1fe, 0x9bdc06a7, 0xc19bf174,
  0xe49b69c1, 0xefbe4786, 0x0fc19dc6, 0x240ca1cc, 0x2de92c6f, 0x4a7484aa, 0x5cb0a9dc, 0x76f988da,
  0x983e5152, 0xa831c66d, 0xb00327c8, 0xbf597fc7, 0xc6e00bf3, 0xd5a79147, 0x06ca6351, 0x14292967,
  0x27b70a85, 0x2e1b2138, 0x4d2c6dfc, 0x53380d13, 0x650a7354, 0x766a0abb, 0x81c2c92e, 0x92722c85,
  0xa2bfe8a1, 0xa81a664b, 0xc24b8b70, 0xc76c51a3, 0xd192e819, 0xd6990624, 0xf40e3585, 0x106aa070,
  0x19a4c116, 0x1e376c08, 0x2748774c, 0x34b0bcb5, 0x391c0cb3, 0x4ed8aa4a, 0x5b9cca4f, 0x682e6ff3,
  0x748f82ee, 0x78a5636f, 0x84c87814, 0x8cc70208, 0x90befffa, 0xa4506ceb, 0xbef9a3f7, 0xc67178f2]
/-- The state at the beginning. -/
def shaH : List Nat := [0x6a09e667, 0xbb67ae85, 0x3c6ef372, 0xa54ff53a, 0x510e527f, 0x9b05688c, 0x1f83d9ab, 0x5be0cd19]
/-- Four bytes, the highest first. -/
def word4 (x : List UInt8) (i : Nat) : Nat := (x.getD (4 * i) 0).toNat * 16777216 + (x.getD (4 * i + 1) 0).toNat * 65536 + (x.getD (4 * i + 2) 0).toNat * 256 + (x.getD (4 * i + 3) 0).toNat
/-- One word more. -/
def moreW (W : List Nat) : List Nat := W ++ [(W.getD (W.length - 16) 0 + smallLow (W.getD (W.length - 15) 0) + W.getD (W.length - 7) 0 + smallHigh (W.getD (W.length - 2) 0)) % 4294967296]
def moreN : Nat → List Nat → List Nat
  | 0, W => W
  | n + 1, W => moreN n (moreW W)
/-- A block's 64 words. -/
def words (x : List UInt8) : List Nat := moreN 48 ((List.range 16).map (word4 x))
/-- Eight words of state. -/
structure Eight where
  a : Nat
  b : Nat
  c : Nat
  d : Nat
  e : Nat
  f : Nat
  g : Nat
  h : Nat
deriving DecidableEq
/-- A round. -/
def roundS (s : Eight) (k w : Nat) : Eight :=
  let one := (s.h + (rotr s.e 6 ^^^ rotr s.e 11 ^^^ rotr s.e 25) + ((s.e &&& s.f) ^^^ ((4294967295 - s.e) &&& s.g)) + k + w) % 4294967296
  let two := ((rotr s.a 2 ^^^ rotr s.a 13 ^^^ rotr s.a 22) + ((s.a &&& s.b) ^^^ (s.a &&& s.c) ^^^ (s.b &&& s.c))) % 4294967296
  ⟨(one + two) % 4294967296, s.a, s.b, s.c, (s.d + one) % 4294967296, s.e, s.f, s.g⟩
def roundsS : List (Nat × Nat) → Eight → Eight
  | [], s => s
  | (k, w) :: l, s => roundsS l (roundS s k w)
def Eight.of (l : List Nat) : Eight := ⟨l.getD 0 0, l.getD 1 0, l.getD 2 0, l.getD 3 0, l.getD 4 0, l.getD 5 0, l.getD 6 0, l.getD 7 0⟩
def Eight.list (s : Eight) : List Nat := [s.a, s.b, s.c, s.d, s.e, s.f, s.g, s.h]
/-- A state behind a block. -/
def turnS (s : List Nat) (x : List UInt8) : List Nat := List.zipWith (fun p q => (p + q) % 4294967296) s (roundsS (shaK.zip (words x)) (Eight.of s)).list
/-- Noughts up to 56 of 64. -/
def fillN (n : Nat) : Nat := (119 - n % 64) % 64
/-- A number's eight bytes, the highest first. -/
def be8 (n : Nat) : List UInt8 := (List.range 8).map fun i => UInt8.ofNat (n / 2 ^ (8 * (7 - i)))
/-- Bytes, with what stands behind them. -/
def padB (b : List UInt8) : List UInt8 := b ++ [128] ++ List.replicate (fillN b.length) 0 ++ be8 (8 * b.length)
theorem padB_length (b : List UInt8) : (padB b).length % 64 = 0 := by
  simp only [padB, be8, fillN, List.length_append, List.length_cons, List.length_nil, List.length_replicate, List.length_map, List.length_range]
  omega
/-- Block by block, with fuel. -/
def blocksS : Nat → List UInt8 → List Nat → List Nat
  | 0, _, s => s
  | n + 1, x, s => if x.length < 64 then s else blocksS n (x.drop 64) (turnS s (x.take 64))
/-- A state's bytes. -/
def outB (s : List Nat) : List UInt8 := (List.range 32).map fun i => UInt8.ofNat (s.getD (i / 4) 0 / 2 ^ (24 - 8 * (i % 4)))
/-- The hash. -/
def shaB (b : List UInt8) : List UInt8 := outB (blocksS ((padB b).length / 64) (padB b) shaH)
theorem shaB_length (b : List UInt8) : (shaB b).length = 32 := by simp [shaB, outB]

theorem sha_none : shaB [] = [0xe3, 0xb0, 0xc4, 0x42, 0x98, 0xfc, 0x1c, 0x14, 0x9a, 0xfb, 0xf4, 0xc8, 0x99, 0x6f, 0xb9, 0x24, 0x27, 0xae, 0x41, 0xe4, 0x64, 0x9b, 0x93, 0x4c, 0xa4, 0x95, 0x99, 0x1b, 0x78, 0x52, 0xb8, 0x55] := by decide +kernel
theorem sha_abc : shaB [97, 98, 99] = [0xba, 0x78, 0x16, 0xbf, 0x8f, 0x01, 0xcf, 0xea, 0x41, 0x41, 0x40, 0xde, 0x5d, 0xae, 0x22, 0x23, 0xb0, 0x03, 0x61, 0xa3, 0x96, 0x17, 0x7a, 0x9c, 0xb4, 0x10, 0xff, 0x61, 0xf2, 0x00, 0x15, 0xad] := by decide +kernel
end Go.Proofs.YtljihmbmjpcfaaaGreat
namespace Go.Proofs.YtljihmbmjpcfaaaGreat

/-- Is root / 2^32, to a power, below n? -/
def belowB (root n p : Nat) : Bool :=
  if p = 2 then decide (root * root / 18446744073709551616 < n)
  else decide (root * root / 18446744073709551616 * root + root * root % 18446744073709551616 * root / 18446744073709551616 < n * 4294967296)
/-- The root, bit by bit from above. -/
def fracGo (n p : Nat) : Nat → Nat → Nat
  | 0, root => root
  | k + 1, root => fracGo n p k (if belowB (root ||| 2 ^ k) n p then root ||| 2 ^ k else root)
def fracB (n p : Nat) : Nat := fracGo n p 35 0 % 4294967296
/-- The first 64 primes. -/
def primesL : List Nat := [2, 3, 5, 7, 11, 13, 17, 19, 23, 29, 31, 37, 41, 43, 47, 53, 59, 61, 67, 71, 73, 79, 83, 89, 97, 101, 103, 107, 109, 113, 127, 131, 137, 139, 149, 151, 157, 163, 167, 173, 179, 181, 191, 193, 197, 199, 211, 223, 227, 229, 233, 239, 241, 251, 257, 263, 269, 271, 277, 281, 283, 293, 307, 311]
theorem primesL_length : primesL.length = 64 := by decide +kernel
theorem frac_rounds : ∀ p, p < 64 → fracB (primesL.getD p 0) 3 = shaK.getD p 0 := by decide +kernel
theorem frac_begins : ∀ p, p < 8 → fracB (primesL.getD p 0) 2 = shaH.getD p 0 := by decide +kernel
/-- No number from m on, f of them at most, whose square is at most n, parts n. -/
def isPr (n : Nat) : Nat → Nat → Bool
  | 0, _ => true
  | f + 1, m => if m * m ≤ n then (if n % m = 0 then false else isPr n f (m + 1)) else true
/-- How many primes are below n. -/
def placeOf (n : Nat) : Nat := (primesL.filter (fun p => decide (p < n))).length
theorem prime_at : ∀ n, n < 312 → 2 ≤ n → isPr n 20 2 = decide (primesL.getD (placeOf n) 0 = n) := by decide +kernel
theorem place_next : ∀ n, n < 312 → 2 ≤ n → placeOf (n + 1) = if isPr n 20 2 then placeOf n + 1 else placeOf n := by decide +kernel
theorem place_two : placeOf 2 = 0 := by decide +kernel
theorem place_end : ∀ n, n ≤ 312 → (placeOf n ≤ 63 ↔ n < 312) := by decide +kernel
theorem place_le (n : Nat) : placeOf n ≤ 64 := by
  have := List.length_filter_le (fun p => decide (p < n)) primesL
  rw [primesL_length] at this
  exact this
theorem shaK_length : shaK.length = 64 := rfl
theorem shaH_length : shaH.length = 8 := rfl
/-- The chain that hashes begin with, as far as it is worked out. -/
def begUp (k : Nat) : List Nat := shaH.take k ++ List.replicate (8 - k) 0
def rndUp (k : Nat) : List Nat := shaK.take k ++ List.replicate (64 - k) 0
theorem begUp_length (k : Nat) : (begUp k).length = 8 := by simp [begUp, shaH_length]; omega
theorem rndUp_length (k : Nat) : (rndUp k).length = 64 := by simp [rndUp, shaK_length]; omega
theorem up_set (l : List Nat) (n k : Nat) (hl : l.length = n) (hk : k < n) : (l.take k ++ List.replicate (n - k) 0).set k (l.getD k 0) = l.take (k + 1) ++ List.replicate (n - (k + 1)) 0 := by
  rw [List.set_append_right _ _ (by simp; omega), show n - k = (n - (k + 1)) + 1 by omega, List.replicate_succ, List.take_add_one, List.getElem?_eq_getElem (by omega), List.append_assoc]
  congr 1
  rw [List.length_take, Nat.min_eq_left (by omega), Nat.sub_self]
  simp [List.getD, List.getElem?_eq_getElem (show k < l.length by omega)]
theorem begUp_set {k : Nat} (hk : k < 8) : (begUp k).set k (shaH.getD k 0) = begUp (k + 1) := up_set shaH 8 k rfl hk
theorem rndUp_set {k : Nat} (hk : k < 64) : (rndUp k).set k (shaK.getD k 0) = rndUp (k + 1) := up_set shaK 64 k rfl hk
theorem begUp_all {k : Nat} (hk : 8 ≤ k) : begUp k = shaH := by
  rw [begUp, List.take_of_length_le (by rw [shaH_length]; omega), show 8 - k = 0 by omega]
  simp
theorem rndUp_all : rndUp 64 = shaK := by simp [rndUp, ← shaK_length]

theorem or_lt35 {a b : Nat} (ha : a < 34359738368) (hb : b < 34359738368) : a ||| b < 34359738368 := Nat.or_lt_two_pow (n := 35) ha hb

/-- A round, of whose word and constant n is made. -/
def roundN (s : Eight) (n : Nat) : Eight :=
  let one := (n + s.h + (rotr s.e 6 ^^^ rotr s.e 11 ^^^ rotr s.e 25) + ((s.e &&& s.f) ^^^ ((4294967295 - s.e) &&& s.g))) % 4294967296
  let two := ((rotr s.a 2 ^^^ rotr s.a 13 ^^^ rotr s.a 22) + ((s.a &&& s.b) ^^^ (s.a &&& s.c) ^^^ (s.b &&& s.c))) % 4294967296
  ⟨(one + two) % 4294967296, s.a, s.b, s.c, (s.d + one) % 4294967296, s.e, s.f, s.g⟩
theorem roundS_roundN (s : Eight) (k w : Nat) : roundS s k w = roundN s ((w + k) % 4294967296) := by
  have h : (s.h + (rotr s.e 6 ^^^ rotr s.e 11 ^^^ rotr s.e 25) + ((s.e &&& s.f) ^^^ ((4294967295 - s.e) &&& s.g)) + k + w) % 4294967296 = ((w + k) % 4294967296 + s.h + (rotr s.e 6 ^^^ rotr s.e 11 ^^^ rotr s.e 25) + ((s.e &&& s.f) ^^^ ((4294967295 - s.e) &&& s.g))) % 4294967296 := by omega
  simp only [roundS, roundN, h]

theorem moreN_succ' : ∀ (n : Nat) (W : List Nat), moreN (n + 1) W = moreW (moreN n W)
  | 0, W => rfl
  | n + 1, W => by rw [moreN, moreN_succ' n (moreW W), moreN]
theorem moreN_len : ∀ (n : Nat) (W : List Nat), (moreN n W).length = W.length + n
  | 0, W => rfl
  | n + 1, W => by rw [moreN, moreN_len n, moreW, List.length_append]; simp; omega
theorem moreN_add : ∀ (m n : Nat) (W : List Nat), moreN (m + n) W = moreN n (moreN m W)
  | 0, n, W => by rw [Nat.zero_add]; rfl
  | m + 1, n, W => by rw [show m + 1 + n = (m + n) + 1 by omega, moreN, moreN_add m n, moreN]
theorem moreN_get (n : Nat) : ∀ (W : List Nat) (i : Nat), i < W.length → (moreN n W).getD i 0 = W.getD i 0 := by
  induction n with
  | zero => intro W i _; rfl
  | succ n ih =>
    intro W i hi
    rw [moreN, ih (moreW W) i (by rw [moreW, List.length_append]; omega), moreW, List.getD_eq_getElem?_getD, List.getElem?_append_left hi, ← List.getD_eq_getElem?_getD]
theorem words_get (x : List UInt8) {r : Nat} (h : r < 64) : (words x).getD r 0 =
    if r < 16 then word4 x r else ((words x).getD (r - 16) 0 + smallLow ((words x).getD (r - 15) 0) + (words x).getD (r - 7) 0 + smallHigh ((words x).getD (r - 2) 0)) % 4294967296 := by
  have hb : ((List.range 16).map (word4 x)).length = 16 := by simp
  split
  · rename_i h16
    rw [words, moreN_get 48 _ r (by omega)]
    simp [List.getD_eq_getElem?_getD, h16]
  · rename_i h16
    obtain ⟨m, rfl⟩ : ∃ m, r = 16 + m := ⟨r - 16, by omega⟩
    have e : words x = moreN (48 - m) (moreN m ((List.range 16).map (word4 x))) := by rw [← moreN_add, show m + (48 - m) = 48 by omega]; rfl
    have hl : (moreN m ((List.range 16).map (word4 x))).length = 16 + m := by rw [moreN_len, hb]
    generalize moreN m ((List.range 16).map (word4 x)) = Z at e hl
    have g : ∀ i, i < 16 + m → (words x).getD i 0 = Z.getD i 0 := fun i hi => by rw [e, moreN_get _ _ i (by omega)]
    rw [g (16 + m - 16) (by omega), g (16 + m - 15) (by omega), g (16 + m - 7) (by omega), g (16 + m - 2) (by omega)]
    have e2 : moreN (48 - m) Z = moreN (47 - m) (moreW Z) := by rw [show 48 - m = (47 - m) + 1 by omega, moreN]
    have e3 : moreW Z = Z ++ [(Z.getD (16 + m - 16) 0 + smallLow (Z.getD (16 + m - 15) 0) + Z.getD (16 + m - 7) 0 + smallHigh (Z.getD (16 + m - 2) 0)) % 4294967296] := by rw [moreW, hl]
    rw [e, e2, moreN_get (47 - m) (moreW Z) (16 + m) (by rw [e3, List.length_append, hl, List.length_singleton]; omega), e3, List.getD_eq_getElem?_getD, List.getElem?_append_right (by omega), hl, Nat.sub_self]
    rfl
theorem words_length (x : List UInt8) : (words x).length = 64 := by rw [words, moreN_len]; simp
theorem rotr_bound {w n : Nat} (hw : w < 4294967296) : rotr w n < 4294967296 := by
  unfold rotr
  exact Nat.or_lt_two_pow (n := 32) (Nat.lt_of_le_of_lt (Nat.div_le_self _ _) hw) (Nat.mod_lt _ (by decide))
theorem word4_bound (xs : List UInt8) (k : Nat) : word4 xs k < 4294967296 := by
  unfold word4
  have h0 := (xs.getD (4 * k) 0).toNat_lt
  have h1 := (xs.getD (4 * k + 1) 0).toNat_lt
  have h2 := (xs.getD (4 * k + 2) 0).toNat_lt
  have h3 := (xs.getD (4 * k + 3) 0).toNat_lt
  omega
theorem words_lt (x : List UInt8) {r : Nat} (h : r < 64) : (words x).getD r 0 < 4294967296 := by
  rw [words_get x h]
  split
  · exact word4_bound x r
  · exact Nat.mod_lt _ (by decide)
/-- The last sixteen words ahead of round r, each at its place. -/
def win (W : List Nat) (r : Nat) : List Nat := (List.range 16).map fun j => if j < r then W.getD (r - 1 - (r - 1 - j) % 16) 0 else 0
theorem win_length (W : List Nat) (r : Nat) : (win W r).length = 16 := by simp [win]
theorem win_get? (W : List Nat) (r : Nat) {j : Nat} (hj : j < 16) : (win W r)[j]? = some (if j < r then W.getD (r - 1 - (r - 1 - j) % 16) 0 else 0) := by
  simp [win, hj]
theorem win_start (W : List Nat) : win W 0 = List.replicate 16 0 := by
  simp [win]
  decide
theorem win_set (W : List Nat) (r : Nat) : (win W r).set (r % 16) (W.getD r 0) = win W (r + 1) := by
  apply List.ext_getElem?
  intro j
  by_cases hj : j < 16
  · rw [win_get? _ _ hj, List.getElem?_set]
    by_cases h : r % 16 = j
    · rw [if_pos h, if_pos (by rw [win_length]; omega), if_pos (by omega), show r + 1 - 1 - (r + 1 - 1 - j) % 16 = r by omega]
    · rw [if_neg h, win_get? _ _ hj]
      by_cases hjr : j < r
      · rw [if_pos hjr, if_pos (by omega), show r + 1 - 1 - (r + 1 - 1 - j) % 16 = r - 1 - (r - 1 - j) % 16 by omega]
      · rw [if_neg hjr, if_neg (by omega)]
  · rw [List.getElem?_eq_none (by simp [win_length]; omega), List.getElem?_eq_none (by rw [win_length]; omega)]
theorem win_back (W : List Nat) {r d : Nat} (hr : 16 ≤ r) (h1 : 1 ≤ d) (h2 : d ≤ 16) : (win W r)[(r - d) % 16]? = some (W.getD (r - d) 0) := by
  rw [win_get? _ _ (Nat.mod_lt _ (by decide)), if_pos (by omega), show r - 1 - (r - 1 - (r - d) % 16) % 16 = r - d by omega]

/-- The state behind the first r rounds, of words W. -/
def stateUp (s : List Nat) (W : List Nat) : Nat → Eight
  | 0 => Eight.of s
  | r + 1 => roundN (stateUp s W r) ((W.getD r 0 + shaK.getD r 0) % 4294967296)
theorem roundsS_append : ∀ (l m : List (Nat × Nat)) (s : Eight), roundsS (l ++ m) s = roundsS m (roundsS l s)
  | [], _, _ => rfl
  | (k, w) :: l, m, s => roundsS_append l m (roundS s k w)
theorem stateUp_of (s K W : List Nat) (hK : K.length = 64) (hK2 : K = shaK) (hW : W.length = 64) : ∀ r, r ≤ 64 → roundsS ((K.zip W).take r) (Eight.of s) = stateUp s W r
  | 0, _ => by rw [List.take_zero]; rfl
  | r + 1, h => by
    have e : (K.zip W)[r]? = some (K.getD r 0, W.getD r 0) := by
      rw [List.getElem?_zip_eq_some]
      constructor
      · show K[r]? = some (K.getD r 0)
        rw [List.getD_eq_getElem?_getD, List.getElem?_eq_getElem (by omega)]; rfl
      · show W[r]? = some (W.getD r 0)
        rw [List.getD_eq_getElem?_getD, List.getElem?_eq_getElem (by omega)]; rfl
    rw [List.take_add_one, e, roundsS_append, stateUp_of s K W hK hK2 hW r (by omega)]
    simp only [Option.toList, roundsS, roundS_roundN, stateUp, hK2]
theorem turnS_eq (s : List Nat) (x : List UInt8) : turnS s x = List.zipWith (fun p q => (p + q) % 4294967296) s (stateUp s (words x) 64).list := by
  have hW := words_length x
  unfold turnS
  generalize words x = W at hW ⊢
  rw [← stateUp_of s shaK W shaK_length rfl hW 64 (Nat.le_refl _), List.take_of_length_le]
  rw [List.length_zip, hW, shaK_length]
  exact Nat.le_refl _

/-- Block by block. -/
theorem blocksS_append : ∀ (m : Nat) (ys zs : List UInt8) (s : List Nat), ys.length = 64 * m → blocksS m (ys ++ zs) s = blocksS m ys s
  | 0, _, _, _, _ => rfl
  | m + 1, ys, zs, s, h => by
    rw [blocksS, blocksS, if_neg (by rw [List.length_append]; omega), if_neg (by omega), List.drop_append_of_le_length (by omega), List.take_append_of_le_length (by omega)]
    exact blocksS_append m _ zs _ (by rw [List.length_drop]; omega)
theorem blocksS_snoc : ∀ (m : Nat) (ys bl : List UInt8) (s : List Nat), ys.length = 64 * m → bl.length = 64 → blocksS (m + 1) (ys ++ bl) s = turnS (blocksS m ys s) bl
  | 0, ys, bl, s, h, hb => by
    have hy : ys = [] := List.eq_nil_of_length_eq_zero (by omega)
    subst hy
    simp only [blocksS, List.nil_append]
    rw [if_neg (by omega), List.take_of_length_le (by omega)]
  | m + 1, ys, bl, s, h, hb => by
    rw [blocksS, if_neg (by rw [List.length_append]; omega), List.drop_append_of_le_length (by omega), List.take_append_of_le_length (by omega), blocksS_snoc m _ bl _ (by rw [List.length_drop]; omega) hb]
    conv => rhs; rw [blocksS, if_neg (by omega)]
theorem blocks_cut (xs zs : List UInt8) : blocksS (xs.length / 64) (xs ++ zs) shaH = blocksS (xs.length / 64) (xs.take (64 * (xs.length / 64))) shaH := by
  have h : 64 * (xs.length / 64) ≤ xs.length := by omega
  generalize xs.length / 64 = m at h
  have e : xs ++ zs = xs.take (64 * m) ++ (xs.drop (64 * m) ++ zs) := by rw [← List.append_assoc, List.take_append_drop]
  rw [e]
  exact blocksS_append m (xs.take (64 * m)) _ shaH (by rw [List.length_take]; omega)
/-- The chain of a hash that has taken xs: none, up to the first block. -/
def chainOf (xs : List UInt8) : List Nat := if xs.length < 64 then List.replicate 8 0 else blocksS (xs.length / 64) xs shaH
/-- What a hash keeps that has taken xs. -/
def Took (xs : List UInt8) (ch : List Nat) (bl : List UInt8) : Prop := bl.length = 64 ∧ ch = chainOf xs ∧ bl.take (xs.length % 64) = xs.drop (64 * (xs.length / 64))
theorem took_nil : Took [] (List.replicate 8 0) (List.replicate 64 0) := ⟨rfl, rfl, rfl⟩
/-- The block with n bytes more. -/
def blockOn (bl : List UInt8) (k : Nat) (ys : List UInt8) : List UInt8 := bl.take k ++ ys ++ bl.drop (k + ys.length)
theorem blockOn_length {bl ys : List UInt8} {k : Nat} (hb : bl.length = 64) (h : k + ys.length ≤ 64) : (blockOn bl k ys).length = 64 := by simp [blockOn]; omega
theorem took_less {xs ys : List UInt8} {ch : List Nat} {bl : List UInt8} (h : Took xs ch bl) (hl : xs.length % 64 + ys.length < 64) (hy : 0 < ys.length) :
    Took (xs ++ ys) ch (blockOn bl (xs.length % 64) ys) := by
  obtain ⟨hb, hc, ht⟩ := h
  have hd : (xs ++ ys).length / 64 = xs.length / 64 := by rw [List.length_append]; omega
  have hm : (xs ++ ys).length % 64 = xs.length % 64 + ys.length := by rw [List.length_append]; omega
  refine ⟨blockOn_length hb (by omega), ?_, ?_⟩
  · rw [hc, chainOf, chainOf, hd]
    by_cases h1 : xs.length < 64
    · rw [if_pos h1, if_pos (by rw [List.length_append]; omega)]
    · rw [if_neg h1, if_neg (by rw [List.length_append]; omega)]
      rw [blocks_cut xs ys]
      have := blocks_cut xs []
      rwa [List.append_nil] at this
  · rw [hm, hd, List.drop_append_of_le_length (by omega), ← ht, blockOn, List.take_append_of_le_length (by simp; omega), List.take_of_length_le (by simp; omega)]
theorem took_full {xs ys : List UInt8} {ch : List Nat} {bl : List UInt8} (h : Took xs ch bl) (hl : xs.length % 64 + ys.length = 64) :
    blockOn bl (xs.length % 64) ys = xs.drop (64 * (xs.length / 64)) ++ ys ∧ Took (xs ++ ys) (turnS (if (xs ++ ys).length = 64 then shaH else ch) (xs.drop (64 * (xs.length / 64)) ++ ys)) (xs.drop (64 * (xs.length / 64)) ++ ys) := by
  obtain ⟨hb, hc, ht⟩ := h
  have hd : (xs ++ ys).length / 64 = xs.length / 64 + 1 := by rw [List.length_append]; omega
  have hm : (xs ++ ys).length % 64 = 0 := by rw [List.length_append]; omega
  refine ⟨?_, ?_, ?_, ?_⟩
  · have h64 : bl.drop 64 = [] := List.drop_eq_nil_of_le (by omega)
    rw [blockOn, ht, hl, h64, List.append_nil]
  · simp; omega
  · have hlen : ¬ (xs ++ ys).length < 64 := by rw [List.length_append]; omega
    rw [chainOf, if_neg hlen, hd]
    have e : xs ++ ys = xs.take (64 * (xs.length / 64)) ++ (xs.drop (64 * (xs.length / 64)) ++ ys) := by rw [← List.append_assoc, List.take_append_drop]
    rw [e, blocksS_snoc (xs.length / 64) (xs.take (64 * (xs.length / 64))) (xs.drop (64 * (xs.length / 64)) ++ ys) shaH (by rw [List.length_take]; omega) (by simp; omega), ← e]
    congr 1
    by_cases h1 : xs.length < 64
    · rw [if_pos (by rw [List.length_append]; omega), show xs.length / 64 = 0 by omega]
      rfl
    · rw [if_neg (by rw [List.length_append]; omega), hc, chainOf, if_neg h1]
      have := blocks_cut xs []
      rwa [List.append_nil] at this
  · rw [hm, List.take_zero, hd, List.drop_eq_nil_of_le (by rw [List.length_append]; omega)]
/-- Behind the padding the chain is the hash's. -/
theorem took_end {xs : List UInt8} {ch : List Nat} {bl : List UInt8} (h : Took (padB xs) ch bl) : ch = blocksS ((padB xs).length / 64) (padB xs) shaH := by
  rw [h.2.1, chainOf, if_neg]
  have := padB_length xs
  have h0 : 0 < (padB xs).length := by simp [padB]; omega
  omega
/-- What ends bytes of a length. -/
def padTail (n : Nat) : List UInt8 := 128 :: (List.replicate (fillN n) 0 ++ be8 (8 * n))
theorem padB_tail (xs : List UInt8) : padB xs = xs ++ padTail xs.length := by simp [padB, padTail]
end Go.Proofs.YtljihmbmjpcfaaaGreat
