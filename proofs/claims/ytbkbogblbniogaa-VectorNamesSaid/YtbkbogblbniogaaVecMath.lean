/- Vectors in plain functions: sixteen counters; at most, merged, met, lacked, added to, as bytes. -/
import Derived.Test.YtbkbogblbniogaaLebReadB
namespace Go.Proofs.Ytbkbogblbniogaa

/-- A vector: a counter of each site. -/
abbrev Vc := Fin 16 → UInt32
def zeroV : Vc := fun _ => 0
/-- The counter of a site by its number. -/
def atV (v : Vc) (n : Nat) : UInt32 := if h : n < 16 then v ⟨n, h⟩ else 0
theorem atV_fin (v : Vc) (i : Fin 16) : atV v i.val = v i := by simp [atV]
theorem atV_zero (n : Nat) : atV zeroV n = 0 := by unfold atV; split <;> rfl
theorem atV_out (v : Vc) {n : Nat} (h : 16 ≤ n) : atV v n = 0 := by unfold atV; rw [dif_neg (by omega)]
theorem vc_ext {a b : Vc} (h : ∀ n, n < 16 → atV a n = atV b n) : a = b := by
  funext i
  have := h i.val i.isLt
  rwa [atV_fin, atV_fin] at this
instance decVc (a b : Vc) : Decidable (a = b) := decidable_of_iff (∀ n, n < 16 → atV a n = atV b n) ⟨vc_ext, fun h _ _ => by rw [h]⟩
def setV (v : Vc) (n : Nat) (x : UInt32) : Vc := fun i => if i.val = n then x else v i
theorem atV_set (v : Vc) {n : Nat} (h : n < 16) (x : UInt32) (m : Nat) : atV (setV v n x) m = if m = n then x else atV v m := by
  unfold atV setV
  by_cases hm : m < 16
  · rw [dif_pos hm, dif_pos hm]
  · rw [dif_neg hm, dif_neg hm, if_neg (by omega)]

/-- One is at most another one. -/
def LeV (a b : Vc) : Prop := ∀ n, n < 16 → (atV a n).toNat ≤ (atV b n).toNat
instance (a b : Vc) : Decidable (LeV a b) := Nat.decidableBallLT _ _
theorem LeV.refl (a : Vc) : LeV a a := fun _ _ => Nat.le_refl _
theorem LeV.trans {a b c : Vc} (h : LeV a b) (k : LeV b c) : LeV a c := fun n hn => Nat.le_trans (h n hn) (k n hn)
theorem LeV.anti {a b : Vc} (h : LeV a b) (k : LeV b a) : a = b := vc_ext fun n hn => UInt32.toNat_inj.1 (Nat.le_antisymm (h n hn) (k n hn))
theorem leV_no {a b : Vc} {n : Nat} (hn : n < 16) (h : (atV b n).toNat < (atV a n).toNat) : ¬ LeV a b := fun k => by have := k n hn; omega
/-- How one stands to another one. -/
def cmpV (a b : Vc) : Int := if LeV a b then (if LeV b a then 0 else 1) else if LeV b a then 2 else 3
theorem cmpV_same (a : Vc) : cmpV a a = 0 := by unfold cmpV; rw [if_pos (LeV.refl a), if_pos (LeV.refl a)]
theorem cmpV_zero {a b : Vc} : cmpV a b = 0 ↔ a = b := by
  constructor
  · intro h
    unfold cmpV at h
    split at h
    · split at h
      · exact LeV.anti ‹_› ‹_›
      · omega
    · split at h <;> omega
  · rintro rfl; exact cmpV_same a
theorem cmpV_eq (a b : Vc) : cmpV a b = if a = b then 0 else if LeV a b then 1 else if LeV b a then 2 else 3 := by
  by_cases h : a = b
  · subst h; rw [if_pos rfl, cmpV_same]
  · rw [if_neg h]
    unfold cmpV
    by_cases h1 : LeV a b
    · rw [if_pos h1, if_pos h1, if_neg (fun h2 => h (h1.anti h2))]
    · rw [if_neg h1, if_neg h1]

/-- Merged; met. -/
def joinV (a b : Vc) : Vc := fun i => if (a i).toNat < (b i).toNat then b i else a i
def meetV (a b : Vc) : Vc := fun i => if (b i).toNat < (a i).toNat then b i else a i
theorem atV_join (a b : Vc) (n : Nat) : atV (joinV a b) n = if (atV a n).toNat < (atV b n).toNat then atV b n else atV a n := by
  unfold atV joinV
  split
  · rfl
  · simp
theorem atV_meet (a b : Vc) (n : Nat) : atV (meetV a b) n = if (atV b n).toNat < (atV a n).toNat then atV b n else atV a n := by
  unfold atV meetV
  split
  · rfl
  · simp
theorem nat_join (a b : Vc) (n : Nat) : (atV (joinV a b) n).toNat = max (atV a n).toNat (atV b n).toNat := by
  rw [atV_join]; split <;> omega
theorem nat_meet (a b : Vc) (n : Nat) : (atV (meetV a b) n).toNat = min (atV a n).toNat (atV b n).toNat := by
  rw [atV_meet]; split <;> omega
theorem vc_nat {a b : Vc} (h : ∀ n, n < 16 → (atV a n).toNat = (atV b n).toNat) : a = b := vc_ext fun n hn => UInt32.toNat_inj.1 (h n hn)
def joinL : List Vc → Vc
  | [] => zeroV
  | x :: l => l.foldl joinV x
def meetL : List Vc → Vc
  | [] => zeroV
  | x :: l => l.foldl meetV x
theorem join_zero (a : Vc) : joinV zeroV a = a := vc_nat fun n _ => by rw [nat_join, atV_zero]; simp
theorem joinL_fold (l : List Vc) : l.foldl joinV zeroV = joinL l := by
  cases l with
  | nil => rfl
  | cons x l => rw [List.foldl_cons, join_zero]; rfl

/-- How many dots one lacks of another one, in the first sites. -/
def lacksN (a b : Vc) : Nat → Nat
  | 0 => 0
  | k + 1 => lacksN a b k + ((atV b k).toNat - (atV a k).toNat)
theorem lacksN_le (a b : Vc) (k : Nat) : lacksN a b k ≤ k * 4294967295 := by
  induction k with
  | zero => simp [lacksN]
  | succ k ih => have := (atV b k).toNat_lt; simp only [lacksN, Nat.add_mul]; omega
theorem lacksN_zero (a b : Vc) (k : Nat) : lacksN a b k = 0 ↔ ∀ n, n < k → (atV b n).toNat ≤ (atV a n).toNat := by
  induction k with
  | zero => simp [lacksN]
  | succ k ih =>
    simp only [lacksN, Nat.add_eq_zero_iff, ih]
    constructor
    · rintro ⟨h1, h2⟩ n hn
      by_cases h : n = k
      · subst h; omega
      · exact h1 n (by omega)
    · intro h
      exact ⟨fun n hn => h n (by omega), by have := h k (by omega); omega⟩
theorem lacksN_ext {a b a' b' : Vc} (k : Nat) (h : ∀ n, n < k → (atV b n).toNat - (atV a n).toNat = (atV b' n).toNat - (atV a' n).toNat) : lacksN a b k = lacksN a' b' k := by
  induction k with
  | zero => rfl
  | succ k ih => simp only [lacksN]; rw [ih (fun n hn => h n (by omega)), h k (by omega)]

/-- The next dot of a site; a vector with it. -/
def HasV (v : Vc) (s c : Int) : Prop := 0 ≤ s ∧ s ≤ 15 ∧ 1 ≤ c ∧ c ≤ ((atV v s.toNat).toNat : Int)
instance (v : Vc) (s c : Int) : Decidable (HasV v s c) := by unfold HasV; infer_instance
def nextE (v : Vc) (s : Int) : Int := if 0 ≤ s ∧ s ≤ 15 then (if (atV v s.toNat).toNat = 4294967295 then 60 else 0) else 50
def nextD (v : Vc) (s : Int) : Int × Int := if nextE v s = 0 then (s, ((atV v s.toNat).toNat : Int) + 1) else (0, 0)
theorem nextE_ok {v : Vc} {s : Int} (h : nextE v s = 0) : 0 ≤ s ∧ s ≤ 15 ∧ (atV v s.toNat).toNat < 4294967295 := by
  unfold nextE at h
  have := (atV v s.toNat).toNat_lt
  split at h
  · split at h <;> omega
  · omega

def addE (v : Vc) (s c : Int) : Int := if 0 ≤ s ∧ s ≤ 15 ∧ 1 ≤ c ∧ c ≤ 4294967295 then (if c = ((atV v s.toNat).toNat : Int) + 1 then 0 else 61) else 50
def addV (v : Vc) (s c : Int) : Vc := if addE v s c = 0 then setV v s.toNat (atV v s.toNat + 1) else zeroV

/-- How many of the first sites a vector takes. -/
def countN (v : Vc) : Nat → Nat
  | 0 => 0
  | k + 1 => if atV v k = 0 then countN v k else k + 1
theorem countN_le (v : Vc) (k : Nat) : countN v k ≤ k := by
  induction k with
  | zero => simp [countN]
  | succ k ih => simp only [countN]; split <;> omega
theorem countN_zero (v : Vc) (k n : Nat) (h : countN v k ≤ n) (hn : n < k) : atV v n = 0 := by
  induction k with
  | zero => omega
  | succ k ih =>
    simp only [countN] at h
    split at h
    · by_cases hk : n = k
      · subst hk; assumption
      · exact ih h (by omega)
    · omega
theorem countN_last (v : Vc) (k : Nat) (h : 0 < countN v k) : atV v (countN v k - 1) ≠ 0 := by
  induction k with
  | zero => simp [countN] at h
  | succ k ih =>
    simp only [countN] at h ⊢
    split at h
    next h0 => rw [if_pos h0]; exact ih h
    next h0 => rw [if_neg h0]; simpa using h0
theorem countN_eq (v : Vc) (k m : Nat) (hm : m ≤ k) (h0 : ∀ n, m ≤ n → n < k → atV v n = 0) (hl : m = 0 ∨ atV v (m - 1) ≠ 0) : countN v k = m := by
  have hle := countN_le v k
  rcases Nat.lt_trichotomy (countN v k) m with h | h | h
  · rcases hl with h1 | h1
    · omega
    · exact absurd (countN_zero v k (m - 1) (by omega) (by omega)) h1
  · exact h
  · exact absurd (h0 (countN v k - 1) (by omega) (by omega)) (countN_last v k (by omega))
/-- The counters' bytes of the first sites. -/
def bytesN (v : Vc) : Nat → List UInt8
  | 0 => []
  | k + 1 => bytesN v k ++ lebB (atV v k).toNat
/-- A vector's bytes. -/
def encV (v : Vc) : List UInt8 := lebB (countN v 16) ++ bytesN v (countN v 16)
theorem bytesN_len (v : Vc) (k : Nat) : (bytesN v k).length ≤ 10 * k := by
  induction k with
  | zero => simp [bytesN]
  | succ k ih =>
    have := lebB_u64 (n := (atV v k).toNat) (by have := (atV v k).toNat_lt; omega)
    simp only [bytesN, List.length_append]
    omega
theorem encV_len (v : Vc) : (encV v).length ≤ 170 := by
  have h1 := countN_le v 16
  have h2 := bytesN_len v (countN v 16)
  have h3 := lebB_u64 (n := countN v 16) (by omega)
  unfold encV
  rw [List.length_append]
  omega

/-- What is read of bytes, as a number with a bound. -/
def nmB (most : Nat) (xs : List UInt8) : Int × Nat × List UInt8 := back xs (numRes most xs)
theorem nmB_cases (most : Nat) (xs : List UInt8) :
    (∃ n rest, n ≤ most ∧ n < 18446744073709551616 ∧ xs = lebB n ++ rest ∧ nmB most xs = (0, n, rest)) ∨
    (∃ er : Int, er ≠ 0 ∧ nmB most xs = (er, 0, xs)) := by
  unfold nmB numRes back
  rcases scan_err xs 0 0 with h | ⟨h, _⟩
  · obtain ⟨n, rest, hr⟩ : ∃ n rest, scan 0 0 xs = (0, n, rest) := ⟨_, _, by rw [← h]⟩
    obtain ⟨h1, h2⟩ := scan_told hr
    rw [hr]
    by_cases hm : n ≤ most
    · refine .inl ⟨n, rest, hm, h2, h1, ?_⟩
      simp
      rw [if_neg (by omega)]
      simp
    · refine .inr ⟨12, by omega, ?_⟩
      simp
      rw [if_pos (by omega)]
      simp
  · refine .inr ⟨(scan 0 0 xs).1, by omega, ?_⟩
    rw [if_pos (by omega)]; simp; omega
theorem nmB_read {n most : Nat} (h : n ≤ most) (h64 : n < 18446744073709551616) (r : List UInt8) : nmB most (lebB n ++ r) = (0, n, r) := by
  unfold nmB numRes back
  rw [scan_read h64 r]
  simp
  rw [if_neg (by omega)]
  simp
theorem nmB_le {most : Nat} {xs : List UInt8} (h : (nmB most xs).1 = 0) : (nmB most xs).2.1 ≤ most := by
  rcases nmB_cases most xs with ⟨n, r, hn, _, _, e⟩ | ⟨er, her, e⟩
  · rw [e]; exact hn
  · rw [e] at h; exact absurd h her
theorem nmB_left (most : Nat) (xs : List UInt8) : (nmB most xs).2.2.length ≤ xs.length := by
  rcases nmB_cases most xs with ⟨n, r, hn, _, h, e⟩ | ⟨er, her, e⟩
  · rw [e, h]; simp
  · rw [e]; exact Nat.le_refl _
/-- Counters are read into a vector, one by one. -/
def readN : Nat → Nat → Vc → List UInt8 → Int × Vc × List UInt8
  | 0, _, v, xs => (0, v, xs)
  | f + 1, i, v, xs => if (nmB 4294967295 xs).1 = 0 then readN f (i + 1) (setV v i (UInt32.ofNat (nmB 4294967295 xs).2.1)) (nmB 4294967295 xs).2.2 else ((nmB 4294967295 xs).1, zeroV, (nmB 4294967295 xs).2.2)
/-- What vector bytes are. -/
def decV (xs : List UInt8) : Int × Vc × List UInt8 :=
  if (nmB 16 xs).1 = 0 then
    if (readN (nmB 16 xs).2.1 0 zeroV (nmB 16 xs).2.2).1 = 0 then
      if countN (readN (nmB 16 xs).2.1 0 zeroV (nmB 16 xs).2.2).2.1 16 = (nmB 16 xs).2.1 then readN (nmB 16 xs).2.1 0 zeroV (nmB 16 xs).2.2 else (62, zeroV, (readN (nmB 16 xs).2.1 0 zeroV (nmB 16 xs).2.2).2.2)
    else readN (nmB 16 xs).2.1 0 zeroV (nmB 16 xs).2.2
  else ((nmB 16 xs).1, zeroV, (nmB 16 xs).2.2)
theorem readN_left : ∀ (f i : Nat) (v : Vc) (xs : List UInt8), (readN f i v xs).2.2.length ≤ xs.length
  | 0, _, _, _ => Nat.le_refl _
  | f + 1, i, v, xs => by
    have h := nmB_left 4294967295 xs
    unfold readN
    split
    · exact Nat.le_trans (readN_left f _ _ _) h
    · exact h
theorem readN_zero : ∀ (f i : Nat) (v : Vc) (xs : List UInt8), i + f ≤ 16 → (∀ n, i ≤ n → atV v n = 0) → ∀ n, i + f ≤ n → atV (readN f i v xs).2.1 n = 0
  | 0, i, v, xs, _, h, n, hn => h n (by omega)
  | f + 1, i, v, xs, hi, h, n, hn => by
    unfold readN
    split
    · refine readN_zero f (i + 1) _ _ (by omega) (fun m hm => ?_) n (by omega)
      rw [atV_set v (by omega), if_neg (by omega)]
      exact h m (by omega)
    · exact atV_zero n
theorem readN_err : ∀ (f i : Nat) (v : Vc) (xs : List UInt8), (readN f i v xs).1 ≠ 0 → (readN f i v xs).2.1 = zeroV
  | 0, _, _, _, h => absurd rfl h
  | f + 1, i, v, xs, h => by
    unfold readN at h ⊢
    split
    next h1 => rw [if_pos h1] at h; exact readN_err f _ _ _ h
    · rfl
/-- Read behind the first sites' bytes: what was read so far, and the rest. -/
theorem readN_bytes (v : Vc) (r : List UInt8) : ∀ (f i : Nat) (u : Vc), i + f ≤ 16 → (∀ n, n < i → atV u n = atV v n) → (∀ n, i ≤ n → atV u n = 0) →
    ∃ ys, bytesN v (i + f) = bytesN v i ++ ys ∧ (readN f i u (ys ++ r)).1 = 0 ∧ (readN f i u (ys ++ r)).2.2 = r ∧ ∀ n, atV (readN f i u (ys ++ r)).2.1 n = if n < i + f then atV v n else 0 := by
  intro f
  induction f with
  | zero =>
    intro i u _ h1 h2
    refine ⟨[], by simp, rfl, rfl, fun n => ?_⟩
    simp only [readN, Nat.add_zero]
    split
    · exact h1 n ‹_›
    · exact h2 n (by omega)
  | succ f ih =>
    intro i u hi h1 h2
    have hlt := (atV v i).toNat_lt
    obtain ⟨ys, e1, e2, e3, e4⟩ := ih (i + 1) (setV u i (atV v i)) (by omega) (fun n hn => by
      rw [atV_set u (by omega)]
      split
      · next h => rw [h]
      · exact h1 n (by omega)) (fun n hn => by
      rw [atV_set u (by omega), if_neg (by omega)]
      exact h2 n (by omega))
    have hu : UInt32.ofNat (atV v i).toNat = atV v i := UInt32.ofNat_toNat
    have hs : readN (f + 1) i u (lebB (atV v i).toNat ++ ys ++ r) = readN f (i + 1) (setV u i (atV v i)) (ys ++ r) := by
      rw [List.append_assoc, readN, nmB_read (by omega) (by omega)]
      simp only [if_true, hu]
    refine ⟨lebB (atV v i).toNat ++ ys, ?_, ?_, ?_, ?_⟩
    · rw [show i + (f + 1) = i + 1 + f by omega, e1, bytesN, List.append_assoc]
    · rw [hs]; exact e2
    · rw [hs]; exact e3
    · intro n
      rw [hs, e4 n, show i + (f + 1) = i + 1 + f by omega]
theorem decV_enc (v : Vc) (r : List UInt8) : decV (encV v ++ r) = (0, v, r) := by
  have h16 := countN_le v 16
  obtain ⟨ys, e1, e2, e3, e4⟩ := readN_bytes v r (countN v 16) 0 zeroV (by omega) (fun n hn => by omega) (fun n _ => atV_zero n)
  have hb : bytesN v (countN v 16) = ys := by simpa [bytesN] using e1
  have hv : (readN (countN v 16) 0 zeroV (ys ++ r)).2.1 = v := vc_ext fun n hn => by
    rw [e4 n]
    split
    · rfl
    · exact (countN_zero v 16 n (by omega) hn).symm
  unfold decV encV
  rw [hb, List.append_assoc, nmB_read (by omega) (by omega)]
  simp only [if_true]
  rw [if_pos e2, hv, if_pos rfl]
  generalize readN (countN v 16) 0 zeroV (ys ++ r) = q at e2 e3 hv
  obtain ⟨a, b, c⟩ := q
  simp at e2 e3 hv
  rw [e2, e3, hv]
/-- What was read has just these bytes. -/
theorem readN_told : ∀ (f i : Nat) (u : Vc) (xs : List UInt8), i + f ≤ 16 → (readN f i u xs).1 = 0 → xs.length ≤ 10000000000 →
    (∀ n, n < i → atV (readN f i u xs).2.1 n = atV u n) ∧ ∃ ys, xs = ys ++ (readN f i u xs).2.2 ∧ bytesN (readN f i u xs).2.1 (i + f) = bytesN (readN f i u xs).2.1 i ++ ys := by
  intro f
  induction f with
  | zero => intro i u xs _ _ _; exact ⟨fun _ _ => rfl, [], rfl, by simp⟩
  | succ f ih =>
    intro i u xs hi h hx
    rcases nmB_cases 4294967295 xs with ⟨n, rest, hn, _, h1, e⟩ | ⟨er, her, e⟩
    · have hs : readN (f + 1) i u xs = readN f (i + 1) (setV u i (UInt32.ofNat n)) rest := by
        rw [readN, e]; simp only [if_true]
      rw [hs] at h ⊢
      obtain ⟨k1, ys, k2, k3⟩ := ih (i + 1) (setV u i (UInt32.ofNat n)) rest (by omega) h (by rw [h1] at hx; simp at hx; omega)
      have hat : atV (readN f (i + 1) (setV u i (UInt32.ofNat n)) rest).2.1 i = UInt32.ofNat n := by
        rw [k1 i (by omega), atV_set u (by omega), if_pos rfl]
      have hto : (UInt32.ofNat n).toNat = n := by rw [UInt32.toNat_ofNat']; omega
      refine ⟨fun m hm => ?_, lebB n ++ ys, ?_, ?_⟩
      · rw [k1 m (by omega), atV_set u (by omega), if_neg (by omega)]
      · rw [h1, List.append_assoc, ← k2]
      · rw [show i + (f + 1) = i + 1 + f by omega, k3]
        simp only [bytesN]
        rw [hat, hto, List.append_assoc]
    · rw [readN, e] at h
      simp only [if_neg her] at h
      exact absurd h her
theorem decV_cases {xs : List UInt8} (hx : xs.length ≤ 10000000000) : (∃ v r, xs = encV v ++ r ∧ decV xs = (0, v, r)) ∨ (∃ er r, er ≠ 0 ∧ decV xs = (er, zeroV, r) ∧ r.length ≤ xs.length) := by
  have hl := nmB_left 16 xs
  unfold decV
  rcases nmB_cases 16 xs with ⟨n, rest, hn, _, h1, e⟩ | ⟨er, her, e⟩
  · rw [e] at hl ⊢
    simp only [if_true] at hl ⊢
    have hl2 := readN_left n 0 zeroV rest
    by_cases h0 : (readN n 0 zeroV rest).1 = 0
    · rw [if_pos h0]
      by_cases hc : countN (readN n 0 zeroV rest).2.1 16 = n
      · rw [if_pos hc]
        obtain ⟨_, ys, k2, k3⟩ := readN_told n 0 zeroV rest (by omega) h0 (by omega)
        refine .inl ⟨(readN n 0 zeroV rest).2.1, (readN n 0 zeroV rest).2.2, ?_, ?_⟩
        · have hb : bytesN (readN n 0 zeroV rest).2.1 n = ys := by simpa [bytesN] using k3
          unfold encV
          rw [hc, hb, List.append_assoc, ← k2, h1]
        · rw [← h0]
      · rw [if_neg hc]
        exact .inr ⟨62, _, by omega, rfl, by omega⟩
    · rw [if_neg h0]
      refine .inr ⟨_, (readN n 0 zeroV rest).2.2, h0, ?_, by omega⟩
      have he := readN_err n 0 zeroV rest h0
      generalize readN n 0 zeroV rest = q at he
      obtain ⟨x, y, z⟩ := q
      exact congrArg (fun y => (x, y, z)) he
  · rw [e]
    simp only
    rw [if_neg her]
    exact .inr ⟨er, xs, her, rfl, Nat.le_refl _⟩
end Go.Proofs.Ytbkbogblbniogaa
