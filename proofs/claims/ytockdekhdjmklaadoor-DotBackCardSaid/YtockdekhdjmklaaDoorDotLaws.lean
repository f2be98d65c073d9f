/- What DotBack comes down to, in plain lists. -/
import Derived.Test.YtockdekhdjmklaaDoorDotPar
import Derived.Test.YtockdekhdjmklaaDoorDotDec
import Derived.Test.YtockdekhdjmklaaDoorDotEnc
import Derived.Test.YtockdekhdjmklaaDoorDotText
namespace Go.Proofs.YtockdekhdjmklaaDoor
open Go.RowKit Go.Lib

theorem numB_cases (most : Nat) (xs : List UInt8) :
    (∃ n rest, n ≤ most ∧ n < 18446744073709551616 ∧ xs = lebB n ++ rest ∧ numB most xs = (0, n, rest)) ∨
    (∃ er : Int, er ≠ 0 ∧ numB most xs = (er, 0, xs)) := by
  unfold numB numRes back
  rcases scan_err xs 0 0 with h | ⟨h, _⟩
  · obtain ⟨n, rest, hr⟩ : ∃ n rest, scan 0 0 xs = (0, n, rest) := ⟨_, _, by rw [← h]⟩
    obtain ⟨h1, h2⟩ := scan_told hr
    rw [hr]
    by_cases hm : n ≤ most
    · refine .inl ⟨n, rest, hm, h2, h1, ?_⟩
      simp
      rw [if_neg (by omega)]
      simp
    · refine .inr ⟨12, by omega, ?_⟩
      simp
      rw [if_pos (by omega)]
      simp
  · refine .inr ⟨(scan 0 0 xs).1, by omega, ?_⟩
    rw [if_pos (by omega)]; simp; omega
theorem numB_read {n most : Nat} (h : n ≤ most) (h64 : n < 18446744073709551616) (r : List UInt8) : numB most (lebB n ++ r) = (0, n, r) := by
  unfold numB numRes back
  rw [scan_read h64 r]
  simp
  rw [if_neg (by omega)]
  simp
theorem decD_enc {p q : Int} (h : DotOk p q) (r : List UInt8) : decD (encD p q ++ r) = (0, (p, q), r) := by
  unfold DotOk at h
  rw [encD, if_pos (show DotOk p q from h), List.append_assoc]
  unfold decD
  rw [numB_read (by omega) (by omega)]
  simp only [if_true]
  rw [numB_read (by omega) (by omega)]
  simp only [if_true]
  rw [if_neg (by omega)]
  have e1 : ((p.toNat : Nat) : Int) = p := by omega
  have e2 : ((q.toNat : Nat) : Int) = q := by omega
  rw [e1, e2]
theorem decD_cases (xs : List UInt8) : (∃ a b r, DotOk a b ∧ xs = encD a b ++ r ∧ decD xs = (0, (a, b), r)) ∨ (∃ er r, er ≠ 0 ∧ decD xs = (er, (0, 0), r) ∧ r.length ≤ xs.length) := by
  unfold decD
  rcases numB_cases 15 xs with ⟨n, r1, hn, _, h1, e1⟩ | ⟨er, her, e1⟩
  · rw [e1]
    simp only [if_true]
    rcases numB_cases 4294967295 r1 with ⟨m, r2, hm, _, h2, e2⟩ | ⟨er, her, e2⟩
    · rw [e2]
      simp only [if_true]
      by_cases h0 : m = 0
      · rw [if_pos h0]
        refine .inr ⟨50, r2, by omega, rfl, ?_⟩
        rw [h1, h2]
        simp
        omega
      · rw [if_neg h0]
        have hok : DotOk (n : Int) (m : Int) := by unfold DotOk; omega
        refine .inl ⟨n, m, r2, hok, ?_, rfl⟩
        rw [encD, if_pos hok, h1, h2, List.append_assoc]
        rfl
    · rw [e2]
      simp only
      rw [if_neg her]
      refine .inr ⟨er, r1, her, rfl, ?_⟩
      rw [h1]
      simp
  · rw [e1]
    simp only
    rw [if_neg her]
    exact .inr ⟨er, xs, her, rfl, Nat.le_refl _⟩
theorem parD_text {p q : Int} (h : DotOk p q) : parD (textD p q) = (0, (p, q)) := by
  have h' := h
  unfold DotOk at h'
  have ht : textD p q = itoa p ++ 46 :: itoa q := by rw [textD, if_pos h]
  refine parD_ok ?_ rfl
  rw [ht, cut_at46, at46_app _ _ (itoa_no46 (by omega))]
  simp only [List.take_left]
  exact atoi_itoa (by omega) (by omega)
theorem textD_inj {p q p' q' : Int} (h : DotOk p q) (h' : DotOk p' q') : textD p q = textD p' q' ↔ p = p' ∧ q = q' := by
  constructor
  · intro e
    have h1 := parD_text h
    rw [e, parD_text h'] at h1
    injection h1 with _ h1
    injection h1 with h1 h2
    exact ⟨h1.symm, h2.symm⟩
  · rintro ⟨rfl, rfl⟩
    rfl
theorem textD_len {p q : Int} (h : DotOk p q) : (textD p q).length ≤ 21 := by
  have h' := h
  unfold DotOk at h'
  rw [textD, if_pos h]
  have h1 := itoa_len (n := p) (by omega) (by omega)
  have h2 := itoa_len (n := q) (by omega) (by omega)
  simp
  omega
theorem encD_len {p q : Int} (h : DotOk p q) : (encD p q).length ≤ 20 := by
  have h' := h
  unfold DotOk at h'
  rw [encD, if_pos h]
  have h1 := lebB_u64 (n := p.toNat) (by omega)
  have h2 := lebB_u64 (n := q.toNat) (by omega)
  simp
  omega
end Go.Proofs.YtockdekhdjmklaaDoor
