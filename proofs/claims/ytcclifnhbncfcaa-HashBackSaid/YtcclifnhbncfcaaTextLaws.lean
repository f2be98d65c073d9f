/- Texts of ids, in plain lists: what is read is what was written; they stand in order as the ids do. -/
import Derived.Test.YtcclifnhbncfcaaHashRefParse
import Derived.Test.YtcclifnhbncfcaaIdOrd
namespace Go.Proofs.Ytcclifnhbncfcaa

/-! Texts of ids -/
theorem digV_hexd {n : Nat} (h : n < 16) : digV (hexd n) = (n : Int) := by
  have key : ∀ n : Fin 16, digV (hexd n.1) = (n.1 : Int) := by decide +kernel
  exact key ⟨n, h⟩
theorem hexd_digV (c : UInt8) (h : ¬ digV c < 0) : hexd (digV c).toNat = c := by
  have key : ∀ n : Fin 256, ¬ digV (UInt8.ofNat n.1) < 0 → hexd (digV (UInt8.ofNat n.1)).toNat = UInt8.ofNat n.1 := by decide +kernel
  have h1 := key ⟨c.toNat, c.toNat_lt⟩
  simp only [UInt8.ofNat_toNat] at h1
  exact h1 h
theorem textB_cons (c : UInt8) (x : List UInt8) : textB (c :: x) = hexd (c.toNat / 16) :: hexd (c.toNat % 16) :: textB x := rfl
theorem parse_text : ∀ (x : List UInt8), parseB (textB x) = some x
  | [] => rfl
  | c :: x => by
    have h8 := c.toNat_lt
    rw [textB_cons, parseB, digV_hexd (by omega), digV_hexd (by omega), if_neg (by omega), parse_text x]
    simp only [Option.map_some]
    congr 2
    have : (16 * ((c.toNat / 16 : Nat) : Int) + ((c.toNat % 16 : Nat) : Int)).toNat = c.toNat := by omega
    rw [this]
    simp
theorem text_parse : ∀ (s xs : List UInt8), parseB s = some xs → textB xs = s := by
  intro s
  induction s using parseB.induct with
  | case1 a b r h => intro xs hx; rw [parseB, if_pos h] at hx; cases hx
  | case2 a b r h ih =>
    intro xs hx
    rw [parseB, if_neg h] at hx
    obtain ⟨ys, hy, rfl⟩ := Option.map_eq_some_iff.1 hx
    have ha : ¬ digV a < 0 := fun h1 => h (.inl h1)
    have hb : ¬ digV b < 0 := fun h1 => h (.inr h1)
    have da := digV_lt a
    have db := digV_lt b
    rw [textB_cons, ih ys hy]
    have hn : (UInt8.ofNat (16 * digV a + digV b).toNat).toNat = (16 * digV a + digV b).toNat := by
      rw [UInt8.toNat_ofNat', Nat.mod_eq_of_lt (by omega)]
    rw [hn]
    have e1 : (16 * digV a + digV b).toNat / 16 = (digV a).toNat := by omega
    have e2 : (16 * digV a + digV b).toNat % 16 = (digV b).toNat := by omega
    rw [e1, e2, hexd_digV a ha, hexd_digV b hb]
  | case3 => intro xs hx; cases hx; rfl
  | case4 a => intro xs hx; cases hx
theorem parseR_text {x : List UInt8} (h : x.length = 32) : parseR (textB x) = (0, x) := by
  unfold parseR
  rw [if_pos (by rw [textB_length, h]), parse_text x]
theorem parseR_ok {s : List UInt8} (h : (parseR s).1 = 0) : textB (parseR s).2 = s := by
  unfold parseR at h ⊢
  split
  · next h64 =>
    rw [if_pos h64] at h
    cases hp : parseB s with
    | none => rw [hp] at h; simp at h
    | some xs => exact text_parse s xs hp
  · next h64 =>
    rw [if_neg h64] at h
    simp at h

theorem parseB_len4 : ∀ (s xs : List UInt8), parseB s = some xs → 2 * xs.length = s.length := by
  intro s
  induction s using parseB.induct with
  | case1 a b r h => intro xs hx; rw [parseB, if_pos h] at hx; cases hx
  | case2 a b r h ih =>
    intro xs hx
    rw [parseB, if_neg h] at hx
    obtain ⟨ys, hy, rfl⟩ := Option.map_eq_some_iff.1 hx
    have := ih ys hy
    simp only [List.length_cons]
    omega
  | case3 => intro xs hx; cases hx; rfl
  | case4 a => intro xs hx; cases hx
theorem parseR_len4 (s : List UInt8) : (parseR s).2.length = 32 := by
  unfold parseR
  split
  · next h =>
    split
    · next xs hx => have := parseB_len4 s xs hx; show xs.length = 32; omega
    · exact zeroID_length
  · exact zeroID_length
theorem hexd_less (a b : Nat) (ha : a < 16) (hb : b < 16) : (hexd a < hexd b ↔ a < b) ∧ (hexd a = hexd b ↔ a = b) := by
  have key : ∀ m n : Fin 16, (hexd m.1 < hexd n.1 ↔ m.1 < n.1) ∧ (hexd m.1 = hexd n.1 ↔ m.1 = n.1) := by decide +kernel
  exact key ⟨a, ha⟩ ⟨b, hb⟩
theorem less_text : ∀ (a b : List UInt8), a.length = b.length → Op.bytesLess (textB a) (textB b) = decide (cmpB a b < 0)
  | [], [], _ => rfl
  | x :: a, y :: b, h => by
    have hx := x.toNat_lt
    have hy := y.toNat_lt
    obtain ⟨l1, e1⟩ := hexd_less (x.toNat / 16) (y.toNat / 16) (by omega) (by omega)
    obtain ⟨l2, e2⟩ := hexd_less (x.toNat % 16) (y.toNat % 16) (by omega) (by omega)
    have ih := less_text a b (by simpa using h)
    rw [textB_cons, textB_cons, Op.bytesLess, Op.bytesLess, ih, Bool.eq_iff_iff]
    simp only [Bool.or_eq_true, Bool.and_eq_true, decide_eq_true_eq, beq_iff_eq, cmpB_cons_lt, l1, l2, e1, e2]
    have hlt : x < y ↔ x.toNat < y.toNat := Iff.rfl
    have heq : x = y ↔ x.toNat = y.toNat := UInt8.toNat_inj.symm
    rw [hlt, heq]
    constructor
    · rintro (h1 | ⟨h1, h2 | ⟨h2, h3⟩⟩)
      · exact .inl (by omega)
      · exact .inl (by omega)
      · exact .inr ⟨by omega, h3⟩
    · rintro (h1 | ⟨h1, h2⟩)
      · by_cases h4 : x.toNat / 16 < y.toNat / 16
        · exact .inl h4
        · exact .inr ⟨by omega, .inl (by omega)⟩
      · exact .inr ⟨by omega, .inr ⟨by omega, h2⟩⟩
theorem cmpB_three : ∀ (a b : List UInt8), cmpB a b = -1 ∨ cmpB a b = 0 ∨ cmpB a b = 1
  | [], _ => .inr (.inl (by cases ‹List UInt8› <;> rfl))
  | _ :: _, [] => .inr (.inl rfl)
  | x :: a, y :: b => by
    rw [cmpB]
    split
    · exact .inl rfl
    · split
      · exact .inr (.inr rfl)
      · exact cmpB_three a b
theorem cmp_zero_iff {a b : List UInt8} (h : a.length = b.length) : cmpB a b = 0 ↔ a = b := ⟨cmpB_zero a b h, fun e => by rw [e]; exact cmpB_same b⟩
end Go.Proofs.Ytcclifnhbncfcaa
