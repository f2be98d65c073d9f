/- What all walks of this seat lean on: the byte's row of the program's table; a new slice of bytes. A number's bytes, seven bits a byte, as lists: plain mathematics, no program. -/
import Derived.RangeFuncNested
import Derived.RangeFuncBound
import Derived.RangeFuncCalls
import Derived.RangeFuncLeaves
import Derived.RangeFuncBox
import Derived.Shelf.Abstract
import Derived.Shelf.RegionOpen
import Derived.WalkKit
import Derived.WalkSpells
import Derived.WalkLawsBesides
import Derived.Lib.SliceRun
import Derived.OwnWalkIn
import Derived.TacticsInMore
import Derived.LoopNIn
import Derived.LoopIn
import Derived.Maps.AppendAt
import Derived.Lib.Hide
import Derived.Outline
import Derived.IntWalk
import Derived.Laws.BitsAllLaws
import Derived.BigQuiet
import Derived.Laws.IdiomStrings
import Derived.Lib.SmallJoins
import Derived.Test.YtljihmbmjpcfaaaGreatProg
import Derived.Test.YtljihmbmjpcfaaaGreatFrame
namespace Go.Proofs.YtljihmbmjpcfaaaGreat
open Go.RowKit Go.Shelf
set_option maxRecDepth 100000

theorem infoU8 : (Tryz.prog.info? 5).map (fun i => (i.zero, i.size, i.bytes)) = some (some (.int .u8 0), 1, 1) := by kernel_rfl

theorem owns_below {w w' : World} {base : Nat} {e : TypeId} {size : Nat} {v : Value} {n : Nat} {xs : List Value} (h : w.ownsRow base e size v n xs) (hb : Below w.heap.size w w') : w'.ownsRow base e size v n xs :=
  (Kept.of_below hb (Nat.le_refl _) (fun _ => False)).owns h (fun _ _ h => h)
/-- Where a byte of a slice stands. -/
theorem Bs.at {W : World} {A : Option Addr} {n c : Nat} {xs : List UInt8} (h : Bs W (.slice A n c) xs) {i : Nat} (hi : i < xs.length) : ∃ b off, A = some ⟨b, off, none⟩ ∧ W.cell? ⟨b, off + i, none⟩ = some (B8 xs[i]) := by
  cases xs with
  | nil => simp at hi
  | cons x xs =>
    obtain ⟨b, off, c', he, _, hc⟩ := h.cons
    injection he with h1 h2 h3
    exact ⟨b, off, h1, hc i _ (List.getElem?_eq_getElem hi)⟩
/-- A piece of bytes at a plain place. -/
theorem Bs.sub {W : World} {b off m c : Nat} {xs zs : List UInt8} (h : Bs W (.slice (some ⟨b, off, none⟩) m c) xs) (lo : Nat) {k c' o' : Nat} (ho : o' = off + lo) (hk : lo + k ≤ xs.length) (hc : k ≤ c') (hz : zs = (xs.drop lo).take k) : Bs W (.slice (some ⟨b, o', none⟩) k c') zs := by
  subst ho hz
  have hl : ((xs.drop lo).take k).length = k := by simp; omega
  refine .inr ⟨⟨b, off + lo, none⟩, c', by rw [hl], by rw [hl]; exact hc, fun i x hi => ?_⟩
  obtain ⟨h1, h2⟩ := List.getElem?_eq_some_iff.1 hi
  rw [hl] at h1
  obtain ⟨b', off', he, hx⟩ := h.at (i := lo + i) (by omega)
  injection he with he
  injection he with e1 e2
  subst e1 e2
  rw [add_plain, Nat.add_assoc, hx, ← h2]
  simp
/-- No bytes, wherever. -/
theorem Bs.empty (W : World) (ad : Addr) (c : Nat) {n : Nat} {zs : List UInt8} (hn : n = 0) (hz : zs = []) : Bs W (.slice (some ad) n c) zs := by
  subst hn hz
  exact .inr ⟨ad, c, rfl, Nat.zero_le _, fun i x hi => by simp at hi⟩
theorem Bs.len {W : World} {A : Option Addr} {n c : Nat} {xs : List UInt8} (h : Bs W (.slice A n c) xs) : n = xs.length ∧ xs.length ≤ c := by
  obtain ⟨A', c', he, hc⟩ := h.form
  injection he with h1 h2 h3
  subst h3
  exact ⟨h2, hc⟩

/-- A row of bytes of the call's own. -/
abbrev Row (W : World) (n : Nat) (v : Value) (xs : List UInt8) : Prop := W.ownsRow n 5 1 v xs.length (xs.map B8)
theorem row_set {W : World} {n g cap q : Nat} {zs : List UInt8} (h : Row W n (.slice (some ⟨g, 0, none⟩) zs.length cap) zs) (y : UInt8) : Row (W.setCell ⟨g, q, none⟩ (B8 y)) n (.slice (some ⟨g, 0, none⟩) zs.length cap) (zs.set q y) := by
  have h1 := (h.stored q (B8 y)).1
  unfold Row
  rw [List.length_set, List.map_set]
  exact h1
theorem row_cell {W : World} {n g cap : Nat} {zs : List UInt8} (h : Row W n (.slice (some ⟨g, 0, none⟩) zs.length cap) zs) {q : Nat} {y : UInt8} (hy : zs[q]? = some y) : W.cell? ⟨g, q, none⟩ = some (B8 y) := by
  have hq := (List.getElem?_eq_some_iff.1 hy).1
  rw [h.cellAt q (by omega), List.getElem?_map, hy]
  rfl
theorem row_at {W : World} {n m c : Nat} {A : Option Addr} {zs : List UInt8} (h : Row W n (.slice A m c) zs) (hz : 0 < zs.length) : ∃ g, A = some ⟨g, 0, none⟩ ∧ m = zs.length := by
  obtain ⟨A', c', h1, _⟩ := (Bs.of_owns h).form
  obtain ⟨g, m', cap', h2⟩ := owns_form h hz
  injection h1 with _ h3 _
  injection h2 with h4 _ _
  exact ⟨g, h4, h3⟩
theorem inc_u8 (y : UInt8) : B8 (y + 1) = .int .u8 (IntKind.u8.wrap ((y.toNat : Int) + 1)) := by
  unfold B8
  rw [UInt8.toNat_add, IntKind.wrap_u8]
  congr 1

/-- A new slice of these bytes. -/
def Made (w : World) (xs : List UInt8) (e : Ending) (W' : World) : Prop :=
  ∃ v', e = .returned v' ∧ W'.ownsRow w.heap.size 5 1 v' xs.length (xs.map B8) ∧ Below w.heap.size w W'

/-- Bytes of a constant string. -/
theorem const_bytes (w : World) (s : List UInt8) (k : Nat) (hk : s.length = k) (C : Array Value) (hC : C = (s.map B8).toArray) (g : Nat) (hg : g = w.heap.size) : ∃ (W' : World), (convert 22 22 (.slice (some ⟨g, 0, none⟩) k k)).run Tryz.prog (w.alloc (.cells C 5)) = .ok (.slice (some ⟨g, 0, none⟩) k k) W' ∧ Bs W' (.slice (some ⟨g, 0, none⟩) k k) s ∧ Below w.heap.size w W' := by
  subst hg hC hk
  refine ⟨_, Lib.run_convert_bytes_const w 22 5 _ _ _ Tryz.underlying22 Tryz.underlying5, .inr ⟨_, _, rfl, Nat.le_refl _, fun i y hy => ?_⟩, (Below.refl _ w).alloc (Nat.le_refl _) _⟩
  rw [add_plain, Nat.zero_add]
  refine (World.cell?_alloc_mark w _ _ _ i).trans ?_
  simp [hy]
end Go.Proofs.YtljihmbmjpcfaaaGreat
namespace Go.Proofs.YtljihmbmjpcfaaaGreat

/-- A number's bytes, with fuel. -/
def lebF : Nat → Nat → List UInt8
  | 0, n => [UInt8.ofNat n]
  | k + 1, n => if n < 128 then [UInt8.ofNat n] else UInt8.ofNat (n % 128 + 128) :: lebF k (n / 128)
/-- A number's bytes. -/
def lebB (n : Nat) : List UInt8 := lebF n n

theorem lebF_fuel : ∀ (k m n : Nat), n ≤ k → n ≤ m → lebF k n = lebF m n := by
  intro k
  induction k with
  | zero => intro m n h _; obtain rfl : n = 0 := by omega
            cases m <;> simp [lebF]
  | succ k ih =>
    intro m n h h'
    cases m with
    | zero => obtain rfl : n = 0 := by omega
              simp [lebF]
    | succ m =>
      simp only [lebF]
      split
      · rfl
      · rw [ih m (n / 128) (by omega) (by omega)]

theorem lebB_small {n : Nat} (h : n < 128) : lebB n = [UInt8.ofNat n] := by
  unfold lebB
  cases n <;> simp [lebF, h]
theorem lebB_great {n : Nat} (h : 128 ≤ n) : lebB n = UInt8.ofNat (n % 128 + 128) :: lebB (n / 128) := by
  unfold lebB
  cases n with
  | zero => omega
  | succ k => rw [lebF, if_neg (by omega), lebF_fuel k ((k + 1) / 128) _ (by omega) (by omega)]
theorem lebB_pos (n : Nat) : 0 < (lebB n).length := by
  by_cases h : n < 128
  · rw [lebB_small h]; simp
  · rw [lebB_great (by omega)]; simp
/-- Of a number below 128^k at most k bytes. -/
theorem lebB_le : ∀ (k n : Nat), n < 128 ^ (k + 1) → (lebB n).length ≤ k + 1 := by
  intro k
  induction k with
  | zero => intro n h; rw [lebB_small (by simpa using h)]; simp
  | succ k ih =>
    intro n h
    by_cases h1 : n < 128
    · rw [lebB_small h1]; simp
    · rw [lebB_great (by omega)]
      have := ih (n / 128) (by rw [Nat.div_lt_iff_lt_mul (by omega)]; rw [Nat.pow_succ] at h; exact h)
      simp; omega
theorem lebB_u64 {n : Nat} (h : n < 18446744073709551616) : (lebB n).length ≤ 10 := lebB_le 9 n (by omega)


/-- What stands at the front, read as a number: the error, the number, what is left behind the bytes that were looked at. -/
def scan (p n : Nat) : List UInt8 → Int × Nat × List UInt8
  | [] => (10, 0, [])
  | b :: bs => if (p = 9 ∧ 1 < b.toNat) ∨ (0 < p ∧ b.toNat = 0) then (11, 0, bs) else if b.toNat < 128 then (0, n + b.toNat * 128 ^ p, bs) else scan (p + 1) (n + b.toNat % 128 * 128 ^ p) bs

theorem pow_step {m p x : Nat} (hm : m < 128 ^ p) : m + x % 128 * 128 ^ p < 128 ^ (p + 1) := by
  have h1 : x % 128 < 128 := Nat.mod_lt _ (by omega)
  have h2 : (x % 128 + 1) * 128 ^ p ≤ 128 * 128 ^ p := Nat.mul_le_mul_right _ (by omega)
  rw [Nat.add_mul, Nat.one_mul] at h2
  rw [Nat.pow_succ, Nat.mul_comm (128 ^ p)]
  omega
theorem pow9 {p : Nat} (h : p ≤ 9) : 128 ^ p ≤ 9223372036854775808 := Nat.le_trans (Nat.pow_le_pow_right (by omega) h) (by decide)
theorem step_lt {m p x : Nat} (hm : m < 128 ^ p) (hp : p ≤ 9) (hx : p < 9 ∨ x ≤ 1) : m + x % 128 * 128 ^ p < 18446744073709551616 := by
  rcases hx with h | h
  · have h1 := pow_step (x := x) hm
    have h2 := pow9 (p := p + 1) (by omega)
    omega
  · have h1 := pow9 hp
    have h2 : x % 128 * 128 ^ p ≤ 1 * 128 ^ p := Nat.mul_le_mul_right _ (by omega)
    omega
theorem or_step {m p x : Nat} (hm : m < 128 ^ p) (hp : p ≤ 9) (hx : p < 9 ∨ x ≤ 1) : m ||| (x % 128 * 128 ^ p) % 18446744073709551616 = m + x % 128 * 128 ^ p := by
  have h0 := step_lt hm hp hx
  rw [Nat.mod_eq_of_lt (by omega)]
  have h128 : (128 : Nat) ^ p = 2 ^ (7 * p) := by rw [Nat.pow_mul]
  rw [h128] at hm ⊢
  have := Nat.two_pow_add_eq_or_of_lt hm (x % 128)
  rw [Nat.or_comm, Nat.mul_comm (x % 128), ← this]
  omega

theorem scan_form {p n : Nat} {b : UInt8} (bs : List UInt8) (h : (p = 9 ∧ 1 < b.toNat) ∨ (0 < p ∧ b.toNat = 0)) : scan p n (b :: bs) = (11, 0, bs) := by rw [scan, if_pos h]
theorem scan_last {p n : Nat} {b : UInt8} (bs : List UInt8) (h : ¬ ((p = 9 ∧ 1 < b.toNat) ∨ (0 < p ∧ b.toNat = 0))) (hb : b.toNat < 128) : scan p n (b :: bs) = (0, n + b.toNat * 128 ^ p, bs) := by rw [scan, if_neg h, if_pos hb]
theorem scan_more {p n : Nat} {b : UInt8} (bs : List UInt8) (h : ¬ ((p = 9 ∧ 1 < b.toNat) ∨ (0 < p ∧ b.toNat = 0))) (hb : ¬ b.toNat < 128) : scan p n (b :: bs) = scan (p + 1) (n + b.toNat % 128 * 128 ^ p) bs := by rw [scan, if_neg h, if_neg hb]

theorem scan_le : ∀ (xs : List UInt8) (p n : Nat), (scan p n xs).2.2.length ≤ xs.length
  | [], _, _ => by simp [scan]
  | b :: bs, p, n => by
    unfold scan
    split
    · simp
    · split
      · simp
      · have := scan_le bs (p + 1) (n + b.toNat % 128 * 128 ^ p); simp; omega

theorem toNat_small {n : Nat} (h : n < 256) : (UInt8.ofNat n).toNat = n := by rw [UInt8.toNat_ofNat', Nat.mod_eq_of_lt h]

/-- A number's bytes, with whatever is behind them, are read as the number. -/
theorem scan_lebB (rest : List UInt8) : ∀ (n k p m : Nat), k ≤ n → (p = 0 ∨ 0 < k) → k * 128 ^ p < 18446744073709551616 → scan p m (lebB k ++ rest) = (0, m + k * 128 ^ p, rest) := by
  intro n
  induction n with
  | zero =>
    intro k p m hk hp _
    obtain rfl : k = 0 := by omega
    obtain rfl : p = 0 := by omega
    simp [lebB, lebF, scan]
  | succ n ih =>
    intro k p m hk hp hb
    have h9 : p = 9 → k ≤ 1 := by rintro rfl; simp at hb; omega
    by_cases h : k < 128
    · rw [lebB_small h, List.singleton_append, scan_last rest (by rw [toNat_small (by omega)]; omega) (by rw [toNat_small (by omega)]; exact h), toNat_small (by omega)]
    · have h1 : (UInt8.ofNat (k % 128 + 128)).toNat = k % 128 + 128 := toNat_small (by omega)
      have h2 : k / 128 * 128 ^ (p + 1) + k % 128 * 128 ^ p = k * 128 ^ p := by
        rw [Nat.pow_succ, Nat.mul_comm (128 ^ p) 128, ← Nat.mul_assoc, ← Nat.add_mul]
        congr 1
        omega
      rw [lebB_great (by omega), List.cons_append, scan_more _ (by rw [h1]; omega) (by rw [h1]; omega), h1, ih (k / 128) (p + 1) _ (by omega) (by omega) (by omega)]
      have h3 : (k % 128 + 128) % 128 = k % 128 := by omega
      rw [h3, Nat.add_assoc, Nat.add_comm (k % 128 * 128 ^ p), h2]

/-- What is read as a number begins with its bytes. -/
theorem scan_inv : ∀ (xs : List UInt8) (p m n : Nat) (rest : List UInt8), p ≤ 9 → scan p m xs = (0, n, rest) → ∃ k, xs = lebB k ++ rest ∧ n = m + k * 128 ^ p ∧ (p = 0 ∨ 0 < k) ∧ k * 128 ^ p < 18446744073709551616 := by
  intro xs
  induction xs with
  | nil => intro p m n rest _ h; simp [scan] at h
  | cons b bs ih =>
    intro p m n rest hp h
    have hb := b.toNat_lt
    have h9 := pow9 hp
    by_cases hf : (p = 9 ∧ 1 < b.toNat) ∨ (0 < p ∧ b.toNat = 0)
    · rw [scan_form bs hf] at h; simp at h
    · by_cases hl : b.toNat < 128
      · rw [scan_last bs hf hl] at h
        simp only [Prod.mk.injEq, true_and] at h
        obtain ⟨rfl, rfl⟩ := h
        refine ⟨b.toNat, by rw [lebB_small hl]; simp, rfl, by omega, ?_⟩
        have := step_lt (m := 0) (p := p) (x := b.toNat) (Nat.pow_pos (by omega)) hp (by omega)
        rw [Nat.mod_eq_of_lt hl] at this
        omega
      · rw [scan_more bs hf hl] at h
        obtain ⟨k, rfl, rfl, hk, hlt⟩ := ih (p + 1) _ n rest (by omega) h
        have hk0 : 0 < k := by omega
        have e1 : (b.toNat % 128 + 128 * k) % 128 = b.toNat % 128 := by omega
        have e2 : (b.toNat % 128 + 128 * k) / 128 = k := by omega
        have e3 : k * 128 ^ (p + 1) + b.toNat % 128 * 128 ^ p = (b.toNat % 128 + 128 * k) * 128 ^ p := by
          rw [Nat.pow_succ, Nat.mul_comm (128 ^ p) 128, ← Nat.mul_assoc, ← Nat.add_mul]
          congr 1
          omega
        refine ⟨b.toNat % 128 + 128 * k, ?_, by rw [← e3]; omega, by omega, ?_⟩
        · rw [lebB_great (n := b.toNat % 128 + 128 * k) (by omega), e1, e2, show b.toNat % 128 + 128 = b.toNat by omega]
          simp
        · rw [← e3]
          have h8 : p + 1 ≤ 9 := by omega
          have hpp := pow9 h8
          have : b.toNat % 128 * 128 ^ p < 128 ^ (p + 1) := by have := pow_step (m := 0) (p := p) (x := b.toNat) (Nat.pow_pos (by omega)); omega
          -- k * 128 ^ (p + 1) is a multiple of 128 ^ (p + 1), as 2 ^ 64 is
          have hdvd : ∃ q, 18446744073709551616 = q * 128 ^ (p + 1) := ⟨2 ^ (64 - 7 * (p + 1)), by rw [show (128 : Nat) ^ (p + 1) = 2 ^ (7 * (p + 1)) by rw [Nat.pow_mul], ← Nat.pow_add, show 64 - 7 * (p + 1) + 7 * (p + 1) = 64 by omega]⟩
          obtain ⟨q, hq⟩ := hdvd
          have hkq : k + 1 ≤ q := by
            rcases Nat.lt_or_ge k q with h' | h'
            · omega
            · have := Nat.mul_le_mul_right (128 ^ (p + 1)) h'
              omega
          have := Nat.mul_le_mul_right (128 ^ (p + 1)) hkq
          rw [Nat.add_mul, Nat.one_mul] at this
          omega

theorem scan_read {k : Nat} (hk : k < 18446744073709551616) (rest : List UInt8) : scan 0 0 (lebB k ++ rest) = (0, k, rest) := by
  have := scan_lebB rest k k 0 0 (Nat.le_refl _) (.inl rfl) (by simpa using hk)
  simpa using this
theorem scan_told {xs : List UInt8} {n : Nat} {rest : List UInt8} (h : scan 0 0 xs = (0, n, rest)) : xs = lebB n ++ rest ∧ n < 18446744073709551616 := by
  obtain ⟨k, h1, h2, _, h3⟩ := scan_inv xs 0 0 n rest (by omega) h
  simp at h2 h3
  subst h2
  exact ⟨h1, h3⟩
theorem lebB_begins {a b : Nat} (ha : a < 18446744073709551616) (hb : b < 18446744073709551616) (t : List UInt8) (h : lebB b = lebB a ++ t) : a = b := by
  have h1 := scan_read ha t
  have h2 := scan_read hb []
  rw [List.append_nil, h, h1] at h2
  simp at h2
  exact h2.1
theorem lebB_mono : ∀ (n a b : Nat), b ≤ n → a ≤ b → (lebB a).length ≤ (lebB b).length := by
  intro n
  induction n with
  | zero => intro a b h h'; obtain rfl : a = b := by omega
            exact Nat.le_refl _
  | succ n ih =>
    intro a b h h'
    by_cases hb : b < 128
    · rw [lebB_small hb, lebB_small (by omega)]; simp
    · rw [lebB_great (n := b) (by omega)]
      by_cases ha : a < 128
      · rw [lebB_small ha]; simp
      · rw [lebB_great (n := a) (by omega)]
        have := ih (a / 128) (b / 128) (by omega) (Nat.div_le_div_right h')
        simp; omega

theorem scan_err : ∀ (xs : List UInt8) (p n : Nat), (scan p n xs).1 = 0 ∨ ((scan p n xs).1 = 10 ∨ (scan p n xs).1 = 11) ∧ (scan p n xs).2.1 = 0
  | [], _, _ => .inr ⟨.inl rfl, rfl⟩
  | b :: bs, p, n => by
    unfold scan
    split
    · exact .inr ⟨.inr rfl, rfl⟩
    · split
      · exact .inl rfl
      · exact scan_err bs _ _

end Go.Proofs.YtljihmbmjpcfaaaGreat
