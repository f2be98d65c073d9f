/- Names of refs in plain lists: which byte may stand there, parts, the first rule that is broken. -/
import Derived.Test.YtldgnkngjdgiaaaDoorKit
namespace Go.Proofs.YtldgnkngjdgiaaaDoor

/-- May a byte stand in a name? -/
def mayB (c : UInt8) : Bool := decide (33 ≤ c.toNat) && decide (c.toNat ≤ 126) && c != 126 && c != 94 && c != 58 && c != 63 && c != 42 && c != 91 && c != 92
/-- What stands between slashes, the first one begun. -/
def splitS : List UInt8 → List UInt8 → List (List UInt8)
  | cur, [] => [cur]
  | cur, c :: s => if c = 47 then cur :: splitS [] s else splitS (cur ++ [c]) s
def partsB (s : List UInt8) : List (List UInt8) := splitS [] s
/-- Do these two stand together? -/
def hasPair (a b : UInt8) : List UInt8 → Bool
  | x :: y :: r => (x == a && y == b) || hasPair a b (y :: r)
  | _ => false
def lockB : List UInt8 := [46, 108, 111, 99, 107]
def endsLock (p : List UInt8) : Bool := decide (5 ≤ p.length) && (p.drop (p.length - 5) == lockB)
/-- The first rule that is broken. -/
def breaksB (s : List UInt8) : Nat :=
  if s.length < 1 ∨ 100 < s.length then 1
  else if (s.any fun c => !mayB c) = true then 2
  else if ((partsB s).any fun p => p == []) = true then 3
  else if ((partsB s).any fun p => p[0]? == some 46) = true then 4
  else if hasPair 46 46 s = true then 5
  else if ((partsB s).any endsLock) = true then 6
  else if (s[s.length - 1]? == some 46) = true then 7
  else if hasPair 64 123 s = true then 8
  else 0

theorem splitS_len : ∀ (s cur : List UInt8), (splitS cur s).length ≤ s.length + 1
  | [], _ => by simp [splitS]
  | c :: s, cur => by
    rw [splitS]
    split
    · have := splitS_len s []; simp only [List.length_cons]; omega
    · have := splitS_len s (cur ++ [c]); simp only [List.length_cons]; omega
theorem partsB_len (s : List UInt8) : (partsB s).length ≤ s.length + 1 := splitS_len s []
theorem splitS_part : ∀ (s cur : List UInt8), ∀ p ∈ splitS cur s, p.length ≤ cur.length + s.length
  | [], cur, p, hp => by simp [splitS] at hp; subst hp; simp
  | c :: s, cur, p, hp => by
    rw [splitS] at hp
    split at hp
    · rcases List.mem_cons.1 hp with rfl | hp
      · simp
      · have := splitS_part s [] p hp; simp only [List.length_cons, List.length_nil] at *; omega
    · have := splitS_part s (cur ++ [c]) p hp; simp only [List.length_append, List.length_cons, List.length_nil] at *; omega
theorem partsB_part (s : List UInt8) : ∀ p ∈ partsB s, p.length ≤ s.length := fun p hp => by
  have := splitS_part s [] p hp
  simpa using this

theorem hasPair_cons (a b x y : UInt8) (r : List UInt8) : hasPair a b (x :: y :: r) = ((x == a && y == b) || hasPair a b (y :: r)) := rfl
theorem hasPair_iff (a b : UInt8) : ∀ (s : List UInt8), hasPair a b s = true ↔ ∃ j, s[j]? = some a ∧ s[j + 1]? = some b
  | [] => by simp [hasPair]
  | [x] => by
    simp only [hasPair]
    constructor
    · intro h; cases h
    · rintro ⟨j, _, h⟩
      cases j <;> simp at h
  | x :: y :: r => by
    rw [hasPair_cons, Bool.or_eq_true, hasPair_iff a b (y :: r)]
    constructor
    · rintro (h | ⟨j, h1, h2⟩)
      · simp only [Bool.and_eq_true, beq_iff_eq] at h
        exact ⟨0, by simp [h.1], by simp [h.2]⟩
      · exact ⟨j + 1, by simpa using h1, by simpa using h2⟩
    · rintro ⟨j, h1, h2⟩
      cases j with
      | zero => left; simp at h1 h2; simp [h1, h2]
      | succ j => right; exact ⟨j, by simpa using h1, by simpa using h2⟩
/-- Up to place k none stands together. -/
def noPair (a b : UInt8) (s : List UInt8) (k : Nat) : Prop := ∀ j, j + 1 < k → ¬ (s[j]? = some a ∧ s[j + 1]? = some b)
theorem noPair_all {a b : UInt8} {s : List UInt8} (h : noPair a b s s.length) : hasPair a b s = false := by
  cases hb : hasPair a b s with
  | false => rfl
  | true =>
    obtain ⟨j, h1, h2⟩ := (hasPair_iff a b s).1 hb
    exact absurd ⟨h1, h2⟩ (h j (List.getElem?_eq_some_iff.1 h2).1)
theorem noPair_succ {a b : UInt8} {s : List UInt8} {k : Nat} (h : noPair a b s k) {x y : UInt8} {p : Nat} (hp : k = p + 1) (hx : s[p]? = some x) (hy : s[k]? = some y) (hn : ¬ (x = a ∧ y = b)) : noPair a b s (k + 1) := fun j hj => by
  subst hp
  by_cases hjp : j = p
  · subst hjp
    rintro ⟨h1, h2⟩
    rw [hx] at h1
    rw [hy] at h2
    cases h1
    cases h2
    exact hn ⟨rfl, rfl⟩
  · exact h j (by omega)
theorem pair_at {a b : UInt8} {s : List UInt8} {p : Nat} (hx : s[p]? = some a) (hy : s[p + 1]? = some b) : hasPair a b s = true := (hasPair_iff a b s).2 ⟨p, hx, hy⟩
end Go.Proofs.YtldgnkngjdgiaaaDoor
