/- The reference's Set. -/
import Derived.Test.YtcclifnhbncfcaaHashRefLess
namespace Go.Proofs.Ytcclifnhbncfcaa
open Go.RowKit
set_option maxRecDepth 100000

/-- Put in at its place. -/
def insI (x : List UInt8) (out : List (List UInt8)) : List (List UInt8) := out.takeWhile (fun y => decide (cmpB y x < 0)) ++ [x] ++ out.dropWhile (fun y => decide (cmpB y x < 0))
/-- The set, as one after the other comes. -/
def setI (l : List (List UInt8)) : List (List UInt8) := l.foldl (fun out x => if x ∈ out then out else insI x out) []
theorem setI_succ {l : List (List UInt8)} {k : Nat} {x : List UInt8} (hx : l[k]? = some x) : setI (l.take (k + 1)) = if x ∈ setI (l.take k) then setI (l.take k) else insI x (setI (l.take k)) := by
  unfold setI
  rw [List.take_add_one, hx, List.foldl_append]
  rfl
theorem insI_length (x : List UInt8) (out : List (List UInt8)) : (insI x out).length = out.length + 1 := by
  have h := congrArg List.length (List.takeWhile_append_dropWhile (p := fun y => decide (cmpB y x < 0)) (l := out))
  rw [List.length_append] at h
  simp only [insI, List.length_append, List.length_cons, List.length_nil]
  omega
theorem setI_length : ∀ (l : List (List UInt8)) (k : Nat), k ≤ l.length → (setI (l.take k)).length ≤ k := by
  intro l k
  induction k with
  | zero => intro _; simp [setI]
  | succ k ih =>
    intro h
    have h1 := ih (by omega)
    rw [setI_succ (List.getElem?_eq_getElem (by omega : k < l.length))]
    split
    · omega
    · rw [insI_length]; omega
/-- Where the first one stands that is not ahead. -/
theorem takeWhile_at {p : List UInt8 → Bool} {out : List (List UInt8)} {n : Nat} (h1 : ∀ i y, i < n → out[i]? = some y → p y = true) (h2 : n = out.length ∨ ∃ y, out[n]? = some y ∧ p y = false) (hn : n ≤ out.length) : out.takeWhile p = out.take n ∧ out.dropWhile p = out.drop n := by
  induction out generalizing n with
  | nil => simp at hn; subst hn; exact ⟨rfl, rfl⟩
  | cons y out ih =>
    cases n with
    | zero =>
      rcases h2 with h2 | ⟨z, hz, hp⟩
      · simp at h2
      · simp at hz
        subst hz
        simp [List.takeWhile, List.dropWhile, hp]
    | succ n =>
      have hy := h1 0 y (by omega) rfl
      obtain ⟨e1, e2⟩ := ih (n := n) (fun i z hi hz => h1 (i + 1) z (by omega) (by simpa using hz)) (by rcases h2 with h2 | ⟨z, hz, hp⟩; exact .inl (by simpa using h2); exact .inr ⟨z, by simpa using hz, hp⟩) (by simpa using hn)
      simp [List.takeWhile, List.dropWhile, hy, e1, e2]

end Go.Proofs.Ytcclifnhbncfcaa
