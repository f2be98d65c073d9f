/- A Source and the reference's Source, apart, with the same bytes left. -/
import Derived.Test.YtbkbogblbniogaaLebThree
import Derived.Test.YtbkbogblbniogaaLebRefNum
namespace Go.Proofs.Ytbkbogblbniogaa
open Go.RowKit

structure Pair (W : World) (gs gr : Nat) (v u : Value) (xs ys : List UInt8) : Prop where
  src : SourceAt W gs v xs
  ref : RefAt W gr u ys
  ne : gs ≠ gr
  vr : v.ownBlock ≠ some gr
  us : u.ownBlock ≠ some gs

theorem Pair.kept {T : Nat → Prop} {W W' : World} {gs gr : Nat} {v u : Value} {xs ys : List UInt8} (h : Pair W gs gr v u xs ys) (k : Kept T W W') (h1 : ¬ T gs) (h2 : ¬ T gr) (hv : ∀ j, v.ownBlock = some j → ¬ T j) (hu : ∀ j, u.ownBlock = some j → ¬ T j) : Pair W' gs gr v u xs ys :=
  ⟨h.src.kept k h1 hv, h.ref.kept k h2 hu, h.ne, h.vr, h.us⟩
theorem Pair.below {W W' : World} {gs gr : Nat} {v u : Value} {xs ys : List UInt8} (h : Pair W gs gr v u xs ys) (hb : Below W.heap.size W W') : Pair W' gs gr v u xs ys :=
  h.kept (T := fun _ => False) (Kept.of_below hb (Nat.le_refl _) _) (fun h => h) (fun h => h) (fun _ _ h => h) (fun _ _ h => h)
/-- A row that is newer than the two has turned. -/
theorem Pair.turned {W W' : World} {gs gr m : Nat} {v u x : Value} {xs ys : List UInt8} (h : Pair W gs gr v u xs ys) (hx : ∀ j, x.ownBlock = some j → m ≤ j) (h1 : gs < m) (h2 : gr < m) (hv : ∀ j, v.ownBlock = some j → j < m) (hu : ∀ j, u.ownBlock = some j → j < m) (k : Kept (fun j => x.ownBlock = some j) W W') : Pair W' gs gr v u xs ys :=
  h.kept k (fun t => by have := hx _ t; omega) (fun t => by have := hx _ t; omega) (fun j hj t => by have := hx _ t; have := hv _ hj; omega) (fun j hj t => by have := hx _ t; have := hu _ hj; omega)
theorem Pair.reads {W W' : World} {gs gr : Nat} {v u : Value} {xs xs' ys : List UInt8} (h : Pair W gs gr v u xs ys) (hr : SourceRead W gs v xs' W') : ∃ v', Pair W' gs gr v' u xs' ys ∧ v'.ownBlock = v.ownBlock := by
  obtain ⟨v', h1, k, h3⟩ := hr
  exact ⟨v', ⟨h1, h.ref.kept k (fun e => h.ne e.symm) (fun j hj e => h.us (e ▸ hj)), h.ne, h3 ▸ h.vr, h.us⟩, h3⟩
theorem Pair.refs {W W' : World} {gs gr : Nat} {v u : Value} {xs ys ys' : List UInt8} (h : Pair W gs gr v u xs ys) (hr : RefRead W gr u ys' W') : ∃ u', Pair W' gs gr v u' xs ys' ∧ u'.ownBlock = u.ownBlock := by
  obtain ⟨u', h1, k, h3⟩ := hr
  exact ⟨u', ⟨h.src.kept k h.ne (fun j hj e => h.vr (e ▸ hj)), h1, h.ne, h.vr, h3 ▸ h.us⟩, h3⟩
theorem SourceRead.below {W W' : World} {n gs : Nat} {v : Value} {xs : List UInt8} (hn : n ≤ W.heap.size) (hg : n ≤ gs) (h : SourceRead W gs v xs W') : Below n W W' := by
  obtain ⟨_, _, k, _⟩ := h
  exact k.below (fun j _ t => by omega) hn
theorem RefRead.below {W W' : World} {n gs : Nat} {v : Value} {xs : List UInt8} (hn : n ≤ W.heap.size) (hg : n ≤ gs) (h : RefRead W gs v xs W') : Below n W W' := by
  obtain ⟨_, _, k, _⟩ := h
  exact k.below (fun j _ t => by omega) hn
theorem RefRead.row {W W' : World} {n gr m : Nat} {u x : Value} {ys zs : List UInt8} (h : RefRead W gr u ys W') (hr : Row W n x zs) (hx : ∀ j, x.ownBlock = some j → m ≤ j) (hm : gr < m) : Row W' n x zs := by
  obtain ⟨_, _, k, _⟩ := h
  exact k.owns hr (fun j hj e => by have := hx j hj; omega)

theorem back_le {α : Type} {xs : List UInt8} {r : Int × α × List UInt8} (h : r.2.2.length ≤ xs.length) : (back xs r).2.2.length ≤ xs.length := by
  unfold back
  dsimp only
  split <;> omega
theorem rawRes_left (n : Int) (xs : List UInt8) : (rawRes n xs).2.2.length ≤ xs.length := by
  unfold rawRes
  split
  · simp
  · split <;> simp
theorem bytesRes_left (n : Int) (xs : List UInt8) : (bytesRes n xs).2.2.length ≤ xs.length := by
  unfold bytesRes
  have h := numRes_left n.toNat xs
  split
  · exact h
  · exact Nat.le_trans (rawRes_left _ _) h
theorem rawRes_got (n : Int) (xs : List UInt8) : (rawRes n xs).2.1.length ≤ xs.length := by
  unfold rawRes
  split
  · simp
  · split
    · simp
    · simp; omega
theorem bytesRes_got (n : Int) (xs : List UInt8) : (bytesRes n xs).2.1.length ≤ xs.length := by
  unfold bytesRes
  have h := numRes_left n.toNat xs
  split
  · simp
  · exact Nat.le_trans (rawRes_got _ _) h
end Go.Proofs.Ytbkbogblbniogaa
