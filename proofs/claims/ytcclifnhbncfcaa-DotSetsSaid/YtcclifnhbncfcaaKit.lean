/- What all walks of this seat lean on: the byte's row of the program's table; a new slice of bytes. -/
import Derived.RangeFuncNested
import Derived.RangeFuncBound
import Derived.RangeFuncCalls
import Derived.RangeFuncLeaves
import Derived.RangeFuncBox
import Derived.Shelf.Abstract
import Derived.Shelf.RegionOpen
import Derived.WalkKit
import Derived.WalkSpells
import Derived.WalkLawsBesides
import Derived.Lib.SliceRun
import Derived.OwnWalkIn
import Derived.TacticsInMore
import Derived.LoopNIn
import Derived.LoopIn
import Derived.Maps.AppendAt
import Derived.Lib.Hide
import Derived.Outline
import Derived.IntWalk
import Derived.Laws.BitsAllLaws
import Derived.BigQuiet
import Derived.Laws.IdiomStrings
import Derived.Lib.SmallJoins
import Derived.Test.YtcclifnhbncfcaaProg
import Derived.Test.YtcclifnhbncfcaaFrame
namespace Go.Proofs.Ytcclifnhbncfcaa
open Go.RowKit Go.Shelf
set_option maxRecDepth 100000

theorem infoU8 : (Try.prog.info? 5).map (fun i => (i.zero, i.size, i.bytes)) = some (some (.int .u8 0), 1, 1) := by kernel_rfl

theorem owns_below {w w' : World} {base : Nat} {e : TypeId} {size : Nat} {v : Value} {n : Nat} {xs : List Value} (h : w.ownsRow base e size v n xs) (hb : Below w.heap.size w w') : w'.ownsRow base e size v n xs :=
  (Kept.of_below hb (Nat.le_refl _) (fun _ => False)).owns h (fun _ _ h => h)
/-- Where a byte of a slice stands. -/
theorem Bs.at {W : World} {A : Option Addr} {n c : Nat} {xs : List UInt8} (h : Bs W (.slice A n c) xs) {i : Nat} (hi : i < xs.length) : ∃ b off, A = some ⟨b, off, none⟩ ∧ W.cell? ⟨b, off + i, none⟩ = some (B8 xs[i]) := by
  cases xs with
  | nil => simp at hi
  | cons x xs =>
    obtain ⟨b, off, c', he, _, hc⟩ := h.cons
    injection he with h1 h2 h3
    exact ⟨b, off, h1, hc i _ (List.getElem?_eq_getElem hi)⟩
/-- A piece of bytes at a plain place. -/
theorem Bs.sub {W : World} {b off m c : Nat} {xs zs : List UInt8} (h : Bs W (.slice (some ⟨b, off, none⟩) m c) xs) (lo : Nat) {k c' o' : Nat} (ho : o' = off + lo) (hk : lo + k ≤ xs.length) (hc : k ≤ c') (hz : zs = (xs.drop lo).take k) : Bs W (.slice (some ⟨b, o', none⟩) k c') zs := by
  subst ho hz
  have hl : ((xs.drop lo).take k).length = k := by simp; omega
  refine .inr ⟨⟨b, off + lo, none⟩, c', by rw [hl], by rw [hl]; exact hc, fun i x hi => ?_⟩
  obtain ⟨h1, h2⟩ := List.getElem?_eq_some_iff.1 hi
  rw [hl] at h1
  obtain ⟨b', off', he, hx⟩ := h.at (i := lo + i) (by omega)
  injection he with he
  injection he with e1 e2
  subst e1 e2
  rw [add_plain, Nat.add_assoc, hx, ← h2]
  simp
/-- No bytes, wherever. -/
theorem Bs.empty (W : World) (ad : Addr) (c : Nat) {n : Nat} {zs : List UInt8} (hn : n = 0) (hz : zs = []) : Bs W (.slice (some ad) n c) zs := by
  subst hn hz
  exact .inr ⟨ad, c, rfl, Nat.zero_le _, fun i x hi => by simp at hi⟩
theorem Bs.len {W : World} {A : Option Addr} {n c : Nat} {xs : List UInt8} (h : Bs W (.slice A n c) xs) : n = xs.length ∧ xs.length ≤ c := by
  obtain ⟨A', c', he, hc⟩ := h.form
  injection he with h1 h2 h3
  subst h3
  exact ⟨h2, hc⟩

/-- A row of bytes of the call's own. -/
abbrev Row (W : World) (n : Nat) (v : Value) (xs : List UInt8) : Prop := W.ownsRow n 5 1 v xs.length (xs.map B8)
theorem row_set {W : World} {n g cap q : Nat} {zs : List UInt8} (h : Row W n (.slice (some ⟨g, 0, none⟩) zs.length cap) zs) (y : UInt8) : Row (W.setCell ⟨g, q, none⟩ (B8 y)) n (.slice (some ⟨g, 0, none⟩) zs.length cap) (zs.set q y) := by
  have h1 := (h.stored q (B8 y)).1
  unfold Row
  rw [List.length_set, List.map_set]
  exact h1
theorem row_cell {W : World} {n g cap : Nat} {zs : List UInt8} (h : Row W n (.slice (some ⟨g, 0, none⟩) zs.length cap) zs) {q : Nat} {y : UInt8} (hy : zs[q]? = some y) : W.cell? ⟨g, q, none⟩ = some (B8 y) := by
  have hq := (List.getElem?_eq_some_iff.1 hy).1
  rw [h.cellAt q (by omega), List.getElem?_map, hy]
  rfl
theorem row_at {W : World} {n m c : Nat} {A : Option Addr} {zs : List UInt8} (h : Row W n (.slice A m c) zs) (hz : 0 < zs.length) : ∃ g, A = some ⟨g, 0, none⟩ ∧ m = zs.length := by
  obtain ⟨A', c', h1, _⟩ := (Bs.of_owns h).form
  obtain ⟨g, m', cap', h2⟩ := owns_form h hz
  injection h1 with _ h3 _
  injection h2 with h4 _ _
  exact ⟨g, h4, h3⟩
theorem inc_u8 (y : UInt8) : B8 (y + 1) = .int .u8 (IntKind.u8.wrap ((y.toNat : Int) + 1)) := by
  unfold B8
  rw [UInt8.toNat_add, IntKind.wrap_u8]
  congr 1

/-- A new slice of these bytes. -/
def Made (w : World) (xs : List UInt8) (e : Ending) (W' : World) : Prop :=
  ∃ v', e = .returned v' ∧ W'.ownsRow w.heap.size 5 1 v' xs.length (xs.map B8) ∧ Below w.heap.size w W'

/-- Bytes of a constant string. -/
theorem const_bytes (w : World) (s : List UInt8) (k : Nat) (hk : s.length = k) (C : Array Value) (hC : C = (s.map B8).toArray) (g : Nat) (hg : g = w.heap.size) : ∃ (W' : World), (convert 49 49 (.slice (some ⟨g, 0, none⟩) k k)).run Try.prog (w.alloc (.cells C 5)) = .ok (.slice (some ⟨g, 0, none⟩) k k) W' ∧ Bs W' (.slice (some ⟨g, 0, none⟩) k k) s ∧ Below w.heap.size w W' := by
  subst hg hC hk
  refine ⟨_, Lib.run_convert_bytes_const w 49 5 _ _ _ Try.underlying49 Try.underlying5, .inr ⟨_, _, rfl, Nat.le_refl _, fun i y hy => ?_⟩, (Below.refl _ w).alloc (Nat.le_refl _) _⟩
  rw [add_plain, Nat.zero_add]
  refine (World.cell?_alloc_mark w _ _ _ i).trans ?_
  simp [hy]
end Go.Proofs.Ytcclifnhbncfcaa
