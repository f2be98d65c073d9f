/- Of: the sum of any number of parts. -/
import Derived.Test.YtbclhjcnopfegaaSumOn
namespace Go.Proofs.Ytbclhjcnopfegaa
open Go.RowKit

/-- A slice of slices that read as these bytes. -/
def Ps (W : World) (v : Value) (l : List (Value × List UInt8)) : Prop :=
  ∃ A c, v = .slice A l.length c ∧ ∀ i p, l[i]? = some p → (∃ b off, A = some ⟨b, off, none⟩ ∧ W.cell? ⟨b, off + i, none⟩ = some p.1) ∧ Bs W p.1 p.2
/-- The parts' bytes, one behind the other. -/
def flat (l : List (Value × List UInt8)) : List UInt8 := (l.map (·.2)).flatten
theorem flat_take_succ (l : List (Value × List UInt8)) (k : Nat) (p : Value × List UInt8) (h : l[k]? = some p) : flat (l.take (k + 1)) = flat (l.take k) ++ p.2 := by
  unfold flat
  rw [List.take_add_one, h]
  simp
theorem flat_le (l : List (Value × List UInt8)) (p : Value × List UInt8) (h : p ∈ l) : p.2.length ≤ (flat l).length := by
  obtain ⟨a, b, rfl⟩ := List.append_of_mem h
  simp [flat]
  omega

set_option maxHeartbeats 400000 in
theorem Of_form (w : World) (A : Option Addr) (c : Nat) (l : List (Value × List UInt8)) (hy : Ps w (.slice A l.length c) l) (hl : l.length ≤ 140737488355328) (ht : (flat l).length ≤ 140737488355328) :
    Calls Try.prog 14 #[.slice A l.length c] w fun e W' => e = .returned (.int .u32 (crc (flat l) : Nat)) ∧ Below w.heap.size w W' := by
  go_enter Try.func14, Try.ntmps14
  go_wp2_with fail
  go_loopw [3, 8] (fun r i wr => ∃ (k n : Nat), k ≤ l.length ∧ i = .int .i64 k ∧ n < 4294967296 ∧ r = .int .u32 n ∧ n = crc (flat (l.take k)) ∧ Below w.heap.size w wr) (fun _ i _ => l.length - (intOf i).toNat)
  case atStart => exact ⟨0, 0, by omega, rfl, by omega, rfl, by simp [flat, crc, crcOn, over_nil, inv], Below.refl _ _⟩
  case round =>
    obtain ⟨k, n, hk, rfl, hn, rfl, hst, hB⟩ := hrel
    have HST := Lib.hid hst
    clear hst
    by_cases hlt : k < l.length
    · obtain ⟨A', c', he, hp⟩ := hy
      injection he with h1 h2 h3
      subst h1 h3
      clear h2
      obtain ⟨⟨b, off, rfl, hc⟩, hbs⟩ := hp k l[k] (List.getElem?_eq_getElem hlt)
      have hy1 := (hB.cell (p := ⟨b, off + k, none⟩) (World.block_lt_of_cell? _ _ hc)).trans hc
      have hbs1 := hbs.below hB
      have hle := flat_le l l[k] (List.getElem_mem hlt)
      have HT := Lib.hid (flat_take_succ l k l[k] (List.getElem?_eq_getElem hlt))
      clear hc hp hbs
      go_wp2_with fail
      refine (On_any wr n hn _ _ hbs1 (by omega)).mono ?_
      rintro e w1 ⟨rfl, hb1⟩
      go_wp2_with fail
      go_roundw
      case rel => exact ⟨k + 1, crcOn n l[k].2, by omega, by go_num, crcOn_lt _ _, rfl, by rw [HT.out, HST.out]; exact (crcOn_append 0 _ _).symm, hB.trans (hb1.mono hB.size)⟩
      case measure => simp [intOf]; omega
    · obtain rfl : k = l.length := by omega
      go_wp2
      go_ret
      exact ⟨by rw [HST.out, List.take_length]; rfl, hB⟩
/-- Of. -/
theorem Of_any (w : World) (v : Value) (l : List (Value × List UInt8)) (hy : Ps w v l) (hl : l.length ≤ 140737488355328) (ht : (flat l).length ≤ 140737488355328) :
    Calls Try.prog 14 #[v] w fun e W' => e = .returned (.int .u32 (crc (flat l) : Nat)) ∧ Below w.heap.size w W' := by
  obtain ⟨A, c, rfl, hp⟩ := hy
  exact Of_form w A c l ⟨A, c, rfl, hp⟩ hl ht
/-- Of nothing. -/
theorem Of_none (w : World) : Calls Try.prog 14 #[.slice none 0 0] w fun e W' => e = .returned (.int .u32 0) ∧ Below w.heap.size w W' :=
  Of_any w _ [] ⟨none, 0, rfl, fun i p h => by simp at h⟩ (by simp) (by simp [flat])
/-- One part, laid for the call. -/
theorem Ps.one {w : World} {v : Value} {ys : List UInt8} (h : Bs w v ys) (t : TypeId) : Ps (w.alloc (.cells #[v] t)) (.slice (some ⟨w.heap.size, 0, none⟩) 1 1) [(v, ys)] := by
  refine ⟨_, _, rfl, fun i p hi => ?_⟩
  match i, hi with
  | 0, hi =>
    simp at hi
    subst hi
    exact ⟨⟨_, _, rfl, by simp⟩, h.below ((Below.refl _ w).alloc (Nat.le_refl _) _)⟩
theorem Ps.below {w w' : World} {v : Value} {l : List (Value × List UInt8)} (h : Ps w v l) (hb : Below w.heap.size w w') : Ps w' v l := by
  obtain ⟨A, c, rfl, hp⟩ := h
  refine ⟨A, c, rfl, fun i p hi => ?_⟩
  obtain ⟨⟨b, off, rfl, hc⟩, hbs⟩ := hp i p hi
  exact ⟨⟨b, off, rfl, (hb.cell (World.block_lt_of_cell? _ _ hc)).trans hc⟩, hbs.below hb⟩
theorem flat_one (v : Value) (ys : List UInt8) : flat [(v, ys)] = ys := by simp [flat]
theorem Of_one (w : World) (v : Value) (ys : List UInt8) (h : Bs w v ys) (hl : ys.length ≤ 140737488355328) (t : TypeId) :
    Calls Try.prog 14 #[.slice (some ⟨w.heap.size, 0, none⟩) 1 1] (w.alloc (.cells #[v] t)) fun e W' => e = .returned (.int .u32 (crc ys : Nat)) ∧ Below w.heap.size w W' := by
  refine (Of_any _ _ _ (Ps.one h t) (by simp) (by simpa [flat] using hl)).mono fun e W' ⟨he, hb⟩ => ⟨by rw [he]; simp [flat], ?_⟩
  exact ((Below.refl _ w).alloc (Nat.le_refl _) _).trans (hb.mono (by simp))
end Go.Proofs.Ytbclhjcnopfegaa
