/- A Sink: Raw, Bytes, All; and none. -/
import Derived.Test.YtgapabbhjocflaaLebSink
import Derived.Test.YtgapabbhjocflaaLebClone
namespace Go.Proofs.Ytgapabbhjocflaa
open Go.RowKit

set_option maxHeartbeats 400000 in
theorem SinkNumber_none (k : Int) (w : World) : Calls Try.prog 13 #[.pointer none, .int .u64 k] w fun e W' => e = .returned (.pointer none) ∧ Below w.heap.size w W' := by
  go_enter Try.func13, Try.ntmps13
  go_wp2
  go_ret
  exact ⟨rfl, (Below.refl _ _).alloc (Nat.le_refl _) _⟩

set_option maxHeartbeats 400000 in
theorem SinkRaw_none (v : Value) (w : World) : Calls Try.prog 17 #[.pointer none, v] w fun e W' => e = .returned (.pointer none) ∧ w = W' := by
  go_enter Try.func17, Try.ntmps17
  go_wp2
  go_ret
  exact ⟨rfl, rfl⟩

set_option maxHeartbeats 400000 in
theorem SinkAll_none (w : World) : Calls Try.prog 18 #[.pointer none] w fun e W' => e = .returned (.slice none 0 0) ∧ w = W' := by
  go_enter Try.func18, Try.ntmps18
  go_wp2
  go_ret
  exact ⟨rfl, rfl⟩

set_option maxHeartbeats 400000 in
theorem SinkRaw_any (g : Nat) (w : World) (v : Value) (xs : List UInt8) (n₀ : Nat) (hn₀ : n₀ ≤ w.heap.size) (hat : SinkAt w n₀ g v xs) (sv : Value) (ys : List UInt8) (hs : Bs w sv ys) (hlen : xs.length + ys.length ≤ 2000000000) :
    Calls Try.prog 17 #[.pointer (some ⟨g, 0, none⟩), sv] w fun e W' => e = .returned (.pointer (some ⟨g, 0, none⟩)) ∧ SinkWrote w n₀ g v (xs ++ ys) W' := by
  obtain ⟨i0, hi, hz0, hz1, hz2⟩ := info_parts infoU8
  have hc := hat.box.cell
  go_enter Try.func17, Try.ntmps17
  go_wp2_with (at_builtin; refine wpList_append_bs rfl (.tmp 11) (.tmp 12) 24 rfl n₀ 5 i0 Try.underlying24 hi hz0 hz1 hz2 v xs rfl hat.row sv ys rfl hs (by omega) hn₀ ?_; intro v' w1 hown1 hg1 hw1 _ _; obtain ⟨A', n', c', rfl⟩ := owns_slice hown1; have hb1 := hat.box.kept hg1 hat.row_ne.symm; have hc1 := hb1.cell; have hf1 := hb1.frozen; clear hc)
  go_ret
  refine ⟨rfl, _, ⟨hb1.set _, hown1.kept (grownBy_setCell' w1 g _) (.inr (hb1.not_row (by decide) hown1).symm)⟩, ((Kept.refl _ _).grown hg1 (fun j e _ => .inr e)).setCell (p := ⟨g, 0, none⟩) (fun _ => .inl rfl) _, ?_⟩
  rcases hw1 with e | e
  · exact .inl e
  · exact .inr (fun j hj => by rw [e] at hj; cases hj; exact Nat.le_refl _)

set_option maxHeartbeats 400000 in
theorem SinkAll_any (g : Nat) (w : World) (v : Value) (xs : List UInt8) (n₀ : Nat) (hat : SinkAt w n₀ g v xs) (hlen : xs.length ≤ 2000000000) :
    Calls Try.prog 18 #[.pointer (some ⟨g, 0, none⟩)] w fun e W' => ∃ v', e = .returned v' ∧ W'.ownsRow w.heap.size 5 1 v' xs.length (xs.map B8) ∧ Below w.heap.size w W' := by
  have hc := hat.box.cell
  go_enter Try.func18, Try.ntmps18
  go_wp2_with (go_at_call 33; refine (Clone_any _ v xs (Bs.of_owns hat.row) (by omega)).mono ?_; rintro e w' ⟨v', rfl, h1, h2⟩)
  go_ret
  exact ⟨v', rfl, h1, h2⟩

set_option maxHeartbeats 400000 in
theorem SinkBytes_none (sv : Value) (ys : List UInt8) (w : World) (hs : Bs w sv ys) (hlen : ys.length ≤ 2000000000) : Calls Try.prog 16 #[.pointer none, sv] w fun e W' => e = .returned (.pointer none) ∧ Below w.heap.size w W' := by
  obtain ⟨A, c, rfl, hc⟩ := hs.form
  go_enter Try.func16, Try.ntmps16
  go_wp2_with fail
  refine (SinkNumber_none _ _).mono ?_
  rintro e w' ⟨rfl, h1⟩
  go_wp2_with fail
  refine (SinkRaw_none _ _).mono ?_
  rintro e w' ⟨rfl, rfl⟩
  go_wp2
  go_ret
  exact ⟨rfl, h1⟩

theorem SinkWrote.chain {w W W' : World} {n₀ g : Nat} {v v' : Value} {ys : List UInt8} (hk : Kept (fun j => j = g ∨ v.ownBlock = some j) w W) (h3 : v'.ownBlock = v.ownBlock ∨ ∀ j, v'.ownBlock = some j → w.heap.size ≤ j)
    (h : SinkWrote W n₀ g v' ys W') : SinkWrote w n₀ g v ys W' := by
  obtain ⟨v'', h1, h2, h4⟩ := h
  refine ⟨v'', h1, hk.trans h2 (fun j hj t => ?_), ?_⟩
  · rcases t with t | t
    · exact .inl t
    · rcases h3 with h3 | h3
      · exact .inr (h3 ▸ t)
      · exact absurd (h3 j t) (by omega)
  · rcases h4 with h4 | h4
    · rw [h4]; exact h3
    · exact .inr (fun j hj => Nat.le_trans hk.size (h4 j hj))

set_option maxHeartbeats 400000 in
theorem SinkBytes_any (g : Nat) (w : World) (v : Value) (xs : List UInt8) (n₀ : Nat) (hn₀ : n₀ ≤ w.heap.size) (hat : SinkAt w n₀ g v xs) (sv : Value) (ys : List UInt8) (hs : Bs w sv ys)
    (hap : ys ≠ [] → ∀ j, sv.ownBlock = some j → j ≠ g ∧ v.ownBlock ≠ some j) (hlen : xs.length + ys.length ≤ 1000000000) :
    Calls Try.prog 16 #[.pointer (some ⟨g, 0, none⟩), sv] w fun e W' => e = .returned (.pointer (some ⟨g, 0, none⟩)) ∧ SinkWrote w n₀ g v (xs ++ (lebB ys.length ++ ys)) W' := by
  obtain ⟨A, c, rfl, hc⟩ := hs.form
  have hl10 := lebB_u64 (n := ys.length) (by omega)
  go_enter Try.func16, Try.ntmps16
  go_wp2_with fail
  refine (SinkNumber_any g ys.length (by omega) w v xs n₀ hn₀ hat (by omega)).mono ?_
  rintro e w1 ⟨rfl, v1, hat1, hk1, hw1⟩
  have hs1 := hk1.bs1 hs (fun hx j hj t => by
    obtain ⟨h2, h3⟩ := hap hx j hj
    rcases t with t | t
    · exact h2 t
    · exact h3 t)
  go_wp2_with fail
  refine (SinkRaw_any g w1 v1 (xs ++ lebB ys.length) n₀ (by have := hk1.size; omega) hat1 _ ys hs1 (by simp; omega)).mono ?_
  rintro e w2 ⟨rfl, h2⟩
  go_wp2
  go_ret
  exact ⟨rfl, by rw [← List.append_assoc]; exact h2.chain hk1 hw1⟩
end Go.Proofs.Ytgapabbhjocflaa
