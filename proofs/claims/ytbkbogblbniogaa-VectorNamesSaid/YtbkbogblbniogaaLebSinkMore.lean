/- A Sink: Raw, Bytes, All; and none. -/
import Derived.Test.YtbkbogblbniogaaLebSink
import Derived.Test.YtbkbogblbniogaaLebClone
namespace Go.Proofs.Ytbkbogblbniogaa
open Go.RowKit

set_option maxHeartbeats 400000 in
theorem SinkNumber_none (k : Int) (w : World) : Calls Try.prog 54 #[.pointer none, .int .u64 k] w fun e W' => e = .returned (.pointer none) ∧ Below w.heap.size w W' := by
  go_enter Try.func54, Try.ntmps54
  go_wp2
  go_ret
  exact ⟨rfl, (Below.refl _ _).alloc (Nat.le_refl _) _⟩

set_option maxHeartbeats 400000 in
theorem SinkAll_none (w : World) : Calls Try.prog 55 #[.pointer none] w fun e W' => e = .returned (.slice none 0 0) ∧ w = W' := by
  go_enter Try.func55, Try.ntmps55
  go_wp2
  go_ret
  exact ⟨rfl, rfl⟩

set_option maxHeartbeats 400000 in
theorem SinkAll_any (g : Nat) (w : World) (v : Value) (xs : List UInt8) (n₀ : Nat) (hat : SinkAt w n₀ g v xs) (hlen : xs.length ≤ 2000000000) :
    Calls Try.prog 55 #[.pointer (some ⟨g, 0, none⟩)] w fun e W' => ∃ v', e = .returned v' ∧ W'.ownsRow w.heap.size 5 1 v' xs.length (xs.map B8) ∧ Below w.heap.size w W' := by
  have hc := hat.box.cell
  go_enter Try.func55, Try.ntmps55
  go_wp2_with (go_at_call 50; refine (Clone_any _ v xs (Bs.of_owns hat.row) (by omega)).mono ?_; rintro e w' ⟨v', rfl, h1, h2⟩)
  go_ret
  exact ⟨v', rfl, h1, h2⟩

theorem SinkWrote.chain {w W W' : World} {n₀ g : Nat} {v v' : Value} {ys : List UInt8} (hk : Kept (fun j => j = g ∨ v.ownBlock = some j) w W) (h3 : v'.ownBlock = v.ownBlock ∨ ∀ j, v'.ownBlock = some j → w.heap.size ≤ j)
    (h : SinkWrote W n₀ g v' ys W') : SinkWrote w n₀ g v ys W' := by
  obtain ⟨v'', h1, h2, h4⟩ := h
  refine ⟨v'', h1, hk.trans h2 (fun j hj t => ?_), ?_⟩
  · rcases t with t | t
    · exact .inl t
    · rcases h3 with h3 | h3
      · exact .inr (h3 ▸ t)
      · exact absurd (h3 j t) (by omega)
  · rcases h4 with h4 | h4
    · rw [h4]; exact h3
    · exact .inr (fun j hj => Nat.le_trans hk.size (h4 j hj))

end Go.Proofs.Ytbkbogblbniogaa
