/- A Source: From, Left, End, raw. -/
import Derived.Test.YtbkbogblbniogaaLebClone
namespace Go.Proofs.Ytbkbogblbniogaa
open Go.RowKit

/-- A Source at g has the bytes xs left. -/
structure SourceAt (W : World) (g : Nat) (v : Value) (xs : List UInt8) : Prop where
  box : Boxed W g 78 v
  bytes : Bs W v xs
  row : ∀ j, v.ownBlock = some j → j < W.heap.size ∧ j ≠ g

theorem SourceAt.kept {T : Nat → Prop} {W W' : World} {g : Nat} {v : Value} {xs : List UInt8} (h : SourceAt W g v xs) (k : Kept T W W') (h1 : ¬ T g) (h2 : ∀ j, v.ownBlock = some j → ¬ T j) : SourceAt W' g v xs :=
  ⟨k.boxed h.box h1, k.bs h.bytes h2, fun j hj => ⟨Nat.lt_of_lt_of_le (h.row j hj).1 k.size, (h.row j hj).2⟩⟩

set_option maxHeartbeats 400000 in
theorem From_any (w : World) (sv : Value) (ys : List UInt8) (hs : Bs w sv ys) (hlen : ys.length ≤ 140737488355328) :
    Calls Try.prog 28 #[sv] w fun e W' => ∃ g v, e = .returned (.pointer (some ⟨g, 0, none⟩)) ∧ SourceAt W' g v ys ∧ w.heap.size ≤ g ∧ (∀ j, v.ownBlock = some j → w.heap.size ≤ j) ∧ Below w.heap.size w W' := by
  go_enter Try.func28, Try.ntmps28
  go_wp2_with (go_at_call 50; refine (Clone_any _ sv ys hs hlen).mono ?_; rintro e w' ⟨v', rfl, h1, h2⟩; obtain ⟨A', n', c', rfl⟩ := owns_slice h1)
  go_ret
  refine ⟨w'.heap.size, _, rfl, ⟨Boxed.new w' _ _, ((Kept.refl (fun _ => False) w').alloc _).bs (Bs.of_owns h1) (fun _ _ h => h), fun j hj => ?_⟩, h2.size, fun j hj => (h1.lt j hj).1, h2.alloc h2.size _⟩
  have := h1.lt j hj
  simp
  omega

set_option maxHeartbeats 400000 in
theorem SrcLeft_any (w : World) (g : Nat) (v : Value) (xs : List UInt8) (hat : SourceAt w g v xs) :
    Calls Try.prog 33 #[.pointer (some ⟨g, 0, none⟩)] w fun e W' => e = .returned (.int .i64 (xs.length : Int)) ∧ w = W' := by
  obtain ⟨A, c, rfl, hc⟩ := hat.bytes.form
  have hc := hat.box.cell
  go_enter Try.func33, Try.ntmps33
  go_wp2
  go_ret
  exact ⟨rfl, rfl⟩

set_option maxHeartbeats 400000 in
theorem SrcLeft_none (w : World) : Calls Try.prog 33 #[.pointer none] w fun e W' => e = .returned (.int .i64 0) ∧ w = W' := by
  go_enter Try.func33, Try.ntmps33
  go_wp2
  go_ret
  exact ⟨rfl, rfl⟩
/-- What is read, and what is left: errors leave all as it was. -/
def rawRes (n : Int) (xs : List UInt8) : Int × List UInt8 × List UInt8 := if n < 0 then (2, [], xs) else if (xs.length : Int) < n then (10, [], xs) else (0, xs.take n.toNat, xs.drop n.toNat)

/-- What a read leaves: the Source has what is left; nothing else that was there has turned. -/
def SourceRead (w : World) (g : Nat) (v : Value) (xs : List UInt8) (W : World) : Prop :=
  ∃ v', SourceAt W g v' xs ∧ Kept (fun j => j = g) w W ∧ v'.ownBlock = v.ownBlock

theorem SourceRead.cut {w w1 : World} {g : Nat} {v u u' : Value} {xs ys : List UInt8} (hk : Kept (fun j => j = g) w w1) (hat : SourceAt w1 g u' xs) (hu : Bs w1 u ys) (hb : u.ownBlock = v.ownBlock) (hb' : u.ownBlock = u'.ownBlock) :
    SourceRead w g v ys (w1.setCell ⟨g, 0, none⟩ u) :=
  ⟨u, ⟨hat.box.set u, (Kept.setCell (p := ⟨g, 0, none⟩) (Kept.refl (fun j => j = g) w1) (fun _ => rfl) u).bs hu (fun j hj => (hat.row j (hb' ▸ hj)).2), fun j hj => ⟨Nat.lt_of_lt_of_le (hat.row j (hb' ▸ hj)).1 (by simp [World.setCell]), (hat.row j (hb' ▸ hj)).2⟩⟩, hk.setCell (p := ⟨g, 0, none⟩) (fun _ => rfl) u, hb⟩
theorem SourceRead.refl {w : World} {g : Nat} {v : Value} {xs : List UInt8} (h : SourceAt w g v xs) : SourceRead w g v xs w := ⟨v, h, Kept.refl _ _, rfl⟩

/-- What raw comes to. -/
def RawOut (w : World) (g : Nat) (v : Value) (er : Int) (ys xs : List UInt8) (e : Ending) (W' : World) : Prop :=
  ∃ r, e = .returned (.tuple #[r, .int .i64 er]) ∧ W'.ownsRow w.heap.size 5 1 r ys.length (ys.map B8) ∧ SourceRead w g v xs W'

end Go.Proofs.Ytbkbogblbniogaa
