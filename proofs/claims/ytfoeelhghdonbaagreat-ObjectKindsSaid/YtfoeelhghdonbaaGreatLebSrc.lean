/- A Source: From, Left, End, raw. -/
import Derived.Test.YtfoeelhghdonbaaGreatLebClone
namespace Go.Proofs.YtfoeelhghdonbaaGreat
open Go.RowKit

/-- A Source at g has the bytes xs left. -/
structure SourceAt (W : World) (g : Nat) (v : Value) (xs : List UInt8) : Prop where
  box : Boxed W g 125 v
  bytes : Bs W v xs
  row : ∀ j, v.ownBlock = some j → j < W.heap.size ∧ j ≠ g

theorem SourceAt.kept {T : Nat → Prop} {W W' : World} {g : Nat} {v : Value} {xs : List UInt8} (h : SourceAt W g v xs) (k : Kept T W W') (h1 : ¬ T g) (h2 : ∀ j, v.ownBlock = some j → ¬ T j) : SourceAt W' g v xs :=
  ⟨k.boxed h.box h1, k.bs h.bytes h2, fun j hj => ⟨Nat.lt_of_lt_of_le (h.row j hj).1 k.size, (h.row j hj).2⟩⟩

set_option maxHeartbeats 400000 in
theorem From_any (w : World) (sv : Value) (ys : List UInt8) (hs : Bs w sv ys) (hlen : ys.length ≤ 140737488355328) :
    Calls Tryz.prog 33 #[sv] w fun e W' => ∃ g v, e = .returned (.pointer (some ⟨g, 0, none⟩)) ∧ SourceAt W' g v ys ∧ w.heap.size ≤ g ∧ (∀ j, v.ownBlock = some j → w.heap.size ≤ j) ∧ Below w.heap.size w W' := by
  go_enter Tryz.func33, Tryz.ntmps33
  go_wp2_with (go_at_call 56; refine (Clone_any _ sv ys hs hlen).mono ?_; rintro e w' ⟨v', rfl, h1, h2⟩; obtain ⟨A', n', c', rfl⟩ := owns_slice h1)
  go_ret
  refine ⟨w'.heap.size, _, rfl, ⟨Boxed.new w' _ _, ((Kept.refl (fun _ => False) w').alloc _).bs (Bs.of_owns h1) (fun _ _ h => h), fun j hj => ?_⟩, h2.size, fun j hj => (h1.lt j hj).1, h2.alloc h2.size _⟩
  have := h1.lt j hj
  simp
  omega

set_option maxHeartbeats 400000 in
theorem SrcEnd_any (w : World) (g : Nat) (v : Value) (xs : List UInt8) (hat : SourceAt w g v xs) :
    Calls Tryz.prog 36 #[.pointer (some ⟨g, 0, none⟩)] w fun e W' => e = .returned (.int .i64 (if xs = [] then 0 else 13)) ∧ w = W' := by
  obtain ⟨A, c, rfl, hc⟩ := hat.bytes.form
  have hc := hat.box.cell
  cases xs with
  | nil =>
    go_enter Tryz.func36, Tryz.ntmps36
    go_wp2
    go_ret
    exact ⟨rfl, rfl⟩
  | cons x xs =>
    have hd : (0 : Int) < ((x :: xs).length : Int) := by simp
    go_enter Tryz.func36, Tryz.ntmps36
    go_wp2
    go_ret
    exact ⟨rfl, rfl⟩

set_option maxHeartbeats 400000 in
theorem SrcEnd_none (w : World) : Calls Tryz.prog 36 #[.pointer none] w fun e W' => e = .returned (.int .i64 1) ∧ w = W' := by
  go_enter Tryz.func36, Tryz.ntmps36
  go_wp2
  go_ret
  exact ⟨rfl, rfl⟩

/-- What is read, and what is left: errors leave all as it was. -/
def rawRes (n : Int) (xs : List UInt8) : Int × List UInt8 × List UInt8 := if n < 0 then (2, [], xs) else if (xs.length : Int) < n then (10, [], xs) else (0, xs.take n.toNat, xs.drop n.toNat)

/-- What a read leaves: the Source has what is left; nothing else that was there has turned. -/
def SourceRead (w : World) (g : Nat) (v : Value) (xs : List UInt8) (W : World) : Prop :=
  ∃ v', SourceAt W g v' xs ∧ Kept (fun j => j = g) w W ∧ v'.ownBlock = v.ownBlock

set_option maxHeartbeats 400000 in
theorem srcraw_neg (w : World) (g : Nat) (n : Int) (hn : n < 0) :
    Calls Tryz.prog 135 #[.pointer (some ⟨g, 0, none⟩), .int .i64 n] w fun e W' => e = .returned (.tuple #[.slice none 0 0, .int .i64 2]) ∧ w = W' := by
  go_enter Tryz.func135, Tryz.ntmps135
  go_wp2
  go_ret2
  exact ⟨rfl, rfl⟩
set_option maxHeartbeats 400000 in
theorem srcraw_short (w : World) (g : Nat) (v : Value) (xs : List UInt8) (hat : SourceAt w g v xs) (n : Int) (h0 : ¬ n < 0) (hn : (xs.length : Int) < n) :
    Calls Tryz.prog 135 #[.pointer (some ⟨g, 0, none⟩), .int .i64 n] w fun e W' => e = .returned (.tuple #[.slice none 0 0, .int .i64 10]) ∧ w = W' := by
  obtain ⟨A, c, rfl, hc⟩ := hat.bytes.form
  have hc := hat.box.cell
  go_enter Tryz.func135, Tryz.ntmps135
  go_wp2
  go_ret2
  exact ⟨rfl, rfl⟩
theorem SourceRead.cut {w w1 : World} {g : Nat} {v u u' : Value} {xs ys : List UInt8} (hk : Kept (fun j => j = g) w w1) (hat : SourceAt w1 g u' xs) (hu : Bs w1 u ys) (hb : u.ownBlock = v.ownBlock) (hb' : u.ownBlock = u'.ownBlock) :
    SourceRead w g v ys (w1.setCell ⟨g, 0, none⟩ u) :=
  ⟨u, ⟨hat.box.set u, (Kept.setCell (p := ⟨g, 0, none⟩) (Kept.refl (fun j => j = g) w1) (fun _ => rfl) u).bs hu (fun j hj => (hat.row j (hb' ▸ hj)).2), fun j hj => ⟨Nat.lt_of_lt_of_le (hat.row j (hb' ▸ hj)).1 (by simp [World.setCell]), (hat.row j (hb' ▸ hj)).2⟩⟩, hk.setCell (p := ⟨g, 0, none⟩) (fun _ => rfl) u, hb⟩
theorem SourceRead.refl {w : World} {g : Nat} {v : Value} {xs : List UInt8} (h : SourceAt w g v xs) : SourceRead w g v xs w := ⟨v, h, Kept.refl _ _, rfl⟩

/-- What raw comes to. -/
def RawOut (w : World) (g : Nat) (v : Value) (er : Int) (ys xs : List UInt8) (e : Ending) (W' : World) : Prop :=
  ∃ r, e = .returned (.tuple #[r, .int .i64 er]) ∧ W'.ownsRow w.heap.size 5 1 r ys.length (ys.map B8) ∧ SourceRead w g v xs W'

set_option maxHeartbeats 400000 in
theorem srcraw_ok (w : World) (g : Nat) (v : Value) (xs : List UInt8) (hat : SourceAt w g v xs) (hlen : xs.length ≤ 140737488355328) (n : Nat) (hn : n ≤ xs.length) :
    Calls Tryz.prog 135 #[.pointer (some ⟨g, 0, none⟩), .int .i64 n] w (RawOut w g v 0 (xs.take n) (xs.drop n)) := by
  obtain ⟨A, c, rfl, hc⟩ := hat.bytes.form
  have hcc := hat.box.cell
  go_enter Tryz.func135, Tryz.ntmps135
  go_wp2_with fail
  refine (Clone_any w _ (xs.take n) (hat.bytes.take hn) (by simp; omega)).mono ?_
  rintro e w1 ⟨r, rfl, h1, h2⟩
  have hk1 : Kept (fun _ => False) w w1 := Kept.of_below h2 (Nat.le_refl _) _
  have hat1 := hat.kept hk1 (fun h => h) (fun _ _ h => h)
  have hcc1 := hat1.box.cell
  have hf1 := hat1.box.frozen
  obtain ⟨A1, n1, c1, rfl⟩ := owns_slice h1
  by_cases hcn : c = n
  · have hd : Bs w1 (.slice A 0 0) (xs.drop n) := by
      have h := hat1.bytes.drop hn
      rw [if_pos hcn, show xs.length - n = 0 by omega, show c - n = 0 by omega] at h
      exact h
    have hob : (Value.slice A 0 0).ownBlock = (Value.slice A xs.length c).ownBlock := by cases A <;> rfl
    have HO := Lib.hid hob
    clear hcc hob
    subst hcn
    go_wp2
    go_ret2
    exact ⟨_, rfl, h1.kept (grownBy_setCell' w1 g _) (.inr (hat1.box.not_row (by decide) h1).symm), SourceRead.cut (hk1.mono (fun _ _ h => h.elim)) hat1 hd HO.out HO.out⟩
  · have hd : Bs w1 (.slice (A.map (·.add n)) (xs.length - n) (c - n)) (xs.drop n) := by
      have h := hat1.bytes.drop hn
      rw [if_neg hcn] at h
      exact h
    have hob := ownBlock_cut A xs.length c n (xs.length - n) (c - n)
    rw [if_neg hcn] at hob
    have HO := Lib.hid hob
    clear hcc hob
    go_wp2
    go_ret2
    exact ⟨_, rfl, h1.kept (grownBy_setCell' w1 g _) (.inr (hat1.box.not_row (by decide) h1).symm), SourceRead.cut (hk1.mono (fun _ _ h => h.elim)) hat1 hd HO.out HO.out⟩

/-- raw. -/
theorem srcraw_any (w : World) (g : Nat) (v : Value) (xs : List UInt8) (hat : SourceAt w g v xs) (hlen : xs.length ≤ 140737488355328) (n : Int) :
    Calls Tryz.prog 135 #[.pointer (some ⟨g, 0, none⟩), .int .i64 n] w (RawOut w g v (rawRes n xs).1 (rawRes n xs).2.1 (rawRes n xs).2.2) := by
  unfold rawRes
  by_cases h0 : n < 0
  · rw [if_pos h0]
    exact (srcraw_neg w g n h0).mono fun e W' ⟨he, hw⟩ => ⟨_, he, World.ownsRow_nil _ _ _ _, hw ▸ SourceRead.refl hat⟩
  · rw [if_neg h0]
    by_cases h1 : (xs.length : Int) < n
    · rw [if_pos h1]
      exact (srcraw_short w g v xs hat n h0 h1).mono fun e W' ⟨he, hw⟩ => ⟨_, he, World.ownsRow_nil _ _ _ _, hw ▸ SourceRead.refl hat⟩
    · rw [if_neg h1]
      obtain ⟨m, rfl⟩ := Int.eq_ofNat_of_zero_le (by omega : 0 ≤ n)
      exact srcraw_ok w g v xs hat hlen m (by omega)
end Go.Proofs.YtfoeelhghdonbaaGreat
