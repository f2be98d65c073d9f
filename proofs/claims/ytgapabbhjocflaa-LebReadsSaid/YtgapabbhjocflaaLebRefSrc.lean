/- The reference's Source: where, Number, Raw, Bytes, End. -/
import Derived.Test.YtgapabbhjocflaaLebRef
import Derived.Test.YtgapabbhjocflaaLebRefMath
namespace Go.Proofs.Ytgapabbhjocflaa
open Go.RowKit

/-- The reference's Source at g has the bytes xs left. -/
structure RefAt (W : World) (g : Nat) (v : Value) (xs : List UInt8) : Prop where
  box : Boxed W g 41 v
  bytes : Bs W v xs
  row : ∀ j, v.ownBlock = some j → j < W.heap.size ∧ j ≠ g
theorem RefAt.kept {T : Nat → Prop} {W W' : World} {g : Nat} {v : Value} {xs : List UInt8} (h : RefAt W g v xs) (k : Kept T W W') (h1 : ¬ T g) (h2 : ∀ j, v.ownBlock = some j → ¬ T j) : RefAt W' g v xs :=
  ⟨k.boxed h.box h1, k.bs h.bytes h2, fun j hj => ⟨Nat.lt_of_lt_of_le (h.row j hj).1 k.size, (h.row j hj).2⟩⟩
theorem RefAt.below {W W' : World} {g : Nat} {v : Value} {xs : List UInt8} (h : RefAt W g v xs) (hb : Below W.heap.size W W') : RefAt W' g v xs :=
  h.kept (T := fun _ => False) (Kept.of_below hb (Nat.le_refl _) _) (fun h => h) (fun _ _ h => h)
def RefRead (w : World) (g : Nat) (v : Value) (xs : List UInt8) (W : World) : Prop :=
  ∃ v', RefAt W g v' xs ∧ Kept (fun j => j = g) w W ∧ v'.ownBlock = v.ownBlock
theorem RefRead.cut {w w1 : World} {g : Nat} {v u u' : Value} {xs ys : List UInt8} (hk : Kept (fun j => j = g) w w1) (hat : RefAt w1 g u' xs) (hu : Bs w1 u ys) (hb : u.ownBlock = v.ownBlock) (hb' : u.ownBlock = u'.ownBlock) :
    RefRead w g v ys (w1.setCell ⟨g, 0, none⟩ u) :=
  ⟨u, ⟨hat.box.set u, (Kept.setCell (p := ⟨g, 0, none⟩) (Kept.refl (fun j => j = g) w1) (fun _ => rfl) u).bs hu (fun j hj => (hat.row j (hb' ▸ hj)).2), fun j hj => ⟨Nat.lt_of_lt_of_le (hat.row j (hb' ▸ hj)).1 (by simp [World.setCell]), (hat.row j (hb' ▸ hj)).2⟩⟩, hk.setCell (p := ⟨g, 0, none⟩) (fun _ => rfl) u, hb⟩
theorem RefRead.refl {w : World} {g : Nat} {v : Value} {xs : List UInt8} (h : RefAt w g v xs) : RefRead w g v xs w := ⟨v, h, Kept.refl _ _, rfl⟩
theorem RefRead.of_below {w W : World} {g : Nat} {v : Value} {xs : List UInt8} (h : RefAt w g v xs) (hb : Below w.heap.size w W) : RefRead w g v xs W := ⟨v, h.below hb, Kept.of_below hb (Nat.le_refl _) _, rfl⟩

def RefNumOut (w : World) (g : Nat) (v : Value) (r : Int × Nat × List UInt8) (e : Ending) (W' : World) : Prop :=
  e = .returned (.tuple #[.int .u64 (r.2.1 : Int), .int .i64 r.1]) ∧ RefRead w g v r.2.2 W'
def RefRawOut (w : World) (g : Nat) (v : Value) (r : Int × List UInt8 × List UInt8) (e : Ending) (W' : World) : Prop :=
  ∃ x, e = .returned (.tuple #[x, .int .i64 r.1]) ∧ W'.ownsRow w.heap.size 5 1 x r.2.1.length (r.2.1.map B8) ∧ RefRead w g v r.2.2 W'

theorem Bs.at {W : World} {A : Option Addr} {m c : Nat} {xs : List UInt8} (h : Bs W (.slice A m c) xs) (hx : 0 < xs.length) : ∃ b off, A = some ⟨b, off, none⟩ ∧ ∀ i y, xs[i]? = some y → W.cell? ⟨b, off + i, none⟩ = some (B8 y) := by
  cases xs with
  | nil => simp at hx
  | cons x xs =>
    obtain ⟨b, off, c', hv, _, hc⟩ := h.cons
    injection hv with h1 _ _
    exact ⟨b, off, h1, hc⟩

set_option maxHeartbeats 400000 in
theorem where_any (w : World) (sv : Value) (xs : List UInt8) (hs : Bs w sv xs) (hlen : xs.length ≤ 140737488355328) :
    Calls Try.prog 37 #[sv] w fun e W' => e = .returned (.int .i64 (wh xs : Int)) ∧ w = W' := by
  obtain ⟨A, c, rfl, hc⟩ := hs.form
  by_cases h0 : xs = []
  · subst h0
    go_enter Try.func37, Try.ntmps37
    go_wp2
    go_loop [3] (fun i => i = .int .i64 0) (fun _ => 0)
    case atStart => rfl
    case round =>
      subst hrel
      go_wp2
      go_ret
      exact ⟨rfl, rfl⟩
  · obtain ⟨b, off, rfl, hcell⟩ := hs.at (List.length_pos_iff.2 h0)
    have HC := Lib.hid hcell
    clear hcell
    go_enter Try.func37, Try.ntmps37
    go_wp2
    go_loop [3] (fun i => ∃ q : Nat, q ≤ xs.length ∧ i = .int .i64 q ∧ wh xs = if wh (xs.drop q) = 0 then 0 else q + wh (xs.drop q)) (fun i => xs.length - (intOf i).toNat)
    case atStart => exact ⟨0, Nat.zero_le _, rfl, by simp only [List.drop_zero]; split <;> omega⟩
    case round =>
      obtain ⟨q, hq, rfl, hwh⟩ := hrel
      by_cases hlt : q < xs.length
      · obtain ⟨y, hy⟩ : ∃ y, xs[q]? = some y := ⟨xs[q], List.getElem?_eq_getElem hlt⟩
        have hdr : xs.drop q = y :: xs.drop (q + 1) := by
          rw [List.drop_eq_getElem_cons hlt]
          rw [List.getElem?_eq_getElem hlt] at hy
          rw [Option.some.inj hy]
        have cq := HC.out q y hy
        rw [hdr, wh_cons] at hwh
        clear hdr hy
        by_cases h128 : y.toNat < 128
        · have hd : decide ((y.toNat : Int) < 128) = true := by simp; omega
          rw [if_pos h128, if_neg (by omega)] at hwh
          have HW := Lib.hid hwh
          clear hwh
          go_wp2
          go_ret
          refine ⟨?_, rfl⟩
          rw [HW.out]
          go_num
        · have hd : decide ((y.toNat : Int) < 128) = false := by simp; omega
          have hw : wh xs = if wh (xs.drop (q + 1)) = 0 then 0 else (q + 1) + wh (xs.drop (q + 1)) := by
            rw [hwh, if_neg h128]
            by_cases hz : wh (xs.drop (q + 1)) = 0
            · rw [if_pos hz, if_pos rfl, if_pos hz]
            · rw [if_neg hz, if_neg (by omega), if_neg hz]
              omega
          have HW := Lib.hid hw
          clear hwh hw
          go_wp2
          go_round
          case rel => exact ⟨q + 1, by omega, by go_num, HW.out⟩
          case measure => simp [intOf]; omega
      · obtain rfl : q = xs.length := by omega
        have hz : wh xs = 0 := by rw [hwh, List.drop_length]; rfl
        clear hwh
        go_wp2
        go_ret
        exact ⟨rfl, rfl⟩

set_option maxHeartbeats 400000 in
theorem refEnd_any (w : World) (g : Nat) (v : Value) (xs : List UInt8) (hat : RefAt w g v xs) :
    Calls Try.prog 28 #[.pointer (some ⟨g, 0, none⟩)] w fun e W' => e = .returned (.int .i64 (if xs = [] then 0 else 13)) ∧ w = W' := by
  obtain ⟨A, c, rfl, hc⟩ := hat.bytes.form
  have hc := hat.box.cell
  cases xs with
  | nil =>
    go_enter Try.func28, Try.ntmps28
    go_wp2
    go_ret
    exact ⟨rfl, rfl⟩
  | cons x xs =>
    have hd : (0 : Int) < ((x :: xs).length : Int) := by simp
    go_enter Try.func28, Try.ntmps28
    go_wp2
    go_ret
    exact ⟨rfl, rfl⟩

set_option maxHeartbeats 400000 in
theorem refRaw_neg (w : World) (g : Nat) (n : Int) (hn : n < 0) :
    Calls Try.prog 25 #[.pointer (some ⟨g, 0, none⟩), .int .i64 n] w fun e W' => e = .returned (.tuple #[.slice none 0 0, .int .i64 2]) ∧ w = W' := by
  go_enter Try.func25, Try.ntmps25
  go_wp2
  go_ret2
  exact ⟨rfl, rfl⟩
set_option maxHeartbeats 400000 in
theorem refRaw_short (w : World) (g : Nat) (v : Value) (xs : List UInt8) (hat : RefAt w g v xs) (n : Int) (h0 : ¬ n < 0) (hn : (xs.length : Int) < n) :
    Calls Try.prog 25 #[.pointer (some ⟨g, 0, none⟩), .int .i64 n] w fun e W' => e = .returned (.tuple #[.slice none 0 0, .int .i64 10]) ∧ w = W' := by
  obtain ⟨A, c, rfl, hc⟩ := hat.bytes.form
  have hc := hat.box.cell
  go_enter Try.func25, Try.ntmps25
  go_wp2
  go_ret2
  exact ⟨rfl, rfl⟩

set_option maxHeartbeats 400000 in
theorem refRaw_ok (w : World) (g : Nat) (v : Value) (xs : List UInt8) (hat : RefAt w g v xs) (hlen : xs.length ≤ 140737488355328) (n : Nat) (hn : n ≤ xs.length) :
    Calls Try.prog 25 #[.pointer (some ⟨g, 0, none⟩), .int .i64 n] w (RefRawOut w g v (0, xs.take n, xs.drop n)) := by
  obtain ⟨A, c, rfl, hc⟩ := hat.bytes.form
  have hcc := hat.box.cell
  go_enter Try.func25, Try.ntmps25
  go_wp2_with fail
  refine (Twin_any w _ (xs.take n) (hat.bytes.take hn) (by simp; omega)).mono ?_
  rintro e w1 ⟨r, rfl, h1, h2⟩
  have hk1 : Kept (fun _ => False) w w1 := Kept.of_below h2 (Nat.le_refl _) _
  have hat1 := hat.kept hk1 (fun h => h) (fun _ _ h => h)
  have hcc1 := hat1.box.cell
  have hf1 := hat1.box.frozen
  obtain ⟨A1, n1, c1, rfl⟩ := owns_slice h1
  by_cases hcn : c = n
  · have hd : Bs w1 (.slice A 0 0) (xs.drop n) := by
      have h := hat1.bytes.drop hn
      rw [if_pos hcn, show xs.length - n = 0 by omega, show c - n = 0 by omega] at h
      exact h
    have hob : (Value.slice A 0 0).ownBlock = (Value.slice A xs.length c).ownBlock := by cases A <;> rfl
    have HO := Lib.hid hob
    clear hcc hob
    subst hcn
    go_wp2
    go_ret2
    exact ⟨_, rfl, h1.kept (grownBy_setCell' w1 g _) (.inr (hat1.box.not_row (by decide) h1).symm), RefRead.cut (hk1.mono (fun _ _ h => h.elim)) hat1 hd HO.out HO.out⟩
  · have hd : Bs w1 (.slice (A.map (·.add n)) (xs.length - n) (c - n)) (xs.drop n) := by
      have h := hat1.bytes.drop hn
      rw [if_neg hcn] at h
      exact h
    have hob := ownBlock_cut A xs.length c n (xs.length - n) (c - n)
    rw [if_neg hcn] at hob
    have HO := Lib.hid hob
    clear hcc hob
    go_wp2
    go_ret2
    exact ⟨_, rfl, h1.kept (grownBy_setCell' w1 g _) (.inr (hat1.box.not_row (by decide) h1).symm), RefRead.cut (hk1.mono (fun _ _ h => h.elim)) hat1 hd HO.out HO.out⟩
theorem refRaw_any (w : World) (g : Nat) (v : Value) (xs : List UInt8) (hat : RefAt w g v xs) (hlen : xs.length ≤ 140737488355328) (n : Int) :
    Calls Try.prog 25 #[.pointer (some ⟨g, 0, none⟩), .int .i64 n] w (RefRawOut w g v (rawRes n xs)) := by
  unfold rawRes
  by_cases h0 : n < 0
  · rw [if_pos h0]
    exact (refRaw_neg w g n h0).mono fun e W' ⟨he, hw⟩ => ⟨_, he, World.ownsRow_nil _ _ _ _, hw ▸ RefRead.refl hat⟩
  · rw [if_neg h0]
    by_cases h1 : (xs.length : Int) < n
    · rw [if_pos h1]
      exact (refRaw_short w g v xs hat n h0 h1).mono fun e W' ⟨he, hw⟩ => ⟨_, he, World.ownsRow_nil _ _ _ _, hw ▸ RefRead.refl hat⟩
    · rw [if_neg h1]
      obtain ⟨m, rfl⟩ := Int.eq_ofNat_of_zero_le (by omega : 0 ≤ n)
      exact refRaw_ok w g v xs hat hlen m (by omega)
end Go.Proofs.Ytgapabbhjocflaa
