/- The reference's Source: where, Number, Raw, Bytes, End. -/
import Derived.Test.YtbkbogblbniogaaLebRef
import Derived.Test.YtbkbogblbniogaaLebRefMath
namespace Go.Proofs.Ytbkbogblbniogaa
open Go.RowKit

/-- The reference's Source at g has the bytes xs left. -/
structure RefAt (W : World) (g : Nat) (v : Value) (xs : List UInt8) : Prop where
  box : Boxed W g 51 v
  bytes : Bs W v xs
  row : ∀ j, v.ownBlock = some j → j < W.heap.size ∧ j ≠ g
theorem RefAt.kept {T : Nat → Prop} {W W' : World} {g : Nat} {v : Value} {xs : List UInt8} (h : RefAt W g v xs) (k : Kept T W W') (h1 : ¬ T g) (h2 : ∀ j, v.ownBlock = some j → ¬ T j) : RefAt W' g v xs :=
  ⟨k.boxed h.box h1, k.bs h.bytes h2, fun j hj => ⟨Nat.lt_of_lt_of_le (h.row j hj).1 k.size, (h.row j hj).2⟩⟩
theorem RefAt.below {W W' : World} {g : Nat} {v : Value} {xs : List UInt8} (h : RefAt W g v xs) (hb : Below W.heap.size W W') : RefAt W' g v xs :=
  h.kept (T := fun _ => False) (Kept.of_below hb (Nat.le_refl _) _) (fun h => h) (fun _ _ h => h)
def RefRead (w : World) (g : Nat) (v : Value) (xs : List UInt8) (W : World) : Prop :=
  ∃ v', RefAt W g v' xs ∧ Kept (fun j => j = g) w W ∧ v'.ownBlock = v.ownBlock
theorem RefRead.cut {w w1 : World} {g : Nat} {v u u' : Value} {xs ys : List UInt8} (hk : Kept (fun j => j = g) w w1) (hat : RefAt w1 g u' xs) (hu : Bs w1 u ys) (hb : u.ownBlock = v.ownBlock) (hb' : u.ownBlock = u'.ownBlock) :
    RefRead w g v ys (w1.setCell ⟨g, 0, none⟩ u) :=
  ⟨u, ⟨hat.box.set u, (Kept.setCell (p := ⟨g, 0, none⟩) (Kept.refl (fun j => j = g) w1) (fun _ => rfl) u).bs hu (fun j hj => (hat.row j (hb' ▸ hj)).2), fun j hj => ⟨Nat.lt_of_lt_of_le (hat.row j (hb' ▸ hj)).1 (by simp [World.setCell]), (hat.row j (hb' ▸ hj)).2⟩⟩, hk.setCell (p := ⟨g, 0, none⟩) (fun _ => rfl) u, hb⟩
theorem RefRead.refl {w : World} {g : Nat} {v : Value} {xs : List UInt8} (h : RefAt w g v xs) : RefRead w g v xs w := ⟨v, h, Kept.refl _ _, rfl⟩
theorem RefRead.of_below {w W : World} {g : Nat} {v : Value} {xs : List UInt8} (h : RefAt w g v xs) (hb : Below w.heap.size w W) : RefRead w g v xs W := ⟨v, h.below hb, Kept.of_below hb (Nat.le_refl _) _, rfl⟩

def RefNumOut (w : World) (g : Nat) (v : Value) (r : Int × Nat × List UInt8) (e : Ending) (W' : World) : Prop :=
  e = .returned (.tuple #[.int .u64 (r.2.1 : Int), .int .i64 r.1]) ∧ RefRead w g v r.2.2 W'
def RefRawOut (w : World) (g : Nat) (v : Value) (r : Int × List UInt8 × List UInt8) (e : Ending) (W' : World) : Prop :=
  ∃ x, e = .returned (.tuple #[x, .int .i64 r.1]) ∧ W'.ownsRow w.heap.size 5 1 x r.2.1.length (r.2.1.map B8) ∧ RefRead w g v r.2.2 W'

theorem Bs.at1 {W : World} {A : Option Addr} {m c : Nat} {xs : List UInt8} (h : Bs W (.slice A m c) xs) (hx : 0 < xs.length) : ∃ b off, A = some ⟨b, off, none⟩ ∧ ∀ i y, xs[i]? = some y → W.cell? ⟨b, off + i, none⟩ = some (B8 y) := by
  cases xs with
  | nil => simp at hx
  | cons x xs =>
    obtain ⟨b, off, c', hv, _, hc⟩ := h.cons
    injection hv with h1 _ _
    exact ⟨b, off, h1, hc⟩

set_option maxHeartbeats 400000 in
theorem where_any (w : World) (sv : Value) (xs : List UInt8) (hs : Bs w sv xs) (hlen : xs.length ≤ 140737488355328) :
    Calls Try.prog 70 #[sv] w fun e W' => e = .returned (.int .i64 (wh xs : Int)) ∧ w = W' := by
  obtain ⟨A, c, rfl, hc⟩ := hs.form
  by_cases h0 : xs = []
  · subst h0
    go_enter Try.func70, Try.ntmps70
    go_wp2
    go_loop [3] (fun i => i = .int .i64 0) (fun _ => 0)
    case atStart => rfl
    case round =>
      subst hrel
      go_wp2
      go_ret
      exact ⟨rfl, rfl⟩
  · obtain ⟨b, off, rfl, hcell⟩ := hs.at1 (List.length_pos_iff.2 h0)
    have HC := Lib.hid hcell
    clear hcell
    go_enter Try.func70, Try.ntmps70
    go_wp2
    go_loop [3] (fun i => ∃ q : Nat, q ≤ xs.length ∧ i = .int .i64 q ∧ wh xs = if wh (xs.drop q) = 0 then 0 else q + wh (xs.drop q)) (fun i => xs.length - (intOf i).toNat)
    case atStart => exact ⟨0, Nat.zero_le _, rfl, by simp only [List.drop_zero]; split <;> omega⟩
    case round =>
      obtain ⟨q, hq, rfl, hwh⟩ := hrel
      by_cases hlt : q < xs.length
      · obtain ⟨y, hy⟩ : ∃ y, xs[q]? = some y := ⟨xs[q], List.getElem?_eq_getElem hlt⟩
        have hdr : xs.drop q = y :: xs.drop (q + 1) := by
          rw [List.drop_eq_getElem_cons hlt]
          rw [List.getElem?_eq_getElem hlt] at hy
          rw [Option.some.inj hy]
        have cq := HC.out q y hy
        rw [hdr, wh_cons] at hwh
        clear hdr hy
        by_cases h128 : y.toNat < 128
        · have hd : decide ((y.toNat : Int) < 128) = true := by simp; omega
          rw [if_pos h128, if_neg (by omega)] at hwh
          have HW := Lib.hid hwh
          clear hwh
          go_wp2
          go_ret
          refine ⟨?_, rfl⟩
          rw [HW.out]
          go_num
        · have hd : decide ((y.toNat : Int) < 128) = false := by simp; omega
          have hw : wh xs = if wh (xs.drop (q + 1)) = 0 then 0 else (q + 1) + wh (xs.drop (q + 1)) := by
            rw [hwh, if_neg h128]
            by_cases hz : wh (xs.drop (q + 1)) = 0
            · rw [if_pos hz, if_pos rfl, if_pos hz]
            · rw [if_neg hz, if_neg (by omega), if_neg hz]
              omega
          have HW := Lib.hid hw
          clear hwh hw
          go_wp2
          go_round
          case rel => exact ⟨q + 1, by omega, by go_num, HW.out⟩
          case measure => simp [intOf]; omega
      · obtain rfl : q = xs.length := by omega
        have hz : wh xs = 0 := by rw [hwh, List.drop_length]; rfl
        clear hwh
        go_wp2
        go_ret
        exact ⟨rfl, rfl⟩

end Go.Proofs.Ytbkbogblbniogaa
