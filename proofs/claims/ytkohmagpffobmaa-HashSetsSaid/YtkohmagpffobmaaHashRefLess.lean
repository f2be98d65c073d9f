/- The reference's Less. -/
import Derived.Test.YtkohmagpffobmaaIdRows
namespace Go.Proofs.Ytkohmagpffobmaa
open Go.RowKit

/-- Those that the other list has not. -/
def lessI (l m : List (List UInt8)) : List (List UInt8) := l.filter fun x => !decide (x ∈ m)
theorem lessI_succ {l m : List (List UInt8)} {k : Nat} {x : List UInt8} (hx : l[k]? = some x) : lessI (l.take (k + 1)) m = lessI (l.take k) m ++ (if x ∈ m then [] else [x]) := by
  unfold lessI
  rw [List.take_add_one, hx, List.filter_append]
  by_cases h : x ∈ m <;> simp [h]
theorem lessI_le (l m : List (List UInt8)) : (lessI l m).length ≤ l.length := List.length_filter_le _ _

set_option maxRecDepth 100000 in
set_option maxHeartbeats 1000000 in
theorem rLess_form (w : World) (A B : Option Addr) (c d : Nat) (l m : List (List UInt8)) (hl : Is w (.slice A l.length c) l) (hm : Is w (.slice B m.length d) m) (hll : l.length ≤ 1000) (hml : m.length ≤ 1000) :
    Calls Try.prog 17 #[.slice A l.length c, .slice B m.length d] w fun e W' => ∃ v', e = .returned v' ∧ RowI W' w.heap.size v' (lessI l m) ∧ Below w.heap.size w W' := by
  go_enter Try.func17, Try.ntmps17
  go_wp2_with fail
  go_loopw [5, 6] (fun v i wr => ∃ k : Nat, k ≤ l.length ∧ i = .int .i64 k ∧ RowI wr w.heap.size v (lessI (l.take k) m) ∧ Below w.heap.size w wr) (fun _ i _ => l.length - (intOf i).toNat)
  case atStart => exact ⟨0, by omega, rfl, RowI.nil _ _, Below.refl _ _⟩
  case round =>
    obtain ⟨k, hk, rfl, hrow, hB⟩ := hrel
    by_cases hlt : k < l.length
    case pos =>
      obtain ⟨x, hxk⟩ : ∃ x, l[k]? = some x := ⟨_, List.getElem?_eq_getElem hlt⟩
      obtain ⟨hx32, b, off, rfl, hat⟩ := hl.at hxk
      have HS := Lib.hid (lessI_succ (m := m) hxk)
      have hat1 := hat.below hB
      have hll2 := lessI_le (l.take k) m
      rw [List.length_take, Nat.min_eq_left hk] at hll2
      obtain ⟨Ar, cr, rfl, hcr⟩ := hrow.slice
      have HROW := Lib.hid hrow
      clear hxk hrow
      go_wp2_with (refine wpList_load_mid rfl 23 (.tmp 17) rfl b (off + k * 32) rfl (x.map B8) _ hat1 Try.underlying23 rfl (sizeID hx32) ?_)
      refine (rHas_any wr _ m (hm.below hB) (by omega) x hx32).mono ?_
      rintro e w1 ⟨rfl, h1⟩
      have hB1 := hB.trans (h1.mono hB.size)
      have hat2 := hat.below hB1
      have hrow1 := HROW.out.below h1
      by_cases hxm : x ∈ m
      · rw [decide_eq_true hxm]
        have HS2 := Lib.hid (show lessI (l.take (k + 1)) m = lessI (l.take k) m by rw [HS.out, if_pos hxm, List.append_nil])
        clear HS hxm
        go_wp2_with fail
        go_roundw
        case rel => exact ⟨k + 1, by omega, by go_num, by rw [HS2.out]; exact hrow1, hB1⟩
        case measure => simp [intOf]; omega
      · rw [decide_eq_false hxm]
        have HS2 := Lib.hid (show lessI (l.take (k + 1)) m = lessI (l.take k) m ++ [x] by rw [HS.out, if_neg hxm])
        clear HS hxm
        have hone := Is.one w1 hx32 23
        have hrow2 := hrow1.below ((Below.refl _ w1).alloc (Nat.le_refl _) (.cells (x.map B8).toArray 23))
        have hB2 := hB1.alloc hB1.size (.cells (x.map B8).toArray 23)
        go_wp2_with (first | (refine wpList_load_mid rfl 23 (.tmp 25) rfl b (off + k * 32) rfl (x.map B8) _ hat2 Try.underlying23 rfl (sizeID hx32) ?_) | (refine wpList_one_id rfl (.tmp 26) rfl hx32 rfl ?_) | (at_builtin; refine wpList_append_is rfl (.tmp 22) (.tmp 27) rfl w.heap.size _ _ rfl hrow2 _ [x] rfl hone (by simp; omega) hB2.size ?_; intro v3 w3 hown3 hg3 _))
        have hB3 := hB2.trans ((Kept.of_grown hg3).below (fun j _ e => (hrow2.own.lt j e).1) hB2.size)
        go_roundw
        case rel => exact ⟨k + 1, by omega, by go_num, by rw [HS2.out]; exact hown3, hB3⟩
        case measure => simp [intOf]; omega
    case neg =>
      obtain rfl : k = l.length := by omega
      rw [List.take_length] at hrow
      obtain ⟨Ar, cr, rfl, hcr⟩ := hrow.slice
      go_wp2
      go_ret
      exact ⟨_, rfl, hrow, hB⟩
theorem rLess_any (w : World) (v u : Value) (l m : List (List UInt8)) (hl : Is w v l) (hm : Is w u m) (hll : l.length ≤ 1000) (hml : m.length ≤ 1000) :
    Calls Try.prog 17 #[v, u] w fun e W' => ∃ v', e = .returned v' ∧ RowI W' w.heap.size v' (lessI l m) ∧ Below w.heap.size w W' := by
  obtain ⟨A, c, rfl, _⟩ := hl.form
  obtain ⟨B, d, rfl, _⟩ := hm.form
  exact rLess_form w A B c d l m hl hm hll hml
end Go.Proofs.Ytkohmagpffobmaa
