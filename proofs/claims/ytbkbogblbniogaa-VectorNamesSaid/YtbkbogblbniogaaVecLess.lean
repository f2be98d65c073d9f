/- AtMost, Compare and Lacks of vectors: the program's and the reference's (tools/genvec1.py). -/
import Derived.Test.YtbkbogblbniogaaVec
import Derived.Test.YtbkbogblbniogaaRound
namespace Go.Proofs.Ytbkbogblbniogaa
open Go.RowKit
set_option maxRecDepth 100000

theorem belN {B : Nat} {a w : World} (h : Below B a w) (n : Nat) : Below B a (w.drewN n) := ⟨h.os, h.tape, h.output, h.size, h.block⟩
theorem w32_le (x y : UInt32) : (x.toNat ≤ y.toNat) ↔ ¬ (y.toNat : Int) < (x.toNat : Int) := by omega
theorem two_boxes (w : World) (a b : Vc) : ∃ w2, w2 = (w.alloc (.cells (encC a).toArray 24)).alloc (.cells (encC b).toArray 24) ∧ BoxV w2 w.heap.size a ∧ BoxV w2 (w.heap.size + 1) b ∧ Below w.heap.size w w2 := by
  refine ⟨_, rfl, ?_, ?_, ((Below.refl _ w).alloc (Nat.le_refl _) _).alloc (by simp) _⟩
  · exact (BoxV.new w a).below ((Below.refl _ _).alloc (Nat.le_refl _) _)
  · have := BoxV.new (w.alloc (.cells (encC a).toArray 24)) b
    rwa [World.size_alloc] at this

set_option maxHeartbeats 1000000 in
theorem pVAtMost_any (w : World) (a b : Vc) :
    Calls Try.prog 21 #[VecV a, VecV b] w fun e W' => e = .returned (.bool (decide (LeV a b))) ∧ Below w.heap.size w W' := by
  obtain ⟨w2, hw2, b1, b2, hB0⟩ := two_boxes w a b
  go_enter Try.func21, Try.ntmps21
  go_wp2_with fail
  rw [← hw2]
  clear hw2
  go_loopw [6] (fun i wr => ∃ k : Nat, k ≤ 16 ∧ i = .int .i64 k ∧ (∀ n, n < k → (atV a n).toNat ≤ (atV b n).toNat) ∧ Below w2.heap.size w2 wr) (fun i _ => 16 - (intOf i).toNat)
  case atStart => exact ⟨0, by omega, rfl, fun n hn => by omega, Below.refl _ _⟩
  case round =>
    obtain ⟨k, hk, rfl, hc, hB⟩ := hrel
    have HC := Lib.hid hc
    clear hc
    have hBw := hB0.trans (hB.mono hB0.size)
    by_cases hlt : k < 16
    case pos =>
      have c1 := (b1.below hB).cell hlt
      have c2 := (b2.below hB).cell hlt
      have hlt' : (k : Int) < 16 := by omega
      have h0' : (0 : Int) ≤ (k : Int) := by omega
      by_cases h1 : (atV b k).toNat < (atV a k).toNat
      · have HE := Lib.hid (show decide (LeV a b) = false by simpa using leV_no hlt h1)
        have h1' : ((atV b k).toNat : Int) < ((atV a k).toNat : Int) := by omega
        clear h1 HC
        go_wp2_with fail
        go_quiet (fail)
        go_wp2
        go_ret
        exact ⟨by rw [HE.out]; rfl, belN hBw _⟩
      · have HE := Lib.hid (show ∀ n, n < k + 1 → (atV a n).toNat ≤ (atV b n).toNat by
          intro n hn
          by_cases e : n = k
          · subst e; omega
          · exact HC.out n (by omega))
        have h1' : ¬ ((atV b k).toNat : Int) < ((atV a k).toNat : Int) := by omega
        clear h1 HC
        go_wp2_with fail
        go_quiet (fail)
        go_wp2_with fail
        go_roundw
        case rel => exact ⟨k + 1, by omega, by go_num, HE.out, belN hB _⟩
        case measure => simp [intOf]; omega
    case neg =>
      obtain rfl : k = 16 := by omega
      have HE := Lib.hid (show decide (LeV a b) = true by simpa using (show LeV a b from HC.out))
      go_wp2
      go_ret
      exact ⟨by rw [HE.out]; rfl, hBw⟩

set_option maxHeartbeats 1000000 in
theorem r6AtMost_any (w : World) (a b : Vc) :
    Calls Try.prog 22 #[VecV a, VecV b] w fun e W' => e = .returned (.bool (decide (LeV a b))) ∧ Below w.heap.size w W' := by
  obtain ⟨w2, hw2, b1, b2, hB0⟩ := two_boxes w a b
  go_enter Try.func22, Try.ntmps22
  go_wp2_with fail
  rw [← hw2]
  clear hw2
  go_loopw [5] (fun i wr => ∃ k : Nat, k ≤ 16 ∧ i = .int .i64 k ∧ (∀ n, n < k → (atV a n).toNat ≤ (atV b n).toNat) ∧ Below w2.heap.size w2 wr) (fun i _ => 16 - (intOf i).toNat)
  case atStart => exact ⟨0, by omega, rfl, fun n hn => by omega, Below.refl _ _⟩
  case round =>
    obtain ⟨k, hk, rfl, hc, hB⟩ := hrel
    have HC := Lib.hid hc
    clear hc
    have hBw := hB0.trans (hB.mono hB0.size)
    by_cases hlt : k < 16
    case pos =>
      have c1 := (b1.below hB).cell hlt
      have c2 := (b2.below hB).cell hlt
      have hlt' : (k : Int) < 16 := by omega
      have h0' : (0 : Int) ≤ (k : Int) := by omega
      by_cases h1 : (atV b k).toNat < (atV a k).toNat
      · have HE := Lib.hid (show decide (LeV a b) = false by simpa using leV_no hlt h1)
        have h1' : ((atV b k).toNat : Int) < ((atV a k).toNat : Int) := by omega
        clear h1 HC
        go_wp2_with fail
        go_quiet (fail)
        go_wp2
        go_ret
        exact ⟨by rw [HE.out]; rfl, belN hBw _⟩
      · have HE := Lib.hid (show ∀ n, n < k + 1 → (atV a n).toNat ≤ (atV b n).toNat by
          intro n hn
          by_cases e : n = k
          · subst e; omega
          · exact HC.out n (by omega))
        have h1' : ¬ ((atV b k).toNat : Int) < ((atV a k).toNat : Int) := by omega
        clear h1 HC
        go_wp2_with fail
        go_quiet (fail)
        go_wp2_with fail
        go_roundw
        case rel => exact ⟨k + 1, by omega, by go_num, HE.out, belN hB _⟩
        case measure => simp [intOf]; omega
    case neg =>
      obtain rfl : k = 16 := by omega
      have HE := Lib.hid (show decide (LeV a b) = true by simpa using (show LeV a b from HC.out))
      go_wp2
      go_ret
      exact ⟨by rw [HE.out]; rfl, hBw⟩

set_option maxHeartbeats 1000000 in
theorem pVLacks_form (w : World) (a b : Vc) (q : Nat) (hq : lacksN a b 16 = q) :
    Calls Try.prog 25 #[VecV a, VecV b] w fun e W' => e = .returned (.int .u64 (q : Int)) ∧ Below w.heap.size w W' := by
  have HQ := Lib.hid hq
  clear hq
  obtain ⟨w2, hw2, b1, b2, hB0⟩ := two_boxes w a b
  go_enter Try.func25, Try.ntmps25
  go_wp2_with fail
  rw [← hw2]
  clear hw2
  go_loopw [5, 7] (fun n i wr => ∃ k : Nat, k ≤ 16 ∧ i = .int .i64 k ∧ n = .int .u64 (lacksN a b k : Nat) ∧ Below w2.heap.size w2 wr) (fun _ i _ => 16 - (intOf i).toNat)
  case atStart => exact ⟨0, by omega, rfl, rfl, Below.refl _ _⟩
  case round =>
    obtain ⟨k, hk, rfl, rfl, hB⟩ := hrel
    have hBw := hB0.trans (hB.mono hB0.size)
    by_cases hlt : k < 16
    case pos =>
      have c1 := (b1.below hB).cell hlt
      have c2 := (b2.below hB).cell hlt
      have hlt' : (k : Int) < 16 := by omega
      have h0' : (0 : Int) ≤ (k : Int) := by omega
      have HL := Lib.hid (show lacksN a b (k + 1) = lacksN a b k + ((atV b k).toNat - (atV a k).toNat) from rfl)
      have hle := lacksN_le a b k
      have l1 := (atV a k).toNat_lt
      have l2 := (atV b k).toNat_lt
      have hkk := Nat.mul_le_mul_right 4294967295 (show k ≤ 16 by omega)
      obtain ⟨m, hm⟩ : ∃ m, m = lacksN a b (k + 1) := ⟨_, rfl⟩
      rw [← hm] at HL
      obtain ⟨x, hx⟩ : ∃ x, x = (atV a k).toNat := ⟨_, rfl⟩
      obtain ⟨y, hy⟩ : ∃ y, y = (atV b k).toNat := ⟨_, rfl⟩
      obtain ⟨z, hz⟩ : ∃ z, z = lacksN a b k := ⟨_, rfl⟩
      rw [← hx] at HL l1
      rw [← hy] at HL l2
      rw [← hz] at HL hle
      replace c1 : wr.cell? ⟨w.heap.size, k, none⟩ = some (.int .u32 (x : Int)) := by rw [hx]; exact c1
      replace c2 : wr.cell? ⟨w.heap.size + 1, k, none⟩ = some (.int .u32 (y : Int)) := by rw [hy]; exact c2
      rw [← hz]
      have hr : lacksN a b (k + 1) = m := hm.symm
      clear hm hx hy hz
      by_cases h1 : x < y
      · have h1' : (x : Int) < (y : Int) := by omega
        have n1 : IntKind.u32.wrap ((y : Int) - (x : Int)) = (y : Int) - (x : Int) := IntWalk.u32_in _ (by omega)
        have n2 : IntKind.u64.wrap ((y : Int) - (x : Int)) = (y : Int) - (x : Int) := IntWalk.u64_in _ (by omega)
        have n3 : IntKind.u64.wrap ((z : Int) + ((y : Int) - (x : Int))) = (z : Int) + ((y : Int) - (x : Int)) := IntWalk.u64_in _ (by omega)
        have HM := Lib.hid (show (z : Int) + ((y : Int) - (x : Int)) = (m : Int) by have := HL.out; omega)
        clear h1 HL
        go_wp2_with fail
        go_quiet (fail)
        go_wp2_with fail
        first | go_quiet (fail) | skip
        go_wp2_with fail
        go_roundw
        case rel => exact ⟨k + 1, by omega, by go_num, by rw [hr, ← HM.out], by first | exact belN (belN hB _) _ | exact belN hB _⟩
        case measure => simp [intOf]; omega
      · have h1' : ¬ (x : Int) < (y : Int) := by omega
        have HM := Lib.hid (show z = m by have := HL.out; omega)
        clear h1 HL hle hkk l1 l2
        go_wp2_with fail
        go_quiet (fail)
        go_wp2_with fail
        go_roundw
        case rel => exact ⟨k + 1, by omega, by go_num, by rw [hr, HM.out], belN hB _⟩
        case measure => simp [intOf]; omega
    case neg =>
      obtain rfl : k = 16 := by omega
      rw [HQ.out]
      go_wp2
      go_ret
      exact ⟨rfl, hBw⟩
theorem pVLacks_any (w : World) (a b : Vc) : Calls Try.prog 25 #[VecV a, VecV b] w fun e W' => e = .returned (.int .u64 (lacksN a b 16 : Nat)) ∧ Below w.heap.size w W' := pVLacks_form w a b _ rfl

set_option maxHeartbeats 1000000 in
theorem r6Lacks_form (w : World) (a b : Vc) (q : Nat) (hq : lacksN a b 16 = q) :
    Calls Try.prog 26 #[VecV a, VecV b] w fun e W' => e = .returned (.int .u64 (q : Int)) ∧ Below w.heap.size w W' := by
  have HQ := Lib.hid hq
  clear hq
  obtain ⟨w2, hw2, b1, b2, hB0⟩ := two_boxes w a b
  go_enter Try.func26, Try.ntmps26
  go_wp2_with fail
  rw [← hw2]
  clear hw2
  go_loopw [5, 6] (fun n i wr => ∃ k : Nat, k ≤ 16 ∧ i = .int .i64 k ∧ n = .int .u64 (lacksN a b k : Nat) ∧ Below w2.heap.size w2 wr) (fun _ i _ => 16 - (intOf i).toNat)
  case atStart => exact ⟨0, by omega, rfl, rfl, Below.refl _ _⟩
  case round =>
    obtain ⟨k, hk, rfl, rfl, hB⟩ := hrel
    have hBw := hB0.trans (hB.mono hB0.size)
    by_cases hlt : k < 16
    case pos =>
      have c1 := (b1.below hB).cell hlt
      have c2 := (b2.below hB).cell hlt
      have hlt' : (k : Int) < 16 := by omega
      have h0' : (0 : Int) ≤ (k : Int) := by omega
      have HL := Lib.hid (show lacksN a b (k + 1) = lacksN a b k + ((atV b k).toNat - (atV a k).toNat) from rfl)
      have hle := lacksN_le a b k
      have l1 := (atV a k).toNat_lt
      have l2 := (atV b k).toNat_lt
      have hkk := Nat.mul_le_mul_right 4294967295 (show k ≤ 16 by omega)
      obtain ⟨m, hm⟩ : ∃ m, m = lacksN a b (k + 1) := ⟨_, rfl⟩
      rw [← hm] at HL
      obtain ⟨x, hx⟩ : ∃ x, x = (atV a k).toNat := ⟨_, rfl⟩
      obtain ⟨y, hy⟩ : ∃ y, y = (atV b k).toNat := ⟨_, rfl⟩
      obtain ⟨z, hz⟩ : ∃ z, z = lacksN a b k := ⟨_, rfl⟩
      rw [← hx] at HL l1
      rw [← hy] at HL l2
      rw [← hz] at HL hle
      replace c1 : wr.cell? ⟨w.heap.size, k, none⟩ = some (.int .u32 (x : Int)) := by rw [hx]; exact c1
      replace c2 : wr.cell? ⟨w.heap.size + 1, k, none⟩ = some (.int .u32 (y : Int)) := by rw [hy]; exact c2
      rw [← hz]
      have hr : lacksN a b (k + 1) = m := hm.symm
      clear hm hx hy hz
      by_cases h1 : x < y
      · have h1' : (x : Int) < (y : Int) := by omega
        have n1 : IntKind.u32.wrap ((y : Int) - (x : Int)) = (y : Int) - (x : Int) := IntWalk.u32_in _ (by omega)
        have n2 : IntKind.u64.wrap ((y : Int) - (x : Int)) = (y : Int) - (x : Int) := IntWalk.u64_in _ (by omega)
        have n3 : IntKind.u64.wrap ((z : Int) + ((y : Int) - (x : Int))) = (z : Int) + ((y : Int) - (x : Int)) := IntWalk.u64_in _ (by omega)
        have HM := Lib.hid (show (z : Int) + ((y : Int) - (x : Int)) = (m : Int) by have := HL.out; omega)
        clear h1 HL
        go_wp2_with fail
        go_quiet (fail)
        go_wp2_with fail
        first | go_quiet (fail) | skip
        go_wp2_with fail
        go_roundw
        case rel => exact ⟨k + 1, by omega, by go_num, by rw [hr, ← HM.out], by first | exact belN (belN hB _) _ | exact belN hB _⟩
        case measure => simp [intOf]; omega
      · have h1' : ¬ (x : Int) < (y : Int) := by omega
        have HM := Lib.hid (show z = m by have := HL.out; omega)
        clear h1 HL hle hkk l1 l2
        go_wp2_with fail
        go_quiet (fail)
        go_wp2_with fail
        go_roundw
        case rel => exact ⟨k + 1, by omega, by go_num, by rw [hr, HM.out], belN hB _⟩
        case measure => simp [intOf]; omega
    case neg =>
      obtain rfl : k = 16 := by omega
      rw [HQ.out]
      go_wp2
      go_ret
      exact ⟨rfl, hBw⟩
theorem r6Lacks_any (w : World) (a b : Vc) : Calls Try.prog 26 #[VecV a, VecV b] w fun e W' => e = .returned (.int .u64 (lacksN a b 16 : Nat)) ∧ Below w.heap.size w W' := r6Lacks_form w a b _ rfl
end Go.Proofs.Ytbkbogblbniogaa
