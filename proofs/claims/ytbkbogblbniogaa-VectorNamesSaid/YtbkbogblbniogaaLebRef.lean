/- The reference's functions: Twin, Number, Bytes. -/
import Derived.Test.YtbkbogblbniogaaLebSrc
import Derived.Test.YtbkbogblbniogaaLebSinkMore
import Derived.IntWalk
namespace Go.Proofs.Ytbkbogblbniogaa
open Go.RowKit


set_option maxHeartbeats 400000 in
theorem Twin_any (w : World) (sv : Value) (ys : List UInt8) (hs : Bs w sv ys) (hlen : ys.length ≤ 140737488355328) : Calls Try.prog 27 #[sv] w (Made w ys) := by
  obtain ⟨i0, hi, hz0, hz1, hz2⟩ := info_parts infoU8
  obtain ⟨A, c, rfl, hc⟩ := hs.form
  go_enter Try.func27, Try.ntmps27
  go_wp2_with (at_builtin; refine wpList_append_bs rfl (.tmp 4) (.tmp 5) 45 rfl w.heap.size 5 i0 Try.underlying45 hi hz0 hz1 hz2 (.slice none 0 0) [] rfl (World.ownsRow_nil _ _ _ _) _ ys rfl hs (by simp; omega) (Nat.le_refl _) ?_; intro v' w1 hown1 hg1 hw1 _ _; obtain ⟨A', n', c', rfl⟩ := owns_slice hown1)
  go_ret
  exact ⟨_, rfl, hown1, (Kept.of_grown hg1).below (fun j _ e => by simp [Value.ownBlock] at e) (Nat.le_refl _)⟩

set_option maxHeartbeats 1000000 in
theorem rNumber_any (k : Nat) (hk : k < 18446744073709551616) (w : World) : Calls Try.prog 56 #[.int .u64 k] w (Made w (lebB k)) := by
  obtain ⟨i0, hi, hz0, hz1, hz2⟩ := info_parts infoU8
  have hkl := lebB_u64 hk
  go_enter Try.func56, Try.ntmps56
  go_wp2_with fail
  go_loopw [0, 3] (fun n b wr => ∃ (m : Nat) (pre : List UInt8), m < 18446744073709551616 ∧ n = .int .u64 m ∧ lebB k = pre ++ lebB m ∧ wr.ownsRow w.heap.size 5 1 b pre.length (pre.map B8) ∧ Below w.heap.size w wr) (fun n _ _ => (intOf n).toNat)
  case atStart => exact ⟨k, [], hk, rfl, rfl, World.ownsRow_nil _ _ _ _, Below.refl _ _⟩
  case round =>
    obtain ⟨m, pre, hm, rfl, hpre, hrow, hB⟩ := hrel
    obtain ⟨Ab, nb, cb, rfl⟩ := owns_slice hrow
    have hpl := congrArg List.length hpre
    rw [List.length_append] at hpl
    have HP := Lib.hid hpre
    clear hpre
    by_cases h : 128 ≤ m
    · have hd : decide ((128 : Int) ≤ (m : Int)) = true := by simp; omega
      have hone : Bs (wr.alloc (.cells #[.int .u8 (128 + (m : Int) % 128)] 5)) (.slice (some ⟨wr.heap.size, 0, none⟩) 1 1) [UInt8.ofNat (m % 128 + 128)] := by
        have h1 := Bs.one wr (UInt8.ofNat (m % 128 + 128)) 5
        rw [b8_great] at h1
        rw [Int.add_comm]
        exact h1
      go_wp2_with (at_builtin; refine wpList_append_bs rfl (.tmp 6) (.tmp 11) 45 rfl w.heap.size 5 i0 Try.underlying45 hi hz0 hz1 hz2 _ pre rfl (hrow.alloc _) _ _ rfl hone (by simp; omega) (by have := hB.size; simp; omega) ?_; intro v' w1 hown1 hg1 hw1 _ _; obtain ⟨A', n', c', rfl⟩ := owns_slice hown1)
      go_roundw
      case rel => exact ⟨m / 128, pre ++ [UInt8.ofNat (m % 128 + 128)], by omega, by go_num, by rw [HP.out, lebB_great h, List.append_assoc]; rfl, hown1, (hB.alloc hB.size _).trans ((Kept.of_grown hg1).below (fun j _ e => (hrow.lt j e).1) (by have := hB.size; simp; omega))⟩
      case measure => simp [intOf]; omega
    · have hd : decide ((128 : Int) ≤ (m : Int)) = false := by simp; omega
      have hone : Bs (wr.alloc (.cells #[.int .u8 (m : Int)] 5)) (.slice (some ⟨wr.heap.size, 0, none⟩) 1 1) [UInt8.ofNat m] := by
        have h1 := Bs.one wr (UInt8.ofNat m) 5
        rw [b8_small m (by omega)] at h1
        exact h1
      go_wp2_with (at_builtin; refine wpList_append_bs rfl (.tmp 15) (.tmp 18) 45 rfl w.heap.size 5 i0 Try.underlying45 hi hz0 hz1 hz2 _ pre rfl (hrow.alloc _) _ _ rfl hone (by simp; omega) (by have := hB.size; simp; omega) ?_; intro v' w1 hown1 hg1 hw1 _ _; obtain ⟨A', n', c', rfl⟩ := owns_slice hown1)
      go_ret
      exact ⟨_, rfl, by rw [HP.out, lebB_small (by omega)]; exact hown1, (hB.alloc hB.size _).trans ((Kept.of_grown hg1).below (fun j _ e => (hrow.lt j e).1) (by have := hB.size; simp; omega))⟩

end Go.Proofs.Ytbkbogblbniogaa
