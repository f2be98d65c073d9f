/- The iterator over a number's bytes (bytesOf), and Size. -/
import Derived.Test.YtfoeelhghdonbaaGreatKit
import Derived.RangeFuncNested
import Derived.RangeFuncBound
import Derived.RangeFuncCalls
import Derived.RangeFuncLeaves
import Derived.RangeFuncBox
import Derived.Shelf.Abstract
import Derived.Shelf.RegionOpen
import Derived.WalkKit
import Derived.OwnWalkIn
import Derived.TacticsInMore
import Derived.LoopNIn
import Derived.LoopIn
import Derived.Maps.AppendAt
import Derived.Lib.Hide
import Derived.Outline
import Derived.Test.YtfoeelhghdonbaaGreatProg
import Derived.Test.YtfoeelhghdonbaaGreatLebMath
import Derived.Test.YtfoeelhghdonbaaGreatFrame
namespace Go.Proofs.YtfoeelhghdonbaaGreat
open Go.RowKit Go.Shelf
attribute [local go_sem] Oper.semAt_some

theorem fold1 (t : Array Value) (p : Nat) (v : Value) : Array.foldl (fun (t : Array Value) (x : Nat × Value) => t.setIfInBounds x.fst x.snd) t (#[p].zip #[v]) = t.setIfInBounds p v := by simp
theorem fold2 (t : Array Value) (p q : Nat) (u v : Value) : Array.foldl (fun (t : Array Value) (x : Nat × Value) => t.setIfInBounds x.fst x.snd) t (#[p, q].zip #[u, v]) = (t.setIfInBounds p u).setIfInBounds q v := by simp
theorem b8_small (m : Nat) (h : m < 128) : B8 (UInt8.ofNat m) = .int .u8 (m : Int) := by
  unfold B8; rw [UInt8.toNat_ofNat', Nat.mod_eq_of_lt (by omega)]
theorem b8_great (m : Nat) : B8 (UInt8.ofNat (m % 128 + 128)) = .int .u8 ((m : Int) % 128 + 128) := by
  unfold B8; rw [UInt8.toNat_ofNat', Nat.mod_eq_of_lt (by omega)]; congr 1

set_option maxRecDepth 100000 in
set_option maxHeartbeats 400000 in
theorem bytesOf1_in (F : Fence) (n : Nat) (h6 : F.fn 91) (hro : F.round = none) (hn : 1 ≤ n) (l Bn : Nat) (k : Nat) (hk : k < 18446744073709551616) (J Jx : List UInt8 → World → Prop)
    (hY : ∀ pre x W, J pre W → pre.length < (lebB k).length → YieldAt F (n - 1) Tryz.prog l #[B8 x] W fun e W' =>
      (e = .returned (.bool true) ∧ J (pre ++ [x]) W' ∧ True) ∨ (e = .returned (.bool false) ∧ Jx (pre ++ [x]) W'))
    (W : World) (hBn : W.cell? ⟨Bn, 0, none⟩ = some (.int .u64 k)) (h0 : J [] W) :
    CallsIn F n Tryz.prog 91 #[.func (.yield l) #[] #[], .pointer (some ⟨Bn, 0, none⟩)] W fun e W' => (∃ v, e = .returned v) ∧
      ((∃ ys, ys = lebB k ∧ J ys W') ∨ (∃ pre, pre <+: lebB k ∧ Jx pre W')) := by
  refine callsIn_of_wp Tryz.func91 rfl h6 ?_ hro
  simp only [Tryz.ntmps91, List.size_toArray, List.length_cons, List.length_nil, Nat.reduceAdd, Nat.reduceSub, Array.replicate_succ, Array.replicate_zero, List.push_toArray, List.append_toArray, List.nil_append, List.cons_append]
  gi_wp2
  gi_loopw [3] (fun p wr => ∃ (pre : List UInt8) (m : Nat), p = .int .u64 m ∧ m < 18446744073709551616 ∧ lebB k = pre ++ lebB m ∧ J pre wr)
    (fun p _ => (intOf p).toNat)
  case atStart =>
    exact ⟨[], k, rfl, hk, rfl, h0⟩
  case round =>
    obtain ⟨pre, m, rfl, hm, hx, hJs⟩ := hrel
    have HX := Lib.hid hx
    clear hx
    by_cases hlt : m < 128
    · obtain ⟨fn, tmps, assign, body, hy, hR⟩ := hY pre (UInt8.ofNat m) wr hJs (by rw [HX.out]; have := lebB_pos m; simp; omega)
      rw [b8_small m hlt] at hy
      gi_wp2
      refine hR.mono ?_
      rintro e W3 (⟨rfl, hJ3, -⟩ | ⟨rfl, hJx3⟩)
      · gi_wp2
        go_end0
        exact ⟨⟨_, rfl⟩, .inl ⟨_, by rw [HX.out, lebB_small hlt], hJ3⟩⟩
      · gi_wp2
        go_end0
        exact ⟨⟨_, rfl⟩, .inr ⟨_, by rw [HX.out, lebB_small hlt]; exact List.prefix_refl _, hJx3⟩⟩
    · obtain ⟨fn, tmps, assign, body, hy, hR⟩ := hY pre (UInt8.ofNat (m % 128 + 128)) wr hJs (by rw [HX.out]; have := lebB_pos m; simp; omega)
      rw [b8_great m] at hy
      have hge : 128 ≤ m := by omega
      gi_wp2
      refine hR.mono ?_
      rintro e W3 (⟨rfl, hJ3, -⟩ | ⟨rfl, hJx3⟩)
      · gi_wp2
        go_roundw
        case rel => exact ⟨pre ++ [UInt8.ofNat (m % 128 + 128)], m / 128, by go_num, by omega, by rw [HX.out, lebB_great hge]; simp, hJ3⟩
        case measure => simp [intOf]; omega
      · gi_wp2
        refine bodyPost_ret (results_none rfl _ _ _) rfl ?_
        exact ⟨⟨_, rfl⟩, .inr ⟨_, by rw [HX.out, lebB_great hge]; exact ⟨lebB (m / 128), by simp⟩, hJx3⟩⟩

set_option maxHeartbeats 400000 in
/-- bytesOf(n): the number is boxed; the function value captures the box. -/
theorem bytesOf_in (F : Fence) (n : Nat) (h5 : F.fn 80) (hro : F.round = none) (k : Nat) (w : World) :
    CallsIn F n Tryz.prog 80 #[.int .u64 k] w fun e w' => e = .returned (.func (.func 91) #[] #[.pointer (some ⟨w.heap.size, 0, none⟩)]) ∧ w' = w.alloc (.cells #[.int .u64 k] 122) := by
  refine callsIn_of_wp Tryz.func80 rfl h5 ?_ hro
  simp only [Tryz.ntmps80, List.size_toArray, List.length_cons, List.length_nil, Nat.reduceAdd, Nat.reduceSub, Array.replicate_succ, Array.replicate_zero, List.push_toArray, List.append_toArray, List.nil_append, List.cons_append]
  gi_wp2
  go_ret
  exact ⟨rfl, rfl⟩

/-- bytesOf(n) hands back a value that tells a number's bytes, in order; or a beginning of them. -/
theorem bytesOf_stops (F : Fence) (n : Nat) (h6 : F.fn 91) (hro : F.round = none) (hn : 1 ≤ n) (Bn : Nat) (k : Nat) (hk : k < 18446744073709551616) (w : World) (hBn : Bn < w.heap.size)
    (hc : w.cell? ⟨Bn, 0, none⟩ = some (.int .u64 k)) :
    SeqStopsK F n Tryz.prog 91 #[.pointer (some ⟨Bn, 0, none⟩)] (fun x : UInt8 => #[B8 x]) (fun _ _ => True) (fun ys => ys = lebB k) (fun pre => pre <+: lebB k) (lebB k).length w := fun l J Jx W hW _ _ hY h0 =>
  bytesOf1_in F n h6 hro hn l Bn k hk J Jx hY W ((hW.cell (p := ⟨Bn, 0, none⟩) hBn).trans hc) h0

end Go.Proofs.YtfoeelhghdonbaaGreat
