/- What all walks of this seat lean on: the byte's row of the program's table; a new slice of bytes. Bytes of a string: new memory that reads as they do. Words turned and laid over each other: the program's RotateLeft32, turns, spread0, spread1. The program's isPrime. The iterator over a number's bytes (bytesOf), and Size. bytes.Clone. A Source: From, Left, End, raw. -/
import Derived.RangeFuncNested
import Derived.RangeFuncBound
import Derived.RangeFuncCalls
import Derived.RangeFuncLeaves
import Derived.RangeFuncBox
import Derived.Shelf.Abstract
import Derived.Shelf.RegionOpen
import Derived.WalkKit
import Derived.WalkSpells
import Derived.WalkLawsBesides
import Derived.Lib.SliceRun
import Derived.OwnWalkIn
import Derived.TacticsInMore
import Derived.LoopNIn
import Derived.LoopIn
import Derived.Maps.AppendAt
import Derived.Lib.Hide
import Derived.Outline
import Derived.IntWalk
import Derived.Laws.BitsAllLaws
import Derived.BigQuiet
import Derived.Laws.IdiomStrings
import Derived.Lib.SmallJoins
import Derived.Test.YtljihmbmjpcfaaaGreatProg
import Derived.Test.YtljihmbmjpcfaaaGreatFrame
import Derived.Test.YtljihmbmjpcfaaaGreatHashOfMath
namespace Go.Proofs.YtljihmbmjpcfaaaGreat
open Go.RowKit Go.Shelf
set_option maxRecDepth 100000

theorem infoU8 : (Tryz.prog.info? 5).map (fun i => (i.zero, i.size, i.bytes)) = some (some (.int .u8 0), 1, 1) := by kernel_rfl

theorem owns_below {w w' : World} {base : Nat} {e : TypeId} {size : Nat} {v : Value} {n : Nat} {xs : List Value} (h : w.ownsRow base e size v n xs) (hb : Below w.heap.size w w') : w'.ownsRow base e size v n xs :=
  (Kept.of_below hb (Nat.le_refl _) (fun _ => False)).owns h (fun _ _ h => h)
/-- Where a byte of a slice stands. -/
theorem Bs.at {W : World} {A : Option Addr} {n c : Nat} {xs : List UInt8} (h : Bs W (.slice A n c) xs) {i : Nat} (hi : i < xs.length) : ∃ b off, A = some ⟨b, off, none⟩ ∧ W.cell? ⟨b, off + i, none⟩ = some (B8 xs[i]) := by
  cases xs with
  | nil => simp at hi
  | cons x xs =>
    obtain ⟨b, off, c', he, _, hc⟩ := h.cons
    injection he with h1 h2 h3
    exact ⟨b, off, h1, hc i _ (List.getElem?_eq_getElem hi)⟩
/-- A piece of bytes at a plain place. -/
theorem Bs.sub {W : World} {b off m c : Nat} {xs zs : List UInt8} (h : Bs W (.slice (some ⟨b, off, none⟩) m c) xs) (lo : Nat) {k c' o' : Nat} (ho : o' = off + lo) (hk : lo + k ≤ xs.length) (hc : k ≤ c') (hz : zs = (xs.drop lo).take k) : Bs W (.slice (some ⟨b, o', none⟩) k c') zs := by
  subst ho hz
  have hl : ((xs.drop lo).take k).length = k := by simp; omega
  refine .inr ⟨⟨b, off + lo, none⟩, c', by rw [hl], by rw [hl]; exact hc, fun i x hi => ?_⟩
  obtain ⟨h1, h2⟩ := List.getElem?_eq_some_iff.1 hi
  rw [hl] at h1
  obtain ⟨b', off', he, hx⟩ := h.at (i := lo + i) (by omega)
  injection he with he
  injection he with e1 e2
  subst e1 e2
  rw [add_plain, Nat.add_assoc, hx, ← h2]
  simp
/-- No bytes, wherever. -/
theorem Bs.empty (W : World) (ad : Addr) (c : Nat) {n : Nat} {zs : List UInt8} (hn : n = 0) (hz : zs = []) : Bs W (.slice (some ad) n c) zs := by
  subst hn hz
  exact .inr ⟨ad, c, rfl, Nat.zero_le _, fun i x hi => by simp at hi⟩
theorem Bs.len {W : World} {A : Option Addr} {n c : Nat} {xs : List UInt8} (h : Bs W (.slice A n c) xs) : n = xs.length ∧ xs.length ≤ c := by
  obtain ⟨A', c', he, hc⟩ := h.form
  injection he with h1 h2 h3
  subst h3
  exact ⟨h2, hc⟩

/-- A row of bytes of the call's own. -/
abbrev Row (W : World) (n : Nat) (v : Value) (xs : List UInt8) : Prop := W.ownsRow n 5 1 v xs.length (xs.map B8)
theorem row_set {W : World} {n g cap q : Nat} {zs : List UInt8} (h : Row W n (.slice (some ⟨g, 0, none⟩) zs.length cap) zs) (y : UInt8) : Row (W.setCell ⟨g, q, none⟩ (B8 y)) n (.slice (some ⟨g, 0, none⟩) zs.length cap) (zs.set q y) := by
  have h1 := (h.stored q (B8 y)).1
  unfold Row
  rw [List.length_set, List.map_set]
  exact h1
theorem row_cell {W : World} {n g cap : Nat} {zs : List UInt8} (h : Row W n (.slice (some ⟨g, 0, none⟩) zs.length cap) zs) {q : Nat} {y : UInt8} (hy : zs[q]? = some y) : W.cell? ⟨g, q, none⟩ = some (B8 y) := by
  have hq := (List.getElem?_eq_some_iff.1 hy).1
  rw [h.cellAt q (by omega), List.getElem?_map, hy]
  rfl
theorem row_at {W : World} {n m c : Nat} {A : Option Addr} {zs : List UInt8} (h : Row W n (.slice A m c) zs) (hz : 0 < zs.length) : ∃ g, A = some ⟨g, 0, none⟩ ∧ m = zs.length := by
  obtain ⟨A', c', h1, _⟩ := (Bs.of_owns h).form
  obtain ⟨g, m', cap', h2⟩ := owns_form h hz
  injection h1 with _ h3 _
  injection h2 with h4 _ _
  exact ⟨g, h4, h3⟩
theorem inc_u8 (y : UInt8) : B8 (y + 1) = .int .u8 (IntKind.u8.wrap ((y.toNat : Int) + 1)) := by
  unfold B8
  rw [UInt8.toNat_add, IntKind.wrap_u8]
  congr 1

/-- A new slice of these bytes. -/
def Made (w : World) (xs : List UInt8) (e : Ending) (W' : World) : Prop :=
  ∃ v', e = .returned v' ∧ W'.ownsRow w.heap.size 5 1 v' xs.length (xs.map B8) ∧ Below w.heap.size w W'

/-- Bytes of a constant string. -/
theorem const_bytes (w : World) (s : List UInt8) (k : Nat) (hk : s.length = k) (C : Array Value) (hC : C = (s.map B8).toArray) (g : Nat) (hg : g = w.heap.size) : ∃ (W' : World), (convert 22 22 (.slice (some ⟨g, 0, none⟩) k k)).run Tryz.prog (w.alloc (.cells C 5)) = .ok (.slice (some ⟨g, 0, none⟩) k k) W' ∧ Bs W' (.slice (some ⟨g, 0, none⟩) k k) s ∧ Below w.heap.size w W' := by
  subst hg hC hk
  refine ⟨_, Lib.run_convert_bytes_const w 22 5 _ _ _ Tryz.underlying22 Tryz.underlying5, .inr ⟨_, _, rfl, Nat.le_refl _, fun i y hy => ?_⟩, (Below.refl _ w).alloc (Nat.le_refl _) _⟩
  rw [add_plain, Nat.zero_add]
  refine (World.cell?_alloc_mark w _ _ _ i).trans ?_
  simp [hy]
end Go.Proofs.YtljihmbmjpcfaaaGreat
namespace Go.Proofs.YtljihmbmjpcfaaaGreat
open Go.RowKit

theorem conv_bytes (w : World) (s : List UInt8) : ∃ (c : Nat) (W' : World), (convert 9 22 (Str s)).run Tryz.prog w = .ok (.slice (some ⟨w.heap.size, 0, none⟩) s.length c) W' ∧ Bs W' (.slice (some ⟨w.heap.size, 0, none⟩) s.length c) s ∧ Below w.heap.size w W' := by
  have h := run_bytes_of_string (P := Tryz.prog) w 9 22 5 ⟨s.toArray⟩ Tryz.underlying9 Tryz.underlying22 Tryz.underlying5
  have hsz : (⟨s.toArray⟩ : ByteArray).size = s.length := by simp [ByteArray.size]
  rw [hsz] at h
  refine ⟨_, _, h, .inr ⟨_, _, rfl, grownCap_ge _ _ _ _, fun i y hy => ?_⟩, ((Below.refl _ w).drew).alloc (Nat.le_refl _) _⟩
  have hi := (List.getElem?_eq_some_iff.1 hy).1
  rw [add_plain, Nat.zero_add]
  refine (World.cell?_alloc_mark w.drew _ _ _ i).trans ?_
  unfold bytesRow
  rw [Array.getElem?_append_left (by simpa using hi)]
  simp [hy]
end Go.Proofs.YtljihmbmjpcfaaaGreat
namespace Go.Proofs.YtljihmbmjpcfaaaGreat
open Go.RowKit

/-- A word. -/
abbrev Wd (n : Nat) : Value := .int .u32 (n : Int)

set_option maxRecDepth 100000 in
set_option maxHeartbeats 400000 in
theorem rotl_any (w : World) (x n : Nat) (hx : x < 4294967296) (h1 : 1 ≤ n) (h2 : n ≤ 31) :
    Calls Tryz.prog 176 #[.int .u32 (x : Int), .int .i64 (-(n : Int))] w fun e W' => e = .returned (.int .u32 ((rotr x n : Nat) : Int)) ∧ w = W' := by
  obtain ⟨s, hsn⟩ : ∃ s, s = 32 - n := ⟨_, rfl⟩
  have hs : bits .and .u64 (IntKind.u64.wrap (-(n : Int))) 31 = (s : Int) := by
    have h : ∀ m : Nat, m < 32 → 1 ≤ m → bits .and .u64 (IntKind.u64.wrap (-(m : Int))) 31 = ((32 - m : Nat) : Int) := by decide +kernel
    rw [hsn]
    exact h n (by omega) h1
  have hr : bits .or .u32 ((x : Int) * 2 ^ s % 4294967296) ((x : Int) / 2 ^ (32 - s)) = (rotr x n : Nat) := by
    have e1 : (x : Int) / 2 ^ (32 - s) = ((x / 2 ^ n : Nat) : Int) := by rw [show 32 - s = n by omega]; simp
    have e2 : (x : Int) * 2 ^ s % 4294967296 = ((x * 2 ^ (32 - n) % 4294967296 : Nat) : Int) := by rw [hsn]; simp
    rw [e1, e2, u32_or_nat _ _ (Nat.mod_lt _ (by decide)) (Nat.lt_of_le_of_lt (Nat.div_le_self _ _) hx), Nat.or_comm]
    rfl
  have hs1 : 1 ≤ s := by omega
  have hs2 : s ≤ 31 := by omega
  clear hsn
  go_enter Tryz.func176, Tryz.ntmps176
  go_wp2
  go_ret
  exact ⟨rfl, rfl⟩

set_option maxRecDepth 100000 in
set_option maxHeartbeats 400000 in
theorem spread0_any (w : World) (x : Nat) (hx : x < 4294967296) :
    Calls Tryz.prog 153 #[.int .u32 (x : Int)] w fun e W' => e = .returned (.int .u32 ((smallLow x : Nat) : Int)) ∧ w = W' := by
  have x1 := u32_xor_nat (rotr x 7) (rotr x 18) (rotr_bound hx) (rotr_bound hx)
  have x2 := u32_xor_nat (rotr x 7 ^^^ rotr x 18) (x / 8) (Nat.xor_lt_two_pow (n := 32) (rotr_bound hx) (rotr_bound hx)) (by omega)
  have q8 : (x : Int) / 8 = ((x / 8 : Nat) : Int) := by omega
  rw [← q8] at x2
  clear q8
  have r1 : ∀ W, Calls Tryz.prog 176 #[.int .u32 (x : Int), .int .i64 (-7)] W fun e w' => e = .returned (.int .u32 ((rotr x 7 : Nat) : Int)) ∧ W = w' := fun W => rotl_any W x 7 hx (by omega) (by omega)
  have r2 : ∀ W, Calls Tryz.prog 176 #[.int .u32 (x : Int), .int .i64 (-18)] W fun e w' => e = .returned (.int .u32 ((rotr x 18 : Nat) : Int)) ∧ W = w' := fun W => rotl_any W x 18 hx (by omega) (by omega)
  go_enter Tryz.func153, Tryz.ntmps153
  go_wp2_with fail
  refine (r1 _).mono ?_
  rintro e w' ⟨rfl, rfl⟩
  go_simp
  go_wp2_with fail
  refine (r2 _).mono ?_
  rintro e w' ⟨rfl, rfl⟩
  go_simp
  go_wp2_with fail
  go_ret
  exact ⟨rfl, rfl⟩

set_option maxRecDepth 100000 in
set_option maxHeartbeats 400000 in
theorem spread1_any (w : World) (x : Nat) (hx : x < 4294967296) :
    Calls Tryz.prog 154 #[.int .u32 (x : Int)] w fun e W' => e = .returned (.int .u32 ((smallHigh x : Nat) : Int)) ∧ w = W' := by
  have x1 := u32_xor_nat (rotr x 17) (rotr x 19) (rotr_bound hx) (rotr_bound hx)
  have x2 := u32_xor_nat (rotr x 17 ^^^ rotr x 19) (x / 1024) (Nat.xor_lt_two_pow (n := 32) (rotr_bound hx) (rotr_bound hx)) (by omega)
  have q8 : (x : Int) / 1024 = ((x / 1024 : Nat) : Int) := by omega
  rw [← q8] at x2
  clear q8
  have r1 : ∀ W, Calls Tryz.prog 176 #[.int .u32 (x : Int), .int .i64 (-17)] W fun e w' => e = .returned (.int .u32 ((rotr x 17 : Nat) : Int)) ∧ W = w' := fun W => rotl_any W x 17 hx (by omega) (by omega)
  have r2 : ∀ W, Calls Tryz.prog 176 #[.int .u32 (x : Int), .int .i64 (-19)] W fun e w' => e = .returned (.int .u32 ((rotr x 19 : Nat) : Int)) ∧ W = w' := fun W => rotl_any W x 19 hx (by omega) (by omega)
  go_enter Tryz.func154, Tryz.ntmps154
  go_wp2_with fail
  refine (r1 _).mono ?_
  rintro e w' ⟨rfl, rfl⟩
  go_simp
  go_wp2_with fail
  refine (r2 _).mono ?_
  rintro e w' ⟨rfl, rfl⟩
  go_simp
  go_wp2_with fail
  go_ret
  exact ⟨rfl, rfl⟩

set_option maxRecDepth 100000 in
set_option maxHeartbeats 400000 in
theorem turns_any (w : World) (x i j k : Nat) (hx : x < 4294967296) (hi : 1 ≤ i) (hi2 : i ≤ 31) (hj : 1 ≤ j) (hj2 : j ≤ 31) (hk : 1 ≤ k) (hk2 : k ≤ 31) :
    Calls Tryz.prog 155 #[.int .u32 (x : Int), .int .i64 (i : Int), .int .i64 (j : Int), .int .i64 (k : Int)] w fun e W' => e = .returned (.int .u32 ((rotr x i ^^^ rotr x j ^^^ rotr x k : Nat) : Int)) ∧ w = W' := by
  have x1 := u32_xor_nat (rotr x i) (rotr x j) (rotr_bound hx) (rotr_bound hx)
  have x2 := u32_xor_nat (rotr x i ^^^ rotr x j) (rotr x k) (Nat.xor_lt_two_pow (n := 32) (rotr_bound hx) (rotr_bound hx)) (rotr_bound hx)
  have r1 : ∀ W, Calls Tryz.prog 176 #[.int .u32 (x : Int), .int .i64 (-(i : Int))] W fun e w' => e = .returned (.int .u32 ((rotr x i : Nat) : Int)) ∧ W = w' := fun W => rotl_any W x i hx hi hi2
  have r2 : ∀ W, Calls Tryz.prog 176 #[.int .u32 (x : Int), .int .i64 (-(j : Int))] W fun e w' => e = .returned (.int .u32 ((rotr x j : Nat) : Int)) ∧ W = w' := fun W => rotl_any W x j hx hj hj2
  have r3 : ∀ W, Calls Tryz.prog 176 #[.int .u32 (x : Int), .int .i64 (-(k : Int))] W fun e w' => e = .returned (.int .u32 ((rotr x k : Nat) : Int)) ∧ W = w' := fun W => rotl_any W x k hx hk hk2
  go_enter Tryz.func155, Tryz.ntmps155
  go_wp2_with fail
  refine (r1 _).mono ?_
  rintro e w' ⟨rfl, rfl⟩
  go_simp
  go_wp2_with fail
  refine (r2 _).mono ?_
  rintro e w' ⟨rfl, rfl⟩
  go_simp
  go_wp2_with fail
  refine (r3 _).mono ?_
  rintro e w' ⟨rfl, rfl⟩
  go_simp
  go_wp2_with fail
  go_ret
  exact ⟨rfl, rfl⟩
end Go.Proofs.YtljihmbmjpcfaaaGreat
namespace Go.Proofs.YtljihmbmjpcfaaaGreat
open Go.RowKit

theorem isPr_stop {n f m : Nat} (h : ¬ m * m ≤ n) : isPr n f m = true := by
  cases f with
  | zero => rfl
  | succ f => rw [isPr, if_neg h]
theorem isPr_next {n m : Nat} (hm : m < 22) (h : m * m ≤ n) : isPr n (22 - m) m = if n % m = 0 then false else isPr n (22 - (m + 1)) (m + 1) := by
  rw [show 22 - m = (22 - (m + 1)) + 1 by omega, isPr, if_pos h]

set_option maxRecDepth 100000 in
set_option maxHeartbeats 400000 in
theorem isPrime_any (w : World) (n : Nat) (h2 : 2 ≤ n) (hn : n < 400) :
    Calls Tryz.prog 82 #[.int .u64 (n : Int)] w fun e W' => e = .returned (.bool (isPr n 20 2)) ∧ w = W' := by
  go_enter Tryz.func82, Tryz.ntmps82
  go_wp2_with fail
  go_loopw [3] (fun v wr => ∃ m : Nat, 2 ≤ m ∧ m ≤ 22 ∧ v = .int .u64 (m : Int) ∧ isPr n (22 - m) m = isPr n 20 2 ∧ w = wr) (fun v _ => 22 - (intOf v).toNat)
  case atStart => exact ⟨2, by omega, by omega, rfl, rfl, rfl⟩
  case round =>
    obtain ⟨m, hm2, hm22, rfl, hI, rfl⟩ := hrel
    obtain ⟨q, hq⟩ : ∃ q, q = m * m := ⟨_, rfl⟩
    have hq2 : q ≤ 484 := by rw [hq]; exact Nat.mul_le_mul hm22 hm22
    have hmm : (m : Int) * (m : Int) = (q : Int) := by rw [hq]; push_cast; rfl
    have hm0 : (m : Int) ≠ 0 := by omega
    have HI := Lib.hid hI
    have HQ := Lib.hid hq
    clear hI hq
    by_cases hle : q ≤ n
    case pos =>
      have hlei : (q : Int) ≤ (n : Int) := by omega
      have hm : m < 22 := by
        rcases Nat.lt_or_ge m 22 with h | h
        · exact h
        · obtain rfl : m = 22 := by omega
          have := HQ.out
          omega
      have hN := isPr_next (n := n) hm (by rw [← HQ.out]; exact hle)
      have HN := Lib.hid hN
      clear hN
      go_wp2_with fail
      · rename_i h0
        have h1 : n % m = 0 := by
          have := eq_of_beq h0
          omega
        go_ret
        refine ⟨?_, rfl⟩
        rw [← HI.out, HN.out, if_pos h1]; rfl
      · rename_i h0
        have h1 : ¬ n % m = 0 := fun h => by
          have h3 := ne_of_beq_false h0
          exact h3 (by omega)
        refine ⟨⟨m + 1, by omega, by omega, by simp, ?_, trivial⟩, by simp only [intOf]; omega⟩
        rw [← HI.out, HN.out, if_neg h1]
    case neg =>
      have hlei : ¬ (q : Int) ≤ (n : Int) := by omega
      have hT := isPr_stop (n := n) (f := 22 - m) (m := m) (by rw [← HQ.out]; exact hle)
      have HT := Lib.hid hT
      clear hT
      go_wp2_with fail
      go_ret
      refine ⟨?_, rfl⟩
      rw [← HI.out, HT.out]; rfl
end Go.Proofs.YtljihmbmjpcfaaaGreat
namespace Go.Proofs.YtljihmbmjpcfaaaGreat
open Go.RowKit Go.Shelf
attribute [local go_sem] Oper.semAt_some

theorem fold1 (t : Array Value) (p : Nat) (v : Value) : Array.foldl (fun (t : Array Value) (x : Nat × Value) => t.setIfInBounds x.fst x.snd) t (#[p].zip #[v]) = t.setIfInBounds p v := by simp
theorem fold2 (t : Array Value) (p q : Nat) (u v : Value) : Array.foldl (fun (t : Array Value) (x : Nat × Value) => t.setIfInBounds x.fst x.snd) t (#[p, q].zip #[u, v]) = (t.setIfInBounds p u).setIfInBounds q v := by simp
theorem b8_small (m : Nat) (h : m < 128) : B8 (UInt8.ofNat m) = .int .u8 (m : Int) := by
  unfold B8; rw [UInt8.toNat_ofNat', Nat.mod_eq_of_lt (by omega)]
theorem b8_great (m : Nat) : B8 (UInt8.ofNat (m % 128 + 128)) = .int .u8 ((m : Int) % 128 + 128) := by
  unfold B8; rw [UInt8.toNat_ofNat', Nat.mod_eq_of_lt (by omega)]; congr 1

set_option maxRecDepth 100000 in
set_option maxHeartbeats 400000 in
theorem bytesOf1_in (F : Fence) (n : Nat) (h6 : F.fn 146) (hro : F.round = none) (hn : 1 ≤ n) (l Bn : Nat) (k : Nat) (hk : k < 18446744073709551616) (J Jx : List UInt8 → World → Prop)
    (hY : ∀ pre x W, J pre W → pre.length < (lebB k).length → YieldAt F (n - 1) Tryz.prog l #[B8 x] W fun e W' =>
      (e = .returned (.bool true) ∧ J (pre ++ [x]) W' ∧ True) ∨ (e = .returned (.bool false) ∧ Jx (pre ++ [x]) W'))
    (W : World) (hBn : W.cell? ⟨Bn, 0, none⟩ = some (.int .u64 k)) (h0 : J [] W) :
    CallsIn F n Tryz.prog 146 #[.func (.yield l) #[] #[], .pointer (some ⟨Bn, 0, none⟩)] W fun e W' => (∃ v, e = .returned v) ∧
      ((∃ ys, ys = lebB k ∧ J ys W') ∨ (∃ pre, pre <+: lebB k ∧ Jx pre W')) := by
  refine callsIn_of_wp Tryz.func146 rfl h6 ?_ hro
  simp only [Tryz.ntmps146, List.size_toArray, List.length_cons, List.length_nil, Nat.reduceAdd, Nat.reduceSub, Array.replicate_succ, Array.replicate_zero, List.push_toArray, List.append_toArray, List.nil_append, List.cons_append]
  gi_wp2
  gi_loopw [3] (fun p wr => ∃ (pre : List UInt8) (m : Nat), p = .int .u64 m ∧ m < 18446744073709551616 ∧ lebB k = pre ++ lebB m ∧ J pre wr)
    (fun p _ => (intOf p).toNat)
  case atStart =>
    exact ⟨[], k, rfl, hk, rfl, h0⟩
  case round =>
    obtain ⟨pre, m, rfl, hm, hx, hJs⟩ := hrel
    have HX := Lib.hid hx
    clear hx
    by_cases hlt : m < 128
    · obtain ⟨fn, tmps, assign, body, hy, hR⟩ := hY pre (UInt8.ofNat m) wr hJs (by rw [HX.out]; have := lebB_pos m; simp; omega)
      rw [b8_small m hlt] at hy
      gi_wp2
      refine hR.mono ?_
      rintro e W3 (⟨rfl, hJ3, -⟩ | ⟨rfl, hJx3⟩)
      · gi_wp2
        go_end0
        exact ⟨⟨_, rfl⟩, .inl ⟨_, by rw [HX.out, lebB_small hlt], hJ3⟩⟩
      · gi_wp2
        go_end0
        exact ⟨⟨_, rfl⟩, .inr ⟨_, by rw [HX.out, lebB_small hlt]; exact List.prefix_refl _, hJx3⟩⟩
    · obtain ⟨fn, tmps, assign, body, hy, hR⟩ := hY pre (UInt8.ofNat (m % 128 + 128)) wr hJs (by rw [HX.out]; have := lebB_pos m; simp; omega)
      rw [b8_great m] at hy
      have hge : 128 ≤ m := by omega
      gi_wp2
      refine hR.mono ?_
      rintro e W3 (⟨rfl, hJ3, -⟩ | ⟨rfl, hJx3⟩)
      · gi_wp2
        go_roundw
        case rel => exact ⟨pre ++ [UInt8.ofNat (m % 128 + 128)], m / 128, by go_num, by omega, by rw [HX.out, lebB_great hge]; simp, hJ3⟩
        case measure => simp [intOf]; omega
      · gi_wp2
        refine bodyPost_ret (results_none rfl _ _ _) rfl ?_
        exact ⟨⟨_, rfl⟩, .inr ⟨_, by rw [HX.out, lebB_great hge]; exact ⟨lebB (m / 128), by simp⟩, hJx3⟩⟩

set_option maxHeartbeats 400000 in
/-- bytesOf(n): the number is boxed; the function value captures the box. -/
theorem bytesOf_in (F : Fence) (n : Nat) (h5 : F.fn 111) (hro : F.round = none) (k : Nat) (w : World) :
    CallsIn F n Tryz.prog 111 #[.int .u64 k] w fun e w' => e = .returned (.func (.func 146) #[] #[.pointer (some ⟨w.heap.size, 0, none⟩)]) ∧ w' = w.alloc (.cells #[.int .u64 k] 76) := by
  refine callsIn_of_wp Tryz.func111 rfl h5 ?_ hro
  simp only [Tryz.ntmps111, List.size_toArray, List.length_cons, List.length_nil, Nat.reduceAdd, Nat.reduceSub, Array.replicate_succ, Array.replicate_zero, List.push_toArray, List.append_toArray, List.nil_append, List.cons_append]
  gi_wp2
  go_ret
  exact ⟨rfl, rfl⟩

/-- bytesOf(n) hands back a value that tells a number's bytes, in order; or a beginning of them. -/
theorem bytesOf_stops (F : Fence) (n : Nat) (h6 : F.fn 146) (hro : F.round = none) (hn : 1 ≤ n) (Bn : Nat) (k : Nat) (hk : k < 18446744073709551616) (w : World) (hBn : Bn < w.heap.size)
    (hc : w.cell? ⟨Bn, 0, none⟩ = some (.int .u64 k)) :
    SeqStopsK F n Tryz.prog 146 #[.pointer (some ⟨Bn, 0, none⟩)] (fun x : UInt8 => #[B8 x]) (fun _ _ => True) (fun ys => ys = lebB k) (fun pre => pre <+: lebB k) (lebB k).length w := fun l J Jx W hW _ _ hY h0 =>
  bytesOf1_in F n h6 hro hn l Bn k hk J Jx hY W ((hW.cell (p := ⟨Bn, 0, none⟩) hBn).trans hc) h0

end Go.Proofs.YtljihmbmjpcfaaaGreat
namespace Go.Proofs.YtljihmbmjpcfaaaGreat
open Go.RowKit
set_option maxRecDepth 100000


set_option maxHeartbeats 400000 in
theorem Clone_nil (w : World) : Calls Tryz.prog 80 #[.slice none 0 0] w fun e W' => e = .returned (.slice none 0 0) ∧ w = W' := by
  have he := fun wx => Lib.run_eql_slice_nil (P := Tryz.prog) wx 22 5 none 0 0 0 0 Tryz.underlying22
  go_enter Tryz.func80, Tryz.ntmps80
  go_wp2
  go_ret
  exact ⟨rfl, rfl⟩

set_option maxHeartbeats 400000 in
theorem Clone_some (w : World) (ad : Addr) (c : Nat) (ys : List UInt8) (hs : Bs w (.slice (some ad) ys.length c) ys) (hlen : ys.length ≤ 140737488355328) :
    Calls Tryz.prog 80 #[.slice (some ad) ys.length c] w fun e W' => ∃ v', e = .returned v' ∧ W'.ownsRow w.heap.size 5 1 v' ys.length (ys.map B8) ∧ Below w.heap.size w W' := by
  obtain ⟨i0, hi, hz0, hz1, hz2⟩ := info_parts infoU8
  have he := fun wx => Lib.run_eql_slice_nil (P := Tryz.prog) wx 22 5 (some ad) ys.length c 0 0 Tryz.underlying22
  go_enter Tryz.func80, Tryz.ntmps80
  have hk : Kept (fun _ => False) w (w.alloc (.cells #[] 5)) := (Kept.refl _ _).alloc _
  have hs1 := hk.bs hs (fun _ _ h => h)
  have ho : (w.alloc (.cells #[] 5)).ownsRow w.heap.size 5 1 (.slice (some ⟨w.heap.size, 0, none⟩) ([] : List UInt8).length 0) ([] : List UInt8).length (([] : List UInt8).map B8) := World.ownsRow_made w #[] 0 (Nat.le_refl _) (by simp [maxLen]) rfl
  go_wp2_with (at_builtin; refine wpList_append_bs rfl (.tmp 5) (.tmp 6) 22 rfl w.heap.size 5 i0 Tryz.underlying22 hi hz0 hz1 hz2 _ [] rfl ho _ ys rfl hs1 (by simpa using hlen) (by simp) ?_; intro v' w1 hown1 hg1 _ _ _)
  go_ret
  exact ⟨v', rfl, hown1, ((Below.refl _ w).alloc (Nat.le_refl _) _).grown hg1 (by simp) (fun j e => by have e' : some w.heap.size = some j := e; cases e'; exact Nat.le_refl _)⟩

/-- bytes.Clone: the same bytes, in a row of its own. -/
theorem Clone_any (w : World) (v : Value) (ys : List UInt8) (hs : Bs w v ys) (hlen : ys.length ≤ 140737488355328) :
    Calls Tryz.prog 80 #[v] w fun e W' => ∃ v', e = .returned v' ∧ W'.ownsRow w.heap.size 5 1 v' ys.length (ys.map B8) ∧ Below w.heap.size w W' := by
  rcases hs with ⟨rfl, rfl⟩ | ⟨ad, c, rfl, hc, hx⟩
  · exact (Clone_nil w).mono fun e W' ⟨he, hw⟩ => ⟨_, he, World.ownsRow_nil _ _ _ _, hw ▸ Below.refl _ _⟩
  · exact Clone_some w ad c ys (.inr ⟨ad, c, rfl, hc, hx⟩) hlen
end Go.Proofs.YtljihmbmjpcfaaaGreat
namespace Go.Proofs.YtljihmbmjpcfaaaGreat
open Go.RowKit

/-- A Source at g has the bytes xs left. -/
structure SourceAt (W : World) (g : Nat) (v : Value) (xs : List UInt8) : Prop where
  box : Boxed W g 159 v
  bytes : Bs W v xs
  row : ∀ j, v.ownBlock = some j → j < W.heap.size ∧ j ≠ g

theorem SourceAt.kept {T : Nat → Prop} {W W' : World} {g : Nat} {v : Value} {xs : List UInt8} (h : SourceAt W g v xs) (k : Kept T W W') (h1 : ¬ T g) (h2 : ∀ j, v.ownBlock = some j → ¬ T j) : SourceAt W' g v xs :=
  ⟨k.boxed h.box h1, k.bs h.bytes h2, fun j hj => ⟨Nat.lt_of_lt_of_le (h.row j hj).1 k.size, (h.row j hj).2⟩⟩

set_option maxHeartbeats 400000 in
theorem From_any (w : World) (sv : Value) (ys : List UInt8) (hs : Bs w sv ys) (hlen : ys.length ≤ 140737488355328) :
    Calls Tryz.prog 50 #[sv] w fun e W' => ∃ g v, e = .returned (.pointer (some ⟨g, 0, none⟩)) ∧ SourceAt W' g v ys ∧ w.heap.size ≤ g ∧ (∀ j, v.ownBlock = some j → w.heap.size ≤ j) ∧ Below w.heap.size w W' := by
  go_enter Tryz.func50, Tryz.ntmps50
  go_wp2_with (go_at_call 80; refine (Clone_any _ sv ys hs hlen).mono ?_; rintro e w' ⟨v', rfl, h1, h2⟩; obtain ⟨A', n', c', rfl⟩ := owns_slice h1)
  go_ret
  refine ⟨w'.heap.size, _, rfl, ⟨Boxed.new w' _ _, ((Kept.refl (fun _ => False) w').alloc _).bs (Bs.of_owns h1) (fun _ _ h => h), fun j hj => ?_⟩, h2.size, fun j hj => (h1.lt j hj).1, h2.alloc h2.size _⟩
  have := h1.lt j hj
  simp
  omega

set_option maxHeartbeats 400000 in
theorem SrcEnd_any (w : World) (g : Nat) (v : Value) (xs : List UInt8) (hat : SourceAt w g v xs) :
    Calls Tryz.prog 53 #[.pointer (some ⟨g, 0, none⟩)] w fun e W' => e = .returned (.int .i64 (if xs = [] then 0 else 13)) ∧ w = W' := by
  obtain ⟨A, c, rfl, hc⟩ := hat.bytes.form
  have hc := hat.box.cell
  cases xs with
  | nil =>
    go_enter Tryz.func53, Tryz.ntmps53
    go_wp2
    go_ret
    exact ⟨rfl, rfl⟩
  | cons x xs =>
    have hd : (0 : Int) < ((x :: xs).length : Int) := by simp
    go_enter Tryz.func53, Tryz.ntmps53
    go_wp2
    go_ret
    exact ⟨rfl, rfl⟩

set_option maxHeartbeats 400000 in
theorem SrcEnd_none (w : World) : Calls Tryz.prog 53 #[.pointer none] w fun e W' => e = .returned (.int .i64 1) ∧ w = W' := by
  go_enter Tryz.func53, Tryz.ntmps53
  go_wp2
  go_ret
  exact ⟨rfl, rfl⟩

/-- What is read, and what is left: errors leave all as it was. -/
def rawRes (n : Int) (xs : List UInt8) : Int × List UInt8 × List UInt8 := if n < 0 then (2, [], xs) else if (xs.length : Int) < n then (10, [], xs) else (0, xs.take n.toNat, xs.drop n.toNat)

/-- What a read leaves: the Source has what is left; nothing else that was there has turned. -/
def SourceRead (w : World) (g : Nat) (v : Value) (xs : List UInt8) (W : World) : Prop :=
  ∃ v', SourceAt W g v' xs ∧ Kept (fun j => j = g) w W ∧ v'.ownBlock = v.ownBlock

set_option maxHeartbeats 400000 in
theorem srcraw_neg (w : World) (g : Nat) (n : Int) (hn : n < 0) :
    Calls Tryz.prog 214 #[.pointer (some ⟨g, 0, none⟩), .int .i64 n] w fun e W' => e = .returned (.tuple #[.slice none 0 0, .int .i64 2]) ∧ w = W' := by
  go_enter Tryz.func214, Tryz.ntmps214
  go_wp2
  go_ret2
  exact ⟨rfl, rfl⟩
set_option maxHeartbeats 400000 in
theorem srcraw_short (w : World) (g : Nat) (v : Value) (xs : List UInt8) (hat : SourceAt w g v xs) (n : Int) (h0 : ¬ n < 0) (hn : (xs.length : Int) < n) :
    Calls Tryz.prog 214 #[.pointer (some ⟨g, 0, none⟩), .int .i64 n] w fun e W' => e = .returned (.tuple #[.slice none 0 0, .int .i64 10]) ∧ w = W' := by
  obtain ⟨A, c, rfl, hc⟩ := hat.bytes.form
  have hc := hat.box.cell
  go_enter Tryz.func214, Tryz.ntmps214
  go_wp2
  go_ret2
  exact ⟨rfl, rfl⟩
theorem SourceRead.cut {w w1 : World} {g : Nat} {v u u' : Value} {xs ys : List UInt8} (hk : Kept (fun j => j = g) w w1) (hat : SourceAt w1 g u' xs) (hu : Bs w1 u ys) (hb : u.ownBlock = v.ownBlock) (hb' : u.ownBlock = u'.ownBlock) :
    SourceRead w g v ys (w1.setCell ⟨g, 0, none⟩ u) :=
  ⟨u, ⟨hat.box.set u, (Kept.setCell (p := ⟨g, 0, none⟩) (Kept.refl (fun j => j = g) w1) (fun _ => rfl) u).bs hu (fun j hj => (hat.row j (hb' ▸ hj)).2), fun j hj => ⟨Nat.lt_of_lt_of_le (hat.row j (hb' ▸ hj)).1 (by simp [World.setCell]), (hat.row j (hb' ▸ hj)).2⟩⟩, hk.setCell (p := ⟨g, 0, none⟩) (fun _ => rfl) u, hb⟩
theorem SourceRead.refl {w : World} {g : Nat} {v : Value} {xs : List UInt8} (h : SourceAt w g v xs) : SourceRead w g v xs w := ⟨v, h, Kept.refl _ _, rfl⟩

/-- What raw comes to. -/
def RawOut (w : World) (g : Nat) (v : Value) (er : Int) (ys xs : List UInt8) (e : Ending) (W' : World) : Prop :=
  ∃ r, e = .returned (.tuple #[r, .int .i64 er]) ∧ W'.ownsRow w.heap.size 5 1 r ys.length (ys.map B8) ∧ SourceRead w g v xs W'

set_option maxHeartbeats 400000 in
theorem srcraw_ok (w : World) (g : Nat) (v : Value) (xs : List UInt8) (hat : SourceAt w g v xs) (hlen : xs.length ≤ 140737488355328) (n : Nat) (hn : n ≤ xs.length) :
    Calls Tryz.prog 214 #[.pointer (some ⟨g, 0, none⟩), .int .i64 n] w (RawOut w g v 0 (xs.take n) (xs.drop n)) := by
  obtain ⟨A, c, rfl, hc⟩ := hat.bytes.form
  have hcc := hat.box.cell
  go_enter Tryz.func214, Tryz.ntmps214
  go_wp2_with fail
  refine (Clone_any w _ (xs.take n) (hat.bytes.take hn) (by simp; omega)).mono ?_
  rintro e w1 ⟨r, rfl, h1, h2⟩
  have hk1 : Kept (fun _ => False) w w1 := Kept.of_below h2 (Nat.le_refl _) _
  have hat1 := hat.kept hk1 (fun h => h) (fun _ _ h => h)
  have hcc1 := hat1.box.cell
  have hf1 := hat1.box.frozen
  obtain ⟨A1, n1, c1, rfl⟩ := owns_slice h1
  by_cases hcn : c = n
  · have hd : Bs w1 (.slice A 0 0) (xs.drop n) := by
      have h := hat1.bytes.drop hn
      rw [if_pos hcn, show xs.length - n = 0 by omega, show c - n = 0 by omega] at h
      exact h
    have hob : (Value.slice A 0 0).ownBlock = (Value.slice A xs.length c).ownBlock := by cases A <;> rfl
    have HO := Lib.hid hob
    clear hcc hob
    subst hcn
    go_wp2
    go_ret2
    exact ⟨_, rfl, h1.kept (grownBy_setCell' w1 g _) (.inr (hat1.box.not_row (by decide) h1).symm), SourceRead.cut (hk1.mono (fun _ _ h => h.elim)) hat1 hd HO.out HO.out⟩
  · have hd : Bs w1 (.slice (A.map (·.add n)) (xs.length - n) (c - n)) (xs.drop n) := by
      have h := hat1.bytes.drop hn
      rw [if_neg hcn] at h
      exact h
    have hob := ownBlock_cut A xs.length c n (xs.length - n) (c - n)
    rw [if_neg hcn] at hob
    have HO := Lib.hid hob
    clear hcc hob
    go_wp2
    go_ret2
    exact ⟨_, rfl, h1.kept (grownBy_setCell' w1 g _) (.inr (hat1.box.not_row (by decide) h1).symm), SourceRead.cut (hk1.mono (fun _ _ h => h.elim)) hat1 hd HO.out HO.out⟩

/-- raw. -/
theorem srcraw_any (w : World) (g : Nat) (v : Value) (xs : List UInt8) (hat : SourceAt w g v xs) (hlen : xs.length ≤ 140737488355328) (n : Int) :
    Calls Tryz.prog 214 #[.pointer (some ⟨g, 0, none⟩), .int .i64 n] w (RawOut w g v (rawRes n xs).1 (rawRes n xs).2.1 (rawRes n xs).2.2) := by
  unfold rawRes
  by_cases h0 : n < 0
  · rw [if_pos h0]
    exact (srcraw_neg w g n h0).mono fun e W' ⟨he, hw⟩ => ⟨_, he, World.ownsRow_nil _ _ _ _, hw ▸ SourceRead.refl hat⟩
  · rw [if_neg h0]
    by_cases h1 : (xs.length : Int) < n
    · rw [if_pos h1]
      exact (srcraw_short w g v xs hat n h0 h1).mono fun e W' ⟨he, hw⟩ => ⟨_, he, World.ownsRow_nil _ _ _ _, hw ▸ SourceRead.refl hat⟩
    · rw [if_neg h1]
      obtain ⟨m, rfl⟩ := Int.eq_ofNat_of_zero_le (by omega : 0 ≤ n)
      exact srcraw_ok w g v xs hat hlen m (by omega)
end Go.Proofs.YtljihmbmjpcfaaaGreat
