/- The reference's right, padded. -/
import Derived.Test.YtljihmbmjpcfaaaGreatDrawnV
import Derived.Test.YtljihmbmjpcfaaaGreatIds
import Derived.Test.YtljihmbmjpcfaaaGreatBoxIdE
import Derived.Test.YtljihmbmjpcfaaaGreatHashOfMath
namespace Go.Proofs.YtljihmbmjpcfaaaGreat
open Go.RowKit
set_option maxRecDepth 100000

theorem rotr_lt {w n : Nat} (hw : w < 4294967296) : rotr w n < 4294967296 := by
  unfold rotr
  exact Nat.or_lt_two_pow (n := 32) (Nat.lt_of_le_of_lt (Nat.div_le_self _ _) hw) (Nat.mod_lt _ (by decide))

set_option maxHeartbeats 400000 in
theorem right_any (w : World) (x n : Nat) (hx : x < 4294967296) (h1 : 1 ≤ n) (h2 : n ≤ 31) :
    Calls Tryz.prog 137 #[.int .u32 x, .int .u64 n] w fun e W' => e = .returned (.int .u32 (rotr x n : Nat)) ∧ w = W' := by
  have hr : bits .or .u32 ((x : Int) / 2 ^ n) ((x : Int) * 2 ^ (32 - n) % 4294967296) = (rotr x n : Nat) := by
    have e1 : (x : Int) / 2 ^ n = ((x / 2 ^ n : Nat) : Int) := by simp
    have e2 : (x : Int) * 2 ^ (32 - n) % 4294967296 = ((x * 2 ^ (32 - n) % 4294967296 : Nat) : Int) := by simp
    rw [e1, e2, u32_or_nat _ _ (Nat.lt_of_le_of_lt (Nat.div_le_self _ _) hx) (Nat.mod_lt _ (by decide))]
    rfl
  go_enter Tryz.func137, Tryz.ntmps137
  go_wp2
  go_ret
  exact ⟨by rw [← hr]; rfl, rfl⟩

theorem fill_at {L j : Nat} (hj : j ≤ fillN L) : (L + 1 + j) % 64 = 56 ↔ j = fillN L := by
  unfold fillN at *
  omega
theorem fill_lt (L : Nat) : fillN L < 64 := Nat.mod_lt _ (by decide)
theorem be8_length (n : Nat) : (be8 n).length = 8 := by simp [be8]
theorem be8_succ {n q : Nat} (hq : q < 8) : (be8 n).take (8 - q) = (be8 n).take (8 - (q + 1)) ++ [UInt8.ofNat (n / 2 ^ (8 * q))] := by
  have e : 8 - q = (8 - (q + 1)) + 1 := by omega
  rw [e, List.take_add_one]
  congr 1
  have : (be8 n)[8 - (q + 1)]? = some (UInt8.ofNat (n / 2 ^ (8 * (7 - (8 - (q + 1)))))) := by
    rw [be8, List.getElem?_map, List.getElem?_range (by omega)]
    rfl
  rw [this, show 7 - (8 - (q + 1)) = q by omega]
  rfl
theorem b8_of (n : Nat) : B8 (UInt8.ofNat n) = .int .u8 ((n : Int) % 256) := by
  simp [B8, UInt8.toNat_ofNat']
def lenV : Value → Nat
  | .slice _ m _ => m
  | _ => 0

theorem row_len {W : World} {n : Nat} {v : Value} {zs : List UInt8} (h : Row W n v zs) : lenV v = zs.length := by
  rcases h.2 with ⟨rfl, h0⟩ | ⟨g, cap, cur, rfl, _⟩
  · simpa [lenV] using h0.symm
  · rfl

set_option maxHeartbeats 1000000 in
theorem padded_any (w : World) (v : Value) (xs : List UInt8) (hs : Bs w v xs) (hl : xs.length ≤ 4194304) :
    Calls Tryz.prog 107 #[v] w fun e W' => ∃ v', e = .returned v' ∧ Row W' w.heap.size v' (padB xs) ∧ Below w.heap.size w W' := by
  obtain ⟨i0, hi, hz0, hz1, hz2⟩ := info_parts infoU8
  obtain ⟨A, c, rfl, _⟩ := hs.form
  go_enter Tryz.func107, Tryz.ntmps107
  go_wp2_with (at_builtin; first
    | (refine wpList_append_bs rfl (.tmp 6) (.tmp 7) 22 rfl w.heap.size 5 i0 Tryz.underlying22 hi hz0 hz1 hz2 _ [] rfl (World.ownsRow_nil _ _ _ _) _ xs rfl hs (by simp; omega) (Nat.le_refl _) ?_; intro v1 w1 hown1 hg1 _ _ _; rw [List.nil_append] at hown1; obtain ⟨A1, n1, c1, rfl⟩ := owns_slice hown1
       have hB1 : Below w.heap.size w w1 := (Below.refl _ w).grown hg1 (Nat.le_refl _) (fun j e => by cases e))
    | (refine wpList_append_bs rfl (.tmp 8) (.tmp 9) 22 rfl w.heap.size 5 i0 Tryz.underlying22 hi hz0 hz1 hz2 _ xs rfl (hown1.alloc _) _ [128] rfl (Bs.one w1 128 5) (by simp; omega) (by have := hB1.size; simp; omega) ?_; intro v2 w2 hown2 hg2 _ _ _
       have hB2 : Below w.heap.size w w2 := (hB1.alloc hB1.size _).grown hg2 (by have := hB1.size; simp; omega) (fun j e => (hown1.lt j e).1)
       obtain ⟨A2, n2, c2, rfl⟩ := owns_slice hown2
       obtain ⟨g2, rfl, rfl⟩ := row_at hown2 (by simp)))
  clear hown1 hg1 hg2 hs
  go_loopw [3] (fun v wr => ∃ j : Nat, j ≤ fillN xs.length ∧ lenV v = xs.length + 1 + j ∧ Row wr w.heap.size v (xs ++ [128] ++ List.replicate j 0) ∧ Below w.heap.size w wr) (fun v _ => xs.length + 1 + fillN xs.length - lenV v)
  case atStart => exact ⟨0, by omega, by simp [lenV], by rw [List.length_append, List.length_singleton] at hown2; rw [List.replicate_zero, List.append_nil]; unfold Row; rw [List.length_append, List.length_singleton]; exact hown2, hB2⟩
  case round =>
    obtain ⟨j, hj, hlen, hrow, hB⟩ := hrel
    obtain ⟨A3, n3, c3, rfl⟩ := owns_slice hrow
    obtain ⟨g3, rfl, hn3⟩ := row_at hrow (by simp; omega)
    obtain rfl : n3 = xs.length + 1 + j := hlen
    clear hown2 hB2 hB1 hn3
    have hF := fill_at hj
    have hF2 := fill_lt xs.length
    by_cases hlt : j = fillN xs.length
    case neg =>
      have hne : ((xs.length : Int) + 1 + (j : Int)) % 64 ≠ 56 := by omega
      clear hF
      have hone := Bs.one wr 0 5
      have HROW := Lib.hid hrow
      go_wp2_with (at_builtin; refine wpList_append_bs rfl (.tmp 15) (.tmp 16) 22 rfl w.heap.size 5 i0 Tryz.underlying22 hi hz0 hz1 hz2 _ _ rfl (HROW.out.alloc _) _ [0] rfl hone (by simp; omega) (by have := hB.size; simp; omega) ?_; intro v4 w4 hown4 hg4 _ _ _)
      have hB4 : Below w.heap.size w w4 := (hB.alloc hB.size _).grown hg4 (by have := hB.size; simp; omega) (fun j e => (HROW.out.lt j e).1)
      have hr4 : Row w4 w.heap.size v4 (xs ++ [128] ++ List.replicate (j + 1) 0) := by
        rw [List.replicate_succ', ← List.append_assoc]
        exact hown4
      have hl4 : lenV v4 = xs.length + 1 + (j + 1) := by
        rw [row_len hr4]
        simp
        omega
      refine ⟨⟨j + 1, by omega, hl4, hr4, hB4⟩, ?_⟩
      rw [hl4]
      simp only [lenV]
      omega
    case pos =>
      subst hlt
      have heq : ((xs.length : Int) + 1 + (fillN xs.length : Int)) % 64 = 56 := by omega
      clear hF
      obtain ⟨Z, hZ⟩ : ∃ Z, Z = xs ++ [128] ++ List.replicate (fillN xs.length) 0 := ⟨_, rfl⟩
      have hZL : Z.length = xs.length + 1 + fillN xs.length := by rw [hZ]; simp; omega
      have hpad : padB xs = Z ++ be8 (8 * xs.length) := by rw [hZ]; rfl
      rw [← hZ] at hrow
      clear hZ
      have HP := Lib.hid hpad
      have HZL := Lib.hid hZL
      clear hpad hZL
      go_wp2_with fail
      clear heq
      go_loopw [3, 5] (fun v i wr => ∃ q : Nat, q ≤ 8 ∧ i = .int .i64 ((q : Int) - 1) ∧ Row wr w.heap.size v (Z ++ (be8 (8 * xs.length)).take (8 - q)) ∧ Below w.heap.size w wr) (fun _ i _ => (intOf i + 1).toNat)
      case atStart => exact ⟨8, by omega, rfl, by simpa using hrow, hB⟩
      case round =>
        obtain ⟨q, hq, rfl, hrow2, hB2⟩ := hrel
        match q, hq with
        | 0, _ =>
          rw [show 8 - 0 = 8 from rfl, List.take_of_length_le (by rw [be8_length]; omega), ← HP.out] at hrow2
          obtain ⟨A5, n5, c5, rfl⟩ := owns_slice hrow2
          go_wp2
          go_ret
          exact ⟨_, rfl, hrow2, hB2⟩
        | q + 1, hq =>
          have HS := Lib.hid (be8_succ (n := 8 * xs.length) (q := q) (by omega))
          have hq1 : ((q + 1 : Nat) : Int) - 1 = (q : Int) := by omega
          rw [hq1]
          obtain ⟨A5, n5, c5, rfl⟩ := owns_slice hrow2
          have HROW := Lib.hid hrow2
          clear hrow2 hrow
          have hb : B8 (UInt8.ofNat (8 * xs.length / 2 ^ (8 * q))) = .int .u8 (8 * (xs.length : Int) / 2 ^ (8 * q) % 256) := by
            rw [b8_of]
            simp
          have hone := Bs.one wr (UInt8.ofNat (8 * xs.length / 2 ^ (8 * q))) 5
          rw [hb] at hone
          have hlen5 : (Z ++ (be8 (8 * xs.length)).take (8 - (q + 1))).length ≤ 4194304 + 80 := by
            rw [List.length_append, HZL.out, List.length_take, be8_length]
            omega
          have HLEN := Lib.hid hlen5
          clear hlen5 hb
          go_wp2_with (at_builtin; refine wpList_append_bs rfl (.tmp 26) (.tmp 33) 22 rfl w.heap.size 5 i0 Tryz.underlying22 hi hz0 hz1 hz2 _ _ rfl (HROW.out.alloc _) _ _ rfl hone (by have := HLEN.out; simp only [List.length_singleton]; omega) (by have := hB2.size; simp; omega) ?_; intro v6 w6 hown6 hg6 _ _ _; obtain ⟨A6, n6, c6, rfl⟩ := owns_slice hown6)
          have hB6 : Below w.heap.size w w6 := (hB2.alloc hB2.size _).grown hg6 (by have := hB2.size; simp; omega) (fun j e => (HROW.out.lt j e).1)
          go_roundw
          case rel => exact ⟨q, by omega, by go_num, by rw [HS.out, ← List.append_assoc]; exact hown6, hB6⟩
          case measure => simp [intOf]
end Go.Proofs.YtljihmbmjpcfaaaGreat
