/- appendWord, wordAt. -/
import Derived.Test.YtbclhjcnopfegaaSumOf
namespace Go.Proofs.Ytbclhjcnopfegaa
open Go.RowKit

/-- Bytes that were laid in a block of their own. -/
theorem Bs.laid (w : World) (xs : List UInt8) (t : TypeId) : Bs (w.alloc (.cells (xs.map B8).toArray t)) (.slice (some ⟨w.heap.size, 0, none⟩) xs.length xs.length) xs := by
  refine .inr ⟨⟨w.heap.size, 0, none⟩, xs.length, rfl, Nat.le_refl _, fun i y hi => ?_⟩
  rw [add_plain]
  obtain ⟨h1, h2⟩ := List.getElem?_eq_some_iff.1 hi
  simp [h1, h2]
theorem four_vals {n : Nat} (hn : n < 4294967296) : #[Value.int .u8 ((n : Int) % 256), .int .u8 ((n : Int) / 256 % 256), .int .u8 ((n : Int) / 65536 % 256), .int .u8 ((n : Int) / 16777216)] = ((four n).map B8).toArray := by
  have h : (n : Int) / 16777216 = (n : Int) / 16777216 % 256 := by omega
  rw [h]
  simp [four]

set_option maxHeartbeats 400000 in
theorem appendWord_any (w : World) (base : Nat) (v : Value) (xs : List UInt8) (n : Nat) (hn : n < 4294967296) (hown : w.ownsRow base 5 1 v xs.length (xs.map B8)) (hbase : base ≤ w.heap.size) (hlen : xs.length ≤ 14073748835532) :
    Calls Try.prog 17 #[v, .int .u32 n] w fun e W' => ∃ v', e = .returned v' ∧ W'.ownsRow base 5 1 v' (xs ++ four n).length ((xs ++ four n).map B8) ∧ Below base w W' := by
  obtain ⟨i0, hi, hz0, hz1, hz2⟩ := info_parts infoU8
  obtain ⟨A, m, c, rfl⟩ := owns_slice hown
  have hone := Bs.laid w (four n) 5
  rw [← four_vals hn, four_length] at hone
  go_enter Try.func17, Try.ntmps17
  go_wp2_with (at_builtin; refine wpList_append_bs rfl (.tmp 5) (.tmp 17) 22 rfl base 5 i0 Try.underlying22 hi hz0 hz1 hz2 _ xs rfl (hown.alloc _) _ (four n) rfl hone (by simp [four_length]; omega) (by simp; omega) ?_; intro v' w1 hown1 hg1 hw1 _ _; obtain ⟨A', n', c', rfl⟩ := owns_slice hown1)
  go_ret
  exact ⟨_, rfl, hown1, ((Below.refl _ w).alloc hbase _).trans ((Kept.of_grown hg1).below (fun j _ e => (hown.lt j e).1) (by simp; omega))⟩

/-- Numbers that lie apart, or'd, are added. -/
theorem or_add (i x y : Nat) (hx : x < 2 ^ i) (hxy : x + 2 ^ i * y < 4294967296) : bits .or .u32 (x : Int) ((2 ^ i * y : Nat) : Int) = ((x + 2 ^ i * y : Nat) : Int) := by
  rw [u32_or_nat x (2 ^ i * y) (by omega) (by omega), Nat.or_comm, nat_join i (2 ^ i * y) x (by simp) hx, Nat.add_comm]
theorem or4 (a b c d : UInt8) : bits .or .u32 (bits .or .u32 (bits .or .u32 ((a.toNat : Int) % 4294967296) ((b.toNat : Int) % 4294967296 * 256 % 4294967296)) ((c.toNat : Int) % 4294967296 * 65536 % 4294967296)) ((d.toNat : Int) % 4294967296 * 16777216 % 4294967296) = ((le [a, b, c, d] : Nat) : Int) := by
  have ha := toNat_lt8 a
  have hb := toNat_lt8 b
  have hc := toNat_lt8 c
  have hd := toNat_lt8 d
  have e1 : (a.toNat : Int) % 4294967296 = (a.toNat : Int) := by omega
  have e2 : (b.toNat : Int) % 4294967296 * 256 % 4294967296 = ((2 ^ 8 * b.toNat : Nat) : Int) := by omega
  have e3 : (c.toNat : Int) % 4294967296 * 65536 % 4294967296 = ((2 ^ 16 * c.toNat : Nat) : Int) := by omega
  have e4 : (d.toNat : Int) % 4294967296 * 16777216 % 4294967296 = ((2 ^ 24 * d.toNat : Nat) : Int) := by omega
  rw [e1, e2, e3, e4, or_add 8 _ _ (by omega) (by omega), or_add 16 _ _ (by omega) (by omega), or_add 24 _ _ (by omega) (by omega)]
  simp only [le]
  omega

set_option maxHeartbeats 400000 in
theorem wordAt_some (w : World) (b off c : Nat) (p q r s : UInt8) (ys : List UInt8) (hy : ∀ i y, (p :: q :: r :: s :: ys)[i]? = some y → w.cell? ⟨b, off + i, none⟩ = some (B8 y)) :
    Calls Try.prog 25 #[.slice (some ⟨b, off, none⟩) (p :: q :: r :: s :: ys).length c] w fun e W' => e = .returned (.int .u32 (le [p, q, r, s] : Nat)) ∧ Below w.heap.size w W' := by
  have h0 := hy 0 p rfl
  have h1 := hy 1 q rfl
  have h2 := hy 2 r rfl
  have h3 := hy 3 s rfl
  rw [Nat.add_zero] at h0
  have ho := or4 p q r s
  clear hy
  simp only [List.length_cons]
  go_enter Try.func25, Try.ntmps25
  go_wp2_with fail
  go_quiet (fail)
  go_wp2
  go_ret
  exact ⟨by rw [← ho]; rfl, below_drewN (Below.refl _ _) _⟩
/-- The word with which bytes begin. -/
theorem wordAt_any (w : World) (v : Value) (ys : List UInt8) (hy : Bs w v ys) (h4 : 4 ≤ ys.length) :
    Calls Try.prog 25 #[v] w fun e W' => e = .returned (.int .u32 (le (ys.take 4) : Nat)) ∧ Below w.heap.size w W' := by
  match ys, h4 with
  | p :: q :: r :: s :: ys, _ =>
    obtain ⟨b, off, c, rfl, _, hc⟩ := hy.cons
    exact wordAt_some w b off c p q r s ys hc
end Go.Proofs.Ytbclhjcnopfegaa
