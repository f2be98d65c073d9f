/- The reference's functions: turned, over, Of, Four, Number, Wrap. -/
import Derived.Test.YtbclhjcnopfegaaSumFirst
namespace Go.Proofs.Ytbclhjcnopfegaa
open Go.RowKit

theorem turned_any (w : World) (n : Nat) (hn : n < 4294967296) : Calls Try.prog 23 #[.int .u32 n] w fun e W' => e = .returned (.int .u32 (inv n : Nat)) ∧ w = W' := by
  go_enter Try.func23, Try.ntmps23
  have hi : (4294967295 : Int) - (n : Int) = ((inv n : Nat) : Int) := by unfold inv; omega
  go_wp2
  go_ret
  exact ⟨by rw [← hi]; rfl, rfl⟩

/-- A bit of a byte, as the reference goes on over it. -/
theorem bit_step (n c : Nat) : step (n ^^^ c) = (if n % 2 ≠ c % 2 then n / 2 ^^^ 3988292384 else n / 2) ^^^ c / 2 := by
  have h := xor_mod2 n c
  have hd : (n ^^^ c) / 2 = n / 2 ^^^ c / 2 := Nat.xor_div_two
  unfold step
  rw [hd]
  by_cases hx : n % 2 ≠ c % 2
  · rw [if_pos (by omega), if_pos hx, Nat.xor_assoc, Nat.xor_assoc, Nat.xor_comm (c / 2)]
  · rw [if_neg (by omega), if_neg hx]
theorem neqI (a b : Nat) : ((a : Int) % 2 != (b : Int) % 2) = decide (a % 2 ≠ b % 2) := by
  by_cases h : a % 2 = b % 2
  · have : (a : Int) % 2 = (b : Int) % 2 := by omega
    simp [h, this]
  · have : ¬ (a : Int) % 2 = (b : Int) % 2 := by omega
    simp [h, this]

set_option maxHeartbeats 1000000 in
theorem over_form (w : World) (s : Nat) (hs : s < 4294967296) (A : Option Addr) (c : Nat) (ys : List UInt8) (hy : Bs w (.slice A ys.length c) ys) (hl : ys.length ≤ 140737488355328) :
    Calls Try.prog 24 #[.int .u32 s, .slice A ys.length c] w fun e W' => e = .returned (.int .u32 (over s ys : Nat)) ∧ w = W' := by
  go_enter Try.func24, Try.ntmps24
  go_wp2_with fail
  go_loopw [0, 5] (fun r i wr => ∃ (k n : Nat), k ≤ ys.length ∧ i = .int .i64 k ∧ n < 4294967296 ∧ r = .int .u32 n ∧ n = over s (ys.take k) ∧ w = wr) (fun _ i _ => ys.length - (intOf i).toNat)
  case atStart => exact ⟨0, s, by omega, rfl, hs, rfl, by simp [over_nil], rfl⟩
  case round =>
    obtain ⟨k, n, hk, rfl, hn, rfl, hst, rfl⟩ := hrel
    have HST := Lib.hid hst
    clear hst
    by_cases hlt : k < ys.length
    · obtain ⟨b, off, rfl, hc⟩ := hy.at hlt
      have HT := Lib.hid (show over s (ys.take (k + 1)) = byteOn n ys[k] by
        rw [HST.out, List.take_add_one, List.getElem?_eq_getElem hlt, over_append]
        rfl)
      have hx := toNat_lt8 ys[k]
      clear HST
      go_wp2_with fail
      go_loopw [0, 6, 7] (fun r cc i wr => ∃ (j m d : Nat), j ≤ 8 ∧ i = .int .i64 j ∧ m < 4294967296 ∧ d < 256 ∧ d = ys[k].toNat / 2 ^ j ∧ r = .int .u32 m ∧ cc = .int .u8 d ∧ stepN (8 - j) (m ^^^ d) = byteOn n ys[k] ∧ w = wr) (fun _ _ i _ => 8 - (intOf i).toNat)
      case atStart => exact ⟨0, n, ys[k].toNat, by omega, rfl, hn, hx, by simp, rfl, rfl, rfl, rfl⟩
      case round =>
        obtain ⟨j, m, d, hj, rfl, hm, hd, hdj, rfl, rfl, hsj, rfl⟩ := hrel
        have HDJ := Lib.hid hdj
        have HSJ := Lib.hid hsj
        clear hdj hsj
        by_cases hj8 : j < 8
        · have hd2 : d / 2 = ys[k].toNat / 2 ^ (j + 1) := by rw [HDJ.out, Nat.div_div_eq_div_mul, Nat.pow_succ]
          have HD2 := Lib.hid hd2
          clear hd2
          have hbs := bit_step m d
          have hnx : stepN (8 - (j + 1)) (step (m ^^^ d)) = byteOn n ys[k] := by rw [← HSJ.out, show 8 - j = (8 - (j + 1)) + 1 by omega]; rfl
          rw [hbs] at hnx
          clear hbs
          have HNX := Lib.hid hnx
          clear hnx
          have hne := neqI m d
          by_cases hu : m % 2 ≠ d % 2
          · have hu' : ((m : Int) % 2 != (d : Int) % 2) = true := by rw [hne]; exact decide_eq_true hu
            have hxp := xorP (n := m / 2) (by omega)
            rw [← half] at hxp
            have hlt2 : m / 2 ^^^ 3988292384 < 4294967296 := Nat.xor_lt_two_pow (n := 32) (by omega) (by omega)
            have HU := Lib.hid hu
            clear hne hu
            go_wp2_with fail
            go_roundw
            case rel => exact ⟨j + 1, m / 2 ^^^ 3988292384, d / 2, by omega, by go_num, hlt2, by omega, HD2.out, by first | rfl | rw [hxp], by go_num, by rw [← HNX.out, if_pos HU.out], trivial⟩
            case measure => simp [intOf]; omega
          · have hu' : ((m : Int) % 2 != (d : Int) % 2) = false := by rw [hne]; exact decide_eq_false hu
            have HU := Lib.hid hu
            clear hne hu
            go_wp2_with fail
            go_roundw
            case rel => exact ⟨j + 1, m / 2, d / 2, by omega, by go_num, by omega, by omega, HD2.out, by go_num, by go_num, by rw [← HNX.out, if_neg HU.out], trivial⟩
            case measure => simp [intOf]; omega
        · obtain rfl : j = 8 := by omega
          have hm' : m = byteOn n ys[k] := by
            have h1 := HSJ.out
            have h2 : d = 0 := by rw [HDJ.out]; simp; omega
            rw [h2, Nat.xor_zero] at h1
            exact h1
          have HM := Lib.hid hm'
          clear hm'
          go_wp2_with fail
          go_roundw
          case rel => exact ⟨k + 1, m, by omega, by go_num, hm, rfl, by rw [HT.out, HM.out], trivial⟩
          case measure => simp [intOf]; omega
    · obtain rfl : k = ys.length := by omega
      go_wp2
      go_ret
      exact ⟨by rw [HST.out, List.take_length]; rfl, rfl⟩
theorem over_any (w : World) (s : Nat) (hs : s < 4294967296) (v : Value) (ys : List UInt8) (hy : Bs w v ys) (hl : ys.length ≤ 140737488355328) :
    Calls Try.prog 24 #[.int .u32 s, v] w fun e W' => e = .returned (.int .u32 (over s ys : Nat)) ∧ w = W' := by
  obtain ⟨A, c, rfl, _⟩ := hy.form
  exact over_form w s hs A c ys hy hl

theorem rOf_any (w : World) (v : Value) (ys : List UInt8) (hy : Bs w v ys) (hl : ys.length ≤ 140737488355328) :
    Calls Try.prog 16 #[v] w fun e W' => e = .returned (.int .u32 (crc ys : Nat)) ∧ w = W' := by
  obtain ⟨A, c, rfl, _⟩ := hy.form
  go_enter Try.func16, Try.ntmps16
  go_wp2_with fail
  refine (over_any w 4294967295 (by omega) _ ys hy hl).mono ?_
  rintro e w1 ⟨rfl, rfl⟩
  go_wp2_with fail
  refine (turned_any _ _ (over_lt _ _ (by omega))).mono ?_
  rintro e w1 ⟨rfl, rfl⟩
  go_wp2
  go_ret
  exact ⟨rfl, rfl⟩

theorem owns_laid (w : World) (xs : List UInt8) (t : TypeId) (hl : xs.length ≤ 9223372036854775807) : (w.alloc (.cells (xs.map B8).toArray t)).ownsRow w.heap.size t 1 (.slice (some ⟨w.heap.size, 0, none⟩) xs.length xs.length) xs.length (xs.map B8) := by
  refine ⟨by simp, .inr ⟨w.heap.size, xs.length, (xs.map B8).toArray, rfl, Nat.le_refl _, heap_alloc_new w _, Nat.le_refl _, by simpa [maxLen] using hl, by simp, ?_⟩⟩
  rw [Nat.mul_one, List.take_of_length_le (by simp)]

set_option maxHeartbeats 400000 in
theorem Four_any (w : World) (n : Nat) (hn : n < 4294967296) : Calls Try.prog 18 #[.int .u32 n] w fun e W' =>
    ∃ v', e = .returned v' ∧ W'.ownsRow w.heap.size 5 1 v' (four n).length ((four n).map B8) ∧ Below w.heap.size w W' := by
  have ho := owns_laid w (four n) 5 (by simp [four_length])
  rw [← four_vals hn] at ho
  go_enter Try.func18, Try.ntmps18
  go_wp2
  go_ret
  exact ⟨_, rfl, ho, (Below.refl _ w).alloc (Nat.le_refl _) _⟩

set_option maxHeartbeats 1000000 in
theorem Number_some (w : World) (b off c : Nat) (p q r s : UInt8) (ys : List UInt8) (hy : ∀ i y, (p :: q :: r :: s :: ys)[i]? = some y → w.cell? ⟨b, off + i, none⟩ = some (B8 y)) :
    Calls Try.prog 21 #[.slice (some ⟨b, off, none⟩) (p :: q :: r :: s :: ys).length c] w fun e W' => e = .returned (.int .u32 (le [p, q, r, s] : Nat)) ∧ w = W' := by
  have h0 := hy 0 p rfl
  have h1 := hy 1 q rfl
  have h2 := hy 2 r rfl
  have h3 := hy 3 s rfl
  rw [Nat.add_zero] at h0
  have hp := toNat_lt8 p
  have hq := toNat_lt8 q
  have hr := toNat_lt8 r
  have hs := toNat_lt8 s
  clear hy
  simp only [List.length_cons]
  go_enter Try.func21, Try.ntmps21
  go_wp2_with fail
  go_loopw [3, 4] (fun x i wr => w = wr ∧ ((i = .int .i64 3 ∧ x = .int .u32 0) ∨ (i = .int .i64 2 ∧ x = .int .u32 (s.toNat : Int)) ∨ (i = .int .i64 1 ∧ x = .int .u32 ((r.toNat + 256 * s.toNat : Nat) : Int)) ∨ (i = .int .i64 0 ∧ x = .int .u32 ((q.toNat + 256 * (r.toNat + 256 * s.toNat) : Nat) : Int)) ∨ (i = .int .i64 (-1) ∧ x = .int .u32 ((p.toNat + 256 * (q.toNat + 256 * (r.toNat + 256 * s.toNat)) : Nat) : Int)))) (fun _ i _ => (intOf i + 1).toNat)
  case atStart => exact ⟨rfl, .inl ⟨rfl, rfl⟩⟩
  case round =>
    obtain ⟨rfl, ⟨rfl, rfl⟩ | ⟨rfl, rfl⟩ | ⟨rfl, rfl⟩ | ⟨rfl, rfl⟩ | ⟨rfl, rfl⟩⟩ := hrel
    · go_wp2_with fail
      go_roundw
      case rel => exact ⟨trivial, .inr (.inl ⟨rfl, by go_num⟩)⟩
      case measure => simp [intOf]
    · go_wp2_with fail
      go_roundw
      case rel => exact ⟨trivial, .inr (.inr (.inl ⟨rfl, by go_num⟩))⟩
      case measure => simp [intOf]
    · go_wp2_with fail
      go_roundw
      case rel => exact ⟨trivial, .inr (.inr (.inr (.inl ⟨rfl, by go_num⟩)))⟩
      case measure => simp [intOf]
    · go_wp2_with fail
      go_roundw
      case rel => exact ⟨trivial, .inr (.inr (.inr (.inr ⟨rfl, by go_num⟩)))⟩
      case measure => simp [intOf]
    · go_wp2
      go_ret
      exact ⟨by simp only [le]; rfl, rfl⟩
theorem Number_any (w : World) (v : Value) (ys : List UInt8) (hy : Bs w v ys) (h4 : 4 ≤ ys.length) :
    Calls Try.prog 21 #[v] w fun e W' => e = .returned (.int .u32 (le (ys.take 4) : Nat)) ∧ w = W' := by
  match ys, h4 with
  | p :: q :: r :: s :: ys, _ =>
    obtain ⟨b, off, c, rfl, _, hc⟩ := hy.cons
    exact Number_some w b off c p q r s ys hc

set_option maxHeartbeats 400000 in
theorem rWrap_any (w : World) (v : Value) (ys : List UInt8) (hs : Bs w v ys) (hl : ys.length ≤ 4194304) :
    Calls Try.prog 8 #[v] w fun e W' => ∃ v', e = .returned (.tuple #[v', .int .i64 0]) ∧ W'.ownsRow w.heap.size 5 1 v' (wrapB ys).length ((wrapB ys).map B8) ∧ Below w.heap.size w W' := by
  obtain ⟨i0, hi, hz0, hz1, hz2⟩ := info_parts infoU8
  obtain ⟨A, c, rfl, _⟩ := hs.form
  go_enter Try.func8, Try.ntmps8
  go_wp2_with fail
  refine (Four_any w ys.length (by omega)).mono ?_
  rintro e w1 ⟨v1, rfl, hown1, hB1⟩
  obtain ⟨A1, n1, c1, rfl⟩ := owns_slice hown1
  have hs1 := hs.below hB1
  go_wp2_with (at_builtin; refine wpList_append_bs rfl (.tmp 11) (.tmp 12) 22 rfl w.heap.size 5 i0 Try.underlying22 hi hz0 hz1 hz2 _ _ rfl hown1 _ ys rfl hs1 (by rw [four_length]; omega) hB1.size ?_; intro v3 w3 hown3 hg3 _ _ _; obtain ⟨A3, n3, c3, rfl⟩ := owns_slice hown3)
  have hB3 : Below w.heap.size w w3 := hB1.trans ((Kept.of_grown hg3).below (fun j _ e => (hown1.lt j e).1) hB1.size)
  have hl3 : (four ys.length ++ ys).length = 4 + ys.length := by simp [four_length]
  refine (rOf_any w3 _ _ (Bs.of_owns hown3) (by rw [hl3]; omega)).mono ?_
  rintro e w4 ⟨rfl, rfl⟩
  go_wp2_with fail
  refine (Four_any w3 _ (crc_lt _)).mono ?_
  rintro e w5 ⟨v5, rfl, hown5, hB5⟩
  obtain ⟨A5, n5, c5, rfl⟩ := owns_slice hown5
  have hown3' := owns_below hown3 hB5
  have hB5' := hB3.trans (hB5.mono hB3.size)
  clear hown1 hs1 hown3
  go_wp2_with (at_builtin; refine wpList_append_bs rfl (.tmp 14) (.tmp 17) 22 rfl w.heap.size 5 i0 Try.underlying22 hi hz0 hz1 hz2 _ _ rfl hown3' _ _ rfl (Bs.of_owns hown5) (by rw [hl3, four_length]; omega) hB5'.size ?_; intro v6 w6 hown6 hg6 _ _ _; obtain ⟨A6, n6, c6, rfl⟩ := owns_slice hown6)
  go_ret2
  exact ⟨_, rfl, hown6, hB5'.trans ((Kept.of_grown hg6).below (fun j _ e => (hown3'.lt j e).1) hB5'.size)⟩
end Go.Proofs.Ytbclhjcnopfegaa
