/- The walk of LebStays. -/
import Derived.Test.YtgapabbhjocflaaLebLawA
namespace Go.Proofs.Ytgapabbhjocflaa
open Go.RowKit

/-- The greatest number. -/
def topS : Nat := 18446744073709551615
theorem SrcNumber_topS (w : World) (g : Nat) (v : Value) (xs : List UInt8) (hat : SourceAt w g v xs) (hlen : xs.length ≤ 140737488355328) (r : Int × Nat × List UInt8) (hr : back xs (numRes topS xs) = r) :
    Calls Try.prog 20 #[.pointer (some ⟨g, 0, none⟩), .int .u64 18446744073709551615] w (NumOut w g v r) := by
  subst hr
  exact SrcNumber_any w g v xs hat hlen topS
theorem SrcNumber_at (w : World) (g : Nat) (v : Value) (xs : List UInt8) (hat : SourceAt w g v xs) (hlen : xs.length ≤ 140737488355328) (most : Nat) (r : Int × Nat × List UInt8) (hr : back xs (numRes most xs) = r) :
    Calls Try.prog 20 #[.pointer (some ⟨g, 0, none⟩), .int .u64 most] w (NumOut w g v r) := by
  subst hr
  exact SrcNumber_any w g v xs hat hlen most
theorem SrcBytes_at (w : World) (g : Nat) (v : Value) (xs : List UInt8) (hat : SourceAt w g v xs) (hlen : xs.length ≤ 140737488355328) (n : Int) (hn : n ≤ 9223372036854775807) (r : Int × List UInt8 × List UInt8) (hr : back xs (bytesRes n xs) = r) :
    Calls Try.prog 22 #[.pointer (some ⟨g, 0, none⟩), .int .i64 n] w (RawOut w g v r.1 r.2.1 r.2.2) := by
  subst hr
  exact SrcBytes_any w g v xs hat hlen n hn

theorem stays_num (most : Nat) (xs : List UInt8) :
    (∃ n rest, n ≤ most ∧ n < 18446744073709551616 ∧ xs = lebB n ++ rest ∧ back xs (numRes most xs) = (0, n, rest)) ∨
    (∃ n rest, ¬ n ≤ most ∧ n < 18446744073709551616 ∧ back xs (numRes most xs) = (12, 0, xs) ∧ back xs (numRes topS xs) = (0, n, rest)) ∨
    (∃ er er' : Int, er ≠ 0 ∧ er ≠ 12 ∧ er' ≠ 0 ∧ back xs (numRes most xs) = (er, 0, xs) ∧ back xs (numRes topS xs) = (er', 0, xs)) := by
  unfold numRes back topS
  rcases scan_err xs 0 0 with h | ⟨h, _⟩
  · obtain ⟨n, rest, hr⟩ : ∃ n rest, scan 0 0 xs = (0, n, rest) := ⟨_, _, by rw [← h]⟩
    obtain ⟨h1, h2⟩ := scan_told hr
    rw [hr]
    by_cases hm : n ≤ most
    · refine .inl ⟨n, rest, hm, h2, h1, ?_⟩
      simp
      rw [if_neg (by omega)]
      simp
    · refine .inr (.inl ⟨n, rest, hm, h2, ?_, ?_⟩)
      · simp
        rw [if_pos (by omega)]
        simp
      · simp
        rw [if_neg (by omega)]
        simp
  · refine .inr (.inr ⟨(scan 0 0 xs).1, (scan 0 0 xs).1, by omega, by omega, by omega, ?_, ?_⟩)
    · rw [if_pos (by omega)]; simp; omega
    · rw [if_pos (by omega)]; simp; omega

theorem stays_bytes (n : Int) (xs : List UInt8) :
    (∃ ys rest, (ys.length : Int) ≤ max 0 n ∧ rest.length ≤ xs.length ∧ back xs (bytesRes n xs) = (0, ys, rest)) ∨
    (∃ er : Int, er ≠ 0 ∧ back xs (bytesRes n xs) = (er, [], xs)) := by
  unfold bytesRes back rawRes
  have hle := numRes_le (most := n.toNat) (xs := xs)
  have hl := numRes_left n.toNat xs
  generalize numRes n.toNat xs = r at *
  obtain ⟨er, m, rest⟩ := r
  dsimp only at hle hl ⊢
  by_cases h : er = 0
  · subst h
    have hm := hle rfl
    simp only [ne_eq, not_true, if_false]
    rw [if_neg (by omega)]
    by_cases h2 : (rest.length : Int) < (m : Int)
    · rw [if_pos h2]
      exact .inr ⟨10, by decide, by simp⟩
    · rw [if_neg h2]
      refine .inl ⟨rest.take m, rest.drop m, by simp; omega, by simp; omega, by simp⟩
  · rw [if_pos h]
    exact .inr ⟨er, h, by simp [h]⟩

set_option maxRecDepth 100000 in
set_option maxHeartbeats 1000000 in
theorem stays_ok (v : Value) (xs : List UInt8) (most : Nat) (n : Int) (w : World) (hs : Bs w v xs) (hlen : xs.length ≤ 200) (x : Nat) (rest : List UInt8) (hx : x ≤ most) (hx64 : x < 18446744073709551616) (hxs : xs = lebB x ++ rest) (hr : back xs (numRes most xs) = (0, x, rest)) :
    Calls Try.prog 8 #[v, .int .u64 most, .int .i64 n] w fun e W' => e = .returned (.bool true) ∧ Below w.heap.size w W' := by
  obtain ⟨A, c, rfl, hc⟩ := hs.form
  have h200 : decide ((200 : Int) < (xs.length : Int)) = false := by simp; omega
  have hlx : xs.length = (lebB x).length + rest.length := by rw [hxs]; simp
  have HX := Lib.hid hlx
  have HR := Lib.hid hr
  have hle : ((lebB x).length : Int) ≤ (xs.length : Int) := by omega
  have heq : ((rest.length : Int) == (xs.length : Int) - ((lebB x).length : Int)) = true := by simp; omega
  clear hlx hr hxs
  go_enter Try.func8, Try.ntmps8
  go_wp2_with fail
  refine (alive_any _).mono ?_
  rintro e w1 ⟨rfl, h1⟩
  go_wp2_with fail
  refine (From_any _ _ xs (hs.below h1) (by omega)).mono ?_
  rintro e w2 ⟨g, v2, rfl, hat2, hg2, _, hb2⟩
  have hB2 := h1.trans (hb2.mono h1.size)
  clear hb2
  go_wp2_with fail
  refine (SrcNumber_at w2 g v2 xs hat2 (by omega) most _ HR.out).mono ?_
  rintro e w3 ⟨rfl, v3, hat3, hk3, _⟩
  have hB3 := hB2.trans (hk3.below (B := w.heap.size) (fun j _ t => by have := h1.size; omega) hB2.size)
  clear hk3 hat2 h1 hB2 hg2
  dsimp only at hat3 ⊢
  go_wp2_with fail
  refine (SrcLeft_any w3 g v3 rest hat3).mono ?_
  rintro e w4 ⟨rfl, rfl⟩
  go_wp2_with fail
  refine (Size_any x hx64 _).mono ?_
  rintro e w5 ⟨rfl, h5⟩
  go_wp2
  go_ret
  exact ⟨rfl, hB3.trans (h5.mono hB3.size)⟩
theorem raw_all (xs : List UInt8) : back xs (rawRes (xs.length : Int) xs) = (0, xs, []) := by
  unfold back rawRes
  rw [if_neg (by omega), if_neg (by omega)]
  simp

set_option maxRecDepth 100000 in
set_option maxHeartbeats 1000000 in
theorem stays_11 (v : Value) (xs : List UInt8) (most : Nat) (n : Int) (hn : n ≤ 9223372036854775807) (w : World) (hs : Bs w v xs) (hlen : xs.length ≤ 200) (er er' : Int) (y : Nat) (r2 : List UInt8) (hne : (er == 0) = false) (hr : back xs (numRes most xs) = (er, 0, xs)) (hr2 : back xs (numRes topS xs) = (er', y, r2)) (h12 : (er == 12) = true) (hf : (er' == 0) = true) (hy : ¬ y ≤ most) (ys r3 : List UInt8) (hys : (ys.length : Int) ≤ max 0 n) (hl3 : r3.length ≤ xs.length) (hr3 : back xs (bytesRes n xs) = (0, ys, r3)) :
    Calls Try.prog 8 #[v, .int .u64 most, .int .i64 n] w fun e W' => e = .returned (.bool true) ∧ Below w.heap.size w W' := by
  obtain ⟨A, c, rfl, hc⟩ := hs.form
  have h200 : decide ((200 : Int) < (xs.length : Int)) = false := by simp; omega
  have hself : ((xs.length : Int) != (xs.length : Int)) = false := by simp
  have HR := Lib.hid hr
  have HR2 := Lib.hid hr2
  have HR3 := Lib.hid hr3
  clear hr hr2 hr3
  go_enter Try.func8, Try.ntmps8
  go_wp2_with fail
  refine (alive_any _).mono ?_
  rintro e w1 ⟨rfl, h1⟩
  go_wp2_with fail
  refine (From_any _ _ xs (hs.below h1) (by omega)).mono ?_
  rintro e w2 ⟨g, v2, rfl, hat2, hg2, _, hb2⟩
  have hB2 := h1.trans (hb2.mono h1.size)
  clear hb2
  go_wp2_with fail
  refine (SrcNumber_at w2 g v2 xs hat2 (by omega) most _ HR.out).mono ?_
  rintro e w3 ⟨rfl, v3, hat3, hk3, _⟩
  have hB3 := hB2.trans (hk3.below (B := w.heap.size) (fun j _ t => by have := h1.size; omega) hB2.size)
  clear hk3 hat2 hB2
  dsimp only at hat3 ⊢
  go_wp2_with fail
  refine (SrcLeft_any w3 g v3 xs hat3).mono ?_
  rintro e w4 ⟨rfl, rfl⟩
  go_wp2_with fail
  refine (SrcNumber_topS w3 g v3 xs hat3 (by omega) _ HR2.out).mono ?_
  rintro e w5 ⟨rfl, v5, _, hk5, _⟩
  have hB5 := hB3.trans (hk5.below (B := w.heap.size) (fun j _ t => by have := h1.size; omega) hB3.size)
  clear hk5 hat3 hB3
  dsimp only
  go_wp2_with fail
  refine (From_any _ _ xs (hs.below hB5) (by omega)).mono ?_
  rintro e w6 ⟨g6, v6, rfl, hat6, hg6, _, hb6⟩
  have hB6 := hB5.trans (hb6.mono hB5.size)
  have hg6' : w.heap.size ≤ g6 := Nat.le_trans hB5.size hg6
  clear hb6 hB5 hg6 hg2 h1
  go_wp2_with fail
  refine (SrcBytes_at w6 g6 v6 xs hat6 (by omega) n hn _ HR3.out).mono ?_
  rintro e w7 ⟨rr, rfl, hrow7, v7, hat7, hk7, _⟩
  have hB7 := hB6.trans (hk7.below (B := w.heap.size) (fun j _ t => by omega) hB6.size)
  clear hk7 hat6 hB6
  dsimp only at hat7 hrow7 ⊢
  obtain ⟨A7, n7, c7, rfl⟩ := owns_slice hrow7
  obtain rfl : n7 = ys.length := by
    rcases hrow7.2 with ⟨h, h0⟩ | ⟨g', cap, cur, h, _⟩
    · injection h with _ h _; omega
    · injection h
  have hmx : (0 < n ∧ ¬ n < (ys.length : Int)) ∨ (n ≤ 0 ∧ ¬ (0 : Int) < (ys.length : Int)) := by omega
  clear hys
  rcases hmx with ⟨hm0, hm1⟩ | ⟨hm0, hm1⟩
  all_goals
    go_wp2_with fail
    refine (SrcLeft_any w7 g6 v7 r3 hat7).mono ?_
    rintro e w8 ⟨rfl, rfl⟩
    go_wp2_with fail
    refine (SrcRaw_any w7 g6 v7 r3 hat7 (by omega) (r3.length : Int)).mono ?_
    rw [raw_all]
    rintro e w9 ⟨r9, rfl, hrow9, v9, hat9, hk9, _⟩
    have hB9 := hB7.trans (hk9.below (B := w.heap.size) (fun j _ t => by omega) hB7.size)
    clear hk9 hat7 hB7
    dsimp only at hrow9 hat9 ⊢
    go_wp2_with fail
    refine (SrcEnd_any w9 g6 v9 [] hat9).mono ?_
    rintro e w10 ⟨rfl, rfl⟩
    rw [if_pos rfl]
    go_wp2
    go_ret
    exact ⟨rfl, hB9⟩

set_option maxRecDepth 100000 in
set_option maxHeartbeats 1000000 in
theorem stays_10 (v : Value) (xs : List UInt8) (most : Nat) (n : Int) (hn : n ≤ 9223372036854775807) (w : World) (hs : Bs w v xs) (hlen : xs.length ≤ 200) (er er' : Int) (y : Nat) (r2 : List UInt8) (hne : (er == 0) = false) (hr : back xs (numRes most xs) = (er, 0, xs)) (hr2 : back xs (numRes topS xs) = (er', y, r2)) (h12 : (er == 12) = true) (hf : (er' == 0) = true) (hy : ¬ y ≤ most) (g3 : Int) (hg3 : (g3 == 0) = false) (hg3' : (g3 != 0) = true) (hr3 : back xs (bytesRes n xs) = (g3, [], xs)) :
    Calls Try.prog 8 #[v, .int .u64 most, .int .i64 n] w fun e W' => e = .returned (.bool true) ∧ Below w.heap.size w W' := by
  obtain ⟨A, c, rfl, hc⟩ := hs.form
  have h200 : decide ((200 : Int) < (xs.length : Int)) = false := by simp; omega
  have hself : ((xs.length : Int) != (xs.length : Int)) = false := by simp
  have HR := Lib.hid hr
  have HR2 := Lib.hid hr2
  have HR3 := Lib.hid hr3
  clear hr hr2 hr3
  go_enter Try.func8, Try.ntmps8
  go_wp2_with fail
  refine (alive_any _).mono ?_
  rintro e w1 ⟨rfl, h1⟩
  go_wp2_with fail
  refine (From_any _ _ xs (hs.below h1) (by omega)).mono ?_
  rintro e w2 ⟨g, v2, rfl, hat2, hg2, _, hb2⟩
  have hB2 := h1.trans (hb2.mono h1.size)
  clear hb2
  go_wp2_with fail
  refine (SrcNumber_at w2 g v2 xs hat2 (by omega) most _ HR.out).mono ?_
  rintro e w3 ⟨rfl, v3, hat3, hk3, _⟩
  have hB3 := hB2.trans (hk3.below (B := w.heap.size) (fun j _ t => by have := h1.size; omega) hB2.size)
  clear hk3 hat2 hB2
  dsimp only at hat3 ⊢
  go_wp2_with fail
  refine (SrcLeft_any w3 g v3 xs hat3).mono ?_
  rintro e w4 ⟨rfl, rfl⟩
  go_wp2_with fail
  refine (SrcNumber_topS w3 g v3 xs hat3 (by omega) _ HR2.out).mono ?_
  rintro e w5 ⟨rfl, v5, _, hk5, _⟩
  have hB5 := hB3.trans (hk5.below (B := w.heap.size) (fun j _ t => by have := h1.size; omega) hB3.size)
  clear hk5 hat3 hB3
  dsimp only
  go_wp2_with fail
  refine (From_any _ _ xs (hs.below hB5) (by omega)).mono ?_
  rintro e w6 ⟨g6, v6, rfl, hat6, hg6, _, hb6⟩
  have hB6 := hB5.trans (hb6.mono hB5.size)
  have hg6' : w.heap.size ≤ g6 := Nat.le_trans hB5.size hg6
  clear hb6 hB5 hg6 hg2 h1
  go_wp2_with fail
  refine (SrcBytes_at w6 g6 v6 xs hat6 (by omega) n hn _ HR3.out).mono ?_
  rintro e w7 ⟨rr, rfl, hrow7, v7, hat7, hk7, _⟩
  have hB7 := hB6.trans (hk7.below (B := w.heap.size) (fun j _ t => by omega) hB6.size)
  clear hk7 hat6 hB6
  dsimp only at hat7 hrow7 ⊢
  go_wp2_with fail
  refine (SrcLeft_any w7 g6 v7 xs hat7).mono ?_
  rintro e w8 ⟨rfl, rfl⟩
  go_wp2_with fail
  refine (SrcLeft_any w7 g6 v7 xs hat7).mono ?_
  rintro e w8 ⟨rfl, rfl⟩
  go_wp2_with fail
  refine (SrcRaw_any w7 g6 v7 xs hat7 (by omega) (xs.length : Int)).mono ?_
  rw [raw_all]
  rintro e w9 ⟨r9, rfl, hrow9, v9, hat9, hk9, _⟩
  have hB9 := hB7.trans (hk9.below (B := w.heap.size) (fun j _ t => by omega) hB7.size)
  clear hk9 hat7 hB7
  dsimp only at hrow9 hat9 ⊢
  go_wp2_with fail
  refine (SrcEnd_any w9 g6 v9 [] hat9).mono ?_
  rintro e w10 ⟨rfl, rfl⟩
  rw [if_pos rfl]
  have hcv1 := run_string_bs (P := Try.prog) w9 24 9 5 Try.underlying24 Try.underlying5 Try.underlying9 (Bs.of_owns hrow9)
  have hcv2 := run_string_bs (P := Try.prog) w9 24 9 5 Try.underlying24 Try.underlying5 Try.underlying9 (hs.below hB9)
  go_wp2
  go_ret
  exact ⟨rfl, hB9⟩

set_option maxRecDepth 100000 in
set_option maxHeartbeats 1000000 in
theorem stays_01 (v : Value) (xs : List UInt8) (most : Nat) (n : Int) (hn : n ≤ 9223372036854775807) (w : World) (hs : Bs w v xs) (hlen : xs.length ≤ 200) (er er' : Int) (y : Nat) (r2 : List UInt8) (hne : (er == 0) = false) (hr : back xs (numRes most xs) = (er, 0, xs)) (hr2 : back xs (numRes topS xs) = (er', y, r2)) (h12 : (er == 12) = false) (hf : (er' == 0) = false) (ys r3 : List UInt8) (hys : (ys.length : Int) ≤ max 0 n) (hl3 : r3.length ≤ xs.length) (hr3 : back xs (bytesRes n xs) = (0, ys, r3)) :
    Calls Try.prog 8 #[v, .int .u64 most, .int .i64 n] w fun e W' => e = .returned (.bool true) ∧ Below w.heap.size w W' := by
  obtain ⟨A, c, rfl, hc⟩ := hs.form
  have h200 : decide ((200 : Int) < (xs.length : Int)) = false := by simp; omega
  have hself : ((xs.length : Int) != (xs.length : Int)) = false := by simp
  have HR := Lib.hid hr
  have HR2 := Lib.hid hr2
  have HR3 := Lib.hid hr3
  clear hr hr2 hr3
  go_enter Try.func8, Try.ntmps8
  go_wp2_with fail
  refine (alive_any _).mono ?_
  rintro e w1 ⟨rfl, h1⟩
  go_wp2_with fail
  refine (From_any _ _ xs (hs.below h1) (by omega)).mono ?_
  rintro e w2 ⟨g, v2, rfl, hat2, hg2, _, hb2⟩
  have hB2 := h1.trans (hb2.mono h1.size)
  clear hb2
  go_wp2_with fail
  refine (SrcNumber_at w2 g v2 xs hat2 (by omega) most _ HR.out).mono ?_
  rintro e w3 ⟨rfl, v3, hat3, hk3, _⟩
  have hB3 := hB2.trans (hk3.below (B := w.heap.size) (fun j _ t => by have := h1.size; omega) hB2.size)
  clear hk3 hat2 hB2
  dsimp only at hat3 ⊢
  go_wp2_with fail
  refine (SrcLeft_any w3 g v3 xs hat3).mono ?_
  rintro e w4 ⟨rfl, rfl⟩
  go_wp2_with fail
  refine (SrcNumber_topS w3 g v3 xs hat3 (by omega) _ HR2.out).mono ?_
  rintro e w5 ⟨rfl, v5, _, hk5, _⟩
  have hB5 := hB3.trans (hk5.below (B := w.heap.size) (fun j _ t => by have := h1.size; omega) hB3.size)
  clear hk5 hat3 hB3
  dsimp only
  go_wp2_with fail
  refine (From_any _ _ xs (hs.below hB5) (by omega)).mono ?_
  rintro e w6 ⟨g6, v6, rfl, hat6, hg6, _, hb6⟩
  have hB6 := hB5.trans (hb6.mono hB5.size)
  have hg6' : w.heap.size ≤ g6 := Nat.le_trans hB5.size hg6
  clear hb6 hB5 hg6 hg2 h1
  go_wp2_with fail
  refine (SrcBytes_at w6 g6 v6 xs hat6 (by omega) n hn _ HR3.out).mono ?_
  rintro e w7 ⟨rr, rfl, hrow7, v7, hat7, hk7, _⟩
  have hB7 := hB6.trans (hk7.below (B := w.heap.size) (fun j _ t => by omega) hB6.size)
  clear hk7 hat6 hB6
  dsimp only at hat7 hrow7 ⊢
  obtain ⟨A7, n7, c7, rfl⟩ := owns_slice hrow7
  obtain rfl : n7 = ys.length := by
    rcases hrow7.2 with ⟨h, h0⟩ | ⟨g', cap, cur, h, _⟩
    · injection h with _ h _; omega
    · injection h
  have hmx : (0 < n ∧ ¬ n < (ys.length : Int)) ∨ (n ≤ 0 ∧ ¬ (0 : Int) < (ys.length : Int)) := by omega
  clear hys
  rcases hmx with ⟨hm0, hm1⟩ | ⟨hm0, hm1⟩
  all_goals
    go_wp2_with fail
    refine (SrcLeft_any w7 g6 v7 r3 hat7).mono ?_
    rintro e w8 ⟨rfl, rfl⟩
    go_wp2_with fail
    refine (SrcRaw_any w7 g6 v7 r3 hat7 (by omega) (r3.length : Int)).mono ?_
    rw [raw_all]
    rintro e w9 ⟨r9, rfl, hrow9, v9, hat9, hk9, _⟩
    have hB9 := hB7.trans (hk9.below (B := w.heap.size) (fun j _ t => by omega) hB7.size)
    clear hk9 hat7 hB7
    dsimp only at hrow9 hat9 ⊢
    go_wp2_with fail
    refine (SrcEnd_any w9 g6 v9 [] hat9).mono ?_
    rintro e w10 ⟨rfl, rfl⟩
    rw [if_pos rfl]
    go_wp2
    go_ret
    exact ⟨rfl, hB9⟩

set_option maxRecDepth 100000 in
set_option maxHeartbeats 1000000 in
theorem stays_00 (v : Value) (xs : List UInt8) (most : Nat) (n : Int) (hn : n ≤ 9223372036854775807) (w : World) (hs : Bs w v xs) (hlen : xs.length ≤ 200) (er er' : Int) (y : Nat) (r2 : List UInt8) (hne : (er == 0) = false) (hr : back xs (numRes most xs) = (er, 0, xs)) (hr2 : back xs (numRes topS xs) = (er', y, r2)) (h12 : (er == 12) = false) (hf : (er' == 0) = false) (g3 : Int) (hg3 : (g3 == 0) = false) (hg3' : (g3 != 0) = true) (hr3 : back xs (bytesRes n xs) = (g3, [], xs)) :
    Calls Try.prog 8 #[v, .int .u64 most, .int .i64 n] w fun e W' => e = .returned (.bool true) ∧ Below w.heap.size w W' := by
  obtain ⟨A, c, rfl, hc⟩ := hs.form
  have h200 : decide ((200 : Int) < (xs.length : Int)) = false := by simp; omega
  have hself : ((xs.length : Int) != (xs.length : Int)) = false := by simp
  have HR := Lib.hid hr
  have HR2 := Lib.hid hr2
  have HR3 := Lib.hid hr3
  clear hr hr2 hr3
  go_enter Try.func8, Try.ntmps8
  go_wp2_with fail
  refine (alive_any _).mono ?_
  rintro e w1 ⟨rfl, h1⟩
  go_wp2_with fail
  refine (From_any _ _ xs (hs.below h1) (by omega)).mono ?_
  rintro e w2 ⟨g, v2, rfl, hat2, hg2, _, hb2⟩
  have hB2 := h1.trans (hb2.mono h1.size)
  clear hb2
  go_wp2_with fail
  refine (SrcNumber_at w2 g v2 xs hat2 (by omega) most _ HR.out).mono ?_
  rintro e w3 ⟨rfl, v3, hat3, hk3, _⟩
  have hB3 := hB2.trans (hk3.below (B := w.heap.size) (fun j _ t => by have := h1.size; omega) hB2.size)
  clear hk3 hat2 hB2
  dsimp only at hat3 ⊢
  go_wp2_with fail
  refine (SrcLeft_any w3 g v3 xs hat3).mono ?_
  rintro e w4 ⟨rfl, rfl⟩
  go_wp2_with fail
  refine (SrcNumber_topS w3 g v3 xs hat3 (by omega) _ HR2.out).mono ?_
  rintro e w5 ⟨rfl, v5, _, hk5, _⟩
  have hB5 := hB3.trans (hk5.below (B := w.heap.size) (fun j _ t => by have := h1.size; omega) hB3.size)
  clear hk5 hat3 hB3
  dsimp only
  go_wp2_with fail
  refine (From_any _ _ xs (hs.below hB5) (by omega)).mono ?_
  rintro e w6 ⟨g6, v6, rfl, hat6, hg6, _, hb6⟩
  have hB6 := hB5.trans (hb6.mono hB5.size)
  have hg6' : w.heap.size ≤ g6 := Nat.le_trans hB5.size hg6
  clear hb6 hB5 hg6 hg2 h1
  go_wp2_with fail
  refine (SrcBytes_at w6 g6 v6 xs hat6 (by omega) n hn _ HR3.out).mono ?_
  rintro e w7 ⟨rr, rfl, hrow7, v7, hat7, hk7, _⟩
  have hB7 := hB6.trans (hk7.below (B := w.heap.size) (fun j _ t => by omega) hB6.size)
  clear hk7 hat6 hB6
  dsimp only at hat7 hrow7 ⊢
  go_wp2_with fail
  refine (SrcLeft_any w7 g6 v7 xs hat7).mono ?_
  rintro e w8 ⟨rfl, rfl⟩
  go_wp2_with fail
  refine (SrcLeft_any w7 g6 v7 xs hat7).mono ?_
  rintro e w8 ⟨rfl, rfl⟩
  go_wp2_with fail
  refine (SrcRaw_any w7 g6 v7 xs hat7 (by omega) (xs.length : Int)).mono ?_
  rw [raw_all]
  rintro e w9 ⟨r9, rfl, hrow9, v9, hat9, hk9, _⟩
  have hB9 := hB7.trans (hk9.below (B := w.heap.size) (fun j _ t => by omega) hB7.size)
  clear hk9 hat7 hB7
  dsimp only at hrow9 hat9 ⊢
  go_wp2_with fail
  refine (SrcEnd_any w9 g6 v9 [] hat9).mono ?_
  rintro e w10 ⟨rfl, rfl⟩
  rw [if_pos rfl]
  have hcv1 := run_string_bs (P := Try.prog) w9 24 9 5 Try.underlying24 Try.underlying5 Try.underlying9 (Bs.of_owns hrow9)
  have hcv2 := run_string_bs (P := Try.prog) w9 24 9 5 Try.underlying24 Try.underlying5 Try.underlying9 (hs.below hB9)
  go_wp2
  go_ret
  exact ⟨rfl, hB9⟩


set_option maxHeartbeats 400000 in
theorem stays_long (A : Option Addr) (m c : Nat) (hm : 200 < m) (hm' : m ≤ 9223372036854775807) (most n : Int) (w : World) :
    Calls Try.prog 8 #[.slice A m c, .int .u64 most, .int .i64 n] w fun e W' => e = .returned (.bool true) ∧ Below w.heap.size w W' := by
  have h100 : decide ((200 : Int) < (m : Int)) = true := by simp; omega
  go_enter Try.func8, Try.ntmps8
  go_wp2_with fail
  refine (alive_any _).mono ?_
  rintro e w1 ⟨rfl, h1⟩
  go_wp2
  go_ret
  exact ⟨rfl, h1⟩

/-- LebStays, of a slice that reads as bytes. -/
theorem stays_any (v : Value) (xs : List UInt8) (most : Nat) (n : Int) (hn : n ≤ 9223372036854775807) (w : World) (hs : Bs w v xs) (hm : xs.length ≤ 9223372036854775807) :
    Calls Try.prog 8 #[v, .int .u64 most, .int .i64 n] w fun e W' => e = .returned (.bool true) ∧ Below w.heap.size w W' := by
  by_cases hlen : xs.length ≤ 200
  · rcases stays_num most xs with ⟨x, rest, h1, h2, h3, h4⟩ | ⟨y, r2, h1, h2, h3, h4⟩ | ⟨er, er', h1, h2, h3, h4, h5⟩
    · exact stays_ok v xs most n w hs hlen x rest h1 h2 h3 h4
    · rcases stays_bytes n xs with ⟨ys, r3, k1, k2, k3⟩ | ⟨g3, k1, k2⟩
      · exact stays_11 v xs most n hn w hs hlen 12 0 y r2 (by decide) h3 h4 (by decide) (by decide) h1 ys r3 k1 k2 k3
      · exact stays_10 v xs most n hn w hs hlen 12 0 y r2 (by decide) h3 h4 (by decide) (by decide) h1 g3 (by simpa using k1) (by simpa using k1) k2
    · rcases stays_bytes n xs with ⟨ys, r3, k1, k2, k3⟩ | ⟨g3, k1, k2⟩
      · exact stays_01 v xs most n hn w hs hlen er er' 0 xs (by simpa using h1) h4 h5 (by simpa using h2) (by simpa using h3) ys r3 k1 k2 k3
      · exact stays_00 v xs most n hn w hs hlen er er' 0 xs (by simpa using h1) h4 h5 (by simpa using h2) (by simpa using h3) g3 (by simpa using k1) (by simpa using k1) k2
  · obtain ⟨A, c, rfl, hc⟩ := hs.form
    exact stays_long A xs.length c (by omega) hm most n w
end Go.Proofs.Ytgapabbhjocflaa
