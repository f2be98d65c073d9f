/- reads, and bytes of strings. -/
import Derived.Test.YtgapabbhjocflaaLebLawA
import Derived.Laws.IdiomStrings
import Derived.Lib.SmallJoins
namespace Go.Proofs.Ytgapabbhjocflaa
open Go.RowKit

/-- Bytes of a string: new memory that reads as they do. -/
theorem conv_bytes (w : World) (s : List UInt8) : ∃ (c : Nat) (W' : World), (convert 9 24 (Str s)).run Try.prog w = .ok (.slice (some ⟨w.heap.size, 0, none⟩) s.length c) W' ∧ Bs W' (.slice (some ⟨w.heap.size, 0, none⟩) s.length c) s ∧ Below w.heap.size w W' := by
  have h := run_bytes_of_string (P := Try.prog) w 9 24 5 ⟨s.toArray⟩ Try.underlying9 Try.underlying24 Try.underlying5
  have hsz : (⟨s.toArray⟩ : ByteArray).size = s.length := by simp [ByteArray.size]
  rw [hsz] at h
  refine ⟨_, _, h, .inr ⟨_, _, rfl, grownCap_ge _ _ _ _, fun i y hy => ?_⟩, ((Below.refl _ w).drew).alloc (Nat.le_refl _) _⟩
  have hi := (List.getElem?_eq_some_iff.1 hy).1
  rw [add_plain, Nat.zero_add]
  refine (World.cell?_alloc_mark w.drew _ _ _ i).trans ?_
  unfold bytesRow
  rw [Array.getElem?_append_left (by simpa using hi)]
  simp [hy]

/-- .. of a constant one. -/
theorem const_bytes (w : World) (s : List UInt8) (k : Nat) (hk : s.length = k) (C : Array Value) (hC : C = (s.map B8).toArray) (g : Nat) (hg : g = w.heap.size) : ∃ (W' : World), (convert 24 24 (.slice (some ⟨g, 0, none⟩) k k)).run Try.prog (w.alloc (.cells C 5)) = .ok (.slice (some ⟨g, 0, none⟩) k k) W' ∧ Bs W' (.slice (some ⟨g, 0, none⟩) k k) s ∧ Below w.heap.size w W' := by
  subst hg hC hk
  refine ⟨_, Lib.run_convert_bytes_const w 24 5 _ _ _ Try.underlying24 Try.underlying5, .inr ⟨_, _, rfl, Nat.le_refl _, fun i y hy => ?_⟩, (Below.refl _ w).alloc (Nat.le_refl _) _⟩
  rw [add_plain, Nat.zero_add]
  refine (World.cell?_alloc_mark w _ _ _ i).trans ?_
  simp [hy]

set_option maxHeartbeats 400000 in
theorem reads_err (s : List UInt8) (hs : s.length ≤ 1000) (most : Nat) (er : Int) (h0 : (er == 0) = false) (h : back s (numRes most s) = (er, 0, s)) (w : World) :
    Calls Try.prog 29 #[Str s, .int .u64 most, .int .u64 0, .int .i64 er] w fun e W' => e = .returned (.bool true) ∧ Below w.heap.size w W' := by
  obtain ⟨c, w1, hcv, hbs, hb1⟩ := conv_bytes w s
  have HB := Lib.hid h
  have hsz : (⟨s.toArray⟩ : ByteArray).size = s.length := by simp [ByteArray.size]
  clear h
  go_enter Try.func29, Try.ntmps29
  go_wp2_with fail
  refine (From_any w1 _ s hbs (by omega)).mono ?_
  rintro e w2 ⟨g, v, rfl, hat, hg, _, hb2⟩
  have hB2 := hb1.trans (hb2.mono hb1.size)
  go_wp2_with fail
  refine (SrcNumber_any w2 g v s hat (by omega) most).mono ?_
  rw [HB.out]
  rintro e w3 ⟨rfl, v3, hat3, hk3, _⟩
  have hB3 := hB2.trans (hk3.below (B := w.heap.size) (fun j _ t => by have := hb1.size; omega) hB2.size)
  dsimp only at hat3 ⊢
  clear hcv hbs hat hk3
  go_wp2_with fail
  refine (SrcLeft_any w3 g v3 s hat3).mono ?_
  rintro e w4 ⟨rfl, rfl⟩
  go_wp2
  go_ret
  exact ⟨rfl, hB3⟩

set_option maxHeartbeats 400000 in
theorem reads_ok (s : List UInt8) (hs : s.length ≤ 1000) (most want : Nat) (rest : List UInt8) (hw : want < 18446744073709551616) (hm : want ≤ most) (h : s = lebB want ++ rest) (w : World) :
    Calls Try.prog 29 #[Str s, .int .u64 most, .int .u64 want, .int .i64 0] w fun e W' => e = .returned (.bool true) ∧ Below w.heap.size w W' := by
  obtain ⟨c, w1, hcv, hbs, hb1⟩ := conv_bytes w s
  have hbk : back s (numRes most s) = (0, want, rest) := by
    unfold back numRes
    rw [h, scan_read hw rest]
    simp only [ne_eq, not_true, if_false]
    rw [if_neg (by omega)]
    simp
  have HB := Lib.hid hbk
  have hsz : (⟨s.toArray⟩ : ByteArray).size = s.length := by simp [ByteArray.size]
  have hlen : s.length = (lebB want).length + rest.length := by rw [h]; simp
  have hlr : (s.length : Int) - ((lebB want).length : Int) = (rest.length : Int) := by omega
  have hle : (lebB want).length ≤ s.length := by omega
  clear h hbk hlen
  go_enter Try.func29, Try.ntmps29
  go_wp2_with fail
  refine (From_any w1 _ s hbs (by omega)).mono ?_
  rintro e w2 ⟨g, v, rfl, hat, hg, _, hb2⟩
  have hB2 := hb1.trans (hb2.mono hb1.size)
  go_wp2_with fail
  refine (SrcNumber_any w2 g v s hat (by omega) most).mono ?_
  rw [HB.out]
  rintro e w3 ⟨rfl, v3, hat3, hk3, _⟩
  have hB3 := hB2.trans (hk3.below (B := w.heap.size) (fun j _ t => by have := hb1.size; omega) hB2.size)
  dsimp only at hat3 ⊢
  clear hcv hbs hat hk3
  go_wp2_with fail
  refine (Size_any want hw w3).mono ?_
  rintro e w4 ⟨rfl, hb4⟩
  have hB4 := hB3.trans (hb4.mono hB3.size)
  have hat4 := hat3.kept (T := fun _ => False) (Kept.of_below hb4 (Nat.le_refl _) _) (fun h => h) (fun _ _ h => h)
  clear hat3 hb4
  go_wp2_with fail
  refine (SrcLeft_any w4 g v3 rest hat4).mono ?_
  rintro e w5 ⟨rfl, rfl⟩
  go_wp2
  go_ret
  exact ⟨rfl, hB4⟩

/-- Sizes of powers of two, and of what is one less. -/
theorem sizes : ∀ k, k < 64 → (lebB (2 ^ k)).length = k / 7 + 1 ∧ (lebB (2 ^ k - 1)).length = max 1 ((k + 6) / 7) := by decide +kernel
theorem two_lt {k : Nat} (h : k < 64) : 2 ^ k < 18446744073709551616 := by
  have := Nat.pow_lt_pow_right (a := 2) (by omega) h
  exact this
theorem sizes_at (k : Nat) (h : k < 64) : ∃ N : Nat, IntKind.u64.wrap ((2 : Int) ^ k) = (N : Int) ∧ N < 18446744073709551616 ∧ 1 ≤ N ∧ ((lebB N).length : Int) = (k : Int) / 7 + 1 ∧ ((lebB (N - 1)).length : Int) = if k = 0 then 1 else ((k : Int) + 6) / 7 := by
  obtain ⟨h1, h2⟩ := sizes k h
  have h3 := two_lt h
  refine ⟨2 ^ k, ?_, h3, Nat.one_le_two_pow, by rw [h1]; omega, ?_⟩
  · rw [show ((2 : Int) ^ k) = ((2 ^ k : Nat) : Int) by simp]
    exact IntWalk.u64_in _ ⟨Int.natCast_nonneg _, Int.ofNat_le.2 (by omega : 2 ^ k ≤ 18446744073709551615)⟩
  · rw [h2]
    split <;> omega
theorem Size_at (k : Nat) (hk : k < 18446744073709551616) (n : Int) (hn : n = k) (w : World) :
    Calls Try.prog 14 #[.int .u64 n] w fun e W' => e = .returned (.int .i64 ((lebB k).length : Int)) ∧ Below w.heap.size w W' := by subst hn; exact Size_any k hk w
theorem str_list (a : ByteArray) : a.toList = a.data.toList := ByteArray.toList_eq a
end Go.Proofs.Ytgapabbhjocflaa
