/- Wrap. -/
import Derived.Test.YtbclhjcnopfegaaSumWord
namespace Go.Proofs.Ytbclhjcnopfegaa
open Go.RowKit

set_option maxHeartbeats 400000 in
/-- Too many bytes. -/
theorem Wrap_most (w : World) (A : Option Addr) (n c : Nat) (hn : 4194304 < n) (hm : n ≤ 9223372036854775807) :
    Calls Try.prog 7 #[.slice A n c] w fun e W' => e = .returned (.tuple #[.slice none 0 0, .int .i64 12]) ∧ Below w.heap.size w W' := by
  go_enter Try.func7, Try.ntmps7
  go_wp2
  go_ret2
  exact ⟨rfl, Below.refl _ _⟩

theorem wrapB_eq (ys : List UInt8) : (([] : List UInt8) ++ four ys.length ++ ys) ++ four (crc (four ys.length ++ ys)) = wrapB ys := by simp [wrapB]

set_option maxHeartbeats 400000 in
theorem Wrap_some (w : World) (A : Option Addr) (c : Nat) (ys : List UInt8) (hs : Bs w (.slice A ys.length c) ys) (hl : ys.length ≤ 4194304) :
    Calls Try.prog 7 #[.slice A ys.length c] w fun e W' => ∃ v', e = .returned (.tuple #[v', .int .i64 0]) ∧ W'.ownsRow w.heap.size 5 1 v' (wrapB ys).length ((wrapB ys).map B8) ∧ Below w.heap.size w W' := by
  obtain ⟨i0, hi, hz0, hz1, hz2⟩ := info_parts infoU8
  obtain ⟨w1, hr, hown1, hg1⟩ := run_make_own (P := Try.prog) w w.heap.size 22 5 i0 _ 1 Try.underlying22 hi hz0 hz1 .i64 .i64 (4 + ys.length + 4) (by rw [hz2]; omega) (by simp [maxLen]; omega) (Nat.le_refl _)
  have hB1 : Below w.heap.size w w1 := (Below.refl _ w).grown hg1 (Nat.le_refl _) (by simp)
  have hs1 := hs.below hB1
  have hr' : Sem.run Try.prog (Instr.makeSlice 22 (.int .i64 0) (.int .i64 (4 + (ys.length : Int) + 4))) w = .ok (.slice (some ⟨w.heap.size, 0, none⟩) 0 (4 + ys.length + 4)) w1 := by
    have e : (4 + (ys.length : Int) + 4) = ((4 + ys.length + 4 : Nat) : Int) := by omega
    rw [e]
    exact hr
  clear hr
  go_enter Try.func7, Try.ntmps7
  go_wp2_with fail
  refine (appendWord_any w1 w.heap.size _ [] ys.length (by omega) hown1 hB1.size (by simp)).mono ?_
  rintro e w2 ⟨v2, rfl, hown2, hB2⟩
  have hB2' := hB1.trans hB2
  have hs2 := (hs.below hB2')
  obtain ⟨A2, n2, c2, rfl⟩ := owns_slice hown2
  have hl2 : ([] ++ four ys.length).length = 4 := rfl
  clear hr' hown1 hg1 hs1
  go_wp2_with (at_builtin; refine wpList_append_bs rfl (.tmp 18) (.tmp 19) 22 rfl w.heap.size 5 i0 Try.underlying22 hi hz0 hz1 hz2 _ _ rfl hown2 _ ys rfl hs2 (by rw [hl2]; omega) hB2'.size ?_; intro v3 w3 hown3 hg3 _ _ _; obtain ⟨A3, n3, c3, rfl⟩ := owns_slice hown3)
  have hB3 : Below w.heap.size w w3 := hB2'.trans ((Kept.of_grown hg3).below (fun j _ e => (hown2.lt j e).1) hB2'.size)
  have hl3 : ([] ++ four ys.length ++ ys).length = 4 + ys.length := by simp [four_length]
  refine (Of_one w3 _ _ (Bs.of_owns hown3) (by rw [hl3]; omega) _).mono ?_
  rintro e w4 ⟨rfl, hB4⟩
  have hown4 := owns_below hown3 hB4
  have hB4' := hB3.trans (hB4.mono hB3.size)
  clear hg3 hown3 hB3 hB4 hown2 hs2 hB2 hB1 hB2'
  go_wp2_with fail
  refine (appendWord_any w4 w.heap.size _ _ _ (crc_lt _) hown4 hB4'.size (by rw [hl3]; omega)).mono ?_
  rintro e w5 ⟨v5, rfl, hown5, hB5⟩
  rw [wrapB_eq] at hown5
  have hB5' := hB4'.trans hB5
  go_wp2
  go_ret2
  exact ⟨_, rfl, hown5, hB5'⟩
/-- Wrap. -/
theorem Wrap_any (w : World) (v : Value) (ys : List UInt8) (hs : Bs w v ys) (hl : ys.length ≤ 4194304) :
    Calls Try.prog 7 #[v] w fun e W' => ∃ v', e = .returned (.tuple #[v', .int .i64 0]) ∧ W'.ownsRow w.heap.size 5 1 v' (wrapB ys).length ((wrapB ys).map B8) ∧ Below w.heap.size w W' := by
  obtain ⟨A, c, rfl, _⟩ := hs.form
  exact Wrap_some w A c ys hs hl
end Go.Proofs.Ytbclhjcnopfegaa
