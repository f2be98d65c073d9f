/- Unwrap, First. -/
import Derived.Test.YtbclhjcnopfegaaSumSplit
namespace Go.Proofs.Ytbclhjcnopfegaa
open Go.RowKit

set_option maxHeartbeats 400000 in
theorem Unwrap_err (w : World) (v : Value) (ys : List UInt8) (hs : Bs w v ys) (hl : ys.length ≤ 140737488355328) (h : unwrapR ys = (20, [])) :
    Calls Try.prog 9 #[v] w fun e W' => e = .returned (.tuple #[.slice none 0 0, .int .i64 20]) ∧ Below w.heap.size w W' := by
  obtain ⟨A, c, rfl, _⟩ := hs.form
  rcases hr : splitR ys with _ | ⟨a, r⟩
  · go_enter Try.func9, Try.ntmps9
    go_wp2_with fail
    refine (split_none w _ ys hs hl hr).mono ?_
    rintro e w1 ⟨rfl, hB⟩
    clear h hr
    go_wp2
    go_ret2
    exact ⟨rfl, hB⟩
  · have hr0 : r ≠ [] := by rintro rfl; simp [unwrapR, hr] at h
    go_enter Try.func9, Try.ntmps9
    go_wp2_with fail
    refine (split_some w _ ys hs hl a r hr).mono ?_
    rintro e w1 ⟨v1, v2, rfl, h1, h2, hB⟩
    obtain ⟨A1, c1, rfl, _⟩ := h1.form
    obtain ⟨A2, c2, rfl, _⟩ := h2.form
    have hpos : 0 < r.length := List.length_pos_iff.2 hr0
    clear h hr hr0
    go_wp2
    go_ret2
    exact ⟨rfl, hB⟩

set_option maxHeartbeats 400000 in
theorem Unwrap_ok (w : World) (v : Value) (ys : List UInt8) (hs : Bs w v ys) (hl : ys.length ≤ 140737488355328) (a : List UInt8) (hr : splitR ys = some (a, [])) :
    Calls Try.prog 9 #[v] w fun e W' => ∃ v', e = .returned (.tuple #[v', .int .i64 0]) ∧ W'.ownsRow w.heap.size 5 1 v' a.length (a.map B8) ∧ Below w.heap.size w W' := by
  obtain ⟨A, c, rfl, _⟩ := hs.form
  have hal := (splitR_some hr).2
  go_enter Try.func9, Try.ntmps9
  go_wp2_with fail
  refine (split_some w _ ys hs hl a [] hr).mono ?_
  rintro e w1 ⟨v1, v2, rfl, h1, h2, hB⟩
  obtain ⟨A1, c1, rfl, _⟩ := h1.form
  obtain ⟨A2, c2, rfl, _⟩ := h2.form
  have h1' := h1.below hB
  clear hr
  go_wp2_with fail
  refine (Clone_any w1 _ a h1' (by omega)).mono ?_
  rintro e w2 ⟨v', rfl, hown, hB2⟩
  go_wp2
  go_ret2
  exact ⟨_, rfl, owns_base hown hB.size, hB.trans (hB2.mono hB.size)⟩

/-- What Unwrap tells, either way. -/
theorem Unwrap_tell (w : World) (v : Value) (ys : List UInt8) (hs : Bs w v ys) (hl : ys.length ≤ 140737488355328) :
    Calls Try.prog 9 #[v] w fun e W' => ∃ A n c, e = .returned (.tuple #[.slice A n c, .int .i64 (unwrapR ys).1]) ∧ Below w.heap.size w W' := by
  rcases unwrapR_cases ys with ⟨a, h1, h2⟩ | ⟨_, h2⟩
  · refine (Unwrap_ok w v ys hs hl a h1).mono ?_
    rintro e W' ⟨v', rfl, hown, hB⟩
    obtain ⟨A, n, c, rfl⟩ := owns_slice hown
    exact ⟨A, n, c, by rw [h2], hB⟩
  · refine (Unwrap_err w v ys hs hl h2).mono ?_
    rintro e W' ⟨rfl, hB⟩
    exact ⟨none, 0, 0, by rw [h2], hB⟩

set_option maxHeartbeats 400000 in
theorem First_err (w : World) (v : Value) (ys : List UInt8) (hs : Bs w v ys) (hl : ys.length ≤ 140737488355328) (hr : splitR ys = none) :
    Calls Try.prog 11 #[v] w fun e W' => e = .returned (.tuple #[.slice none 0 0, .slice none 0 0, .int .i64 20]) ∧ Below w.heap.size w W' := by
  obtain ⟨A, c, rfl, _⟩ := hs.form
  go_enter Try.func11, Try.ntmps11
  go_wp2_with fail
  refine (split_none w _ ys hs hl hr).mono ?_
  rintro e w1 ⟨rfl, hB⟩
  clear hr
  go_wp2
  go_ret3
  exact ⟨rfl, hB⟩

set_option maxHeartbeats 400000 in
theorem First_ok (w : World) (v : Value) (ys : List UInt8) (hs : Bs w v ys) (hl : ys.length ≤ 140737488355328) (a r : List UInt8) (hr : splitR ys = some (a, r)) :
    Calls Try.prog 11 #[v] w fun e W' => ∃ v1 v2, e = .returned (.tuple #[v1, v2, .int .i64 0]) ∧ W'.ownsRow w.heap.size 5 1 v1 a.length (a.map B8) ∧ W'.ownsRow w.heap.size 5 1 v2 r.length (r.map B8) ∧
      (∀ j, v1.ownBlock = some j → v2.ownBlock ≠ some j) ∧ Below w.heap.size w W' := by
  obtain ⟨A, c, rfl, _⟩ := hs.form
  obtain ⟨he, hal⟩ := splitR_some hr
  have hrl : r.length ≤ ys.length := by rw [he]; simp
  clear he
  go_enter Try.func11, Try.ntmps11
  go_wp2_with fail
  refine (split_some w _ ys hs hl a r hr).mono ?_
  rintro e w1 ⟨v1, v2, rfl, h1, h2, hB⟩
  obtain ⟨A1, c1, rfl, _⟩ := h1.form
  obtain ⟨A2, c2, rfl, _⟩ := h2.form
  have h1' := h1.below hB
  clear hr
  go_wp2_with fail
  refine (Clone_any w1 _ a h1' (by omega)).mono ?_
  rintro e w2 ⟨v', rfl, hown, hB2⟩
  have hB2' := hB.trans (hB2.mono hB.size)
  have h2' := h2.below hB2'
  obtain ⟨A3, n3, c3, rfl⟩ := owns_slice hown
  go_wp2_with fail
  refine (Clone_any w2 _ r h2' (by omega)).mono ?_
  rintro e w3 ⟨v'', rfl, hown2, hB3⟩
  obtain ⟨A4, n4, c4, rfl⟩ := owns_slice hown2
  go_wp2
  go_ret3
  refine ⟨_, _, rfl, owns_base (owns_below hown hB3) hB.size, owns_base hown2 hB2'.size, fun j h1 h2 => ?_, hB2'.trans (hB3.mono hB2'.size)⟩
  have hx := (hown.lt j h1).2
  have hy := (hown2.lt j h2).1
  omega
end Go.Proofs.Ytbclhjcnopfegaa
