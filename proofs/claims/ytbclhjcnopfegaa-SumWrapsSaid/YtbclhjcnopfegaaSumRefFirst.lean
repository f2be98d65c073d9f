/- The reference's First, Unwrap. -/
import Derived.Test.YtbclhjcnopfegaaSumRef
namespace Go.Proofs.Ytbclhjcnopfegaa
open Go.RowKit

set_option maxHeartbeats 400000 in
theorem rFirst_short (w : World) (A : Option Addr) (n c : Nat) (hn : n < 8) :
    Calls Try.prog 12 #[.slice A n c] w fun e W' => e = .returned (.tuple #[.slice none 0 0, .int .i64 0, .int .i64 20]) ∧ Below w.heap.size w W' := by
  go_enter Try.func12, Try.ntmps12
  go_wp2
  go_ret3
  exact ⟨rfl, Below.refl _ _⟩

set_option maxHeartbeats 400000 in
theorem rFirst_size (w : World) (A : Option Addr) (c : Nat) (ys : List UInt8) (hs : Bs w (.slice A ys.length c) ys) (hl : ys.length ≤ 140737488355328) (h8 : 8 ≤ ys.length) (hb : 4194304 < le (ys.take 4) ∨ ys.length < le (ys.take 4) + 8) :
    Calls Try.prog 12 #[.slice A ys.length c] w fun e W' => e = .returned (.tuple #[.slice none 0 0, .int .i64 0, .int .i64 20]) ∧ Below w.heap.size w W' := by
  have h32 : le (ys.take 4) < 4294967296 := by have := le_lt (ys.take 4); simp [Nat.min_eq_left (by omega : 4 ≤ ys.length)] at this; exact this
  go_enter Try.func12, Try.ntmps12
  go_wp2_with fail
  refine (Number_any w _ _ hs (by omega)).mono ?_
  rintro e w1 ⟨rfl, rfl⟩
  generalize le (ys.take 4) = n at *
  by_cases h1 : 4194304 < n
  · go_wp2
    go_ret3
    exact ⟨rfl, Below.refl _ _⟩
  · have h2 : ys.length < n + 8 := by omega
    go_wp2
    go_ret3
    exact ⟨rfl, Below.refl _ _⟩

theorem list_beq (a b : List UInt8) : (a == b) = decide (a = b) := by
  rw [Bool.eq_iff_iff]
  simp

set_option maxHeartbeats 1000000 in
theorem rFirst_sum (w : World) (A : Option Addr) (c : Nat) (ys : List UInt8) (hs : Bs w (.slice A ys.length c) ys) (hl : ys.length ≤ 140737488355328) (n : Nat) (hn : le (ys.take 4) = n) (hm : n ≤ 4194304) (h8 : n + 8 ≤ ys.length) (a : List UInt8) (ha : (ys.drop 4).take n = a) :
    Calls Try.prog 12 #[.slice A ys.length c] w fun e W' => Below w.heap.size w W' ∧ (wrapB a ≠ ys.take (n + 8) → e = .returned (.tuple #[.slice none 0 0, .int .i64 0, .int .i64 20])) ∧
      (wrapB a = ys.take (n + 8) → ∃ v', e = .returned (.tuple #[v', .int .i64 (n + 8 : Nat), .int .i64 0]) ∧ W'.ownsRow w.heap.size 5 1 v' a.length (a.map B8)) := by
  obtain ⟨i0, hi, hz0, hz1, hz2⟩ := info_parts infoU8
  obtain ⟨_, hlc⟩ := hs.len
  obtain ⟨b, off, rfl, _⟩ := hs.at (i := 0) (by omega)
  have hc4 : ¬ c = 4 := by omega
  have hs4 : Bs w (.slice (some ⟨b, off + 4, none⟩) n (c - 4)) a := hs.sub 4 rfl (by omega) (by omega) ha.symm
  have hla : a.length = n := by rw [← ha]; simp; omega
  have hla' : a.length ≤ 4194304 := by omega
  clear ha
  go_enter Try.func12, Try.ntmps12
  go_wp2_with fail
  refine (Number_any w _ _ hs (by omega)).mono ?_
  rintro e w0 ⟨rfl, rfl⟩
  rw [hn]
  go_wp2_with fail
  refine (rWrap_any w _ a hs4 hla').mono ?_
  rintro e w1 ⟨v1, rfl, hown1, hB1⟩
  obtain ⟨A1, n1, c1, rfl⟩ := owns_slice hown1
  go_wp2_with fail
  have hS : Bs w1.drew (.slice A1 n1 c1) (wrapB a) ∧ Below w.heap.size w w1.drew := ⟨(Bs.of_owns hown1).below (Below.refl _ _).drew, hB1.drew⟩
  have hT : ((n : Int) + 8).toNat = n + 8 := by omega
  have hs8 := hs.take (k := n + 8) (by omega)
  refine wp_held (fun W1 => Bs W1 (.slice A1 n1 c1) (wrapB a) ∧ Below w.heap.size w W1) (by kernel_rfl) ?_
  refine wpAnyH_next (i := 0) (v := .slice A1 n1 c1) rfl (by kernel_rfl) (by kernel_rfl) (by kernel_rfl) (fun _ _ _ h => h) (by kernel_rfl) (fun W1 hW1 => by go_simp) hS (fun a' ha' => ?_)
  simp only [Act.put, List.getElem_toArray, List.getElem_cons_zero, List.setIfInBounds_toArray, List.set_cons_succ, List.set_cons_zero] at ha'
  subst ha'
  refine wpAnyH_next (i := 1) (v := Str (wrapB a)) rfl (by kernel_rfl) (by kernel_rfl) (by kernel_rfl) (fun _ _ _ h => h) (by kernel_rfl) (fun W1 hW1 => by go_simp; rw [run_string_bs W1 22 9 5 Try.underlying22 Try.underlying5 Try.underlying9 hW1.1]; rfl) hS (fun a' ha' => ?_)
  simp only [Act.put, List.getElem_toArray, List.getElem_cons_succ, List.getElem_cons_zero, List.setIfInBounds_toArray, List.set_cons_succ, List.set_cons_zero] at ha'
  subst ha'
  refine wpAnyH_next (i := 2) (v := .slice (some ⟨b, off, none⟩) ys.length c) rfl (by kernel_rfl) (by kernel_rfl) (by kernel_rfl) (fun _ _ _ h => h) (by kernel_rfl) (fun W1 hW1 => by go_simp) hS (fun a' ha' => ?_)
  simp only [Act.put, List.getElem_toArray, List.getElem_cons_succ, List.getElem_cons_zero, List.setIfInBounds_toArray, List.set_cons_succ, List.set_cons_zero] at ha'
  subst ha'
  refine wpAnyH_next (i := 3) (v := .int .i64 (n : Int)) rfl (by kernel_rfl) (by kernel_rfl) (by kernel_rfl) (fun _ _ _ h => h) (by kernel_rfl) (fun W1 hW1 => by go_simp) hS (fun a' ha' => ?_)
  simp only [Act.put, List.getElem_toArray, List.getElem_cons_succ, List.getElem_cons_zero, List.setIfInBounds_toArray, List.set_cons_succ, List.set_cons_zero] at ha'
  subst ha'
  refine wpAnyH_next (i := 4) (v := .int .i64 ((n : Int) + 8)) rfl (by kernel_rfl) (by kernel_rfl) (by kernel_rfl) (fun _ _ _ h => h) (by kernel_rfl) (fun W1 hW1 => by go_simp; exact IntWalk.i64_in _ ⟨by omega, by omega⟩) hS (fun a' ha' => ?_)
  simp only [Act.put, List.getElem_toArray, List.getElem_cons_succ, List.getElem_cons_zero, List.setIfInBounds_toArray, List.set_cons_succ, List.set_cons_zero] at ha'
  subst ha'
  refine wpAnyH_next (i := 5) (v := .slice (some ⟨b, off, none⟩) (n + 8) c) rfl (by kernel_rfl) (by kernel_rfl) (by kernel_rfl) (fun _ _ _ h => h) (by kernel_rfl) (fun W1 hW1 => by go_simp; intro h; exact absurd (h (by omega)) (by omega)) hS (fun a' ha' => ?_)
  simp only [Act.put, List.getElem_toArray, List.getElem_cons_succ, List.getElem_cons_zero, List.setIfInBounds_toArray, List.set_cons_succ, List.set_cons_zero] at ha'
  subst ha'
  refine wpAnyH_next (i := 6) (v := Str (ys.take (n + 8))) rfl (by kernel_rfl) (by kernel_rfl) (by kernel_rfl) (fun _ _ _ h => h) (by kernel_rfl) (fun W1 hW1 => by go_simp; rw [run_string_bs W1 22 9 5 Try.underlying22 Try.underlying5 Try.underlying9 (hs8.below hW1.2)]; rfl) hS (fun a' ha' => ?_)
  simp only [Act.put, List.getElem_toArray, List.getElem_cons_succ, List.getElem_cons_zero, List.setIfInBounds_toArray, List.set_cons_succ, List.set_cons_zero] at ha'
  subst ha'
  refine wpAnyH_next (i := 7) (v := .bool (!decide (wrapB a = ys.take (n + 8)))) rfl (by kernel_rfl) (by kernel_rfl) (by kernel_rfl) (fun _ _ _ h => h) (by kernel_rfl) (fun W1 hW1 => by go_simp; exact list_beq _ _) hS (fun a' ha' => ?_)
  simp only [Act.put, List.getElem_toArray, List.getElem_cons_succ, List.getElem_cons_zero, List.setIfInBounds_toArray, List.set_cons_succ, List.set_cons_zero] at ha'
  subst ha'
  refine wpAnyH_fin (by kernel_rfl) ?_ _
  obtain ⟨_, hS⟩ := hS
  by_cases hq : wrapB a = ys.take (n + 8)
  · rw [decide_eq_true hq]
    have hs4' : Bs w1.drew (.slice (some ⟨b, off + 4, none⟩) (4 + n - 4) (c - 4)) a := by rw [Nat.add_sub_cancel_left]; exact hs4.below hS
    clear hs8 hT hown1
    go_wp2_with (at_builtin; (refine wpList_append_bs rfl (.tmp 40) (.tmp 44) 22 rfl w.heap.size 5 i0 Try.underlying22 hi hz0 hz1 hz2 (.slice none 0 0) [] rfl (World.ownsRow_nil _ _ _ _) _ a rfl hs4' (by simp; omega) hS.size ?_; intro v3 w3 hown3 hg3 _ _ _; obtain ⟨A3, n3, c3, rfl⟩ := owns_slice hown3))
    go_ret3
    exact ⟨hS.trans ((Kept.of_grown hg3).below (fun j _ e => by simp [Value.ownBlock] at e) hS.size), .slice A3 n3 c3, by simp, hla ▸ hown3⟩
  · rw [decide_eq_false hq]
    go_wp2
    go_ret3
    exact ⟨hS, fun _ => rfl, fun h => absurd h hq⟩

/-- The reference's First, where nothing is found. -/
theorem rFirst_none (w : World) (v : Value) (ys : List UInt8) (hs : Bs w v ys) (hl : ys.length ≤ 140737488355328) (h : splitR ys = none) :
    Calls Try.prog 12 #[v] w fun e W' => e = .returned (.tuple #[.slice none 0 0, .int .i64 0, .int .i64 20]) ∧ Below w.heap.size w W' := by
  obtain ⟨A, c, rfl, _⟩ := hs.form
  by_cases h1 : ys.length < 8
  · exact rFirst_short w A _ c h1
  · by_cases h2 : 4194304 < le (ys.take 4) ∨ ys.length < le (ys.take 4) + 8
    · exact rFirst_size w A c ys hs hl (by omega) h2
    · refine (rFirst_sum w A c ys hs hl _ rfl (by omega) (by omega) _ rfl).mono fun e W' ⟨h4, h5, _⟩ => ⟨h5 (fun he => ?_), h4⟩
      have hla : ((ys.drop 4).take (le (ys.take 4))).length ≤ 4194304 := by simp; omega
      have h6 := splitR_wrap hla (ys.drop (le (ys.take 4) + 8))
      rw [he, List.take_append_drop, h] at h6
      cases h6
/-- Where something is found. -/
theorem rFirst_some (w : World) (v : Value) (ys : List UInt8) (hs : Bs w v ys) (hl : ys.length ≤ 140737488355328) (a r : List UInt8) (h : splitR ys = some (a, r)) :
    Calls Try.prog 12 #[v] w fun e W' => ∃ v', e = .returned (.tuple #[v', .int .i64 (a.length + 8 : Nat), .int .i64 0]) ∧ W'.ownsRow w.heap.size 5 1 v' a.length (a.map B8) ∧ Below w.heap.size w W' := by
  obtain ⟨A, c, rfl, _⟩ := hs.form
  obtain ⟨he, hal⟩ := splitR_some h
  have h4 : le (ys.take 4) = a.length := by
    have : ys.take 4 = four a.length := by
      rw [he]
      unfold wrapB
      rw [List.append_assoc, List.append_assoc]
      exact List.take_left' (four_length _)
    rw [this, le_four (by omega)]
  have hlen : ys.length = a.length + 8 + r.length := by rw [he]; simp [wrapB_length]
  have ha : (ys.drop 4).take a.length = a := by
    rw [he]
    unfold wrapB
    rw [List.append_assoc, List.append_assoc, List.drop_left' (four_length _)]
    exact List.take_left' rfl
  have hw : wrapB a = ys.take (a.length + 8) := by
    rw [he]
    exact (List.take_left' (wrapB_length a)).symm
  refine (rFirst_sum w A c ys hs hl _ h4 hal (by omega) a ha).mono fun e W' ⟨h6, _, h7⟩ => ?_
  obtain ⟨v', h8, h9⟩ := h7 hw
  exact ⟨v', h8, h9, h6⟩

set_option maxHeartbeats 400000 in
theorem rUnwrap_err (w : World) (v : Value) (ys : List UInt8) (hs : Bs w v ys) (hl : ys.length ≤ 140737488355328) (h : unwrapR ys = (20, [])) :
    Calls Try.prog 10 #[v] w fun e W' => e = .returned (.tuple #[.slice none 0 0, .int .i64 20]) ∧ Below w.heap.size w W' := by
  obtain ⟨A, c, rfl, _⟩ := hs.form
  rcases hr : splitR ys with _ | ⟨a, r⟩
  · go_enter Try.func10, Try.ntmps10
    go_wp2_with fail
    refine (rFirst_none w _ ys hs hl hr).mono ?_
    rintro e w1 ⟨rfl, hB⟩
    clear h hr
    go_wp2
    go_ret2
    exact ⟨rfl, hB⟩
  · have hr0 : r ≠ [] := by rintro rfl; simp [unwrapR, hr] at h
    have hlen : ys.length = a.length + 8 + r.length := by rw [(splitR_some hr).1]; simp [wrapB_length]
    have HL := Lib.hid hlen
    clear hlen
    go_enter Try.func10, Try.ntmps10
    go_wp2_with fail
    refine (rFirst_some w _ ys hs hl a r hr).mono ?_
    rintro e w1 ⟨v1, rfl, hown, hB⟩
    obtain ⟨A1, n1, c1, rfl⟩ := owns_slice hown
    have hpos : 0 < r.length := List.length_pos_iff.2 hr0
    have hne : ((a.length + 8 : Nat) : Int) ≠ (ys.length : Int) := by have := HL.out; omega
    generalize a.length + 8 = m at *
    clear h hr hr0 hpos
    go_wp2
    go_ret2
    exact ⟨rfl, hB⟩

set_option maxHeartbeats 400000 in
theorem rUnwrap_ok (w : World) (v : Value) (ys : List UInt8) (hs : Bs w v ys) (hl : ys.length ≤ 140737488355328) (a : List UInt8) (hr : splitR ys = some (a, [])) :
    Calls Try.prog 10 #[v] w fun e W' => ∃ v', e = .returned (.tuple #[v', .int .i64 0]) ∧ W'.ownsRow w.heap.size 5 1 v' a.length (a.map B8) ∧ Below w.heap.size w W' := by
  obtain ⟨A, c, rfl, _⟩ := hs.form
  have hlen : a.length + 8 = ys.length := by have h1 := congrArg List.length (splitR_some hr).1; simp [wrapB_length] at h1; omega
  have HL := Lib.hid hlen
  clear hlen
  go_enter Try.func10, Try.ntmps10
  go_wp2_with fail
  refine (rFirst_some w _ ys hs hl a [] hr).mono ?_
  rintro e w1 ⟨v1, rfl, hown, hB⟩
  obtain ⟨A1, n1, c1, rfl⟩ := owns_slice hown
  rw [HL.out]
  clear hr
  go_wp2
  go_ret2
  exact ⟨_, rfl, hown, hB⟩
end Go.Proofs.Ytbclhjcnopfegaa
