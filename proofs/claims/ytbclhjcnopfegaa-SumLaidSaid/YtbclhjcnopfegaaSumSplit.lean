/- split. -/
import Derived.Test.YtbclhjcnopfegaaSumWrap
import Derived.Test.YtbclhjcnopfegaaRound
namespace Go.Proofs.Ytbclhjcnopfegaa
open Go.RowKit

set_option maxHeartbeats 400000 in
theorem split_short (w : World) (A : Option Addr) (n c : Nat) (hn : n < 8) :
    Calls Try.prog 19 #[.slice A n c] w fun e W' => e = .returned (.tuple #[.slice none 0 0, .slice none 0 0, .bool false]) ∧ Below w.heap.size w W' := by
  go_enter Try.func19, Try.ntmps19
  go_wp2
  go_ret3
  exact ⟨rfl, Below.refl _ _⟩

set_option maxHeartbeats 400000 in
theorem split_size (w : World) (A : Option Addr) (c : Nat) (ys : List UInt8) (hs : Bs w (.slice A ys.length c) ys) (hl : ys.length ≤ 140737488355328) (h8 : 8 ≤ ys.length) (hb : 4194304 < le (ys.take 4) ∨ ys.length < le (ys.take 4) + 8) :
    Calls Try.prog 19 #[.slice A ys.length c] w fun e W' => e = .returned (.tuple #[.slice none 0 0, .slice none 0 0, .bool false]) ∧ Below w.heap.size w W' := by
  have h32 : le (ys.take 4) < 4294967296 := by have := le_lt (ys.take 4); simp [Nat.min_eq_left (by omega : 4 ≤ ys.length)] at this; exact this
  go_enter Try.func19, Try.ntmps19
  go_wp2_with fail
  refine (wordAt_any w _ _ hs (by omega)).mono ?_
  rintro e w1 ⟨rfl, hB1⟩
  generalize le (ys.take 4) = n at *
  by_cases h1 : 4194304 < n
  · go_wp2
    go_ret3
    exact ⟨rfl, hB1⟩
  · have h2 : ys.length < n + 8 := by omega
    go_wp2
    go_ret3
    exact ⟨rfl, hB1⟩

theorem neq32 (a b : Nat) : ((a : Int) != (b : Int)) = !decide (a = b) := by
  by_cases h : a = b
  · simp [h]
  · have : ¬ (a : Int) = b := by omega
    simp [h, this]

set_option maxHeartbeats 1000000 in
theorem split_sum (w : World) (A : Option Addr) (c : Nat) (ys : List UInt8) (hs : Bs w (.slice A ys.length c) ys) (hl : ys.length ≤ 140737488355328) (n : Nat) (hn : le (ys.take 4) = n) (hm : n ≤ 4194304) (h8 : n + 8 ≤ ys.length) :
    Calls Try.prog 19 #[.slice A ys.length c] w fun e W' => Below w.heap.size w W' ∧ (le ((ys.drop (4 + n)).take 4) ≠ crc (ys.take (4 + n)) → e = .returned (.tuple #[.slice none 0 0, .slice none 0 0, .bool false])) ∧
      (le ((ys.drop (4 + n)).take 4) = crc (ys.take (4 + n)) → ∃ v1 v2, e = .returned (.tuple #[v1, v2, .bool true]) ∧ Bs w v1 ((ys.drop 4).take n) ∧ Bs w v2 (ys.drop (8 + n))) := by
  obtain ⟨_, hlc⟩ := hs.len
  go_enter Try.func19, Try.ntmps19
  go_wp2_with fail
  refine (wordAt_any w _ _ hs (by omega)).mono ?_
  rintro e w1 ⟨rfl, hB1⟩
  rw [hn]
  go_wp2_with fail
  have hT : (4 + (n : Int)).toNat = 4 + n := by omega
  have hs1 := hs.drop (k := 4 + n) (by omega)
  have hs2 := hs.take (k := 4 + n) (by omega)
  have hl4 : 4 ≤ (ys.drop (4 + n)).length := by simp; omega
  have hS : Below w.heap.size w w1.drew := hB1.drew
  refine wp_held (fun W1 => Below w.heap.size w W1) (by kernel_rfl) ?_
  refine wpAnyH_next (i := 0) (v := .slice A ys.length c) rfl (by kernel_rfl) (by kernel_rfl) (by kernel_rfl) (fun _ _ _ h => h) (by kernel_rfl) (fun W1 hW1 => by go_simp) hS (fun a' ha' => ?_)
  simp only [Act.put, List.getElem_toArray, List.getElem_cons_zero, List.setIfInBounds_toArray, List.set_cons_succ, List.set_cons_zero] at ha'
  subst ha'
  refine wpAnyH_next (i := 1) (v := .int .i64 (4 + (n : Int))) rfl (by kernel_rfl) (by kernel_rfl) (by kernel_rfl) (fun _ _ _ h => h) (by kernel_rfl) (fun W1 hW1 => by go_simp) hS (fun a' ha' => ?_)
  simp only [Act.put, List.getElem_toArray, List.getElem_cons_succ, List.getElem_cons_zero, List.setIfInBounds_toArray, List.set_cons_succ, List.set_cons_zero] at ha'
  subst ha'
  refine wpAnyH_next (i := 2) (v := .slice (if c = 4 + n then A else A.map (·.add (4 + n))) (ys.length - (4 + n)) (c - (4 + n))) rfl (by kernel_rfl) (by kernel_rfl) (by kernel_rfl) (fun _ _ _ h => h) (by kernel_rfl) (fun W1 hW1 => by go_simp; intro h; exact absurd (h (by omega)) (by omega)) hS (fun a' ha' => ?_)
  simp only [Act.put, List.getElem_toArray, List.getElem_cons_succ, List.getElem_cons_zero, List.setIfInBounds_toArray, List.set_cons_succ, List.set_cons_zero] at ha'
  subst ha'
  refine wpAnyH_next (i := 4) (v := .slice A ys.length c) rfl (by kernel_rfl) (by kernel_rfl) (by kernel_rfl) (fun _ _ _ h => h) (by kernel_rfl) (fun W1 hW1 => by go_simp) hS (fun a' ha' => ?_)
  simp only [Act.put, List.getElem_toArray, List.getElem_cons_succ, List.getElem_cons_zero, List.setIfInBounds_toArray, List.set_cons_succ, List.set_cons_zero] at ha'
  subst ha'
  refine wpAnyH_next (i := 5) (v := .int .i64 (4 + (n : Int))) rfl (by kernel_rfl) (by kernel_rfl) (by kernel_rfl) (fun _ _ _ h => h) (by kernel_rfl) (fun W1 hW1 => by go_simp) hS (fun a' ha' => ?_)
  simp only [Act.put, List.getElem_toArray, List.getElem_cons_succ, List.getElem_cons_zero, List.setIfInBounds_toArray, List.set_cons_succ, List.set_cons_zero] at ha'
  subst ha'
  refine wpAnyH_next (i := 6) (v := .slice A (4 + n) c) rfl (by kernel_rfl) (by kernel_rfl) (by kernel_rfl) (fun _ _ _ h => h) (by kernel_rfl) (fun W1 hW1 => by go_simp; intro h; exact absurd (h (by omega)) (by omega)) hS (fun a' ha' => ?_)
  simp only [Act.put, List.getElem_toArray, List.getElem_cons_succ, List.getElem_cons_zero, List.setIfInBounds_toArray, List.set_cons_succ, List.set_cons_zero] at ha'
  subst ha'
  refine wpAnyH_two (i := 3) (j := 7) (by kernel_rfl) rfl rfl rfl rfl (fun K hK => ?ka) (fun K hK => ?kb)
  case' ka =>
    unfold Oper.wp
    go_simp
    refine (wordAt_any _ _ _ (hs1.below hS) hl4).mono ?_
    rintro e w2 ⟨rfl, hB2⟩
    replace hS : Below w.heap.size w w2 := hS.trans (hB2.mono hS.size)
    refine hK _ _ hS ?_
    clear hK K hB2
    refine wpAnyH_one (i := 7) (by kernel_rfl) rfl rfl (fun K hK => ?_)
    unfold Oper.wp
    go_simp
    refine hK _ _ (hS.alloc hS.size _) ?_
    clear hK K
    refine wpAnyH_one (i := 8) (by kernel_rfl) rfl rfl (fun K hK => ?_)
    unfold Oper.wp
    go_simp
    refine (Of_one w2 _ _ (hs2.below hS) (by simp; omega) _).mono ?_
    rintro e w3 ⟨rfl, hB3⟩
    replace hS : Below w.heap.size w w3 := hS.trans (hB3.mono hS.size)
    refine hK _ _ hS ?_
    clear hK K hB3
  case' kb =>
    unfold Oper.wp
    go_simp
    refine hK _ _ (hB1.alloc hB1.size _).drew ?_
    clear hK K
    replace hS : Below w.heap.size w (w1.alloc (.cells #[.slice A (4 + n) c] 22)).drew := (hB1.alloc hB1.size _).drew
    have hps := Ps.one (hs2.below hB1) 22
    refine wpAnyH_one (i := 3) (by kernel_rfl) rfl rfl (fun K hK => ?_)
    unfold Oper.wp
    go_simp
    refine (wordAt_any _ _ _ (hs1.below hS) hl4).mono ?_
    rintro e w2 ⟨rfl, hB2⟩
    replace hps := hps.below (w' := w2) ((Below.refl _ _).drew.trans hB2)
    replace hS : Below w.heap.size w w2 := hS.trans (hB2.mono hS.size)
    refine hK _ _ hS ?_
    clear hK K hB2
    refine wpAnyH_one (i := 8) (by kernel_rfl) rfl rfl (fun K hK => ?_)
    unfold Oper.wp
    go_simp
    refine (Of_any w2 _ _ hps (by simp) (by simp [flat]; omega)).mono ?_
    rintro e w3 ⟨rfl, hB3⟩
    rw [flat_one]
    replace hS : Below w.heap.size w w3 := hS.trans (hB3.mono hS.size)
    refine hK _ _ hS ?_
    clear hK K hB3
  all_goals
    refine wpAnyH_next (i := 9) (v := .bool (!decide (le ((ys.drop (4 + n)).take 4) = crc (ys.take (4 + n))))) rfl (by kernel_rfl) (by kernel_rfl) (by kernel_rfl) (fun _ _ _ h => h) (by kernel_rfl) (fun W1 hW1 => by go_simp; exact neq32 _ _) hS (fun a' ha' => ?_)
    simp only [Act.put, List.getElem_toArray, List.getElem_cons_succ, List.getElem_cons_zero, List.setIfInBounds_toArray, List.set_cons_succ, List.set_cons_zero] at ha'
    subst ha'
    refine wpAnyH_fin (by kernel_rfl) ?_ _
    by_cases hq : le ((ys.drop (4 + n)).take 4) = crc (ys.take (4 + n))
    · rw [decide_eq_true hq]
      clear hs1 hs2 hT
      obtain ⟨b, off, rfl, _⟩ := hs.at (i := 0) (by omega)
      have hcn : ¬ c = 4 + n := by omega
      have hc4 : ¬ c = 4 := by omega
      rw [if_neg hcn]
      go_wp2_with fail
      go_quiet (fail)
      go_wp2
      · go_ret3
        have h0 : ys.length - (4 + n + 4) = 0 := by omega
        exact ⟨below_drewN hS _, _, _, rfl, hs.sub 4 rfl (by omega) (by omega) rfl, Bs.empty w ⟨b, off, none⟩ 0 h0 (List.drop_eq_nil_of_le (by omega))⟩
      · go_ret3
        exact ⟨below_drewN hS _, _, _, rfl, hs.sub 4 rfl (by omega) (by omega) rfl, hs.sub (4 + n + 4) rfl (by omega) (by omega) (by rw [List.take_of_length_le (by simp), show 4 + n + 4 = 8 + n by omega])⟩
    · rw [decide_eq_false hq]
      go_wp2
      go_ret3
      exact ⟨hS, rfl⟩

/-- split, where nothing is found. -/
theorem split_none (w : World) (v : Value) (ys : List UInt8) (hs : Bs w v ys) (hl : ys.length ≤ 140737488355328) (h : splitR ys = none) :
    Calls Try.prog 19 #[v] w fun e W' => e = .returned (.tuple #[.slice none 0 0, .slice none 0 0, .bool false]) ∧ Below w.heap.size w W' := by
  obtain ⟨A, c, rfl, _⟩ := hs.form
  unfold splitR at h
  split at h
  · rename_i h1
    exact split_short w A _ c h1
  · rename_i h1
    split at h
    · rename_i h2
      exact split_size w A c ys hs hl (by omega) h2
    · rename_i h2
      split at h
      · rename_i h3
        exact (split_sum w A c ys hs hl _ rfl (by omega) (by omega)).mono fun e W' ⟨h4, h5, _⟩ => ⟨h5 h3, h4⟩
      · cases h
/-- split, where something is found. -/
theorem split_some (w : World) (v : Value) (ys : List UInt8) (hs : Bs w v ys) (hl : ys.length ≤ 140737488355328) (a r : List UInt8) (h : splitR ys = some (a, r)) :
    Calls Try.prog 19 #[v] w fun e W' => ∃ v1 v2, e = .returned (.tuple #[v1, v2, .bool true]) ∧ Bs w v1 a ∧ Bs w v2 r ∧ Below w.heap.size w W' := by
  obtain ⟨A, c, rfl, _⟩ := hs.form
  unfold splitR at h
  split at h
  · cases h
  · split at h
    · cases h
    · rename_i h2
      split at h
      · cases h
      · rename_i h3
        injection h with h
        injection h with h4 h5
        subst h4 h5
        exact (split_sum w A c ys hs hl _ rfl (by omega) (by omega)).mono fun e W' ⟨h6, _, h7⟩ => by
          obtain ⟨v1, v2, he, h8, h9⟩ := h7 (by simpa using h3)
          exact ⟨v1, v2, he, h8, h9, h6⟩
end Go.Proofs.Ytbclhjcnopfegaa
