/- The reference's Source: Number. -/
import Derived.Test.YtbkbogblbniogaaLebRefSrc
import Derived.Test.YtbkbogblbniogaaRound
namespace Go.Proofs.Ytbkbogblbniogaa
open Go.RowKit

theorem vl_drop {xs : List UInt8} {k q : Nat} {y : UInt8} (hq : q < k) (hy : xs[q]? = some y) : vl ((xs.take k).drop q) = y.toNat % 128 + 128 * vl ((xs.take k).drop (q + 1)) := by
  have hl := (List.getElem?_eq_some_iff.1 hy).1
  have h1 : q < (xs.take k).length := by simp; omega
  rw [List.drop_eq_getElem_cons h1]
  have h2 : (xs.take k)[q] = y := by
    rw [List.getElem_take]
    rw [List.getElem?_eq_getElem hl] at hy
    exact Option.some.inj hy
  rw [h2]
  rfl

set_option maxHeartbeats 400000 in
theorem refNumber_low (w : World) (g : Nat) (v : Value) (xs : List UInt8) (hat : RefAt w g v xs) (hlen : xs.length ≤ 140737488355328) (most : Int) (h1 : wh xs = 0) :
    Calls Try.prog 53 #[.pointer (some ⟨g, 0, none⟩), .int .u64 most] w fun e W' => e = .returned (.tuple #[.int .u64 0, .int .i64 (if xs.length < 10 then 10 else 11)]) ∧ w = W' := by
  obtain ⟨A, c, rfl, hc⟩ := hat.bytes.form
  have hcc := hat.box.cell
  by_cases h2 : xs.length < 10
  · have hd : decide ((xs.length : Int) < 10) = true := by simp; omega
    rw [if_pos h2]
    go_enter Try.func53, Try.ntmps53
    go_wp2_with fail
    refine (where_any w _ xs hat.bytes hlen).mono ?_
    rintro e w' ⟨rfl, rfl⟩
    rw [h1]
    clear h1
    go_wp2
    go_ret2
    exact ⟨rfl, rfl⟩
  · have hd : decide ((xs.length : Int) < 10) = false := by simp; omega
    rw [if_neg h2]
    go_enter Try.func53, Try.ntmps53
    go_wp2_with fail
    refine (where_any w _ xs hat.bytes hlen).mono ?_
    rintro e w' ⟨rfl, rfl⟩
    rw [h1]
    clear h1
    go_wp2
    go_ret2
    exact ⟨rfl, rfl⟩

set_option maxHeartbeats 400000 in
theorem refNumber_high (w : World) (g : Nat) (v : Value) (xs : List UInt8) (hat : RefAt w g v xs) (hlen : xs.length ≤ 140737488355328) (most : Int) (h1 : 10 < wh xs) :
    Calls Try.prog 53 #[.pointer (some ⟨g, 0, none⟩), .int .u64 most] w fun e W' => e = .returned (.tuple #[.int .u64 0, .int .i64 11]) ∧ w = W' := by
  obtain ⟨A, c, rfl, hc⟩ := hat.bytes.form
  have hcc := hat.box.cell
  have hd : ((wh xs : Int) == 0) = false := by rw [beq_eq_false_iff_ne]; omega
  have hd2 : decide (10 < (wh xs : Int)) = true := by simp; omega
  go_enter Try.func53, Try.ntmps53
  go_wp2_with fail
  refine (where_any w _ xs hat.bytes hlen).mono ?_
  rintro e w' ⟨rfl, rfl⟩
  go_wp2
  go_ret2
  exact ⟨rfl, rfl⟩

set_option maxRecDepth 100000 in
set_option maxHeartbeats 1000000 in
theorem refNumber_mid (w : World) (g : Nat) (v : Value) (xs : List UInt8) (hat : RefAt w g v xs) (hlen : xs.length ≤ 140737488355328) (most : Nat) (h1 : 0 < wh xs) (h2 : wh xs ≤ 10) (N : Nat) (hN : vl (xs.take (wh xs)) % 18446744073709551616 = N) (r : Int × Nat × List UInt8)
    (hr : (lebB N ≠ xs.take (wh xs) ∧ r = (11, 0, xs)) ∨ (lebB N = xs.take (wh xs) ∧ most < N ∧ r = (12, 0, xs)) ∨ (lebB N = xs.take (wh xs) ∧ ¬ most < N ∧ r = (0, N, xs.drop (wh xs)))) :
    Calls Try.prog 53 #[.pointer (some ⟨g, 0, none⟩), .int .u64 most] w (RefNumOut w g v r) := by
  obtain ⟨A, c, rfl, hc⟩ := hat.bytes.form
  have hcc := hat.box.cell
  have hwl := wh_le xs
  obtain ⟨b, off, rfl, hcell⟩ := hat.bytes.at1 (by omega)
  have HC := Lib.hid hcell
  clear hcell
  have hd : ((wh xs : Int) == 0) = false := by rw [beq_eq_false_iff_ne]; omega
  have hd2 : decide (10 < (wh xs : Int)) = false := by simp; omega
  have hNl : N < 18446744073709551616 := by omega
  have HN := Lib.hid hN
  have HR := Lib.hid hr
  clear hN hr
  go_enter Try.func53, Try.ntmps53
  go_wp2_with fail
  refine (where_any w _ xs hat.bytes hlen).mono ?_
  rintro e w' ⟨rfl, rfl⟩
  go_wp2
  go_loop [7, 8] (fun n i => ∃ (q : Nat) (i' : Int), q ≤ wh xs ∧ i' + 1 = (q : Int) ∧ i = .int .i64 i' ∧ n = .int .u64 ((vl ((xs.take (wh xs)).drop q) % 18446744073709551616 : Nat) : Int)) (fun _ i => (intOf i + 1).toNat)
  case atStart => exact ⟨wh xs, _, Nat.le_refl _, by omega, rfl, by rw [List.drop_eq_nil_of_le (by simp; omega)]; rfl⟩
  case round =>
    obtain ⟨q, i', hq, hi, rfl, rfl⟩ := hrel
    cases q with
    | succ q =>
      obtain rfl : i' = (q : Int) := by omega
      obtain ⟨y, hy⟩ : ∃ y, xs[q]? = some y := ⟨xs[q], List.getElem?_eq_getElem (by omega)⟩
      have hvl := vl_drop (k := wh xs) (by omega) hy
      have cq := HC.out q y hy
      have HV := Lib.hid hvl
      have hm : vl ((xs.take (wh xs)).drop (q + 1)) % 18446744073709551616 < 18446744073709551616 := Nat.mod_lt _ (by decide)
      generalize hV : vl ((xs.take (wh xs)).drop (q + 1)) % 18446744073709551616 = V at *
      have HVV := Lib.hid hV
      clear hvl hy hi hV
      go_wp2
      go_round
      case rel =>
        refine ⟨q, _, by omega, ?_, rfl, ?_⟩
        · go_num
        · rw [HV.out]
          have h3 := HVV.out
          generalize vl ((xs.take (wh xs)).drop (q + 1)) = Z at h3 ⊢
          rw [IntKind.wrap_u64, IntKind.wrap_u64]
          congr 1
          omega
      case measure => simp [intOf]
    | zero =>
      obtain rfl : i' = -1 := by omega
      rw [List.drop_zero, HN.out]
      clear hi hq
      go_wp2_with fail
      have hS : w.drew.cell? ⟨g, 0, none⟩ = some (.slice (some ⟨b, off, none⟩) xs.length c) ∧ Bs w.drew (.slice (some ⟨b, off, none⟩) xs.length c) xs := ⟨hcc, hat.bytes.below (Below.refl _ _).drew⟩
      have hwc : wh xs ≤ c := by omega
      have hcv : ∀ W1, (World.cell? W1 ⟨g, 0, none⟩ = some (.slice (some ⟨b, off, none⟩) xs.length c) ∧ Bs W1 (.slice (some ⟨b, off, none⟩) xs.length c) xs) → (convert 45 9 (.slice (some ⟨b, off, none⟩) (wh xs) c)).run Try.prog W1 = .ok (Str (xs.take (wh xs))) W1 ∧ W1.cell? ⟨g, 0, none⟩ = some (.slice (some ⟨b, off, none⟩) xs.length c) := fun W1 hW1 =>
        ⟨run_string_bs W1 45 9 5 Try.underlying45 Try.underlying5 Try.underlying9 (hW1.2.take hwl), hW1.1⟩
      have HCV := Lib.hid hcv
      clear hcv
      refine wp_held (fun W1 => World.cell? W1 ⟨g, 0, none⟩ = some (.slice (some ⟨b, off, none⟩) xs.length c) ∧ Bs W1 (.slice (some ⟨b, off, none⟩) xs.length c) xs) (by kernel_rfl) ?_
      refine wpAnyH_next (i := 0) (v := .int .u64 (N : Int)) rfl (by kernel_rfl) (by kernel_rfl) (by kernel_rfl) (fun _ _ _ h => h) (by kernel_rfl) (fun W1 hW1 => by go_simp) hS (fun a' ha' => ?_)
      simp only [Act.put, List.getElem_toArray, List.getElem_cons_zero, List.setIfInBounds_toArray, List.set_cons_succ, List.set_cons_zero] at ha'
      subst ha'
      refine wpAnyH_next (i := 3) (v := .pointer (some ⟨g, 0, none⟩)) rfl (by kernel_rfl) (by kernel_rfl) (by kernel_rfl) (fun _ _ _ h => h) (by kernel_rfl) (fun W1 hW1 => by go_simp) hS (fun a' ha' => ?_)
      simp only [Act.put, List.getElem_toArray, List.getElem_cons_succ, List.getElem_cons_zero, List.setIfInBounds_toArray, List.set_cons_succ, List.set_cons_zero] at ha'
      subst ha'
      refine wpAnyH_next (i := 4) (v := .pointer (some ⟨g, 0, none⟩)) rfl (by kernel_rfl) (by kernel_rfl) (by kernel_rfl) (fun _ _ _ h => h) (by kernel_rfl) (fun W1 hW1 => by go_simp) hS (fun a' ha' => ?_)
      simp only [Act.put, List.getElem_toArray, List.getElem_cons_succ, List.getElem_cons_zero, List.setIfInBounds_toArray, List.set_cons_succ, List.set_cons_zero] at ha'
      subst ha'
      refine wpAnyH_next (i := 5) (v := .pointer (some ⟨g, 0, none⟩)) rfl (by kernel_rfl) (by kernel_rfl) (by kernel_rfl) (fun _ _ _ h => h) (by kernel_rfl) (fun W1 hW1 => by go_simp) hS (fun a' ha' => ?_)
      simp only [Act.put, List.getElem_toArray, List.getElem_cons_succ, List.getElem_cons_zero, List.setIfInBounds_toArray, List.set_cons_succ, List.set_cons_zero] at ha'
      subst ha'
      refine wpAnyH_next (i := 6) (v := .slice (some ⟨b, off, none⟩) xs.length c) rfl (by kernel_rfl) (by kernel_rfl) (by kernel_rfl) (fun _ _ _ h => h) (by kernel_rfl) (fun W1 hW1 => by obtain ⟨h1, h2⟩ := HCV.out W1 hW1; go_simp) hS (fun a' ha' => ?_)
      simp only [Act.put, List.getElem_toArray, List.getElem_cons_succ, List.getElem_cons_zero, List.setIfInBounds_toArray, List.set_cons_succ, List.set_cons_zero] at ha'
      subst ha'
      refine wpAnyH_next (i := 7) (v := .int .i64 (wh xs : Int)) rfl (by kernel_rfl) (by kernel_rfl) (by kernel_rfl) (fun _ _ _ h => h) (by kernel_rfl) (fun W1 hW1 => by go_simp) hS (fun a' ha' => ?_)
      simp only [Act.put, List.getElem_toArray, List.getElem_cons_succ, List.getElem_cons_zero, List.setIfInBounds_toArray, List.set_cons_succ, List.set_cons_zero] at ha'
      subst ha'
      refine wpAnyH_next (i := 8) (v := .slice (some ⟨b, off, none⟩) (wh xs) c) rfl (by kernel_rfl) (by kernel_rfl) (by kernel_rfl) (fun _ _ _ h => h) (by kernel_rfl) (fun W1 hW1 => by go_simp) hS (fun a' ha' => ?_)
      simp only [Act.put, List.getElem_toArray, List.getElem_cons_succ, List.getElem_cons_zero, List.setIfInBounds_toArray, List.set_cons_succ, List.set_cons_zero] at ha'
      subst ha'
      refine wpAnyH_next (i := 9) (v := Str (xs.take (wh xs))) rfl (by kernel_rfl) (by kernel_rfl) (by kernel_rfl) (fun _ _ _ h => h) (by kernel_rfl) (fun W1 hW1 => by obtain ⟨h1, h2⟩ := HCV.out W1 hW1; go_simp) hS (fun a' ha' => ?_)
      simp only [Act.put, List.getElem_toArray, List.getElem_cons_succ, List.getElem_cons_zero, List.setIfInBounds_toArray, List.set_cons_succ, List.set_cons_zero] at ha'
      subst ha'
      refine wpAnyH_want (i := 1) (by kernel_rfl) rfl (by kernel_rfl) (fun K hK => ?_)
      unfold Oper.wp
      go_simp
      refine (rNumber_any N hNl _).mono ?_
      rintro e w8 ⟨r8, rfl, hrow8, hb8⟩
      have hb8' : Below w.heap.size w w8 := (Below.refl _ _).drew.trans hb8
      have hat8 := hat.below hb8'
      replace hS : w8.cell? ⟨g, 0, none⟩ = some (.slice (some ⟨b, off, none⟩) xs.length c) ∧ Bs w8 (.slice (some ⟨b, off, none⟩) xs.length c) xs := ⟨hat8.box.cell, hat8.bytes⟩
      have hcv1 := run_string_bs (P := Try.prog) w8 45 9 5 Try.underlying45 Try.underlying5 Try.underlying9 (Bs.of_owns hrow8)
      obtain ⟨A8, c8, rfl, hc8⟩ := (Bs.of_owns hrow8).form
      refine hK _ _ hS ?_
      clear hK K hrow8 hb8
      refine wpAnyH_want (i := 2) (by kernel_rfl) rfl (by kernel_rfl) (fun K hK => ?_)
      unfold Oper.wp
      go_simp
      refine hK _ _ hS ?_
      clear hK K hcv1 HCV
      have hcc8 := hat8.box.cell
      have hf8 := hat8.box.frozen
      rcases HR.out with ⟨hne, rfl⟩ | ⟨heq, hlt, rfl⟩ | ⟨heq, hlt, rfl⟩
      · have hbe : (lebB N == xs.take (wh xs)) = false := by rw [beq_eq_false_iff_ne]; exact hne
        clear hne
        refine wpAnyH_next (i := 10) (v := .bool true) rfl (by kernel_rfl) (by kernel_rfl) (by kernel_rfl) (fun _ _ _ h => h) (by kernel_rfl) (fun W1 hW1 => by go_simp) hS (fun a' ha' => ?_)
        simp only [Act.put, List.getElem_toArray, List.getElem_cons_succ, List.getElem_cons_zero, List.setIfInBounds_toArray, List.set_cons_succ, List.set_cons_zero] at ha'
        subst ha'
        refine wpAnyH_fin (by kernel_rfl) ?_ _
        clear hS
        go_wp2
        go_ret2
        exact ⟨rfl, RefRead.of_below hat hb8'⟩
      · rw [heq]
        refine wpAnyH_next (i := 10) (v := .bool false) rfl (by kernel_rfl) (by kernel_rfl) (by kernel_rfl) (fun _ _ _ h => h) (by kernel_rfl) (fun W1 hW1 => by go_simp) hS (fun a' ha' => ?_)
        simp only [Act.put, List.getElem_toArray, List.getElem_cons_succ, List.getElem_cons_zero, List.setIfInBounds_toArray, List.set_cons_succ, List.set_cons_zero] at ha'
        subst ha'
        refine wpAnyH_fin (by kernel_rfl) ?_ _
        have hd3 : decide ((most : Int) < (N : Int)) = true := by simp; omega
        clear hS heq
        go_wp2
        go_ret2
        exact ⟨rfl, RefRead.of_below hat hb8'⟩
      · rw [heq]
        refine wpAnyH_next (i := 10) (v := .bool false) rfl (by kernel_rfl) (by kernel_rfl) (by kernel_rfl) (fun _ _ _ h => h) (by kernel_rfl) (fun W1 hW1 => by go_simp) hS (fun a' ha' => ?_)
        simp only [Act.put, List.getElem_toArray, List.getElem_cons_succ, List.getElem_cons_zero, List.setIfInBounds_toArray, List.set_cons_succ, List.set_cons_zero] at ha'
        subst ha'
        refine wpAnyH_fin (by kernel_rfl) ?_ _
        have hd3 : decide ((most : Int) < (N : Int)) = false := by simp; omega
        clear hS heq hcc
        by_cases hcn : c = wh xs
        · have hdr : Bs w8 (.slice (some ⟨b, off, none⟩) 0 0) (xs.drop (wh xs)) := by
            have h := hat8.bytes.drop hwl
            rw [if_pos hcn, show xs.length - wh xs = 0 by omega, show c - wh xs = 0 by omega] at h
            exact h
          have HD := Lib.hid hdr
          have hlx : xs.length = wh xs := by omega
          clear hdr
          go_wp2
          go_ret2
          exact ⟨rfl, RefRead.cut (Kept.of_below hb8' (Nat.le_refl _) _) hat8 HD.out rfl rfl⟩
        · have hdr : Bs w8 (.slice (some ⟨b, off + wh xs, none⟩) (xs.length - wh xs) (c - wh xs)) (xs.drop (wh xs)) := by
            have h := hat8.bytes.drop hwl
            rw [if_neg hcn] at h
            simpa [add_plain] using h
          have HD := Lib.hid hdr
          clear hdr
          go_wp2
          go_ret2
          exact ⟨rfl, RefRead.cut (Kept.of_below hb8' (Nat.le_refl _) _) hat8 HD.out rfl rfl⟩

/-- Number: the same as the program's. -/
theorem refNumber_any (w : World) (g : Nat) (v : Value) (xs : List UInt8) (hat : RefAt w g v xs) (hlen : xs.length ≤ 140737488355328) (most : Nat) :
    Calls Try.prog 53 #[.pointer (some ⟨g, 0, none⟩), .int .u64 most] w (RefNumOut w g v (back xs (numRes most xs))) := by
  rw [← refNum_eq]
  unfold refNum
  by_cases h0 : wh xs = 0
  · have h := refNumber_low w g v xs hat hlen most h0
    by_cases h10 : xs.length < 10
    · rw [if_pos h10] at h
      rw [if_pos ⟨h0, h10⟩]
      exact h.mono fun e W' ⟨he, hw⟩ => ⟨he, hw ▸ RefRead.refl hat⟩
    · rw [if_neg h10] at h
      rw [if_neg (fun hh => h10 hh.2), if_pos (.inl h0)]
      exact h.mono fun e W' ⟨he, hw⟩ => ⟨he, hw ▸ RefRead.refl hat⟩
  · rw [if_neg (fun hh => h0 hh.1)]
    by_cases h1 : 10 < wh xs
    · rw [if_pos (.inr h1)]
      exact (refNumber_high w g v xs hat hlen most h1).mono fun e W' ⟨he, hw⟩ => ⟨he, hw ▸ RefRead.refl hat⟩
    · rw [if_neg (by omega)]
      refine refNumber_mid w g v xs hat hlen most (by omega) (by omega) _ rfl _ ?_
      by_cases h2 : lebB (vl (xs.take (wh xs)) % 18446744073709551616) = xs.take (wh xs)
      · rw [if_neg (fun h => h h2)]
        by_cases h3 : most < vl (xs.take (wh xs)) % 18446744073709551616
        · exact .inr (.inl ⟨h2, h3, if_pos h3⟩)
        · exact .inr (.inr ⟨h2, h3, if_neg h3⟩)
      · exact .inl ⟨h2, if_pos h2⟩

theorem RefRead.restored {w w1 : World} {g : Nat} {v u : Value} {xs rest : List UInt8} (hat : RefAt w g v xs) (hat1 : RefAt w1 g u rest) (hk : Kept (fun j => j = g) w w1) : RefRead w g v xs (w1.setCell ⟨g, 0, none⟩ v) := by
  have k2 : Kept (fun j => j = g) w (w1.setCell ⟨g, 0, none⟩ v) := hk.setCell (p := ⟨g, 0, none⟩) (fun _ => rfl) v
  exact ⟨v, ⟨hat1.box.set v, k2.bs hat.bytes (fun j hj => (hat.row j hj).2), fun j hj => ⟨Nat.lt_of_lt_of_le (hat.row j hj).1 k2.size, (hat.row j hj).2⟩⟩, k2, rfl⟩

end Go.Proofs.Ytbkbogblbniogaa
