/- slices.Compact at elements of 2 cells each (tools/gencompactE.py). -/
import Derived.Test.YtcclifnhbncfcaaDots
import Derived.Test.YtcclifnhbncfcaaRound
import Derived.Deep.CutRange
namespace Go.Proofs.Ytcclifnhbncfcaa
open Go.RowKit Go.Great

set_option maxRecDepth 100000 in
set_option maxHeartbeats 400000 in
theorem dCompact_small (w : World) (A : Option Addr) (c : Nat) (l : List (Int × Int)) (hl : l.length < 2) :
    Calls Try.prog 45 #[.slice A l.length c] w fun e W' => e = .returned (.slice A l.length c) ∧ W' = w := by
  have h2 : (l.length : Int) < 2 := by omega
  go_enter Try.func45, Try.ntmps45
  go_wp2
  go_ret
  exact ⟨rfl, rfl⟩

set_option maxRecDepth 100000 in
set_option maxHeartbeats 4000000 in
theorem dCompact_some (w : World) (g c : Nat) (l : List (Int × Int)) (h : HoldE eDot w g l) (hg : g < w.heap.size) (hc : l.length ≤ c) (hl : l.length ≤ 1000000) (h2 : 2 ≤ l.length) :
    Calls Try.prog 45 #[.slice (some ⟨g, 0, none⟩) l.length c] w fun e W' => ∃ n, e = .returned (.slice (some ⟨g, 0, none⟩) n c) ∧ n = (compE l l.length).length ∧ HoldE eDot W' g (compE l l.length) ∧ Kept (· = g) w W' := by
  have h2' : ¬ (l.length : Int) < 2 := by omega
  go_enter Try.func45, Try.ntmps45
  go_wp2_with fail
  go_loopw [3] (fun i wr => ∃ k : Nat, 1 ≤ k ∧ k ≤ l.length ∧ i = .int .i64 k ∧ compE l k = l.take k ∧ HoldE eDot wr g l ∧ Kept (· = g) w wr) (fun i _ => l.length - (intOf i).toNat)
  case atStart => exact ⟨1, Nat.le_refl _, by omega, rfl, by cases l with | nil => simp at h2 | cons x l => simp [compE], h, Kept.refl _ _⟩
  case round =>
    obtain ⟨k, hk1, hk, rfl, hcu, hH, hK⟩ := hrel
    obtain ⟨p, rfl⟩ : ∃ p, k = p + 1 := ⟨k - 1, by omega⟩
    obtain ⟨k, hkp⟩ : ∃ k, k = p + 1 := ⟨_, rfl⟩
    rw [← hkp] at hk1 hk hcu ⊢
    by_cases hlt : k < l.length
    case pos =>
      obtain ⟨x, hxk⟩ : ∃ x, l[k]? = some x := ⟨_, List.getElem?_eq_getElem hlt⟩
      obtain ⟨y, hyk⟩ : ∃ y, l[p]? = some y := ⟨_, List.getElem?_eq_getElem (by omega)⟩
      have hS : ElAt eDot wr.drew g (k * 2) x ∧ ElAt eDot wr.drew g (p * 2) y := ⟨hH.drew.lies k x hxk, hH.drew.lies p y hyk⟩
      have hpk : (k : Int) - 1 = (p : Int) := by omega
      have HX := Lib.hid (And.intro hxk hyk)
      have HC := Lib.hid hcu
      have hHd := hH.drew
      have hKd : Kept (· = g) w wr.drew := ⟨hK.os, hK.tape, hK.output, hK.size, hK.block⟩
      have HP := Lib.hid hkp
      have b1 : (k : Int) < (l.length : Int) := by omega
      have b2 : (p : Int) < (l.length : Int) := by omega
      clear hxk hyk hcu hkp
      go_wp2_with fail
      refine wp_held (fun W1 => ElAt eDot W1 g (k * 2) x ∧ ElAt eDot W1 g (p * 2) y) (by kernel_rfl) ?_
      refine wpAnyH_next (i := 0) (v := Value.slice (some ⟨g, 0, none⟩) l.length c) rfl (by kernel_rfl) (by kernel_rfl) (by kernel_rfl) (fun _ _ _ h => h) (by kernel_rfl) (fun W1 hW1 => by go_simp) hS (fun a' ha' => ?_)
      simp only [Act.put, List.getElem_toArray, List.getElem_cons_zero, List.setIfInBounds_toArray, List.set_cons_succ, List.set_cons_zero] at ha'
      subst ha'
      refine wpAnyH_next (i := 1) (v := Value.int .i64 (k : Int)) rfl (by kernel_rfl) (by kernel_rfl) (by kernel_rfl) (fun _ _ _ h => h) (by kernel_rfl) (fun W1 hW1 => by go_simp) hS (fun a' ha' => ?_)
      simp only [Act.put, List.getElem_toArray, List.getElem_cons_succ, List.getElem_cons_zero, List.setIfInBounds_toArray, List.set_cons_succ, List.set_cons_zero] at ha'
      subst ha'
      refine wpAnyH_next (i := 2) (v := Value.pointer (some ⟨g, k * 2, none⟩)) rfl (by kernel_rfl) (by kernel_rfl) (by kernel_rfl) (fun _ _ _ h => h) (by kernel_rfl) (fun W1 hW1 => by go_simp) hS (fun a' ha' => ?_)
      simp only [Act.put, List.getElem_toArray, List.getElem_cons_succ, List.getElem_cons_zero, List.setIfInBounds_toArray, List.set_cons_succ, List.set_cons_zero] at ha'
      subst ha'
      refine wpAnyH_next (i := 3) (v := eDot.val x) rfl (by kernel_rfl) (by kernel_rfl) (by kernel_rfl) (fun _ _ _ h => h) (by kernel_rfl) (fun W1 hW1 => by exact eltDot.load rfl rfl hW1.1) hS (fun a' ha' => ?_)
      simp only [Act.put, List.getElem_toArray, List.getElem_cons_succ, List.getElem_cons_zero, List.setIfInBounds_toArray, List.set_cons_succ, List.set_cons_zero] at ha'
      subst ha'
      refine wpAnyH_next (i := 4) (v := Value.slice (some ⟨g, 0, none⟩) l.length c) rfl (by kernel_rfl) (by kernel_rfl) (by kernel_rfl) (fun _ _ _ h => h) (by kernel_rfl) (fun W1 hW1 => by go_simp) hS (fun a' ha' => ?_)
      simp only [Act.put, List.getElem_toArray, List.getElem_cons_succ, List.getElem_cons_zero, List.setIfInBounds_toArray, List.set_cons_succ, List.set_cons_zero] at ha'
      subst ha'
      refine wpAnyH_next (i := 5) (v := Value.int .i64 (k : Int)) rfl (by kernel_rfl) (by kernel_rfl) (by kernel_rfl) (fun _ _ _ h => h) (by kernel_rfl) (fun W1 hW1 => by go_simp) hS (fun a' ha' => ?_)
      simp only [Act.put, List.getElem_toArray, List.getElem_cons_succ, List.getElem_cons_zero, List.setIfInBounds_toArray, List.set_cons_succ, List.set_cons_zero] at ha'
      subst ha'
      refine wpAnyH_next (i := 6) (v := Value.int .i64 (p : Int)) rfl (by kernel_rfl) (by kernel_rfl) (by kernel_rfl) (fun _ _ _ h => h) (by kernel_rfl) (fun W1 hW1 => by go_simp; exact wrapE _ (by omega) (by omega)) hS (fun a' ha' => ?_)
      simp only [Act.put, List.getElem_toArray, List.getElem_cons_succ, List.getElem_cons_zero, List.setIfInBounds_toArray, List.set_cons_succ, List.set_cons_zero] at ha'
      subst ha'
      refine wpAnyH_next (i := 7) (v := Value.pointer (some ⟨g, p * 2, none⟩)) rfl (by kernel_rfl) (by kernel_rfl) (by kernel_rfl) (fun _ _ _ h => h) (by kernel_rfl) (fun W1 hW1 => by go_simp) hS (fun a' ha' => ?_)
      simp only [Act.put, List.getElem_toArray, List.getElem_cons_succ, List.getElem_cons_zero, List.setIfInBounds_toArray, List.set_cons_succ, List.set_cons_zero] at ha'
      subst ha'
      refine wpAnyH_next (i := 8) (v := eDot.val y) rfl (by kernel_rfl) (by kernel_rfl) (by kernel_rfl) (fun _ _ _ h => h) (by kernel_rfl) (fun W1 hW1 => by exact eltDot.load rfl rfl hW1.2) hS (fun a' ha' => ?_)
      simp only [Act.put, List.getElem_toArray, List.getElem_cons_succ, List.getElem_cons_zero, List.setIfInBounds_toArray, List.set_cons_succ, List.set_cons_zero] at ha'
      subst ha'
      refine wpAnyH_next (i := 9) (v := Value.bool (eqX x y)) rfl (by kernel_rfl) (by kernel_rfl) (by kernel_rfl) (fun _ _ _ h => h) (by kernel_rfl) (fun W1 hW1 => by exact eqX_exec rfl rfl rfl) hS (fun a' ha' => ?_)
      simp only [Act.put, List.getElem_toArray, List.getElem_cons_succ, List.getElem_cons_zero, List.setIfInBounds_toArray, List.set_cons_succ, List.set_cons_zero] at ha'
      subst ha'
      refine wpAnyH_fin (by kernel_rfl) ?_ _
      clear hS hH hK
      generalize wr.drew = wd at *
      by_cases he : x = y
      case neg =>
        have heb : eqX x y = false := eqX_ne he
        rw [heb]
        have HE := Lib.hid (show compE l (k + 1) = l.take (k + 1) by
          have hkp := HP.out
          subst hkp
          rw [compE_other HX.out.1 (by rw [HX.out.1, HX.out.2]; simpa using he), HC.out, List.take_add_one (i := p + 1), HX.out.1]
          rfl)
        clear he heb HC HX
        go_wp2_with fail
        go_roundw
        case rel => exact ⟨k + 1, by omega, by omega, by go_num, HE.out, hHd, hKd⟩
        case measure => simp [intOf]; omega
      case pos =>
        have heb : eqX x y = true := eqX_eq he
        rw [heb]
        have HI := Lib.hid (show CompS l k k l by
          have hkp := HP.out
          have hs := compE_same (l := l) (p := p) (by rw [← hkp, HX.out.1, HX.out.2, he])
          rw [show p + 2 = k + 1 by omega, show p + 1 = k by omega, HC.out] at hs
          exact ⟨rfl, hs.symm, by rw [hs]; simp; omega, by omega, fun _ _ => rfl⟩)
        clear he heb HC HX HP hpk b2
        have hkc : ¬ c = k := by omega
        have hkl : k ≤ l.length := by omega
        go_wp2_with fail
        go_loopw [3, 5] (fun i i2 wr2 => ∃ (kk k2 : Nat) (lc : List (Int × Int)), i = .int .i64 kk ∧ i2 = .int .i64 k2 ∧ 1 ≤ k2 ∧ k + k2 ≤ l.length ∧ CompS l (k + k2 - 1) kk lc ∧ HoldE eDot wr2 g lc ∧ Kept (· = g) w wr2) (fun _ i2 _ => l.length - (intOf i2).toNat)
        case atStart => exact ⟨k, 1, l, rfl, rfl, Nat.le_refl _, by omega, HI.out, hHd, hKd⟩
        case round =>
          clear HI hHd hKd
          obtain ⟨kk, k2, lc, rfl, rfl, h21, hk2, hI, hHd, hKd⟩ := hrel
          have hkkl := hI.lt
          have hlen := hI.len
          by_cases hlt2 : k + k2 < l.length
          case pos =>
            obtain ⟨q, rfl⟩ : ∃ q, k2 = q + 1 := ⟨k2 - 1, by omega⟩
            obtain ⟨k2, hkq⟩ : ∃ k2, k2 = q + 1 := ⟨_, rfl⟩
            rw [← hkq] at h21 hk2 hI hkkl hlt2 ⊢
            rw [show k + k2 - 1 = k + q by omega] at hI hkkl
            obtain ⟨u, huk⟩ : ∃ u, l[k + k2]? = some u := ⟨_, List.getElem?_eq_getElem hlt2⟩
            obtain ⟨z, hzk⟩ : ∃ z, l[k + q]? = some z := ⟨_, List.getElem?_eq_getElem (by omega)⟩
            have huc : lc[k + k2]? = some u := by rw [hI.high _ (by omega)]; exact huk
            have hzc : lc[k + q]? = some z := by rw [hI.high _ (by omega)]; exact hzk
            have hS : ElAt eDot wr.drew g (k * 2 + k2 * 2) u ∧ ElAt eDot wr.drew g (k * 2 + q * 2) z := by
              rw [← Nat.add_mul, ← Nat.add_mul]
              exact ⟨hHd.drew.lies _ u huc, hHd.drew.lies _ z hzc⟩
            have hHe := hHd.drew
            have hKe : Kept (· = g) w wr.drew := ⟨hKd.os, hKd.tape, hKd.output, hKd.size, hKd.block⟩
            have hqk : (k2 : Int) - 1 = (q : Int) := by omega
            have HX := Lib.hid (And.intro huk (And.intro hzk huc))
            have HI := Lib.hid hI
            have HQ := Lib.hid hkq
            have b3 : (k2 : Int) < ((l.length - k : Nat) : Int) := by omega
            have b4 : (q : Int) < ((l.length - k : Nat) : Int) := by omega
            clear huk hzk huc hzc hI hHd hKd hkq
            go_wp2_with fail
            refine wp_held (fun W1 => ElAt eDot W1 g (k * 2 + k2 * 2) u ∧ ElAt eDot W1 g (k * 2 + q * 2) z) (by kernel_rfl) ?_
            refine wpAnyH_next (i := 0) (v := Value.slice (some ⟨g, k * 2, none⟩) (l.length - k) (c - k)) rfl (by kernel_rfl) (by kernel_rfl) (by kernel_rfl) (fun _ _ _ h => h) (by kernel_rfl) (fun W1 hW1 => by go_simp) hS (fun a' ha' => ?_)
            simp only [Act.put, List.getElem_toArray, List.getElem_cons_zero, List.setIfInBounds_toArray, List.set_cons_succ, List.set_cons_zero] at ha'
            subst ha'
            refine wpAnyH_next (i := 1) (v := Value.int .i64 (k2 : Int)) rfl (by kernel_rfl) (by kernel_rfl) (by kernel_rfl) (fun _ _ _ h => h) (by kernel_rfl) (fun W1 hW1 => by go_simp) hS (fun a' ha' => ?_)
            simp only [Act.put, List.getElem_toArray, List.getElem_cons_succ, List.getElem_cons_zero, List.setIfInBounds_toArray, List.set_cons_succ, List.set_cons_zero] at ha'
            subst ha'
            refine wpAnyH_next (i := 2) (v := Value.pointer (some ⟨g, k * 2 + k2 * 2, none⟩)) rfl (by kernel_rfl) (by kernel_rfl) (by kernel_rfl) (fun _ _ _ h => h) (by kernel_rfl) (fun W1 hW1 => by go_simp) hS (fun a' ha' => ?_)
            simp only [Act.put, List.getElem_toArray, List.getElem_cons_succ, List.getElem_cons_zero, List.setIfInBounds_toArray, List.set_cons_succ, List.set_cons_zero] at ha'
            subst ha'
            refine wpAnyH_next (i := 3) (v := eDot.val u) rfl (by kernel_rfl) (by kernel_rfl) (by kernel_rfl) (fun _ _ _ h => h) (by kernel_rfl) (fun W1 hW1 => by exact eltDot.load rfl rfl hW1.1) hS (fun a' ha' => ?_)
            simp only [Act.put, List.getElem_toArray, List.getElem_cons_succ, List.getElem_cons_zero, List.setIfInBounds_toArray, List.set_cons_succ, List.set_cons_zero] at ha'
            subst ha'
            refine wpAnyH_next (i := 4) (v := Value.slice (some ⟨g, k * 2, none⟩) (l.length - k) (c - k)) rfl (by kernel_rfl) (by kernel_rfl) (by kernel_rfl) (fun _ _ _ h => h) (by kernel_rfl) (fun W1 hW1 => by go_simp) hS (fun a' ha' => ?_)
            simp only [Act.put, List.getElem_toArray, List.getElem_cons_succ, List.getElem_cons_zero, List.setIfInBounds_toArray, List.set_cons_succ, List.set_cons_zero] at ha'
            subst ha'
            refine wpAnyH_next (i := 5) (v := Value.int .i64 (k2 : Int)) rfl (by kernel_rfl) (by kernel_rfl) (by kernel_rfl) (fun _ _ _ h => h) (by kernel_rfl) (fun W1 hW1 => by go_simp) hS (fun a' ha' => ?_)
            simp only [Act.put, List.getElem_toArray, List.getElem_cons_succ, List.getElem_cons_zero, List.setIfInBounds_toArray, List.set_cons_succ, List.set_cons_zero] at ha'
            subst ha'
            refine wpAnyH_next (i := 6) (v := Value.int .i64 (q : Int)) rfl (by kernel_rfl) (by kernel_rfl) (by kernel_rfl) (fun _ _ _ h => h) (by kernel_rfl) (fun W1 hW1 => by go_simp; exact wrapE _ (by omega) (by omega)) hS (fun a' ha' => ?_)
            simp only [Act.put, List.getElem_toArray, List.getElem_cons_succ, List.getElem_cons_zero, List.setIfInBounds_toArray, List.set_cons_succ, List.set_cons_zero] at ha'
            subst ha'
            refine wpAnyH_next (i := 7) (v := Value.pointer (some ⟨g, k * 2 + q * 2, none⟩)) rfl (by kernel_rfl) (by kernel_rfl) (by kernel_rfl) (fun _ _ _ h => h) (by kernel_rfl) (fun W1 hW1 => by go_simp) hS (fun a' ha' => ?_)
            simp only [Act.put, List.getElem_toArray, List.getElem_cons_succ, List.getElem_cons_zero, List.setIfInBounds_toArray, List.set_cons_succ, List.set_cons_zero] at ha'
            subst ha'
            refine wpAnyH_next (i := 8) (v := eDot.val z) rfl (by kernel_rfl) (by kernel_rfl) (by kernel_rfl) (fun _ _ _ h => h) (by kernel_rfl) (fun W1 hW1 => by exact eltDot.load rfl rfl hW1.2) hS (fun a' ha' => ?_)
            simp only [Act.put, List.getElem_toArray, List.getElem_cons_succ, List.getElem_cons_zero, List.setIfInBounds_toArray, List.set_cons_succ, List.set_cons_zero] at ha'
            subst ha'
            refine wpAnyH_next (i := 9) (v := Value.bool (!(eqX u z))) rfl (by kernel_rfl) (by kernel_rfl) (by kernel_rfl) (fun _ _ _ h => h) (by kernel_rfl) (fun W1 hW1 => by exact eqX_execN rfl rfl rfl) hS (fun a' ha' => ?_)
            simp only [Act.put, List.getElem_toArray, List.getElem_cons_succ, List.getElem_cons_zero, List.setIfInBounds_toArray, List.set_cons_succ, List.set_cons_zero] at ha'
            subst ha'
            refine wpAnyH_fin (by kernel_rfl) ?_ _
            generalize wr.drew = we at *
            by_cases he : u = z
            case pos =>
              have heb : eqX u z = true := eqX_eq he
              rw [heb]
              have HE := Lib.hid (show CompS l (k + (k2 + 1) - 1) kk lc by
                have h1 := HI.out.eq (by rw [show k + q + 1 = k + k2 by have := HQ.out; omega, HX.out.1, HX.out.2.1, he])
                rwa [show k + q + 1 = k + (k2 + 1) - 1 by have := HQ.out; omega] at h1)
              clear he heb HI HX hS
              go_wp2_with fail
              go_roundw
              case rel => exact ⟨kk, k2 + 1, lc, rfl, by go_num, by omega, by omega, HE.out, hHe, hKe⟩
              case measure => simp [intOf]; omega
            case neg =>
              have heb : eqX u z = false := eqX_ne he
              rw [heb]
              have HE := Lib.hid (show CompS l (k + (k2 + 1) - 1) (kk + 1) (lc.set kk u) by
                have hq := HQ.out
                have h1 := HI.out.ne (x := u) (by rw [show k + q + 1 = k + k2 by omega]; exact HX.out.1) (by rw [show k + q + 1 = k + k2 by omega, HX.out.1, HX.out.2.1]; simpa using he)
                rwa [show k + q + 1 = k + (k2 + 1) - 1 by omega] at h1)
              have hset := hHe.set (k := kk) (by omega) u
              have HS := Lib.hid hset
              have hKs := hKe.setCellsE (g := g) rfl (eDot.enc u) (kk * 2)
              have hu' := hS.1
              have b5 : (kk : Int) < (l.length : Int) := by omega
              clear he heb HI HX hS hset
              go_wp2_with (first
                | (refine eltDot.wpLoad rfl (.tmp 49) rfl rfl hu' ?_)
                | (refine eltDot.wpStore rfl (.tmp 51) (.tmp 50) rfl hHe (k := kk) (by omega) rfl rfl rfl ?_))
              go_roundw
              case rel => exact ⟨kk + 1, k2 + 1, lc.set kk u, by go_num, by go_num, by omega, by omega, HE.out, HS.out, hKs⟩
              case measure => simp [intOf]; omega
          case neg =>
            have hke : k + k2 = l.length := by omega
            have hkk : kk < l.length := by omega
            have hth : wr.there g (kk * 2) ((l.length - kk) * 2) := fun j hj => by
              have h1 := hHd.there (kk * 2 + j) (by rw [hlen]; show kk * 2 + j < l.length * 2; omega)
              rw [Nat.zero_add] at h1
              exact h1
            obtain ⟨zs, hcl⟩ := run_clear_es eltDot wr 0 g (kk * 2) (l.length - kk) (c - kk) (by omega) hth
            have hre := hHd.clearedH (k := kk) (m := kk * 2) (by omega) zs rfl
            rw [hI.front, show k + k2 - 1 + 1 = l.length by omega] at hre
            have HR := Lib.hid hre
            have hKs := hKd.setCellsE (g := g) rfl zs (kk * 2)
            have HI := Lib.hid hI
            have hkc2 : ¬ c = kk := by omega
            have b6 : (kk : Int) ≤ (l.length : Int) := by omega
            have b7 : ¬ (k2 : Int) < ((l.length - k : Nat) : Int) := by omega
            clear hre hI hHd hKd
            clear hth
            go_wp2
            go_ret
            exact ⟨_, rfl, (by have hz := HI.out.size; rwa [show k + k2 - 1 + 1 = l.length by omega] at hz), HR.out, hKs⟩
    case neg =>
      obtain hkl : k = l.length := by omega
      have HI := Lib.hid hH
      have HE := Lib.hid (show compE l l.length = l by rw [← hkl, hcu, hkl, List.take_length])
      clear hH hcu hkp
      subst hkl
      go_wp2
      go_ret
      exact ⟨_, rfl, by rw [HE.out], by rw [HE.out]; exact HI.out, hK⟩
end Go.Proofs.Ytcclifnhbncfcaa
