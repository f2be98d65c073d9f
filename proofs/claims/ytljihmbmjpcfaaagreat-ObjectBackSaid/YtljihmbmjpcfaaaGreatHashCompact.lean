/- slices.Compact at ids. -/
import Derived.Test.YtljihmbmjpcfaaaGreatHashClone
import Derived.Deep.CutRange
namespace Go.Proofs.YtljihmbmjpcfaaaGreat
open Go.RowKit Go.Great
set_option maxRecDepth 100000

theorem compUp_same {l : List (List UInt8)} {p : Nat} (h : l[p + 1]? = l[p]?) : compUp l (p + 2) = compUp l (p + 1) := by
  rw [compUp, if_pos ⟨Nat.succ_pos p, h⟩]
theorem compUp_other {l : List (List UInt8)} {p : Nat} {x : List UInt8} (hx : l[p + 1]? = some x) (h : l[p + 1]? ≠ l[p]?) : compUp l (p + 2) = compUp l (p + 1) ++ [x] := by
  rw [compUp, if_neg (fun e => h e.2), hx]
  rfl
/-- All along the inner loop: what is kept of the first j stands in front; from j - 1 on nothing is turned. -/
structure CompI (l : List (List UInt8)) (q kk : Nat) (lc : List (List UInt8)) : Prop where
  len : lc.length = l.length
  front : lc.take kk = compUp l (q + 1)
  size : kk = (compUp l (q + 1)).length
  lt : kk < q + 1
  high : ∀ i, q ≤ i → lc[i]? = l[i]?
theorem CompI.eq {l lc : List (List UInt8)} {q kk : Nat} (h : CompI l q kk lc) (he : l[q + 1]? = l[q]?) : CompI l (q + 1) kk lc :=
  ⟨h.len, by rw [compUp_same he]; exact h.front, by rw [compUp_same he]; exact h.size, by have := h.lt; omega, fun i hi => h.high i (by omega)⟩
theorem CompI.ne {l lc : List (List UInt8)} {q kk : Nat} (h : CompI l q kk lc) {x : List UInt8} (hx : l[q + 1]? = some x) (he : l[q + 1]? ≠ l[q]?) : CompI l (q + 1) (kk + 1) (lc.set kk x) := by
  have hq : q + 1 < l.length := (List.getElem?_eq_some_iff.1 hx).1
  have h1 := h.lt
  have h2 := h.len
  refine ⟨by rw [List.length_set]; exact h.len, ?_, ?_, by omega, fun i hi => ?_⟩
  · rw [compUp_other hx he, ← h.front, List.take_add_one, List.take_set_of_le (Nat.le_refl _), List.getElem?_set_self (by omega)]
    rfl
  · rw [compUp_other hx he, List.length_append, ← h.size]
    rfl
  · rw [List.getElem?_set_ne (by omega)]
    exact h.high i (by omega)

theorem zeroCells_id (n : Nat) : (Builtin.zeroCells (Value.agg (Array.replicate 32 (.int .u8 0))).cells n).toList = List.replicate (n * 32) (.int .u8 0) := by
  simp only [Builtin.zeroCells, Value.cells]
  apply List.ext_getElem
  · simp
  · intro i h1 h2
    simp only [Array.getElem_toList, Array.getElem_map, Array.getElem_range, List.getElem_replicate]
    rw [getElem!_pos _ _ (by simp; omega)]
    simp
theorem run_clear_ids (w : World) (ty : TypeId) (b o n c : Nat) (hn : 0 < n) (ht : w.there b o (n * 32)) :
    (Builtin.clear_ #[26] ty #[.slice (some ⟨b, o, none⟩) n c]).run Tryz.prog w = .ok (.tuple #[]) (w.setCells b o (List.replicate (n * 32) (.int .u8 0))) := by
  obtain ⟨i0, hi, hz0, hz1, hz2⟩ := info_parts infoID3
  have hv : ∀ w, (zeroValue 25).run Tryz.prog w = .ok (.agg (Array.replicate 32 (.int .u8 0))) w := fun w => by simp [zeroValue, typeInfo, hi, hz0]
  have hst := run_storeCells_cells (P := Tryz.prog) b o (List.replicate (n * 32) (.int .u8 0)) 0 w (fun j hj => (ht j (by simpa using hj)).1) (fun j hj => (ht j (by simpa using hj)).2) (by intro v hv'; rw [List.eq_of_mem_replicate hv']; rfl)
  simp only [Nat.add_zero] at hst
  obtain ⟨m, rfl⟩ : ∃ m, n = m + 1 := ⟨n - 1, by omega⟩
  simp [Builtin.clear_, run_underlying Tryz.underlying26, hv, zeroCells_id, hst]
theorem wpList_store_hold {ops : Array Oper} {rest : List Oper} {o : Oper} {a : Act} {w : World} {Q : Exit → Act → World → Prop} (hg : o.guard = none) (x y : Operand) (ho : o.op = .store 25 x y) {g k : Nat} {l : List (List UInt8)} (hold : HoldI w g l) (hk : k < l.length) (hx : a.eval x = .pointer (some ⟨g, k * 32, none⟩)) {ys : List UInt8} (hy32 : ys.length = 32) (hy : a.eval y = IdV ys)
    (h : wpList Tryz.prog ops Q rest (a.put o.dst undef) (w.setCells g (k * 32) (ys.map B8))) : wpList Tryz.prog ops Q (o :: rest) a w := by
  refine wpList_store_mid hg 25 x y ho g (k * 32) (ys.map B8).toArray hx hy (by simpa [hy32] using hold.thereAt hk) (by simpa [hy32] using sizeID hy32) (all_oneCell_toArray (bs_oneCell ys)) ?_
  exact h
/-- The first ones stay, whatever is cleared behind them. -/
theorem HoldI.cleared {W : World} {g c k m : Nat} {l : List (List UInt8)} (h : HoldI W g l) (hk : k ≤ l.length) (hc : k ≤ c) (z : List Value) (hm : m = k * 32) : Is (W.setCells g m z) (.slice (some ⟨g, 0, none⟩) k c) (l.take k) := by
  refine ⟨fun x hx => h.sized x (List.mem_of_mem_take hx), _, c, by rw [List.length_take, Nat.min_eq_left hk], by rw [List.length_take, Nat.min_eq_left hk]; exact hc, fun i x hx => ⟨g, 0, rfl, ?_⟩⟩
  rw [Nat.zero_add]
  rw [List.getElem?_take] at hx
  split at hx
  · next hik =>
    have hx32 := h.sized x (List.mem_of_getElem? hx)
    exact World.rangeAt_setCells_apart (h.lies i x hx) g m z (.inr (.inl (by rw [List.length_map, hx32]; omega)))
  · cases hx

set_option maxRecDepth 100000 in
set_option maxHeartbeats 400000 in
theorem idCompact_small (w : World) (A : Option Addr) (c : Nat) (l : List (List UInt8)) (hl : l.length < 2) :
    Calls Tryz.prog 78 #[.slice A l.length c] w fun e W' => e = .returned (.slice A l.length c) ∧ W' = w := by
  have h2 : (l.length : Int) < 2 := by omega
  go_enter Tryz.func78, Tryz.ntmps78
  go_wp2
  go_ret
  exact ⟨rfl, rfl⟩

set_option maxRecDepth 100000 in
set_option maxHeartbeats 4000000 in
theorem idCompact_some (w : World) (g c : Nat) (l : List (List UInt8)) (h : HoldI w g l) (hg : g < w.heap.size) (hc : l.length ≤ c) (hl : l.length ≤ 1000000) (h2 : 2 ≤ l.length) :
    Calls Tryz.prog 78 #[.slice (some ⟨g, 0, none⟩) l.length c] w fun e W' => ∃ v', e = .returned v' ∧ Is W' v' (compUp l l.length) ∧ Kept (· = g) w W' := by
  have h2' : ¬ (l.length : Int) < 2 := by omega
  go_enter Tryz.func78, Tryz.ntmps78
  go_wp2_with fail
  go_loopw [3] (fun i wr => ∃ k : Nat, 1 ≤ k ∧ k ≤ l.length ∧ i = .int .i64 k ∧ compUp l k = l.take k ∧ HoldI wr g l ∧ Kept (· = g) w wr) (fun i _ => l.length - (intOf i).toNat)
  case atStart => exact ⟨1, Nat.le_refl _, by omega, rfl, by cases l with | nil => simp at h2 | cons x l => simp [compUp], h, Kept.refl _ _⟩
  case round =>
    obtain ⟨k, hk1, hk, rfl, hcu, hH, hK⟩ := hrel
    obtain ⟨p, rfl⟩ : ∃ p, k = p + 1 := ⟨k - 1, by omega⟩
    obtain ⟨k, hkp⟩ : ∃ k, k = p + 1 := ⟨_, rfl⟩
    rw [← hkp] at hk1 hk hcu ⊢
    by_cases hlt : k < l.length
    case pos =>
      obtain ⟨x, hxk⟩ : ∃ x, l[k]? = some x := ⟨_, List.getElem?_eq_getElem hlt⟩
      obtain ⟨y, hyk⟩ : ∃ y, l[p]? = some y := ⟨_, List.getElem?_eq_getElem (by omega)⟩
      have hx32 := hH.sized x (List.mem_of_getElem? hxk)
      have hy32 := hH.sized y (List.mem_of_getElem? hyk)
      have hS : IdAt wr.drew g (k * 32) x ∧ IdAt wr.drew g (p * 32) y := ⟨hH.drew.lies k x hxk, hH.drew.lies p y hyk⟩
      have hpk : (k : Int) - 1 = (p : Int) := by omega
      have HX := Lib.hid (And.intro hxk hyk)
      have HC := Lib.hid hcu
      have hHd := hH.drew
      have hKd : Kept (· = g) w wr.drew := ⟨hK.os, hK.tape, hK.output, hK.size, hK.block⟩
      have HP := Lib.hid hkp
      have b1 : (k : Int) < (l.length : Int) := by omega
      have b2 : (p : Int) < (l.length : Int) := by omega
      clear hxk hyk hcu hkp
      go_wp2_with fail
      refine wp_held (fun W1 => IdAt W1 g (k * 32) x ∧ IdAt W1 g (p * 32) y) (by kernel_rfl) ?_
      refine wpAnyH_next (i := 0) (v := Value.slice (some ⟨g, 0, none⟩) l.length c) rfl (by kernel_rfl) (by kernel_rfl) (by kernel_rfl) (fun _ _ _ h => h) (by kernel_rfl) (fun W1 hW1 => by go_simp) hS (fun a' ha' => ?_)
      simp only [Act.put, List.getElem_toArray, List.getElem_cons_zero, List.setIfInBounds_toArray, List.set_cons_succ, List.set_cons_zero] at ha'
      subst ha'
      refine wpAnyH_next (i := 1) (v := Value.int .i64 (k : Int)) rfl (by kernel_rfl) (by kernel_rfl) (by kernel_rfl) (fun _ _ _ h => h) (by kernel_rfl) (fun W1 hW1 => by go_simp) hS (fun a' ha' => ?_)
      simp only [Act.put, List.getElem_toArray, List.getElem_cons_succ, List.getElem_cons_zero, List.setIfInBounds_toArray, List.set_cons_succ, List.set_cons_zero] at ha'
      subst ha'
      refine wpAnyH_next (i := 2) (v := Value.pointer (some ⟨g, k * 32, none⟩)) rfl (by kernel_rfl) (by kernel_rfl) (by kernel_rfl) (fun _ _ _ h => h) (by kernel_rfl) (fun W1 hW1 => by go_simp) hS (fun a' ha' => ?_)
      simp only [Act.put, List.getElem_toArray, List.getElem_cons_succ, List.getElem_cons_zero, List.setIfInBounds_toArray, List.set_cons_succ, List.set_cons_zero] at ha'
      subst ha'
      refine wpAnyH_next (i := 3) (v := IdV x) rfl (by kernel_rfl) (by kernel_rfl) (by kernel_rfl) (fun _ _ _ h => h) (by kernel_rfl) (fun W1 hW1 => by exact exec_load_id rfl rfl hx32 hW1.1) hS (fun a' ha' => ?_)
      simp only [Act.put, List.getElem_toArray, List.getElem_cons_succ, List.getElem_cons_zero, List.setIfInBounds_toArray, List.set_cons_succ, List.set_cons_zero] at ha'
      subst ha'
      refine wpAnyH_next (i := 4) (v := Value.slice (some ⟨g, 0, none⟩) l.length c) rfl (by kernel_rfl) (by kernel_rfl) (by kernel_rfl) (fun _ _ _ h => h) (by kernel_rfl) (fun W1 hW1 => by go_simp) hS (fun a' ha' => ?_)
      simp only [Act.put, List.getElem_toArray, List.getElem_cons_succ, List.getElem_cons_zero, List.setIfInBounds_toArray, List.set_cons_succ, List.set_cons_zero] at ha'
      subst ha'
      refine wpAnyH_next (i := 5) (v := Value.int .i64 (k : Int)) rfl (by kernel_rfl) (by kernel_rfl) (by kernel_rfl) (fun _ _ _ h => h) (by kernel_rfl) (fun W1 hW1 => by go_simp) hS (fun a' ha' => ?_)
      simp only [Act.put, List.getElem_toArray, List.getElem_cons_succ, List.getElem_cons_zero, List.setIfInBounds_toArray, List.set_cons_succ, List.set_cons_zero] at ha'
      subst ha'
      refine wpAnyH_next (i := 6) (v := Value.int .i64 (p : Int)) rfl (by kernel_rfl) (by kernel_rfl) (by kernel_rfl) (fun _ _ _ h => h) (by kernel_rfl) (fun W1 hW1 => by go_simp; exact wrapK _ (by omega) (by omega)) hS (fun a' ha' => ?_)
      simp only [Act.put, List.getElem_toArray, List.getElem_cons_succ, List.getElem_cons_zero, List.setIfInBounds_toArray, List.set_cons_succ, List.set_cons_zero] at ha'
      subst ha'
      refine wpAnyH_next (i := 7) (v := Value.pointer (some ⟨g, p * 32, none⟩)) rfl (by kernel_rfl) (by kernel_rfl) (by kernel_rfl) (fun _ _ _ h => h) (by kernel_rfl) (fun W1 hW1 => by go_simp) hS (fun a' ha' => ?_)
      simp only [Act.put, List.getElem_toArray, List.getElem_cons_succ, List.getElem_cons_zero, List.setIfInBounds_toArray, List.set_cons_succ, List.set_cons_zero] at ha'
      subst ha'
      refine wpAnyH_next (i := 8) (v := IdV y) rfl (by kernel_rfl) (by kernel_rfl) (by kernel_rfl) (fun _ _ _ h => h) (by kernel_rfl) (fun W1 hW1 => by exact exec_load_id rfl rfl hy32 hW1.2) hS (fun a' ha' => ?_)
      simp only [Act.put, List.getElem_toArray, List.getElem_cons_succ, List.getElem_cons_zero, List.setIfInBounds_toArray, List.set_cons_succ, List.set_cons_zero] at ha'
      subst ha'
      refine wpAnyH_next (i := 9) (v := Value.bool (x == y)) rfl (by kernel_rfl) (by kernel_rfl) (by kernel_rfl) (fun _ _ _ h => h) (by kernel_rfl) (fun W1 hW1 => by have heq := equal_id W1 hx32 hy32; go_simp) hS (fun a' ha' => ?_)
      simp only [Act.put, List.getElem_toArray, List.getElem_cons_succ, List.getElem_cons_zero, List.setIfInBounds_toArray, List.set_cons_succ, List.set_cons_zero] at ha'
      subst ha'
      refine wpAnyH_fin (by kernel_rfl) ?_ _
      clear hS hH hK
      generalize wr.drew = wd at *
      by_cases he : x = y
      case neg =>
        have heb : (x == y) = false := by simpa using he
        rw [heb]
        have HE := Lib.hid (show compUp l (k + 1) = l.take (k + 1) by
          have hkp := HP.out
          subst hkp
          rw [compUp_other HX.out.1 (by rw [HX.out.1, HX.out.2]; simpa using he), HC.out, List.take_add_one (i := p + 1), HX.out.1]
          rfl)
        clear he heb HC HX
        go_wp2_with fail
        go_roundw
        case rel => exact ⟨k + 1, by omega, by omega, by go_num, HE.out, hHd, hKd⟩
        case measure => simp [intOf]; omega
      case pos =>
        have heb : (x == y) = true := by simpa using he
        rw [heb]
        have HI := Lib.hid (show CompI l k k l by
          have hkp := HP.out
          have hs := compUp_same (l := l) (p := p) (by rw [← hkp, HX.out.1, HX.out.2, he])
          rw [show p + 2 = k + 1 by omega, show p + 1 = k by omega, HC.out] at hs
          exact ⟨rfl, hs.symm, by rw [hs]; simp; omega, by omega, fun _ _ => rfl⟩)
        clear he heb HC HX HP hpk hx32 hy32 b2
        have hkc : ¬ c = k := by omega
        have hkl : k ≤ l.length := by omega
        go_wp2_with fail
        go_loopw [3, 5] (fun i i2 wr2 => ∃ (kk k2 : Nat) (lc : List (List UInt8)), i = .int .i64 kk ∧ i2 = .int .i64 k2 ∧ 1 ≤ k2 ∧ k + k2 ≤ l.length ∧ CompI l (k + k2 - 1) kk lc ∧ HoldI wr2 g lc ∧ Kept (· = g) w wr2) (fun _ i2 _ => l.length - (intOf i2).toNat)
        case atStart => exact ⟨k, 1, l, rfl, rfl, Nat.le_refl _, by omega, HI.out, hHd, hKd⟩
        case round =>
          clear HI hHd hKd
          obtain ⟨kk, k2, lc, rfl, rfl, h21, hk2, hI, hHd, hKd⟩ := hrel
          have hkkl := hI.lt
          have hlen := hI.len
          by_cases hlt2 : k + k2 < l.length
          case pos =>
            obtain ⟨q, rfl⟩ : ∃ q, k2 = q + 1 := ⟨k2 - 1, by omega⟩
            obtain ⟨k2, hkq⟩ : ∃ k2, k2 = q + 1 := ⟨_, rfl⟩
            rw [← hkq] at h21 hk2 hI hkkl hlt2 ⊢
            rw [show k + k2 - 1 = k + q by omega] at hI hkkl
            obtain ⟨u, huk⟩ : ∃ u, l[k + k2]? = some u := ⟨_, List.getElem?_eq_getElem hlt2⟩
            obtain ⟨z, hzk⟩ : ∃ z, l[k + q]? = some z := ⟨_, List.getElem?_eq_getElem (by omega)⟩
            have huc : lc[k + k2]? = some u := by rw [hI.high _ (by omega)]; exact huk
            have hzc : lc[k + q]? = some z := by rw [hI.high _ (by omega)]; exact hzk
            have hu32 := hHd.sized u (List.mem_of_getElem? huc)
            have hz32 := hHd.sized z (List.mem_of_getElem? hzc)
            have hS : IdAt wr.drew g (k * 32 + k2 * 32) u ∧ IdAt wr.drew g (k * 32 + q * 32) z := by
              rw [← Nat.add_mul, ← Nat.add_mul]
              exact ⟨hHd.drew.lies _ u huc, hHd.drew.lies _ z hzc⟩
            have hHe := hHd.drew
            have hKe : Kept (· = g) w wr.drew := ⟨hKd.os, hKd.tape, hKd.output, hKd.size, hKd.block⟩
            have hqk : (k2 : Int) - 1 = (q : Int) := by omega
            have HX := Lib.hid (And.intro huk (And.intro hzk huc))
            have HI := Lib.hid hI
            have HQ := Lib.hid hkq
            have b3 : (k2 : Int) < ((l.length - k : Nat) : Int) := by omega
            have b4 : (q : Int) < ((l.length - k : Nat) : Int) := by omega
            clear huk hzk huc hzc hI hHd hKd hkq
            go_wp2_with fail
            refine wp_held (fun W1 => IdAt W1 g (k * 32 + k2 * 32) u ∧ IdAt W1 g (k * 32 + q * 32) z) (by kernel_rfl) ?_
            refine wpAnyH_next (i := 0) (v := Value.slice (some ⟨g, k * 32, none⟩) (l.length - k) (c - k)) rfl (by kernel_rfl) (by kernel_rfl) (by kernel_rfl) (fun _ _ _ h => h) (by kernel_rfl) (fun W1 hW1 => by go_simp) hS (fun a' ha' => ?_)
            simp only [Act.put, List.getElem_toArray, List.getElem_cons_zero, List.setIfInBounds_toArray, List.set_cons_succ, List.set_cons_zero] at ha'
            subst ha'
            refine wpAnyH_next (i := 1) (v := Value.int .i64 (k2 : Int)) rfl (by kernel_rfl) (by kernel_rfl) (by kernel_rfl) (fun _ _ _ h => h) (by kernel_rfl) (fun W1 hW1 => by go_simp) hS (fun a' ha' => ?_)
            simp only [Act.put, List.getElem_toArray, List.getElem_cons_succ, List.getElem_cons_zero, List.setIfInBounds_toArray, List.set_cons_succ, List.set_cons_zero] at ha'
            subst ha'
            refine wpAnyH_next (i := 2) (v := Value.pointer (some ⟨g, k * 32 + k2 * 32, none⟩)) rfl (by kernel_rfl) (by kernel_rfl) (by kernel_rfl) (fun _ _ _ h => h) (by kernel_rfl) (fun W1 hW1 => by go_simp) hS (fun a' ha' => ?_)
            simp only [Act.put, List.getElem_toArray, List.getElem_cons_succ, List.getElem_cons_zero, List.setIfInBounds_toArray, List.set_cons_succ, List.set_cons_zero] at ha'
            subst ha'
            refine wpAnyH_next (i := 3) (v := IdV u) rfl (by kernel_rfl) (by kernel_rfl) (by kernel_rfl) (fun _ _ _ h => h) (by kernel_rfl) (fun W1 hW1 => by exact exec_load_id rfl rfl hu32 hW1.1) hS (fun a' ha' => ?_)
            simp only [Act.put, List.getElem_toArray, List.getElem_cons_succ, List.getElem_cons_zero, List.setIfInBounds_toArray, List.set_cons_succ, List.set_cons_zero] at ha'
            subst ha'
            refine wpAnyH_next (i := 4) (v := Value.slice (some ⟨g, k * 32, none⟩) (l.length - k) (c - k)) rfl (by kernel_rfl) (by kernel_rfl) (by kernel_rfl) (fun _ _ _ h => h) (by kernel_rfl) (fun W1 hW1 => by go_simp) hS (fun a' ha' => ?_)
            simp only [Act.put, List.getElem_toArray, List.getElem_cons_succ, List.getElem_cons_zero, List.setIfInBounds_toArray, List.set_cons_succ, List.set_cons_zero] at ha'
            subst ha'
            refine wpAnyH_next (i := 5) (v := Value.int .i64 (k2 : Int)) rfl (by kernel_rfl) (by kernel_rfl) (by kernel_rfl) (fun _ _ _ h => h) (by kernel_rfl) (fun W1 hW1 => by go_simp) hS (fun a' ha' => ?_)
            simp only [Act.put, List.getElem_toArray, List.getElem_cons_succ, List.getElem_cons_zero, List.setIfInBounds_toArray, List.set_cons_succ, List.set_cons_zero] at ha'
            subst ha'
            refine wpAnyH_next (i := 6) (v := Value.int .i64 (q : Int)) rfl (by kernel_rfl) (by kernel_rfl) (by kernel_rfl) (fun _ _ _ h => h) (by kernel_rfl) (fun W1 hW1 => by go_simp; exact wrapK _ (by omega) (by omega)) hS (fun a' ha' => ?_)
            simp only [Act.put, List.getElem_toArray, List.getElem_cons_succ, List.getElem_cons_zero, List.setIfInBounds_toArray, List.set_cons_succ, List.set_cons_zero] at ha'
            subst ha'
            refine wpAnyH_next (i := 7) (v := Value.pointer (some ⟨g, k * 32 + q * 32, none⟩)) rfl (by kernel_rfl) (by kernel_rfl) (by kernel_rfl) (fun _ _ _ h => h) (by kernel_rfl) (fun W1 hW1 => by go_simp) hS (fun a' ha' => ?_)
            simp only [Act.put, List.getElem_toArray, List.getElem_cons_succ, List.getElem_cons_zero, List.setIfInBounds_toArray, List.set_cons_succ, List.set_cons_zero] at ha'
            subst ha'
            refine wpAnyH_next (i := 8) (v := IdV z) rfl (by kernel_rfl) (by kernel_rfl) (by kernel_rfl) (fun _ _ _ h => h) (by kernel_rfl) (fun W1 hW1 => by exact exec_load_id rfl rfl hz32 hW1.2) hS (fun a' ha' => ?_)
            simp only [Act.put, List.getElem_toArray, List.getElem_cons_succ, List.getElem_cons_zero, List.setIfInBounds_toArray, List.set_cons_succ, List.set_cons_zero] at ha'
            subst ha'
            refine wpAnyH_next (i := 9) (v := Value.bool (!(u == z))) rfl (by kernel_rfl) (by kernel_rfl) (by kernel_rfl) (fun _ _ _ h => h) (by kernel_rfl) (fun W1 hW1 => by have heq := equal_id W1 hu32 hz32; go_simp) hS (fun a' ha' => ?_)
            simp only [Act.put, List.getElem_toArray, List.getElem_cons_succ, List.getElem_cons_zero, List.setIfInBounds_toArray, List.set_cons_succ, List.set_cons_zero] at ha'
            subst ha'
            refine wpAnyH_fin (by kernel_rfl) ?_ _
            generalize wr.drew = we at *
            by_cases he : u = z
            case pos =>
              have heb : (u == z) = true := by simpa using he
              rw [heb]
              have HE := Lib.hid (show CompI l (k + (k2 + 1) - 1) kk lc by
                have h1 := HI.out.eq (by rw [show k + q + 1 = k + k2 by have := HQ.out; omega, HX.out.1, HX.out.2.1, he])
                rwa [show k + q + 1 = k + (k2 + 1) - 1 by have := HQ.out; omega] at h1)
              clear he heb HI HX hS
              go_wp2_with fail
              go_roundw
              case rel => exact ⟨kk, k2 + 1, lc, rfl, by go_num, by omega, by omega, HE.out, hHe, hKe⟩
              case measure => simp [intOf]; omega
            case neg =>
              have heb : (u == z) = false := by simpa using he
              rw [heb]
              have HE := Lib.hid (show CompI l (k + (k2 + 1) - 1) (kk + 1) (lc.set kk u) by
                have hq := HQ.out
                have h1 := HI.out.ne (x := u) (by rw [show k + q + 1 = k + k2 by omega]; exact HX.out.1) (by rw [show k + q + 1 = k + k2 by omega, HX.out.1, HX.out.2.1]; simpa using he)
                rwa [show k + q + 1 = k + (k2 + 1) - 1 by omega] at h1)
              have hset := hHe.set (k := kk) (by omega) hu32
              have HS := Lib.hid hset
              have hKs := hKe.setCells (g := g) rfl (u.map B8) (kk * 32)
              have hu' := hS.1
              have b5 : (kk : Int) < (l.length : Int) := by omega
              clear he heb HI HX hS hset
              go_wp2_with (first
                | (refine wpList_load_id rfl (.tmp 49) rfl rfl hu32 hu' ?_)
                | (refine wpList_store_hold rfl (.tmp 51) (.tmp 50) rfl hHe (k := kk) (by omega) rfl hu32 rfl ?_))
              go_roundw
              case rel => exact ⟨kk + 1, k2 + 1, lc.set kk u, by go_num, by go_num, by omega, by omega, HE.out, HS.out, hKs⟩
              case measure => simp [intOf]; omega
          case neg =>
            have hke : k + k2 = l.length := by omega
            have hkk : kk < l.length := by omega
            have hre := hHd.cleared (k := kk) (c := c) (m := kk * 32) (by omega) (by omega) (List.replicate ((l.length - kk) * 32) (.int .u8 0)) rfl
            rw [hI.front, show k + k2 - 1 + 1 = l.length by omega] at hre
            have HR := Lib.hid hre
            have hKs := hKd.setCells (g := g) rfl (List.replicate ((l.length - kk) * 32) (.int .u8 0)) (kk * 32)
            have hth : wr.there g (kk * 32) ((l.length - kk) * 32) := fun j hj => by
              have h1 := hHd.there (kk * 32 + j) (by rw [hlen]; omega)
              rw [Nat.zero_add] at h1
              exact h1
            have HI := Lib.hid hI
            have hkc2 : ¬ c = kk := by omega
            have b6 : (kk : Int) ≤ (l.length : Int) := by omega
            have b7 : ¬ (k2 : Int) < ((l.length - k : Nat) : Int) := by omega
            clear hre hI hHd hKd
            have hcl := run_clear_ids wr 0 g (kk * 32) (l.length - kk) (c - kk) (by omega) hth
            clear hth
            go_wp2
            go_ret
            exact ⟨_, rfl, HR.out, hKs⟩
    case neg =>
      obtain hkl : k = l.length := by omega
      have hi := hH.is hc
      have HI := Lib.hid hi
      have HE := Lib.hid (show compUp l l.length = l by rw [← hkl, hcu, hkl, List.take_length])
      clear hH hcu hi hkp
      subst hkl
      go_wp2
      go_ret
      exact ⟨_, rfl, by rw [HE.out]; exact HI.out, hK⟩
end Go.Proofs.YtljihmbmjpcfaaaGreat
