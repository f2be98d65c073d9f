/- Lists of entries, ids, links held against one another (tools/gensames.py). -/
import Derived.Test.YtljihmbmjpcfaaaGreatOneE
import Derived.Test.YtljihmbmjpcfaaaGreatObjTree
namespace Go.Proofs.YtljihmbmjpcfaaaGreat
open Go.RowKit Go.Shelf Go.Great
set_option maxRecDepth 100000

theorem take_more {α : Type} {l m : List α} {k : Nat} {x y : α} (h : l.take k = m.take k) (hx : l[k]? = some x) (hy : m[k]? = some y) (he : x = y) : l.take (k + 1) = m.take (k + 1) := by
  rw [List.take_add_one, List.take_add_one, h, hx, hy, he]
theorem take_not {α : Type} {l m : List α} {k : Nat} {x y : α} (hx : l[k]? = some x) (hy : m[k]? = some y) (he : ¬ x = y) : ¬ l = m := by
  rintro rfl
  rw [hx] at hy
  exact he (Option.some.inj hy)

set_option maxHeartbeats 4000000 in
theorem enEqual_form (w : World) (A B : Option Addr) (c d : Nat) (l m : List En) (hl : Es eEn w (.slice A l.length c) l) (hm : Es eEn w (.slice B m.length d) m) (hll : l.length ≤ 1000000) (_hml : m.length ≤ 1000000) :
    Calls Tryz.prog 55 #[.slice A l.length c, .slice B m.length d] w fun e W' => e = .returned (.bool (decide (l = m))) ∧ Below w.heap.size w W' := by
  by_cases hlen : (l.length : Int) = (m.length : Int)
  case neg =>
    have HE := Lib.hid (decide_eq_false (show ¬ l = m from fun h => hlen (by rw [h])))
    have hbne : ((l.length : Int) != (m.length : Int)) = true := by simpa using hlen
    clear hl hm
    go_enter Tryz.func55, Tryz.ntmps55
    go_wp2_with fail
    go_ret
    exact ⟨by rw [HE.out]; rfl, Below.refl _ _⟩
  case pos =>
    have hbne : ((l.length : Int) != (m.length : Int)) = false := by simpa using hlen
    have HLL := Lib.hid (show l.length = m.length by omega)
    have HL := Lib.hid hl
    have HM := Lib.hid hm
    clear hl hm hlen
    generalize hln : l.length = ln at *
    generalize hmn : m.length = mn at *
    have HLN := Lib.hid hln
    have HMN := Lib.hid hmn
    clear hln hmn
    go_enter Tryz.func55, Tryz.ntmps55
    go_wp2_with fail
    go_loopw [13] (fun i wr => ∃ k : Nat, k ≤ ln ∧ i = .int .i64 k ∧ l.take k = m.take k ∧ Below w.heap.size w wr) (fun i _ => ln - (RowKit.intOf i).toNat)
    case atStart => exact ⟨0, by omega, rfl, rfl, Below.refl _ _⟩
    case round =>
      obtain ⟨k, hk, rfl, htk, hB⟩ := hrel
      have HTK := Lib.hid htk
      clear htk
      by_cases hlt : k < ln
      case neg =>
        have hkn : k = ln := by omega
        have HE := Lib.hid (decide_eq_true (show l = m by
          have h := HTK.out
          rw [List.take_of_length_le (by rw [HLN.out]; omega), List.take_of_length_le (by rw [HMN.out, ← HLL.out]; omega)] at h
          exact h))
        have hnk : ¬ (k : Int) < (ln : Int) := by omega
        clear hkn hlt
        go_wp2_with fail
        go_ret
        exact ⟨by rw [HE.out]; rfl, hB⟩
      case pos =>
        obtain ⟨x, hxk⟩ : ∃ x, l[k]? = some x := ⟨_, List.getElem?_eq_getElem (by rw [HLN.out]; exact hlt)⟩
        obtain ⟨y, hyk⟩ : ∃ y, m[k]? = some y := ⟨_, List.getElem?_eq_getElem (by rw [HMN.out, ← HLL.out]; exact hlt)⟩
        obtain ⟨b, off, rfl, hat⟩ := HL.out.at hxk
        obtain ⟨b', off', rfl, hat'⟩ := HM.out.at hyk
        have hat1 : ElAt eEn wr b (off + k * 34) x := hat.below hB
        have hat2 : ElAt eEn wr b' (off' + k * 34) y := hat'.below hB
        have hklt : (k : Int) < (ln : Int) := by omega
        have hkmt : (k : Int) < (mn : Int) := by have := HLL.out; omega
        have HX := Lib.hid hxk
        have HY := Lib.hid hyk
        clear hxk hyk hat hat'
        by_cases he : x = y
        case neg =>
          have HE := Lib.hid (decide_eq_false (take_not HX.out HY.out he))
          have hd : (!decide (x = y)) = true := by simp [he]
          clear he
          go_wp2_with fail
          refine wp_held (fun W1 => Below wr.heap.size wr W1) (by kernel_rfl) ?_
          have hS0 : Below wr.heap.size wr wr.drew := (Below.refl _ wr).drew
          refine wpAnyH_next (i := 0) (v := .slice (some ⟨b, off, none⟩) ln c) rfl (by kernel_rfl) (by kernel_rfl) (by kernel_rfl) (fun _ _ _ h => h) (by kernel_rfl) (fun W1 hW1 => by go_simp; done) hS0 (fun a' ha' => ?_)
          simp only [Act.put, List.getElem_toArray, List.getElem_cons_zero, List.setIfInBounds_toArray, List.set_cons_succ, List.set_cons_zero] at ha'
          subst ha'
          refine wpAnyH_next (i := 1) (v := .int .i64 (k : Int)) rfl (by kernel_rfl) (by kernel_rfl) (by kernel_rfl) (fun _ _ _ h => h) (by kernel_rfl) (fun W1 hW1 => by go_simp; done) hS0 (fun a' ha' => ?_)
          simp only [Act.put, List.getElem_toArray, List.getElem_cons_succ, List.getElem_cons_zero, List.setIfInBounds_toArray, List.set_cons_succ, List.set_cons_zero] at ha'
          subst ha'
          refine wpAnyH_next (i := 2) (v := .pointer (some ⟨b, off + k * 34, none⟩)) rfl (by kernel_rfl) (by kernel_rfl) (by kernel_rfl) (fun _ _ _ h => h) (by kernel_rfl) (fun W1 hW1 => by go_simp; done) hS0 (fun a' ha' => ?_)
          simp only [Act.put, List.getElem_toArray, List.getElem_cons_succ, List.getElem_cons_zero, List.setIfInBounds_toArray, List.set_cons_succ, List.set_cons_zero] at ha'
          subst ha'
          refine wpAnyH_next (i := 3) (v := EnV x) rfl (by kernel_rfl) (by kernel_rfl) (by kernel_rfl) (fun _ _ _ h => h) (by kernel_rfl) (fun W1 hW1 => by exact exec_load_el (E := eEn) Tryz.underlying70 rfl sizeEn rfl rfl (hat1.below hW1)) hS0 (fun a' ha' => ?_)
          simp only [Act.put, List.getElem_toArray, List.getElem_cons_succ, List.getElem_cons_zero, List.setIfInBounds_toArray, List.set_cons_succ, List.set_cons_zero] at ha'
          subst ha'
          refine wpAnyH_next (i := 4) (v := .slice (some ⟨b', off', none⟩) mn d) rfl (by kernel_rfl) (by kernel_rfl) (by kernel_rfl) (fun _ _ _ h => h) (by kernel_rfl) (fun W1 hW1 => by go_simp; done) hS0 (fun a' ha' => ?_)
          simp only [Act.put, List.getElem_toArray, List.getElem_cons_succ, List.getElem_cons_zero, List.setIfInBounds_toArray, List.set_cons_succ, List.set_cons_zero] at ha'
          subst ha'
          refine wpAnyH_next (i := 5) (v := .int .i64 (k : Int)) rfl (by kernel_rfl) (by kernel_rfl) (by kernel_rfl) (fun _ _ _ h => h) (by kernel_rfl) (fun W1 hW1 => by go_simp; done) hS0 (fun a' ha' => ?_)
          simp only [Act.put, List.getElem_toArray, List.getElem_cons_succ, List.getElem_cons_zero, List.setIfInBounds_toArray, List.set_cons_succ, List.set_cons_zero] at ha'
          subst ha'
          refine wpAnyH_next (i := 6) (v := .pointer (some ⟨b', off' + k * 34, none⟩)) rfl (by kernel_rfl) (by kernel_rfl) (by kernel_rfl) (fun _ _ _ h => h) (by kernel_rfl) (fun W1 hW1 => by go_simp; done) hS0 (fun a' ha' => ?_)
          simp only [Act.put, List.getElem_toArray, List.getElem_cons_succ, List.getElem_cons_zero, List.setIfInBounds_toArray, List.set_cons_succ, List.set_cons_zero] at ha'
          subst ha'
          refine wpAnyH_next (i := 7) (v := EnV y) rfl (by kernel_rfl) (by kernel_rfl) (by kernel_rfl) (fun _ _ _ h => h) (by kernel_rfl) (fun W1 hW1 => by exact exec_load_el (E := eEn) Tryz.underlying70 rfl sizeEn rfl rfl (hat2.below hW1)) hS0 (fun a' ha' => ?_)
          simp only [Act.put, List.getElem_toArray, List.getElem_cons_succ, List.getElem_cons_zero, List.setIfInBounds_toArray, List.set_cons_succ, List.set_cons_zero] at ha'
          subst ha'
          refine wpAnyH_next (i := 8) (v := .bool true) rfl (by kernel_rfl) (by kernel_rfl) (by kernel_rfl) (fun _ _ _ h => h) (by kernel_rfl) (fun W1 hW1 => by exact (exec_neq_en rfl rfl rfl).trans (by rw [hd])) hS0 (fun a' ha' => ?_)
          simp only [Act.put, List.getElem_toArray, List.getElem_cons_succ, List.getElem_cons_zero, List.setIfInBounds_toArray, List.set_cons_succ, List.set_cons_zero] at ha'
          subst ha'
          refine wpAnyH_fin (by kernel_rfl) ?_ _
          go_wp2_with fail
          go_ret
          exact ⟨by rw [HE.out]; rfl, hB.trans (hS0.mono hB.size)⟩
        case pos =>
          have HE := Lib.hid (take_more HTK.out HX.out HY.out he)
          have hd : (!decide (x = y)) = false := by simp [he]
          clear he
          go_wp2_with fail
          refine wp_held (fun W1 => Below wr.heap.size wr W1) (by kernel_rfl) ?_
          have hS0 : Below wr.heap.size wr wr.drew := (Below.refl _ wr).drew
          refine wpAnyH_next (i := 0) (v := .slice (some ⟨b, off, none⟩) ln c) rfl (by kernel_rfl) (by kernel_rfl) (by kernel_rfl) (fun _ _ _ h => h) (by kernel_rfl) (fun W1 hW1 => by go_simp; done) hS0 (fun a' ha' => ?_)
          simp only [Act.put, List.getElem_toArray, List.getElem_cons_zero, List.setIfInBounds_toArray, List.set_cons_succ, List.set_cons_zero] at ha'
          subst ha'
          refine wpAnyH_next (i := 1) (v := .int .i64 (k : Int)) rfl (by kernel_rfl) (by kernel_rfl) (by kernel_rfl) (fun _ _ _ h => h) (by kernel_rfl) (fun W1 hW1 => by go_simp; done) hS0 (fun a' ha' => ?_)
          simp only [Act.put, List.getElem_toArray, List.getElem_cons_succ, List.getElem_cons_zero, List.setIfInBounds_toArray, List.set_cons_succ, List.set_cons_zero] at ha'
          subst ha'
          refine wpAnyH_next (i := 2) (v := .pointer (some ⟨b, off + k * 34, none⟩)) rfl (by kernel_rfl) (by kernel_rfl) (by kernel_rfl) (fun _ _ _ h => h) (by kernel_rfl) (fun W1 hW1 => by go_simp; done) hS0 (fun a' ha' => ?_)
          simp only [Act.put, List.getElem_toArray, List.getElem_cons_succ, List.getElem_cons_zero, List.setIfInBounds_toArray, List.set_cons_succ, List.set_cons_zero] at ha'
          subst ha'
          refine wpAnyH_next (i := 3) (v := EnV x) rfl (by kernel_rfl) (by kernel_rfl) (by kernel_rfl) (fun _ _ _ h => h) (by kernel_rfl) (fun W1 hW1 => by exact exec_load_el (E := eEn) Tryz.underlying70 rfl sizeEn rfl rfl (hat1.below hW1)) hS0 (fun a' ha' => ?_)
          simp only [Act.put, List.getElem_toArray, List.getElem_cons_succ, List.getElem_cons_zero, List.setIfInBounds_toArray, List.set_cons_succ, List.set_cons_zero] at ha'
          subst ha'
          refine wpAnyH_next (i := 4) (v := .slice (some ⟨b', off', none⟩) mn d) rfl (by kernel_rfl) (by kernel_rfl) (by kernel_rfl) (fun _ _ _ h => h) (by kernel_rfl) (fun W1 hW1 => by go_simp; done) hS0 (fun a' ha' => ?_)
          simp only [Act.put, List.getElem_toArray, List.getElem_cons_succ, List.getElem_cons_zero, List.setIfInBounds_toArray, List.set_cons_succ, List.set_cons_zero] at ha'
          subst ha'
          refine wpAnyH_next (i := 5) (v := .int .i64 (k : Int)) rfl (by kernel_rfl) (by kernel_rfl) (by kernel_rfl) (fun _ _ _ h => h) (by kernel_rfl) (fun W1 hW1 => by go_simp; done) hS0 (fun a' ha' => ?_)
          simp only [Act.put, List.getElem_toArray, List.getElem_cons_succ, List.getElem_cons_zero, List.setIfInBounds_toArray, List.set_cons_succ, List.set_cons_zero] at ha'
          subst ha'
          refine wpAnyH_next (i := 6) (v := .pointer (some ⟨b', off' + k * 34, none⟩)) rfl (by kernel_rfl) (by kernel_rfl) (by kernel_rfl) (fun _ _ _ h => h) (by kernel_rfl) (fun W1 hW1 => by go_simp; done) hS0 (fun a' ha' => ?_)
          simp only [Act.put, List.getElem_toArray, List.getElem_cons_succ, List.getElem_cons_zero, List.setIfInBounds_toArray, List.set_cons_succ, List.set_cons_zero] at ha'
          subst ha'
          refine wpAnyH_next (i := 7) (v := EnV y) rfl (by kernel_rfl) (by kernel_rfl) (by kernel_rfl) (fun _ _ _ h => h) (by kernel_rfl) (fun W1 hW1 => by exact exec_load_el (E := eEn) Tryz.underlying70 rfl sizeEn rfl rfl (hat2.below hW1)) hS0 (fun a' ha' => ?_)
          simp only [Act.put, List.getElem_toArray, List.getElem_cons_succ, List.getElem_cons_zero, List.setIfInBounds_toArray, List.set_cons_succ, List.set_cons_zero] at ha'
          subst ha'
          refine wpAnyH_next (i := 8) (v := .bool false) rfl (by kernel_rfl) (by kernel_rfl) (by kernel_rfl) (fun _ _ _ h => h) (by kernel_rfl) (fun W1 hW1 => by exact (exec_neq_en rfl rfl rfl).trans (by rw [hd])) hS0 (fun a' ha' => ?_)
          simp only [Act.put, List.getElem_toArray, List.getElem_cons_succ, List.getElem_cons_zero, List.setIfInBounds_toArray, List.set_cons_succ, List.set_cons_zero] at ha'
          subst ha'
          refine wpAnyH_fin (by kernel_rfl) ?_ _
          go_wp2_with fail
          go_roundw
          case rel => exact ⟨k + 1, by omega, by go_num, HE.out, hB.trans (hS0.mono hB.size)⟩
          case measure => simp [RowKit.intOf]; omega
theorem enEqual_any (w : World) (u v : Value) (l m : List En) (hl : Es eEn w u l) (hm : Es eEn w v m) (hll : l.length ≤ 1000000) (hml : m.length ≤ 1000000) :
    Calls Tryz.prog 55 #[u, v] w fun e W' => e = .returned (.bool (decide (l = m))) ∧ Below w.heap.size w W' := by
  obtain ⟨A, c, rfl, _⟩ := hl.form
  obtain ⟨B, d, rfl, _⟩ := hm.form
  exact enEqual_form w A B c d l m hl hm hll hml

set_option maxHeartbeats 4000000 in
theorem idEqual_form (w : World) (A B : Option Addr) (c d : Nat) (l m : List (List UInt8)) (hl : Is w (.slice A l.length c) l) (hm : Is w (.slice B m.length d) m) (hll : l.length ≤ 1000000) (_hml : m.length ≤ 1000000) :
    Calls Tryz.prog 56 #[.slice A l.length c, .slice B m.length d] w fun e W' => e = .returned (.bool (decide (l = m))) ∧ Below w.heap.size w W' := by
  by_cases hlen : (l.length : Int) = (m.length : Int)
  case neg =>
    have HE := Lib.hid (decide_eq_false (show ¬ l = m from fun h => hlen (by rw [h])))
    have hbne : ((l.length : Int) != (m.length : Int)) = true := by simpa using hlen
    clear hl hm
    go_enter Tryz.func56, Tryz.ntmps56
    go_wp2_with fail
    go_ret
    exact ⟨by rw [HE.out]; rfl, Below.refl _ _⟩
  case pos =>
    have hbne : ((l.length : Int) != (m.length : Int)) = false := by simpa using hlen
    have HLL := Lib.hid (show l.length = m.length by omega)
    have HL := Lib.hid hl
    have HM := Lib.hid hm
    clear hl hm hlen
    generalize hln : l.length = ln at *
    generalize hmn : m.length = mn at *
    have HLN := Lib.hid hln
    have HMN := Lib.hid hmn
    clear hln hmn
    go_enter Tryz.func56, Tryz.ntmps56
    go_wp2_with fail
    go_loopw [13] (fun i wr => ∃ k : Nat, k ≤ ln ∧ i = .int .i64 k ∧ l.take k = m.take k ∧ Below w.heap.size w wr) (fun i _ => ln - (RowKit.intOf i).toNat)
    case atStart => exact ⟨0, by omega, rfl, rfl, Below.refl _ _⟩
    case round =>
      obtain ⟨k, hk, rfl, htk, hB⟩ := hrel
      have HTK := Lib.hid htk
      clear htk
      by_cases hlt : k < ln
      case neg =>
        have hkn : k = ln := by omega
        have HE := Lib.hid (decide_eq_true (show l = m by
          have h := HTK.out
          rw [List.take_of_length_le (by rw [HLN.out]; omega), List.take_of_length_le (by rw [HMN.out, ← HLL.out]; omega)] at h
          exact h))
        have hnk : ¬ (k : Int) < (ln : Int) := by omega
        clear hkn hlt
        go_wp2_with fail
        go_ret
        exact ⟨by rw [HE.out]; rfl, hB⟩
      case pos =>
        obtain ⟨x, hxk⟩ : ∃ x, l[k]? = some x := ⟨_, List.getElem?_eq_getElem (by rw [HLN.out]; exact hlt)⟩
        obtain ⟨y, hyk⟩ : ∃ y, m[k]? = some y := ⟨_, List.getElem?_eq_getElem (by rw [HMN.out, ← HLL.out]; exact hlt)⟩
        obtain ⟨hx32, b, off, rfl, hat⟩ := HL.out.at hxk
        obtain ⟨hy32, b', off', rfl, hat'⟩ := HM.out.at hyk
        have hat1 : IdAt wr b (off + k * 32) x := hat.below hB
        have hat2 : IdAt wr b' (off' + k * 32) y := hat'.below hB
        have hklt : (k : Int) < (ln : Int) := by omega
        have hkmt : (k : Int) < (mn : Int) := by have := HLL.out; omega
        have HX := Lib.hid hxk
        have HY := Lib.hid hyk
        clear hxk hyk hat hat'
        by_cases he : x = y
        case neg =>
          have HE := Lib.hid (decide_eq_false (take_not HX.out HY.out he))
          have hd : (!decide (x = y)) = true := by simp [he]
          clear he
          go_wp2_with fail
          refine wp_held (fun W1 => Below wr.heap.size wr W1) (by kernel_rfl) ?_
          have hS0 : Below wr.heap.size wr wr.drew := (Below.refl _ wr).drew
          refine wpAnyH_next (i := 0) (v := .slice (some ⟨b, off, none⟩) ln c) rfl (by kernel_rfl) (by kernel_rfl) (by kernel_rfl) (fun _ _ _ h => h) (by kernel_rfl) (fun W1 hW1 => by go_simp; done) hS0 (fun a' ha' => ?_)
          simp only [Act.put, List.getElem_toArray, List.getElem_cons_zero, List.setIfInBounds_toArray, List.set_cons_succ, List.set_cons_zero] at ha'
          subst ha'
          refine wpAnyH_next (i := 1) (v := .int .i64 (k : Int)) rfl (by kernel_rfl) (by kernel_rfl) (by kernel_rfl) (fun _ _ _ h => h) (by kernel_rfl) (fun W1 hW1 => by go_simp; done) hS0 (fun a' ha' => ?_)
          simp only [Act.put, List.getElem_toArray, List.getElem_cons_succ, List.getElem_cons_zero, List.setIfInBounds_toArray, List.set_cons_succ, List.set_cons_zero] at ha'
          subst ha'
          refine wpAnyH_next (i := 2) (v := .pointer (some ⟨b, off + k * 32, none⟩)) rfl (by kernel_rfl) (by kernel_rfl) (by kernel_rfl) (fun _ _ _ h => h) (by kernel_rfl) (fun W1 hW1 => by go_simp; done) hS0 (fun a' ha' => ?_)
          simp only [Act.put, List.getElem_toArray, List.getElem_cons_succ, List.getElem_cons_zero, List.setIfInBounds_toArray, List.set_cons_succ, List.set_cons_zero] at ha'
          subst ha'
          refine wpAnyH_next (i := 3) (v := IdV x) rfl (by kernel_rfl) (by kernel_rfl) (by kernel_rfl) (fun _ _ _ h => h) (by kernel_rfl) (fun W1 hW1 => by exact exec_load_id rfl rfl hx32 (hat1.below hW1)) hS0 (fun a' ha' => ?_)
          simp only [Act.put, List.getElem_toArray, List.getElem_cons_succ, List.getElem_cons_zero, List.setIfInBounds_toArray, List.set_cons_succ, List.set_cons_zero] at ha'
          subst ha'
          refine wpAnyH_next (i := 4) (v := .slice (some ⟨b', off', none⟩) mn d) rfl (by kernel_rfl) (by kernel_rfl) (by kernel_rfl) (fun _ _ _ h => h) (by kernel_rfl) (fun W1 hW1 => by go_simp; done) hS0 (fun a' ha' => ?_)
          simp only [Act.put, List.getElem_toArray, List.getElem_cons_succ, List.getElem_cons_zero, List.setIfInBounds_toArray, List.set_cons_succ, List.set_cons_zero] at ha'
          subst ha'
          refine wpAnyH_next (i := 5) (v := .int .i64 (k : Int)) rfl (by kernel_rfl) (by kernel_rfl) (by kernel_rfl) (fun _ _ _ h => h) (by kernel_rfl) (fun W1 hW1 => by go_simp; done) hS0 (fun a' ha' => ?_)
          simp only [Act.put, List.getElem_toArray, List.getElem_cons_succ, List.getElem_cons_zero, List.setIfInBounds_toArray, List.set_cons_succ, List.set_cons_zero] at ha'
          subst ha'
          refine wpAnyH_next (i := 6) (v := .pointer (some ⟨b', off' + k * 32, none⟩)) rfl (by kernel_rfl) (by kernel_rfl) (by kernel_rfl) (fun _ _ _ h => h) (by kernel_rfl) (fun W1 hW1 => by go_simp; done) hS0 (fun a' ha' => ?_)
          simp only [Act.put, List.getElem_toArray, List.getElem_cons_succ, List.getElem_cons_zero, List.setIfInBounds_toArray, List.set_cons_succ, List.set_cons_zero] at ha'
          subst ha'
          refine wpAnyH_next (i := 7) (v := IdV y) rfl (by kernel_rfl) (by kernel_rfl) (by kernel_rfl) (fun _ _ _ h => h) (by kernel_rfl) (fun W1 hW1 => by exact exec_load_id rfl rfl hy32 (hat2.below hW1)) hS0 (fun a' ha' => ?_)
          simp only [Act.put, List.getElem_toArray, List.getElem_cons_succ, List.getElem_cons_zero, List.setIfInBounds_toArray, List.set_cons_succ, List.set_cons_zero] at ha'
          subst ha'
          refine wpAnyH_next (i := 8) (v := .bool true) rfl (by kernel_rfl) (by kernel_rfl) (by kernel_rfl) (fun _ _ _ h => h) (by kernel_rfl) (fun W1 hW1 => by exact (exec_neqI rfl rfl rfl hx32 hy32).trans (by rw [hd])) hS0 (fun a' ha' => ?_)
          simp only [Act.put, List.getElem_toArray, List.getElem_cons_succ, List.getElem_cons_zero, List.setIfInBounds_toArray, List.set_cons_succ, List.set_cons_zero] at ha'
          subst ha'
          refine wpAnyH_fin (by kernel_rfl) ?_ _
          go_wp2_with fail
          go_ret
          exact ⟨by rw [HE.out]; rfl, hB.trans (hS0.mono hB.size)⟩
        case pos =>
          have HE := Lib.hid (take_more HTK.out HX.out HY.out he)
          have hd : (!decide (x = y)) = false := by simp [he]
          clear he
          go_wp2_with fail
          refine wp_held (fun W1 => Below wr.heap.size wr W1) (by kernel_rfl) ?_
          have hS0 : Below wr.heap.size wr wr.drew := (Below.refl _ wr).drew
          refine wpAnyH_next (i := 0) (v := .slice (some ⟨b, off, none⟩) ln c) rfl (by kernel_rfl) (by kernel_rfl) (by kernel_rfl) (fun _ _ _ h => h) (by kernel_rfl) (fun W1 hW1 => by go_simp; done) hS0 (fun a' ha' => ?_)
          simp only [Act.put, List.getElem_toArray, List.getElem_cons_zero, List.setIfInBounds_toArray, List.set_cons_succ, List.set_cons_zero] at ha'
          subst ha'
          refine wpAnyH_next (i := 1) (v := .int .i64 (k : Int)) rfl (by kernel_rfl) (by kernel_rfl) (by kernel_rfl) (fun _ _ _ h => h) (by kernel_rfl) (fun W1 hW1 => by go_simp; done) hS0 (fun a' ha' => ?_)
          simp only [Act.put, List.getElem_toArray, List.getElem_cons_succ, List.getElem_cons_zero, List.setIfInBounds_toArray, List.set_cons_succ, List.set_cons_zero] at ha'
          subst ha'
          refine wpAnyH_next (i := 2) (v := .pointer (some ⟨b, off + k * 32, none⟩)) rfl (by kernel_rfl) (by kernel_rfl) (by kernel_rfl) (fun _ _ _ h => h) (by kernel_rfl) (fun W1 hW1 => by go_simp; done) hS0 (fun a' ha' => ?_)
          simp only [Act.put, List.getElem_toArray, List.getElem_cons_succ, List.getElem_cons_zero, List.setIfInBounds_toArray, List.set_cons_succ, List.set_cons_zero] at ha'
          subst ha'
          refine wpAnyH_next (i := 3) (v := IdV x) rfl (by kernel_rfl) (by kernel_rfl) (by kernel_rfl) (fun _ _ _ h => h) (by kernel_rfl) (fun W1 hW1 => by exact exec_load_id rfl rfl hx32 (hat1.below hW1)) hS0 (fun a' ha' => ?_)
          simp only [Act.put, List.getElem_toArray, List.getElem_cons_succ, List.getElem_cons_zero, List.setIfInBounds_toArray, List.set_cons_succ, List.set_cons_zero] at ha'
          subst ha'
          refine wpAnyH_next (i := 4) (v := .slice (some ⟨b', off', none⟩) mn d) rfl (by kernel_rfl) (by kernel_rfl) (by kernel_rfl) (fun _ _ _ h => h) (by kernel_rfl) (fun W1 hW1 => by go_simp; done) hS0 (fun a' ha' => ?_)
          simp only [Act.put, List.getElem_toArray, List.getElem_cons_succ, List.getElem_cons_zero, List.setIfInBounds_toArray, List.set_cons_succ, List.set_cons_zero] at ha'
          subst ha'
          refine wpAnyH_next (i := 5) (v := .int .i64 (k : Int)) rfl (by kernel_rfl) (by kernel_rfl) (by kernel_rfl) (fun _ _ _ h => h) (by kernel_rfl) (fun W1 hW1 => by go_simp; done) hS0 (fun a' ha' => ?_)
          simp only [Act.put, List.getElem_toArray, List.getElem_cons_succ, List.getElem_cons_zero, List.setIfInBounds_toArray, List.set_cons_succ, List.set_cons_zero] at ha'
          subst ha'
          refine wpAnyH_next (i := 6) (v := .pointer (some ⟨b', off' + k * 32, none⟩)) rfl (by kernel_rfl) (by kernel_rfl) (by kernel_rfl) (fun _ _ _ h => h) (by kernel_rfl) (fun W1 hW1 => by go_simp; done) hS0 (fun a' ha' => ?_)
          simp only [Act.put, List.getElem_toArray, List.getElem_cons_succ, List.getElem_cons_zero, List.setIfInBounds_toArray, List.set_cons_succ, List.set_cons_zero] at ha'
          subst ha'
          refine wpAnyH_next (i := 7) (v := IdV y) rfl (by kernel_rfl) (by kernel_rfl) (by kernel_rfl) (fun _ _ _ h => h) (by kernel_rfl) (fun W1 hW1 => by exact exec_load_id rfl rfl hy32 (hat2.below hW1)) hS0 (fun a' ha' => ?_)
          simp only [Act.put, List.getElem_toArray, List.getElem_cons_succ, List.getElem_cons_zero, List.setIfInBounds_toArray, List.set_cons_succ, List.set_cons_zero] at ha'
          subst ha'
          refine wpAnyH_next (i := 8) (v := .bool false) rfl (by kernel_rfl) (by kernel_rfl) (by kernel_rfl) (fun _ _ _ h => h) (by kernel_rfl) (fun W1 hW1 => by exact (exec_neqI rfl rfl rfl hx32 hy32).trans (by rw [hd])) hS0 (fun a' ha' => ?_)
          simp only [Act.put, List.getElem_toArray, List.getElem_cons_succ, List.getElem_cons_zero, List.setIfInBounds_toArray, List.set_cons_succ, List.set_cons_zero] at ha'
          subst ha'
          refine wpAnyH_fin (by kernel_rfl) ?_ _
          go_wp2_with fail
          go_roundw
          case rel => exact ⟨k + 1, by omega, by go_num, HE.out, hB.trans (hS0.mono hB.size)⟩
          case measure => simp [RowKit.intOf]; omega
theorem idEqual_any (w : World) (u v : Value) (l m : List (List UInt8)) (hl : Is w u l) (hm : Is w v m) (hll : l.length ≤ 1000000) (hml : m.length ≤ 1000000) :
    Calls Tryz.prog 56 #[u, v] w fun e W' => e = .returned (.bool (decide (l = m))) ∧ Below w.heap.size w W' := by
  obtain ⟨A, c, rfl, _⟩ := hl.form
  obtain ⟨B, d, rfl, _⟩ := hm.form
  exact idEqual_form w A B c d l m hl hm hll hml

set_option maxHeartbeats 4000000 in
theorem r7Lists_form (w : World) (A B : Option Addr) (c d : Nat) (l m : List Lk) (hl : Es eLk w (.slice A l.length c) l) (hm : Es eLk w (.slice B m.length d) m) (hll : l.length ≤ 1000000) (_hml : m.length ≤ 1000000) :
    Calls Tryz.prog 19 #[.slice A l.length c, .slice B m.length d] w fun e W' => e = .returned (.bool (decide (l = m))) ∧ Below w.heap.size w W' := by
  by_cases hlen : (l.length : Int) = (m.length : Int)
  case neg =>
    have HE := Lib.hid (decide_eq_false (show ¬ l = m from fun h => hlen (by rw [h])))
    have hbne : ((l.length : Int) != (m.length : Int)) = true := by simpa using hlen
    clear hl hm
    go_enter Tryz.func19, Tryz.ntmps19
    go_wp2_with fail
    go_ret
    exact ⟨by rw [HE.out]; rfl, Below.refl _ _⟩
  case pos =>
    have hbne : ((l.length : Int) != (m.length : Int)) = false := by simpa using hlen
    have HLL := Lib.hid (show l.length = m.length by omega)
    have HL := Lib.hid hl
    have HM := Lib.hid hm
    clear hl hm hlen
    generalize hln : l.length = ln at *
    generalize hmn : m.length = mn at *
    have HLN := Lib.hid hln
    have HMN := Lib.hid hmn
    clear hln hmn
    go_enter Tryz.func19, Tryz.ntmps19
    go_wp2_with fail
    go_loopw [5] (fun i wr => ∃ k : Nat, k ≤ ln ∧ i = .int .i64 k ∧ l.take k = m.take k ∧ Below w.heap.size w wr) (fun i _ => ln - (RowKit.intOf i).toNat)
    case atStart => exact ⟨0, by omega, rfl, rfl, Below.refl _ _⟩
    case round =>
      obtain ⟨k, hk, rfl, htk, hB⟩ := hrel
      have HTK := Lib.hid htk
      clear htk
      by_cases hlt : k < ln
      case neg =>
        have hkn : k = ln := by omega
        have HE := Lib.hid (decide_eq_true (show l = m by
          have h := HTK.out
          rw [List.take_of_length_le (by rw [HLN.out]; omega), List.take_of_length_le (by rw [HMN.out, ← HLL.out]; omega)] at h
          exact h))
        have hnk : ¬ (k : Int) < (ln : Int) := by omega
        clear hkn hlt
        go_wp2_with fail
        go_ret
        exact ⟨by rw [HE.out]; rfl, hB⟩
      case pos =>
        obtain ⟨x, hxk⟩ : ∃ x, l[k]? = some x := ⟨_, List.getElem?_eq_getElem (by rw [HLN.out]; exact hlt)⟩
        obtain ⟨y, hyk⟩ : ∃ y, m[k]? = some y := ⟨_, List.getElem?_eq_getElem (by rw [HMN.out, ← HLL.out]; exact hlt)⟩
        obtain ⟨b, off, rfl, hat⟩ := HL.out.at hxk
        obtain ⟨b', off', rfl, hat'⟩ := HM.out.at hyk
        have hat1 : ElAt eLk wr b (off + k * 33) x := hat.below hB
        have hat2 : ElAt eLk wr b' (off' + k * 33) y := hat'.below hB
        have hklt : (k : Int) < (ln : Int) := by omega
        have hkmt : (k : Int) < (mn : Int) := by have := HLL.out; omega
        have HX := Lib.hid hxk
        have HY := Lib.hid hyk
        clear hxk hyk hat hat'
        by_cases he : x = y
        case neg =>
          have HE := Lib.hid (decide_eq_false (take_not HX.out HY.out he))
          have hd : (!decide (x = y)) = true := by simp [he]
          clear he
          go_wp2_with fail
          refine wp_held (fun W1 => Below wr.heap.size wr W1) (by kernel_rfl) ?_
          have hS0 : Below wr.heap.size wr wr.drew := (Below.refl _ wr).drew
          refine wpAnyH_next (i := 0) (v := .slice (some ⟨b, off, none⟩) ln c) rfl (by kernel_rfl) (by kernel_rfl) (by kernel_rfl) (fun _ _ _ h => h) (by kernel_rfl) (fun W1 hW1 => by go_simp; done) hS0 (fun a' ha' => ?_)
          simp only [Act.put, List.getElem_toArray, List.getElem_cons_zero, List.setIfInBounds_toArray, List.set_cons_succ, List.set_cons_zero] at ha'
          subst ha'
          refine wpAnyH_next (i := 1) (v := .int .i64 (k : Int)) rfl (by kernel_rfl) (by kernel_rfl) (by kernel_rfl) (fun _ _ _ h => h) (by kernel_rfl) (fun W1 hW1 => by go_simp; done) hS0 (fun a' ha' => ?_)
          simp only [Act.put, List.getElem_toArray, List.getElem_cons_succ, List.getElem_cons_zero, List.setIfInBounds_toArray, List.set_cons_succ, List.set_cons_zero] at ha'
          subst ha'
          refine wpAnyH_next (i := 2) (v := .pointer (some ⟨b, off + k * 33, none⟩)) rfl (by kernel_rfl) (by kernel_rfl) (by kernel_rfl) (fun _ _ _ h => h) (by kernel_rfl) (fun W1 hW1 => by go_simp; done) hS0 (fun a' ha' => ?_)
          simp only [Act.put, List.getElem_toArray, List.getElem_cons_succ, List.getElem_cons_zero, List.setIfInBounds_toArray, List.set_cons_succ, List.set_cons_zero] at ha'
          subst ha'
          refine wpAnyH_next (i := 3) (v := LkV x) rfl (by kernel_rfl) (by kernel_rfl) (by kernel_rfl) (fun _ _ _ h => h) (by kernel_rfl) (fun W1 hW1 => by exact exec_load_el (E := eLk) Tryz.underlying28 rfl sizeLk rfl rfl (hat1.below hW1)) hS0 (fun a' ha' => ?_)
          simp only [Act.put, List.getElem_toArray, List.getElem_cons_succ, List.getElem_cons_zero, List.setIfInBounds_toArray, List.set_cons_succ, List.set_cons_zero] at ha'
          subst ha'
          refine wpAnyH_next (i := 4) (v := .slice (some ⟨b', off', none⟩) mn d) rfl (by kernel_rfl) (by kernel_rfl) (by kernel_rfl) (fun _ _ _ h => h) (by kernel_rfl) (fun W1 hW1 => by go_simp; done) hS0 (fun a' ha' => ?_)
          simp only [Act.put, List.getElem_toArray, List.getElem_cons_succ, List.getElem_cons_zero, List.setIfInBounds_toArray, List.set_cons_succ, List.set_cons_zero] at ha'
          subst ha'
          refine wpAnyH_next (i := 5) (v := .int .i64 (k : Int)) rfl (by kernel_rfl) (by kernel_rfl) (by kernel_rfl) (fun _ _ _ h => h) (by kernel_rfl) (fun W1 hW1 => by go_simp; done) hS0 (fun a' ha' => ?_)
          simp only [Act.put, List.getElem_toArray, List.getElem_cons_succ, List.getElem_cons_zero, List.setIfInBounds_toArray, List.set_cons_succ, List.set_cons_zero] at ha'
          subst ha'
          refine wpAnyH_next (i := 6) (v := .pointer (some ⟨b', off' + k * 33, none⟩)) rfl (by kernel_rfl) (by kernel_rfl) (by kernel_rfl) (fun _ _ _ h => h) (by kernel_rfl) (fun W1 hW1 => by go_simp; done) hS0 (fun a' ha' => ?_)
          simp only [Act.put, List.getElem_toArray, List.getElem_cons_succ, List.getElem_cons_zero, List.setIfInBounds_toArray, List.set_cons_succ, List.set_cons_zero] at ha'
          subst ha'
          refine wpAnyH_next (i := 7) (v := LkV y) rfl (by kernel_rfl) (by kernel_rfl) (by kernel_rfl) (fun _ _ _ h => h) (by kernel_rfl) (fun W1 hW1 => by exact exec_load_el (E := eLk) Tryz.underlying28 rfl sizeLk rfl rfl (hat2.below hW1)) hS0 (fun a' ha' => ?_)
          simp only [Act.put, List.getElem_toArray, List.getElem_cons_succ, List.getElem_cons_zero, List.setIfInBounds_toArray, List.set_cons_succ, List.set_cons_zero] at ha'
          subst ha'
          refine wpAnyH_next (i := 8) (v := .bool true) rfl (by kernel_rfl) (by kernel_rfl) (by kernel_rfl) (fun _ _ _ h => h) (by kernel_rfl) (fun W1 hW1 => by exact (exec_cmp_lk rfl rfl rfl).trans (by rw [hd])) hS0 (fun a' ha' => ?_)
          simp only [Act.put, List.getElem_toArray, List.getElem_cons_succ, List.getElem_cons_zero, List.setIfInBounds_toArray, List.set_cons_succ, List.set_cons_zero] at ha'
          subst ha'
          refine wpAnyH_fin (by kernel_rfl) ?_ _
          go_wp2_with fail
          go_ret
          exact ⟨by rw [HE.out]; rfl, hB.trans (hS0.mono hB.size)⟩
        case pos =>
          have HE := Lib.hid (take_more HTK.out HX.out HY.out he)
          have hd : (!decide (x = y)) = false := by simp [he]
          clear he
          go_wp2_with fail
          refine wp_held (fun W1 => Below wr.heap.size wr W1) (by kernel_rfl) ?_
          have hS0 : Below wr.heap.size wr wr.drew := (Below.refl _ wr).drew
          refine wpAnyH_next (i := 0) (v := .slice (some ⟨b, off, none⟩) ln c) rfl (by kernel_rfl) (by kernel_rfl) (by kernel_rfl) (fun _ _ _ h => h) (by kernel_rfl) (fun W1 hW1 => by go_simp; done) hS0 (fun a' ha' => ?_)
          simp only [Act.put, List.getElem_toArray, List.getElem_cons_zero, List.setIfInBounds_toArray, List.set_cons_succ, List.set_cons_zero] at ha'
          subst ha'
          refine wpAnyH_next (i := 1) (v := .int .i64 (k : Int)) rfl (by kernel_rfl) (by kernel_rfl) (by kernel_rfl) (fun _ _ _ h => h) (by kernel_rfl) (fun W1 hW1 => by go_simp; done) hS0 (fun a' ha' => ?_)
          simp only [Act.put, List.getElem_toArray, List.getElem_cons_succ, List.getElem_cons_zero, List.setIfInBounds_toArray, List.set_cons_succ, List.set_cons_zero] at ha'
          subst ha'
          refine wpAnyH_next (i := 2) (v := .pointer (some ⟨b, off + k * 33, none⟩)) rfl (by kernel_rfl) (by kernel_rfl) (by kernel_rfl) (fun _ _ _ h => h) (by kernel_rfl) (fun W1 hW1 => by go_simp; done) hS0 (fun a' ha' => ?_)
          simp only [Act.put, List.getElem_toArray, List.getElem_cons_succ, List.getElem_cons_zero, List.setIfInBounds_toArray, List.set_cons_succ, List.set_cons_zero] at ha'
          subst ha'
          refine wpAnyH_next (i := 3) (v := LkV x) rfl (by kernel_rfl) (by kernel_rfl) (by kernel_rfl) (fun _ _ _ h => h) (by kernel_rfl) (fun W1 hW1 => by exact exec_load_el (E := eLk) Tryz.underlying28 rfl sizeLk rfl rfl (hat1.below hW1)) hS0 (fun a' ha' => ?_)
          simp only [Act.put, List.getElem_toArray, List.getElem_cons_succ, List.getElem_cons_zero, List.setIfInBounds_toArray, List.set_cons_succ, List.set_cons_zero] at ha'
          subst ha'
          refine wpAnyH_next (i := 4) (v := .slice (some ⟨b', off', none⟩) mn d) rfl (by kernel_rfl) (by kernel_rfl) (by kernel_rfl) (fun _ _ _ h => h) (by kernel_rfl) (fun W1 hW1 => by go_simp; done) hS0 (fun a' ha' => ?_)
          simp only [Act.put, List.getElem_toArray, List.getElem_cons_succ, List.getElem_cons_zero, List.setIfInBounds_toArray, List.set_cons_succ, List.set_cons_zero] at ha'
          subst ha'
          refine wpAnyH_next (i := 5) (v := .int .i64 (k : Int)) rfl (by kernel_rfl) (by kernel_rfl) (by kernel_rfl) (fun _ _ _ h => h) (by kernel_rfl) (fun W1 hW1 => by go_simp; done) hS0 (fun a' ha' => ?_)
          simp only [Act.put, List.getElem_toArray, List.getElem_cons_succ, List.getElem_cons_zero, List.setIfInBounds_toArray, List.set_cons_succ, List.set_cons_zero] at ha'
          subst ha'
          refine wpAnyH_next (i := 6) (v := .pointer (some ⟨b', off' + k * 33, none⟩)) rfl (by kernel_rfl) (by kernel_rfl) (by kernel_rfl) (fun _ _ _ h => h) (by kernel_rfl) (fun W1 hW1 => by go_simp; done) hS0 (fun a' ha' => ?_)
          simp only [Act.put, List.getElem_toArray, List.getElem_cons_succ, List.getElem_cons_zero, List.setIfInBounds_toArray, List.set_cons_succ, List.set_cons_zero] at ha'
          subst ha'
          refine wpAnyH_next (i := 7) (v := LkV y) rfl (by kernel_rfl) (by kernel_rfl) (by kernel_rfl) (fun _ _ _ h => h) (by kernel_rfl) (fun W1 hW1 => by exact exec_load_el (E := eLk) Tryz.underlying28 rfl sizeLk rfl rfl (hat2.below hW1)) hS0 (fun a' ha' => ?_)
          simp only [Act.put, List.getElem_toArray, List.getElem_cons_succ, List.getElem_cons_zero, List.setIfInBounds_toArray, List.set_cons_succ, List.set_cons_zero] at ha'
          subst ha'
          refine wpAnyH_next (i := 8) (v := .bool false) rfl (by kernel_rfl) (by kernel_rfl) (by kernel_rfl) (fun _ _ _ h => h) (by kernel_rfl) (fun W1 hW1 => by exact (exec_cmp_lk rfl rfl rfl).trans (by rw [hd])) hS0 (fun a' ha' => ?_)
          simp only [Act.put, List.getElem_toArray, List.getElem_cons_succ, List.getElem_cons_zero, List.setIfInBounds_toArray, List.set_cons_succ, List.set_cons_zero] at ha'
          subst ha'
          refine wpAnyH_fin (by kernel_rfl) ?_ _
          go_wp2_with fail
          go_roundw
          case rel => exact ⟨k + 1, by omega, by go_num, HE.out, hB.trans (hS0.mono hB.size)⟩
          case measure => simp [RowKit.intOf]; omega
theorem r7Lists_any (w : World) (u v : Value) (l m : List Lk) (hl : Es eLk w u l) (hm : Es eLk w v m) (hll : l.length ≤ 1000000) (hml : m.length ≤ 1000000) :
    Calls Tryz.prog 19 #[u, v] w fun e W' => e = .returned (.bool (decide (l = m))) ∧ Below w.heap.size w W' := by
  obtain ⟨A, c, rfl, _⟩ := hl.form
  obtain ⟨B, d, rfl, _⟩ := hm.form
  exact r7Lists_form w A B c d l m hl hm hll hml
end Go.Proofs.YtljihmbmjpcfaaaGreat
