/- The reference's Compare, Has, Same. The reference's Text, digit. -/
import Derived.Test.YtljihmbmjpcfaaaGreatIds
import Derived.Test.YtljihmbmjpcfaaaGreatDrawnV
namespace Go.Proofs.YtljihmbmjpcfaaaGreat
open Go.RowKit
set_option maxRecDepth 100000

theorem cmpB_drop {xs ys : List UInt8} {k : Nat} {x y : UInt8} (hx : xs[k]? = some x) (hy : ys[k]? = some y) : cmpB (xs.drop k) (ys.drop k) = if x < y then -1 else if y < x then 1 else cmpB (xs.drop (k + 1)) (ys.drop (k + 1)) := by
  obtain ⟨h1, rfl⟩ := List.getElem?_eq_some_iff.1 hx
  obtain ⟨h2, rfl⟩ := List.getElem?_eq_some_iff.1 hy
  rw [List.drop_eq_getElem_cons h1, List.drop_eq_getElem_cons h2]
  rfl
theorem u8_lt (x y : UInt8) : (x < y) ↔ (x.toNat : Int) < (y.toNat : Int) := by
  rw [UInt8.lt_iff_toNat_lt]
  omega

set_option maxRecDepth 100000 in
set_option maxHeartbeats 1000000 in
theorem rCompare_any (w : World) (xs ys : List UInt8) (hx : xs.length = 32) (hy : ys.length = 32) :
    Calls Tryz.prog 100 #[IdV xs, IdV ys] w fun e W' => e = .returned (.int .i64 (cmpB xs ys)) ∧ Below w.heap.size w W' := by
  have b1 := IdAt.box w xs 25
  have b2 := IdAt.box (w.alloc (.cells (xs.map B8).toArray 25)) ys 25
  have b1' := b1.below ((Below.refl _ _).alloc (Nat.le_refl _) (.cells (ys.map B8).toArray 25))
  have hB0 : Below w.heap.size w ((w.alloc (.cells (xs.map B8).toArray 25)).alloc (.cells (ys.map B8).toArray 25)) := ((Below.refl _ w).alloc (Nat.le_refl _) _).alloc (by simp) _
  rw [World.size_alloc] at b2
  go_enter Tryz.func100, Tryz.ntmps100
  go_wp2_with fail
  obtain ⟨w2, hw2⟩ : ∃ x, x = (w.alloc (.cells (xs.map B8).toArray 25)).alloc (.cells (ys.map B8).toArray 25) := ⟨_, rfl⟩
  rw [← hw2] at b1' b2 hB0
  rw [← hw2]
  clear hw2 b1
  go_loopw [5] (fun i wr => ∃ k : Nat, k ≤ 32 ∧ i = .int .i64 k ∧ cmpB (xs.drop k) (ys.drop k) = cmpB xs ys ∧ Below w2.heap.size w2 wr) (fun i _ => 32 - (intOf i).toNat)
  case atStart => exact ⟨0, by omega, rfl, rfl, Below.refl _ _⟩
  case round =>
    obtain ⟨k, hk, rfl, hc, hB⟩ := hrel
    have HC := Lib.hid hc
    clear hc
    have hBw := hB0.trans (hB.mono hB0.size)
    by_cases hlt : k < 32
    case pos =>
      obtain ⟨x, hxk⟩ : ∃ x, xs[k]? = some x := ⟨_, List.getElem?_eq_getElem (by omega)⟩
      obtain ⟨y, hyk⟩ : ∃ y, ys[k]? = some y := ⟨_, List.getElem?_eq_getElem (by omega)⟩
      have c1 := (b1'.below hB).cell hxk
      have c2 := (b2.below hB).cell hyk
      rw [Nat.zero_add] at c1 c2
      have HD := Lib.hid (cmpB_drop hxk hyk)
      clear hxk hyk
      have hlt' : (k : Int) < 32 := by omega
      have h0' : (0 : Int) ≤ (k : Int) := by omega
      by_cases h1 : x < y
      · have h1' := (u8_lt x y).1 h1
        have HE := Lib.hid (show cmpB xs ys = -1 by rw [← HC.out, HD.out, if_pos h1])
        clear h1 HC HD
        go_wp2_with fail
        go_quiet (fail)
        go_wp2
        go_ret
        exact ⟨by rw [HE.out]; rfl, below_drewN hBw _⟩
      · have h1' : ¬ (x.toNat : Int) < (y.toNat : Int) := fun h => h1 ((u8_lt x y).2 h)
        by_cases h2 : y < x
        · have h2' := (u8_lt y x).1 h2
          have HE := Lib.hid (show cmpB xs ys = 1 by rw [← HC.out, HD.out, if_neg h1, if_pos h2])
          clear h1 h2 HC HD
          go_wp2_with fail
          go_quiet (fail)
          go_wp2_with fail
          go_quiet (fail)
          go_wp2
          go_ret
          exact ⟨by rw [HE.out]; rfl, below_drewN (below_drewN hBw _) _⟩
        · have h2' : ¬ (y.toNat : Int) < (x.toNat : Int) := fun h => h2 ((u8_lt y x).2 h)
          have HE := Lib.hid (show cmpB (xs.drop (k + 1)) (ys.drop (k + 1)) = cmpB xs ys by rw [← HC.out, HD.out, if_neg h1, if_neg h2])
          clear h1 h2 HC HD
          go_wp2_with fail
          go_quiet (fail)
          go_wp2_with fail
          go_quiet (fail)
          go_wp2_with fail
          go_roundw
          case rel => exact ⟨k + 1, by omega, by go_num, HE.out, below_drewN hB _⟩
          case measure => simp [intOf]; omega
    case neg =>
      obtain rfl : k = 32 := by omega
      have HE := Lib.hid (show cmpB xs ys = 0 by rw [← HC.out, List.drop_eq_nil_of_le (by omega)]; rfl)
      go_wp2
      go_ret
      exact ⟨by rw [HE.out]; rfl, hBw⟩

set_option maxRecDepth 100000 in
set_option maxHeartbeats 1000000 in
theorem rHas_form (w : World) (A : Option Addr) (c : Nat) (l : List (List UInt8)) (hl : Is w (.slice A l.length c) l) (hm : l.length ≤ 1000000) (id : List UInt8) (hid : id.length = 32) :
    Calls Tryz.prog 101 #[.slice A l.length c, IdV id] w fun e W' => e = .returned (.bool (decide (id ∈ l))) ∧ Below w.heap.size w W' := by
  have b1 := IdAt.box w id 25
  have hB0 : Below w.heap.size w (w.alloc (.cells (id.map B8).toArray 25)) := (Below.refl _ w).alloc (Nat.le_refl _) _
  go_enter Tryz.func101, Tryz.ntmps101
  go_wp2_with fail
  obtain ⟨w2, hw2⟩ : ∃ x, x = w.alloc (.cells (id.map B8).toArray 25) := ⟨_, rfl⟩
  rw [← hw2] at b1 hB0
  rw [← hw2]
  clear hw2
  go_loopw [5] (fun i wr => ∃ k : Nat, k ≤ l.length ∧ i = .int .i64 k ∧ ¬ id ∈ l.take k ∧ Below w2.heap.size w2 wr) (fun i _ => l.length - (intOf i).toNat)
  case atStart => exact ⟨0, by omega, rfl, by simp, Below.refl _ _⟩
  case round =>
    obtain ⟨k, hk, rfl, hni, hB⟩ := hrel
    have HN := Lib.hid hni
    clear hni
    have hBw := hB0.trans (hB.mono hB0.size)
    by_cases hlt : k < l.length
    case pos =>
      obtain ⟨x, hxk⟩ : ∃ x, l[k]? = some x := ⟨_, List.getElem?_eq_getElem hlt⟩
      obtain ⟨hx32, b, off, rfl, hat⟩ := hl.at hxk
      have hS : IdAt wr.drew b (off + k * 32) x ∧ IdAt wr.drew w.heap.size 0 id := ⟨(hat.below hBw).below (Below.refl _ _).drew, (b1.below hB).below (Below.refl _ _).drew⟩
      have HX := Lib.hid hxk
      clear hxk
      go_wp2_with fail
      refine wp_held (fun W1 => IdAt W1 b (off + k * 32) x ∧ IdAt W1 w.heap.size 0 id) (by kernel_rfl) ?_
      refine wpAnyH_next (i := 0) (v := .slice (some ⟨b, off, none⟩) l.length c) rfl (by kernel_rfl) (by kernel_rfl) (by kernel_rfl) (fun _ _ _ h => h) (by kernel_rfl) (fun W1 hW1 => by go_simp) hS (fun a' ha' => ?_)
      simp only [Act.put, List.getElem_toArray, List.getElem_cons_zero, List.setIfInBounds_toArray, List.set_cons_succ, List.set_cons_zero] at ha'
      subst ha'
      refine wpAnyH_next (i := 1) (v := .int .i64 (k : Int)) rfl (by kernel_rfl) (by kernel_rfl) (by kernel_rfl) (fun _ _ _ h => h) (by kernel_rfl) (fun W1 hW1 => by go_simp) hS (fun a' ha' => ?_)
      simp only [Act.put, List.getElem_toArray, List.getElem_cons_succ, List.getElem_cons_zero, List.setIfInBounds_toArray, List.set_cons_succ, List.set_cons_zero] at ha'
      subst ha'
      refine wpAnyH_next (i := 2) (v := .pointer (some ⟨b, off + k * 32, none⟩)) rfl (by kernel_rfl) (by kernel_rfl) (by kernel_rfl) (fun _ _ _ h => h) (by kernel_rfl) (fun W1 hW1 => by go_simp) hS (fun a' ha' => ?_)
      simp only [Act.put, List.getElem_toArray, List.getElem_cons_succ, List.getElem_cons_zero, List.setIfInBounds_toArray, List.set_cons_succ, List.set_cons_zero] at ha'
      subst ha'
      refine wpAnyH_next (i := 3) (v := IdV x) rfl (by kernel_rfl) (by kernel_rfl) (by kernel_rfl) (fun _ _ _ h => h) (by kernel_rfl) (fun W1 hW1 => by exact exec_load_id rfl rfl hx32 hW1.1) hS (fun a' ha' => ?_)
      simp only [Act.put, List.getElem_toArray, List.getElem_cons_succ, List.getElem_cons_zero, List.setIfInBounds_toArray, List.set_cons_succ, List.set_cons_zero] at ha'
      subst ha'
      refine wpAnyH_next (i := 4) (v := IdV id) rfl (by kernel_rfl) (by kernel_rfl) (by kernel_rfl) (fun _ _ _ h => h) (by kernel_rfl) (fun W1 hW1 => by exact exec_load_id rfl rfl hid hW1.2) hS (fun a' ha' => ?_)
      simp only [Act.put, List.getElem_toArray, List.getElem_cons_succ, List.getElem_cons_zero, List.setIfInBounds_toArray, List.set_cons_succ, List.set_cons_zero] at ha'
      subst ha'
      refine wpAnyH_next (i := 5) (v := .bool (x == id)) rfl (by kernel_rfl) (by kernel_rfl) (by kernel_rfl) (fun _ _ _ h => h) (by kernel_rfl) (fun W1 hW1 => by have heq := equal_id W1 hx32 hid; go_simp) hS (fun a' ha' => ?_)
      simp only [Act.put, List.getElem_toArray, List.getElem_cons_succ, List.getElem_cons_zero, List.setIfInBounds_toArray, List.set_cons_succ, List.set_cons_zero] at ha'
      subst ha'
      refine wpAnyH_fin (by kernel_rfl) ?_ _
      clear hS
      by_cases he : x = id
      · have heb : (x == id) = true := by simpa using he
        rw [heb]
        have HE := Lib.hid (show decide (id ∈ l) = true by simpa using List.mem_of_getElem? (he ▸ HX.out))
        clear he heb
        go_wp2
        go_ret
        exact ⟨by rw [HE.out]; rfl, hBw.drew⟩
      · have heb : (x == id) = false := by simpa using he
        rw [heb]
        have HE := Lib.hid (show ¬ id ∈ l.take (k + 1) by
          rw [List.take_add_one, HX.out]
          simp only [Option.toList_some, List.mem_append, List.mem_singleton, not_or]
          exact ⟨HN.out, fun h => he h.symm⟩)
        clear he heb
        go_wp2_with fail
        go_roundw
        case rel => exact ⟨k + 1, by omega, by go_num, HE.out, hB.drew⟩
        case measure => simp [intOf]; omega
    case neg =>
      obtain rfl : k = l.length := by omega
      have HE := Lib.hid (show decide (id ∈ l) = false by have := HN.out; rw [List.take_length] at this; simpa using this)
      go_wp2
      go_ret
      exact ⟨by rw [HE.out]; rfl, hBw⟩
theorem rHas_any (w : World) (v : Value) (l : List (List UInt8)) (hl : Is w v l) (hm : l.length ≤ 1000000) (id : List UInt8) (hid : id.length = 32) :
    Calls Tryz.prog 101 #[v, IdV id] w fun e W' => e = .returned (.bool (decide (id ∈ l))) ∧ Below w.heap.size w W' := by
  obtain ⟨A, c, rfl, _⟩ := hl.form
  exact rHas_form w A c l hl hm id hid

theorem take_same {l m : List (List UInt8)} {k : Nat} {x y : List UInt8} (hx : l[k]? = some x) (hy : m[k]? = some y) (h : l.take k = m.take k) : l.take (k + 1) = m.take (k + 1) ↔ x = y := by
  rw [List.take_add_one, List.take_add_one, hx, hy, h]
  simp

set_option maxRecDepth 100000 in
set_option maxHeartbeats 1000000 in
theorem rSame_form (w : World) (A B : Option Addr) (c d : Nat) (l m : List (List UInt8)) (hl : Is w (.slice A l.length c) l) (hm : Is w (.slice B m.length d) m) (hll : l.length ≤ 1000000) (hml : m.length ≤ 1000000) :
    Calls Tryz.prog 27 #[.slice A l.length c, .slice B m.length d] w fun e W' => e = .returned (.bool (decide (l = m))) ∧ Below w.heap.size w W' := by
  by_cases hlm : l.length = m.length
  case neg =>
    have hne : ¬ (l.length : Int) = (m.length : Int) := by omega
    have HE := Lib.hid (show decide (l = m) = false by simpa using fun h => hlm (congrArg List.length h))
    clear hlm
    go_enter Tryz.func27, Tryz.ntmps27
    go_wp2
    go_ret
    exact ⟨by rw [HE.out]; rfl, Below.refl _ _⟩
  case pos =>
  have HLM := Lib.hid hlm
  go_enter Tryz.func27, Tryz.ntmps27
  rw [← hlm]
  rw [← hlm] at hm
  clear hlm hml
  go_wp2_with fail
  go_loopw [5] (fun i wr => ∃ k : Nat, k ≤ l.length ∧ i = .int .i64 k ∧ l.take k = m.take k ∧ Below w.heap.size w wr) (fun i _ => l.length - (intOf i).toNat)
  case atStart => exact ⟨0, by omega, rfl, by simp, Below.refl _ _⟩
  case round =>
    obtain ⟨k, hk, rfl, hni, hB⟩ := hrel
    have HN := Lib.hid hni
    clear hni
    by_cases hlt : k < l.length
    case pos =>
      obtain ⟨x, hxk⟩ : ∃ x, l[k]? = some x := ⟨_, List.getElem?_eq_getElem hlt⟩
      obtain ⟨y, hyk⟩ : ∃ y, m[k]? = some y := ⟨_, List.getElem?_eq_getElem (by rw [← HLM.out]; exact hlt)⟩
      obtain ⟨hx32, b, off, rfl, hat⟩ := hl.at hxk
      obtain ⟨hy32, b', off', rfl, hat'⟩ := hm.at hyk
      have hS : IdAt wr.drew b (off + k * 32) x ∧ IdAt wr.drew b' (off' + k * 32) y := ⟨(hat.below hB).below (Below.refl _ _).drew, (hat'.below hB).below (Below.refl _ _).drew⟩
      have HX := Lib.hid (take_same hxk hyk HN.out)
      clear hxk hyk
      go_wp2_with fail
      refine wp_held (fun W1 => IdAt W1 b (off + k * 32) x ∧ IdAt W1 b' (off' + k * 32) y) (by kernel_rfl) ?_
      refine wpAnyH_next (i := 0) (v := .slice (some ⟨b, off, none⟩) l.length c) rfl (by kernel_rfl) (by kernel_rfl) (by kernel_rfl) (fun _ _ _ h => h) (by kernel_rfl) (fun W1 hW1 => by go_simp) hS (fun a' ha' => ?_)
      simp only [Act.put, List.getElem_toArray, List.getElem_cons_zero, List.setIfInBounds_toArray, List.set_cons_succ, List.set_cons_zero] at ha'
      subst ha'
      refine wpAnyH_next (i := 1) (v := .int .i64 (k : Int)) rfl (by kernel_rfl) (by kernel_rfl) (by kernel_rfl) (fun _ _ _ h => h) (by kernel_rfl) (fun W1 hW1 => by go_simp) hS (fun a' ha' => ?_)
      simp only [Act.put, List.getElem_toArray, List.getElem_cons_succ, List.getElem_cons_zero, List.setIfInBounds_toArray, List.set_cons_succ, List.set_cons_zero] at ha'
      subst ha'
      refine wpAnyH_next (i := 2) (v := .pointer (some ⟨b, off + k * 32, none⟩)) rfl (by kernel_rfl) (by kernel_rfl) (by kernel_rfl) (fun _ _ _ h => h) (by kernel_rfl) (fun W1 hW1 => by go_simp) hS (fun a' ha' => ?_)
      simp only [Act.put, List.getElem_toArray, List.getElem_cons_succ, List.getElem_cons_zero, List.setIfInBounds_toArray, List.set_cons_succ, List.set_cons_zero] at ha'
      subst ha'
      refine wpAnyH_next (i := 3) (v := IdV x) rfl (by kernel_rfl) (by kernel_rfl) (by kernel_rfl) (fun _ _ _ h => h) (by kernel_rfl) (fun W1 hW1 => by exact exec_load_id rfl rfl hx32 hW1.1) hS (fun a' ha' => ?_)
      simp only [Act.put, List.getElem_toArray, List.getElem_cons_succ, List.getElem_cons_zero, List.setIfInBounds_toArray, List.set_cons_succ, List.set_cons_zero] at ha'
      subst ha'
      refine wpAnyH_next (i := 4) (v := .slice (some ⟨b', off', none⟩) l.length d) rfl (by kernel_rfl) (by kernel_rfl) (by kernel_rfl) (fun _ _ _ h => h) (by kernel_rfl) (fun W1 hW1 => by go_simp) hS (fun a' ha' => ?_)
      simp only [Act.put, List.getElem_toArray, List.getElem_cons_succ, List.getElem_cons_zero, List.setIfInBounds_toArray, List.set_cons_succ, List.set_cons_zero] at ha'
      subst ha'
      refine wpAnyH_next (i := 5) (v := .int .i64 (k : Int)) rfl (by kernel_rfl) (by kernel_rfl) (by kernel_rfl) (fun _ _ _ h => h) (by kernel_rfl) (fun W1 hW1 => by go_simp) hS (fun a' ha' => ?_)
      simp only [Act.put, List.getElem_toArray, List.getElem_cons_succ, List.getElem_cons_zero, List.setIfInBounds_toArray, List.set_cons_succ, List.set_cons_zero] at ha'
      subst ha'
      refine wpAnyH_next (i := 6) (v := .pointer (some ⟨b', off' + k * 32, none⟩)) rfl (by kernel_rfl) (by kernel_rfl) (by kernel_rfl) (fun _ _ _ h => h) (by kernel_rfl) (fun W1 hW1 => by go_simp) hS (fun a' ha' => ?_)
      simp only [Act.put, List.getElem_toArray, List.getElem_cons_succ, List.getElem_cons_zero, List.setIfInBounds_toArray, List.set_cons_succ, List.set_cons_zero] at ha'
      subst ha'
      refine wpAnyH_next (i := 7) (v := IdV y) rfl (by kernel_rfl) (by kernel_rfl) (by kernel_rfl) (fun _ _ _ h => h) (by kernel_rfl) (fun W1 hW1 => by exact exec_load_id rfl rfl hy32 hW1.2) hS (fun a' ha' => ?_)
      simp only [Act.put, List.getElem_toArray, List.getElem_cons_succ, List.getElem_cons_zero, List.setIfInBounds_toArray, List.set_cons_succ, List.set_cons_zero] at ha'
      subst ha'
      refine wpAnyH_next (i := 8) (v := .bool (!(x == y))) rfl (by kernel_rfl) (by kernel_rfl) (by kernel_rfl) (fun _ _ _ h => h) (by kernel_rfl) (fun W1 hW1 => by have heq := equal_id W1 hx32 hy32; go_simp) hS (fun a' ha' => ?_)
      simp only [Act.put, List.getElem_toArray, List.getElem_cons_succ, List.getElem_cons_zero, List.setIfInBounds_toArray, List.set_cons_succ, List.set_cons_zero] at ha'
      subst ha'
      refine wpAnyH_fin (by kernel_rfl) ?_ _
      clear hS
      by_cases he : x = y
      · have heb : (x == y) = true := by simpa using he
        rw [heb]
        have HE := Lib.hid (HX.out.2 he)
        clear he heb
        go_wp2_with fail
        go_roundw
        case rel => exact ⟨k + 1, by omega, by go_num, HE.out, hB.drew⟩
        case measure => simp [intOf]; omega
      · have heb : (x == y) = false := by simpa using he
        rw [heb]
        have HE := Lib.hid (show decide (l = m) = false by simpa using fun h : l = m => he (HX.out.1 (by rw [h])))
        clear he heb
        go_wp2
        go_ret
        exact ⟨by rw [HE.out]; rfl, hB.drew⟩
    case neg =>
      obtain rfl : k = l.length := by omega
      have HE := Lib.hid (show decide (l = m) = true by have := HN.out; rw [List.take_length, HLM.out, List.take_length] at this; simpa using this)
      go_wp2
      go_ret
      exact ⟨by rw [HE.out]; rfl, hB⟩
theorem rSame_any (w : World) (v u : Value) (l m : List (List UInt8)) (hl : Is w v l) (hm : Is w u m) (hll : l.length ≤ 1000000) (hml : m.length ≤ 1000000) :
    Calls Tryz.prog 27 #[v, u] w fun e W' => e = .returned (.bool (decide (l = m))) ∧ Below w.heap.size w W' := by
  obtain ⟨A, c, rfl, _⟩ := hl.form
  obtain ⟨B, d, rfl, _⟩ := hm.form
  exact rSame_form w A B c d l m hl hm hll hml
end Go.Proofs.YtljihmbmjpcfaaaGreat
namespace Go.Proofs.YtljihmbmjpcfaaaGreat
open Go.RowKit
set_option maxRecDepth 100000

/-- The digits. -/
def digs : List UInt8 := [48, 49, 50, 51, 52, 53, 54, 55, 56, 57, 97, 98, 99, 100, 101, 102]
def hexd (n : Nat) : UInt8 := digs.getD n 0
/-- An id's text. -/
def textB (xs : List UInt8) : List UInt8 := xs.flatMap fun c => [hexd (c.toNat / 16), hexd (c.toNat % 16)]
theorem textB_succ {xs : List UInt8} {k : Nat} {x : UInt8} (hx : xs[k]? = some x) : textB (xs.take (k + 1)) = textB (xs.take k) ++ [hexd (x.toNat / 16), hexd (x.toNat % 16)] := by
  unfold textB
  rw [List.take_add_one, hx, List.flatMap_append]
  simp
theorem textB_length (xs : List UInt8) : (textB xs).length = 2 * xs.length := by
  induction xs with
  | nil => rfl
  | cons x xs ih => simp only [textB, List.flatMap_cons, List.length_append, List.length_cons, List.length_nil] at ih ⊢; omega
theorem dig_ext {n : Nat} (h : n < 16) : ({ data := #[48, 49, 50, 51, 52, 53, 54, 55, 56, 57, 97, 98, 99, 100, 101, 102] } : ByteArray).extract n (n + 1) = ⟨[hexd n].toArray⟩ := by
  have key : ∀ n : Fin 16, ({ data := #[48, 49, 50, 51, 52, 53, 54, 55, 56, 57, 97, 98, 99, 100, 101, 102] } : ByteArray).extract n.1 (n.1 + 1) = ⟨[hexd n.1].toArray⟩ := by decide +kernel
  exact key ⟨n, h⟩
theorem str_cat (a b : Array UInt8) : ({ data := a } : ByteArray) ++ ({ data := b } : ByteArray) = ⟨a ++ b⟩ := by
  apply ByteArray.ext
  simp
/-- A digit's number. -/
def digV (c : UInt8) : Int := if 48 ≤ c.toNat ∧ c.toNat ≤ 57 then (c.toNat : Int) - 48 else if 97 ≤ c.toNat ∧ c.toNat ≤ 102 then (c.toNat : Int) - 87 else -1

end Go.Proofs.YtljihmbmjpcfaaaGreat
