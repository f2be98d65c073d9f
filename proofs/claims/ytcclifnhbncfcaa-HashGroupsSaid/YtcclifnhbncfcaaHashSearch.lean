/- slices.BinarySearchFunc at ids, by Compare; the program's Has. -/
import Derived.Test.YtcclifnhbncfcaaHashKit
import Derived.Test.YtcclifnhbncfcaaDrawnV
import Derived.Deep.Light
import Derived.BigQuiet
namespace Go.Proofs.Ytcclifnhbncfcaa
open Go.RowKit Go.Great
set_option maxRecDepth 100000

/-- Where one searches on: those ahead stand ahead of id, those from j on don't. -/
structure Part (l : List (List UInt8)) (id : List UInt8) (p q : Nat) : Prop where
  le : p ≤ q
  top : q ≤ l.length
  low : ∀ t x, t < p → l[t]? = some x → cmpB x id < 0
  high : ∀ t x, q ≤ t → l[t]? = some x → ¬ cmpB x id < 0
theorem ss_at {l : List (List UInt8)} (hs : SS l) {i j : Nat} {x y : List UInt8} (hx : l[i]? = some x) (hy : l[j]? = some y) (h : i < j) : cmpB x y < 0 := by
  obtain ⟨h1, rfl⟩ := List.getElem?_eq_some_iff.1 hx
  obtain ⟨h2, rfl⟩ := List.getElem?_eq_some_iff.1 hy
  exact List.pairwise_iff_getElem.1 hs i j h1 h2 h
theorem Part.up {l : List (List UInt8)} {id : List UInt8} {p q m : Nat} (h : Part l id p q) (hs : SS l) (h32 : A32 l) (hid : id.length = 32) {x : List UInt8} (hx : l[m]? = some x) (hm : p ≤ m) (hmq : m < q) (hc : cmpB x id < 0) : Part l id (m + 1) q :=
  ⟨by omega, h.top, fun t y ht hy => by
    by_cases htm : t = m
    · subst htm; rw [hx] at hy; cases hy; exact hc
    · exact cmpB_trans y x id (by rw [h32 y (List.mem_of_getElem? hy), h32 x (List.mem_of_getElem? hx)]) (by rw [h32 x (List.mem_of_getElem? hx), hid]) (ss_at hs hy hx (by omega)) hc, h.high⟩
theorem Part.down {l : List (List UInt8)} {id : List UInt8} {p q m : Nat} (h : Part l id p q) (hs : SS l) (h32 : A32 l) (hid : id.length = 32) {x : List UInt8} (hx : l[m]? = some x) (hm : p ≤ m) (hmq : m < q) (hc : ¬ cmpB x id < 0) : Part l id p m :=
  ⟨hm, by have := h.top; omega, h.low, fun t y ht hy hlt => by
    by_cases htm : t = m
    · subst htm; rw [hx] at hy; cases hy; exact hc hlt
    · exact hc (cmpB_trans x y id (by rw [h32 y (List.mem_of_getElem? hy), h32 x (List.mem_of_getElem? hx)]) (by rw [h32 y (List.mem_of_getElem? hy), hid]) (ss_at hs hx hy (by omega)) hlt)⟩
theorem Part.found {l : List (List UInt8)} {id : List UInt8} {p : Nat} (h : Part l id p p) (hs : SS l) (h32 : A32 l) (hid : id.length = 32) {x : List UInt8} (hx : l[p]? = some x) : decide (cmpB x id = 0) = decide (id ∈ l) := by
  have hx32 := h32 x (List.mem_of_getElem? hx)
  congr 1
  refine propext ⟨fun e => ?_, fun hm => ?_⟩
  · rw [← cmpB_zero x id (by omega) e]; exact List.mem_of_getElem? hx
  · obtain ⟨t, ht, rfl⟩ := List.getElem_of_mem hm
    have htl : l[t]? = some l[t] := List.getElem?_eq_getElem ht
    rcases Nat.lt_trichotomy t p with h1 | h1 | h1
    · have := h.low t _ h1 htl; rw [cmpB_same] at this; omega
    · subst h1; rw [htl] at hx; cases hx; exact cmpB_same _
    · exact absurd (ss_at hs hx htl h1) (h.high p x (Nat.le_refl _) hx)
theorem Part.none {l : List (List UInt8)} {id : List UInt8} (h : Part l id l.length l.length) : decide (id ∈ l) = false := by
  simp only [decide_eq_false_iff_not]
  intro hm
  obtain ⟨t, ht, rfl⟩ := List.getElem_of_mem hm
  have := h.low t _ ht (List.getElem?_eq_getElem ht)
  rw [cmpB_same] at this
  omega

set_option maxRecDepth 100000 in
set_option maxHeartbeats 2000000 in
theorem idSearch_form (w : World) (A : Option Addr) (c : Nat) (l : List (List UInt8)) (hl : Is w (.slice A l.length c) l) (hm : l.length ≤ 1000000) (hs : SS l) (id : List UInt8) (hid : id.length = 32) :
    Calls Try.prog 39 #[.slice A l.length c, IdV id, .func (.func 10) #[] #[]] w fun e W' => ∃ n, e = .returned (.tuple #[.int .i64 n, .bool (decide (id ∈ l))]) ∧ Below w.heap.size w W' := by
  have h32 : A32 l := hl.1
  have b1 := IdAt.box w id 23
  have hB0 : Below w.heap.size w (w.alloc (.cells (id.map B8).toArray 23)) := (Below.refl _ w).alloc (Nat.le_refl _) _
  have hl2 := hl.below hB0
  have hP0 : Part l id 0 l.length := ⟨Nat.zero_le _, Nat.le_refl _, fun t x ht => by omega, fun t x ht hx => by have := (List.getElem?_eq_some_iff.1 hx).1; omega⟩
  have HP0 := Lib.hid hP0
  have HS := Lib.hid (And.intro hs h32)
  have eg : ∀ args w, (callFunc 10 args).run Try.prog w = .ok (.enter 10 args) w := enters_of Try.func10 (by kernel_rfl) rfl
  clear hl hs h32 hP0
  go_enter Try.func39, Try.ntmps39
  go_wp2_with fail
  generalize w.alloc (.cells (id.map B8).toArray 23) = w2 at *
  go_loopw [9, 10] (fun i j wr => ∃ p q : Nat, i = .int .i64 p ∧ j = .int .i64 q ∧ Part l id p q ∧ Below w2.heap.size w2 wr) (fun i j _ => (intOf j).toNat - (intOf i).toNat)
  case atStart => exact ⟨0, l.length, rfl, rfl, HP0.out, Below.refl _ _⟩
  case round =>
    obtain ⟨p, q, rfl, rfl, hP, hB⟩ := hrel
    have hle := hP.le
    have htop := hP.top
    have HP := Lib.hid hP
    have hBw := hB0.trans (hB.mono hB0.size)
    have b1' := b1.below hB
    have hl3 := hl2.below hB
    clear HP0 hP
    by_cases hlt : p < q
    case pos =>
      obtain ⟨m, hmd⟩ : ∃ m : Nat, m = (p + q) / 2 := ⟨_, rfl⟩
      have hm1 : p ≤ m := by omega
      have hm2 : m < q := by omega
      have hm' : ((p : Int) + (q : Int)) / 2 = (m : Int) := by omega
      obtain ⟨x, hxm⟩ : ∃ x, l[m]? = some x := ⟨_, List.getElem?_eq_getElem (by omega)⟩
      obtain ⟨hx32, b, off, rfl, hat⟩ := hl3.at hxm
      have HX := Lib.hid hxm
      have bm : (m : Int) < (l.length : Int) := by omega
      clear hxm hmd hl3
      go_wp2_with fail
      refine wp_vals_put [(.func (.func 10) #[] #[]), (.slice (some ⟨b, off, none⟩) l.length c), (.int .i64 (m : Int)), (.pointer (some ⟨b, off + m * 32, none⟩)), (IdV x), (IdV id), (.int .i64 (cmpB x id)), (.bool (decide (cmpB x id < 0)))] (by kernel_rfl) (by kernel_rfl) (by kernel_rfl) rfl ?_ ?_
      case refine_1 =>
        go_light
        intro i o ho a W hdf hBW hF hD
        match i, ho with
        | 0, ho =>
          cases ho
          have r2 : a.tmps[2]?.getD undef = (.func (.func 10) #[] #[]) := hF 2 (by kernel_rfl)
          unfold Oper.wp
          go_simp
          exact ⟨_, rfl, rfl, Below.refl _ _⟩
        | 1, ho =>
          cases ho
          have r0 : a.tmps[0]?.getD undef = (.slice (some ⟨b, off, none⟩) l.length c) := hF 0 (by kernel_rfl)
          unfold Oper.wp
          go_simp
          exact ⟨_, rfl, rfl, Below.refl _ _⟩
        | 2, ho =>
          cases ho
          have r11 : a.tmps[11]?.getD undef = (.int .i64 (m : Int)) := hF 11 (by kernel_rfl)
          unfold Oper.wp
          go_simp
          exact ⟨_, rfl, rfl, Below.refl _ _⟩
        | 3, ho =>
          cases ho
          have r25 : a.tmps[25]?.getD undef = (.slice (some ⟨b, off, none⟩) l.length c) := hD 1 (by kernel_rfl)
          have r26 : a.tmps[26]?.getD undef = (.int .i64 (m : Int)) := hD 2 (by kernel_rfl)
          unfold Oper.wp
          go_simp
          exact ⟨_, rfl, rfl, Below.refl _ _⟩
        | 4, ho =>
          cases ho
          have r27 : a.tmps[27]?.getD undef = (.pointer (some ⟨b, off + m * 32, none⟩)) := hD 3 (by kernel_rfl)
          exact wp_load_idV rfl (eval_tmp r27) hx32 (hat.below hBW) ⟨_, rfl, rfl, Below.refl _ _⟩
        | 5, ho =>
          cases ho
          have r4 : a.tmps[4]?.getD undef = (.pointer (some ⟨w.heap.size, 0, none⟩)) := hF 4 (by kernel_rfl)
          exact wp_load_idV rfl (eval_tmp r4) hid (b1'.below hBW) ⟨_, rfl, rfl, Below.refl _ _⟩
        | 6, ho =>
          cases ho
          have r24 : a.tmps[24]?.getD undef = (.func (.func 10) #[] #[]) := hD 0 (by kernel_rfl)
          have r28 : a.tmps[28]?.getD undef = (IdV x) := hD 4 (by kernel_rfl)
          have r29 : a.tmps[29]?.getD undef = (IdV id) := hD 5 (by kernel_rfl)
          unfold Oper.wp
          go_simp
          refine (hCompare_any W x id hx32 hid).mono ?_
          rintro e W2 ⟨rfl, hb2⟩
          exact ⟨_, rfl, rfl, hb2⟩
        | 7, ho =>
          cases ho
          have r30 : a.tmps[30]?.getD undef = (.int .i64 (cmpB x id)) := hD 6 (by kernel_rfl)
          unfold Oper.wp
          go_simp
          exact ⟨_, rfl, rfl, Below.refl _ _⟩
        | i + 8, ho => exact absurd (Array.getElem?_eq_some_iff.1 ho).1 (by simp)
      case refine_2 =>
        intro a' ha' W hBW
        simp only [putsL, Act.put, List.getElem_toArray, List.getElem_cons_succ, List.getElem_cons_zero, List.setIfInBounds_toArray, List.set_cons_succ, List.set_cons_zero] at ha'
        subst ha'
        have hB3 := hB.trans (hBW.mono hB.size)
        by_cases hcx : cmpB x id < 0
        · have hcd : decide (cmpB x id < 0) = true := by simpa using hcx
          rw [hcd]
          have HE := Lib.hid (HP.out.up HS.out.1 HS.out.2 hid HX.out hm1 hm2 hcx)
          clear hcx hcd HP HX
          go_wp2_with fail
          go_roundw
          case rel => exact ⟨m + 1, q, by go_num, rfl, HE.out, hB3⟩
          case measure => simp [intOf]; omega
        · have hcd : decide (cmpB x id < 0) = false := by simpa using hcx
          rw [hcd]
          have HE := Lib.hid (HP.out.down HS.out.1 HS.out.2 hid HX.out hm1 hm2 hcx)
          clear hcx hcd HP HX
          go_wp2_with fail
          go_roundw
          case rel => exact ⟨p, m, rfl, rfl, HE.out, hB3⟩
          case measure => simp [intOf]; omega
    case neg =>
      obtain rfl : p = q := by omega
      by_cases hpl : p < l.length
      case pos =>
        obtain ⟨x, hxm⟩ : ∃ x, l[p]? = some x := ⟨_, List.getElem?_eq_getElem hpl⟩
        obtain ⟨hx32, b, off, rfl, hat⟩ := hl3.at hxm
        have HF := Lib.hid (HP.out.found HS.out.1 HS.out.2 hid hxm)
        have bm : (p : Int) < (l.length : Int) := by omega
        clear hxm hl3 HP
        go_wp2_with fail
        refine wp_vals_put [(.int .i64 (p : Int)), (.int .i64 (p : Int)), (.int .i64 (l.length : Int)), (.bool true), (.bool true), (.func (.func 10) #[] #[]), (.slice (some ⟨b, off, none⟩) l.length c), (.int .i64 (p : Int)), (.pointer (some ⟨b, off + p * 32, none⟩)), (IdV x), (IdV id), (.int .i64 (cmpB x id)), (.bool (decide (cmpB x id = 0))), (.bool (decide (cmpB x id = 0))), (.int .i64 (p : Int)), (.bool (decide (cmpB x id = 0)))] (by kernel_rfl) (by kernel_rfl) (by kernel_rfl) rfl ?_ ?_
        case refine_1 =>
          go_light
          intro i o ho a W hdf hBW hF hD
          match i, ho with
        | 0, ho =>
          cases ho
          have r9 : a.tmps[9]?.getD undef = (.int .i64 (p : Int)) := hF 9 (by kernel_rfl)
          unfold Oper.wp
          go_simp
          exact ⟨_, rfl, rfl, Below.refl _ _⟩
        | 1, ho =>
          cases ho
          have r9 : a.tmps[9]?.getD undef = (.int .i64 (p : Int)) := hF 9 (by kernel_rfl)
          unfold Oper.wp
          go_simp
          exact ⟨_, rfl, rfl, Below.refl _ _⟩
        | 2, ho =>
          cases ho
          have r8 : a.tmps[8]?.getD undef = (.int .i64 (l.length : Int)) := hF 8 (by kernel_rfl)
          unfold Oper.wp
          go_simp
          exact ⟨_, rfl, rfl, Below.refl _ _⟩
        | 3, ho =>
          cases ho
          have r36 : a.tmps[36]?.getD undef = (.int .i64 (p : Int)) := hD 1 (by kernel_rfl)
          have r37 : a.tmps[37]?.getD undef = (.int .i64 (l.length : Int)) := hD 2 (by kernel_rfl)
          unfold Oper.wp
          go_simp
          exact ⟨_, rfl, rfl, Below.refl _ _⟩
        | 4, ho =>
          cases ho
          have r38 : a.tmps[38]?.getD undef = (.bool true) := hD 3 (by kernel_rfl)
          unfold Oper.wp
          go_simp
          exact ⟨_, rfl, rfl, Below.refl _ _⟩
        | 5, ho =>
          cases ho
          have r2 : a.tmps[2]?.getD undef = (.func (.func 10) #[] #[]) := hF 2 (by kernel_rfl)
          unfold Oper.wp
          go_simp
          exact ⟨_, rfl, rfl, Below.refl _ _⟩
        | 6, ho =>
          cases ho
          have r0 : a.tmps[0]?.getD undef = (.slice (some ⟨b, off, none⟩) l.length c) := hF 0 (by kernel_rfl)
          unfold Oper.wp
          go_simp
          exact ⟨_, rfl, rfl, Below.refl _ _⟩
        | 7, ho =>
          cases ho
          have r9 : a.tmps[9]?.getD undef = (.int .i64 (p : Int)) := hF 9 (by kernel_rfl)
          unfold Oper.wp
          go_simp
          exact ⟨_, rfl, rfl, Below.refl _ _⟩
        | 8, ho =>
          cases ho
          have r41 : a.tmps[41]?.getD undef = (.slice (some ⟨b, off, none⟩) l.length c) := hD 6 (by kernel_rfl)
          have r42 : a.tmps[42]?.getD undef = (.int .i64 (p : Int)) := hD 7 (by kernel_rfl)
          unfold Oper.wp
          go_simp
          exact ⟨_, rfl, rfl, Below.refl _ _⟩
        | 9, ho =>
          cases ho
          have r43 : a.tmps[43]?.getD undef = (.pointer (some ⟨b, off + p * 32, none⟩)) := hD 8 (by kernel_rfl)
          exact wp_load_idV rfl (eval_tmp r43) hx32 (hat.below hBW) ⟨_, rfl, rfl, Below.refl _ _⟩
        | 10, ho =>
          cases ho
          have r4 : a.tmps[4]?.getD undef = (.pointer (some ⟨w.heap.size, 0, none⟩)) := hF 4 (by kernel_rfl)
          exact wp_load_idV rfl (eval_tmp r4) hid (b1'.below hBW) ⟨_, rfl, rfl, Below.refl _ _⟩
        | 11, ho =>
          cases ho
          have r40 : a.tmps[40]?.getD undef = (.func (.func 10) #[] #[]) := hD 5 (by kernel_rfl)
          have r44 : a.tmps[44]?.getD undef = (IdV x) := hD 9 (by kernel_rfl)
          have r45 : a.tmps[45]?.getD undef = (IdV id) := hD 10 (by kernel_rfl)
          unfold Oper.wp
          go_simp
          refine (hCompare_any W x id hx32 hid).mono ?_
          rintro e W2 ⟨rfl, hb2⟩
          exact ⟨_, rfl, rfl, hb2⟩
        | 12, ho =>
          cases ho
          have r46 : a.tmps[46]?.getD undef = (.int .i64 (cmpB x id)) := hD 11 (by kernel_rfl)
          unfold Oper.wp
          go_simp
          exact ⟨_, rfl, rfl, Below.refl _ _⟩
        | 13, ho =>
          cases ho
          have r39 : a.tmps[39]?.getD undef = (.bool true) := hD 4 (by kernel_rfl)
          have r47 : a.tmps[47]?.getD undef = (.bool (decide (cmpB x id = 0))) := hD 12 (by kernel_rfl)
          unfold Oper.wp
          go_simp
          exact ⟨_, rfl, rfl, Below.refl _ _⟩
        | 14, ho =>
          cases ho
          have r35 : a.tmps[35]?.getD undef = (.int .i64 (p : Int)) := hD 0 (by kernel_rfl)
          unfold Oper.wp
          go_simp
          exact ⟨_, rfl, rfl, Below.refl _ _⟩
        | 15, ho =>
          cases ho
          have r48 : a.tmps[48]?.getD undef = (.bool (decide (cmpB x id = 0))) := hD 13 (by kernel_rfl)
          unfold Oper.wp
          go_simp
          exact ⟨_, rfl, rfl, Below.refl _ _⟩
        | i + 16, ho => exact absurd (Array.getElem?_eq_some_iff.1 ho).1 (by simp)
        case refine_2 =>
          intro a' ha' W hBW
          simp only [putsL, Act.put, List.getElem_toArray, List.getElem_cons_succ, List.getElem_cons_zero, List.setIfInBounds_toArray, List.set_cons_succ, List.set_cons_zero] at ha'
          subst ha'
          have hB3 := hBw.trans (hBW.mono hBw.size)
          go_wp2
          refine bodyPost_ret (results_tmp2 rfl _ _ _) rfl ?_
          exact ⟨p, by rw [← HF.out]; rfl, hB3⟩
      case neg =>
        obtain rfl : p = l.length := by omega
        have HF := Lib.hid HP.out.none
        have hng : decide ((l.length : Int) < (l.length : Int)) = false := by simp
        clear HP hl3
        go_wp2_with fail
        go_quiet (fail)
        go_wp2
        refine bodyPost_ret (results_tmp2 rfl _ _ _) rfl ?_
        exact ⟨l.length, by rw [HF.out]; rfl, hBw.trans ⟨rfl, rfl, rfl, Nat.le_refl _, fun _ _ => rfl⟩⟩
theorem idSearch_any (w : World) (v : Value) (l : List (List UInt8)) (hl : Is w v l) (hm : l.length ≤ 1000000) (hs : SS l) (id : List UInt8) (hid : id.length = 32) :
    Calls Try.prog 39 #[v, IdV id, .func (.func 10) #[] #[]] w fun e W' => ∃ n, e = .returned (.tuple #[.int .i64 n, .bool (decide (id ∈ l))]) ∧ Below w.heap.size w W' := by
  obtain ⟨A, c, rfl, _⟩ := hl.form
  exact idSearch_form w A c l hl hm hs id hid
end Go.Proofs.Ytcclifnhbncfcaa
