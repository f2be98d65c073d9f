/- The reference of layer 4: Check, Parts, Within, Texts. -/
import Derived.Test.YtldgnkngjdgiaaaDoorRefnBreaks
import Derived.BigQuiet
namespace Go.Proofs.YtldgnkngjdgiaaaDoor
open Go.RowKit

/-- Check's number. -/
def checkN (s : List UInt8) : Nat := if breaksB s = 0 then 0 else 40
set_option maxHeartbeats 400000 in
theorem r4Check_any (w : World) (s : List UInt8) (hm : s.length ≤ 9223372036854775807) :
    Calls Tryd.prog 12 #[Str s] w fun e W' => e = .returned (.int .i64 (checkN s : Nat)) ∧ Below w.heap.size w W' := by
  have hb := r4Breaks_any w s hm
  obtain ⟨R, hR⟩ : ∃ R, R = checkN s := ⟨_, rfl⟩
  rw [← hR]
  unfold checkN at hR
  generalize breaksB s = n at *
  have HR := Lib.hid hR
  clear hR
  go_enter Tryd.func12, Tryd.ntmps12
  go_wp2_with fail
  refine hb.mono ?_
  rintro e w1 ⟨rfl, h1⟩
  clear hb
  by_cases h0 : n = 0
  · have HE := Lib.hid (show R = 0 by rw [HR.out, if_pos h0])
    clear HR
    subst h0
    go_wp2
    go_ret
    exact ⟨by rw [HE.out]; rfl, h1⟩
  · have h0' : (0 : Int) < (n : Int) := by omega
    have HE := Lib.hid (show R = 40 by rw [HR.out, if_neg h0])
    clear HR h0
    go_wp2
    go_ret
    exact ⟨by rw [HE.out]; rfl, h1⟩
theorem checkN_zero {s : List UInt8} : checkN s = 0 ↔ breaksB s = 0 := by
  unfold checkN
  split <;> simp [*]
/-- A ref's name's parts. -/
def partsR (s : List UInt8) : List (List UInt8) := if breaksB s = 0 then partsB s else []
set_option maxHeartbeats 400000 in
theorem r4Parts_any (w : World) (s : List UInt8) (hm : s.length ≤ 1000) :
    Calls Tryd.prog 15 #[Str s] w fun e W' => ∃ v', e = .returned v' ∧ RowS W' w.heap.size v' (partsR s) ∧ Below w.heap.size w W' := by
  have hb := r4Check_any w s (by omega)
  have hp := fun W => r4parts_any W s hm
  go_enter Tryd.func15, Tryd.ntmps15
  go_wp2_with fail
  refine hb.mono ?_
  rintro e w1 ⟨rfl, h1⟩
  clear hb
  by_cases h0 : breaksB s = 0
  · rw [checkN_zero.2 h0]
    have HE := Lib.hid (show partsR s = partsB s by rw [partsR, if_pos h0])
    clear h0
    go_wp2_with fail
    refine (hp w1).mono ?_
    rintro e w2 ⟨v2, rfl, hrow, h2⟩
    clear hp
    obtain ⟨A, c, rfl, _⟩ := hrow.slice
    have HROW := Lib.hid (show RowS w2 w.heap.size (.slice A (partsB s).length c) (partsB s) from owns_base hrow h1.size)
    clear hrow
    go_wp2
    go_ret
    exact ⟨_, rfl, by rw [HE.out]; exact HROW.out, h1.trans (h2.mono h1.size)⟩
  · have hc : checkN s = 40 := by unfold checkN; rw [if_neg h0]
    have HE := Lib.hid (show partsR s = [] by rw [partsR, if_neg h0])
    rw [hc]
    clear hp h0 hc
    go_wp2
    go_ret
    exact ⟨_, rfl, by rw [HE.out]; exact RowS.nil _ _, h1⟩

/-- Within. -/
def withinB (s t : List UInt8) : Bool := decide (breaksB s = 0 ∧ breaksB t = 0) && (s == t || (decide (t.length < s.length) && (s.take t.length == t) && (s[t.length]? == some 47)))
set_option maxRecDepth 100000 in
set_option maxHeartbeats 1000000 in
theorem r4Within_any (w : World) (s t : List UInt8) (hs : s.length ≤ 1000) (ht : t.length ≤ 1000) :
    Calls Tryd.prog 17 #[Str s, Str t] w fun e W' => e = .returned (.bool (withinB s t)) ∧ Below w.heap.size w W' := by
  have hsz : (⟨s.toArray⟩ : ByteArray).size = s.length := by simp [ByteArray.size]
  have htz : (⟨t.toArray⟩ : ByteArray).size = t.length := by simp [ByteArray.size]
  have hc1 := r4Check_any w s (by omega)
  have hc2 := fun W => r4Check_any W t (by omega)
  obtain ⟨R, hR⟩ : ∃ R, R = withinB s t := ⟨_, rfl⟩
  rw [← hR]
  have HR := Lib.hid hR
  clear hR
  go_enter Tryd.func17, Tryd.ntmps17
  go_wp2_with fail
  refine hc1.mono ?_
  rintro e w1 ⟨rfl, h1⟩
  clear hc1
  by_cases b1 : breaksB s = 0
  case neg =>
    have hc : checkN s = 40 := by unfold checkN; rw [if_neg b1]
    have HE := Lib.hid (show R = false by rw [HR.out, withinB, decide_eq_false (fun h => b1 h.1)]; rfl)
    rw [hc]
    clear hc2 b1 hc
    go_wp2
    go_ret
    exact ⟨by rw [HE.out]; rfl, h1⟩
  case pos =>
  rw [checkN_zero.2 b1]
  have HB1 := Lib.hid b1
  clear b1
  go_wp2_with fail
  refine (hc2 w1).mono ?_
  rintro e w2 ⟨rfl, h2⟩
  have h12 := h1.trans (h2.mono h1.size)
  clear hc2
  by_cases b2 : breaksB t = 0
  case neg =>
    have hc : checkN t = 40 := by unfold checkN; rw [if_neg b2]
    have HE := Lib.hid (show R = false by rw [HR.out, withinB, decide_eq_false (fun h => b2 h.2)]; rfl)
    rw [hc]
    clear b2 hc
    go_wp2
    go_ret
    exact ⟨by rw [HE.out]; rfl, h12⟩
  case pos =>
  rw [checkN_zero.2 b2]
  have HD := Lib.hid (show R = (s == t || (decide (t.length < s.length) && (s.take t.length == t) && (s[t.length]? == some 47))) by rw [HR.out, withinB, decide_eq_true ⟨HB1.out, b2⟩]; rfl)
  clear b2 HB1 HR
  have t1 := str_list s
  have t2 := str_list t
  cases hst : (s == t) with
  | true =>
    have HE := Lib.hid (show R = true by rw [HD.out, hst]; rfl)
    clear HD
    go_wp2
    go_ret
    exact ⟨by rw [HE.out]; rfl, h12⟩
  | false =>
    rw [hst, Bool.false_or] at HD
    by_cases hl : t.length < s.length
    · have hl' : (t.length : Int) < (s.length : Int) := by omega
      have hext := str_ext s 0 t.length
      rw [List.drop_zero] at hext
      have t3 := str_list (s.take t.length)
      obtain ⟨c, hc⟩ : ∃ c, s[t.length]? = some c := ⟨_, List.getElem?_eq_getElem hl⟩
      have ec : ∀ h, (({ data := s.toArray } : ByteArray)[t.length]'h) = c := fun h => byte_at4 hc h
      rw [decide_eq_true hl, hc, Bool.true_and] at HD
      clear hc
      cases hpre : (s.take t.length == t) with
      | false =>
        have HE := Lib.hid (show R = false by rw [HD.out, hpre]; rfl)
        clear HD
        go_wp2
        go_ret
        exact ⟨by rw [HE.out]; rfl, h12⟩
      | true =>
        have HE := Lib.hid (show R = (((c.toNat : Int) == 47)) by
          rw [HD.out, hpre, Bool.true_and]
          rw [Bool.eq_iff_iff]
          simp
          constructor
          · intro e; rw [e]; rfl
          · intro e; apply UInt8.toNat_inj.1; simp; omega)
        clear HD
        go_wp2
        go_ret
        exact ⟨by rw [HE.out]; rfl, h12⟩
    · have hl' : ¬ (t.length : Int) < (s.length : Int) := by omega
      have HE := Lib.hid (show R = false by rw [HD.out, decide_eq_false hl]; rfl)
      clear HD
      go_wp2
      go_ret
      exact ⟨by rw [HE.out]; rfl, h12⟩

theorem take_same4 {l m : List (List UInt8)} {k : Nat} {x y : List UInt8} (hx : l[k]? = some x) (hy : m[k]? = some y) (h : l.take k = m.take k) : l.take (k + 1) = m.take (k + 1) ↔ x = y := by
  rw [List.take_add_one, List.take_add_one, hx, hy, h]
  simp
set_option maxRecDepth 100000 in
set_option maxHeartbeats 1000000 in
theorem r4Texts_form (w : World) (A B : Option Addr) (c d : Nat) (l m : List (List UInt8)) (hl : Ss w (.slice A l.length c) l) (hm : Ss w (.slice B m.length d) m) (hll : l.length ≤ 1000000) :
    Calls Tryd.prog 13 #[.slice A l.length c, .slice B m.length d] w fun e W' => e = .returned (.bool (decide (l = m))) ∧ Below w.heap.size w W' := by
  by_cases hlm : l.length = m.length
  case neg =>
    have hne : ((l.length : Int) != (m.length : Int)) = true := by simp; omega
    have HE := Lib.hid (show decide (l = m) = false by simpa using fun h => hlm (congrArg List.length h))
    clear hlm
    go_enter Tryd.func13, Tryd.ntmps13
    go_wp2
    go_ret
    exact ⟨by rw [HE.out]; rfl, Below.refl _ _⟩
  case pos =>
  have HLM := Lib.hid hlm
  go_enter Tryd.func13, Tryd.ntmps13
  rw [← hlm]
  rw [← hlm] at hm
  clear hlm
  go_wp2_with fail
  go_loopw [5] (fun i wr => ∃ k : Nat, k ≤ l.length ∧ i = .int .i64 k ∧ l.take k = m.take k ∧ ∃ q, wr = w.drewN q) (fun i _ => l.length - (intOf i).toNat)
  case atStart => exact ⟨0, by omega, rfl, by simp, 0, rfl⟩
  case round =>
    obtain ⟨k, hk, rfl, hni, q, rfl⟩ := hrel
    have HN := Lib.hid hni
    clear hni
    by_cases hlt : k < l.length
    case pos =>
      obtain ⟨x, hxk⟩ : ∃ x, l[k]? = some x := ⟨_, List.getElem?_eq_getElem hlt⟩
      obtain ⟨y, hyk⟩ : ∃ y, m[k]? = some y := ⟨_, List.getElem?_eq_getElem (by rw [← HLM.out]; exact hlt)⟩
      obtain ⟨b, off, rfl, hat⟩ := hl.at hxk
      obtain ⟨b', off', rfl, hat'⟩ := hm.at hyk
      have HX := Lib.hid (take_same4 hxk hyk HN.out)
      have hlt' : (k : Int) < (l.length : Int) := by omega
      have t1 := str_list x
      have t2 := str_list y
      clear hxk hyk
      by_cases he : x = y
      · have heb : (x == y) = true := by simpa using he
        have hen : (x != y) = false := by simp [he]
        have HE := Lib.hid (HX.out.2 he)
        clear he HX HN
        go_wp2_with fail
        go_quiet (fail)
        go_wp2_with fail
        go_roundw
        case rel => exact ⟨k + 1, by omega, by go_num, HE.out, _, rfl⟩
        case measure => simp [intOf]; omega
      · have heb : (x == y) = false := by simpa using he
        have hen : (x != y) = true := by simpa using he
        have HE := Lib.hid (show decide (l = m) = false by simpa using fun h : l = m => he (HX.out.1 (by rw [h])))
        clear he HX HN
        go_wp2_with fail
        go_quiet (fail)
        go_wp2
        go_ret
        exact ⟨by rw [HE.out]; rfl, ⟨rfl, rfl, rfl, Nat.le_refl _, fun _ _ => rfl⟩⟩
    case neg =>
      obtain rfl : k = l.length := by omega
      have HE := Lib.hid (show decide (l = m) = true by have := HN.out; rw [List.take_length, HLM.out, List.take_length] at this; simpa using this)
      have hlt' : ¬ (l.length : Int) < (l.length : Int) := by omega
      clear HN
      go_wp2
      go_ret
      exact ⟨by rw [HE.out]; rfl, ⟨rfl, rfl, rfl, Nat.le_refl _, fun _ _ => rfl⟩⟩
theorem r4Texts_any (w : World) (v u : Value) (l m : List (List UInt8)) (hl : Ss w v l) (hm : Ss w u m) (hll : l.length ≤ 1000000) :
    Calls Tryd.prog 13 #[v, u] w fun e W' => e = .returned (.bool (decide (l = m))) ∧ Below w.heap.size w W' := by
  obtain ⟨A, c, rfl, _⟩ := hl.form
  obtain ⟨B, d, rfl, _⟩ := hm.form
  exact r4Texts_form w A B c d l m hl hm hll
end Go.Proofs.YtldgnkngjdgiaaaDoor
