/- ContainsFunc and Clone at dots. -/
import Derived.Test.YtcclifnhbncfcaaDots
import Derived.Test.YtcclifnhbncfcaaRound
namespace Go.Proofs.Ytcclifnhbncfcaa
open Go.RowKit

set_option maxHeartbeats 400000 in
theorem dClone_none (w : World) (c : Nat) : Calls Try.prog 42 #[.slice none 0 c] w fun e W' => e = .returned (.slice none 0 0) ∧ w = W' := by
  have he := fun wx => Lib.run_eql_slice_nil (P := Try.prog) wx 36 38 none 0 c 0 0 Try.underlying36
  go_enter Try.func42, Try.ntmps42
  go_wp2
  go_ret
  exact ⟨rfl, rfl⟩
set_option maxHeartbeats 400000 in
theorem dClone_some (w : World) (ad : Addr) (c : Nat) (l : List (Int × Int)) (hs : Ds w (.slice (some ad) l.length c) l) (hl : l.length ≤ 1000) :
    Calls Try.prog 42 #[.slice (some ad) l.length c] w fun e W' => ∃ v', e = .returned v' ∧ RowD W' w.heap.size v' l ∧ Below w.heap.size w W' := by
  have he := fun wx => Lib.run_eql_slice_nil (P := Try.prog) wx 36 38 (some ad) l.length c 0 0 Try.underlying36
  have hrow : RowD (w.alloc (.cells #[] 38)) w.heap.size (.slice (some ⟨w.heap.size, 0, none⟩) 0 0) [] := RowE.made w
  have hB : Below w.heap.size w (w.alloc (.cells #[] 38)) := (Below.refl _ w).alloc (Nat.le_refl _) _
  have hs1 := hs.below hB
  go_enter Try.func42, Try.ntmps42
  go_wp2_with (at_builtin; refine wpList_append_es eltDot rfl (.tmp 5) (.tmp 6) rfl w.heap.size _ [] rfl hrow _ l rfl hs1 (by simp; omega) (by simp) ?_; intro v' w1 hown1 hg1 hv1)
  go_ret
  exact ⟨v', rfl, hown1, hB.trans ((Kept.of_grown hg1).below (fun j _ e => (World.ownsRow.lt hrow j e).1) hB.size)⟩
theorem dClone_any (w : World) (v : Value) (l : List (Int × Int)) (hs : Ds w v l) (hl : l.length ≤ 1000) :
    Calls Try.prog 42 #[v] w fun e W' => ∃ v', e = .returned v' ∧ RowD W' w.heap.size v' l ∧ Below w.heap.size w W' := by
  obtain ⟨A, c, rfl, hc⟩ := hs.form
  cases A with
  | none =>
    have h0 : l = [] := by
      cases l with
      | nil => rfl
      | cons x l => obtain ⟨b, off, he, _⟩ := hs.at (i := 0) (x := x) rfl; cases he
    subst h0
    exact (dClone_none w c).mono fun e W' ⟨he, hw⟩ => ⟨_, he, RowE.nil _ _, hw ▸ Below.refl _ _⟩
  | some ad => exact dClone_some w ad c l hs hl

/-- Some dot may not be. -/
def okX (x : Int × Int) : Bool := decide (DotOk x.1 x.2)
theorem pDMayNot_any (w : World) (x : Int × Int) :
    Calls Try.prog 41 #[eDot.val x] w fun e W' => e = .returned (.bool (!okX x)) ∧ Below w.heap.size w W' := by
  obtain ⟨s, c⟩ := x
  have c1 := fun W => pDCheck_any W s c
  have hB : Below w.heap.size w (w.alloc (.cells #[.int .i64 s, .int .i64 c] 38)) := (Below.refl _ w).alloc (Nat.le_refl _) _
  show Calls Try.prog 41 #[DotV s c] w _
  by_cases h : DotOk s c
  · have c2 := fun W => (c1 W)
    rw [show okX (s, c) = true from decide_eq_true h]
    rw [checkD_ok h] at c1
    go_enter Try.func41, Try.ntmps41
    go_wp2_with fail
    refine (c1 _).mono ?_
    rintro e w1 ⟨rfl, hb⟩
    go_wp2_with fail
    go_ret
    exact ⟨rfl, hB.trans (hb.mono hB.size)⟩
  · rw [show okX (s, c) = false from decide_eq_false h]
    rw [checkD_no h] at c1
    go_enter Try.func41, Try.ntmps41
    go_wp2_with fail
    refine (c1 _).mono ?_
    rintro e w1 ⟨rfl, hb⟩
    go_wp2_with fail
    go_ret
    exact ⟨rfl, hB.trans (hb.mono hB.size)⟩

set_option maxRecDepth 100000 in
set_option maxHeartbeats 1000000 in
theorem dIndexFunc_any (w : World) (v : Value) (l : List (Int × Int)) (hs : Ds w v l) (hl : l.length ≤ 1000) :
    Calls Try.prog 67 #[v, .func (.func 41) #[] #[]] w fun e W' => ∃ n : Int, e = .returned (.int .i64 n) ∧ decide (0 ≤ n) = !(l.all okX) ∧ Below w.heap.size w W' := by
  have c1 := fun W x => pDMayNot_any W x
  obtain ⟨A, c, rfl, hc⟩ := hs.form
  have HS := Lib.hid hs
  clear hs
  go_enter Try.func67, Try.ntmps67
  go_wp2_with fail
  go_loopw [8] (fun i wr => ∃ k : Nat, k ≤ l.length ∧ i = .int .i64 k ∧ (l.take k).all okX = true ∧ Below w.heap.size w wr) (fun i _ => l.length - (intOf i).toNat)
  case atStart => exact ⟨0, by omega, rfl, by simp, Below.refl _ _⟩
  case round =>
    obtain ⟨k, hk, rfl, ha, hB⟩ := hrel
    have HA := Lib.hid ha
    clear ha
    by_cases hkl : k < l.length
    case neg =>
      obtain rfl : k = l.length := by omega
      have HE := Lib.hid (show l.all okX = true by have := HA.out; rwa [List.take_length] at this)
      go_wp2_with fail
      go_ret
      exact ⟨-1, rfl, by rw [HE.out]; rfl, hB⟩
    case pos =>
      obtain ⟨x, hx⟩ : ∃ x, l[k]? = some x := ⟨_, List.getElem?_eq_getElem hkl⟩
      obtain ⟨b, off, rfl, hat⟩ := (HS.out.below hB).at hx
      have hat' : ElAt eDot wr b (off + k * 2) x := hat
      have HX := Lib.hid hx
      have c2 := fun W => c1 W x
      clear hat hx c1
      by_cases ho : okX x = true
      case pos =>
        rw [ho] at c2
        go_wp2_with (refine eltDot.wpLoad rfl (.tmp 14) rfl rfl hat' ?_)
        refine (c2 _).mono ?_
        rintro e w1 ⟨rfl, hb⟩
        have hB1 := hB.trans (hb.mono hB.size)
        go_wp2_with fail
        go_roundw
        case rel =>
          refine ⟨k + 1, by omega, by go_num, ?_, hB1⟩
          rw [List.take_add_one, HX.out, List.all_append, HA.out]
          simp [ho]
        case measure => simp [intOf]; omega
      case neg =>
        have ho' : okX x = false := by simpa using ho
        rw [ho'] at c2
        go_wp2_with (refine eltDot.wpLoad rfl (.tmp 14) rfl rfl hat' ?_)
        refine (c2 _).mono ?_
        rintro e w1 ⟨rfl, hb⟩
        have hB1 := hB.trans (hb.mono hB.size)
        go_wp2_with fail
        go_ret
        refine ⟨k, rfl, ?_, hB1⟩
        have h1 : l.all okX = false := by
          rw [List.all_eq_false]
          exact ⟨x, List.mem_of_getElem? HX.out, by rw [ho']; simp⟩
        rw [h1]
        simp
theorem dContains_any (w : World) (v : Value) (l : List (Int × Int)) (hs : Ds w v l) (hl : l.length ≤ 1000) :
    Calls Try.prog 40 #[v, .func (.func 41) #[] #[]] w fun e W' => e = .returned (.bool (!(l.all okX))) ∧ Below w.heap.size w W' := by
  have c1 := dIndexFunc_any w v l hs hl
  go_enter Try.func40, Try.ntmps40
  go_wp2_with fail
  refine c1.mono ?_
  rintro e w1 ⟨n, rfl, hn, hb⟩
  have HN := Lib.hid hn
  clear hn c1
  by_cases h0 : 0 ≤ n
  · go_wp2_with fail
    go_ret
    exact ⟨by rw [← HN.out]; simp [h0], hb⟩
  · go_wp2_with fail
    go_ret
    exact ⟨by rw [← HN.out]; simp [h0], hb⟩
end Go.Proofs.Ytcclifnhbncfcaa
