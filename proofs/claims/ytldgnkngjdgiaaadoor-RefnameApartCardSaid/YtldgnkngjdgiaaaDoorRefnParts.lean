/- The reference of layer 4: may, parts. -/
import Derived.Test.YtldgnkngjdgiaaaDoorRefnMath
import Derived.Test.YtldgnkngjdgiaaaDoorTexts
namespace Go.Proofs.YtldgnkngjdgiaaaDoor
open Go.RowKit

def mayN (n : Nat) : Bool := decide (33 ≤ n ∧ n ≤ 126 ∧ n ≠ 126 ∧ n ≠ 94 ∧ n ≠ 58 ∧ n ≠ 63 ∧ n ≠ 42 ∧ n ≠ 91 ∧ n ≠ 92)
theorem mayB_N (c : UInt8) : mayB c = mayN c.toNat := by
  have key : ∀ n : Fin 256, mayB (UInt8.ofNat n.1) = mayN (UInt8.ofNat n.1).toNat := by decide +kernel
  have := key ⟨c.toNat, c.toNat_lt⟩
  simpa using this
set_option maxHeartbeats 1000000 in
theorem r4may_N (w : World) (n : Nat) (hn : n < 256) : Calls Tryd.prog 31 #[.int .u8 n] w fun e W' => e = .returned (.bool (mayN n)) ∧ w = W' := by
  by_cases h1 : (n : Int) < 33
  case pos =>
    have hm : mayN n = false := by unfold mayN; exact decide_eq_false (by omega)
    rw [hm]
    clear hm
    go_enter Tryd.func31, Tryd.ntmps31
    go_wp2
    go_ret
    exact ⟨rfl, rfl⟩
  by_cases h2 : (126 : Int) < (n : Int)
  case pos =>
    have hm : mayN n = false := by unfold mayN; exact decide_eq_false (by omega)
    rw [hm]
    clear hm
    go_enter Tryd.func31, Tryd.ntmps31
    go_wp2
    go_ret
    exact ⟨rfl, rfl⟩
  by_cases e126 : (n : Int) = 126
  case pos =>
    have hm : mayN n = false := by unfold mayN; exact decide_eq_false (by omega)
    rw [hm]
    clear hm
    go_enter Tryd.func31, Tryd.ntmps31
    go_wp2
    go_ret
    exact ⟨rfl, rfl⟩
  by_cases e94 : (n : Int) = 94
  case pos =>
    have hm : mayN n = false := by unfold mayN; exact decide_eq_false (by omega)
    rw [hm]
    clear hm
    go_enter Tryd.func31, Tryd.ntmps31
    go_wp2
    go_ret
    exact ⟨rfl, rfl⟩
  by_cases e58 : (n : Int) = 58
  case pos =>
    have hm : mayN n = false := by unfold mayN; exact decide_eq_false (by omega)
    rw [hm]
    clear hm
    go_enter Tryd.func31, Tryd.ntmps31
    go_wp2
    go_ret
    exact ⟨rfl, rfl⟩
  by_cases e63 : (n : Int) = 63
  case pos =>
    have hm : mayN n = false := by unfold mayN; exact decide_eq_false (by omega)
    rw [hm]
    clear hm
    go_enter Tryd.func31, Tryd.ntmps31
    go_wp2
    go_ret
    exact ⟨rfl, rfl⟩
  by_cases e42 : (n : Int) = 42
  case pos =>
    have hm : mayN n = false := by unfold mayN; exact decide_eq_false (by omega)
    rw [hm]
    clear hm
    go_enter Tryd.func31, Tryd.ntmps31
    go_wp2
    go_ret
    exact ⟨rfl, rfl⟩
  by_cases e91 : (n : Int) = 91
  case pos =>
    have hm : mayN n = false := by unfold mayN; exact decide_eq_false (by omega)
    rw [hm]
    clear hm
    go_enter Tryd.func31, Tryd.ntmps31
    go_wp2
    go_ret
    exact ⟨rfl, rfl⟩
  by_cases e92 : (n : Int) = 92
  case pos =>
    have hm : mayN n = false := by unfold mayN; exact decide_eq_false (by omega)
    rw [hm]
    clear hm
    go_enter Tryd.func31, Tryd.ntmps31
    go_wp2
    go_ret
    exact ⟨rfl, rfl⟩
  have hm : mayN n = true := by unfold mayN; exact decide_eq_true (by omega)
  rw [hm]
  clear hm
  go_enter Tryd.func31, Tryd.ntmps31
  go_wp2
  go_ret
  refine ⟨?_, rfl⟩
  show Ending.returned (Value.bool _) = _
  congr 2
  simp [e126, e94, e58, e63, e42, e91, e92]
theorem r4may_any (w : World) (c : UInt8) : Calls Tryd.prog 31 #[B8 c] w fun e W' => e = .returned (.bool (mayB c)) ∧ w = W' := by
  rw [mayB_N]
  exact r4may_N w c.toNat c.toNat_lt

theorem byte_at4 {s : List UInt8} {i : Nat} {x : UInt8} (h : s[i]? = some x) (hi : i < ({ data := s.toArray } : ByteArray).size) : (({ data := s.toArray } : ByteArray)[i]'hi) = x := by
  obtain ⟨h1, h2⟩ := List.getElem?_eq_some_iff.1 h
  rw [← h2]
  rfl
theorem str_ext (s : List UInt8) (f i : Nat) : ({ data := s.toArray } : ByteArray).extract f i = { data := ((s.take i).drop f).toArray } := by
  apply ByteArray.ext
  simp [List.extract_eq_take_drop, List.drop_take]
/-- Where one stands. -/
def PartI (s : List UInt8) (i f : Nat) (l : List (List UInt8)) : Prop :=
  (i ≤ s.length ∧ f ≤ i ∧ l ++ splitS ((s.take i).drop f) (s.drop i) = partsB s) ∨ (i = s.length + 1 ∧ l = partsB s)
theorem PartI.len {s : List UInt8} {i f : Nat} {l : List (List UInt8)} (h : PartI s i f l) : l.length ≤ s.length + 1 := by
  rcases h with ⟨_, _, h⟩ | ⟨_, rfl⟩
  · have := congrArg List.length h
    have h2 := partsB_len s
    rw [List.length_append] at this
    omega
  · exact partsB_len s
theorem PartI.last {s : List UInt8} {f : Nat} {l : List (List UInt8)} (h : PartI s s.length f l) : PartI s (s.length + 1) (s.length + 1) (l ++ [(s.take s.length).drop f]) := by
  rcases h with ⟨_, _, h⟩ | ⟨h, _⟩
  · refine .inr ⟨rfl, ?_⟩
    rw [← h, List.drop_length, splitS]
  · omega
theorem PartI.cut {s : List UInt8} {i f : Nat} {l : List (List UInt8)} (h : PartI s i f l) (hc : s[i]? = some 47) : PartI s (i + 1) (i + 1) (l ++ [(s.take i).drop f]) := by
  obtain ⟨hi, hd⟩ := List.getElem?_eq_some_iff.1 hc
  rcases h with ⟨_, _, h⟩ | ⟨h, _⟩
  · refine .inl ⟨by omega, Nat.le_refl _, ?_⟩
    rw [List.drop_eq_getElem_cons hi, hd, splitS, if_pos rfl] at h
    have hz : (s.take (i + 1)).drop (i + 1) = [] := List.drop_eq_nil_of_le (by simp; omega)
    rw [← h, hz]
    simp
  · omega
theorem PartI.on {s : List UInt8} {i f : Nat} {l : List (List UInt8)} (h : PartI s i f l) {c : UInt8} (hc : s[i]? = some c) (hn : c ≠ 47) : PartI s (i + 1) f l := by
  obtain ⟨hi, hd⟩ := List.getElem?_eq_some_iff.1 hc
  rcases h with ⟨_, hf, h⟩ | ⟨h, _⟩
  · refine .inl ⟨by omega, by omega, ?_⟩
    rw [List.drop_eq_getElem_cons hi, hd, splitS, if_neg hn] at h
    rw [← h, List.take_add_one, hc, List.drop_append_of_le_length (by rw [List.length_take, Nat.min_eq_left (by omega)]; exact hf)]
    rfl
  · omega

set_option maxRecDepth 100000 in
set_option maxHeartbeats 2000000 in
theorem r4parts_any (w : World) (s : List UInt8) (hs : s.length ≤ 1000) :
    Calls Tryd.prog 32 #[Str s] w fun e W' => ∃ v', e = .returned v' ∧ RowS W' w.heap.size v' (partsB s) ∧ Below w.heap.size w W' := by
  have hsz : (⟨s.toArray⟩ : ByteArray).size = s.length := by simp [ByteArray.size]
  go_enter Tryd.func32, Tryd.ntmps32
  go_wp2_with fail
  go_loopw [3, 4, 5] (fun v f i wr => ∃ (k p : Nat) (l : List (List UInt8)), k ≤ s.length + 1 ∧ p ≤ k ∧ i = .int .i64 k ∧ f = .int .i64 p ∧ PartI s k p l ∧ RowS wr w.heap.size v l ∧ Below w.heap.size w wr) (fun _ _ i _ => s.length + 1 - (intOf i).toNat)
  case atStart => exact ⟨0, 0, [], by omega, by omega, rfl, rfl, .inl ⟨by omega, by omega, by simp [partsB]⟩, RowS.nil _ _, Below.refl _ _⟩
  case round =>
    obtain ⟨k, p, l, hk, hp, rfl, rfl, hI, hrow, hB⟩ := hrel
    have hll := hI.len
    obtain ⟨Ar, cr, rfl, hcr⟩ := hrow.slice
    have HROW := Lib.hid hrow
    have HI := Lib.hid hI
    clear hrow hI
    by_cases hlt : k ≤ s.length
    case pos =>
      have hext := str_ext s p k
      generalize hcur : (s.take k).drop p = cur at hext
      have HC := Lib.hid hcur
      clear hcur
      have hk' : (k : Int) ≤ (s.length : Int) := by omega
      have hp' : (p : Int) ≤ (k : Int) := by omega
      have hone : (wr.alloc (.cells #[Str cur] 9)).cell? ⟨wr.heap.size, 0, none⟩ = some (Str cur) := by simp
      have hrow1 := HROW.out.below ((Below.refl _ wr).alloc (Nat.le_refl _) (.cells #[Str cur] 9))
      have hB1 := hB.alloc hB.size (.cells #[Str cur] 9)
      by_cases hke : k = s.length
      case pos =>
        have hkb : ((k : Int) == (s.length : Int)) = true := by simp; omega
        have HE := Lib.hid (show PartI s (k + 1) (k + 1) (l ++ [cur]) by
          have h1 := HI.out
          rw [hke] at h1
          have h2 := h1.last
          rw [← hke, HC.out] at h2
          exact h2)
        clear HI hke HROW
        go_wp2_with (at_builtin; refine wpList_append_s1 rfl (.tmp 22) (.tmp 27) rfl w.heap.size _ l rfl hrow1 wr.heap.size cur rfl hone (by omega) hB1.size ?_; intro v4 w4 hown4 hg4 hv4)
        have hB4 := hB1.trans ((Kept.of_grown hg4).below (fun j _ e => (hrow1.lt j e).1) hB1.size)
        go_roundw
        case rel => exact ⟨k + 1, k + 1, l ++ [cur], by omega, by omega, by go_num, by go_num, HE.out, hown4, hB4⟩
        case measure => simp [intOf]; omega
      case neg =>
        obtain ⟨c, hc⟩ : ∃ c, s[k]? = some c := ⟨_, List.getElem?_eq_getElem (by omega)⟩
        have ec : ∀ h, (({ data := s.toArray } : ByteArray)[k]'h) = c := fun h => byte_at4 hc h
        have hkb : ((k : Int) == (s.length : Int)) = false := by simp; omega
        have hkl : (k : Int) < (s.length : Int) := by omega
        by_cases h47 : (c.toNat : Int) = 47
        · have h4b : ((c.toNat : Int) == 47) = true := by simpa using h47
          have HE := Lib.hid (show PartI s (k + 1) (k + 1) (l ++ [cur]) by
            have h1 : c = 47 := by apply UInt8.toNat_inj.1; simp; omega
            have h2 := HI.out.cut (h1 ▸ hc)
            rw [HC.out] at h2
            exact h2)
          clear HI HC hc hke HROW h47
          go_wp2_with (at_builtin; refine wpList_append_s1 rfl (.tmp 22) (.tmp 27) rfl w.heap.size _ l rfl hrow1 wr.heap.size cur rfl hone (by omega) hB1.size ?_; intro v4 w4 hown4 hg4 hv4)
          have hB4 := hB1.trans ((Kept.of_grown hg4).below (fun j _ e => (hrow1.lt j e).1) hB1.size)
          go_roundw
          case rel => exact ⟨k + 1, k + 1, l ++ [cur], by omega, by omega, by go_num, by go_num, HE.out, hown4, hB4⟩
          case measure => simp [intOf]; omega
        · have h4b : ((c.toNat : Int) == 47) = false := by simpa using h47
          have HE := Lib.hid (show PartI s (k + 1) p l from HI.out.on hc (fun h => h47 (by rw [h]; rfl)))
          clear HI HC hc hke hrow1 hone hB1 h47
          go_wp2_with fail
          go_roundw
          case rel => exact ⟨k + 1, p, l, by omega, by omega, by go_num, rfl, HE.out, HROW.out, hB⟩
          case measure => simp [intOf]; omega
    case neg =>
      obtain rfl : k = s.length + 1 := by omega
      have HE := Lib.hid (show RowS wr w.heap.size (.slice Ar l.length cr) (partsB s) by
        rcases HI.out with ⟨h1, _⟩ | ⟨_, h1⟩
        · omega
        · rw [← h1]; exact HROW.out)
      clear HI HROW
      go_wp2
      go_ret
      exact ⟨_, rfl, HE.out, hB⟩
end Go.Proofs.YtldgnkngjdgiaaaDoor
