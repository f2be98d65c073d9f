/- The program's rule on bytes: rune by rune. -/
import Derived.Test.YtldgnkngjdgiaaaDoorRefnRules
namespace Go.Proofs.YtldgnkngjdgiaaaDoor
open Go.RowKit

theorem byte_take {s : List UInt8} {k : Nat} {x : UInt8} (hx : s[k]? = some x) : (s.take (k + 1)).any (fun c => !mayB c) = ((s.take k).any (fun c => !mayB c) || !mayB x) := any_succ hx
def byteP (s : List UInt8) : Bool := s.any fun c => !mayB c

set_option maxRecDepth 1000000 in
set_option maxHeartbeats 2000000 in
theorem hasByte_any (w : World) (s : List UInt8) (hm : s.length ≤ 100000) :
    Calls Tryd.prog 51 #[Str s] w fun e W' => e = .returned (.bool (byteP s)) ∧ Below w.heap.size w W' := by
  have hsz := str_size s
  have hbel : ∀ (S : ByteArray) (p : Nat), Below w.heap.size w (w.iter S p) := fun S p => (Below.refl _ w).alloc (Nat.le_refl _) _
  have HB := Lib.hid hbel
  clear hbel
  obtain ⟨S, hS⟩ : ∃ S : ByteArray, S = ⟨s.toArray⟩ := ⟨_, rfl⟩
  have hget : ∀ (k : Nat) (x : UInt8), s[k]? = some x → ∃ h : k < S.size, S[k]'h = x := fun k x hx => by
    subst hS
    have hk := (List.getElem?_eq_some_iff.1 hx).1
    exact ⟨by rw [hsz]; exact hk, byte_at4 hx _⟩
  have HG := Lib.hid hget
  clear hget
  rw [← hS] at hsz
  show Calls Tryd.prog 51 #[.string ⟨s.toArray⟩] w _
  rw [← hS]
  clear hS
  go_enter Tryd.func51, Tryd.ntmps51
  go_wp2
  go_loopw [7] (fun _ w' => ∃ pos : Nat, pos ≤ s.length ∧ w' = w.iter S pos ∧ (s.take pos).any (fun c => !mayB c) = false) (fun _ w' => s.length - w'.iterPos w.heap.size)
  case atStart => exact ⟨0, by omega, rfl, by simp⟩
  case round =>
    obtain ⟨pos, hpos, rfl, hni⟩ := hrel
    have HN := Lib.hid hni
    clear hni
    by_cases hp : pos < s.length
    · obtain ⟨x, hx⟩ : ∃ x, s[pos]? = some x := ⟨_, List.getElem?_eq_getElem hp⟩
      obtain ⟨hlt, hxx⟩ := HG.out pos x hx
      have HX := Lib.hid hx
      clear hx
      by_cases h128 : x.toNat < 128
      · have hd := decode_ascii S pos hlt (by rw [hxx]; exact h128)
        rw [hxx] at hd
        have hnx : ∀ ty, (Instr.next (.pointer (some ⟨w.heap.size, 0, none⟩)) true ty).run Tryd.prog (w.iter S pos) = .ok (.tuple #[.bool true, .int .i64 pos, .int .i32 (x.toNat : Int)]) (w.iter S (pos + 1)) := fun ty => by
          have := run_next_any (P := Tryd.prog) w S pos ty hlt
          rw [hd] at this
          exact this
        have HM := Lib.hid (barred_may x h128)
        have hC := Tryd.strings_ContainsRune_ascii ⟨#[126, 94, 58, 63, 42, 91, 92]⟩ (x.toNat : Int)
        have e1 : ((x.toNat : Int).toNat.toUInt8) = x := by rw [Int.toNat_natCast]; exact UInt8.ofNat_toNat
        rw [e1] at hC
        have hC' : ∀ W, Calls Tryd.prog 72 #[.string ⟨#[126, 94, 58, 63, 42, 91, 92]⟩, .int .i32 (x.toNat : Int)] W fun e w' => e = .returned (.bool (decide (0 ≤ Lib.indexByte barredB x))) ∧ w' = W := fun W => hC W (by omega) (by omega)
        clear hC hd e1 hxx hlt
        generalize hn : (x.toNat : Int) = n at *
        have h0 : 0 ≤ n := by omega
        have h1 : n < 128 := by omega
        clear hn h128
        generalize hbi : decide (0 ≤ Lib.indexByte barredB x) = bi at *
        by_cases hlow : n < 33
        · have HE := Lib.hid (show byteP s = true from any_at HX.out (by rw [← HM.out]; simp [hlow]))
          clear HM HX HN HG
          go_wp2_with (fail)
          go_ret
          exact ⟨by rw [HE.out]; rfl, HB.out _ _⟩
        · by_cases hhigh : n > 126
          · have HE := Lib.hid (show byteP s = true from any_at HX.out (by rw [← HM.out]; simp [hhigh]))
            clear HM HX HN HG
            go_wp2_with (fail)
            go_ret
            exact ⟨by rw [HE.out]; rfl, HB.out _ _⟩
          · cases bi with
            | true =>
              have HE := Lib.hid (show byteP s = true from any_at HX.out (by rw [← HM.out]; simp))
              clear HM HX HN HG
              go_wp2_with (go_at_call 72; refine (hC' _).mono ?_; rintro e w' ⟨rfl, rfl⟩)
              go_ret
              exact ⟨by rw [HE.out]; rfl, HB.out _ _⟩
            | false =>
              have HE := Lib.hid (show (s.take (pos + 1)).any (fun c => !mayB c) = false by rw [byte_take HX.out, HN.out, ← HM.out]; simp; omega)
              clear HM HX HN HG
              go_wp2_with (go_at_call 72; refine (hC' _).mono ?_; rintro e w' ⟨rfl, rfl⟩)
              go_roundw
              case rel => exact ⟨pos + 1, by omega, rfl, HE.out⟩
              case measure => simp; omega
      · have hd := decode_high S pos hlt (by rw [hxx]; omega)
        have HE := Lib.hid (show byteP s = true from any_at HX.out (by rw [high_may x (by omega)]; rfl))
        have hnx : ∀ ty, (Instr.next (.pointer (some ⟨w.heap.size, 0, none⟩)) true ty).run Tryd.prog (w.iter S pos) = _ := fun ty => run_next_any w S pos ty hlt
        obtain ⟨dr, hdr⟩ : ∃ d, d = (Utf8.decode S pos).1 := ⟨_, rfl⟩
        obtain ⟨dw, hdw⟩ : ∃ d, d = (Utf8.decode S pos).2 := ⟨_, rfl⟩
        rw [← hdr] at hd
        have hge := hd.1
        rw [← hdr, ← hdw] at hnx
        clear hd hdr hdw hxx HX HN HG hlt h128
        have g1 : ¬ (dr : Int) < 33 := by omega
        have g2 : (dr : Int) > 126 := by omega
        have g3 : (126 : Int) < (dr : Int) := by omega
        go_wp2_with (fail)
        go_ret
        exact ⟨by rw [HE.out]; rfl, HB.out _ _⟩
    · obtain rfl : pos = s.length := by omega
      have HE := Lib.hid (show byteP s = false by have := HN.out; rwa [List.take_length] at this)
      have hnx : ∀ ty, (Instr.next (.pointer (some ⟨w.heap.size, 0, none⟩)) true ty).run Tryd.prog (w.iter S s.length) = _ := fun ty => run_next_end w S s.length ty (by omega)
      clear HN HG
      go_wp2
      go_ret
      exact ⟨by rw [HE.out]; rfl, HB.out _ _⟩
end Go.Proofs.YtldgnkngjdgiaaaDoor
