/- slices.Clone at ids. -/
import Derived.Test.YtcclifnhbncfcaaHashKit
namespace Go.Proofs.Ytcclifnhbncfcaa
open Go.RowKit Go.Great
set_option maxRecDepth 100000

theorem RowI.made (w : World) : RowI (w.alloc (.cells #[] 23)) w.heap.size (.slice (some ⟨w.heap.size, 0, none⟩) 0 0) [] :=
  ⟨by simp, World.ownsRow_made w #[] 0 (Nat.le_refl _) (by simp [maxLen]) rfl⟩
set_option maxHeartbeats 400000 in
theorem idClone_none (w : World) (c : Nat) : Calls Try.prog 36 #[.slice none 0 c] w fun e W' => e = .returned (.slice none 0 0) ∧ w = W' := by
  have he := fun wx => Lib.run_eql_slice_nil (P := Try.prog) wx 31 23 none 0 c 0 0 Try.underlying31
  go_enter Try.func36, Try.ntmps36
  go_wp2
  go_ret
  exact ⟨rfl, rfl⟩
set_option maxHeartbeats 400000 in
theorem idClone_some (w : World) (ad : Addr) (c : Nat) (l : List (List UInt8)) (hs : Is w (.slice (some ad) l.length c) l) (hl : l.length ≤ 1000) :
    Calls Try.prog 36 #[.slice (some ad) l.length c] w fun e W' => ∃ v', e = .returned v' ∧ RowI W' w.heap.size v' l ∧ Below w.heap.size w W' := by
  have he := fun wx => Lib.run_eql_slice_nil (P := Try.prog) wx 31 23 (some ad) l.length c 0 0 Try.underlying31
  have hrow := RowI.made w
  have hB : Below w.heap.size w (w.alloc (.cells #[] 23)) := (Below.refl _ w).alloc (Nat.le_refl _) _
  have hs1 := hs.below hB
  go_enter Try.func36, Try.ntmps36
  go_wp2_with (at_builtin; refine wpList_append_is rfl (.tmp 5) (.tmp 6) rfl w.heap.size _ [] rfl hrow _ l rfl hs1 (by simp; omega) (by simp) ?_; intro v' w1 hown1 hg1 hv1)
  go_ret
  exact ⟨v', rfl, hown1, hB.trans ((Kept.of_grown hg1).below (fun j _ e => (hrow.own.lt j e).1) hB.size)⟩
theorem idClone_any (w : World) (v : Value) (l : List (List UInt8)) (hs : Is w v l) (hl : l.length ≤ 1000) :
    Calls Try.prog 36 #[v] w fun e W' => ∃ v', e = .returned v' ∧ RowI W' w.heap.size v' l ∧ Below w.heap.size w W' := by
  obtain ⟨A, c, rfl, hc⟩ := hs.form
  cases A with
  | none =>
    have h0 : l = [] := by
      cases l with
      | nil => rfl
      | cons x l => obtain ⟨_, b, off, he, _⟩ := hs.at (i := 0) (x := x) rfl; cases he
    subst h0
    exact (idClone_none w c).mono fun e W' ⟨he, hw⟩ => ⟨_, he, RowI.nil _ _, hw ▸ Below.refl _ _⟩
  | some ad => exact idClone_some w ad c l hs hl
end Go.Proofs.Ytcclifnhbncfcaa
