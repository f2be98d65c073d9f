/- bytes.Clone. -/
import Derived.Test.YtfoeelhghdonbaaGreatLebIter
import Derived.WalkSpells
import Derived.WalkLawsBesides
import Derived.Lib.SliceRun
namespace Go.Proofs.YtfoeelhghdonbaaGreat
open Go.RowKit
set_option maxRecDepth 100000


set_option maxHeartbeats 400000 in
theorem Clone_nil (w : World) : Calls Tryz.prog 56 #[.slice none 0 0] w fun e W' => e = .returned (.slice none 0 0) ∧ w = W' := by
  have he := fun wx => Lib.run_eql_slice_nil (P := Tryz.prog) wx 22 5 none 0 0 0 0 Tryz.underlying22
  go_enter Tryz.func56, Tryz.ntmps56
  go_wp2
  go_ret
  exact ⟨rfl, rfl⟩

set_option maxHeartbeats 400000 in
theorem Clone_some (w : World) (ad : Addr) (c : Nat) (ys : List UInt8) (hs : Bs w (.slice (some ad) ys.length c) ys) (hlen : ys.length ≤ 140737488355328) :
    Calls Tryz.prog 56 #[.slice (some ad) ys.length c] w fun e W' => ∃ v', e = .returned v' ∧ W'.ownsRow w.heap.size 5 1 v' ys.length (ys.map B8) ∧ Below w.heap.size w W' := by
  obtain ⟨i0, hi, hz0, hz1, hz2⟩ := info_parts infoU8
  have he := fun wx => Lib.run_eql_slice_nil (P := Tryz.prog) wx 22 5 (some ad) ys.length c 0 0 Tryz.underlying22
  go_enter Tryz.func56, Tryz.ntmps56
  have hk : Kept (fun _ => False) w (w.alloc (.cells #[] 5)) := (Kept.refl _ _).alloc _
  have hs1 := hk.bs hs (fun _ _ h => h)
  have ho : (w.alloc (.cells #[] 5)).ownsRow w.heap.size 5 1 (.slice (some ⟨w.heap.size, 0, none⟩) ([] : List UInt8).length 0) ([] : List UInt8).length (([] : List UInt8).map B8) := World.ownsRow_made w #[] 0 (Nat.le_refl _) (by simp [maxLen]) rfl
  go_wp2_with (at_builtin; refine wpList_append_bs rfl (.tmp 5) (.tmp 6) 22 rfl w.heap.size 5 i0 Tryz.underlying22 hi hz0 hz1 hz2 _ [] rfl ho _ ys rfl hs1 (by simpa using hlen) (by simp) ?_; intro v' w1 hown1 hg1 _ _ _)
  go_ret
  exact ⟨v', rfl, hown1, ((Below.refl _ w).alloc (Nat.le_refl _) _).grown hg1 (by simp) (fun j e => by have e' : some w.heap.size = some j := e; cases e'; exact Nat.le_refl _)⟩

/-- bytes.Clone: the same bytes, in a row of its own. -/
theorem Clone_any (w : World) (v : Value) (ys : List UInt8) (hs : Bs w v ys) (hlen : ys.length ≤ 140737488355328) :
    Calls Tryz.prog 56 #[v] w fun e W' => ∃ v', e = .returned v' ∧ W'.ownsRow w.heap.size 5 1 v' ys.length (ys.map B8) ∧ Below w.heap.size w W' := by
  rcases hs with ⟨rfl, rfl⟩ | ⟨ad, c, rfl, hc, hx⟩
  · exact (Clone_nil w).mono fun e W' ⟨he, hw⟩ => ⟨_, he, World.ownsRow_nil _ _ _ _, hw ▸ Below.refl _ _⟩
  · exact Clone_some w ad c ys (.inr ⟨ad, c, rfl, hc, hx⟩) hlen
end Go.Proofs.YtfoeelhghdonbaaGreat
