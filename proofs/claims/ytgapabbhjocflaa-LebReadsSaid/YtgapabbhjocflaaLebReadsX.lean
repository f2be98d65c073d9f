/- LebReads for all arguments. -/
import Derived.Test.YtgapabbhjocflaaLebReadsW
namespace Go.Proofs.Ytgapabbhjocflaa
open Go.RowKit

set_option maxRecDepth 100000 in
set_option maxHeartbeats 400000 in
theorem reads_great (Ab : Option Addr) (nb cb : Nat) (A : Option Addr) (n cap : Nat) (w : World) (hg : Calls Try.prog 10 #[.slice A n cap] w fun e W' => e = .returned (.bool true) ∧ w = W') :
    Calls Try.prog 4 #[.slice Ab nb cb, .slice A n cap] w fun e W' => e = .returned (.bool true) ∧ Below w.heap.size w W' := by
  have HG := Lib.hid hg
  clear hg
  go_enter Try.func4, Try.ntmps4
  go_wp2_with fail
  refine HG.out.mono ?_
  rintro e w2 ⟨rfl, rfl⟩
  go_wp2
  go_ret
  exact ⟨rfl, Below.refl _ _⟩

set_option maxRecDepth 100000 in
set_option maxHeartbeats 400000 in
theorem reads_long (Ab : Option Addr) (nb cb : Nat) (A : Option Addr) (n cap : Nat) (w : World) (hb : 20000 < nb) (hg : Calls Try.prog 10 #[.slice A n cap] w fun e W' => e = .returned (.bool false) ∧ w = W') :
    Calls Try.prog 4 #[.slice Ab nb cb, .slice A n cap] w fun e W' => e = .returned (.bool true) ∧ Below w.heap.size w W' := by
  have HG := Lib.hid hg
  have hd : decide (20000 < (nb : Int)) = true := by simp; omega
  clear hg
  go_enter Try.func4, Try.ntmps4
  go_wp2_with fail
  refine HG.out.mono ?_
  rintro e w2 ⟨rfl, rfl⟩
  go_wp2
  go_ret
  exact ⟨rfl, Below.refl _ _⟩

theorem great_of (A : Option Addr) (cap : Nat) (l : List OpV) (w : World) (hl0 : 0 < l.length → ∃ b off, A = some ⟨b, off, none⟩ ∧ OpsAt w b off l) (hm : l.length ≤ 9223372036854775807) :
    ∃ x : Bool, (Calls Try.prog 10 #[.slice A l.length cap] w fun e W' => e = .returned (.bool x) ∧ w = W') ∧ (x = false → l.length ≤ 100) := by
  by_cases h : 0 < l.length
  · obtain ⟨b, off, rfl, hl⟩ := hl0 h
    refine ⟨_, great_any b off cap l w hl h hm, fun h1 => ?_⟩
    simp at h1
    exact h1.1
  · rw [show l.length = 0 by omega]
    exact ⟨false, great_nil A cap w, fun _ => by omega⟩

theorem reads_any (A : Option Addr) (cap : Nat) (l : List OpV) (v : Value) (bs : List UInt8) (w : World) (hl0 : 0 < l.length → ∃ b off, A = some ⟨b, off, none⟩ ∧ OpsAt w b off l) (hm : l.length ≤ 9223372036854775807) (hbs : Bs w v bs) :
    Calls Try.prog 4 #[v, .slice A l.length cap] w fun e W' => e = .returned (.bool true) ∧ Below w.heap.size w W' := by
  obtain ⟨Ab, cb, rfl, hc⟩ := hbs.form
  obtain ⟨x, hg, hx⟩ := great_of A cap l w hl0 hm
  cases x with
  | true => exact reads_great Ab bs.length cb A l.length cap w hg
  | false =>
    by_cases hb : bs.length ≤ 20000
    · exact reads_some A cap l Ab cb bs w hl0 (hx rfl) hg hbs hb
    · exact reads_long Ab bs.length cb A l.length cap w (by omega) hg
end Go.Proofs.Ytgapabbhjocflaa
