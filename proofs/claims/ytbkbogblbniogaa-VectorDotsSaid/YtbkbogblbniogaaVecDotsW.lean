/- The walk of VectorDots (tools/gendots6.py). -/
import Derived.Test.YtbkbogblbniogaaVecDots1
import Derived.Test.YtbkbogblbniogaaVecDots2
import Derived.Test.YtbkbogblbniogaaVecDots3
import Derived.Test.YtbkbogblbniogaaVecDots4
import Derived.Test.YtbkbogblbniogaaVecDots5
namespace Go.Proofs.Ytbkbogblbniogaa
open Go.RowKit Go.Great
set_option maxRecDepth 100000

set_option maxHeartbeats 1000000 in
theorem dots_great (w : World) (v : Vc) (Ab : Option Addr) (cb : Nat) (n : Nat) (hn : 100 < n) (s c : Int) :
    Calls Try.prog 7 #[VecV v, .slice Ab n cb, DotV s c] w fun e W' => e = .returned (.bool true) ∧ Below w.heap.size w W' := by
  obtain ⟨w0, hw0, _, _, _, hB0⟩ := vec_dot w v s c
  have hl : (100 : Int) < (n : Int) := by omega
  go_enter Try.func7, Try.ntmps7
  go_wp2_with fail
  rw [← hw0]
  clear hw0
  refine (alive6_any _).mono ?_
  rintro e w1 ⟨rfl, hb1⟩
  go_wp2_with fail
  go_ret
  exact ⟨rfl, hB0.trans (hb1.mono hB0.size)⟩
theorem dots_walk (W : World) (v : Vc) (bv : Value) (bs : List UInt8) (hbs : Bs W bv bs) (_ : bs.length ≤ 9223372036854775807) (s c : Int) :
    Calls Try.prog 7 #[VecV v, bv, DotV s c] W fun e W' => e = .returned (.bool true) ∧ Below W.heap.size W W' := by
  obtain ⟨A, cap, rfl, _⟩ := hbs.form
  by_cases hlen : bs.length ≤ 100
  case neg => exact dots_great W v A cap bs.length (by omega) s c
  by_cases hs0 : s < 0
  · exact dots_2 W v A cap bs hbs hlen s c 0 hs0 (fun h => by unfold HasV at h; omega)
  by_cases hs16 : 16 ≤ s
  · exact dots_3 W v A cap bs hbs hlen s c 0 hs16 (fun h => by unfold HasV at h; omega)
  have hs : s = (s.toNat : Int) := by omega
  have hq : s.toNat < 16 := by omega
  by_cases hc : c < 1
  · exact dots_4 W v A cap bs hbs hlen s c s.toNat hs hq hc (fun h => by unfold HasV at h; omega)
  by_cases hh : HasV v s c
  · exact dots_1 W v A cap bs hbs hlen s c s.toNat hs hq (by omega) hh
  · exact dots_5 W v A cap bs hbs hlen s c s.toNat hs hq (by omega) hh
end Go.Proofs.Ytbkbogblbniogaa
