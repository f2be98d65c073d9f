/- What VectorLattice comes down to; regions with a drawn head and stores behind it (tools/genlattice.py). -/
import Derived.Test.YtbkbogblbniogaaVecAlive
import Derived.Test.YtbkbogblbniogaaDrawnT
namespace Go.Proofs.Ytbkbogblbniogaa
open Go.RowKit Go.Great
set_option maxRecDepth 100000

theorem join_comm (a b : Vc) : joinL [b, a] = joinL [a, b] := by
  rw [join2, join2]
  exact vc_nat fun n _ => by rw [nat_join, nat_join]; omega
theorem meet_comm (a b : Vc) : meetL [b, a] = meetL [a, b] := by
  rw [meet2, meet2]
  exact vc_nat fun n _ => by rw [nat_meet, nat_meet]; omega
theorem join3 (a b c : Vc) : joinL [a, b, c] = joinV (joinV a b) c := rfl
theorem meet3 (a b c : Vc) : meetL [a, b, c] = meetV (meetV a b) c := rfl
theorem join_all (a b c : Vc) : joinL [c, joinL [a, b], a] = joinL [a, b, c] := by
  rw [join3, join3, join2]
  exact vc_nat fun n _ => by simp only [nat_join]; omega
theorem meet_all (a b c : Vc) : meetL [c, meetL [a, b], a] = meetL [a, b, c] := by
  rw [meet3, meet3, meet2]
  exact vc_nat fun n _ => by simp only [nat_meet]; omega
theorem join_self (a : Vc) : joinL [a, a] = a := by
  rw [join2]
  exact vc_nat fun n _ => by rw [nat_join]; omega
theorem meet_self (a : Vc) : meetL [a, a] = a := by
  rw [meet2]
  exact vc_nat fun n _ => by rw [nat_meet]; omega
theorem join_meet (a b : Vc) : joinL [a, meetL [a, b]] = a := by
  rw [join2, meet2]
  exact vc_nat fun n _ => by rw [nat_join, nat_meet]; omega
theorem le_join_left (a b : Vc) : LeV a (joinL [a, b]) := fun n _ => by rw [join2, nat_join]; omega
theorem le_join_right (a b : Vc) : LeV b (joinL [a, b]) := fun n _ => by rw [join2, nat_join]; omega
theorem meet_le_left (a b : Vc) : LeV (meetL [a, b]) a := fun n _ => by rw [meet2, nat_meet]; omega
theorem meet_le_right (a b : Vc) : LeV (meetL [a, b]) b := fun n _ => by rw [meet2, nat_meet]; omega
theorem join_le (a b c : Vc) : decide (LeV (joinL [a, b]) c) = (decide (LeV a c) && decide (LeV b c)) := by
  rw [Bool.eq_iff_iff]
  simp only [Bool.and_eq_true, decide_eq_true_eq]
  constructor
  · intro h
    exact ⟨(le_join_left a b).trans h, (le_join_right a b).trans h⟩
  · rintro ⟨h, k⟩ n hn
    have := h n hn
    have := k n hn
    rw [join2, nat_join]
    omega
theorem le_meet (a b c : Vc) : decide (LeV c (meetL [a, b])) = (decide (LeV c a) && decide (LeV c b)) := by
  rw [Bool.eq_iff_iff]
  simp only [Bool.and_eq_true, decide_eq_true_eq]
  constructor
  · intro h
    exact ⟨h.trans (meet_le_left a b), h.trans (meet_le_right a b)⟩
  · rintro ⟨h, k⟩ n hn
    have := h n hn
    have := k n hn
    rw [meet2, nat_meet]
    omega

theorem len_succ {α : Type} {L : List α} {n : Nat} (h : L.length = n + 1) : ∃ x L', L = x :: L' ∧ L'.length = n := by
  cases L with
  | nil => cases h
  | cons x L => exact ⟨x, L, rfl, by simpa using h⟩
/-- What an operation leaves. -/
structure Lv where
  p : Value → World → Prop
  st : ∀ v w w', p v w → Below w.heap.size w w' → p v w'
def Lv.val (u : Value) : Lv := ⟨fun v _ => v = u, fun _ _ _ h _ => h⟩
def Lv.vs (l : List Vc) : Lv := ⟨fun v W => Es eVec W v l, fun _ _ _ h hb => h.below hb⟩
def Lv.box (n0 : Nat) : Lv := ⟨fun v W => ∃ z, v = .pointer (some ⟨z, 0, none⟩) ∧ BoxV W z zeroV ∧ n0 ≤ z, fun _ _ _ ⟨z, h1, h2, h3⟩ hb => ⟨z, h1, h2.below hb, h3⟩⟩
def leaves (L : List Lv) (i : Nat) (v : Value) (W : World) : Prop := (L.getD i (Lv.val undef)).p v W
theorem leaves_st (L : List Lv) (i : Nat) (v : Value) (w w' : World) (h : leaves L i v w) (hb : Below w.heap.size w w') : leaves L i v w' := (L.getD i (Lv.val undef)).st v w w' h hb
theorem evT {a : Act} {t : Nat} {v : Value} (h : a.tmps[t]?.getD undef = v) : a.eval (.tmp t) = v := by
  rw [← h]
  simp [Act.eval, Array.getD_eq_getD_getElem?]
theorem wp_alloc_vec {o : Oper} {a : Act} {w : World} {K : Act → World → Prop} {Q : Exit → Act → World → Prop} (ho : o.op = .alloc 24)
    (h : K (a.put o.dst (.pointer (some ⟨w.heap.size, 0, none⟩))) (w.alloc (.cells (encC zeroV).toArray 24))) : o.wp Try.prog a w K Q := by
  obtain ⟨i0, hi, hz0, hz1, hz2⟩ := info_parts infoVec
  have hr : (execOp a.eval o).run Try.prog w = .ok (.value (.pointer (some ⟨w.heap.size, 0, none⟩))) (w.alloc (.cells (encC zeroV).toArray 24)) := by
    rw [zeroVec]
    unfold execOp
    simp [ho, Instr.alloc, zeroValue, typeInfo, hi, hz0, newVar, newRow, Value.cells]
  unfold Oper.wp
  rw [hr]
  exact h
end Go.Proofs.Ytbkbogblbniogaa
