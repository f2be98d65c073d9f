/- What VectorDots comes down to (tools/gendots6.py). -/
import Derived.Test.YtbkbogblbniogaaVecAlive
namespace Go.Proofs.Ytbkbogblbniogaa
open Go.RowKit Go.Great
set_option maxRecDepth 100000

theorem inc_toNat {y : UInt32} (h : y.toNat < 4294967295) : (y + 1).toNat = y.toNat + 1 := by
  rw [UInt32.toNat_add]
  simp
  omega
/-- A vector with one dot more. -/
def incV (u : Vc) (p : Nat) : Vc := setV u p (atV u p + 1)
theorem incV_at {u : Vc} {p : Nat} (hp : p < 16) (hy : (atV u p).toNat < 4294967295) (n : Nat) : (atV (incV u p) n).toNat = (atV u n).toNat + (if n = p then 1 else 0) := by
  unfold incV
  rw [atV_set u hp]
  by_cases h : n = p
  · subst h
    rw [if_pos rfl, if_pos rfl, inc_toNat hy]
  · rw [if_neg h, if_neg h, Nat.add_zero]
theorem lacks_inc (a u : Vc) {p : Nat} (hp : p < 16) (hy : (atV u p).toNat < 4294967295) (hle : (atV a p).toNat ≤ (atV u p).toNat) : ∀ k, lacksN a (incV u p) k = lacksN a u k + (if p < k then 1 else 0) := by
  intro k
  induction k with
  | zero => simp [lacksN]
  | succ k ih =>
    simp only [lacksN]
    rw [ih, incV_at hp hy k]
    by_cases h : k = p
    · subst h
      rw [if_neg (by omega), if_pos rfl, if_pos (by omega)]
      omega
    · rw [if_neg h]
      by_cases h1 : p < k
      · rw [if_pos h1, if_pos (by omega)]
        omega
      · rw [if_neg h1, if_neg (by omega)]
        omega
theorem lacks_self (u : Vc) : lacksN u u 16 = 0 := (lacksN_zero u u 16).2 fun _ _ => Nat.le_refl _
theorem dots_step {v u : Vc} {p m : Nat} (hp : p < 16) (hy : (atV u p).toNat < 4294967295) (hle : LeV v u) (hm : lacksN v u 16 = m) :
    nextE u p = 0 ∧ nextD u p = ((p : Int), ((atV u p).toNat : Int) + 1) ∧ decide (HasV u p (((atV u p).toNat : Int) + 1)) = false ∧ addE u p (((atV u p).toNat : Int) + 1) = 0 ∧ addV u p (((atV u p).toNat : Int) + 1) = incV u p ∧
    decide (HasV (incV u p) p (((atV u p).toNat : Int) + 1)) = true ∧ cmpV u (incV u p) = 1 ∧ lacksN u (incV u p) 16 = 1 ∧ LeV v (incV u p) ∧ lacksN v (incV u p) 16 = m + 1 := by
  have hE : nextE u p = 0 := by
    unfold nextE
    rw [if_pos (by omega), if_neg (by simp; omega)]
  have hA : addE u p (((atV u p).toNat : Int) + 1) = 0 := by
    unfold addE
    rw [if_pos (by omega), if_pos (by simp)]
  have hle2 : LeV u (incV u p) := fun n hn => by rw [incV_at hp hy]; omega
  refine ⟨hE, ?_, ?_, hA, ?_, ?_, ?_, ?_, hle.trans hle2, ?_⟩
  · unfold nextD
    rw [if_pos hE]
    simp
  · refine decide_eq_false fun h => ?_
    unfold HasV at h
    simp at h
    omega
  · unfold addV
    rw [if_pos hA]
    simp [incV]
  · refine decide_eq_true ?_
    unfold HasV
    have := incV_at hp hy p
    rw [if_pos rfl] at this
    simp
    omega
  · unfold cmpV
    rw [if_pos hle2, if_neg (fun h => by
      have := h p hp
      rw [incV_at hp hy, if_pos rfl] at this
      omega)]
  · rw [lacks_inc u u hp hy (Nat.le_refl _), lacks_self, if_pos hp]
  · rw [lacks_inc v u hp hy (hle p hp), if_pos hp, hm]
theorem dots_top {u : Vc} {p : Nat} (hp : p < 16) (hy : ¬ (atV u p).toNat < 4294967295) : nextE u p = 60 ∧ nextD u p = (0, 0) := by
  have h32 := (atV u p).toNat_lt
  have hE : nextE u p = 60 := by
    unfold nextE
    rw [if_pos (by omega), if_pos (by simp; omega)]
  refine ⟨hE, ?_⟩
  unfold nextD
  rw [if_neg (by rw [hE]; omega)]
theorem hasV_mono {v u : Vc} {s c : Int} (h : HasV v s c) (hle : LeV v u) : HasV u s c := by
  unfold HasV at *
  have := hle s.toNat (by omega)
  omega
theorem Bs.belowN {w w' : World} {n : Nat} {v : Value} {xs : List UInt8} (h : Bs w v xs) (hb : Below n w w') (hn : xs ≠ [] → ∀ j, v.ownBlock = some j → j < n) : Bs w' v xs :=
  (Kept.of_below' hb).bs1 h (fun hx j hj t => by have := hn hx j hj; omega)
theorem BoxV.belowM {w w' : World} {g n : Nat} {v : Vc} (h : BoxV w g v) (hb : Below n w w') (hg : g < n) : BoxV w' g v := (hb.block g hg).trans h
theorem cellM {w w' : World} {p : Addr} {n : Nat} {v : Value} (hb : Below n w w') (hp : p.block < n) (h : w.cell? p = some v) : w'.cell? p = some v := (hb.cell hp).trans h
theorem lacks_le {v u : Vc} (h : LeV v u) : lacksN u v 16 = 0 := (lacksN_zero u v 16).2 h
end Go.Proofs.Ytbkbogblbniogaa
