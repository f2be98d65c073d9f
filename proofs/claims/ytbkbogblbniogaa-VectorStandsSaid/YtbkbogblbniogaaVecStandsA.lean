/- The walk of VectorStands (tools/genstands.py). -/
import Derived.Test.YtbkbogblbniogaaVecAlive
namespace Go.Proofs.Ytbkbogblbniogaa
open Go.RowKit Go.Great
set_option maxRecDepth 100000

theorem cmpV_cases (a b : Vc) : (cmpV a b = 0 ∧ cmpV b a = 0 ∧ a = b ∧ LeV a b ∧ LeV b a) ∨ (cmpV a b = 1 ∧ cmpV b a = 2 ∧ a ≠ b ∧ LeV a b ∧ ¬ LeV b a) ∨ (cmpV a b = 2 ∧ cmpV b a = 1 ∧ a ≠ b ∧ ¬ LeV a b ∧ LeV b a) ∨ (cmpV a b = 3 ∧ cmpV b a = 3 ∧ a ≠ b ∧ ¬ LeV a b ∧ ¬ LeV b a) := by
  by_cases h1 : LeV a b <;> by_cases h2 : LeV b a
  · have := h1.anti h2
    subst this
    exact .inl ⟨cmpV_same a, cmpV_same a, rfl, h1, h2⟩
  · exact .inr (.inl ⟨by simp [cmpV, h1, h2], by simp [cmpV, h1, h2], fun e => h2 (e ▸ LeV.refl _), h1, h2⟩)
  · exact .inr (.inr (.inl ⟨by simp [cmpV, h1, h2], by simp [cmpV, h1, h2], fun e => h1 (e ▸ LeV.refl _), h1, h2⟩))
  · exact .inr (.inr (.inr ⟨by simp [cmpV, h1, h2], by simp [cmpV, h1, h2], fun e => h1 (e ▸ LeV.refl _), h1, h2⟩))
theorem cmpV_before {a b : Vc} : cmpV a b = 1 ↔ LeV a b ∧ ¬ LeV b a := by
  unfold cmpV
  by_cases h1 : LeV a b <;> by_cases h2 : LeV b a <;> simp [h1, h2]
theorem before_trans {a b c : Vc} (h : cmpV a b = 1) (k : cmpV b c = 1) : cmpV a c = 1 := by
  rw [cmpV_before] at *
  exact ⟨h.1.trans k.1, fun e => h.2 (k.1.trans e)⟩
theorem lacks_iff (a b : Vc) : lacksN a b 16 = 0 ↔ LeV b a := lacksN_zero a b 16
end Go.Proofs.Ytbkbogblbniogaa
