/- Whether an object may have a body: the program's. -/
import Derived.Test.YtfoeelhghdonbaaGreatObjKind
import Derived.Test.YtfoeelhghdonbaaGreatObjAny
import Derived.Test.YtfoeelhghdonbaaGreatHashSet
namespace Go.Proofs.YtfoeelhghdonbaaGreat
open Go.RowKit Go.Shelf Go.Great
set_option maxRecDepth 100000

/-- May an entry's name be, an entry. -/
def nameB (x : List UInt8) : Bool := decide (x ≠ []) && (decide (x.length ≤ 64) && !barred x)
def entryB (x : En) : Bool := (decide (x.kd = 1) || decide (x.kd = 2)) && nameB x.nm
theorem str_neq_nil (x : List UInt8) : ((Str x) = .string ⟨#[]⟩) ↔ x = [] := by
  constructor
  · intro h
    injection h with h
    injection h with h
    simpa using h
  · rintro rfl; rfl

set_option maxHeartbeats 1000000 in
theorem oEntryMay_any (w : World) (x : En) :
    Calls Tryz.prog 143 #[EnV x] w fun e W' => e = .returned (.bool (entryB x)) ∧ Below w.heap.size w W' := by
  have b1 : BoxE eEn 57 (w.alloc (.cells (encE x).toArray 57)) w.heap.size x := BoxE.new w x
  have hB1 : Below w.heap.size w (w.alloc (.cells (encE x).toArray 57)) := (Below.refl _ w).alloc (Nat.le_refl _) _
  have c0 := EnAt.nm b1.at
  have c1 := EnAt.kd b1.at
  simp only [Nat.zero_add] at c0 c1
  by_cases hk : x.kd = 1 ∨ x.kd = 2
  case neg =>
    have h1 : ¬ x.kd = 1 := fun h => hk (.inl h)
    have h2 : ¬ x.kd = 2 := fun h => hk (.inr h)
    have HE := Lib.hid (show entryB x = false by simp [entryB, h1, h2])
    have e1 : (x.kd != 1) = true := by simp [h1]
    have e2 : (x.kd != 2) = true := by simp [h2]
    clear hk
    go_enter Tryz.func143, Tryz.ntmps143
    go_wp2_with fail
    go_ret
    exact ⟨by rw [HE.out]; rfl, hB1⟩
  case pos =>
    have HK := Lib.hid (show entryB x = nameB x.nm by rcases hk with h | h <;> simp [entryB, h])
    by_cases h0 : x.nm = []
    · have HE := Lib.hid (show entryB x = false by rw [HK.out, h0]; rfl)
      rcases hk with h | h
      · go_enter Tryz.func143, Tryz.ntmps143
        go_wp2_with fail
        go_ret
        exact ⟨by rw [HE.out]; rfl, hB1⟩
      · go_enter Tryz.func143, Tryz.ntmps143
        go_wp2_with fail
        go_ret
        exact ⟨by rw [HE.out]; rfl, hB1⟩
    · have hl : (x.nm.length : Int) ≤ 64 ∨ ¬ (x.nm.length : Int) ≤ 64 := Classical.em _
      rcases hl with hl | hl
      case inr =>
        have HE := Lib.hid (show entryB x = false by rw [HK.out]; simp [nameB]; omega)
        rcases hk with h | h
        · go_enter Tryz.func143, Tryz.ntmps143
          go_wp2_with fail
          go_ret
          exact ⟨by rw [HE.out]; rfl, hB1⟩
        · go_enter Tryz.func143, Tryz.ntmps143
          go_wp2_with fail
          go_ret
          exact ⟨by rw [HE.out]; rfl, hB1⟩
      case inl =>
        have h0' : x.nm.isEmpty = false := by simpa using h0
        have HE := Lib.hid (show entryB x = !barred x.nm by rw [HK.out]; simp [nameB, h0]; omega)
        rcases hk with h | h
        · go_enter Tryz.func143, Tryz.ntmps143
          go_wp2_with fail
          refine (sContainsAny_any _ x.nm (by omega)).mono ?_
          rintro e w2 ⟨rfl, h2⟩
          go_wp2_with fail
          go_ret
          exact ⟨by rw [HE.out]; rfl, hB1.trans (h2.mono hB1.size)⟩
        · go_enter Tryz.func143, Tryz.ntmps143
          go_wp2_with fail
          refine (sContainsAny_any _ x.nm (by omega)).mono ?_
          rintro e w2 ⟨rfl, h2⟩
          go_wp2_with fail
          go_ret
          exact ⟨by rw [HE.out]; rfl, hB1.trans (h2.mono hB1.size)⟩
end Go.Proofs.YtfoeelhghdonbaaGreat
