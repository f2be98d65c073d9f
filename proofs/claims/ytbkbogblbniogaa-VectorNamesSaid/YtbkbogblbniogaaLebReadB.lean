/- Bytes and Raw of a Source. -/
import Derived.Test.YtbkbogblbniogaaLebRead
namespace Go.Proofs.Ytbkbogblbniogaa
open Go.RowKit
/-- What Bytes tells. -/
def bytesRes (most : Int) (xs : List UInt8) : Int × List UInt8 × List UInt8 :=
  if (numRes most.toNat xs).1 ≠ 0 then ((numRes most.toNat xs).1, [], (numRes most.toNat xs).2.2) else rawRes ((numRes most.toNat xs).2.1 : Int) (numRes most.toNat xs).2.2

theorem RawOut.chain {w w1 : World} {g : Nat} {v v1 : Value} {er : Int} {ys rest : List UInt8} {e : Ending} {W' : World} (hk : Kept (fun j => j = g) w w1) (hv : v1.ownBlock = v.ownBlock) (h : RawOut w1 g v1 er ys rest e W') : RawOut w g v er ys rest e W' := by
  obtain ⟨r, he, hrow, v2, hat2, hk2, hv2⟩ := h
  exact ⟨r, he, owns_base hrow hk.size, v2, hat2, hk.same hk2, hv2.trans hv⟩

theorem numRes_le {most : Nat} {xs : List UInt8} (h : (numRes most xs).1 = 0) : (numRes most xs).2.1 ≤ most := by
  unfold numRes at h ⊢
  split at h
  · rename_i h1; exact absurd h h1
  · split at h
    · cases h
    · rw [if_neg (by assumption), if_neg (by assumption)]; simp; omega
theorem numRes_left (most : Nat) (xs : List UInt8) : (numRes most xs).2.2.length ≤ xs.length := by
  have := scan_le xs 0 0
  unfold numRes
  split
  · exact this
  · split <;> exact this

end Go.Proofs.Ytbkbogblbniogaa
