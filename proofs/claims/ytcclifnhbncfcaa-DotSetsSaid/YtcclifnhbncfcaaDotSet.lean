/- The program's Set of dots: SortFunc, Compact. -/
import Derived.Test.YtcclifnhbncfcaaDotHas
import Derived.Test.YtcclifnhbncfcaaDotCompact
import Derived.Test.YtcclifnhbncfcaaDotSortLay
import Derived.Test.YtcclifnhbncfcaaElSort
namespace Go.Proofs.Ytcclifnhbncfcaa
open Go.RowKit Go.Great Go.Sort Go.Shelf

instance : Inhabited (Int × Int) := ⟨(0, 0)⟩
set_option maxRecDepth 100000 in
theorem dSort_some (w : World) (g c : Nat) (l : List (Int × Int)) (h : HoldE eDot w g l) (hg : g < w.heap.size) (hl : l.length ≤ 1000000) :
    Calls Try.prog 43 #[.slice (some ⟨g, 0, none⟩) l.length c, .func (.func 44) #[] #[]] w fun e W' => e = .returned (.tuple #[]) ∧ ∃ l', l'.Perm l ∧ (l'.Pairwise fun a b => cmpX a b ≤ 0) ∧ HoldE eDot W' g l' ∧ Kept (· = g) w W' :=
  elSort_some (E := eDot) dSortLay Try.isAgg38 Try.sizeOf38 totD 44 #[] (enters_of Try.func44 (by kernel_rfl) rfl) (fun w x y => pDCompare_grow w x.1 x.2 y.1 y.2) w g c l h hg hl
theorem dSort_none (w : World) (A : Option Addr) (c : Nat) : Calls Try.prog 43 #[.slice A 0 c, .func (.func 44) #[] #[]] w fun e W' => e = .returned (.tuple #[]) ∧ W' = w :=
  AnyF.slices_SortFunc_none dSortLay A c _ w

set_option maxRecDepth 100000 in
set_option maxHeartbeats 1000000 in
/-- Set: an error, or the set. -/
theorem pDSet_any (w : World) (v : Value) (l : List (Int × Int)) (hs : Ds w v l) (hl : l.length ≤ 1000) :
    Calls Try.prog 16 #[v] w fun e W' => ∃ v', e = .returned (.tuple #[v', .int .i64 (if l.all okX then 0 else 50)]) ∧ NewE eDot W' w.heap.size v' (if l.all okX then setE cmpX l else []) ∧ Below w.heap.size w W' := by
  have c0 := dContains_any w v l hs hl
  have c1 := fun W h => dClone_any W v l h hl
  obtain ⟨A, c, rfl, hc⟩ := hs.form
  have HS := Lib.hid hs
  clear hs
  cases ha : l.all okX with
  | false =>
    rw [ha] at c0
    go_enter Try.func16, Try.ntmps16
    go_wp2_with fail
    refine c0.mono ?_
    rintro e w1 ⟨rfl, hB⟩
    go_wp2_with fail
    go_ret2
    exact ⟨_, rfl, NewE.nil _ _, hB⟩
  | true =>
    rw [ha] at c0
    go_enter Try.func16, Try.ntmps16
    go_wp2_with fail
    refine c0.mono ?_
    rintro e w0 ⟨rfl, hB0⟩
    have c1' := c1 w0 (HS.out.below hB0)
    clear c0 c1
    go_wp2_with fail
    refine c1'.mono ?_
    rintro e w1 ⟨v1, rfl, hrow, hb1⟩
    have hB1 := hB0.trans (hb1.mono hB0.size)
    have hrow' := hrow.base hB0.size
    clear c1' hrow hb1
    by_cases h0 : 0 < l.length
    case neg =>
      have hl0 : l = [] := List.eq_nil_of_length_eq_zero (by omega)
      subst hl0
      have hnew := hrow'.new
      obtain ⟨A1, k1, rfl, _⟩ := hrow'.slice
      have hs1 := dSort_none w1 A1 k1
      have hk1 := dCompact_small w1 A1 k1 [] (by simp)
      have HN := Lib.hid hnew
      clear hrow' hnew
      go_wp2_with fail
      refine hs1.mono ?_
      rintro e w2 ⟨rfl, rfl⟩
      go_wp2_with fail
      refine hk1.mono ?_
      rintro e w3 ⟨rfl, rfl⟩
      go_wp2
      go_ret2
      exact ⟨_, rfl, HN.out, hB1⟩
    case pos =>
      obtain ⟨g, k1, rfl, hk1, hng, hg, hH⟩ := hrow'.hold h0
      have hs1 := dSort_some w1 g k1 l hH hg (by omega)
      clear hrow' hH
      go_wp2_with fail
      refine hs1.mono ?_
      rintro e w2 ⟨rfl, l', hp, hpw, hH2, hK2⟩
      have hlen := hp.length_eq
      have hB2 := hB1.trans (hK2.below (fun j _ e => by omega) hB1.size)
      have hg2 : g < w2.heap.size := Nat.lt_of_lt_of_le hg hK2.size
      have HE := Lib.hid (compact_setE totD l l' hp hpw)
      rw [← hlen]
      rw [← hlen] at hk1 hl
      clear hp hpw hs1 hlen
      by_cases h2 : l'.length < 2
      · have hk2 := dCompact_small w2 (some ⟨g, 0, none⟩) k1 l' h2
        have HN := Lib.hid (show NewE eDot w2 w.heap.size (.slice (some ⟨g, 0, none⟩) l'.length k1) (setE cmpX l) by
          rw [← HE.out, compE_small l' h2]
          exact .inr ⟨g, k1, rfl, hk1, hng, hg2, hH2⟩)
        clear hH2
        go_wp2_with fail
        refine hk2.mono ?_
        rintro e w3 ⟨rfl, rfl⟩
        go_wp2
        go_ret2
        exact ⟨_, rfl, HN.out, hB2⟩
      · have hk2 := dCompact_some w2 g k1 l' hH2 hg2 hk1 (by omega) (by omega)
        have hcl := compE_len l' l'.length
        rw [HE.out] at hk2 hcl
        clear hH2
        go_wp2_with fail
        refine hk2.mono ?_
        rintro e w3 ⟨n, rfl, rfl, hH3, hK3⟩
        have HN := Lib.hid (show NewE eDot w3 w.heap.size (.slice (some ⟨g, 0, none⟩) (setE cmpX l).length k1) (setE cmpX l) from
          .inr ⟨g, k1, rfl, by omega, hng, Nat.lt_of_lt_of_le hg2 hK3.size, hH3⟩)
        clear hH3 hcl
        go_wp2
        go_ret2
        exact ⟨_, rfl, HN.out, hB2.trans (hK3.below (fun j _ e => by omega) hB2.size)⟩
end Go.Proofs.Ytcclifnhbncfcaa
