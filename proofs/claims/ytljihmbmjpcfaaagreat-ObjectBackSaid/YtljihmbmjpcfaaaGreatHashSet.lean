/- The program's Set. -/
import Derived.Test.YtljihmbmjpcfaaaGreatHashSort
import Derived.Test.YtljihmbmjpcfaaaGreatHashClone
import Derived.Test.YtljihmbmjpcfaaaGreatHashCompact
namespace Go.Proofs.YtljihmbmjpcfaaaGreat
open Go.RowKit Go.Great
set_option maxRecDepth 100000

theorem compUp_small (l : List (List UInt8)) (h : l.length < 2) : compUp l l.length = l := by
  cases l with
  | nil => rfl
  | cons x l =>
    cases l with
    | nil => simp [compUp]
    | cons y l => simp at h; omega

set_option maxRecDepth 100000 in
set_option maxHeartbeats 1000000 in
/-- Set. -/
theorem hSet_any (w : World) (v : Value) (l : List (List UInt8)) (hs : Is w v l) (hl : l.length ≤ 1000) :
    Calls Tryz.prog 42 #[v] w fun e W' => ∃ v', e = .returned v' ∧ Is W' v' (setI l) ∧ Below w.heap.size w W' := by
  have h32 := hs.1
  have hc1 := idClone_any w v l hs hl
  obtain ⟨A, c, rfl, hc⟩ := hs.form
  go_enter Tryz.func42, Tryz.ntmps42
  go_wp2_with fail
  refine hc1.mono ?_
  rintro e w1 ⟨v1, rfl, hrow, hB1⟩
  clear hc1 hs
  by_cases h0 : 0 < l.length
  case neg =>
    have hl0 : l = [] := List.eq_nil_of_length_eq_zero (by omega)
    subst hl0
    obtain ⟨A1, c1, rfl, _⟩ := hrow.slice
    have hs1 := idSort_none w1 A1 c1
    have hk1 := idCompact_small w1 A1 c1 [] (by simp)
    clear hrow
    go_wp2_with fail
    refine hs1.mono ?_
    rintro e w2 ⟨rfl, rfl⟩
    go_wp2_with fail
    refine hk1.mono ?_
    rintro e w3 ⟨rfl, rfl⟩
    go_wp2
    go_ret
    exact ⟨_, rfl, Is.empty _ _ _, hB1⟩
  case pos =>
    obtain ⟨g, c1, rfl, hc1, hng, hg, hH⟩ := hrow.hold h0
    have hs1 := idSort_some w1 g c1 l hH hg (by omega)
    clear hrow hH
    go_wp2_with fail
    refine hs1.mono ?_
    rintro e w2 ⟨rfl, l', hp, hpw, hH2, hK2⟩
    have hlen := hp.length_eq
    have hB2 := hB1.trans (hK2.below (fun j _ e => by omega) hB1.size)
    have hg2 : g < w2.heap.size := Nat.lt_of_lt_of_le hg hK2.size
    have HE := Lib.hid (compact_set l l' h32 hp hpw)
    rw [← hlen]
    rw [← hlen] at hc1 hl
    clear hp hpw hs1 hlen
    by_cases h2 : l'.length < 2
    · have hk2 := idCompact_small w2 (some ⟨g, 0, none⟩) c1 l' h2
      have hi := hH2.is hc1
      have HI := Lib.hid (show Is w2 (.slice (some ⟨g, 0, none⟩) l'.length c1) (setI l) by
        rw [← HE.out, compUp_small l' h2]
        exact hi)
      clear hi hH2
      go_wp2_with fail
      refine hk2.mono ?_
      rintro e w3 ⟨rfl, rfl⟩
      go_wp2
      go_ret
      exact ⟨_, rfl, HI.out, hB2⟩
    · have hk2 := idCompact_some w2 g c1 l' hH2 hg2 hc1 (by omega) (by omega)
      rw [HE.out] at hk2
      clear hH2
      go_wp2_with fail
      refine hk2.mono ?_
      rintro e w3 ⟨v3, rfl, hi3, hK3⟩
      obtain ⟨A3, c3, rfl, _⟩ := hi3.form
      have HI := Lib.hid hi3
      clear hi3
      go_wp2
      go_ret
      exact ⟨_, rfl, HI.out, hB2.trans (hK3.below (fun j _ e => by omega) hB2.size)⟩
end Go.Proofs.YtljihmbmjpcfaaaGreat
