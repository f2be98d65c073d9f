/- Add of vectors: the program's and the reference's (tools/genvec3.py). -/
import Derived.Test.YtbkbogblbniogaaVecAsk
namespace Go.Proofs.Ytbkbogblbniogaa
open Go.RowKit
set_option maxRecDepth 100000

theorem vec_dot_res (w : World) (v : Vc) (s c : Int) : ∃ w3, w3 = ((w.alloc (.cells (encC v).toArray 24)).alloc (.cells #[.int .i64 s, .int .i64 c] 27)).alloc (.cells (encC zeroV).toArray 24) ∧ BoxV w3 w.heap.size v ∧ w3.cell? ⟨w.heap.size + 1, 0, none⟩ = some (.int .i64 s) ∧ w3.cell? ⟨w.heap.size + 1, 1, none⟩ = some (.int .i64 c) ∧ BoxV w3 (w.heap.size + 2) zeroV ∧ Below w.heap.size w w3 := by
  obtain ⟨w2, rfl, b1, g1, g2, hB⟩ := vec_dot w v s c
  refine ⟨_, rfl, b1.below ((Below.refl _ _).alloc (Nat.le_refl _) _), cellOn ((Below.refl _ _).alloc (Nat.le_refl _) _) g1, cellOn ((Below.refl _ _).alloc (Nat.le_refl _) _) g2, ?_, hB.alloc hB.size _⟩
  have := BoxV.new ((w.alloc (.cells (encC v).toArray 24)).alloc (.cells #[.int .i64 s, .int .i64 c] 27)) zeroV
  rw [World.size_alloc, World.size_alloc] at this
  exact this
theorem addE_no {v : Vc} {s c : Int} (h : ¬ DotOk s c) : addE v s c = 50 := by
  unfold DotOk at h
  unfold addE
  rw [if_neg h]
theorem addE_ok {v : Vc} {s c : Int} (h : DotOk s c) : addE v s c = if c = ((atV v s.toNat).toNat : Int) + 1 then 0 else 61 := by
  unfold DotOk at h
  unfold addE
  rw [if_pos h]
theorem addV_no {v : Vc} {s c : Int} (h : addE v s c ≠ 0) : addV v s c = zeroV := if_neg h
theorem inc_u32 {y : UInt32} (h : y.toNat < 4294967295) : W32 (y + 1) = .int .u32 ((y.toNat : Int) + 1) := by
  unfold W32
  rw [UInt32.toNat_add]
  congr 1
  simp
  omega

set_option maxHeartbeats 1000000 in
theorem pVAdd_any (w : World) (v : Vc) (s c : Int) :
    Calls Try.prog 13 #[VecV v, DotV s c] w fun e W' => e = .returned (.tuple #[VecV (addV v s c), .int .i64 (addE v s c)]) ∧ Below w.heap.size w W' := by
  obtain ⟨w3, hw3, b1, g1, g2, b4, hB0⟩ := vec_dot_res w v s c
  by_cases hok : DotOk s c
  case neg =>
    have HE := Lib.hid (addE_no (v := v) hok)
    have HV := Lib.hid (show addV v s c = zeroV from addV_no (by rw [HE.out]; omega))
    have HK := Lib.hid (checkD_no hok)
    clear hok
    rw [HE.out, HV.out]
    subst hw3
    go_enter Try.func13, Try.ntmps13
    go_wp2_with (refine wpList_alloc_vec rfl rfl ?_)
    refine (pDCheck_any _ s c).mono ?_
    rintro e w4 ⟨rfl, hb4⟩
    rw [HK.out]
    replace b4 := b4.below hb4
    go_wp2_with (first
      | (refine wpList_alloc_vec rfl rfl ?_)
      | (refine wpList_build_vec rfl rfl ?_)
      | (refine wpList_load_vec rfl (.tmp 2) rfl rfl b1.at ?_)
      | (refine wpList_store_vec rfl (.tmp 4) (.tmp 11) rfl rfl b4 rfl ?_; intro w9 b9 k9))
    refine bodyPost_ret (results_vec2 rfl _ rfl b9) rfl ?_
    exact ⟨rfl, (hB0.trans (hb4.mono hB0.size)).trans (k9.below (fun j _ e => by subst e; exact Nat.le_add_right _ 2) (Nat.le_trans hB0.size hb4.size))⟩
  case pos =>
  have HK := Lib.hid (checkD_ok hok)
  have HA := Lib.hid (addE_ok (v := v) hok)
  unfold DotOk at hok
  obtain ⟨h0, h15, hc1, hc2⟩ := hok
  obtain ⟨n, rfl⟩ : ∃ n : Nat, s = n := ⟨s.toNat, by omega⟩
  obtain ⟨m, rfl⟩ : ∃ m : Nat, c = m := ⟨c.toNat, by omega⟩
  have hn : n < 16 := by omega
  have hn' : (n : Int) < 16 := by omega
  have hlt := (atV v n).toNat_lt
  have hm1 : 1 ≤ m := by omega
  have hm2 : m ≤ 4294967295 := by omega
  replace HA := Lib.hid (show addE v n m = if (m : Int) = ((atV v n).toNat : Int) + 1 then 0 else 61 from HA.out)
  have HV0 := Lib.hid (show addV v n m = if addE v n m = 0 then setV v n (atV v n + 1) else zeroV from rfl)
  have HI := Lib.hid (fun h => inc_u32 (y := atV v n) h)
  have HX := Lib.hid (show nextE v n = if (atV v n).toNat = 4294967295 then 60 else 0 by unfold nextE; rw [if_pos ⟨h0, h15⟩]; rfl)
  have HD := Lib.hid (show nextD v n = if nextE v n = 0 then ((n : Int), ((atV v n).toNat : Int) + 1) else (0, 0) from rfl)
  clear h0 h15 hc1 hc2
  subst hw3
  by_cases htop : (atV v n).toNat = 4294967295
  · have HE := Lib.hid (show addE v n m = 61 by rw [HA.out, if_neg (by omega)])
    have HV := Lib.hid (show addV v n m = zeroV from addV_no (by rw [HE.out]; omega))
    replace HX := Lib.hid (show nextE v n = 60 by rw [HX.out, if_pos htop])
    replace HD := Lib.hid (show nextD v n = (0, 0) by rw [HD.out, HX.out]; rfl)
    clear htop HV0 HA HI hlt hm1 hm2
    rw [HE.out, HV.out]
    go_enter Try.func13, Try.ntmps13
    go_wp2_with (refine wpList_alloc_vec rfl rfl ?_)
    refine (pDCheck_any _ _ _).mono ?_
    rintro e w4 ⟨rfl, hb4⟩
    rw [HK.out]
    replace b1 := b1.below hb4
    replace b4 := b4.below hb4
    replace g1 := cellOn hb4 g1
    replace g2 := cellOn hb4 g2
    replace hB0 := hB0.trans (hb4.mono hB0.size)
    clear hb4
    go_wp2_with (first
      | (refine wpList_alloc_vec rfl rfl ?_)
      | (refine wpList_build_vec rfl rfl ?_)
      | (refine wpList_load_vec rfl (.tmp 2) rfl rfl b1.at ?_)
      | (refine wpList_store_vec rfl (.tmp 4) (.tmp 26) rfl rfl b4 rfl ?_; intro w9 b9 k9))
    refine (pVNext_any _ _ _).mono ?_
    rintro e w5 ⟨rfl, hb5⟩
    rw [HX.out, HD.out]
    have hb6 : Below w4.heap.size w4 (w5.alloc (.cells #[.int .i64 0, .int .i64 0] 27)) := hb5.alloc hb5.size _
    replace b1 := b1.below hb6
    replace b4 := b4.below hb6
    replace g1 := cellOn hb6 g1
    replace g2 := cellOn hb6 g2
    replace hB0 := hB0.trans (hb6.mono hB0.size)
    clear hb5 hb6
    go_wp2_with (first
      | (refine wpList_alloc_vec rfl rfl ?_)
      | (refine wpList_build_vec rfl rfl ?_)
      | (refine wpList_load_vec rfl (.tmp 2) rfl rfl b1.at ?_)
      | (refine wpList_store_vec rfl (.tmp 4) (.tmp 26) rfl rfl b4 rfl ?_; intro w9 b9 k9))
    refine bodyPost_ret (results_vec2 rfl _ rfl b9) rfl ?_
    exact ⟨rfl, hB0.trans (k9.below (fun j _ e => by subst e; exact Nat.le_add_right _ 2) hB0.size)⟩
  replace HX := Lib.hid (show nextE v n = 0 by rw [HX.out, if_neg htop])
  replace HD := Lib.hid (show nextD v n = ((n : Int), ((atV v n).toNat : Int) + 1) by rw [HD.out, HX.out]; rfl)
  obtain ⟨x, hx⟩ : ∃ x, x = (atV v n).toNat := ⟨_, rfl⟩
  have hgx : ∀ W, BoxV W w.heap.size v → W.cell? ⟨w.heap.size, n, none⟩ = some (.int .u32 (x : Int)) := fun W h => by rw [hx]; exact h.cell hn
  rw [← hx] at HD HA HI hlt htop
  clear hx
  by_cases hmx : m = x + 1
  case neg =>
    have hmx' : ¬ ((x : Int) + 1) = (m : Int) := by omega
    have hmx2 : ¬ (m : Int) = ((x : Int) + 1) := by omega
    have HE := Lib.hid (show addE v n m = 61 by rw [HA.out, if_neg (by omega)])
    have HV := Lib.hid (show addV v n m = zeroV from addV_no (by rw [HE.out]; omega))
    clear hmx HV0 HA HI hlt hm1 hm2 htop hgx
    rw [HE.out, HV.out]
    go_enter Try.func13, Try.ntmps13
    go_wp2_with (refine wpList_alloc_vec rfl rfl ?_)
    refine (pDCheck_any _ _ _).mono ?_
    rintro e w4 ⟨rfl, hb4⟩
    rw [HK.out]
    replace b1 := b1.below hb4
    replace b4 := b4.below hb4
    replace g1 := cellOn hb4 g1
    replace g2 := cellOn hb4 g2
    replace hB0 := hB0.trans (hb4.mono hB0.size)
    clear hb4
    go_wp2_with (first
      | (refine wpList_alloc_vec rfl rfl ?_)
      | (refine wpList_build_vec rfl rfl ?_)
      | (refine wpList_load_vec rfl (.tmp 2) rfl rfl b1.at ?_)
      | (refine wpList_store_vec rfl (.tmp 4) (.tmp 26) rfl rfl b4 rfl ?_; intro w9 b9 k9))
    refine (pVNext_any _ _ _).mono ?_
    rintro e w5 ⟨rfl, hb5⟩
    rw [HX.out, HD.out]
    have hb6 : Below w4.heap.size w4 (w5.alloc (.cells #[.int .i64 n, .int .i64 ((x : Int) + 1)] 27)) := hb5.alloc hb5.size _
    replace b1 := b1.below hb6
    replace b4 := b4.below hb6
    replace g1 := cellOn hb6 g1
    replace g2 := cellOn hb6 g2
    replace hB0 := hB0.trans (hb6.mono hB0.size)
    clear hb5 hb6
    go_wp2_with (first
      | (refine wpList_alloc_vec rfl rfl ?_)
      | (refine wpList_build_vec rfl rfl ?_)
      | (refine wpList_load_vec rfl (.tmp 2) rfl rfl b1.at ?_)
      | (refine wpList_store_vec rfl (.tmp 4) (.tmp 26) rfl rfl b4 rfl ?_; intro w9 b9 k9))

    refine bodyPost_ret (results_vec2 rfl _ rfl b9) rfl ?_
    exact ⟨rfl, hB0.trans (k9.below (fun j _ e => by subst e; exact Nat.le_add_right _ 2) hB0.size)⟩
  case pos =>
    have HE := Lib.hid (show addE v n m = 0 by rw [HA.out, if_pos (by omega)])
    have HV := Lib.hid (show addV v n m = setV v n (atV v n + 1) by rw [HV0.out, HE.out]; rfl)
    have hinc := Lib.hid (HI.out (by omega))
    have hmI : (m : Int) = (x : Int) + 1 := by omega
    have n1 : IntKind.u32.wrap ((x : Int) + 1) = (x : Int) + 1 := IntWalk.u32_in _ (by omega)
    have hP : ∀ W, BoxV W w.heap.size v → BoxV (W.setCell ⟨w.heap.size, n, none⟩ (.int .u32 ((x : Int) + 1))) w.heap.size (setV v n (atV v n + 1)) := fun W h => by have := h.put (k := n) (atV v n + 1); rw [hinc.out] at this; exact this
    have hQ : ∀ (W : World) u, BoxV W (w.heap.size + 2) zeroV → BoxV (W.setCell ⟨w.heap.size, n, none⟩ u) (w.heap.size + 2) zeroV := fun W u h => h.kept (T := (· = w.heap.size)) ((Kept.refl (· = w.heap.size) W).setCell (T := (· = w.heap.size)) (p := ⟨w.heap.size, n, none⟩) (fun _ => rfl) u) (by simp)
    clear HV0 HA HI hm1 hm2 htop hmx
    rw [HE.out, HV.out]
    rw [hmI] at g1 g2 b1 b4 hB0 HK ⊢
    clear hmI
    go_enter Try.func13, Try.ntmps13
    go_wp2_with (refine wpList_alloc_vec rfl rfl ?_)
    refine (pDCheck_any _ _ _).mono ?_
    rintro e w4 ⟨rfl, hb4⟩
    rw [HK.out]
    replace b1 := b1.below hb4
    replace b4 := b4.below hb4
    replace g1 := cellOn hb4 g1
    replace g2 := cellOn hb4 g2
    replace hB0 := hB0.trans (hb4.mono hB0.size)
    clear hb4
    go_wp2_with (first
      | (refine wpList_alloc_vec rfl rfl ?_)
      | (refine wpList_build_vec rfl rfl ?_)
      | (refine wpList_load_vec rfl (.tmp 2) rfl rfl b1.at ?_)
      | (refine wpList_store_vec rfl (.tmp 4) (.tmp 26) rfl rfl b4 rfl ?_; intro w9 b9 k9))
    refine (pVNext_any _ _ _).mono ?_
    rintro e w5 ⟨rfl, hb5⟩
    rw [HX.out, HD.out]
    have hb6 : Below w4.heap.size w4 (w5.alloc (.cells #[.int .i64 n, .int .i64 ((x : Int) + 1)] 27)) := hb5.alloc hb5.size _
    replace b1 := b1.below hb6
    replace b4 := b4.below hb6
    replace g1 := cellOn hb6 g1
    replace g2 := cellOn hb6 g2
    replace hB0 := hB0.trans (hb6.mono hB0.size)
    have gx : (w5.alloc (.cells #[.int .i64 n, .int .i64 ((x : Int) + 1)] 27)).cell? ⟨w.heap.size, n, none⟩ = some (.int .u32 (x : Int)) := hgx _ b1
    have fx := b1.frozen n
    have b1' := hP _ b1
    have b4' := hQ _ (.int .u32 ((x : Int) + 1)) b4
    clear hb5 hb6 hP hQ hgx
    go_wp2_with (first
      | (refine wpList_load_vec rfl (.tmp 2) rfl rfl b1'.at ?_)
      | (refine wpList_store_vec rfl (.tmp 4) (.tmp 33) rfl rfl b4' rfl ?_; intro w9 b9 k9))
    refine bodyPost_ret (results_vec2 rfl _ rfl b9) rfl ?_
    exact ⟨rfl, (hB0.setCell (Nat.le_refl _) _).trans (k9.below (fun j _ e => by subst e; exact Nat.le_add_right _ 2) (by first | (simp [World.setCell]; exact hB0.size) | exact (hB0.setCell (Nat.le_refl _) _).size))⟩

set_option maxHeartbeats 1000000 in
theorem r6Add_any (w : World) (v : Vc) (s c : Int) :
    Calls Try.prog 14 #[VecV v, DotV s c] w fun e W' => e = .returned (.tuple #[VecV (addV v s c), .int .i64 (addE v s c)]) ∧ Below w.heap.size w W' := by
  obtain ⟨w3, hw3, b1, g1, g2, b4, hB0⟩ := vec_dot_res w v s c
  by_cases hok : DotOk s c
  case neg =>
    have HE := Lib.hid (addE_no (v := v) hok)
    have HV := Lib.hid (show addV v s c = zeroV from addV_no (by rw [HE.out]; omega))
    have HK := Lib.hid (checkD_no hok)
    clear hok
    rw [HE.out, HV.out]
    subst hw3
    go_enter Try.func14, Try.ntmps14
    go_wp2_with (refine wpList_alloc_vec rfl rfl ?_)
    refine (r5Check_any _ s c).mono ?_
    rintro e w4 ⟨rfl, hb4⟩
    rw [HK.out]
    replace b4 := b4.below hb4
    go_wp2_with (first
      | (refine wpList_alloc_vec rfl rfl ?_)
      | (refine wpList_build_vec rfl rfl ?_)
      | (refine wpList_load_vec rfl (.tmp 2) rfl rfl b1.at ?_)
      | (refine wpList_store_vec rfl (.tmp 4) (.tmp 9) rfl rfl b4 rfl ?_; intro w9 b9 k9))
    refine bodyPost_ret (results_vec2 rfl _ rfl b9) rfl ?_
    exact ⟨rfl, (hB0.trans (hb4.mono hB0.size)).trans (k9.below (fun j _ e => by subst e; exact Nat.le_add_right _ 2) (Nat.le_trans hB0.size hb4.size))⟩
  case pos =>
  have HK := Lib.hid (checkD_ok hok)
  have HA := Lib.hid (addE_ok (v := v) hok)
  unfold DotOk at hok
  obtain ⟨h0, h15, hc1, hc2⟩ := hok
  obtain ⟨n, rfl⟩ : ∃ n : Nat, s = n := ⟨s.toNat, by omega⟩
  obtain ⟨m, rfl⟩ : ∃ m : Nat, c = m := ⟨c.toNat, by omega⟩
  have hn : n < 16 := by omega
  have hn' : (n : Int) < 16 := by omega
  have hlt := (atV v n).toNat_lt
  have hm1 : 1 ≤ m := by omega
  have hm2 : m ≤ 4294967295 := by omega
  replace HA := Lib.hid (show addE v n m = if (m : Int) = ((atV v n).toNat : Int) + 1 then 0 else 61 from HA.out)
  have HV0 := Lib.hid (show addV v n m = if addE v n m = 0 then setV v n (atV v n + 1) else zeroV from rfl)
  have HI := Lib.hid (fun h => inc_u32 (y := atV v n) h)
  have HX := Lib.hid (show nextE v n = if (atV v n).toNat = 4294967295 then 60 else 0 by unfold nextE; rw [if_pos ⟨h0, h15⟩]; rfl)
  have HD := Lib.hid (show nextD v n = if nextE v n = 0 then ((n : Int), ((atV v n).toNat : Int) + 1) else (0, 0) from rfl)
  clear h0 h15 hc1 hc2
  subst hw3
  obtain ⟨x, hx⟩ : ∃ x, x = (atV v n).toNat := ⟨_, rfl⟩
  have hgx : ∀ W, BoxV W w.heap.size v → W.cell? ⟨w.heap.size, n, none⟩ = some (.int .u32 (x : Int)) := fun W h => by rw [hx]; exact h.cell hn
  rw [← hx] at HA HI hlt
  clear HX HD hx
  have n1 : IntKind.i64.wrap (x : Int) = x := IntWalk.i64_in _ (by omega)
  have n2 : IntKind.i64.wrap ((x : Int) + 1) = (x : Int) + 1 := IntWalk.i64_in _ (by omega)
  by_cases hmx : m = x + 1
  case neg =>
    have hmx2 : ¬ (m : Int) = ((x : Int) + 1) := by omega
    have HE := Lib.hid (show addE v n m = 61 by rw [HA.out, if_neg (by omega)])
    have HV := Lib.hid (show addV v n m = zeroV from addV_no (by rw [HE.out]; omega))
    clear hmx HV0 HA HI hlt hm1 hm2
    rw [HE.out, HV.out]
    go_enter Try.func14, Try.ntmps14
    go_wp2_with (refine wpList_alloc_vec rfl rfl ?_)
    refine (r5Check_any _ _ _).mono ?_
    rintro e w4 ⟨rfl, hb4⟩
    rw [HK.out]
    replace b1 := b1.below hb4
    replace b4 := b4.below hb4
    replace g1 := cellOn hb4 g1
    replace g2 := cellOn hb4 g2
    replace hB0 := hB0.trans (hb4.mono hB0.size)
    have gx : w4.cell? ⟨w.heap.size, n, none⟩ = some (.int .u32 (x : Int)) := hgx _ b1
    clear hb4 hgx
    go_wp2_with fail
    go_quiet (fail)
    replace b4 : BoxV (w4.drewN nq) (w.heap.size + 2) zeroV := b4
    go_wp2_with (first
      | (refine wpList_alloc_vec rfl rfl ?_)
      | (refine wpList_build_vec rfl rfl ?_)
      | (refine wpList_load_vec rfl (.tmp 2) rfl rfl b1.at ?_)
      | (refine wpList_store_vec rfl (.tmp 4) (.tmp 19) rfl rfl b4 rfl ?_; intro w9 b9 k9))
    refine bodyPost_ret (results_vec2 rfl _ rfl b9) rfl ?_
    exact ⟨rfl, (belN hB0 nq).trans (k9.below (fun j _ e => by subst e; exact Nat.le_add_right _ 2) hB0.size)⟩
  case pos =>
    have HE := Lib.hid (show addE v n m = 0 by rw [HA.out, if_pos (by omega)])
    have HV := Lib.hid (show addV v n m = setV v n (atV v n + 1) by rw [HV0.out, HE.out]; rfl)
    have hinc := Lib.hid (HI.out (by omega))
    have hmI : (m : Int) = (x : Int) + 1 := by omega
    have n3 : IntKind.u32.wrap ((x : Int) + 1) = (x : Int) + 1 := IntWalk.u32_in _ (by omega)
    have hP : ∀ W, BoxV W w.heap.size v → BoxV (W.setCell ⟨w.heap.size, n, none⟩ (.int .u32 ((x : Int) + 1))) w.heap.size (setV v n (atV v n + 1)) := fun W h => by have := h.put (k := n) (atV v n + 1); rw [hinc.out] at this; exact this
    have hQ : ∀ (W : World) u, BoxV W (w.heap.size + 2) zeroV → BoxV (W.setCell ⟨w.heap.size, n, none⟩ u) (w.heap.size + 2) zeroV := fun W u h => h.kept (T := (· = w.heap.size)) ((Kept.refl (· = w.heap.size) W).setCell (T := (· = w.heap.size)) (p := ⟨w.heap.size, n, none⟩) (fun _ => rfl) u) (by simp)
    clear HV0 HA HI hm1 hm2 hmx
    rw [HE.out, HV.out]
    rw [hmI] at g1 g2 b1 b4 hB0 HK ⊢
    clear hmI
    go_enter Try.func14, Try.ntmps14
    go_wp2_with (refine wpList_alloc_vec rfl rfl ?_)
    refine (r5Check_any _ _ _).mono ?_
    rintro e w4 ⟨rfl, hb4⟩
    rw [HK.out]
    replace b1 := b1.below hb4
    replace b4 := b4.below hb4
    replace g1 := cellOn hb4 g1
    replace g2 := cellOn hb4 g2
    replace hB0 := hB0.trans (hb4.mono hB0.size)
    have gx : w4.cell? ⟨w.heap.size, n, none⟩ = some (.int .u32 (x : Int)) := hgx _ b1
    have fx := b1.frozen n
    clear hb4 hgx
    go_wp2_with fail
    go_quiet (fail)
    have b1' : BoxV (w4.drewN nq).drew w.heap.size v := b1
    have b4' : BoxV (w4.drewN nq).drew (w.heap.size + 2) zeroV := b4
    have hB5 : Below w.heap.size w (w4.drewN nq).drew := (belN hB0 nq).drew
    replace g1 : (w4.drewN nq).drew.cell? ⟨w.heap.size + 1, 0, none⟩ = some (.int .i64 (n : Int)) := g1
    replace gx : (w4.drewN nq).drew.cell? ⟨w.heap.size, n, none⟩ = some (.int .u32 (x : Int)) := gx
    replace fx : (w4.drewN nq).drew.frozen? ⟨w.heap.size, n, none⟩ = false := fx
    generalize hq : w4.drewN nq = w5 at *
    clear b1 b4 hB0 hq g2
    replace b1' := hP _ b1'
    replace b4' := hQ _ (.int .u32 ((x : Int) + 1)) b4'
    go_wp2_with fail
    go_region
    all_goals (
      go_wp2_with (first
        | (refine wpList_load_vec rfl (.tmp 2) rfl rfl b1'.at ?_)
        | (refine wpList_store_vec rfl (.tmp 4) (.tmp 28) rfl rfl b4' rfl ?_; intro w9 b9 k9)))
    all_goals (
      refine bodyPost_ret (results_vec2 rfl _ rfl b9) rfl ?_
      exact ⟨rfl, (hB5.setCell (Nat.le_refl _) _).trans (k9.below (fun j _ e => by subst e; exact Nat.le_add_right _ 2) (hB5.setCell (Nat.le_refl _) _).size)⟩)
end Go.Proofs.Ytbkbogblbniogaa
