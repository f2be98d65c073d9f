/- The walk of DotBack (tools/genback.py). -/
import Derived.Test.YtockdekhdjmklaaDoorDotAlive
import Derived.Test.YtockdekhdjmklaaDoorDotLaws
import Derived.Test.YtockdekhdjmklaaDoorDotParse
import Derived.Test.YtockdekhdjmklaaDoorLebPair
namespace Go.Proofs.YtockdekhdjmklaaDoor
open Go.RowKit

theorem SourceAt.below5 {W W' : World} {g : Nat} {v : Value} {xs : List UInt8} (h : SourceAt W g v xs) (hb : Below W.heap.size W W') : SourceAt W' g v xs :=
  h.kept (T := fun _ => False) (Kept.of_below hb (Nat.le_refl _) _) (fun h => h) (fun _ _ h => h)
set_option maxRecDepth 100000 in
set_option maxHeartbeats 4000000 in
theorem back_arg (w : World) (p q p' q' : Int) (Ab : Option Addr) (cb : Nat) (bs : List UInt8) (hbs : Bs w (.slice Ab bs.length cb) bs) (hT : Tb w) :
    Calls Tryd.prog 5 #[DotV p q, DotV p' q', .slice Ab bs.length cb] w fun e W' => e = .returned (.bool true) ∧ Below w.heap.size w W' := by
  have hB0 : Below w.heap.size w ((w.alloc (.cells #[.int .i64 p, .int .i64 q] 23)).alloc (.cells #[.int .i64 p', .int .i64 q'] 23)) := ((Below.refl _ w).alloc (Nat.le_refl _) _).alloc (by rw [World.size_alloc]; omega) _
  have g1 : ((w.alloc (.cells #[.int .i64 p, .int .i64 q] 23)).alloc (.cells #[.int .i64 p', .int .i64 q'] 23)).cell? ⟨w.heap.size, 0, none⟩ = some (.int .i64 p) := by go_simp
  have g2 : ((w.alloc (.cells #[.int .i64 p, .int .i64 q] 23)).alloc (.cells #[.int .i64 p', .int .i64 q'] 23)).cell? ⟨w.heap.size, 1, none⟩ = some (.int .i64 q) := by go_simp
  have g3 : ((w.alloc (.cells #[.int .i64 p, .int .i64 q] 23)).alloc (.cells #[.int .i64 p', .int .i64 q'] 23)).cell? ⟨w.heap.size + 1, 0, none⟩ = some (.int .i64 p') := by go_simp
  have g4 : ((w.alloc (.cells #[.int .i64 p, .int .i64 q] 23)).alloc (.cells #[.int .i64 p', .int .i64 q'] 23)).cell? ⟨w.heap.size + 1, 1, none⟩ = some (.int .i64 q') := by go_simp
  have hT0 := hT.below hB0
  have hbs0 := hbs.below hB0
  obtain ⟨i0, hi, hz0, hz1, hz2⟩ := info_parts infoU8
  go_enter Tryd.func5, Tryd.ntmps5
  go_wp2_with fail
  generalize (w.alloc (.cells #[.int .i64 p, .int .i64 q] 23)).alloc (.cells #[.int .i64 p', .int .i64 q'] 23) = W0 at *
  refine (alive5_any W0 hT0.pow).mono ?_
  rintro e w1 ⟨rfl, hb1⟩
  have hB1 := hB0.trans (hb1.mono hB0.size)
  replace g1 := cell_on hb1 g1
  replace g2 := cell_on hb1 g2
  replace g3 := cell_on hb1 g3
  replace g4 := cell_on hb1 g4
  have HT1 := Lib.hid (hT0.below hb1)
  have HBS1 := Lib.hid (hbs0.below hb1)
  clear hT hbs hT0 hbs0 hb1 hB0
  by_cases hlen : 100 < bs.length
  case pos =>
    have d1 : decide (100 < (bs.length : Int)) = true := by simp; omega
    go_wp2_with fail
    go_ret
    exact ⟨rfl, hB1⟩
  have d1 : decide (100 < (bs.length : Int)) = false := by simp; omega
  go_wp2_with fail
  refine (pDEncode_any w1 p q).mono ?_
  rintro e w2 ⟨x, rfl, hx, hb2⟩
  have hB2 := hB1.trans (hb2.mono hB1.size)
  obtain ⟨Ax, cx, rfl, _⟩ := hx.form
  replace g1 := cell_on hb2 g1
  replace g2 := cell_on hb2 g2
  replace g3 := cell_on hb2 g3
  replace g4 := cell_on hb2 g4
  have HT2 := Lib.hid (HT1.out.below hb2)
  have HBS2 := Lib.hid (HBS1.out.below hb2)
  have HX2 := Lib.hid hx
  clear hx hb2 hB1 HT1 HBS1
  by_cases hok : DotOk p q
  case pos =>
    have hx3 : Bs (w2.alloc (.cells #[] 5)) (.slice Ax (encD p q).length cx) (encD p q) := HX2.out.below ((Below.refl _ w2).alloc (Nat.le_refl _) _)
    have hb3a : Below w2.heap.size w2 (w2.alloc (.cells #[] 5)) := (Below.refl _ w2).alloc (Nat.le_refl _) _
    have ho : (w2.alloc (.cells #[] 5)).ownsRow w2.heap.size 5 1 (.slice (some ⟨w2.heap.size, 0, none⟩) ([] : List UInt8).length 0) ([] : List UInt8).length (([] : List UInt8).map B8) := World.ownsRow_made w2 #[] 0 (Nat.le_refl _) (by simp [maxLen]) rfl
    have hel := encD_len hok
    rw [checkD_ok hok]
    go_wp2_with (at_builtin; first
      | (refine wpList_append_bs rfl (.tmp 36) (.tmp 37) 24 rfl w2.heap.size 5 i0 Tryd.underlying24 hi hz0 hz1 hz2 _ [] rfl ho _ (encD p q) rfl hx3 (by simp; omega) (by simp) ?_; intro v3 w3 hown3 hg3 _ _ _; rw [List.nil_append] at hown3; obtain ⟨A3, n3, c3, rfl⟩ := owns_slice hown3
         have hb3 : Below w2.heap.size w2 w3 := hb3a.grown hg3 (by simp) (fun j e => by have e' : some w2.heap.size = some j := e; cases e'; exact Nat.le_refl _)
         have hbs3 := HBS2.out.below hb3)
      | (refine wpList_append_bs rfl (.tmp 38) (.tmp 39) 24 rfl w2.heap.size 5 i0 Tryd.underlying24 hi hz0 hz1 hz2 _ (encD p q) rfl hown3 _ bs rfl hbs3 (by omega) hb3.size ?_; intro v4 w4 hown4 hg4 _ _ _; obtain ⟨A4, n4, c4, rfl⟩ := owns_slice hown4
         have hb4 : Below w2.heap.size w2 w4 := hb3.grown hg4 hb3.size (fun j e => (hown3.lt j e).1)))
    refine (From_any w4 _ (encD p q ++ bs) (Bs.of_owns hown4) (by simp; omega)).mono ?_
    rintro e w5 ⟨gs, v5, rfl, hat5, hgs5, hv5, hb5⟩
    have hb5' := hb4.trans (hb5.mono hb4.size)
    have hgs : w2.heap.size ≤ gs := by have := hb4.size; omega
    have cd := pDDecode_any w5 gs v5 _ hat5 (by simp; omega)
    rw [decD_enc hok bs] at cd
    clear hown3 hown4 hg3 hg4 hb3 hb4 hbs3 hx3 hb3a ho hb5 hat5 hv5 HX2
    go_wp2_with fail
    refine cd.mono ?_
    rintro e w6 ⟨rfl, hr6⟩
    have hb6 : Below w2.heap.size w2 w6 := hb5'.trans (SourceRead.below hb5'.size hgs hr6)
    obtain ⟨v6, hat6, hk6, hv6⟩ := hr6
    have hb7a : Below w6.heap.size w6 (w6.alloc (.cells #[.int .i64 p, .int .i64 q] 23)) := (Below.refl _ w6).alloc (Nat.le_refl _) _
    have hb7 : Below w2.heap.size w2 (w6.alloc (.cells #[.int .i64 p, .int .i64 q] 23)) := hb6.trans (hb7a.mono hb6.size)
    have k1 : (w6.alloc (.cells #[.int .i64 p, .int .i64 q] 23)).cell? ⟨w6.heap.size, 0, none⟩ = some (.int .i64 p) := by go_simp
    have k2 : (w6.alloc (.cells #[.int .i64 p, .int .i64 q] 23)).cell? ⟨w6.heap.size, 1, none⟩ = some (.int .i64 q) := by go_simp
    have HAT7 := Lib.hid (hat6.below5 hb7a)
    replace g1 := cell_on hb7 g1
    replace g2 := cell_on hb7 g2
    replace g3 := cell_on hb7 g3
    replace g4 := cell_on hb7 g4
    have HT7 := Lib.hid (HT2.out.below hb7)
    have HBS7 := Lib.hid (HBS2.out.below hb7)
    have hB7 := hB2.trans (hb7.mono hB2.size)
    clear hat6 hk6 hv6 hb6 hb5' hb7a hb7 cd HT2 HBS2 hB2 hgs5 hgs
    go_wp2_with fail
    generalize w6.alloc (.cells #[.int .i64 p, .int .i64 q] 23) = w7 at *
    generalize w6.heap.size = bd at *
    refine (pDText_any w7 p q HT7.out).mono ?_
    rintro e w8 ⟨rfl, hb8⟩
    have cp := pDParse_any w8 (textD p q) (by have := textD_len hok; omega) (HT7.out.below hb8)
    rw [parD_text hok] at cp
    go_wp2_with fail
    refine cp.mono ?_
    rintro e w9 ⟨rfl, hb9⟩
    have hbA : Below w9.heap.size w9 (w9.alloc (.cells #[.int .i64 p, .int .i64 q] 23)) := (Below.refl _ w9).alloc (Nat.le_refl _) _
    have hb9' := hb8.trans (hb9.mono hb8.size)
    have hbT := hb9'.trans (hbA.mono hb9'.size)
    have m1 : (w9.alloc (.cells #[.int .i64 p, .int .i64 q] 23)).cell? ⟨w9.heap.size, 0, none⟩ = some (.int .i64 p) := by go_simp
    have m2 : (w9.alloc (.cells #[.int .i64 p, .int .i64 q] 23)).cell? ⟨w9.heap.size, 1, none⟩ = some (.int .i64 q) := by go_simp
    have HAT9 := Lib.hid (HAT7.out.below5 hbT)
    replace g1 := cell_on hbT g1
    replace g2 := cell_on hbT g2
    replace g3 := cell_on hbT g3
    replace g4 := cell_on hbT g4
    replace k1 := cell_on hbT k1
    replace k2 := cell_on hbT k2
    have HT9 := Lib.hid (HT7.out.below hbT)
    have HBS9 := Lib.hid (HBS7.out.below hbT)
    have hB9 := hB7.trans (hbT.mono hB7.size)
    clear hb8 hb9 hbA hb9' hbT cp HAT7 HT7 HBS7 hB7
    go_wp2_with fail
    generalize w9.alloc (.cells #[.int .i64 p, .int .i64 q] 23) = wA at *
    generalize w9.heap.size = be at *
    refine (SrcLeft_any wA gs v6 bs HAT9.out).mono ?_
    rintro e wA' ⟨rfl, rfl⟩
    clear HAT9
    by_cases hok' : DotOk p' q'
    case pos =>
      have cck := fun W => pDCheck_any W p' q'
      rw [checkD_ok hok'] at cck
      have HQ := Lib.hid (show (textD p q == textD p' q') = eqX (p, q) (p', q') by
        rw [Bool.eq_iff_iff, beq_iff_eq, textD_inj hok hok', eqX_iff, Prod.mk.injEq])
      go_wp2_with fail
      refine wp_held (fun W1 => Below wA.heap.size wA W1) (by kernel_rfl) ?_
      have hS0 : Below wA.heap.size wA wA.drew := (Below.refl _ wA).drew
      refine wpAnyH_next (i := 0) (v := DotV p' q') rfl (by kernel_rfl) (by kernel_rfl) (by kernel_rfl) (fun _ _ _ h => h) (by kernel_rfl) (fun W1 hW1 => by have e1 := cell_on hW1 g3; have e2 := cell_on hW1 g4; go_simp; done) hS0 (fun a' ha' => ?_)
      simp only [Act.put, List.getElem_toArray, List.getElem_cons_succ, List.getElem_cons_zero, List.setIfInBounds_toArray, List.set_cons_succ, List.set_cons_zero] at ha'
      subst ha'
      refine wpAnyH_want (i := 1) (by kernel_rfl) rfl (by kernel_rfl) (fun K hK => ?_)
      unfold Oper.wp
      go_simp
      refine (cck _).mono ?_
      rintro e y1 ⟨rfl, hy1⟩
      have hSy1 : Below wA.heap.size wA y1 := hS0.trans (hy1.mono hS0.size)
      clear hy1
      refine hK _ _ hSy1 ?_
      clear hK K
      refine wpAnyH_next (i := 2) (v := .bool true) rfl (by kernel_rfl) (by kernel_rfl) (by kernel_rfl) (fun _ _ _ h => h) (by kernel_rfl) (fun W1 hW1 => by go_simp; done) hSy1 (fun a' ha' => ?_)
      simp only [Act.put, List.getElem_toArray, List.getElem_cons_succ, List.getElem_cons_zero, List.setIfInBounds_toArray, List.set_cons_succ, List.set_cons_zero] at ha'
      subst ha'
      refine wpAnyH_next (i := 3) (v := .bool true) rfl (by kernel_rfl) (by kernel_rfl) (by kernel_rfl) (fun _ _ _ h => h) (by kernel_rfl) (fun W1 hW1 => by go_simp; done) hSy1 (fun a' ha' => ?_)
      simp only [Act.put, List.getElem_toArray, List.getElem_cons_succ, List.getElem_cons_zero, List.setIfInBounds_toArray, List.set_cons_succ, List.set_cons_zero] at ha'
      subst ha'
      refine wpAnyH_next (i := 4) (v := DotV p q) rfl (by kernel_rfl) (by kernel_rfl) (by kernel_rfl) (fun _ _ _ h => h) (by kernel_rfl) (fun W1 hW1 => by have e1 := cell_on hW1 g1; have e2 := cell_on hW1 g2; go_simp; done) hSy1 (fun a' ha' => ?_)
      simp only [Act.put, List.getElem_toArray, List.getElem_cons_succ, List.getElem_cons_zero, List.setIfInBounds_toArray, List.set_cons_succ, List.set_cons_zero] at ha'
      subst ha'
      refine wpAnyH_next (i := 6) (v := DotV p' q') rfl (by kernel_rfl) (by kernel_rfl) (by kernel_rfl) (fun _ _ _ h => h) (by kernel_rfl) (fun W1 hW1 => by have e1 := cell_on hW1 g3; have e2 := cell_on hW1 g4; go_simp; done) hSy1 (fun a' ha' => ?_)
      simp only [Act.put, List.getElem_toArray, List.getElem_cons_succ, List.getElem_cons_zero, List.setIfInBounds_toArray, List.set_cons_succ, List.set_cons_zero] at ha'
      subst ha'
      refine wpAnyH_next (i := 9) (v := DotV p q) rfl (by kernel_rfl) (by kernel_rfl) (by kernel_rfl) (fun _ _ _ h => h) (by kernel_rfl) (fun W1 hW1 => by have e1 := cell_on hW1 g1; have e2 := cell_on hW1 g2; go_simp; done) hSy1 (fun a' ha' => ?_)
      simp only [Act.put, List.getElem_toArray, List.getElem_cons_succ, List.getElem_cons_zero, List.setIfInBounds_toArray, List.set_cons_succ, List.set_cons_zero] at ha'
      subst ha'
      refine wpAnyH_next (i := 10) (v := DotV p' q') rfl (by kernel_rfl) (by kernel_rfl) (by kernel_rfl) (fun _ _ _ h => h) (by kernel_rfl) (fun W1 hW1 => by have e1 := cell_on hW1 g3; have e2 := cell_on hW1 g4; go_simp; done) hSy1 (fun a' ha' => ?_)
      simp only [Act.put, List.getElem_toArray, List.getElem_cons_succ, List.getElem_cons_zero, List.setIfInBounds_toArray, List.set_cons_succ, List.set_cons_zero] at ha'
      subst ha'
      refine wpAnyH_next (i := 11) (v := .bool (eqX (p, q) (p', q'))) rfl (by kernel_rfl) (by kernel_rfl) (by kernel_rfl) (fun _ _ _ h => h) (by kernel_rfl) (fun W1 hW1 => by exact eqX_exec (x := (p, q)) (y := (p', q')) rfl rfl rfl) hSy1 (fun a' ha' => ?_)
      simp only [Act.put, List.getElem_toArray, List.getElem_cons_succ, List.getElem_cons_zero, List.setIfInBounds_toArray, List.set_cons_succ, List.set_cons_zero] at ha'
      subst ha'
      refine wpAnyH_want (i := 5) (by kernel_rfl) rfl (by kernel_rfl) (fun K hK => ?_)
      unfold Oper.wp
      go_simp
      refine (pDText_any _ p q (HT9.out.below hSy1)).mono ?_
      rintro e y2 ⟨rfl, hy2⟩
      have hSy2 : Below wA.heap.size wA y2 := hSy1.trans (hy2.mono hSy1.size)
      clear hy2
      refine hK _ _ hSy2 ?_
      clear hK K
      refine wpAnyH_want (i := 7) (by kernel_rfl) rfl (by kernel_rfl) (fun K hK => ?_)
      unfold Oper.wp
      go_simp
      refine (pDText_any _ p' q' (HT9.out.below hSy2)).mono ?_
      rintro e y3 ⟨rfl, hy3⟩
      have hSy3 : Below wA.heap.size wA y3 := hSy2.trans (hy3.mono hSy2.size)
      clear hy3
      refine hK _ _ hSy3 ?_
      clear hK K
      refine wpAnyH_next (i := 8) (v := .bool (textD p q == textD p' q')) rfl (by kernel_rfl) (by kernel_rfl) (by kernel_rfl) (fun _ _ _ h => h) (by kernel_rfl) (fun W1 hW1 => by go_simp; done) hSy3 (fun a' ha' => ?_)
      simp only [Act.put, List.getElem_toArray, List.getElem_cons_succ, List.getElem_cons_zero, List.setIfInBounds_toArray, List.set_cons_succ, List.set_cons_zero] at ha'
      subst ha'
      refine wpAnyH_next (i := 12) (v := .bool false) rfl (by kernel_rfl) (by kernel_rfl) (by kernel_rfl) (fun _ _ _ h => h) (by kernel_rfl) (fun W1 hW1 => by have hq := HQ.out; go_simp; first | done | (rw [hq]; simp; done) | (simp [hq]; done)) hSy3 (fun a' ha' => ?_)
      simp only [Act.put, List.getElem_toArray, List.getElem_cons_succ, List.getElem_cons_zero, List.setIfInBounds_toArray, List.set_cons_succ, List.set_cons_zero] at ha'
      subst ha'
      refine wpAnyH_next (i := 13) (v := .bool false) rfl (by kernel_rfl) (by kernel_rfl) (by kernel_rfl) (fun _ _ _ h => h) (by kernel_rfl) (fun W1 hW1 => by go_simp; done) hSy3 (fun a' ha' => ?_)
      simp only [Act.put, List.getElem_toArray, List.getElem_cons_succ, List.getElem_cons_zero, List.setIfInBounds_toArray, List.set_cons_succ, List.set_cons_zero] at ha'
      subst ha'
      refine wpAnyH_fin (by kernel_rfl) ?_ _
      have hBq := hB9.trans (hSy3.mono hB9.size)
      have HBSq := Lib.hid (HBS9.out.below hSy3)
      clear hS0 hSy1 hSy2 hSy3 g1 g2 g3 g4 k1 k2 m1 m2 HT9 HBS9 hB9 cck
      go_wp2_with fail
      refine (From_any y3 _ bs HBSq.out (by omega)).mono ?_
      rintro e z1 ⟨gt, vt, rfl, hat1, hgt1, hvt1, hz1'⟩
      have hC1 := hBq.trans (hz1'.mono hBq.size)
      have HBZ1 := Lib.hid (HBSq.out.below hz1')
      have HAT1 := Lib.hid hat1
      have HV1 := Lib.hid (And.intro hgt1 (And.intro hvt1 hBq.size))
      clear hat1 hz1' hgt1 hvt1
      rcases decD_cases bs with ⟨a, b, r, hab, hbr, hd⟩ | ⟨er, r, her, hd, hrl⟩
      · have HLR := Lib.hid (show (encD a b).length + r.length = bs.length ∧ bs.take (encD a b).length = encD a b by rw [hbr]; simp)
        clear hbr
        have cd := pDDecode_any z1 gt vt bs HAT1.out (by omega)
        rw [hd] at cd
        go_wp2_with fail
        refine cd.mono ?_
        rintro e z2 ⟨rfl, hr2⟩
        have hz2' : Below w.heap.size z1 z2 := SourceRead.below hC1.size (by have := HV1.out.1; have := HV1.out.2.2; omega) hr2
        have hzu : Below y3.heap.size z1 z2 := SourceRead.below (by have := HAT1.out.box.lt; have := HV1.out.1; omega) HV1.out.1 hr2
        have hC2 := hC1.trans hz2'
        obtain ⟨v2, hat2, hk2, hv2⟩ := hr2
        have HBZ2 := Lib.hid (HBZ1.out)
        have HAT2 := Lib.hid hat2
        clear hat2 cd
        have hkz : Bs z2 (.slice Ab bs.length cb) bs := by
          have hKu : Kept (fun j => j = gt) z1 z2 := hk2
          exact hKu.bs1 HBZ1.out (fun hne j hj => by
            have hlt := HBSq.out.lt hne j hj
            have := HV1.out.1
            omega)
        have hsz2 : z2.heap.size < (z2.alloc (.cells #[.int .i64 a, .int .i64 b] 23)).heap.size := by rw [World.size_alloc]; omega
        have hbz3 : Below z2.heap.size z2 (z2.alloc (.cells #[.int .i64 a, .int .i64 b] 23)) := (Below.refl _ z2).alloc (Nat.le_refl _) _
        have k1 : (z2.alloc (.cells #[.int .i64 a, .int .i64 b] 23)).cell? ⟨z2.heap.size, 0, none⟩ = some (.int .i64 a) := by go_simp
        have k2 : (z2.alloc (.cells #[.int .i64 a, .int .i64 b] 23)).cell? ⟨z2.heap.size, 1, none⟩ = some (.int .i64 b) := by go_simp
        have HBZ3 := Lib.hid (hkz.below hbz3)
        have HAT3 := Lib.hid (HAT2.out.below5 hbz3)
        have hC3 := hC2.trans (hbz3.mono hC2.size)
        clear hkz hbz3 hk2 hv2 HBZ1 HBZ2 HAT1 HAT2 HV1 hz2' hzu hC1 hC2 hd
        go_wp2_with fail
        generalize z2.alloc (.cells #[.int .i64 a, .int .i64 b] 23) = z3 at *
        refine (pDEncode_any z3 a b).mono ?_
        rintro e z4 ⟨y, rfl, hy, hz4'⟩
        obtain ⟨Ay, cy, rfl, _⟩ := hy.form
        have hC4 := hC3.trans (hz4'.mono hC3.size)
        have HBZ4 := Lib.hid (HBZ3.out.below hz4')
        have HAT4 := Lib.hid (HAT3.out.below5 hz4')
        have HY4 := Lib.hid hy
        clear hy hz4' hC3 HBZ3 HAT3 k1 k2 hsz2
        rw [checkD_ok hab]
        go_wp2_with fail
        refine wp_held (fun W1 => Below z4.heap.size z4 W1) (by kernel_rfl) ?_
        have hS0 : Below z4.heap.size z4 z4.drew := (Below.refl _ z4).drew
        refine wpAnyH_next (i := 0) (v := .bool true) rfl (by kernel_rfl) (by kernel_rfl) (by kernel_rfl) (fun _ _ _ h => h) (by kernel_rfl) (fun W1 hW1 => by go_simp; done) hS0 (fun a' ha' => ?_)
        simp only [Act.put, List.getElem_toArray, List.getElem_cons_succ, List.getElem_cons_zero, List.setIfInBounds_toArray, List.set_cons_succ, List.set_cons_zero] at ha'
        subst ha'
        refine wpAnyH_next (i := 1) (v := .bool true) rfl (by kernel_rfl) (by kernel_rfl) (by kernel_rfl) (fun _ _ _ h => h) (by kernel_rfl) (fun W1 hW1 => by go_simp; done) hS0 (fun a' ha' => ?_)
        simp only [Act.put, List.getElem_toArray, List.getElem_cons_succ, List.getElem_cons_zero, List.setIfInBounds_toArray, List.set_cons_succ, List.set_cons_zero] at ha'
        subst ha'
        refine wpAnyH_next (i := 2) (v := .int .i64 0) rfl (by kernel_rfl) (by kernel_rfl) (by kernel_rfl) (fun _ _ _ h => h) (by kernel_rfl) (fun W1 hW1 => by go_simp; done) hS0 (fun a' ha' => ?_)
        simp only [Act.put, List.getElem_toArray, List.getElem_cons_succ, List.getElem_cons_zero, List.setIfInBounds_toArray, List.set_cons_succ, List.set_cons_zero] at ha'
        subst ha'
        refine wpAnyH_next (i := 3) (v := .bool true) rfl (by kernel_rfl) (by kernel_rfl) (by kernel_rfl) (fun _ _ _ h => h) (by kernel_rfl) (fun W1 hW1 => by go_simp; done) hS0 (fun a' ha' => ?_)
        simp only [Act.put, List.getElem_toArray, List.getElem_cons_succ, List.getElem_cons_zero, List.setIfInBounds_toArray, List.set_cons_succ, List.set_cons_zero] at ha'
        subst ha'
        refine wpAnyH_next (i := 4) (v := .bool true) rfl (by kernel_rfl) (by kernel_rfl) (by kernel_rfl) (fun _ _ _ h => h) (by kernel_rfl) (fun W1 hW1 => by go_simp; done) hS0 (fun a' ha' => ?_)
        simp only [Act.put, List.getElem_toArray, List.getElem_cons_succ, List.getElem_cons_zero, List.setIfInBounds_toArray, List.set_cons_succ, List.set_cons_zero] at ha'
        subst ha'
        refine wpAnyH_next (i := 5) (v := .bool true) rfl (by kernel_rfl) (by kernel_rfl) (by kernel_rfl) (fun _ _ _ h => h) (by kernel_rfl) (fun W1 hW1 => by go_simp; done) hS0 (fun a' ha' => ?_)
        simp only [Act.put, List.getElem_toArray, List.getElem_cons_succ, List.getElem_cons_zero, List.setIfInBounds_toArray, List.set_cons_succ, List.set_cons_zero] at ha'
        subst ha'
        refine wpAnyH_next (i := 6) (v := .slice Ay (encD a b).length cy) rfl (by kernel_rfl) (by kernel_rfl) (by kernel_rfl) (fun _ _ _ h => h) (by kernel_rfl) (fun W1 hW1 => by go_simp; done) hS0 (fun a' ha' => ?_)
        simp only [Act.put, List.getElem_toArray, List.getElem_cons_succ, List.getElem_cons_zero, List.setIfInBounds_toArray, List.set_cons_succ, List.set_cons_zero] at ha'
        subst ha'
        refine wpAnyH_next (i := 7) (v := Str (encD a b)) rfl (by kernel_rfl) (by kernel_rfl) (by kernel_rfl) (fun _ _ _ h => h) (by kernel_rfl) (fun W1 hW1 => by have hc := run_string_bs (P := Tryd.prog) W1 24 9 5 Tryd.underlying24 Tryd.underlying5 Tryd.underlying9 (HY4.out.below hW1); go_simp; done) hS0 (fun a' ha' => ?_)
        simp only [Act.put, List.getElem_toArray, List.getElem_cons_succ, List.getElem_cons_zero, List.setIfInBounds_toArray, List.set_cons_succ, List.set_cons_zero] at ha'
        subst ha'
        refine wpAnyH_next (i := 8) (v := .slice Ab bs.length cb) rfl (by kernel_rfl) (by kernel_rfl) (by kernel_rfl) (fun _ _ _ h => h) (by kernel_rfl) (fun W1 hW1 => by go_simp; done) hS0 (fun a' ha' => ?_)
        simp only [Act.put, List.getElem_toArray, List.getElem_cons_succ, List.getElem_cons_zero, List.setIfInBounds_toArray, List.set_cons_succ, List.set_cons_zero] at ha'
        subst ha'
        refine wpAnyH_next (i := 9) (v := .slice Ab bs.length cb) rfl (by kernel_rfl) (by kernel_rfl) (by kernel_rfl) (fun _ _ _ h => h) (by kernel_rfl) (fun W1 hW1 => by go_simp; done) hS0 (fun a' ha' => ?_)
        simp only [Act.put, List.getElem_toArray, List.getElem_cons_succ, List.getElem_cons_zero, List.setIfInBounds_toArray, List.set_cons_succ, List.set_cons_zero] at ha'
        subst ha'
        refine wpAnyH_next (i := 10) (v := .int .i64 (bs.length : Int)) rfl (by kernel_rfl) (by kernel_rfl) (by kernel_rfl) (fun _ _ _ h => h) (by kernel_rfl) (fun W1 hW1 => by go_simp; done) hS0 (fun a' ha' => ?_)
        simp only [Act.put, List.getElem_toArray, List.getElem_cons_succ, List.getElem_cons_zero, List.setIfInBounds_toArray, List.set_cons_succ, List.set_cons_zero] at ha'
        subst ha'
        refine wpAnyH_next (i := 11) (v := .pointer (some ⟨gt, 0, none⟩)) rfl (by kernel_rfl) (by kernel_rfl) (by kernel_rfl) (fun _ _ _ h => h) (by kernel_rfl) (fun W1 hW1 => by go_simp; done) hS0 (fun a' ha' => ?_)
        simp only [Act.put, List.getElem_toArray, List.getElem_cons_succ, List.getElem_cons_zero, List.setIfInBounds_toArray, List.set_cons_succ, List.set_cons_zero] at ha'
        subst ha'
        refine wpAnyH_want (i := 12) (by kernel_rfl) rfl (by kernel_rfl) (fun K hK => ?_)
        unfold Oper.wp
        go_simp
        refine (SrcLeft_any _ gt v2 r (HAT4.out.below5 hS0)).mono ?_
        rintro e v1 ⟨rfl, rfl⟩
        have hSv1 := hS0
        refine hK _ _ hSv1 ?_
        clear hK K
        refine wpAnyH_next (i := 13) (v := .int .i64 ((encD a b).length : Int)) rfl (by kernel_rfl) (by kernel_rfl) (by kernel_rfl) (fun _ _ _ h => h) (by kernel_rfl) (fun W1 hW1 => by have hsb : (bs.length : Int) - (r.length : Int) = ((encD a b).length : Int) := (by have := HLR.out.1; omega); go_simp; exact wrapE _ (by omega) (by have := HLR.out.1; omega)) hSv1 (fun a' ha' => ?_)
        simp only [Act.put, List.getElem_toArray, List.getElem_cons_succ, List.getElem_cons_zero, List.setIfInBounds_toArray, List.set_cons_succ, List.set_cons_zero] at ha'
        subst ha'
        refine wpAnyH_next (i := 14) (v := .slice Ab (encD a b).length cb) rfl (by kernel_rfl) (by kernel_rfl) (by kernel_rfl) (fun _ _ _ h => h) (by kernel_rfl) (fun W1 hW1 => by have hle : (encD a b).length ≤ bs.length := (by have := HLR.out.1; omega); have hlb := HBZ4.out.len; go_simp; first | done | (intro h9; exact absurd h9 (by have := HLR.out.1; have := hlb.2; omega))) hSv1 (fun a' ha' => ?_)
        simp only [Act.put, List.getElem_toArray, List.getElem_cons_succ, List.getElem_cons_zero, List.setIfInBounds_toArray, List.set_cons_succ, List.set_cons_zero] at ha'
        subst ha'
        refine wpAnyH_next (i := 15) (v := Str (encD a b)) rfl (by kernel_rfl) (by kernel_rfl) (by kernel_rfl) (fun _ _ _ h => h) (by kernel_rfl) (fun W1 hW1 => by have htk := ((HBZ4.out.below hW1).take (k := (encD a b).length) (by have := HLR.out.1; omega)); rw [HLR.out.2] at htk; have hc := run_string_bs (P := Tryd.prog) W1 24 9 5 Tryd.underlying24 Tryd.underlying5 Tryd.underlying9 htk; go_simp; done) hSv1 (fun a' ha' => ?_)
        simp only [Act.put, List.getElem_toArray, List.getElem_cons_succ, List.getElem_cons_zero, List.setIfInBounds_toArray, List.set_cons_succ, List.set_cons_zero] at ha'
        subst ha'
        refine wpAnyH_next (i := 16) (v := .bool true) rfl (by kernel_rfl) (by kernel_rfl) (by kernel_rfl) (fun _ _ _ h => h) (by kernel_rfl) (fun W1 hW1 => by go_simp; done) hSv1 (fun a' ha' => ?_)
        simp only [Act.put, List.getElem_toArray, List.getElem_cons_succ, List.getElem_cons_zero, List.setIfInBounds_toArray, List.set_cons_succ, List.set_cons_zero] at ha'
        subst ha'
        refine wpAnyH_next (i := 17) (v := .bool true) rfl (by kernel_rfl) (by kernel_rfl) (by kernel_rfl) (fun _ _ _ h => h) (by kernel_rfl) (fun W1 hW1 => by go_simp; done) hSv1 (fun a' ha' => ?_)
        simp only [Act.put, List.getElem_toArray, List.getElem_cons_succ, List.getElem_cons_zero, List.setIfInBounds_toArray, List.set_cons_succ, List.set_cons_zero] at ha'
        subst ha'
        refine wpAnyH_one (i := 18) (by kernel_rfl) rfl rfl (fun K hK => ?_)
        unfold Oper.wp
        go_simp
        refine hK _ _ hSv1 ?_
        clear hK K
        refine wpAnyH_fin (by kernel_rfl) ?_ _
        go_wp2_with fail
        go_ret
        exact ⟨rfl, hC4.trans (hSv1.mono hC4.size)⟩
      · have her1 : (er != 0) = true := by simpa using her
        have cd := pDDecode_any z1 gt vt bs HAT1.out (by omega)
        rw [hd] at cd
        go_wp2_with fail
        refine cd.mono ?_
        rintro e z2 ⟨rfl, hr2⟩
        have hz2' : Below w.heap.size z1 z2 := SourceRead.below hC1.size (by have := HV1.out.1; have := HV1.out.2.2; omega) hr2
        have hzu : Below y3.heap.size z1 z2 := SourceRead.below (by have := HAT1.out.box.lt; have := HV1.out.1; omega) HV1.out.1 hr2
        have hC2 := hC1.trans hz2'
        obtain ⟨v2, hat2, hk2, hv2⟩ := hr2
        have HBZ2 := Lib.hid (HBZ1.out)
        have HAT2 := Lib.hid hat2
        clear hat2 cd
        have hbz3 : Below z2.heap.size z2 (z2.alloc (.cells #[.int .i64 0, .int .i64 0] 23)) := (Below.refl _ z2).alloc (Nat.le_refl _) _
        have hC3 := hC2.trans (hbz3.mono hC2.size)
        clear hk2 hv2 HBZ1 HBZ2 HAT1 HAT2 HV1 hz2' hzu hC1 hC2 hd hbz3
        go_wp2_with fail
        go_ret
        exact ⟨rfl, hC3⟩
    case neg =>
      have cck := fun W => pDCheck_any W p' q'
      rw [checkD_no hok'] at cck
      go_wp2_with fail
      refine wp_held (fun W1 => Below wA.heap.size wA W1) (by kernel_rfl) ?_
      have hS0 : Below wA.heap.size wA wA.drew := (Below.refl _ wA).drew
      refine wpAnyH_next (i := 0) (v := DotV p' q') rfl (by kernel_rfl) (by kernel_rfl) (by kernel_rfl) (fun _ _ _ h => h) (by kernel_rfl) (fun W1 hW1 => by have e1 := cell_on hW1 g3; have e2 := cell_on hW1 g4; go_simp; done) hS0 (fun a' ha' => ?_)
      simp only [Act.put, List.getElem_toArray, List.getElem_cons_succ, List.getElem_cons_zero, List.setIfInBounds_toArray, List.set_cons_succ, List.set_cons_zero] at ha'
      subst ha'
      refine wpAnyH_want (i := 1) (by kernel_rfl) rfl (by kernel_rfl) (fun K hK => ?_)
      unfold Oper.wp
      go_simp
      refine (cck _).mono ?_
      rintro e y1 ⟨rfl, hy1⟩
      have hSy1 : Below wA.heap.size wA y1 := hS0.trans (hy1.mono hS0.size)
      clear hy1
      refine hK _ _ hSy1 ?_
      clear hK K
      refine wpAnyH_next (i := 2) (v := .bool false) rfl (by kernel_rfl) (by kernel_rfl) (by kernel_rfl) (fun _ _ _ h => h) (by kernel_rfl) (fun W1 hW1 => by go_simp; done) hSy1 (fun a' ha' => ?_)
      simp only [Act.put, List.getElem_toArray, List.getElem_cons_succ, List.getElem_cons_zero, List.setIfInBounds_toArray, List.set_cons_succ, List.set_cons_zero] at ha'
      subst ha'
      refine wpAnyH_next (i := 3) (v := .bool false) rfl (by kernel_rfl) (by kernel_rfl) (by kernel_rfl) (fun _ _ _ h => h) (by kernel_rfl) (fun W1 hW1 => by go_simp; done) hSy1 (fun a' ha' => ?_)
      simp only [Act.put, List.getElem_toArray, List.getElem_cons_succ, List.getElem_cons_zero, List.setIfInBounds_toArray, List.set_cons_succ, List.set_cons_zero] at ha'
      subst ha'
      refine wpAnyH_skip (i := 4) rfl (by kernel_rfl) (by kernel_rfl) (by kernel_rfl) (fun _ _ _ h => h) (by kernel_rfl) hSy1 (fun a' ha' => ?_)
      simp only [Act.put, List.getElem_toArray, List.getElem_cons_succ, List.getElem_cons_zero, List.setIfInBounds_toArray, List.set_cons_succ, List.set_cons_zero] at ha'
      subst ha'
      refine wpAnyH_skip (i := 5) rfl (by kernel_rfl) (by kernel_rfl) (by kernel_rfl) (fun _ _ _ h => h) (by kernel_rfl) hSy1 (fun a' ha' => ?_)
      simp only [Act.put, List.getElem_toArray, List.getElem_cons_succ, List.getElem_cons_zero, List.setIfInBounds_toArray, List.set_cons_succ, List.set_cons_zero] at ha'
      subst ha'
      refine wpAnyH_skip (i := 6) rfl (by kernel_rfl) (by kernel_rfl) (by kernel_rfl) (fun _ _ _ h => h) (by kernel_rfl) hSy1 (fun a' ha' => ?_)
      simp only [Act.put, List.getElem_toArray, List.getElem_cons_succ, List.getElem_cons_zero, List.setIfInBounds_toArray, List.set_cons_succ, List.set_cons_zero] at ha'
      subst ha'
      refine wpAnyH_skip (i := 7) rfl (by kernel_rfl) (by kernel_rfl) (by kernel_rfl) (fun _ _ _ h => h) (by kernel_rfl) hSy1 (fun a' ha' => ?_)
      simp only [Act.put, List.getElem_toArray, List.getElem_cons_succ, List.getElem_cons_zero, List.setIfInBounds_toArray, List.set_cons_succ, List.set_cons_zero] at ha'
      subst ha'
      refine wpAnyH_skip (i := 8) rfl (by kernel_rfl) (by kernel_rfl) (by kernel_rfl) (fun _ _ _ h => h) (by kernel_rfl) hSy1 (fun a' ha' => ?_)
      simp only [Act.put, List.getElem_toArray, List.getElem_cons_succ, List.getElem_cons_zero, List.setIfInBounds_toArray, List.set_cons_succ, List.set_cons_zero] at ha'
      subst ha'
      refine wpAnyH_skip (i := 9) rfl (by kernel_rfl) (by kernel_rfl) (by kernel_rfl) (fun _ _ _ h => h) (by kernel_rfl) hSy1 (fun a' ha' => ?_)
      simp only [Act.put, List.getElem_toArray, List.getElem_cons_succ, List.getElem_cons_zero, List.setIfInBounds_toArray, List.set_cons_succ, List.set_cons_zero] at ha'
      subst ha'
      refine wpAnyH_skip (i := 10) rfl (by kernel_rfl) (by kernel_rfl) (by kernel_rfl) (fun _ _ _ h => h) (by kernel_rfl) hSy1 (fun a' ha' => ?_)
      simp only [Act.put, List.getElem_toArray, List.getElem_cons_succ, List.getElem_cons_zero, List.setIfInBounds_toArray, List.set_cons_succ, List.set_cons_zero] at ha'
      subst ha'
      refine wpAnyH_skip (i := 11) rfl (by kernel_rfl) (by kernel_rfl) (by kernel_rfl) (fun _ _ _ h => h) (by kernel_rfl) hSy1 (fun a' ha' => ?_)
      simp only [Act.put, List.getElem_toArray, List.getElem_cons_succ, List.getElem_cons_zero, List.setIfInBounds_toArray, List.set_cons_succ, List.set_cons_zero] at ha'
      subst ha'
      refine wpAnyH_skip (i := 12) rfl (by kernel_rfl) (by kernel_rfl) (by kernel_rfl) (fun _ _ _ h => h) (by kernel_rfl) hSy1 (fun a' ha' => ?_)
      simp only [Act.put, List.getElem_toArray, List.getElem_cons_succ, List.getElem_cons_zero, List.setIfInBounds_toArray, List.set_cons_succ, List.set_cons_zero] at ha'
      subst ha'
      refine wpAnyH_next (i := 13) (v := .bool false) rfl (by kernel_rfl) (by kernel_rfl) (by kernel_rfl) (fun _ _ _ h => h) (by kernel_rfl) (fun W1 hW1 => by go_simp; done) hSy1 (fun a' ha' => ?_)
      simp only [Act.put, List.getElem_toArray, List.getElem_cons_succ, List.getElem_cons_zero, List.setIfInBounds_toArray, List.set_cons_succ, List.set_cons_zero] at ha'
      subst ha'
      refine wpAnyH_fin (by kernel_rfl) ?_ _
      have hBq := hB9.trans (hSy1.mono hB9.size)
      have HBSq := Lib.hid (HBS9.out.below hSy1)
      clear hS0 hSy1 g1 g2 g3 g4 k1 k2 m1 m2 HT9 HBS9 hB9 cck
      go_wp2_with fail
      refine (From_any y1 _ bs HBSq.out (by omega)).mono ?_
      rintro e z1 ⟨gt, vt, rfl, hat1, hgt1, hvt1, hz1'⟩
      have hC1 := hBq.trans (hz1'.mono hBq.size)
      have HBZ1 := Lib.hid (HBSq.out.below hz1')
      have HAT1 := Lib.hid hat1
      have HV1 := Lib.hid (And.intro hgt1 (And.intro hvt1 hBq.size))
      clear hat1 hz1' hgt1 hvt1
      rcases decD_cases bs with ⟨a, b, r, hab, hbr, hd⟩ | ⟨er, r, her, hd, hrl⟩
      · have HLR := Lib.hid (show (encD a b).length + r.length = bs.length ∧ bs.take (encD a b).length = encD a b by rw [hbr]; simp)
        clear hbr
        have cd := pDDecode_any z1 gt vt bs HAT1.out (by omega)
        rw [hd] at cd
        go_wp2_with fail
        refine cd.mono ?_
        rintro e z2 ⟨rfl, hr2⟩
        have hz2' : Below w.heap.size z1 z2 := SourceRead.below hC1.size (by have := HV1.out.1; have := HV1.out.2.2; omega) hr2
        have hzu : Below y1.heap.size z1 z2 := SourceRead.below (by have := HAT1.out.box.lt; have := HV1.out.1; omega) HV1.out.1 hr2
        have hC2 := hC1.trans hz2'
        obtain ⟨v2, hat2, hk2, hv2⟩ := hr2
        have HBZ2 := Lib.hid (HBZ1.out)
        have HAT2 := Lib.hid hat2
        clear hat2 cd
        have hkz : Bs z2 (.slice Ab bs.length cb) bs := by
          have hKu : Kept (fun j => j = gt) z1 z2 := hk2
          exact hKu.bs1 HBZ1.out (fun hne j hj => by
            have hlt := HBSq.out.lt hne j hj
            have := HV1.out.1
            omega)
        have hsz2 : z2.heap.size < (z2.alloc (.cells #[.int .i64 a, .int .i64 b] 23)).heap.size := by rw [World.size_alloc]; omega
        have hbz3 : Below z2.heap.size z2 (z2.alloc (.cells #[.int .i64 a, .int .i64 b] 23)) := (Below.refl _ z2).alloc (Nat.le_refl _) _
        have k1 : (z2.alloc (.cells #[.int .i64 a, .int .i64 b] 23)).cell? ⟨z2.heap.size, 0, none⟩ = some (.int .i64 a) := by go_simp
        have k2 : (z2.alloc (.cells #[.int .i64 a, .int .i64 b] 23)).cell? ⟨z2.heap.size, 1, none⟩ = some (.int .i64 b) := by go_simp
        have HBZ3 := Lib.hid (hkz.below hbz3)
        have HAT3 := Lib.hid (HAT2.out.below5 hbz3)
        have hC3 := hC2.trans (hbz3.mono hC2.size)
        clear hkz hbz3 hk2 hv2 HBZ1 HBZ2 HAT1 HAT2 HV1 hz2' hzu hC1 hC2 hd
        go_wp2_with fail
        generalize z2.alloc (.cells #[.int .i64 a, .int .i64 b] 23) = z3 at *
        refine (pDEncode_any z3 a b).mono ?_
        rintro e z4 ⟨y, rfl, hy, hz4'⟩
        obtain ⟨Ay, cy, rfl, _⟩ := hy.form
        have hC4 := hC3.trans (hz4'.mono hC3.size)
        have HBZ4 := Lib.hid (HBZ3.out.below hz4')
        have HAT4 := Lib.hid (HAT3.out.below5 hz4')
        have HY4 := Lib.hid hy
        clear hy hz4' hC3 HBZ3 HAT3 k1 k2 hsz2
        rw [checkD_ok hab]
        go_wp2_with fail
        refine wp_held (fun W1 => Below z4.heap.size z4 W1) (by kernel_rfl) ?_
        have hS0 : Below z4.heap.size z4 z4.drew := (Below.refl _ z4).drew
        refine wpAnyH_next (i := 0) (v := .bool true) rfl (by kernel_rfl) (by kernel_rfl) (by kernel_rfl) (fun _ _ _ h => h) (by kernel_rfl) (fun W1 hW1 => by go_simp; done) hS0 (fun a' ha' => ?_)
        simp only [Act.put, List.getElem_toArray, List.getElem_cons_succ, List.getElem_cons_zero, List.setIfInBounds_toArray, List.set_cons_succ, List.set_cons_zero] at ha'
        subst ha'
        refine wpAnyH_next (i := 1) (v := .bool true) rfl (by kernel_rfl) (by kernel_rfl) (by kernel_rfl) (fun _ _ _ h => h) (by kernel_rfl) (fun W1 hW1 => by go_simp; done) hS0 (fun a' ha' => ?_)
        simp only [Act.put, List.getElem_toArray, List.getElem_cons_succ, List.getElem_cons_zero, List.setIfInBounds_toArray, List.set_cons_succ, List.set_cons_zero] at ha'
        subst ha'
        refine wpAnyH_next (i := 2) (v := .int .i64 0) rfl (by kernel_rfl) (by kernel_rfl) (by kernel_rfl) (fun _ _ _ h => h) (by kernel_rfl) (fun W1 hW1 => by go_simp; done) hS0 (fun a' ha' => ?_)
        simp only [Act.put, List.getElem_toArray, List.getElem_cons_succ, List.getElem_cons_zero, List.setIfInBounds_toArray, List.set_cons_succ, List.set_cons_zero] at ha'
        subst ha'
        refine wpAnyH_next (i := 3) (v := .bool true) rfl (by kernel_rfl) (by kernel_rfl) (by kernel_rfl) (fun _ _ _ h => h) (by kernel_rfl) (fun W1 hW1 => by go_simp; done) hS0 (fun a' ha' => ?_)
        simp only [Act.put, List.getElem_toArray, List.getElem_cons_succ, List.getElem_cons_zero, List.setIfInBounds_toArray, List.set_cons_succ, List.set_cons_zero] at ha'
        subst ha'
        refine wpAnyH_next (i := 4) (v := .bool true) rfl (by kernel_rfl) (by kernel_rfl) (by kernel_rfl) (fun _ _ _ h => h) (by kernel_rfl) (fun W1 hW1 => by go_simp; done) hS0 (fun a' ha' => ?_)
        simp only [Act.put, List.getElem_toArray, List.getElem_cons_succ, List.getElem_cons_zero, List.setIfInBounds_toArray, List.set_cons_succ, List.set_cons_zero] at ha'
        subst ha'
        refine wpAnyH_next (i := 5) (v := .bool true) rfl (by kernel_rfl) (by kernel_rfl) (by kernel_rfl) (fun _ _ _ h => h) (by kernel_rfl) (fun W1 hW1 => by go_simp; done) hS0 (fun a' ha' => ?_)
        simp only [Act.put, List.getElem_toArray, List.getElem_cons_succ, List.getElem_cons_zero, List.setIfInBounds_toArray, List.set_cons_succ, List.set_cons_zero] at ha'
        subst ha'
        refine wpAnyH_next (i := 6) (v := .slice Ay (encD a b).length cy) rfl (by kernel_rfl) (by kernel_rfl) (by kernel_rfl) (fun _ _ _ h => h) (by kernel_rfl) (fun W1 hW1 => by go_simp; done) hS0 (fun a' ha' => ?_)
        simp only [Act.put, List.getElem_toArray, List.getElem_cons_succ, List.getElem_cons_zero, List.setIfInBounds_toArray, List.set_cons_succ, List.set_cons_zero] at ha'
        subst ha'
        refine wpAnyH_next (i := 7) (v := Str (encD a b)) rfl (by kernel_rfl) (by kernel_rfl) (by kernel_rfl) (fun _ _ _ h => h) (by kernel_rfl) (fun W1 hW1 => by have hc := run_string_bs (P := Tryd.prog) W1 24 9 5 Tryd.underlying24 Tryd.underlying5 Tryd.underlying9 (HY4.out.below hW1); go_simp; done) hS0 (fun a' ha' => ?_)
        simp only [Act.put, List.getElem_toArray, List.getElem_cons_succ, List.getElem_cons_zero, List.setIfInBounds_toArray, List.set_cons_succ, List.set_cons_zero] at ha'
        subst ha'
        refine wpAnyH_next (i := 8) (v := .slice Ab bs.length cb) rfl (by kernel_rfl) (by kernel_rfl) (by kernel_rfl) (fun _ _ _ h => h) (by kernel_rfl) (fun W1 hW1 => by go_simp; done) hS0 (fun a' ha' => ?_)
        simp only [Act.put, List.getElem_toArray, List.getElem_cons_succ, List.getElem_cons_zero, List.setIfInBounds_toArray, List.set_cons_succ, List.set_cons_zero] at ha'
        subst ha'
        refine wpAnyH_next (i := 9) (v := .slice Ab bs.length cb) rfl (by kernel_rfl) (by kernel_rfl) (by kernel_rfl) (fun _ _ _ h => h) (by kernel_rfl) (fun W1 hW1 => by go_simp; done) hS0 (fun a' ha' => ?_)
        simp only [Act.put, List.getElem_toArray, List.getElem_cons_succ, List.getElem_cons_zero, List.setIfInBounds_toArray, List.set_cons_succ, List.set_cons_zero] at ha'
        subst ha'
        refine wpAnyH_next (i := 10) (v := .int .i64 (bs.length : Int)) rfl (by kernel_rfl) (by kernel_rfl) (by kernel_rfl) (fun _ _ _ h => h) (by kernel_rfl) (fun W1 hW1 => by go_simp; done) hS0 (fun a' ha' => ?_)
        simp only [Act.put, List.getElem_toArray, List.getElem_cons_succ, List.getElem_cons_zero, List.setIfInBounds_toArray, List.set_cons_succ, List.set_cons_zero] at ha'
        subst ha'
        refine wpAnyH_next (i := 11) (v := .pointer (some ⟨gt, 0, none⟩)) rfl (by kernel_rfl) (by kernel_rfl) (by kernel_rfl) (fun _ _ _ h => h) (by kernel_rfl) (fun W1 hW1 => by go_simp; done) hS0 (fun a' ha' => ?_)
        simp only [Act.put, List.getElem_toArray, List.getElem_cons_succ, List.getElem_cons_zero, List.setIfInBounds_toArray, List.set_cons_succ, List.set_cons_zero] at ha'
        subst ha'
        refine wpAnyH_want (i := 12) (by kernel_rfl) rfl (by kernel_rfl) (fun K hK => ?_)
        unfold Oper.wp
        go_simp
        refine (SrcLeft_any _ gt v2 r (HAT4.out.below5 hS0)).mono ?_
        rintro e v1 ⟨rfl, rfl⟩
        have hSv1 := hS0
        refine hK _ _ hSv1 ?_
        clear hK K
        refine wpAnyH_next (i := 13) (v := .int .i64 ((encD a b).length : Int)) rfl (by kernel_rfl) (by kernel_rfl) (by kernel_rfl) (fun _ _ _ h => h) (by kernel_rfl) (fun W1 hW1 => by have hsb : (bs.length : Int) - (r.length : Int) = ((encD a b).length : Int) := (by have := HLR.out.1; omega); go_simp; exact wrapE _ (by omega) (by have := HLR.out.1; omega)) hSv1 (fun a' ha' => ?_)
        simp only [Act.put, List.getElem_toArray, List.getElem_cons_succ, List.getElem_cons_zero, List.setIfInBounds_toArray, List.set_cons_succ, List.set_cons_zero] at ha'
        subst ha'
        refine wpAnyH_next (i := 14) (v := .slice Ab (encD a b).length cb) rfl (by kernel_rfl) (by kernel_rfl) (by kernel_rfl) (fun _ _ _ h => h) (by kernel_rfl) (fun W1 hW1 => by have hle : (encD a b).length ≤ bs.length := (by have := HLR.out.1; omega); have hlb := HBZ4.out.len; go_simp; first | done | (intro h9; exact absurd h9 (by have := HLR.out.1; have := hlb.2; omega))) hSv1 (fun a' ha' => ?_)
        simp only [Act.put, List.getElem_toArray, List.getElem_cons_succ, List.getElem_cons_zero, List.setIfInBounds_toArray, List.set_cons_succ, List.set_cons_zero] at ha'
        subst ha'
        refine wpAnyH_next (i := 15) (v := Str (encD a b)) rfl (by kernel_rfl) (by kernel_rfl) (by kernel_rfl) (fun _ _ _ h => h) (by kernel_rfl) (fun W1 hW1 => by have htk := ((HBZ4.out.below hW1).take (k := (encD a b).length) (by have := HLR.out.1; omega)); rw [HLR.out.2] at htk; have hc := run_string_bs (P := Tryd.prog) W1 24 9 5 Tryd.underlying24 Tryd.underlying5 Tryd.underlying9 htk; go_simp; done) hSv1 (fun a' ha' => ?_)
        simp only [Act.put, List.getElem_toArray, List.getElem_cons_succ, List.getElem_cons_zero, List.setIfInBounds_toArray, List.set_cons_succ, List.set_cons_zero] at ha'
        subst ha'
        refine wpAnyH_next (i := 16) (v := .bool true) rfl (by kernel_rfl) (by kernel_rfl) (by kernel_rfl) (fun _ _ _ h => h) (by kernel_rfl) (fun W1 hW1 => by go_simp; done) hSv1 (fun a' ha' => ?_)
        simp only [Act.put, List.getElem_toArray, List.getElem_cons_succ, List.getElem_cons_zero, List.setIfInBounds_toArray, List.set_cons_succ, List.set_cons_zero] at ha'
        subst ha'
        refine wpAnyH_next (i := 17) (v := .bool true) rfl (by kernel_rfl) (by kernel_rfl) (by kernel_rfl) (fun _ _ _ h => h) (by kernel_rfl) (fun W1 hW1 => by go_simp; done) hSv1 (fun a' ha' => ?_)
        simp only [Act.put, List.getElem_toArray, List.getElem_cons_succ, List.getElem_cons_zero, List.setIfInBounds_toArray, List.set_cons_succ, List.set_cons_zero] at ha'
        subst ha'
        refine wpAnyH_one (i := 18) (by kernel_rfl) rfl rfl (fun K hK => ?_)
        unfold Oper.wp
        go_simp
        refine hK _ _ hSv1 ?_
        clear hK K
        refine wpAnyH_fin (by kernel_rfl) ?_ _
        go_wp2_with fail
        go_ret
        exact ⟨rfl, hC4.trans (hSv1.mono hC4.size)⟩
      · have her1 : (er != 0) = true := by simpa using her
        have cd := pDDecode_any z1 gt vt bs HAT1.out (by omega)
        rw [hd] at cd
        go_wp2_with fail
        refine cd.mono ?_
        rintro e z2 ⟨rfl, hr2⟩
        have hz2' : Below w.heap.size z1 z2 := SourceRead.below hC1.size (by have := HV1.out.1; have := HV1.out.2.2; omega) hr2
        have hzu : Below y1.heap.size z1 z2 := SourceRead.below (by have := HAT1.out.box.lt; have := HV1.out.1; omega) HV1.out.1 hr2
        have hC2 := hC1.trans hz2'
        obtain ⟨v2, hat2, hk2, hv2⟩ := hr2
        have HBZ2 := Lib.hid (HBZ1.out)
        have HAT2 := Lib.hid hat2
        clear hat2 cd
        have hbz3 : Below z2.heap.size z2 (z2.alloc (.cells #[.int .i64 0, .int .i64 0] 23)) := (Below.refl _ z2).alloc (Nat.le_refl _) _
        have hC3 := hC2.trans (hbz3.mono hC2.size)
        clear hk2 hv2 HBZ1 HBZ2 HAT1 HAT2 HV1 hz2' hzu hC1 hC2 hd hbz3
        go_wp2_with fail
        go_ret
        exact ⟨rfl, hC3⟩
  case neg =>
    rw [checkD_no hok]
    clear g1 g2 g3 g4 HX2
    go_wp2_with fail
    refine (From_any w2 _ bs HBS2.out (by omega)).mono ?_
    rintro e z1 ⟨gt, vt, rfl, hat1, hgt1, hvt1, hz1'⟩
    have hC1 := hB2.trans (hz1'.mono hB2.size)
    have HBZ1 := Lib.hid (HBS2.out.below hz1')
    have HAT1 := Lib.hid hat1
    have HV1 := Lib.hid (And.intro hgt1 (And.intro hvt1 hB2.size))
    clear hat1 hz1' hgt1 hvt1
    rcases decD_cases bs with ⟨a, b, r, hab, hbr, hd⟩ | ⟨er, r, her, hd, hrl⟩
    · have HLR := Lib.hid (show (encD a b).length + r.length = bs.length ∧ bs.take (encD a b).length = encD a b by rw [hbr]; simp)
      clear hbr
      have cd := pDDecode_any z1 gt vt bs HAT1.out (by omega)
      rw [hd] at cd
      go_wp2_with fail
      refine cd.mono ?_
      rintro e z2 ⟨rfl, hr2⟩
      have hz2' : Below w.heap.size z1 z2 := SourceRead.below hC1.size (by have := HV1.out.1; have := HV1.out.2.2; omega) hr2
      have hzu : Below w2.heap.size z1 z2 := SourceRead.below (by have := HAT1.out.box.lt; have := HV1.out.1; omega) HV1.out.1 hr2
      have hC2 := hC1.trans hz2'
      obtain ⟨v2, hat2, hk2, hv2⟩ := hr2
      have HBZ2 := Lib.hid (HBZ1.out)
      have HAT2 := Lib.hid hat2
      clear hat2 cd
      have hkz : Bs z2 (.slice Ab bs.length cb) bs := by
        have hKu : Kept (fun j => j = gt) z1 z2 := hk2
        exact hKu.bs1 HBZ1.out (fun hne j hj => by
          have hlt := HBS2.out.lt hne j hj
          have := HV1.out.1
          omega)
      have hsz2 : z2.heap.size < (z2.alloc (.cells #[.int .i64 a, .int .i64 b] 23)).heap.size := by rw [World.size_alloc]; omega
      have hbz3 : Below z2.heap.size z2 (z2.alloc (.cells #[.int .i64 a, .int .i64 b] 23)) := (Below.refl _ z2).alloc (Nat.le_refl _) _
      have k1 : (z2.alloc (.cells #[.int .i64 a, .int .i64 b] 23)).cell? ⟨z2.heap.size, 0, none⟩ = some (.int .i64 a) := by go_simp
      have k2 : (z2.alloc (.cells #[.int .i64 a, .int .i64 b] 23)).cell? ⟨z2.heap.size, 1, none⟩ = some (.int .i64 b) := by go_simp
      have HBZ3 := Lib.hid (hkz.below hbz3)
      have HAT3 := Lib.hid (HAT2.out.below5 hbz3)
      have hC3 := hC2.trans (hbz3.mono hC2.size)
      clear hkz hbz3 hk2 hv2 HBZ1 HBZ2 HAT1 HAT2 HV1 hz2' hzu hC1 hC2 hd
      go_wp2_with fail
      generalize z2.alloc (.cells #[.int .i64 a, .int .i64 b] 23) = z3 at *
      refine (pDEncode_any z3 a b).mono ?_
      rintro e z4 ⟨y, rfl, hy, hz4'⟩
      obtain ⟨Ay, cy, rfl, _⟩ := hy.form
      have hC4 := hC3.trans (hz4'.mono hC3.size)
      have HBZ4 := Lib.hid (HBZ3.out.below hz4')
      have HAT4 := Lib.hid (HAT3.out.below5 hz4')
      have HY4 := Lib.hid hy
      clear hy hz4' hC3 HBZ3 HAT3 k1 k2 hsz2
      rw [checkD_ok hab]
      go_wp2_with fail
      refine wp_held (fun W1 => Below z4.heap.size z4 W1) (by kernel_rfl) ?_
      have hS0 : Below z4.heap.size z4 z4.drew := (Below.refl _ z4).drew
      refine wpAnyH_next (i := 0) (v := .bool true) rfl (by kernel_rfl) (by kernel_rfl) (by kernel_rfl) (fun _ _ _ h => h) (by kernel_rfl) (fun W1 hW1 => by go_simp; done) hS0 (fun a' ha' => ?_)
      simp only [Act.put, List.getElem_toArray, List.getElem_cons_succ, List.getElem_cons_zero, List.setIfInBounds_toArray, List.set_cons_succ, List.set_cons_zero] at ha'
      subst ha'
      refine wpAnyH_next (i := 1) (v := .bool true) rfl (by kernel_rfl) (by kernel_rfl) (by kernel_rfl) (fun _ _ _ h => h) (by kernel_rfl) (fun W1 hW1 => by go_simp; done) hS0 (fun a' ha' => ?_)
      simp only [Act.put, List.getElem_toArray, List.getElem_cons_succ, List.getElem_cons_zero, List.setIfInBounds_toArray, List.set_cons_succ, List.set_cons_zero] at ha'
      subst ha'
      refine wpAnyH_next (i := 2) (v := .int .i64 0) rfl (by kernel_rfl) (by kernel_rfl) (by kernel_rfl) (fun _ _ _ h => h) (by kernel_rfl) (fun W1 hW1 => by go_simp; done) hS0 (fun a' ha' => ?_)
      simp only [Act.put, List.getElem_toArray, List.getElem_cons_succ, List.getElem_cons_zero, List.setIfInBounds_toArray, List.set_cons_succ, List.set_cons_zero] at ha'
      subst ha'
      refine wpAnyH_next (i := 3) (v := .bool true) rfl (by kernel_rfl) (by kernel_rfl) (by kernel_rfl) (fun _ _ _ h => h) (by kernel_rfl) (fun W1 hW1 => by go_simp; done) hS0 (fun a' ha' => ?_)
      simp only [Act.put, List.getElem_toArray, List.getElem_cons_succ, List.getElem_cons_zero, List.setIfInBounds_toArray, List.set_cons_succ, List.set_cons_zero] at ha'
      subst ha'
      refine wpAnyH_next (i := 4) (v := .bool true) rfl (by kernel_rfl) (by kernel_rfl) (by kernel_rfl) (fun _ _ _ h => h) (by kernel_rfl) (fun W1 hW1 => by go_simp; done) hS0 (fun a' ha' => ?_)
      simp only [Act.put, List.getElem_toArray, List.getElem_cons_succ, List.getElem_cons_zero, List.setIfInBounds_toArray, List.set_cons_succ, List.set_cons_zero] at ha'
      subst ha'
      refine wpAnyH_next (i := 5) (v := .bool true) rfl (by kernel_rfl) (by kernel_rfl) (by kernel_rfl) (fun _ _ _ h => h) (by kernel_rfl) (fun W1 hW1 => by go_simp; done) hS0 (fun a' ha' => ?_)
      simp only [Act.put, List.getElem_toArray, List.getElem_cons_succ, List.getElem_cons_zero, List.setIfInBounds_toArray, List.set_cons_succ, List.set_cons_zero] at ha'
      subst ha'
      refine wpAnyH_next (i := 6) (v := .slice Ay (encD a b).length cy) rfl (by kernel_rfl) (by kernel_rfl) (by kernel_rfl) (fun _ _ _ h => h) (by kernel_rfl) (fun W1 hW1 => by go_simp; done) hS0 (fun a' ha' => ?_)
      simp only [Act.put, List.getElem_toArray, List.getElem_cons_succ, List.getElem_cons_zero, List.setIfInBounds_toArray, List.set_cons_succ, List.set_cons_zero] at ha'
      subst ha'
      refine wpAnyH_next (i := 7) (v := Str (encD a b)) rfl (by kernel_rfl) (by kernel_rfl) (by kernel_rfl) (fun _ _ _ h => h) (by kernel_rfl) (fun W1 hW1 => by have hc := run_string_bs (P := Tryd.prog) W1 24 9 5 Tryd.underlying24 Tryd.underlying5 Tryd.underlying9 (HY4.out.below hW1); go_simp; done) hS0 (fun a' ha' => ?_)
      simp only [Act.put, List.getElem_toArray, List.getElem_cons_succ, List.getElem_cons_zero, List.setIfInBounds_toArray, List.set_cons_succ, List.set_cons_zero] at ha'
      subst ha'
      refine wpAnyH_next (i := 8) (v := .slice Ab bs.length cb) rfl (by kernel_rfl) (by kernel_rfl) (by kernel_rfl) (fun _ _ _ h => h) (by kernel_rfl) (fun W1 hW1 => by go_simp; done) hS0 (fun a' ha' => ?_)
      simp only [Act.put, List.getElem_toArray, List.getElem_cons_succ, List.getElem_cons_zero, List.setIfInBounds_toArray, List.set_cons_succ, List.set_cons_zero] at ha'
      subst ha'
      refine wpAnyH_next (i := 9) (v := .slice Ab bs.length cb) rfl (by kernel_rfl) (by kernel_rfl) (by kernel_rfl) (fun _ _ _ h => h) (by kernel_rfl) (fun W1 hW1 => by go_simp; done) hS0 (fun a' ha' => ?_)
      simp only [Act.put, List.getElem_toArray, List.getElem_cons_succ, List.getElem_cons_zero, List.setIfInBounds_toArray, List.set_cons_succ, List.set_cons_zero] at ha'
      subst ha'
      refine wpAnyH_next (i := 10) (v := .int .i64 (bs.length : Int)) rfl (by kernel_rfl) (by kernel_rfl) (by kernel_rfl) (fun _ _ _ h => h) (by kernel_rfl) (fun W1 hW1 => by go_simp; done) hS0 (fun a' ha' => ?_)
      simp only [Act.put, List.getElem_toArray, List.getElem_cons_succ, List.getElem_cons_zero, List.setIfInBounds_toArray, List.set_cons_succ, List.set_cons_zero] at ha'
      subst ha'
      refine wpAnyH_next (i := 11) (v := .pointer (some ⟨gt, 0, none⟩)) rfl (by kernel_rfl) (by kernel_rfl) (by kernel_rfl) (fun _ _ _ h => h) (by kernel_rfl) (fun W1 hW1 => by go_simp; done) hS0 (fun a' ha' => ?_)
      simp only [Act.put, List.getElem_toArray, List.getElem_cons_succ, List.getElem_cons_zero, List.setIfInBounds_toArray, List.set_cons_succ, List.set_cons_zero] at ha'
      subst ha'
      refine wpAnyH_want (i := 12) (by kernel_rfl) rfl (by kernel_rfl) (fun K hK => ?_)
      unfold Oper.wp
      go_simp
      refine (SrcLeft_any _ gt v2 r (HAT4.out.below5 hS0)).mono ?_
      rintro e v1 ⟨rfl, rfl⟩
      have hSv1 := hS0
      refine hK _ _ hSv1 ?_
      clear hK K
      refine wpAnyH_next (i := 13) (v := .int .i64 ((encD a b).length : Int)) rfl (by kernel_rfl) (by kernel_rfl) (by kernel_rfl) (fun _ _ _ h => h) (by kernel_rfl) (fun W1 hW1 => by have hsb : (bs.length : Int) - (r.length : Int) = ((encD a b).length : Int) := (by have := HLR.out.1; omega); go_simp; exact wrapE _ (by omega) (by have := HLR.out.1; omega)) hSv1 (fun a' ha' => ?_)
      simp only [Act.put, List.getElem_toArray, List.getElem_cons_succ, List.getElem_cons_zero, List.setIfInBounds_toArray, List.set_cons_succ, List.set_cons_zero] at ha'
      subst ha'
      refine wpAnyH_next (i := 14) (v := .slice Ab (encD a b).length cb) rfl (by kernel_rfl) (by kernel_rfl) (by kernel_rfl) (fun _ _ _ h => h) (by kernel_rfl) (fun W1 hW1 => by have hle : (encD a b).length ≤ bs.length := (by have := HLR.out.1; omega); have hlb := HBZ4.out.len; go_simp; first | done | (intro h9; exact absurd h9 (by have := HLR.out.1; have := hlb.2; omega))) hSv1 (fun a' ha' => ?_)
      simp only [Act.put, List.getElem_toArray, List.getElem_cons_succ, List.getElem_cons_zero, List.setIfInBounds_toArray, List.set_cons_succ, List.set_cons_zero] at ha'
      subst ha'
      refine wpAnyH_next (i := 15) (v := Str (encD a b)) rfl (by kernel_rfl) (by kernel_rfl) (by kernel_rfl) (fun _ _ _ h => h) (by kernel_rfl) (fun W1 hW1 => by have htk := ((HBZ4.out.below hW1).take (k := (encD a b).length) (by have := HLR.out.1; omega)); rw [HLR.out.2] at htk; have hc := run_string_bs (P := Tryd.prog) W1 24 9 5 Tryd.underlying24 Tryd.underlying5 Tryd.underlying9 htk; go_simp; done) hSv1 (fun a' ha' => ?_)
      simp only [Act.put, List.getElem_toArray, List.getElem_cons_succ, List.getElem_cons_zero, List.setIfInBounds_toArray, List.set_cons_succ, List.set_cons_zero] at ha'
      subst ha'
      refine wpAnyH_next (i := 16) (v := .bool true) rfl (by kernel_rfl) (by kernel_rfl) (by kernel_rfl) (fun _ _ _ h => h) (by kernel_rfl) (fun W1 hW1 => by go_simp; done) hSv1 (fun a' ha' => ?_)
      simp only [Act.put, List.getElem_toArray, List.getElem_cons_succ, List.getElem_cons_zero, List.setIfInBounds_toArray, List.set_cons_succ, List.set_cons_zero] at ha'
      subst ha'
      refine wpAnyH_next (i := 17) (v := .bool true) rfl (by kernel_rfl) (by kernel_rfl) (by kernel_rfl) (fun _ _ _ h => h) (by kernel_rfl) (fun W1 hW1 => by go_simp; done) hSv1 (fun a' ha' => ?_)
      simp only [Act.put, List.getElem_toArray, List.getElem_cons_succ, List.getElem_cons_zero, List.setIfInBounds_toArray, List.set_cons_succ, List.set_cons_zero] at ha'
      subst ha'
      refine wpAnyH_one (i := 18) (by kernel_rfl) rfl rfl (fun K hK => ?_)
      unfold Oper.wp
      go_simp
      refine hK _ _ hSv1 ?_
      clear hK K
      refine wpAnyH_fin (by kernel_rfl) ?_ _
      go_wp2_with fail
      go_ret
      exact ⟨rfl, hC4.trans (hSv1.mono hC4.size)⟩
    · have her1 : (er != 0) = true := by simpa using her
      have cd := pDDecode_any z1 gt vt bs HAT1.out (by omega)
      rw [hd] at cd
      go_wp2_with fail
      refine cd.mono ?_
      rintro e z2 ⟨rfl, hr2⟩
      have hz2' : Below w.heap.size z1 z2 := SourceRead.below hC1.size (by have := HV1.out.1; have := HV1.out.2.2; omega) hr2
      have hzu : Below w2.heap.size z1 z2 := SourceRead.below (by have := HAT1.out.box.lt; have := HV1.out.1; omega) HV1.out.1 hr2
      have hC2 := hC1.trans hz2'
      obtain ⟨v2, hat2, hk2, hv2⟩ := hr2
      have HBZ2 := Lib.hid (HBZ1.out)
      have HAT2 := Lib.hid hat2
      clear hat2 cd
      have hbz3 : Below z2.heap.size z2 (z2.alloc (.cells #[.int .i64 0, .int .i64 0] 23)) := (Below.refl _ z2).alloc (Nat.le_refl _) _
      have hC3 := hC2.trans (hbz3.mono hC2.size)
      clear hk2 hv2 HBZ1 HBZ2 HAT1 HAT2 HV1 hz2' hzu hC1 hC2 hd hbz3
      go_wp2_with fail
      go_ret
      exact ⟨rfl, hC3⟩
theorem back_walk (W : World) (p q p' q' : Int) (v : Value) (xs : List UInt8) (hbs : Bs W v xs) (_ : xs.length ≤ 9223372036854775807) (hT : Tb W) :
    Calls Tryd.prog 5 #[DotV p q, DotV p' q', v] W fun e W' => e = .returned (.bool true) ∧ Below W.heap.size W W' := by
  obtain ⟨A, c, rfl, _⟩ := hbs.form
  exact back_arg W p q p' q' A c xs hbs hT
end Go.Proofs.YtockdekhdjmklaaDoor
