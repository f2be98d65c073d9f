/- The walk of VectorDots, one of its ways (tools/gendots6.py). -/
import Derived.Test.YtbkbogblbniogaaVecDotsA
namespace Go.Proofs.Ytbkbogblbniogaa
open Go.RowKit Go.Great
set_option maxRecDepth 100000

set_option maxHeartbeats 8000000 in
theorem dots_5 (w : World) (v : Vc) (Ab : Option Addr) (cb : Nat) (bs : List UInt8) (hbs : Bs w (.slice Ab bs.length cb) bs) (hlen : bs.length ≤ 100) (s c : Int) (q : Nat) (hs : s = (q : Nat)) (hq : q < 16) (hc : 1 ≤ c) (hh : ¬ HasV v s c) :
    Calls Try.prog 7 #[VecV v, .slice Ab bs.length cb, DotV s c] w fun e W' => e = .returned (.bool true) ∧ Below w.heap.size w W' := by
  have HV := Lib.hid (fun W => pVHas_any W v s c)
  rw [decide_eq_false hh] at HV
  obtain ⟨w0, hw0, bV, g1, g2, hB0⟩ := vec_dot w v s c
  have HBS := Lib.hid (hbs.below hB0)
  have hl100 : ¬ (100 : Int) < (bs.length : Int) := by omega
  have HH := Lib.hid hh
  have HSS := Lib.hid hs
  have hs0 : (0 : Int) ≤ s := by omega
  have hs16 : s < 16 := by omega
  clear hs
  clear hbs hh
  go_enter Try.func7, Try.ntmps7
  go_wp2_with fail
  rw [← hw0]
  clear hw0
  refine (alive6_any _).mono ?_
  rintro e w1 ⟨rfl, hb1⟩
  replace bV := bV.below hb1
  replace g1 := cellOn hb1 g1
  replace g2 := cellOn hb1 g2
  replace HBS := Lib.hid (HBS.out.below hb1)
  replace hB0 := hB0.trans (hb1.mono hB0.size)
  clear hb1
  have hz1 : w.heap.size + 1 < w1.heap.size := World.block_lt_of_cell? _ _ g1
  have HLT := Lib.hid (fun (hne : bs ≠ []) j hj => HBS.out.lt hne j hj)
  go_wp2_with (first
    | (refine list_load_vec rfl (.tmp 3) rfl rfl bV.at ?_)
    | (refine wpList_alloc_vec rfl rfl ?_)
    | (refine wpList_store_vec rfl (.tmp 8) (.tmp 26) rfl rfl (BoxV.new _ zeroV) rfl ?_; intro w2 b8 k8))
  have hb2 : Below w1.heap.size w1 w2 := (((Kept.refl (· = w1.heap.size) w1).alloc _).same k8).below (fun j _ e => by subst e; exact Nat.le_refl _) (Nat.le_refl _)
  replace bV := bV.below hb2
  replace g1 := cellOn hb2 g1
  replace g2 := cellOn hb2 g2
  replace HBS := Lib.hid (HBS.out.below hb2)
  replace hB0 := hB0.trans (hb2.mono hB0.size)
  have hs2 : w1.heap.size < w2.heap.size := b8.lt
  clear hb2 k8
  obtain ⟨z8, hz8⟩ : ∃ z, z = w1.heap.size := ⟨_, rfl⟩
  rw [← hz8] at b8 hz1 HLT hs2
  rw [← hz8]
  clear hz8
  have hwz : w.heap.size ≤ z8 := by omega
  go_loopw [9, 29] (fun n i wr => ∃ (k m : Nat) (u : Vc), k ≤ bs.length ∧ i = .int .i64 k ∧ n = .int .i64 m ∧ m ≤ k ∧ BoxV wr z8 u ∧ Below z8 w2 wr ∧ LeV v u ∧ lacksN v u 16 = m) (fun _ i _ => bs.length - (intOf i).toNat)
  case atStart => exact ⟨0, 0, v, by omega, rfl, rfl, by omega, b8, Below.refl _ _, LeV.refl v, lacks_self v⟩
  case round =>
    obtain ⟨k, m, u, hk, rfl, rfl, hmk, hu, hBr, hle, hm⟩ := hrel
    have HLE := Lib.hid hle
    have HMM := Lib.hid hm
    clear hle hm
    by_cases hkl : k < bs.length
    case pos =>
      obtain ⟨x, hx⟩ : ∃ x, bs[k]? = some x := ⟨_, List.getElem?_eq_getElem hkl⟩
      have hbr := HBS.out.belowN hBr HLT.out
      obtain ⟨bb, bo, hAb, hxc⟩ := hbr.at hkl
      subst hAb
      have hx8 := x.toNat_lt
      have hgx : bs[k] = x := by rw [List.getElem?_eq_getElem hkl] at hx; injection hx
      rw [hgx] at hxc
      obtain ⟨xn, hxn⟩ : ∃ n, n = x.toNat := ⟨_, rfl⟩
      replace hxc : wr.cell? ⟨bb, bo + k, none⟩ = some (.int .u8 (xn : Int)) := by rw [hxn]; exact hxc
      rw [← hxn] at hx8
      clear hx hgx hxn hbr
      obtain ⟨p, hp⟩ : ∃ p, p = xn % 16 := ⟨_, rfl⟩
      have hp16 : p < 16 := by omega
      have n1 : IntKind.i64.wrap (xn : Int) = xn := IntWalk.i64_in _ (by omega)
      have n2 : (xn : Int) % 16 = (p : Int) := by omega
      have n2' : (xn : Int).tmod 16 = (p : Int) := by rw [Int.tmod_eq_emod_of_nonneg (by omega)]; exact n2
      have hk1 : (k : Int) < (bs.length : Int) := by omega
      have hk0 : (0 : Int) ≤ (k : Int) := by omega
      have cn := fun W => pVNext_any W u p
      have hszr : z8 < wr.heap.size := hu.lt
      by_cases hy : (atV u p).toNat < 4294967295
      case neg =>
        obtain ⟨t1, t2⟩ := dots_top hp16 hy
        rw [t1, t2] at cn
        clear t1 t2 hy hp
        go_wp2_with (first
          | (refine list_load_vec (by first | rfl | kernel_rfl) (.tmp 8) rfl rfl hu.at ?_))
        refine (cn _).mono ?_
        rintro e w3 ⟨rfl, hb3⟩
        have hb3' := hb3.trans (below_alloc w3 (.cells #[.int .i64 0, .int .i64 0] 27) |>.mono hb3.size)
        have hu3 := hu.below hb3'
        have hBr3 := hBr.trans (hb3'.mono (by omega))
        clear hb3 hb3' hu hBr hxc cn
        go_wp2_with fail
        go_roundw
        case rel => exact ⟨k + 1, m, u, by omega, by go_num, rfl, by omega, hu3, hBr3, HLE.out, HMM.out⟩
        case measure => simp [intOf]; omega
      case pos =>
        obtain ⟨t1, t2, t3, t4, t5, t6, t7, t8, t9, t10⟩ := dots_step hp16 hy HLE.out HMM.out
        have ch := fun W => pVHas_any W u p (((atV u p).toNat : Int) + 1)
        have ca := fun W => pVAdd_any W u p (((atV u p).toNat : Int) + 1)
        have ch2 := fun W => pVHas_any W (incV u p) p (((atV u p).toNat : Int) + 1)
        have cc := fun W => pVCompare_any W u (incV u p)
        have ck := fun W => pVLacks_any W u (incV u p)
        rw [t1, t2] at cn
        rw [t3] at ch
        rw [t4, t5] at ca
        rw [t6] at ch2
        rw [t7] at cc
        rw [t8] at ck
        have T9 := Lib.hid t9
        have T10 := Lib.hid t10
        clear t1 t2 t3 t4 t5 t6 t7 t8 t9 t10 hp HLE HMM
        generalize incV u p = u2 at *
        obtain ⟨y, hy'⟩ : ∃ y, y = ((atV u p).toNat : Int) + 1 := ⟨_, rfl⟩
        rw [← hy'] at cn ch ca ch2
        clear hy' hy
        have CN := Lib.hid cn; have CH := Lib.hid ch; have CA := Lib.hid ca; have CH2 := Lib.hid ch2; have CC := Lib.hid cc; have CK := Lib.hid ck
        clear cn ch ca ch2 cc ck
        have n3 : IntKind.i64.wrap ((m : Int) + 1) = (m : Int) + 1 := IntWalk.i64_in _ (by omega)
        go_wp2_with (first
          | (refine list_load_vec (by first | rfl | kernel_rfl) (.tmp 8) rfl rfl hu.at ?_))
        refine (CN.out _).mono ?_
        rintro e w3 ⟨rfl, hb3⟩
        have hb3' := hb3.trans (below_alloc w3 (.cells #[.int .i64 p, .int .i64 y] 27) |>.mono hb3.size)
        have d1 : (w3.alloc (.cells #[.int .i64 p, .int .i64 y] 27)).cell? ⟨w3.heap.size, 0, none⟩ = some (.int .i64 p) := by go_simp
        have d2 : (w3.alloc (.cells #[.int .i64 p, .int .i64 y] 27)).cell? ⟨w3.heap.size, 1, none⟩ = some (.int .i64 y) := by go_simp
        have hsz3 : z8 < w3.heap.size := Nat.lt_of_lt_of_le hszr hb3.size
        replace hu := hu.below hb3'
        replace hBr := hBr.trans (hb3'.mono (by omega))
        clear hb3 hb3' hxc
        go_wp2_with (first
          | (refine list_load_vec (by first | rfl | kernel_rfl) (.tmp 8) rfl rfl hu.at ?_))
        refine (CH.out _).mono ?_
        rintro e w4 ⟨rfl, hb4⟩
        replace hu := hu.below hb4
        replace d1 := cellOn hb4 d1
        replace d2 := cellOn hb4 d2
        have hsz4 : z8 < w4.heap.size := hu.lt
        replace hBr := hBr.trans (hb4.mono (by rw [World.size_alloc]; omega))
        clear hb4
        go_wp2_with (first
          | (refine list_load_vec (by first | rfl | kernel_rfl) (.tmp 8) rfl rfl hu.at ?_))
        refine (CA.out _).mono ?_
        rintro e w5 ⟨rfl, hb5⟩
        replace hu := hu.below hb5
        replace d1 := cellOn hb5 d1
        replace d2 := cellOn hb5 d2
        have hsz5 : z8 < w5.heap.size := hu.lt
        replace hBr := hBr.trans (hb5.mono (by omega))
        clear hb5
        go_wp2_with (first
          | (refine wpList_alloc_vec rfl rfl ?_)
          | (refine wpList_store_vec rfl (.tmp 14) (.tmp 50) rfl rfl (BoxV.new _ zeroV) rfl ?_
             intro w6 b14 k6
             have hb6 : Below w5.heap.size w5 w6 := (((Kept.refl (· = w5.heap.size) w5).alloc _).same k6).below (fun j _ e => by subst e; exact Nat.le_refl _) (Nat.le_refl _)
             replace hu := hu.below hb6
             replace d1 := cellOn hb6 d1
             replace d2 := cellOn hb6 d2
             replace hBr := hBr.trans (hb6.mono (by omega))
             clear hb6 k6)
          | (refine list_load_vec (by first | rfl | kernel_rfl) (.tmp 14) rfl rfl b14.at ?_))
        refine (CH2.out _).mono ?_
        rintro e w7 ⟨rfl, hb7⟩
        have hsz6 : z8 < w6.heap.size := hu.lt
        replace hu := hu.below hb7
        replace b14 := b14.below hb7
        have hsz7 : z8 < w7.heap.size := hu.lt
        replace hBr := hBr.trans (hb7.mono (by omega))
        clear hb7
        go_wp2_with (first
          | (refine list_load_vec (by first | rfl | kernel_rfl) (.tmp 8) rfl rfl hu.at ?_)
          | (refine list_load_vec (by first | rfl | kernel_rfl) (.tmp 14) rfl rfl b14.at ?_))
        refine (CC.out _).mono ?_
        rintro e w8 ⟨rfl, hb8⟩
        replace hu := hu.below hb8
        replace b14 := b14.below hb8
        have hsz8 : z8 < w8.heap.size := hu.lt
        replace hBr := hBr.trans (hb8.mono (by omega))
        clear hb8
        go_wp2_with (first
          | (refine list_load_vec (by first | rfl | kernel_rfl) (.tmp 8) rfl rfl hu.at ?_)
          | (refine list_load_vec (by first | rfl | kernel_rfl) (.tmp 14) rfl rfl b14.at ?_))
        refine (CK.out _).mono ?_
        rintro e w9 ⟨rfl, hb9⟩
        replace hu := hu.below hb9
        replace b14 := b14.below hb9
        replace hBr := hBr.trans (hb9.mono (by omega))
        clear hb9 d1 d2
        go_wp2_with (first
          | (refine list_load_vec (by first | rfl | kernel_rfl) (.tmp 14) rfl rfl b14.at ?_)
          | (refine wpList_store_vec rfl (.tmp 8) (.tmp 72) rfl rfl hu rfl ?_; intro wa ba ka))
        have hBa := hBr.trans (ka.below (B := z8) (fun j _ e => by subst e; exact Nat.le_refl _) (Nat.le_of_lt hu.lt))
        go_roundw
        case rel => exact ⟨k + 1, m + 1, u2, by omega, by go_num, by go_num, by omega, ba, hBa, T9.out, T10.out⟩
        case measure => simp [intOf]; omega
    case neg =>
      obtain rfl : k = bs.length := by omega
      replace bV := bV.belowM hBr (by omega)
      replace g1 := cellM hBr (show w.heap.size + 1 < z8 by omega) g1
      replace g2 := cellM hBr (show w.heap.size + 1 < z8 by omega) g2
      replace hB0 := hB0.trans (hBr.mono hwz)
      have HAT := Lib.hid (fun W => pVHas_any W u s c)
      have C1 := Lib.hid (fun W => pVLacks_any W v u)
      have C2 := Lib.hid (fun W => pVLacks_any W u v)
      rw [HMM.out] at C1
      rw [lacks_le HLE.out] at C2
      obtain ⟨hb, hhb⟩ : ∃ b, b = decide (HasV u s c) := ⟨_, rfl⟩
      have HHB := Lib.hid hhb
      rw [← hhb] at HAT
      clear hhb
      have hq' : (q : Int) < 16 := by omega
      have hq0 : (0 : Int) ≤ (q : Int) := by omega
      have m1 : (q : Int).tmod 16 = q := by rw [Int.tmod_eq_emod_of_nonneg hq0]; omega
      have m2 : ((q : Int) + 16).tmod 16 = q := by rw [Int.tmod_eq_emod_of_nonneg (by omega)]; omega
      have m3 : IntKind.i64.wrap ((q : Int) + 16) = (q : Int) + 16 := IntWalk.i64_in _ (by omega)
      have hx32 := (atV u q).toNat_lt
      have hcv : decide (c ≤ ((atV u q).toNat : Int)) = hb := by
        rw [HHB.out]
        rw [Bool.eq_iff_iff]
        simp only [decide_eq_true_eq]
        unfold HasV
        rw [HSS.out]
        simp
        omega
      clear hBr HBS HLT HMM hs2
      have n9 : IntKind.u64.wrap (m : Int) = m := IntWalk.u64_in _ (by omega)
      go_wp2_with (first
        | (refine list_load_vec (by first | rfl | kernel_rfl) (.tmp 3) rfl rfl bV.at ?_))
      refine (HV.out _).mono ?_
      rintro e w3 ⟨rfl, hb3⟩
      replace bV := bV.below hb3
      replace hu := hu.below hb3
      replace g1 := cellOn hb3 g1
      replace g2 := cellOn hb3 g2
      replace hB0 := hB0.trans (hb3.mono hB0.size)
      clear hb3
      have gx := hu.cell hq
      go_wp2_with fail
      refine wp_held (fun W1 => Below w3.heap.size w3 W1) (by kernel_rfl) ?_
      have hS0 : Below w3.heap.size w3 w3.drew := (Below.refl _ w3).drew
      refine wpAnyH_next (i := 0) (v := .bool true) rfl (by kernel_rfl) (by kernel_rfl) (by kernel_rfl) (fun _ _ _ h => h) (by kernel_rfl) (fun W1 hW1 => by go_simp; done) hS0 (fun a' ha' => ?_)
      simp only [Act.put, List.getElem_toArray, List.getElem_cons_zero, List.setIfInBounds_toArray, List.set_cons_succ, List.set_cons_zero] at ha'
      subst ha'
      refine wpAnyH_next (i := 1) (v := .bool true) rfl (by kernel_rfl) (by kernel_rfl) (by kernel_rfl) (fun _ _ _ h => h) (by kernel_rfl) (fun W1 hW1 => by go_simp; done) hS0 (fun a' ha' => ?_)
      simp only [Act.put, List.getElem_toArray, List.getElem_cons_succ, List.getElem_cons_zero, List.setIfInBounds_toArray, List.set_cons_succ, List.set_cons_zero] at ha'
      subst ha'
      refine wpAnyH_next (i := 2) (v := VecV v) rfl (by kernel_rfl) (by kernel_rfl) (by kernel_rfl) (fun _ _ _ h => h) (by kernel_rfl) (fun W1 hW1 => by exact exec_load_vec rfl rfl ((bV.below hW1).at)) hS0 (fun a' ha' => ?_)
      simp only [Act.put, List.getElem_toArray, List.getElem_cons_succ, List.getElem_cons_zero, List.setIfInBounds_toArray, List.set_cons_succ, List.set_cons_zero] at ha'
      subst ha'
      refine wpAnyH_next (i := 3) (v := VecV u) rfl (by kernel_rfl) (by kernel_rfl) (by kernel_rfl) (fun _ _ _ h => h) (by kernel_rfl) (fun W1 hW1 => by exact exec_load_vec rfl rfl ((hu.below hW1).at)) hS0 (fun a' ha' => ?_)
      simp only [Act.put, List.getElem_toArray, List.getElem_cons_succ, List.getElem_cons_zero, List.setIfInBounds_toArray, List.set_cons_succ, List.set_cons_zero] at ha'
      subst ha'
      refine wpAnyH_next (i := 5) (v := .int .i64 (m : Int)) rfl (by kernel_rfl) (by kernel_rfl) (by kernel_rfl) (fun _ _ _ h => h) (by kernel_rfl) (fun W1 hW1 => by go_simp; done) hS0 (fun a' ha' => ?_)
      simp only [Act.put, List.getElem_toArray, List.getElem_cons_succ, List.getElem_cons_zero, List.setIfInBounds_toArray, List.set_cons_succ, List.set_cons_zero] at ha'
      subst ha'
      refine wpAnyH_next (i := 6) (v := .int .u64 (m : Int)) rfl (by kernel_rfl) (by kernel_rfl) (by kernel_rfl) (fun _ _ _ h => h) (by kernel_rfl) (fun W1 hW1 => by first | (go_simp; done) | (go_simp; omega) | (simp; omega)) hS0 (fun a' ha' => ?_)
      simp only [Act.put, List.getElem_toArray, List.getElem_cons_succ, List.getElem_cons_zero, List.setIfInBounds_toArray, List.set_cons_succ, List.set_cons_zero] at ha'
      subst ha'
      refine wpAnyH_want (i := 4) (by kernel_rfl) rfl (by kernel_rfl) (fun K hK => ?_)
      unfold Oper.wp
      go_simp
      refine (C1.out _).mono ?_
      rintro e z1 ⟨rfl, hz1⟩
      have hSz1 : Below w3.heap.size w3 z1 := hS0.trans (hz1.mono hS0.size)
      clear hz1
      refine hK _ _ hSz1 ?_
      clear hK K
      refine wpAnyH_next (i := 7) (v := .bool true) rfl (by kernel_rfl) (by kernel_rfl) (by kernel_rfl) (fun _ _ _ h => h) (by kernel_rfl) (fun W1 hW1 => by first | (go_simp; done) | (go_simp; omega) | (simp; omega)) hSz1 (fun a' ha' => ?_)
      simp only [Act.put, List.getElem_toArray, List.getElem_cons_succ, List.getElem_cons_zero, List.setIfInBounds_toArray, List.set_cons_succ, List.set_cons_zero] at ha'
      subst ha'
      refine wpAnyH_next (i := 8) (v := .bool true) rfl (by kernel_rfl) (by kernel_rfl) (by kernel_rfl) (fun _ _ _ h => h) (by kernel_rfl) (fun W1 hW1 => by go_simp; done) hSz1 (fun a' ha' => ?_)
      simp only [Act.put, List.getElem_toArray, List.getElem_cons_succ, List.getElem_cons_zero, List.setIfInBounds_toArray, List.set_cons_succ, List.set_cons_zero] at ha'
      subst ha'
      refine wpAnyH_next (i := 9) (v := .bool true) rfl (by kernel_rfl) (by kernel_rfl) (by kernel_rfl) (fun _ _ _ h => h) (by kernel_rfl) (fun W1 hW1 => by go_simp; done) hSz1 (fun a' ha' => ?_)
      simp only [Act.put, List.getElem_toArray, List.getElem_cons_succ, List.getElem_cons_zero, List.setIfInBounds_toArray, List.set_cons_succ, List.set_cons_zero] at ha'
      subst ha'
      refine wpAnyH_next (i := 10) (v := VecV u) rfl (by kernel_rfl) (by kernel_rfl) (by kernel_rfl) (fun _ _ _ h => h) (by kernel_rfl) (fun W1 hW1 => by exact exec_load_vec rfl rfl ((hu.below hW1).at)) hSz1 (fun a' ha' => ?_)
      simp only [Act.put, List.getElem_toArray, List.getElem_cons_succ, List.getElem_cons_zero, List.setIfInBounds_toArray, List.set_cons_succ, List.set_cons_zero] at ha'
      subst ha'
      refine wpAnyH_next (i := 11) (v := VecV v) rfl (by kernel_rfl) (by kernel_rfl) (by kernel_rfl) (fun _ _ _ h => h) (by kernel_rfl) (fun W1 hW1 => by exact exec_load_vec rfl rfl ((bV.below hW1).at)) hSz1 (fun a' ha' => ?_)
      simp only [Act.put, List.getElem_toArray, List.getElem_cons_succ, List.getElem_cons_zero, List.setIfInBounds_toArray, List.set_cons_succ, List.set_cons_zero] at ha'
      subst ha'
      refine wpAnyH_want (i := 12) (by kernel_rfl) rfl (by kernel_rfl) (fun K hK => ?_)
      unfold Oper.wp
      go_simp
      refine (C2.out _).mono ?_
      rintro e z2 ⟨rfl, hz2⟩
      have hSz2 : Below w3.heap.size w3 z2 := hSz1.trans (hz2.mono hSz1.size)
      clear hz2
      refine hK _ _ hSz2 ?_
      clear hK K
      refine wpAnyH_next (i := 13) (v := .bool true) rfl (by kernel_rfl) (by kernel_rfl) (by kernel_rfl) (fun _ _ _ h => h) (by kernel_rfl) (fun W1 hW1 => by first | (go_simp; done) | (go_simp; omega) | (simp; omega)) hSz2 (fun a' ha' => ?_)
      simp only [Act.put, List.getElem_toArray, List.getElem_cons_succ, List.getElem_cons_zero, List.setIfInBounds_toArray, List.set_cons_succ, List.set_cons_zero] at ha'
      subst ha'
      refine wpAnyH_next (i := 14) (v := .bool true) rfl (by kernel_rfl) (by kernel_rfl) (by kernel_rfl) (fun _ _ _ h => h) (by kernel_rfl) (fun W1 hW1 => by go_simp; done) hSz2 (fun a' ha' => ?_)
      simp only [Act.put, List.getElem_toArray, List.getElem_cons_succ, List.getElem_cons_zero, List.setIfInBounds_toArray, List.set_cons_succ, List.set_cons_zero] at ha'
      subst ha'
      refine wpAnyH_next (i := 15) (v := .bool true) rfl (by kernel_rfl) (by kernel_rfl) (by kernel_rfl) (fun _ _ _ h => h) (by kernel_rfl) (fun W1 hW1 => by go_simp; done) hSz2 (fun a' ha' => ?_)
      simp only [Act.put, List.getElem_toArray, List.getElem_cons_succ, List.getElem_cons_zero, List.setIfInBounds_toArray, List.set_cons_succ, List.set_cons_zero] at ha'
      subst ha'
      refine wpAnyH_next (i := 16) (v := .bool false) rfl (by kernel_rfl) (by kernel_rfl) (by kernel_rfl) (fun _ _ _ h => h) (by kernel_rfl) (fun W1 hW1 => by go_simp; done) hSz2 (fun a' ha' => ?_)
      simp only [Act.put, List.getElem_toArray, List.getElem_cons_succ, List.getElem_cons_zero, List.setIfInBounds_toArray, List.set_cons_succ, List.set_cons_zero] at ha'
      subst ha'
      refine wpAnyH_next (i := 17) (v := .bool true) rfl (by kernel_rfl) (by kernel_rfl) (by kernel_rfl) (fun _ _ _ h => h) (by kernel_rfl) (fun W1 hW1 => by first | (go_simp; done) | (go_simp; omega) | (simp; omega)) hSz2 (fun a' ha' => ?_)
      simp only [Act.put, List.getElem_toArray, List.getElem_cons_succ, List.getElem_cons_zero, List.setIfInBounds_toArray, List.set_cons_succ, List.set_cons_zero] at ha'
      subst ha'
      refine wpAnyH_next (i := 18) (v := .bool true) rfl (by kernel_rfl) (by kernel_rfl) (by kernel_rfl) (fun _ _ _ h => h) (by kernel_rfl) (fun W1 hW1 => by go_simp; done) hSz2 (fun a' ha' => ?_)
      simp only [Act.put, List.getElem_toArray, List.getElem_cons_succ, List.getElem_cons_zero, List.setIfInBounds_toArray, List.set_cons_succ, List.set_cons_zero] at ha'
      subst ha'
      refine wpAnyH_skip (i := 19) rfl (by kernel_rfl) (by kernel_rfl) (by kernel_rfl) (fun _ _ _ h => h) (by kernel_rfl) hSz2 (fun a' ha' => ?_)
      simp only [Act.put, List.getElem_toArray, List.getElem_cons_succ, List.getElem_cons_zero, List.setIfInBounds_toArray, List.set_cons_succ, List.set_cons_zero] at ha'
      subst ha'
      refine wpAnyH_skip (i := 20) rfl (by kernel_rfl) (by kernel_rfl) (by kernel_rfl) (fun _ _ _ h => h) (by kernel_rfl) hSz2 (fun a' ha' => ?_)
      simp only [Act.put, List.getElem_toArray, List.getElem_cons_succ, List.getElem_cons_zero, List.setIfInBounds_toArray, List.set_cons_succ, List.set_cons_zero] at ha'
      subst ha'
      refine wpAnyH_skip (i := 21) rfl (by kernel_rfl) (by kernel_rfl) (by kernel_rfl) (fun _ _ _ h => h) (by kernel_rfl) hSz2 (fun a' ha' => ?_)
      simp only [Act.put, List.getElem_toArray, List.getElem_cons_succ, List.getElem_cons_zero, List.setIfInBounds_toArray, List.set_cons_succ, List.set_cons_zero] at ha'
      subst ha'
      refine wpAnyH_next (i := 22) (v := .bool true) rfl (by kernel_rfl) (by kernel_rfl) (by kernel_rfl) (fun _ _ _ h => h) (by kernel_rfl) (fun W1 hW1 => by go_simp; done) hSz2 (fun a' ha' => ?_)
      simp only [Act.put, List.getElem_toArray, List.getElem_cons_succ, List.getElem_cons_zero, List.setIfInBounds_toArray, List.set_cons_succ, List.set_cons_zero] at ha'
      subst ha'
      refine wpAnyH_next (i := 23) (v := .bool true) rfl (by kernel_rfl) (by kernel_rfl) (by kernel_rfl) (fun _ _ _ h => h) (by kernel_rfl) (fun W1 hW1 => by go_simp; done) hSz2 (fun a' ha' => ?_)
      simp only [Act.put, List.getElem_toArray, List.getElem_cons_succ, List.getElem_cons_zero, List.setIfInBounds_toArray, List.set_cons_succ, List.set_cons_zero] at ha'
      subst ha'
      refine wpAnyH_next (i := 24) (v := .bool true) rfl (by kernel_rfl) (by kernel_rfl) (by kernel_rfl) (fun _ _ _ h => h) (by kernel_rfl) (fun W1 hW1 => by go_simp; done) hSz2 (fun a' ha' => ?_)
      simp only [Act.put, List.getElem_toArray, List.getElem_cons_succ, List.getElem_cons_zero, List.setIfInBounds_toArray, List.set_cons_succ, List.set_cons_zero] at ha'
      subst ha'
      refine wpAnyH_next (i := 25) (v := VecV u) rfl (by kernel_rfl) (by kernel_rfl) (by kernel_rfl) (fun _ _ _ h => h) (by kernel_rfl) (fun W1 hW1 => by exact exec_load_vec rfl rfl ((hu.below hW1).at)) hSz2 (fun a' ha' => ?_)
      simp only [Act.put, List.getElem_toArray, List.getElem_cons_succ, List.getElem_cons_zero, List.setIfInBounds_toArray, List.set_cons_succ, List.set_cons_zero] at ha'
      subst ha'
      refine wpAnyH_next (i := 26) (v := DotV s c) rfl (by kernel_rfl) (by kernel_rfl) (by kernel_rfl) (fun _ _ _ h => h) (by kernel_rfl) (fun W1 hW1 => by have e1 := cellOn hW1 g1; have e2 := cellOn hW1 g2; go_simp; done) hSz2 (fun a' ha' => ?_)
      simp only [Act.put, List.getElem_toArray, List.getElem_cons_succ, List.getElem_cons_zero, List.setIfInBounds_toArray, List.set_cons_succ, List.set_cons_zero] at ha'
      subst ha'
      refine wpAnyH_next (i := 28) (v := .pointer (some ⟨w.heap.size + 1, 0, none⟩)) rfl (by kernel_rfl) (by kernel_rfl) (by kernel_rfl) (fun _ _ _ h => h) (by kernel_rfl) (fun W1 hW1 => by first | (go_simp; done) | (go_simp; omega) | (simp; omega)) hSz2 (fun a' ha' => ?_)
      simp only [Act.put, List.getElem_toArray, List.getElem_cons_succ, List.getElem_cons_zero, List.setIfInBounds_toArray, List.set_cons_succ, List.set_cons_zero] at ha'
      subst ha'
      refine wpAnyH_next (i := 29) (v := .int .i64 s) rfl (by kernel_rfl) (by kernel_rfl) (by kernel_rfl) (fun _ _ _ h => h) (by kernel_rfl) (fun W1 hW1 => by have e1 := cellOn hW1 g1; have e2 := cellOn hW1 g2; first | (go_simp; done) | (go_simp; omega)) hSz2 (fun a' ha' => ?_)
      simp only [Act.put, List.getElem_toArray, List.getElem_cons_succ, List.getElem_cons_zero, List.setIfInBounds_toArray, List.set_cons_succ, List.set_cons_zero] at ha'
      subst ha'
      refine wpAnyH_next (i := 30) (v := .bool true) rfl (by kernel_rfl) (by kernel_rfl) (by kernel_rfl) (fun _ _ _ h => h) (by kernel_rfl) (fun W1 hW1 => by first | (go_simp; done) | (go_simp; omega) | (simp; omega)) hSz2 (fun a' ha' => ?_)
      simp only [Act.put, List.getElem_toArray, List.getElem_cons_succ, List.getElem_cons_zero, List.setIfInBounds_toArray, List.set_cons_succ, List.set_cons_zero] at ha'
      subst ha'
      refine wpAnyH_want (i := 27) (by kernel_rfl) rfl (by kernel_rfl) (fun K hK => ?_)
      unfold Oper.wp
      go_simp
      refine (HAT.out _).mono ?_
      rintro e z3 ⟨rfl, hz3⟩
      have hSz3 : Below w3.heap.size w3 z3 := hSz2.trans (hz3.mono hSz2.size)
      clear hz3
      refine hK _ _ hSz3 ?_
      clear hK K
      refine wpAnyH_next (i := 31) (v := .bool true) rfl (by kernel_rfl) (by kernel_rfl) (by kernel_rfl) (fun _ _ _ h => h) (by kernel_rfl) (fun W1 hW1 => by go_simp; done) hSz3 (fun a' ha' => ?_)
      simp only [Act.put, List.getElem_toArray, List.getElem_cons_succ, List.getElem_cons_zero, List.setIfInBounds_toArray, List.set_cons_succ, List.set_cons_zero] at ha'
      subst ha'
      refine wpAnyH_next (i := 32) (v := .pointer (some ⟨w.heap.size + 1, 0, none⟩)) rfl (by kernel_rfl) (by kernel_rfl) (by kernel_rfl) (fun _ _ _ h => h) (by kernel_rfl) (fun W1 hW1 => by first | (go_simp; done) | (go_simp; omega) | (simp; omega)) hSz3 (fun a' ha' => ?_)
      simp only [Act.put, List.getElem_toArray, List.getElem_cons_succ, List.getElem_cons_zero, List.setIfInBounds_toArray, List.set_cons_succ, List.set_cons_zero] at ha'
      subst ha'
      refine wpAnyH_next (i := 33) (v := .int .i64 s) rfl (by kernel_rfl) (by kernel_rfl) (by kernel_rfl) (fun _ _ _ h => h) (by kernel_rfl) (fun W1 hW1 => by have e1 := cellOn hW1 g1; have e2 := cellOn hW1 g2; first | (go_simp; done) | (go_simp; omega)) hSz3 (fun a' ha' => ?_)
      simp only [Act.put, List.getElem_toArray, List.getElem_cons_succ, List.getElem_cons_zero, List.setIfInBounds_toArray, List.set_cons_succ, List.set_cons_zero] at ha'
      subst ha'
      refine wpAnyH_next (i := 34) (v := .bool true) rfl (by kernel_rfl) (by kernel_rfl) (by kernel_rfl) (fun _ _ _ h => h) (by kernel_rfl) (fun W1 hW1 => by first | (go_simp; done) | (go_simp; omega) | (simp; omega)) hSz3 (fun a' ha' => ?_)
      simp only [Act.put, List.getElem_toArray, List.getElem_cons_succ, List.getElem_cons_zero, List.setIfInBounds_toArray, List.set_cons_succ, List.set_cons_zero] at ha'
      subst ha'
      refine wpAnyH_next (i := 35) (v := .bool true) rfl (by kernel_rfl) (by kernel_rfl) (by kernel_rfl) (fun _ _ _ h => h) (by kernel_rfl) (fun W1 hW1 => by go_simp; done) hSz3 (fun a' ha' => ?_)
      simp only [Act.put, List.getElem_toArray, List.getElem_cons_succ, List.getElem_cons_zero, List.setIfInBounds_toArray, List.set_cons_succ, List.set_cons_zero] at ha'
      subst ha'
      refine wpAnyH_next (i := 36) (v := .bool true) rfl (by kernel_rfl) (by kernel_rfl) (by kernel_rfl) (fun _ _ _ h => h) (by kernel_rfl) (fun W1 hW1 => by go_simp; done) hSz3 (fun a' ha' => ?_)
      simp only [Act.put, List.getElem_toArray, List.getElem_cons_succ, List.getElem_cons_zero, List.setIfInBounds_toArray, List.set_cons_succ, List.set_cons_zero] at ha'
      subst ha'
      refine wpAnyH_next (i := 37) (v := .pointer (some ⟨w.heap.size + 1, 1, none⟩)) rfl (by kernel_rfl) (by kernel_rfl) (by kernel_rfl) (fun _ _ _ h => h) (by kernel_rfl) (fun W1 hW1 => by first | (go_simp; done) | (go_simp; omega) | (simp; omega)) hSz3 (fun a' ha' => ?_)
      simp only [Act.put, List.getElem_toArray, List.getElem_cons_succ, List.getElem_cons_zero, List.setIfInBounds_toArray, List.set_cons_succ, List.set_cons_zero] at ha'
      subst ha'
      refine wpAnyH_next (i := 38) (v := .int .i64 c) rfl (by kernel_rfl) (by kernel_rfl) (by kernel_rfl) (fun _ _ _ h => h) (by kernel_rfl) (fun W1 hW1 => by have e1 := cellOn hW1 g1; have e2 := cellOn hW1 g2; first | (go_simp; done) | (go_simp; omega)) hSz3 (fun a' ha' => ?_)
      simp only [Act.put, List.getElem_toArray, List.getElem_cons_succ, List.getElem_cons_zero, List.setIfInBounds_toArray, List.set_cons_succ, List.set_cons_zero] at ha'
      subst ha'
      refine wpAnyH_next (i := 39) (v := .bool true) rfl (by kernel_rfl) (by kernel_rfl) (by kernel_rfl) (fun _ _ _ h => h) (by kernel_rfl) (fun W1 hW1 => by first | (go_simp; done) | (go_simp; omega) | (simp; omega)) hSz3 (fun a' ha' => ?_)
      simp only [Act.put, List.getElem_toArray, List.getElem_cons_succ, List.getElem_cons_zero, List.setIfInBounds_toArray, List.set_cons_succ, List.set_cons_zero] at ha'
      subst ha'
      refine wpAnyH_next (i := 40) (v := .bool true) rfl (by kernel_rfl) (by kernel_rfl) (by kernel_rfl) (fun _ _ _ h => h) (by kernel_rfl) (fun W1 hW1 => by go_simp; done) hSz3 (fun a' ha' => ?_)
      simp only [Act.put, List.getElem_toArray, List.getElem_cons_succ, List.getElem_cons_zero, List.setIfInBounds_toArray, List.set_cons_succ, List.set_cons_zero] at ha'
      subst ha'
      refine wpAnyH_next (i := 41) (v := .bool true) rfl (by kernel_rfl) (by kernel_rfl) (by kernel_rfl) (fun _ _ _ h => h) (by kernel_rfl) (fun W1 hW1 => by go_simp; done) hSz3 (fun a' ha' => ?_)
      simp only [Act.put, List.getElem_toArray, List.getElem_cons_succ, List.getElem_cons_zero, List.setIfInBounds_toArray, List.set_cons_succ, List.set_cons_zero] at ha'
      subst ha'
      refine wpAnyH_next (i := 42) (v := .pointer (some ⟨w.heap.size + 1, 1, none⟩)) rfl (by kernel_rfl) (by kernel_rfl) (by kernel_rfl) (fun _ _ _ h => h) (by kernel_rfl) (fun W1 hW1 => by first | (go_simp; done) | (go_simp; omega) | (simp; omega)) hSz3 (fun a' ha' => ?_)
      simp only [Act.put, List.getElem_toArray, List.getElem_cons_succ, List.getElem_cons_zero, List.setIfInBounds_toArray, List.set_cons_succ, List.set_cons_zero] at ha'
      subst ha'
      refine wpAnyH_next (i := 43) (v := .int .i64 c) rfl (by kernel_rfl) (by kernel_rfl) (by kernel_rfl) (fun _ _ _ h => h) (by kernel_rfl) (fun W1 hW1 => by have e1 := cellOn hW1 g1; have e2 := cellOn hW1 g2; first | (go_simp; done) | (go_simp; omega)) hSz3 (fun a' ha' => ?_)
      simp only [Act.put, List.getElem_toArray, List.getElem_cons_succ, List.getElem_cons_zero, List.setIfInBounds_toArray, List.set_cons_succ, List.set_cons_zero] at ha'
      subst ha'
      refine wpAnyH_next (i := 44) (v := .pointer (some ⟨w.heap.size + 1, 0, none⟩)) rfl (by kernel_rfl) (by kernel_rfl) (by kernel_rfl) (fun _ _ _ h => h) (by kernel_rfl) (fun W1 hW1 => by first | (go_simp; done) | (go_simp; omega) | (simp; omega)) hSz3 (fun a' ha' => ?_)
      simp only [Act.put, List.getElem_toArray, List.getElem_cons_succ, List.getElem_cons_zero, List.setIfInBounds_toArray, List.set_cons_succ, List.set_cons_zero] at ha'
      subst ha'
      refine wpAnyH_next (i := 45) (v := .int .i64 (q : Int)) rfl (by kernel_rfl) (by kernel_rfl) (by kernel_rfl) (fun _ _ _ h => h) (by kernel_rfl) (fun W1 hW1 => by have e1 := cellOn hW1 g1; rw [HSS.out] at e1; go_simp; done) hSz3 (fun a' ha' => ?_)
      simp only [Act.put, List.getElem_toArray, List.getElem_cons_succ, List.getElem_cons_zero, List.setIfInBounds_toArray, List.set_cons_succ, List.set_cons_zero] at ha'
      subst ha'
      refine wpAnyH_next (i := 46) (v := .int .i64 (q : Int)) rfl (by kernel_rfl) (by kernel_rfl) (by kernel_rfl) (fun _ _ _ h => h) (by kernel_rfl) (fun W1 hW1 => by first | (go_simp; done) | (go_simp; exact m1)) hSz3 (fun a' ha' => ?_)
      simp only [Act.put, List.getElem_toArray, List.getElem_cons_succ, List.getElem_cons_zero, List.setIfInBounds_toArray, List.set_cons_succ, List.set_cons_zero] at ha'
      subst ha'
      refine wpAnyH_next (i := 47) (v := .int .i64 ((q : Int) + 16)) rfl (by kernel_rfl) (by kernel_rfl) (by kernel_rfl) (fun _ _ _ h => h) (by kernel_rfl) (fun W1 hW1 => by first | (go_simp; done) | (go_simp; omega) | (simp; omega)) hSz3 (fun a' ha' => ?_)
      simp only [Act.put, List.getElem_toArray, List.getElem_cons_succ, List.getElem_cons_zero, List.setIfInBounds_toArray, List.set_cons_succ, List.set_cons_zero] at ha'
      subst ha'
      refine wpAnyH_next (i := 48) (v := .int .i64 (q : Int)) rfl (by kernel_rfl) (by kernel_rfl) (by kernel_rfl) (fun _ _ _ h => h) (by kernel_rfl) (fun W1 hW1 => by first | (go_simp; done) | (go_simp; exact m2)) hSz3 (fun a' ha' => ?_)
      simp only [Act.put, List.getElem_toArray, List.getElem_cons_succ, List.getElem_cons_zero, List.setIfInBounds_toArray, List.set_cons_succ, List.set_cons_zero] at ha'
      subst ha'
      refine wpAnyH_next (i := 49) (v := .pointer (some ⟨z8, q, none⟩)) rfl (by kernel_rfl) (by kernel_rfl) (by kernel_rfl) (fun _ _ _ h => h) (by kernel_rfl) (fun W1 hW1 => by first | (go_simp; done) | (go_simp; omega) | (simp; omega)) hSz3 (fun a' ha' => ?_)
      simp only [Act.put, List.getElem_toArray, List.getElem_cons_succ, List.getElem_cons_zero, List.setIfInBounds_toArray, List.set_cons_succ, List.set_cons_zero] at ha'
      subst ha'
      refine wpAnyH_next (i := 50) (v := W32 (atV u q)) rfl (by kernel_rfl) (by kernel_rfl) (by kernel_rfl) (fun _ _ _ h => h) (by kernel_rfl) (fun W1 hW1 => by have e3 := cellOn hW1 gx; go_simp; done) hSz3 (fun a' ha' => ?_)
      simp only [Act.put, List.getElem_toArray, List.getElem_cons_succ, List.getElem_cons_zero, List.setIfInBounds_toArray, List.set_cons_succ, List.set_cons_zero] at ha'
      subst ha'
      refine wpAnyH_next (i := 51) (v := .int .i64 ((atV u q).toNat : Int)) rfl (by kernel_rfl) (by kernel_rfl) (by kernel_rfl) (fun _ _ _ h => h) (by kernel_rfl) (fun W1 hW1 => by go_simp; exact IntWalk.i64_in _ (by omega)) hSz3 (fun a' ha' => ?_)
      simp only [Act.put, List.getElem_toArray, List.getElem_cons_succ, List.getElem_cons_zero, List.setIfInBounds_toArray, List.set_cons_succ, List.set_cons_zero] at ha'
      subst ha'
      refine wpAnyH_next (i := 52) (v := .bool hb) rfl (by kernel_rfl) (by kernel_rfl) (by kernel_rfl) (fun _ _ _ h => h) (by kernel_rfl) (fun W1 hW1 => by go_simp; first | done | exact hcv | (simpa using hcv)) hSz3 (fun a' ha' => ?_)
      simp only [Act.put, List.getElem_toArray, List.getElem_cons_succ, List.getElem_cons_zero, List.setIfInBounds_toArray, List.set_cons_succ, List.set_cons_zero] at ha'
      subst ha'
      refine wpAnyH_next (i := 53) (v := .bool hb) rfl (by kernel_rfl) (by kernel_rfl) (by kernel_rfl) (fun _ _ _ h => h) (by kernel_rfl) (fun W1 hW1 => by go_simp; done) hSz3 (fun a' ha' => ?_)
      simp only [Act.put, List.getElem_toArray, List.getElem_cons_succ, List.getElem_cons_zero, List.setIfInBounds_toArray, List.set_cons_succ, List.set_cons_zero] at ha'
      subst ha'
      refine wpAnyH_next (i := 54) (v := .bool true) rfl (by kernel_rfl) (by kernel_rfl) (by kernel_rfl) (fun _ _ _ h => h) (by kernel_rfl) (fun W1 hW1 => by first | (go_simp; done) | (simp; done)) hSz3 (fun a' ha' => ?_)
      simp only [Act.put, List.getElem_toArray, List.getElem_cons_succ, List.getElem_cons_zero, List.setIfInBounds_toArray, List.set_cons_succ, List.set_cons_zero] at ha'
      subst ha'
      refine wpAnyH_next (i := 55) (v := .bool true) rfl (by kernel_rfl) (by kernel_rfl) (by kernel_rfl) (fun _ _ _ h => h) (by kernel_rfl) (fun W1 hW1 => by go_simp; done) hSz3 (fun a' ha' => ?_)
      simp only [Act.put, List.getElem_toArray, List.getElem_cons_succ, List.getElem_cons_zero, List.setIfInBounds_toArray, List.set_cons_succ, List.set_cons_zero] at ha'
      subst ha'
      refine wpAnyH_next (i := 56) (v := .bool true) rfl (by kernel_rfl) (by kernel_rfl) (by kernel_rfl) (fun _ _ _ h => h) (by kernel_rfl) (fun W1 hW1 => by go_simp; done) hSz3 (fun a' ha' => ?_)
      simp only [Act.put, List.getElem_toArray, List.getElem_cons_succ, List.getElem_cons_zero, List.setIfInBounds_toArray, List.set_cons_succ, List.set_cons_zero] at ha'
      subst ha'
      refine wpAnyH_fin (by kernel_rfl) ?_ _
      go_wp2_with fail
      go_ret
      exact ⟨rfl, hB0.trans (hSz3.mono hB0.size)⟩
end Go.Proofs.Ytbkbogblbniogaa
