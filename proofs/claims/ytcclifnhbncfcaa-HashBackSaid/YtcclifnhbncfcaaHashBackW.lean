/- The walk of HashBack (tools/genhback.py). -/
import Derived.Test.YtcclifnhbncfcaaHashAlive
import Derived.Test.YtcclifnhbncfcaaHashParse
import Derived.Test.YtcclifnhbncfcaaHashKit
import Derived.Test.YtcclifnhbncfcaaTextLaws
import Derived.Test.YtcclifnhbncfcaaDrawnT
namespace Go.Proofs.Ytcclifnhbncfcaa
open Go.RowKit Go.Great
set_option maxRecDepth 100000

theorem idKept {T : Nat → Prop} {w w' : World} {b o : Nat} {xs : List UInt8} (h : IdAt w b o xs) (hk : Kept T w w') (hl : b < w.heap.size) (hb : ¬ T b) : IdAt w' b o xs := fun j v hv => (hk.cell (p := ⟨b, o + j, none⟩) hl hb).trans (h j v hv)

set_option maxHeartbeats 1600000 in
theorem back_arg (w : World) (xs : List UInt8) (hx : xs.length = 32) (ys : List UInt8) (hy : ys.length = 32) (s : List UInt8) (hm : s.length ≤ 9223372036854775807) :
    Calls Try.prog 3 #[IdV xs, IdV ys, Str s] w fun e W' => e = .returned (.bool true) ∧ Below w.heap.size w W' := by
  have a3 := IdAt.box w xs 23
  have hA1 := (Below.refl w.heap.size w).alloc (Nat.le_refl _) (.cells (xs.map B8).toArray 23)
  have a4 := IdAt.box (w.alloc (.cells (xs.map B8).toArray 23)) ys 23
  have hA2 := (Below.refl _ (w.alloc (.cells (xs.map B8).toArray 23))).alloc (Nat.le_refl _) (.cells (ys.map B8).toArray 23)
  have a3' := a3.below hA2
  have hA := hA1.trans (hA2.mono hA1.size)
  rw [World.size_alloc] at a4
  have hsz : ((w.alloc (.cells (xs.map B8).toArray 23)).alloc (.cells (ys.map B8).toArray 23)).heap.size = w.heap.size + 2 := by simp
  obtain ⟨T, hT⟩ : ∃ T, T = textB xs := ⟨_, rfl⟩
  obtain ⟨U, hU⟩ : ∃ U, U = textB ys := ⟨_, rfl⟩
  have hTl : T.length = 64 := by rw [hT, textB_length, hx]
  have t0 : ∀ W, Calls Try.prog 9 #[IdV xs] W fun e W' => e = .returned (Str T) ∧ Below W.heap.size W W' := fun W => by rw [hT]; exact hText_any W xs hx
  have t1 : ∀ W, Calls Try.prog 9 #[IdV ys] W fun e W' => e = .returned (Str U) ∧ Below W.heap.size W W' := fun W => by rw [hU]; exact hText_any W ys hy
  have p0 : ∀ W, Calls Try.prog 8 #[Str T] W fun e W' => e = .returned (.tuple #[IdV xs, .int .i64 0]) ∧ Below W.heap.size W W' := fun W => by
    have := hParse_any W T
    rw [hT, parseR_text hx, ← hT] at this
    exact this
  have HT := Lib.hid hT
  have HU := Lib.hid hU
  have HTL := Lib.hid hTl
  clear a3 hA1 hA2 hT hU hTl
  have hne : ∀ W, (binOp .neq 23 (IdV xs) (IdV xs)).run Try.prog W = .ok (.bool false) W := fun W => by
    have := neq_id W hx hx
    simpa using this
  have heq : ∀ W, (binOp .eql 23 (IdV xs) (IdV xs)).run Try.prog W = .ok (.bool true) W := fun W => by
    have := eql_id W hx hx
    simpa using this
  have hsl : (⟨s.toArray⟩ : ByteArray).size = s.length := by simp [ByteArray.size]
  by_cases h100 : 100 < s.length
  case pos =>
    have h100i : (100 : Int) < (s.length : Int) := by omega
    go_enter Try.func3, Try.ntmps3
    go_wp2_with fail
    generalize ((w.alloc (.cells (xs.map B8).toArray 23)).alloc (.cells (ys.map B8).toArray 23)) = w0 at *
    refine (alive3_any w0).mono ?_
    rintro e w1 ⟨rfl, hb1⟩
    have q3 := IdAt.below a3' hb1
    have q4 := IdAt.below a4 hb1
    have hB1 := hA.trans (hb1.mono (by omega))
    have hs1 : w.heap.size + 2 ≤ w1.heap.size := by have := hb1.size; omega
    clear a3' a4 hA hb1
    go_simp
    go_wp2_with (refine wpList_load_id rfl (.tmp 3) rfl rfl hx q3 ?_)
    refine (t0 _).mono ?_
    rintro e w2 ⟨rfl, hb2⟩
    go_simp
    go_wp2_with fail
    refine (p0 _).mono ?_
    rintro e w3 ⟨rfl, hb3⟩
    have q33 := IdAt.below (IdAt.below q3 hb2) hb3
    have q43 := IdAt.below (IdAt.below q4 hb2) hb3
    have hB2 := hB1.trans (hb2.mono (by omega))
    have hB3 := hB2.trans (hb3.mono hB2.size)
    have hs3 : w.heap.size + 2 ≤ w3.heap.size := by have := hb3.size; have := hb2.size; omega
    clear q3 q4 hB1 hB2 hb2 hb3 p0
    go_simp
    go_wp2_with (first
      | (refine wpList_alloc_id rfl rfl ?_
         have b8 := BoxI.new w3 zeroID_length
         have hA4 := (Below.refl w3.heap.size w3).alloc (Nat.le_refl _) (.cells (zeroID.map B8).toArray 23)
         have q34 := IdAt.below q33 hA4
         have q44 := IdAt.below q43 hA4
         generalize w3.alloc (.cells (zeroID.map B8).toArray 23) = w4 at *)
      | (refine wpList_store_id rfl (.tmp 8) (.tmp 20) rfl rfl b8 hx rfl ?_
         intro w5 b85 k5
         have hB5 := (hB3.trans (hA4.mono hB3.size)).trans (k5.below (B := w.heap.size) (fun j _ e => by omega) (by have := hA4.size; omega))
         have q35 := idKept q34 k5 (by have := hA4.size; omega) (by omega)
         have q45 := idKept q44 k5 (by have := hA4.size; omega) (by omega)
         have hw35 : w3.heap.size < w5.heap.size := b85.lt
         clear k5 q33 q43 hB3 hA4 q34 q44 b8)
      | (refine list_known (IdV xs) (by first | rfl | kernel_rfl) (exec_load_id (b := w3.heap.size) rfl rfl hx b85.at) (fun a' ha' => ?_); subst ha')
      | (refine list_known (IdV xs) (by first | rfl | kernel_rfl) (exec_load_id (b := w.heap.size) rfl rfl hx q35) (fun a' ha' => ?_); subst ha'))
    go_ret
    exact ⟨rfl, hB5⟩
  case neg =>
    have h100i : ¬ (100 : Int) < (s.length : Int) := by omega
    go_enter Try.func3, Try.ntmps3
    go_wp2_with fail
    generalize ((w.alloc (.cells (xs.map B8).toArray 23)).alloc (.cells (ys.map B8).toArray 23)) = w0 at *
    refine (alive3_any w0).mono ?_
    rintro e w1 ⟨rfl, hb1⟩
    have q3 := IdAt.below a3' hb1
    have q4 := IdAt.below a4 hb1
    have hB1 := hA.trans (hb1.mono (by omega))
    have hs1 : w.heap.size + 2 ≤ w1.heap.size := by have := hb1.size; omega
    clear a3' a4 hA hb1
    go_simp
    go_wp2_with (refine wpList_load_id rfl (.tmp 3) rfl rfl hx q3 ?_)
    refine (t0 _).mono ?_
    rintro e w2 ⟨rfl, hb2⟩
    go_simp
    go_wp2_with fail
    refine (p0 _).mono ?_
    rintro e w3 ⟨rfl, hb3⟩
    have q33 := IdAt.below (IdAt.below q3 hb2) hb3
    have q43 := IdAt.below (IdAt.below q4 hb2) hb3
    have hB2 := hB1.trans (hb2.mono (by omega))
    have hB3 := hB2.trans (hb3.mono hB2.size)
    have hs3 : w.heap.size + 2 ≤ w3.heap.size := by have := hb3.size; have := hb2.size; omega
    clear q3 q4 hB1 hB2 hb2 hb3 p0
    go_simp
    go_wp2_with (first
      | (refine wpList_alloc_id rfl rfl ?_
         have b8 := BoxI.new w3 zeroID_length
         have hA4 := (Below.refl w3.heap.size w3).alloc (Nat.le_refl _) (.cells (zeroID.map B8).toArray 23)
         have q34 := IdAt.below q33 hA4
         have q44 := IdAt.below q43 hA4
         generalize w3.alloc (.cells (zeroID.map B8).toArray 23) = w4 at *)
      | (refine wpList_store_id rfl (.tmp 8) (.tmp 20) rfl rfl b8 hx rfl ?_
         intro w5 b85 k5
         have hB5 := (hB3.trans (hA4.mono hB3.size)).trans (k5.below (B := w.heap.size) (fun j _ e => by omega) (by have := hA4.size; omega))
         have q35 := idKept q34 k5 (by have := hA4.size; omega) (by omega)
         have q45 := idKept q44 k5 (by have := hA4.size; omega) (by omega)
         have hw35 : w3.heap.size < w5.heap.size := b85.lt
         clear k5 q33 q43 hB3 hA4 q34 q44 b8)
      | (refine list_known (IdV xs) (by first | rfl | kernel_rfl) (exec_load_id (b := w3.heap.size) rfl rfl hx b85.at) (fun a' ha' => ?_); subst ha')
      | (refine list_known (IdV xs) (by first | rfl | kernel_rfl) (exec_load_id (b := w.heap.size) rfl rfl hx q35) (fun a' ha' => ?_); subst ha'))
    -- region 5
    refine wp_held (fun W1 => Below w5.heap.size w5 W1) (by kernel_rfl) ?_
    have hS0 : Below w5.heap.size w5 w5.drew := (Below.refl _ w5).drew
    refine wpAnyH_next (i := 0) (v := IdV xs) rfl (by kernel_rfl) (by kernel_rfl) (by kernel_rfl) (fun _ _ _ h => h) (by kernel_rfl) (fun W1 hW1 => by exact exec_load_id rfl rfl hx (IdAt.below q35 hW1)) hS0 (fun a' ha' => ?_)
    simp only [Act.put, List.getElem_toArray, List.getElem_cons_zero, List.setIfInBounds_toArray, List.set_cons_succ, List.set_cons_zero] at ha'
    subst ha'
    refine wpAnyH_next (i := 2) (v := IdV ys) rfl (by kernel_rfl) (by kernel_rfl) (by kernel_rfl) (fun _ _ _ h => h) (by kernel_rfl) (fun W1 hW1 => by exact exec_load_id rfl rfl hy (IdAt.below q45 hW1)) hS0 (fun a' ha' => ?_)
    simp only [Act.put, List.getElem_toArray, List.getElem_cons_succ, List.getElem_cons_zero, List.setIfInBounds_toArray, List.set_cons_succ, List.set_cons_zero] at ha'
    subst ha'
    refine wpAnyH_want (i := 1) (by kernel_rfl) rfl (by kernel_rfl) (fun K hK => ?_)
    unfold Oper.wp
    go_simp
    refine (t0 _).mono ?_
    rintro e y1 ⟨rfl, hy1⟩
    have hSy1 : Below w5.heap.size w5 y1 := hS0.trans (hy1.mono hS0.size)
    clear hy1
    refine hK _ _ hSy1 ?_
    clear hK K
    refine wpAnyH_want (i := 3) (by kernel_rfl) rfl (by kernel_rfl) (fun K hK => ?_)
    unfold Oper.wp
    go_simp
    refine (t1 _).mono ?_
    rintro e y2 ⟨rfl, hy2⟩
    have hSy2 : Below w5.heap.size w5 y2 := hSy1.trans (hy2.mono hSy1.size)
    clear hy2
    refine hK _ _ hSy2 ?_
    clear hK K
    refine wpAnyH_next (i := 4) (v := Str T) rfl (by kernel_rfl) (by kernel_rfl) (by kernel_rfl) (fun _ _ _ h => h) (by kernel_rfl) (fun W1 hW1 => by go_simp; done) hSy2 (fun a' ha' => ?_)
    simp only [Act.put, List.getElem_toArray, List.getElem_cons_succ, List.getElem_cons_zero, List.setIfInBounds_toArray, List.set_cons_succ, List.set_cons_zero] at ha'
    subst ha'
    refine wpAnyH_next (i := 5) (v := Str U) rfl (by kernel_rfl) (by kernel_rfl) (by kernel_rfl) (fun _ _ _ h => h) (by kernel_rfl) (fun W1 hW1 => by go_simp; done) hSy2 (fun a' ha' => ?_)
    simp only [Act.put, List.getElem_toArray, List.getElem_cons_succ, List.getElem_cons_zero, List.setIfInBounds_toArray, List.set_cons_succ, List.set_cons_zero] at ha'
    subst ha'
    refine wpAnyH_fin (by kernel_rfl) ?_ _
    have hB6 := hB5.trans (hSy2.mono hB5.size)
    have q36 := IdAt.below q35 hSy2
    have q46 := IdAt.below q45 hSy2
    have hs6 : w.heap.size + 2 ≤ y2.heap.size := by have := hSy2.size; have := hB5.size; omega
    clear hSy1 hSy2 hS0 hB5 q35 q45 b85
    generalize y2 = w6 at *
    obtain ⟨Y, hYe⟩ : ∃ Y, Y = (parseR s).2 := ⟨_, rfl⟩
    obtain ⟨f, hfe⟩ : ∃ f, f = (parseR s).1 := ⟨_, rfl⟩
    have hYl : Y.length = 32 := by rw [hYe]; exact parseR_len4 s
    have pS : ∀ W, Calls Try.prog 8 #[Str s] W fun e W' => e = .returned (.tuple #[IdV Y, .int .i64 f]) ∧ Below W.heap.size W W' := fun W => by
      rw [hYe, hfe]
      exact hParse_any W s
    have tY : f = 0 → ∀ W, Calls Try.prog 9 #[IdV Y] W fun e W' => e = .returned (Str s) ∧ Below W.heap.size W W' := fun h0 W => by
      have := hText_any W Y hYl
      rw [hYe, parseR_ok (by rw [← hfe]; exact h0), ← hYe] at this
      exact this
    have hf30 : f = 0 ∨ f = 30 := by
      rw [hfe]
      unfold parseR
      split
      · split
        · exact .inl rfl
        · exact .inr rfl
      · exact .inr rfl
    obtain ⟨C, hC⟩ : ∃ C, C = cmpB xs ys := ⟨_, rfl⟩
    have hC3 : C = -1 ∨ C = 0 ∨ C = 1 := by rw [hC]; exact cmpB_three xs ys
    have cC : ∀ W, Calls Try.prog 10 #[IdV xs, IdV ys] W fun e W' => e = .returned (.int .i64 C) ∧ Below W.heap.size W W' := fun W => by rw [hC]; exact hCompare_any W xs ys hx hy
    have cD : ∀ W, Calls Try.prog 10 #[IdV ys, IdV xs] W fun e W' => e = .returned (.int .i64 (-C)) ∧ Below W.heap.size W W' := fun W => by
      rw [hC, ← cmpB_neg]
      exact hCompare_any W ys xs hy hx
    obtain ⟨L, hL⟩ : ∃ L, L = decide (C < 0) := ⟨_, rfl⟩
    have hL2 : Op.bytesLess T U = L := by rw [HT.out, HU.out, less_text xs ys (by rw [hx, hy]), hL, hC]
    have hL1 : decide (C < 0) = L := hL.symm
    obtain ⟨Z, hZ⟩ : ∃ Z, Z = (C == 0) := ⟨_, rfl⟩
    have hZ1 : (C == 0) = Z := hZ.symm
    have hZ2 : ∀ W, (binOp .eql 23 (IdV xs) (IdV ys)).run Try.prog W = .ok (.bool Z) W := fun W => by
      have h := eql_id W hx hy
      have e : (xs == ys) = Z := by
        rw [hZ, hC, Bool.eq_iff_iff, beq_iff_eq, beq_iff_eq]
        exact (cmp_zero_iff (by rw [hx, hy])).symm
      rw [e] at h
      exact h
    have hTs : (⟨T.toArray⟩ : ByteArray).size = 64 := by
      have := HTL.out
      simp [ByteArray.size, this]
    have hC1 : -1 ≤ C := by omega
    have hC2 : C ≤ 1 := by omega
    clear hYe hfe hC hL hZ hC3
    simp only [Exit.then]
    go_wp2_with fail
    refine (pS _).mono ?_
    rintro e w7 ⟨rfl, hb7⟩
    have q37 := IdAt.below q36 hb7
    have q47 := IdAt.below q46 hb7
    have hB7 := hB6.trans (hb7.mono hB6.size)
    have hs7 : w.heap.size + 2 ≤ w7.heap.size := by have := hb7.size; omega
    clear q36 q46 hB6 hb7 pS
    go_simp
    go_wp2_with (first
      | (refine wpList_alloc_id rfl rfl ?_
         have b12 := BoxI.new w7 zeroID_length
         have hA8 := (Below.refl w7.heap.size w7).alloc (Nat.le_refl _) (.cells (zeroID.map B8).toArray 23)
         have q38 := IdAt.below q37 hA8
         have q48 := IdAt.below q47 hA8
         generalize w7.alloc (.cells (zeroID.map B8).toArray 23) = w8 at *)
      | (refine wpList_store_id rfl (.tmp 12) (.tmp 51) rfl rfl b12 hYl rfl ?_
         intro w9 b129 k9
         have hB9 := (hB7.trans (hA8.mono hB7.size)).trans (k9.below (B := w.heap.size) (fun j _ e => by omega) (by have := hA8.size; omega))
         have q39 := idKept q38 k9 (by have := hA8.size; omega) (by omega)
         have q49 := idKept q48 k9 (by have := hA8.size; omega) (by omega)
         clear k9 q37 q47 hB7 hA8 q38 q48 b12)
      | (refine list_known (IdV xs) (by first | rfl | kernel_rfl) (exec_load_id (b := w.heap.size) rfl rfl hx q39) (fun a' ha' => ?_); subst ha')
      | (refine list_known (IdV ys) (by first | rfl | kernel_rfl) (exec_load_id (b := w.heap.size + 1) rfl rfl hy q49) (fun a' ha' => ?_); subst ha'))
    refine (cC _).mono ?_
    rintro e w10 ⟨rfl, hb10⟩
    have q3a := IdAt.below q39 hb10
    have q4a := IdAt.below q49 hb10
    have b12a := b129.below hb10
    have hBa := hB9.trans (hb10.mono hB9.size)
    clear q39 q49 hB9 hb10 cC b129
    go_simp
    rcases hf30 with rfl | rfl
    · have tY0 := tY rfl
      clear tY
      go_wp2_with (first
        | (refine list_known (IdV xs) (by first | rfl | kernel_rfl) (exec_load_id (b := w.heap.size) rfl rfl hx q3a) (fun a' ha' => ?_); subst ha')
        | (refine list_known (IdV ys) (by first | rfl | kernel_rfl) (exec_load_id (b := w.heap.size + 1) rfl rfl hy q4a) (fun a' ha' => ?_); subst ha')
        | (refine list_known (IdV Y) (by first | rfl | kernel_rfl) (exec_load_id (b := w7.heap.size) rfl rfl hYl b12a.at) (fun a' ha' => ?_); subst ha'))
      refine (cD _).mono ?_
      rintro e w11 ⟨rfl, hb11⟩
      have q3b := IdAt.below q3a hb11
      have q4b := IdAt.below q4a hb11
      have b12b := b12a.below hb11
      have hBb := hBa.trans (hb11.mono hBa.size)
      clear q3a q4a b12a hBa hb11 cD
      go_simp
      go_wp2_with (first
        | (refine list_known (IdV xs) (by first | rfl | kernel_rfl) (exec_load_id (b := w.heap.size) rfl rfl hx q3b) (fun a' ha' => ?_); subst ha')
        | (refine list_known (IdV ys) (by first | rfl | kernel_rfl) (exec_load_id (b := w.heap.size + 1) rfl rfl hy q4b) (fun a' ha' => ?_); subst ha')
        | (refine list_known (IdV Y) (by first | rfl | kernel_rfl) (exec_load_id (b := w7.heap.size) rfl rfl hYl b12b.at) (fun a' ha' => ?_); subst ha'))
      refine (tY0 _).mono ?_
      rintro e w12 ⟨rfl, hb12⟩
      have hBc := hBb.trans (hb12.mono hBb.size)
      go_simp
      go_wp2_with fail
      go_ret
      exact ⟨rfl, hBc⟩
    · clear tY
      go_wp2_with (first
        | (refine list_known (IdV xs) (by first | rfl | kernel_rfl) (exec_load_id (b := w.heap.size) rfl rfl hx q3a) (fun a' ha' => ?_); subst ha')
        | (refine list_known (IdV ys) (by first | rfl | kernel_rfl) (exec_load_id (b := w.heap.size + 1) rfl rfl hy q4a) (fun a' ha' => ?_); subst ha'))
      refine (cD _).mono ?_
      rintro e w11 ⟨rfl, hb11⟩
      have q3b := IdAt.below q3a hb11
      have q4b := IdAt.below q4a hb11
      have b12b := b12a.below hb11
      have hBb := hBa.trans (hb11.mono hBa.size)
      clear q3a q4a b12a hBa hb11 cD
      go_simp
      go_wp2_with (first
        | (refine list_known (IdV xs) (by first | rfl | kernel_rfl) (exec_load_id (b := w.heap.size) rfl rfl hx q3b) (fun a' ha' => ?_); subst ha')
        | (refine list_known (IdV ys) (by first | rfl | kernel_rfl) (exec_load_id (b := w.heap.size + 1) rfl rfl hy q4b) (fun a' ha' => ?_); subst ha'))
      go_ret
      exact ⟨rfl, hBb⟩
end Go.Proofs.Ytcclifnhbncfcaa
