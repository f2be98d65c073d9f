/- The program's Conflict and Split. -/
import Derived.Test.YtldgnkngjdgiaaaDoorRefnProg
import Derived.Test.YtldgnkngjdgiaaaDoorHashParse
import Derived.Test.YtldgnkngjdgiaaaDoorRound
namespace Go.Proofs.YtldgnkngjdgiaaaDoor
open Go.RowKit Go.Great

set_option maxRecDepth 100000 in
set_option maxHeartbeats 1000000 in
theorem pConflict_any (w : World) (ref tip : List UInt8) (hr : ref.length ≤ 1000) (ht : tip.length = 32) (hM : Mx w) :
    Calls Tryd.prog 18 #[Str ref, IdV tip] w fun e W' => e = .returned (.tuple #[Str (conflictR ref tip).1, .int .i64 ((conflictR ref tip).2 : Nat)]) ∧ Below w.heap.size w W' := by
  have hsz : (⟨ref.toArray⟩ : ByteArray).size = ref.length := by simp [ByteArray.size]
  have b1 := IdAt.box w tip 30
  have hB0 : Below w.heap.size w (w.alloc (.cells (tip.map B8).toArray 30)) := (Below.refl _ w).alloc (Nat.le_refl _) _
  have hc := pCheck_any (w.alloc (.cells (tip.map B8).toArray 30)) ref (by omega) (hM.below hB0)
  clear hM
  obtain ⟨R, hR⟩ : ∃ R, R = conflictR ref tip := ⟨_, rfl⟩
  rw [← hR]
  have HR := Lib.hid hR
  clear hR
  go_enter Tryd.func18, Tryd.ntmps18
  go_wp2_with fail
  refine hc.mono ?_
  rintro e w1 ⟨rfl, h1⟩
  have b2 := b1.below h1
  have hB1 := hB0.trans (h1.mono hB0.size)
  clear hc b1
  by_cases h0 : breaksB ref = 0
  · rw [checkN_zero.2 h0]
    have HE := Lib.hid (show R = (ref ++ 126 :: textB tip, 0) by rw [HR.out, conflictR, if_pos h0])
    have hlT : (⟨(textB tip).toArray⟩ : ByteArray).size = 64 := by simp [ByteArray.size, textB_length, ht]
    clear HR h0
    go_wp2_with (refine wpList_load_id rfl (.tmp 3) rfl rfl ht b2 ?_)
    refine (hText_any w1 tip ht).mono ?_
    rintro e w2 ⟨rfl, h2⟩
    go_wp2
    refine bodyPost_ret (results_tmp2 rfl _ _ _) rfl ?_
    rw [HE.out]
    refine ⟨?_, hB1.trans (h2.mono hB1.size)⟩
    show Ending.returned (.tuple #[.string (_ ++ _ ++ _), _]) = _
    rw [str_cat, str_cat]
    simp
  · have hc : checkN ref = 40 := by unfold checkN; rw [if_neg h0]
    have HE := Lib.hid (show R = ([], 40) by rw [HR.out, conflictR, if_neg h0])
    rw [hc]
    clear HR h0 hc
    go_wp2
    refine bodyPost_ret (results_tmp2 rfl _ _ _) rfl ?_
    rw [HE.out]
    exact ⟨rfl, hB1⟩

theorem splitR_cut (s : List UInt8) : splitR s = if breaksB (Lib.cut s [126]).1 = 0 then (if (Lib.cut s [126]).2.2 = true then (if (parseR (Lib.cut s [126]).2.1).1 = 0 then ((Lib.cut s [126]).1, (parseR (Lib.cut s [126]).2.1).2, true, 0) else ([], zeroID, false, 40)) else ((Lib.cut s [126]).1, zeroID, false, 0)) else ([], zeroID, false, 40) := by
  rw [cut_tilde]
  unfold splitR
  cases tilde s with
  | none => simp
  | some j =>
    by_cases h1 : breaksB (s.take j) = 0 <;> by_cases h2 : (parseR (s.drop (j + 1))).1 = 0 <;> simp [h1, h2]
theorem cut_len (s : List UInt8) : (Lib.cut s [126]).1.length ≤ s.length := by
  rw [cut_tilde]
  cases tilde s with
  | none => exact Nat.le_refl _
  | some j => simp; omega

set_option maxRecDepth 100000 in
set_option maxHeartbeats 2000000 in
theorem pSplit_any (w : World) (s : List UInt8) (hs : s.length ≤ 1000) (hM : Mx w) :
    Calls Tryd.prog 20 #[Str s] w fun e W' => e = .returned (.tuple #[Str (splitR s).1, IdV (splitR s).2.1, .bool (splitR s).2.2.1, .int .i64 ((splitR s).2.2.2 : Nat)]) ∧ Below w.heap.size w W' := by
  have hsz := str_size s
  have x1 := BoxI.new w zeroID_length
  have hB1 : Below w.heap.size w (w.alloc (.cells (zeroID.map B8).toArray 30)) := (Below.refl _ w).alloc (Nat.le_refl _) _
  have hM1 := hM.below hB1
  obtain ⟨m, hmx⟩ := hM1
  have hcut := Tryd.strings_Cut ⟨s.toArray⟩ ⟨#[126]⟩ m (w.alloc (.cells (zeroID.map B8).toArray 30)) (by rw [hsz]; omega) hmx
  have hR0 := splitR_cut s
  have hfl := cut_len s
  obtain ⟨R, hR⟩ : ∃ R, R = splitR s := ⟨_, rfl⟩
  rw [← hR] at hR0 ⊢
  clear hR
  change Calls _ _ #[_, _] _ fun e w' => e = .returned (.tuple #[.string ⟨(Lib.cut s [126]).1.toArray⟩, .string ⟨(Lib.cut s [126]).2.1.toArray⟩, .bool (Lib.cut s [126]).2.2]) ∧ ∃ n, w' = (w.alloc (.cells (zeroID.map B8).toArray 30)).drewN n at hcut
  generalize hC : Lib.cut s [126] = C at *
  obtain ⟨front, text, fnd⟩ := C
  clear hC
  dsimp only at hR0 hcut hfl
  have HR := Lib.hid hR0
  clear hR0
  go_enter Tryd.func20, Tryd.ntmps20
  go_wp2_with (refine wpList_alloc_id rfl rfl ?_)
  generalize w.alloc (.cells (zeroID.map B8).toArray 30) = w2 at *
  refine hcut.mono ?_
  rintro e w3 ⟨rfl, nq, rfl⟩
  have x3 : BoxI (w2.drewN nq) w.heap.size zeroID := x1
  have hB3 : Below w.heap.size w (w2.drewN nq) := hB1.trans ⟨rfl, rfl, rfl, Nat.le_refl _, fun _ _ => rfl⟩
  have hM3 : Mx (w2.drewN nq) := ⟨m, hmx⟩
  clear hcut x1 hB1 hmx hM
  generalize w2.drewN nq = w3 at *
  go_wp2_with fail
  refine (pCheck_any _ front (by omega) hM3).mono ?_
  rintro e w4 ⟨rfl, h4⟩
  have x4 := x3.below h4
  have hB4 := hB3.trans (h4.mono hB3.size)
  have hM4 := hM3.below h4
  clear x3 hB3 hM3 h4
  by_cases h0 : breaksB front = 0
  case neg =>
    have hc : checkN front = 40 := by unfold checkN; rw [if_neg h0]
    have HE := Lib.hid (show R = ([], zeroID, false, 40) by rw [HR.out, if_neg h0])
    rw [hc]
    clear HR h0 hc hM4
    go_wp2_with (first
      | (refine wpList_build_id rfl rfl ?_)
      | (refine wpList_store_id rfl (.tmp 3) (.tmp 19) rfl rfl x4 zeroID_length rfl ?_; intro w6 y6 k6))
    refine bodyPost_ret (results_id4 rfl _ rfl y6) rfl ?_
    rw [HE.out]
    exact ⟨rfl, hB4.trans (k6.below (fun j _ e => by omega) hB4.size)⟩
  case pos =>
  rw [checkN_zero.2 h0]
  have HR2 := Lib.hid (show R = if fnd = true then (if (parseR text).1 = 0 then (front, (parseR text).2, true, 0) else ([], zeroID, false, 40)) else (front, zeroID, false, 0) by rw [HR.out, if_pos h0])
  clear HR h0 hM4
  cases fnd with
  | false =>
    have HE := Lib.hid (show R = (front, zeroID, false, 0) by rw [HR2.out, if_neg (by decide)])
    clear HR2
    have hi32 : (zeroID).length = 32 := x4.1
    have hS : IdAt w4.drew w.heap.size 0 (zeroID) := x4.at
    have xd : BoxI w4.drew w.heap.size (zeroID) := x4
    go_wp2_with fail
    refine wp_held (fun W1 => IdAt W1 w.heap.size 0 (zeroID)) (by kernel_rfl) ?_
    refine wpAnyH_next (i := 0) (v := Str front) rfl (by kernel_rfl) (by kernel_rfl) (by kernel_rfl) (fun _ _ _ h => h) (by kernel_rfl) (fun W1 hW1 => by go_simp) hS (fun a' ha' => ?_)
    simp only [Act.put, List.getElem_toArray, List.getElem_cons_succ, List.getElem_cons_zero, List.setIfInBounds_toArray, List.set_cons_succ, List.set_cons_zero] at ha'
    subst ha'
    refine wpAnyH_next (i := 2) (v := IdV (zeroID)) rfl (by kernel_rfl) (by kernel_rfl) (by kernel_rfl) (fun _ _ _ h => h) (by kernel_rfl) (fun W1 hW1 => by exact exec_load_id rfl rfl hi32 hW1) hS (fun a' ha' => ?_)
    simp only [Act.put, List.getElem_toArray, List.getElem_cons_succ, List.getElem_cons_zero, List.setIfInBounds_toArray, List.set_cons_succ, List.set_cons_zero] at ha'
    subst ha'
    refine wpAnyH_next (i := 3) (v := Value.bool false) rfl (by kernel_rfl) (by kernel_rfl) (by kernel_rfl) (fun _ _ _ h => h) (by kernel_rfl) (fun W1 hW1 => by go_simp) hS (fun a' ha' => ?_)
    simp only [Act.put, List.getElem_toArray, List.getElem_cons_succ, List.getElem_cons_zero, List.setIfInBounds_toArray, List.set_cons_succ, List.set_cons_zero] at ha'
    subst ha'
    refine wpAnyH_one (i := 1) (by kernel_rfl) rfl rfl (fun K hK => ?_)
    unfold Oper.wp
    go_simp
    refine (sClone_any _ front (by omega)).mono ?_
    rintro e wc ⟨rfl, hc⟩
    have xc := xd.below hc
    have hSc : IdAt wc w.heap.size 0 (zeroID) := xc.at
    have hBc := hB4.drew.trans (hc.mono hB4.drew.size)
    refine hK _ _ hSc ?_
    clear hK K
    try simp only [Act.put]
    refine wpAnyH_next (i := 4) (v := Str front) rfl (by kernel_rfl) (by kernel_rfl) (by kernel_rfl) (fun _ _ _ h => h) (by kernel_rfl) (fun W1 hW1 => by go_simp) hSc (fun a' ha' => ?_)
    simp only [Act.put, List.getElem_toArray, List.getElem_cons_succ, List.getElem_cons_zero, List.setIfInBounds_toArray, List.set_cons_succ, List.set_cons_zero] at ha'
    subst ha'
    refine wpAnyH_one (i := 5) (by kernel_rfl) rfl rfl (fun K hK => ?_)
    refine wp_store_mid 30 (.tmp 3) (.tmp 32) rfl w.heap.size 0 ((zeroID).map B8).toArray rfl rfl (by simpa [hi32] using xc.there) (by simpa [hi32] using sizeID hi32) (all_oneCell_toArray (bs_oneCell (zeroID))) ?_
    have y6 := (xc.store hi32).1
    have k6 := (xc.store hi32).2
    have hS2 : IdAt (wc.setCells w.heap.size 0 ((zeroID).map B8)) w.heap.size 0 (zeroID) := y6.at
    have hB6 : Below w.heap.size w (wc.setCells w.heap.size 0 ((zeroID).map B8)) := hBc.trans (k6.below (fun j _ e => by omega) hBc.size)
    refine hK _ _ hS2 ?_
    clear hK K
    try simp only [Act.put]
    refine wpAnyH_next (i := 6) (v := Value.bool false) rfl (by kernel_rfl) (by kernel_rfl) (by kernel_rfl) (fun _ _ _ h => h) (by kernel_rfl) (fun W1 hW1 => by go_simp) hS2 (fun a' ha' => ?_)
    simp only [Act.put, List.getElem_toArray, List.getElem_cons_succ, List.getElem_cons_zero, List.setIfInBounds_toArray, List.set_cons_succ, List.set_cons_zero] at ha'
    subst ha'
    refine wpAnyH_next (i := 7) (v := Value.int .i64 0) rfl (by kernel_rfl) (by kernel_rfl) (by kernel_rfl) (fun _ _ _ h => h) (by kernel_rfl) (fun W1 hW1 => by go_simp) hS2 (fun a' ha' => ?_)
    simp only [Act.put, List.getElem_toArray, List.getElem_cons_succ, List.getElem_cons_zero, List.setIfInBounds_toArray, List.set_cons_succ, List.set_cons_zero] at ha'
    subst ha'
    refine (wpAnyH_fin (by kernel_rfl) ?_) _
    go_wp2_with fail
    refine bodyPost_ret (results_id4 rfl _ rfl y6) rfl ?_
    rw [HE.out]
    exact ⟨rfl, hB6⟩
  | true =>
    have HR3 := Lib.hid (show R = if (parseR text).1 = 0 then (front, (parseR text).2, true, 0) else ([], zeroID, false, 40) by rw [HR2.out, if_pos rfl])
    clear HR2
    have hp := hParse_any w4 text
    have hp32 := parseR_len4 text
    generalize hP : parseR text = P at *
    obtain ⟨pe, pid⟩ := P
    dsimp only at hp hp32
    clear hP
    go_wp2_with fail
    refine hp.mono ?_
    rintro e w5 ⟨rfl, h5⟩
    have x5 := x4.below h5
    have hB5 := hB4.trans (h5.mono hB4.size)
    clear hp x4 hB4 h5
    by_cases hpe : pe = 0
    case neg =>
      have HE := Lib.hid (show R = ([], zeroID, false, 40) by rw [HR3.out, if_neg hpe])
      clear HR3
      have hpe' : (pe == 0) = false := by simpa using hpe
      go_wp2_with (first
        | (refine wpList_build_id rfl rfl ?_)
        | (refine wpList_store_id rfl (.tmp 3) (.tmp 25) rfl rfl x5 hp32 rfl ?_; intro w6 y6 k6)
        | (refine wpList_store_id rfl (.tmp 3) (.tmp 29) rfl rfl y6 zeroID_length rfl ?_; intro w7 y7 k7))
      refine bodyPost_ret (results_id4 rfl _ rfl y7) rfl ?_
      rw [HE.out]
      have hB6 := hB5.trans (k6.below (fun j _ e => by omega) hB5.size)
      exact ⟨rfl, hB6.trans (k7.below (fun j _ e => by omega) hB6.size)⟩
    case pos =>
      subst hpe
      have HE := Lib.hid (show R = (front, pid, true, 0) by rw [HR3.out]; rfl)
      clear HR3
      go_wp2_with (refine wpList_store_id rfl (.tmp 3) (.tmp 25) rfl rfl x5 hp32 rfl ?_; intro w6 y5 k6)
      have hB6 := hB5.trans (k6.below (fun j _ e => by omega) hB5.size)
      clear x5 hB5 k6
      have hi32 : (pid).length = 32 := y5.1
      have hS : IdAt w6.drew w.heap.size 0 (pid) := y5.at
      have xd : BoxI w6.drew w.heap.size (pid) := y5
      go_wp2_with fail
      refine wp_held (fun W1 => IdAt W1 w.heap.size 0 (pid)) (by kernel_rfl) ?_
      refine wpAnyH_next (i := 0) (v := Str front) rfl (by kernel_rfl) (by kernel_rfl) (by kernel_rfl) (fun _ _ _ h => h) (by kernel_rfl) (fun W1 hW1 => by go_simp) hS (fun a' ha' => ?_)
      simp only [Act.put, List.getElem_toArray, List.getElem_cons_succ, List.getElem_cons_zero, List.setIfInBounds_toArray, List.set_cons_succ, List.set_cons_zero] at ha'
      subst ha'
      refine wpAnyH_next (i := 2) (v := IdV (pid)) rfl (by kernel_rfl) (by kernel_rfl) (by kernel_rfl) (fun _ _ _ h => h) (by kernel_rfl) (fun W1 hW1 => by exact exec_load_id rfl rfl hi32 hW1) hS (fun a' ha' => ?_)
      simp only [Act.put, List.getElem_toArray, List.getElem_cons_succ, List.getElem_cons_zero, List.setIfInBounds_toArray, List.set_cons_succ, List.set_cons_zero] at ha'
      subst ha'
      refine wpAnyH_next (i := 3) (v := Value.bool true) rfl (by kernel_rfl) (by kernel_rfl) (by kernel_rfl) (fun _ _ _ h => h) (by kernel_rfl) (fun W1 hW1 => by go_simp) hS (fun a' ha' => ?_)
      simp only [Act.put, List.getElem_toArray, List.getElem_cons_succ, List.getElem_cons_zero, List.setIfInBounds_toArray, List.set_cons_succ, List.set_cons_zero] at ha'
      subst ha'
      refine wpAnyH_one (i := 1) (by kernel_rfl) rfl rfl (fun K hK => ?_)
      unfold Oper.wp
      go_simp
      refine (sClone_any _ front (by omega)).mono ?_
      rintro e wc ⟨rfl, hc⟩
      have xc := xd.below hc
      have hSc : IdAt wc w.heap.size 0 (pid) := xc.at
      have hBc := hB6.drew.trans (hc.mono hB6.drew.size)
      refine hK _ _ hSc ?_
      clear hK K
      try simp only [Act.put]
      refine wpAnyH_next (i := 4) (v := Str front) rfl (by kernel_rfl) (by kernel_rfl) (by kernel_rfl) (fun _ _ _ h => h) (by kernel_rfl) (fun W1 hW1 => by go_simp) hSc (fun a' ha' => ?_)
      simp only [Act.put, List.getElem_toArray, List.getElem_cons_succ, List.getElem_cons_zero, List.setIfInBounds_toArray, List.set_cons_succ, List.set_cons_zero] at ha'
      subst ha'
      refine wpAnyH_one (i := 5) (by kernel_rfl) rfl rfl (fun K hK => ?_)
      refine wp_store_mid 30 (.tmp 3) (.tmp 32) rfl w.heap.size 0 ((pid).map B8).toArray rfl rfl (by simpa [hi32] using xc.there) (by simpa [hi32] using sizeID hi32) (all_oneCell_toArray (bs_oneCell (pid))) ?_
      have y6 := (xc.store hi32).1
      have k6 := (xc.store hi32).2
      have hS2 : IdAt (wc.setCells w.heap.size 0 ((pid).map B8)) w.heap.size 0 (pid) := y6.at
      have hB7 : Below w.heap.size w (wc.setCells w.heap.size 0 ((pid).map B8)) := hBc.trans (k6.below (fun j _ e => by omega) hBc.size)
      refine hK _ _ hS2 ?_
      clear hK K
      try simp only [Act.put]
      refine wpAnyH_next (i := 6) (v := Value.bool true) rfl (by kernel_rfl) (by kernel_rfl) (by kernel_rfl) (fun _ _ _ h => h) (by kernel_rfl) (fun W1 hW1 => by go_simp) hS2 (fun a' ha' => ?_)
      simp only [Act.put, List.getElem_toArray, List.getElem_cons_succ, List.getElem_cons_zero, List.setIfInBounds_toArray, List.set_cons_succ, List.set_cons_zero] at ha'
      subst ha'
      refine wpAnyH_next (i := 7) (v := Value.int .i64 0) rfl (by kernel_rfl) (by kernel_rfl) (by kernel_rfl) (fun _ _ _ h => h) (by kernel_rfl) (fun W1 hW1 => by go_simp) hS2 (fun a' ha' => ?_)
      simp only [Act.put, List.getElem_toArray, List.getElem_cons_succ, List.getElem_cons_zero, List.setIfInBounds_toArray, List.set_cons_succ, List.set_cons_zero] at ha'
      subst ha'
      refine (wpAnyH_fin (by kernel_rfl) ?_) _
      go_wp2_with fail
      refine bodyPost_ret (results_id4 rfl _ rfl y6) rfl ?_
      rw [HE.out]
      exact ⟨rfl, hB7⟩
end Go.Proofs.YtldgnkngjdgiaaaDoor

