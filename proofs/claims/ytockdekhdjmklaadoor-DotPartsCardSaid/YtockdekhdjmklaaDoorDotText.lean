/- Text of a dot: the program's and the reference's. -/
import Derived.Test.YtockdekhdjmklaaDoorDotCmp
import Derived.Test.YtockdekhdjmklaaDoorRound
import Derived.Test.YtockdekhdjmklaaDoorTexts
import Derived.Test.YtockdekhdjmklaaDoorShelf
import Derived.Lib.AppendIntMem
import Derived.Lib.ItoaMem
namespace Go.Proofs.YtockdekhdjmklaaDoor
open Go.RowKit Go.Lib

/-- What the variables hold: MaxLen a number, the powers of ten, the two errors. -/
structure Tb (w : World) : Prop where
  mx : ∃ m, w.cell? ⟨0, 0, none⟩ = some (.int .i64 m)
  pow : Lib.TabIs Tryd.prog w "internal/strconv.uint64pow10" .u64 Lib.pow10Tab
  syn : ∃ ev, w.cell? ⟨1, 0, none⟩ = some ev ∧ (ev = .nilIface ∨ ∃ te pe, ev = .iface te pe)
  rng : ∃ ev, w.cell? ⟨2, 0, none⟩ = some ev ∧ (ev = .nilIface ∨ ∃ te pe, ev = .iface te pe)
theorem Tb.below {w w' : World} (h : Tb w) (hb : Below w.heap.size w w') : Tb w' := by
  obtain ⟨⟨m, hm⟩, h2, ⟨e1, h3, h3'⟩, ⟨e2, h4, h4'⟩⟩ := h
  refine ⟨⟨m, (hb.cell (World.block_lt_of_cell? _ _ hm)).trans hm⟩, ?_, ⟨e1, (hb.cell (World.block_lt_of_cell? _ _ h3)).trans h3, h3'⟩, ⟨e2, (hb.cell (World.block_lt_of_cell? _ _ h4)).trans h4, h4'⟩⟩
  have hgn : Tryd.prog.globalNamed "internal/strconv.uint64pow10" = some 3 := by kernel_rfl
  unfold Lib.TabIs World.var? at h2 ⊢
  rw [hgn] at h2 ⊢
  simp only [Option.bind_some] at h2 ⊢
  have hlt : 3 < w.heap.size := by
    rcases Nat.lt_or_ge 3 w.heap.size with h' | h'
    · exact h'
    · rw [Array.getElem?_eq_none h'] at h2; cases h2
  rw [hb.block _ hlt]
  exact h2

/-- The powers of ten alone. -/
def Tab (w : World) : Prop := Lib.TabIs Tryd.prog w "internal/strconv.uint64pow10" .u64 Lib.pow10Tab
theorem Tab.below {w w' : World} (h2 : Tab w) (hb : Below w.heap.size w w') : Tab w' := by
  have hgn : Tryd.prog.globalNamed "internal/strconv.uint64pow10" = some 3 := by kernel_rfl
  unfold Tab Lib.TabIs World.var? at h2 ⊢
  rw [hgn] at h2 ⊢
  simp only [Option.bind_some] at h2 ⊢
  have hlt : 3 < w.heap.size := by
    rcases Nat.lt_or_ge 3 w.heap.size with h' | h'
    · exact h'
    · rw [Array.getElem?_eq_none h'] at h2; cases h2
  rw [hb.block _ hlt]
  exact h2
theorem itoa_any (w : World) (n : Int) (h0 : 0 ≤ n) (h1 : n ≤ 4294967295) (hT : Tab w) :
    Calls Tryd.prog 41 #[.int .i64 n] w fun e W' => e = .returned (Str (Lib.itoa n)) ∧ Below w.heap.size w W' :=
  (Tryd.strconv_Itoa n (by omega) (by omega) w hT).mono fun e W' ⟨he, k, os, hw⟩ => ⟨he, by subst hw; exact Lib.below_grow _ w (Nat.le_refl _) k os⟩
/-- THE TEXTS -/
theorem texts_here : True := trivial

theorem cat5 (a b : Array UInt8) : ({ data := a } : ByteArray) ++ ({ data := b } : ByteArray) = ⟨a ++ b⟩ := by
  apply ByteArray.ext
  simp
def digS (N k n : Nat) (t : List UInt8) : Prop := (if n = 0 ∧ 1 ≤ k then [] else decDigits n) ++ t = decDigits N
theorem digS_step {N k n : Nat} {t : List UInt8} (h : digS N k n t) (hk : 0 < n ∨ k = 0) : digS N (k + 1) (n / 10) (UInt8.ofNat (48 + n % 10) :: t) := by
  unfold digS at *
  rw [if_neg (by omega)] at h
  by_cases h1 : n < 10
  · rw [if_pos (by omega)]
    have : decDigits n = [UInt8.ofNat (48 + n)] := by rw [decDigits, dif_pos h1]
    rw [this] at h
    rw [Nat.mod_eq_of_lt h1]
    simpa using h
  · rw [if_neg (by omega)]
    rw [dec_step h1] at h
    simpa using h
theorem digS_end {N k n : Nat} {t : List UInt8} (h : digS N k n t) (hn : n = 0) (hk : 1 ≤ k) : t = decDigits N := by
  unfold digS at h
  rw [if_pos ⟨hn, hk⟩] at h
  simpa using h
theorem bs_one (w : World) (x : UInt8) (y : Int) (hy : (x.toNat : Int) = y) (t : TypeId) : Bs (w.alloc (.cells #[.int .u8 y] t)) (.slice (some ⟨w.heap.size, 0, none⟩) 1 1) [x] := by
  subst hy
  refine .inr ⟨_, 1, rfl, Nat.le_refl _, fun i z hz => ?_⟩
  rcases i with _ | i
  · obtain rfl : x = z := by simpa using hz
    rw [add_plain]
    go_simp
  · simp at hz
set_option maxRecDepth 20000 in
set_option maxHeartbeats 1000000 in
theorem digits_any (w : World) (N : Nat) (hN : N < 10000000000) :
    Calls Tryd.prog 42 #[.int .i64 N] w fun e W' => e = .returned (Str (decDigits N)) ∧ Below w.heap.size w W' := by
  go_enter Tryd.func42, Tryd.ntmps42
  go_wp2_with fail
  go_loopw [0, 3, 4] (fun n t i wr => ∃ (k m : Nat) (ts : List UInt8), i = .int .i64 k ∧ n = .int .i64 m ∧ t = Str ts ∧ k ≤ 10 ∧ m < 10 ^ (10 - k) ∧ digS N k m ts ∧ ts.length = k ∧ Below w.heap.size w wr) (fun _ _ i _ => 11 - (RowKit.intOf i).toNat)
  case atStart => exact ⟨0, N, [], rfl, rfl, rfl, by omega, by simpa using hN, by simp [digS], rfl, Below.refl _ _⟩
  case round =>
    obtain ⟨k, m, ts, rfl, rfl, rfl, hk, hm, hd, hln, hB⟩ := hrel
    have hsz : (⟨ts.toArray⟩ : ByteArray).size = k := by simp [ByteArray.size, hln]
    have hm10 : m < 10000000000 := Nat.lt_of_lt_of_le hm (Nat.le_trans (Nat.pow_le_pow_right (by omega) (show 10 - k ≤ 10 by omega)) (by decide))
    have d0 : decide ((k : Int) < 20) = true := by simp; omega
    by_cases hgo : 0 < m ∨ k = 0
    case neg =>
      have hk1 : 1 ≤ k := by omega
      have hm0 : m = 0 := by omega
      have d1 : decide ((0 : Int) < (m : Int)) = false := by simp; omega
      have d2 : decide ((k : Int) = 0) = false := by simp; omega
      have d3 : ((k : Int) == 0) = false := by simp; omega
      have he := digS_end hd hm0 hk1
      subst he
      go_wp2_with fail
      go_ret
      exact ⟨rfl, hB⟩
    case pos =>
      have hk9 : k ≤ 9 := by
        rcases hgo with h | h
        · rcases Nat.lt_or_ge k 10 with h' | h'
          · omega
          · have : 10 - k = 0 := by omega
            rw [this] at hm
            simp at hm
            omega
        · omega
      have hst := digS_step hd hgo
      have hmd : m / 10 < 10 ^ (10 - (k + 1)) := by
        have : 10 ^ (10 - k) = 10 ^ (10 - (k + 1)) * 10 := by rw [← Nat.pow_succ]; congr 1; omega
        rw [this] at hm
        exact Nat.div_lt_of_lt_mul (by rw [Nat.mul_comm]; exact hm)
      have HST := Lib.hid hst
      have HMD := Lib.hid hmd
      clear hm hd hst hmd
      by_cases hm0 : 0 < m
      case pos =>
        have d1 : decide ((0 : Int) < (m : Int)) = true := by simp; omega
        have hcv := run_string_bs (P := Tryd.prog) _ 24 9 5 Tryd.underlying24 Tryd.underlying5 Tryd.underlying9 (bs_one wr (UInt8.ofNat (48 + m % 10)) (48 + (m : Int) % 10) (by first | (rw [ofNat_val _ (by omega)]; simp; done) | (rw [ofNat_val _ (by omega)]; omega)) 5)
        have hs1 : (⟨[UInt8.ofNat (48 + m % 10)].toArray⟩ : ByteArray).size = 1 := rfl
        go_wp2_with fail
        go_roundw
        case rel => exact ⟨k + 1, m / 10, UInt8.ofNat (48 + m % 10) :: ts, by first | go_num | rfl, by first | rfl | go_num | (simp; done), by first | (rw [cat5]; simp; done), by omega, HMD.out, HST.out, by simp [hln], hB.alloc hB.size _⟩
        case measure => first | (simp [RowKit.intOf]; omega) | (simp [RowKit.intOf]; done)
      case neg =>
        obtain rfl : k = 0 := by omega
        obtain rfl : m = 0 := by omega
        have hcv := run_string_bs (P := Tryd.prog) _ 24 9 5 Tryd.underlying24 Tryd.underlying5 Tryd.underlying9 (bs_one wr (UInt8.ofNat (48 + 0 % 10)) 48 (by first | (rw [ofNat_val _ (by omega)]; simp; done) | (rw [ofNat_val _ (by omega)]; omega)) 5)
        have hs1 : (⟨[UInt8.ofNat (48 + 0 % 10)].toArray⟩ : ByteArray).size = 1 := rfl
        go_wp2_with fail
        go_roundw
        case rel => exact ⟨0 + 1, 0 / 10, UInt8.ofNat (48 + 0 % 10) :: ts, by first | go_num | rfl, by first | rfl | go_num | (simp; done), by first | (rw [cat5]; simp; done), by omega, HMD.out, HST.out, by simp [hln], hB.alloc hB.size _⟩
        case measure => first | (simp [RowKit.intOf]; omega) | (simp [RowKit.intOf]; done)
theorem itoa_dec {n : Int} (h : 0 ≤ n) : itoa n = decDigits n.toNat := by
  first | (unfold itoa; rw [if_neg (by omega)]; done) | (unfold itoa; simp [h]; done) | (unfold itoa; split <;> simp_all; omega)
theorem itoa_len {n : Int} (h : 0 ≤ n) (h1 : n ≤ 4294967295) : (itoa n).length ≤ 10 := by
  rw [itoa_dec h]
  exact dec_len _ 10 (by omega) (by omega)
theorem digitsI_any (w : World) (n : Int) (h0 : 0 ≤ n) (h1 : n ≤ 4294967295) :
    Calls Tryd.prog 42 #[.int .i64 n] w fun e W' => e = .returned (Str (itoa n)) ∧ Below w.heap.size w W' := by
  obtain ⟨N, rfl⟩ := Int.eq_ofNat_of_zero_le h0
  rw [itoa_dec h0]
  exact digits_any w N (by omega)

set_option maxHeartbeats 1000000 in
theorem pDText_tab (w : World) (s c : Int) (hT : Tab w) :
    Calls Tryd.prog 21 #[DotV s c] w fun e W' => e = .returned (Str (textD s c)) ∧ Below w.heap.size w W' := by
  have hB : Below w.heap.size w (w.alloc (.cells #[.int .i64 s, .int .i64 c] 23)) := (Below.refl _ w).alloc (Nat.le_refl _) _
  have g1 : (w.alloc (.cells #[.int .i64 s, .int .i64 c] 23)).cell? ⟨w.heap.size, 0, none⟩ = some (.int .i64 s) := by go_simp
  have g2 : (w.alloc (.cells #[.int .i64 s, .int .i64 c] 23)).cell? ⟨w.heap.size, 1, none⟩ = some (.int .i64 c) := by go_simp
  have hT1 := hT.below hB
  by_cases hok : DotOk s c
  case neg =>
    rw [show textD s c = [] from if_neg hok]
    go_enter Tryd.func21, Tryd.ntmps21
    go_wp2_with fail
    refine (pDCheck_any _ s c).mono ?_
    rintro e w1 ⟨rfl, h1⟩
    rw [checkD_no hok]
    go_wp2_with fail
    go_ret
    exact ⟨rfl, hB.trans (h1.mono hB.size)⟩
  rw [show textD s c = itoa s ++ 46 :: itoa c from if_pos hok]
  go_enter Tryd.func21, Tryd.ntmps21
  go_wp2_with fail
  refine (pDCheck_any _ s c).mono ?_
  rintro e w1 ⟨rfl, h1⟩
  rw [checkD_ok hok]
  obtain ⟨h0, h15, hc1, hc2⟩ := hok
  have hls := itoa_len h0 (by omega)
  have hlc := itoa_len (show 0 ≤ c by omega) (by omega)
  replace g1 := cell_on h1 g1
  replace g2 := cell_on h1 g2
  have hT2 := hT1.below h1
  have hB1 := hB.trans (h1.mono hB.size)
  clear h1 hB
  go_wp2_with fail
  refine wp_held (fun W1 => Below w1.heap.size w1 W1) (by kernel_rfl) ?_
  have hS : Below w1.heap.size w1 w1.drew := (Below.refl _ w1).drew
  refine wpAnyH_next (i := 0) (v := .pointer (some ⟨w.heap.size, 0, none⟩)) rfl (by kernel_rfl) (by kernel_rfl) (by kernel_rfl) (fun _ _ _ h => h) (by kernel_rfl) (fun W1 hW1 => by have e1 := cell_on hW1 g1; have e2 := cell_on hW1 g2; first | (go_simp; done) | (go_simp; go_num; done) | (go_simp; exact IntWalk.u64_in _ (by omega)) | (go_simp; rw [if_neg (by omega), cat5]; simp; done)) hS (fun a' ha' => ?_)
  simp only [Act.put, List.getElem_toArray, List.getElem_cons_zero, List.setIfInBounds_toArray, List.set_cons_succ, List.set_cons_zero] at ha'
  subst ha'
  refine wpAnyH_next (i := 1) (v := .int .i64 s) rfl (by kernel_rfl) (by kernel_rfl) (by kernel_rfl) (fun _ _ _ h => h) (by kernel_rfl) (fun W1 hW1 => by have e1 := cell_on hW1 g1; have e2 := cell_on hW1 g2; first | (go_simp; done) | (go_simp; go_num; done) | (go_simp; exact IntWalk.u64_in _ (by omega)) | (go_simp; rw [if_neg (by omega), cat5]; simp; done)) hS (fun a' ha' => ?_)
  simp only [Act.put, List.getElem_toArray, List.getElem_cons_succ, List.getElem_cons_zero, List.setIfInBounds_toArray, List.set_cons_succ, List.set_cons_zero] at ha'
  subst ha'
  refine wpAnyH_next (i := 4) (v := .pointer (some ⟨w.heap.size, 1, none⟩)) rfl (by kernel_rfl) (by kernel_rfl) (by kernel_rfl) (fun _ _ _ h => h) (by kernel_rfl) (fun W1 hW1 => by have e1 := cell_on hW1 g1; have e2 := cell_on hW1 g2; first | (go_simp; done) | (go_simp; go_num; done) | (go_simp; exact IntWalk.u64_in _ (by omega)) | (go_simp; rw [if_neg (by omega), cat5]; simp; done)) hS (fun a' ha' => ?_)
  simp only [Act.put, List.getElem_toArray, List.getElem_cons_succ, List.getElem_cons_zero, List.setIfInBounds_toArray, List.set_cons_succ, List.set_cons_zero] at ha'
  subst ha'
  refine wpAnyH_next (i := 5) (v := .int .i64 c) rfl (by kernel_rfl) (by kernel_rfl) (by kernel_rfl) (fun _ _ _ h => h) (by kernel_rfl) (fun W1 hW1 => by have e1 := cell_on hW1 g1; have e2 := cell_on hW1 g2; first | (go_simp; done) | (go_simp; go_num; done) | (go_simp; exact IntWalk.u64_in _ (by omega)) | (go_simp; rw [if_neg (by omega), cat5]; simp; done)) hS (fun a' ha' => ?_)
  simp only [Act.put, List.getElem_toArray, List.getElem_cons_succ, List.getElem_cons_zero, List.setIfInBounds_toArray, List.set_cons_succ, List.set_cons_zero] at ha'
  subst ha'
  refine wpAnyH_one (i := 2) (by kernel_rfl) rfl rfl (fun K hK => ?_)
  unfold Oper.wp
  go_simp
  refine (itoa_any _ s (by omega) (by omega) (hT2.below hS)).mono ?_
  rintro e w2 ⟨rfl, h2⟩
  have hS2 : Below w1.heap.size w1 w2 := hS.trans (h2.mono hS.size)
  refine hK _ _ hS2 ?_
  clear hK K
  refine wpAnyH_next (i := 3) (v := Str (itoa s ++ [46])) rfl (by kernel_rfl) (by kernel_rfl) (by kernel_rfl) (fun _ _ _ h => h) (by kernel_rfl) (fun W1 hW1 => by first | (go_simp; done) | (go_simp; go_num; done) | (go_simp; exact IntWalk.u64_in _ (by omega)) | (go_simp; rw [if_neg (by omega), cat5]; simp; done)) hS2 (fun a' ha' => ?_)
  simp only [Act.put, List.getElem_toArray, List.getElem_cons_succ, List.getElem_cons_zero, List.setIfInBounds_toArray, List.set_cons_succ, List.set_cons_zero] at ha'
  subst ha'
  refine wpAnyH_one (i := 6) (by kernel_rfl) rfl rfl (fun K hK => ?_)
  unfold Oper.wp
  go_simp
  refine (itoa_any _ c (by omega) (by omega) (hT2.below hS2)).mono ?_
  rintro e w3 ⟨rfl, h3⟩
  have hS3 : Below w1.heap.size w1 w3 := hS2.trans (h3.mono hS2.size)
  refine hK _ _ hS3 ?_
  clear hK K
  refine wpAnyH_next (i := 7) (v := Str (itoa s ++ [46] ++ itoa c)) rfl (by kernel_rfl) (by kernel_rfl) (by kernel_rfl) (fun _ _ _ h => h) (by kernel_rfl) (fun W1 hW1 => by first | (go_simp; done) | (go_simp; go_num; done) | (go_simp; exact IntWalk.u64_in _ (by omega)) | (go_simp; rw [if_neg (by omega), cat5]; simp; done)) hS3 (fun a' ha' => ?_)
  simp only [Act.put, List.getElem_toArray, List.getElem_cons_succ, List.getElem_cons_zero, List.setIfInBounds_toArray, List.set_cons_succ, List.set_cons_zero] at ha'
  subst ha'
  refine wpAnyH_one (i := 8) (by kernel_rfl) rfl rfl (fun K hK => ?_)
  unfold Oper.wp
  go_simp
  refine hK _ _ hS3 ?_
  clear hK K
  refine wpAnyH_fin (by kernel_rfl) ?_ _
  go_wp2_with fail
  go_ret
  exact ⟨by simp, hB1.trans (hS3.mono hB1.size)⟩

theorem pDText_any (w : World) (s c : Int) (hT : Tb w) :
    Calls Tryd.prog 21 #[DotV s c] w fun e W' => e = .returned (Str (textD s c)) ∧ Below w.heap.size w W' := pDText_tab w s c hT.pow
set_option maxHeartbeats 1000000 in
theorem r5Text_any (w : World) (s c : Int) :
    Calls Tryd.prog 22 #[DotV s c] w fun e W' => e = .returned (Str (textD s c)) ∧ Below w.heap.size w W' := by
  have hB : Below w.heap.size w (w.alloc (.cells #[.int .i64 s, .int .i64 c] 23)) := (Below.refl _ w).alloc (Nat.le_refl _) _
  have g1 : (w.alloc (.cells #[.int .i64 s, .int .i64 c] 23)).cell? ⟨w.heap.size, 0, none⟩ = some (.int .i64 s) := by go_simp
  have g2 : (w.alloc (.cells #[.int .i64 s, .int .i64 c] 23)).cell? ⟨w.heap.size, 1, none⟩ = some (.int .i64 c) := by go_simp
  by_cases hok : DotOk s c
  case neg =>
    rw [show textD s c = [] from if_neg hok]
    go_enter Tryd.func22, Tryd.ntmps22
    go_wp2_with fail
    refine (r5Check_any _ s c).mono ?_
    rintro e w1 ⟨rfl, h1⟩
    rw [checkD_no hok]
    go_wp2_with fail
    go_ret
    exact ⟨rfl, hB.trans (h1.mono hB.size)⟩
  rw [show textD s c = itoa s ++ 46 :: itoa c from if_pos hok]
  go_enter Tryd.func22, Tryd.ntmps22
  go_wp2_with fail
  refine (r5Check_any _ s c).mono ?_
  rintro e w1 ⟨rfl, h1⟩
  rw [checkD_ok hok]
  obtain ⟨h0, h15, hc1, hc2⟩ := hok
  have hls := itoa_len h0 (by omega)
  have hlc := itoa_len (show 0 ≤ c by omega) (by omega)
  replace g1 := cell_on h1 g1
  replace g2 := cell_on h1 g2
  have hB1 := hB.trans (h1.mono hB.size)
  clear h1 hB
  go_wp2_with fail
  refine wp_held (fun W1 => Below w1.heap.size w1 W1) (by kernel_rfl) ?_
  have hS : Below w1.heap.size w1 w1.drew := (Below.refl _ w1).drew
  refine wpAnyH_next (i := 0) (v := .pointer (some ⟨w.heap.size, 0, none⟩)) rfl (by kernel_rfl) (by kernel_rfl) (by kernel_rfl) (fun _ _ _ h => h) (by kernel_rfl) (fun W1 hW1 => by have e1 := cell_on hW1 g1; have e2 := cell_on hW1 g2; first | (go_simp; done) | (go_simp; go_num; done) | (go_simp; exact IntWalk.u64_in _ (by omega)) | (go_simp; rw [if_neg (by omega), cat5]; simp; done)) hS (fun a' ha' => ?_)
  simp only [Act.put, List.getElem_toArray, List.getElem_cons_zero, List.setIfInBounds_toArray, List.set_cons_succ, List.set_cons_zero] at ha'
  subst ha'
  refine wpAnyH_next (i := 1) (v := .int .i64 s) rfl (by kernel_rfl) (by kernel_rfl) (by kernel_rfl) (fun _ _ _ h => h) (by kernel_rfl) (fun W1 hW1 => by have e1 := cell_on hW1 g1; have e2 := cell_on hW1 g2; first | (go_simp; done) | (go_simp; go_num; done) | (go_simp; exact IntWalk.u64_in _ (by omega)) | (go_simp; rw [if_neg (by omega), cat5]; simp; done)) hS (fun a' ha' => ?_)
  simp only [Act.put, List.getElem_toArray, List.getElem_cons_succ, List.getElem_cons_zero, List.setIfInBounds_toArray, List.set_cons_succ, List.set_cons_zero] at ha'
  subst ha'
  refine wpAnyH_next (i := 4) (v := .pointer (some ⟨w.heap.size, 1, none⟩)) rfl (by kernel_rfl) (by kernel_rfl) (by kernel_rfl) (fun _ _ _ h => h) (by kernel_rfl) (fun W1 hW1 => by have e1 := cell_on hW1 g1; have e2 := cell_on hW1 g2; first | (go_simp; done) | (go_simp; go_num; done) | (go_simp; exact IntWalk.u64_in _ (by omega)) | (go_simp; rw [if_neg (by omega), cat5]; simp; done)) hS (fun a' ha' => ?_)
  simp only [Act.put, List.getElem_toArray, List.getElem_cons_succ, List.getElem_cons_zero, List.setIfInBounds_toArray, List.set_cons_succ, List.set_cons_zero] at ha'
  subst ha'
  refine wpAnyH_next (i := 5) (v := .int .i64 c) rfl (by kernel_rfl) (by kernel_rfl) (by kernel_rfl) (fun _ _ _ h => h) (by kernel_rfl) (fun W1 hW1 => by have e1 := cell_on hW1 g1; have e2 := cell_on hW1 g2; first | (go_simp; done) | (go_simp; go_num; done) | (go_simp; exact IntWalk.u64_in _ (by omega)) | (go_simp; rw [if_neg (by omega), cat5]; simp; done)) hS (fun a' ha' => ?_)
  simp only [Act.put, List.getElem_toArray, List.getElem_cons_succ, List.getElem_cons_zero, List.setIfInBounds_toArray, List.set_cons_succ, List.set_cons_zero] at ha'
  subst ha'
  refine wpAnyH_one (i := 2) (by kernel_rfl) rfl rfl (fun K hK => ?_)
  unfold Oper.wp
  go_simp
  refine (digitsI_any _ s (by omega) (by omega)).mono ?_
  rintro e w2 ⟨rfl, h2⟩
  have hS2 : Below w1.heap.size w1 w2 := hS.trans (h2.mono hS.size)
  refine hK _ _ hS2 ?_
  clear hK K
  refine wpAnyH_next (i := 3) (v := Str (itoa s ++ [46])) rfl (by kernel_rfl) (by kernel_rfl) (by kernel_rfl) (fun _ _ _ h => h) (by kernel_rfl) (fun W1 hW1 => by first | (go_simp; done) | (go_simp; go_num; done) | (go_simp; exact IntWalk.u64_in _ (by omega)) | (go_simp; rw [if_neg (by omega), cat5]; simp; done)) hS2 (fun a' ha' => ?_)
  simp only [Act.put, List.getElem_toArray, List.getElem_cons_succ, List.getElem_cons_zero, List.setIfInBounds_toArray, List.set_cons_succ, List.set_cons_zero] at ha'
  subst ha'
  refine wpAnyH_one (i := 6) (by kernel_rfl) rfl rfl (fun K hK => ?_)
  unfold Oper.wp
  go_simp
  refine (digitsI_any _ c (by omega) (by omega)).mono ?_
  rintro e w3 ⟨rfl, h3⟩
  have hS3 : Below w1.heap.size w1 w3 := hS2.trans (h3.mono hS2.size)
  refine hK _ _ hS3 ?_
  clear hK K
  refine wpAnyH_next (i := 7) (v := Str (itoa s ++ [46] ++ itoa c)) rfl (by kernel_rfl) (by kernel_rfl) (by kernel_rfl) (fun _ _ _ h => h) (by kernel_rfl) (fun W1 hW1 => by first | (go_simp; done) | (go_simp; go_num; done) | (go_simp; exact IntWalk.u64_in _ (by omega)) | (go_simp; rw [if_neg (by omega), cat5]; simp; done)) hS3 (fun a' ha' => ?_)
  simp only [Act.put, List.getElem_toArray, List.getElem_cons_succ, List.getElem_cons_zero, List.setIfInBounds_toArray, List.set_cons_succ, List.set_cons_zero] at ha'
  subst ha'
  refine wpAnyH_one (i := 8) (by kernel_rfl) rfl rfl (fun K hK => ?_)
  unfold Oper.wp
  go_simp
  refine hK _ _ hS3 ?_
  clear hK K
  refine wpAnyH_fin (by kernel_rfl) ?_ _
  go_wp2_with fail
  go_ret
  exact ⟨by simp, hB1.trans (hS3.mono hB1.size)⟩
end Go.Proofs.YtockdekhdjmklaaDoor
