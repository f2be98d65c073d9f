/- Bytes of a dot: the program's and the reference's (tools/gendot.py). -/
import Derived.Test.YtockdekhdjmklaaDoorDotCmp
import Derived.Test.YtockdekhdjmklaaDoorRound
import Derived.Test.YtockdekhdjmklaaDoorLebSinkMore
import Derived.Test.YtockdekhdjmklaaDoorLebRef
namespace Go.Proofs.YtockdekhdjmklaaDoor
open Go.RowKit

def encD (s c : Int) : List UInt8 := if DotOk s c then lebB s.toNat ++ lebB c.toNat else []
theorem SinkWrote.below5 {W W' : World} {n g : Nat} {v : Value} {xs xs' : List UInt8} (hat : SinkAt W n g v xs) (hn : n ≤ W.heap.size) (hg : n ≤ g) (h : SinkWrote W n g v xs' W') : Below n W W' := by
  obtain ⟨v', _, hk, _⟩ := h
  exact hk.below (fun j _ t => by rcases t with rfl | t; exact hg; exact (hat.row.lt j t).1) hn

set_option maxHeartbeats 1000000 in
theorem pDEncode_any (w : World) (s c : Int) :
    Calls Tryd.prog 9 #[DotV s c] w fun e W' => ∃ x, e = .returned (.tuple #[x, .int .i64 (checkD s c)]) ∧ Bs W' x (encD s c) ∧ Below w.heap.size w W' := by
  have hB : Below w.heap.size w (w.alloc (.cells #[.int .i64 s, .int .i64 c] 23)) := (Below.refl _ w).alloc (Nat.le_refl _) _
  have g1 : (w.alloc (.cells #[.int .i64 s, .int .i64 c] 23)).cell? ⟨w.heap.size, 0, none⟩ = some (.int .i64 s) := by go_simp
  have g2 : (w.alloc (.cells #[.int .i64 s, .int .i64 c] 23)).cell? ⟨w.heap.size, 1, none⟩ = some (.int .i64 c) := by go_simp
  by_cases hok : DotOk s c
  case neg =>
    rw [show encD s c = [] from if_neg hok, checkD_no hok]
    go_enter Tryd.func9, Tryd.ntmps9
    go_wp2_with fail
    refine (pDCheck_any _ s c).mono ?_
    rintro e w1 ⟨rfl, h1⟩
    rw [checkD_no hok]
    go_wp2_with fail
    refine bodyPost_ret (results_tmp2 rfl _ _ _) rfl ?_
    exact ⟨_, rfl, Bs.nil _, hB.trans (h1.mono hB.size)⟩
  rw [show encD s c = lebB s.toNat ++ lebB c.toNat from if_pos hok, checkD_ok hok]
  go_enter Tryd.func9, Tryd.ntmps9
  go_wp2_with fail
  refine (pDCheck_any _ s c).mono ?_
  rintro e w1 ⟨rfl, h1⟩
  rw [checkD_ok hok]
  obtain ⟨h0, h15, hc1, hc2⟩ := hok
  replace g1 := cell_on h1 g1
  replace g2 := cell_on h1 g2
  have hB1 := hB.trans (h1.mono hB.size)
  clear h1 hB
  obtain ⟨a, rfl⟩ := Int.eq_ofNat_of_zero_le h0
  obtain ⟨b, rfl⟩ := Int.eq_ofNat_of_zero_le (show 0 ≤ c by omega)
  have hs0 : SinkAt (w1.alloc (.cells #[.slice none 0 0] 60)).drew w1.heap.size w1.heap.size (.slice none 0 0) [] := ⟨Boxed.new w1 _ _, World.ownsRow_nil _ _ _ _⟩
  have hS : Below w1.heap.size w1 (w1.alloc (.cells #[.slice none 0 0] 60)).drew := ((Below.refl _ w1).alloc (Nat.le_refl _) _).drew
  have hl1 := lebB_u64 (n := a) (by omega)
  have hl2 := lebB_u64 (n := b) (by omega)
  have HS0 := Lib.hid hs0
  clear hs0
  go_wp2_with fail
  refine wp_held (fun W1 => Below w1.heap.size w1 W1) (by kernel_rfl) ?_
  refine wpAnyH_next (i := 0) (v := .pointer (some ⟨w.heap.size, 0, none⟩)) rfl (by kernel_rfl) (by kernel_rfl) (by kernel_rfl) (fun _ _ _ h => h) (by kernel_rfl) (fun W1 hW1 => by have e1 := cell_on hW1 g1; have e2 := cell_on hW1 g2; first | (go_simp; done) | (go_simp; go_num; done) | (go_simp; exact IntWalk.u64_in _ (by omega)) | (go_simp; rw [if_neg (by omega), cat5]; simp; done)) hS (fun a' ha' => ?_)
  simp only [Act.put, List.getElem_toArray, List.getElem_cons_zero, List.setIfInBounds_toArray, List.set_cons_succ, List.set_cons_zero] at ha'
  subst ha'
  refine wpAnyH_next (i := 1) (v := .int .i64 (a : Int)) rfl (by kernel_rfl) (by kernel_rfl) (by kernel_rfl) (fun _ _ _ h => h) (by kernel_rfl) (fun W1 hW1 => by have e1 := cell_on hW1 g1; have e2 := cell_on hW1 g2; first | (go_simp; done) | (go_simp; go_num; done) | (go_simp; exact IntWalk.u64_in _ (by omega)) | (go_simp; rw [if_neg (by omega), cat5]; simp; done)) hS (fun a' ha' => ?_)
  simp only [Act.put, List.getElem_toArray, List.getElem_cons_succ, List.getElem_cons_zero, List.setIfInBounds_toArray, List.set_cons_succ, List.set_cons_zero] at ha'
  subst ha'
  refine wpAnyH_next (i := 2) (v := .int .u64 (a : Int)) rfl (by kernel_rfl) (by kernel_rfl) (by kernel_rfl) (fun _ _ _ h => h) (by kernel_rfl) (fun W1 hW1 => by have e1 := cell_on hW1 g1; have e2 := cell_on hW1 g2; first | (go_simp; done) | (go_simp; go_num; done) | (go_simp; exact IntWalk.u64_in _ (by omega)) | (go_simp; rw [if_neg (by omega), cat5]; simp; done)) hS (fun a' ha' => ?_)
  simp only [Act.put, List.getElem_toArray, List.getElem_cons_succ, List.getElem_cons_zero, List.setIfInBounds_toArray, List.set_cons_succ, List.set_cons_zero] at ha'
  subst ha'
  refine wpAnyH_next (i := 4) (v := .pointer (some ⟨w.heap.size, 1, none⟩)) rfl (by kernel_rfl) (by kernel_rfl) (by kernel_rfl) (fun _ _ _ h => h) (by kernel_rfl) (fun W1 hW1 => by have e1 := cell_on hW1 g1; have e2 := cell_on hW1 g2; first | (go_simp; done) | (go_simp; go_num; done) | (go_simp; exact IntWalk.u64_in _ (by omega)) | (go_simp; rw [if_neg (by omega), cat5]; simp; done)) hS (fun a' ha' => ?_)
  simp only [Act.put, List.getElem_toArray, List.getElem_cons_succ, List.getElem_cons_zero, List.setIfInBounds_toArray, List.set_cons_succ, List.set_cons_zero] at ha'
  subst ha'
  refine wpAnyH_next (i := 5) (v := .int .i64 (b : Int)) rfl (by kernel_rfl) (by kernel_rfl) (by kernel_rfl) (fun _ _ _ h => h) (by kernel_rfl) (fun W1 hW1 => by have e1 := cell_on hW1 g1; have e2 := cell_on hW1 g2; first | (go_simp; done) | (go_simp; go_num; done) | (go_simp; exact IntWalk.u64_in _ (by omega)) | (go_simp; rw [if_neg (by omega), cat5]; simp; done)) hS (fun a' ha' => ?_)
  simp only [Act.put, List.getElem_toArray, List.getElem_cons_succ, List.getElem_cons_zero, List.setIfInBounds_toArray, List.set_cons_succ, List.set_cons_zero] at ha'
  subst ha'
  refine wpAnyH_next (i := 6) (v := .int .u64 (b : Int)) rfl (by kernel_rfl) (by kernel_rfl) (by kernel_rfl) (fun _ _ _ h => h) (by kernel_rfl) (fun W1 hW1 => by have e1 := cell_on hW1 g1; have e2 := cell_on hW1 g2; first | (go_simp; done) | (go_simp; go_num; done) | (go_simp; exact IntWalk.u64_in _ (by omega)) | (go_simp; rw [if_neg (by omega), cat5]; simp; done)) hS (fun a' ha' => ?_)
  simp only [Act.put, List.getElem_toArray, List.getElem_cons_succ, List.getElem_cons_zero, List.setIfInBounds_toArray, List.set_cons_succ, List.set_cons_zero] at ha'
  subst ha'
  refine wpAnyH_one (i := 3) (by kernel_rfl) rfl rfl (fun K hK => ?_)
  unfold Oper.wp
  go_simp
  refine (SinkNumber_any w1.heap.size a (by omega) _ _ _ w1.heap.size hS.size HS0.out (by simp)).mono ?_
  rintro e w2 ⟨rfl, h2⟩
  have hS2 : Below w1.heap.size w1 w2 := hS.trans (SinkWrote.below5 HS0.out hS.size (Nat.le_refl _) h2)
  refine hK _ _ hS2 ?_
  clear hK K
  obtain ⟨v2, hat2, _, _⟩ := h2
  have HA2 := Lib.hid hat2
  clear hat2
  refine wpAnyH_one (i := 7) (by kernel_rfl) rfl rfl (fun K hK => ?_)
  unfold Oper.wp
  go_simp
  refine (SinkNumber_any w1.heap.size b (by omega) _ _ _ w1.heap.size hS2.size HA2.out (by simp; omega)).mono ?_
  rintro e w3 ⟨rfl, h3⟩
  have hS3 : Below w1.heap.size w1 w3 := hS2.trans (SinkWrote.below5 HA2.out hS2.size (Nat.le_refl _) h3)
  refine hK _ _ hS3 ?_
  clear hK K
  obtain ⟨v3, hat3, _, _⟩ := h3
  have HA3 := Lib.hid hat3
  clear hat3
  refine wpAnyH_one (i := 8) (by kernel_rfl) rfl rfl (fun K hK => ?_)
  unfold Oper.wp
  go_simp
  refine (SinkAll_any w1.heap.size _ _ _ w1.heap.size HA3.out (by simp; omega)).mono ?_
  rintro e w4 ⟨v4, rfl, hr4, h4⟩
  have hS4 : Below w1.heap.size w1 w4 := hS3.trans (h4.mono hS3.size)
  refine hK _ _ hS4 ?_
  clear hK K
  have HR4 := Lib.hid hr4
  clear hr4
  obtain ⟨A4, n4, c4, rfl⟩ := owns_slice HR4.out
  refine wpAnyH_one (i := 9) (by kernel_rfl) rfl rfl (fun K hK => ?_)
  unfold Oper.wp
  go_simp
  refine hK _ _ hS4 ?_
  clear hK K
  refine wpAnyH_one (i := 10) (by kernel_rfl) rfl rfl (fun K hK => ?_)
  unfold Oper.wp
  go_simp
  refine hK _ _ hS4 ?_
  clear hK K
  refine wpAnyH_fin (by kernel_rfl) ?_ _
  go_wp2_with fail
  refine bodyPost_ret (results_tmp2 rfl _ _ _) rfl ?_
  exact ⟨_, rfl, by simpa using Bs.of_owns HR4.out, hB1.trans (hS4.mono hB1.size)⟩

set_option maxHeartbeats 1000000 in
theorem r5Bytes_any (w : World) (s c : Int) (hok : DotOk s c) :
    Calls Tryd.prog 32 #[DotV s c] w (Made w (lebB s.toNat ++ lebB c.toNat)) := by
  have hB : Below w.heap.size w (w.alloc (.cells #[.int .i64 s, .int .i64 c] 23)) := (Below.refl _ w).alloc (Nat.le_refl _) _
  have g1 : (w.alloc (.cells #[.int .i64 s, .int .i64 c] 23)).cell? ⟨w.heap.size, 0, none⟩ = some (.int .i64 s) := by go_simp
  have g2 : (w.alloc (.cells #[.int .i64 s, .int .i64 c] 23)).cell? ⟨w.heap.size, 1, none⟩ = some (.int .i64 c) := by go_simp
  obtain ⟨i0, hi, hz0, hz1, hz2⟩ := info_parts infoU8
  obtain ⟨h0, h15, hc1, hc2⟩ := hok
  obtain ⟨a, rfl⟩ := Int.eq_ofNat_of_zero_le h0
  obtain ⟨b, rfl⟩ := Int.eq_ofNat_of_zero_le (show 0 ≤ c by omega)
  have hl1 := lebB_u64 (n := a) (by omega)
  have hl2 := lebB_u64 (n := b) (by omega)
  have n1 : IntKind.u64.wrap (a : Int) = a := IntWalk.u64_in _ (by omega)
  have n2 : IntKind.u64.wrap (b : Int) = b := IntWalk.u64_in _ (by omega)
  go_enter Tryd.func32, Tryd.ntmps32
  go_wp2_with fail
  try rw [n1]
  refine (rNumber_any a (by omega) _).mono ?_
  rintro e w1 ⟨v1, rfl, hrow1, hb1⟩
  replace g1 := cell_on hb1 g1
  replace g2 := cell_on hb1 g2
  have hB1 := hB.trans (hb1.mono hB.size)
  obtain ⟨A1, m1, c1, rfl⟩ := owns_slice hrow1
  have hr1 := owns_base hrow1 (base' := w.heap.size) (by first | exact hB.size | (simp; done))
  clear hrow1
  go_wp2_with fail
  try rw [n2]
  refine (rNumber_any b (by omega) _).mono ?_
  rintro e w2 ⟨v2, rfl, hrow2, hb2⟩
  have hr1' := owns_below hr1 hb2
  have hB2 := hB1.trans (hb2.mono hB1.size)
  have hbs2 := Bs.of_owns hrow2
  obtain ⟨A2, c2, rfl, hc2'⟩ := hbs2.form
  clear hrow2 hr1
  go_wp2_with (at_builtin; refine wpList_append_bs rfl (.tmp 8) (.tmp 12) 24 rfl w.heap.size 5 i0 Tryd.underlying24 hi hz0 hz1 hz2 _ (lebB a) rfl hr1' _ (lebB b) rfl hbs2 (by omega) hB2.size ?_; intro v' w1 hown1 hg1 hw1 _ _; obtain ⟨A', n', c', rfl⟩ := owns_slice hown1)
  go_ret
  exact ⟨_, rfl, hown1, hB2.trans ((Kept.of_grown hg1).below (fun j _ e => (hr1'.lt j e).1) hB2.size)⟩

set_option maxHeartbeats 1000000 in
theorem r5Encode_any (w : World) (s c : Int) :
    Calls Tryd.prog 10 #[DotV s c] w fun e W' => ∃ x, e = .returned (.tuple #[x, .int .i64 (checkD s c)]) ∧ Bs W' x (encD s c) ∧ Below w.heap.size w W' := by
  have hB : Below w.heap.size w (w.alloc (.cells #[.int .i64 s, .int .i64 c] 23)) := (Below.refl _ w).alloc (Nat.le_refl _) _
  have g1 : (w.alloc (.cells #[.int .i64 s, .int .i64 c] 23)).cell? ⟨w.heap.size, 0, none⟩ = some (.int .i64 s) := by go_simp
  have g2 : (w.alloc (.cells #[.int .i64 s, .int .i64 c] 23)).cell? ⟨w.heap.size, 1, none⟩ = some (.int .i64 c) := by go_simp
  by_cases hok : DotOk s c
  case neg =>
    rw [show encD s c = [] from if_neg hok, checkD_no hok]
    go_enter Tryd.func10, Tryd.ntmps10
    go_wp2_with fail
    refine (r5Check_any _ s c).mono ?_
    rintro e w1 ⟨rfl, h1⟩
    rw [checkD_no hok]
    go_wp2_with fail
    refine bodyPost_ret (results_tmp2 rfl _ _ _) rfl ?_
    exact ⟨_, rfl, Bs.nil _, hB.trans (h1.mono hB.size)⟩
  rw [show encD s c = lebB s.toNat ++ lebB c.toNat from if_pos hok, checkD_ok hok]
  go_enter Tryd.func10, Tryd.ntmps10
  go_wp2_with fail
  refine (r5Check_any _ s c).mono ?_
  rintro e w1 ⟨rfl, h1⟩
  rw [checkD_ok hok]
  replace g1 := cell_on h1 g1
  replace g2 := cell_on h1 g2
  have hB1 := hB.trans (h1.mono hB.size)
  clear h1 hB
  go_wp2_with fail
  refine (r5Bytes_any w1 s c hok).mono ?_
  rintro e w2 ⟨v2, rfl, hrow2, hb2⟩
  obtain ⟨A2, m2, c2, rfl⟩ := owns_slice hrow2
  have HR := Lib.hid hrow2
  clear hrow2
  go_wp2_with fail
  refine bodyPost_ret (results_tmp2 rfl _ _ _) rfl ?_
  exact ⟨_, rfl, Bs.of_owns HR.out, hB1.trans (hb2.mono hB1.size)⟩
end Go.Proofs.YtockdekhdjmklaaDoor
