/- The walk of DotForms. -/
import Derived.Test.YtockdekhdjmklaaDoorDotParse
import Derived.Test.YtockdekhdjmklaaDoorDotEnc
import Derived.Test.YtockdekhdjmklaaDoorLebPair
namespace Go.Proofs.YtockdekhdjmklaaDoor
open Go.RowKit

set_option maxRecDepth 100000 in
set_option maxHeartbeats 4000000 in
theorem forms_arg (w : World) (p q p' q' : Int) (Ab : Option Addr) (cb : Nat) (bs s : List UInt8) (hbs : Bs w (.slice Ab bs.length cb) bs) (hs : s.length ≤ 9223372036854775807) (hT : Tb w) :
    Calls Tryd.prog 3 #[DotV p q, DotV p' q', .slice Ab bs.length cb, Str s] w fun e W' => e = .returned (.bool true) ∧ Below w.heap.size w W' := by
  have hsz : (⟨s.toArray⟩ : ByteArray).size = s.length := by simp [ByteArray.size]
  have hB0 : Below w.heap.size w ((w.alloc (.cells #[.int .i64 p, .int .i64 q] 23)).alloc (.cells #[.int .i64 p', .int .i64 q'] 23)) := ((Below.refl _ w).alloc (Nat.le_refl _) _).alloc (by rw [World.size_alloc]; omega) _
  by_cases hb : 100 < bs.length
  case pos =>
    have d1 : decide (100 < (bs.length : Int)) = true := by simp; omega
    go_enter Tryd.func3, Tryd.ntmps3
    go_wp2_with fail
    go_ret
    exact ⟨rfl, hB0⟩
  have d1 : decide (100 < (bs.length : Int)) = false := by simp; omega
  by_cases hs1 : 100 < s.length
  case pos =>
    have d2 : decide (100 < (s.length : Int)) = true := by simp; omega
    go_enter Tryd.func3, Tryd.ntmps3
    go_wp2_with fail
    go_ret
    exact ⟨rfl, hB0⟩
  have d2 : decide (100 < (s.length : Int)) = false := by simp; omega
  have g1 : ((w.alloc (.cells #[.int .i64 p, .int .i64 q] 23)).alloc (.cells #[.int .i64 p', .int .i64 q'] 23)).cell? ⟨w.heap.size, 0, none⟩ = some (.int .i64 p) := by go_simp
  have g2 : ((w.alloc (.cells #[.int .i64 p, .int .i64 q] 23)).alloc (.cells #[.int .i64 p', .int .i64 q'] 23)).cell? ⟨w.heap.size, 1, none⟩ = some (.int .i64 q) := by go_simp
  have g3 : ((w.alloc (.cells #[.int .i64 p, .int .i64 q] 23)).alloc (.cells #[.int .i64 p', .int .i64 q'] 23)).cell? ⟨w.heap.size + 1, 0, none⟩ = some (.int .i64 p') := by go_simp
  have g4 : ((w.alloc (.cells #[.int .i64 p, .int .i64 q] 23)).alloc (.cells #[.int .i64 p', .int .i64 q'] 23)).cell? ⟨w.heap.size + 1, 1, none⟩ = some (.int .i64 q') := by go_simp
  have hT0 := hT.below hB0
  have hbs0 := hbs.below hB0
  obtain ⟨E, U1, U2, xs', hD⟩ : ∃ a b c d, decD bs = (a, (b, c), d) := ⟨_, _, _, _, rfl⟩
  obtain ⟨E', P1, P2, hP⟩ : ∃ a b c, parD s = (a, (b, c)) := ⟨_, _, _, rfl⟩
  have cd1 : ∀ W g v, SourceAt W g v bs → Calls Tryd.prog 12 #[.pointer (some ⟨g, 0, none⟩)] W fun e W' => e = .returned (.tuple #[DotV U1 U2, .int .i64 E]) ∧ SourceRead W g v xs' W' := fun W g v h => by have := pDDecode_any W g v bs h (by omega); rw [hD] at this; exact this
  have cd2 : ∀ W g v, RefAt W g v bs → Calls Tryd.prog 13 #[.pointer (some ⟨g, 0, none⟩)] W fun e W' => e = .returned (.tuple #[DotV U1 U2, .int .i64 E]) ∧ RefRead W g v xs' W' := fun W g v h => by have := r5Decode_any W g v bs h (by omega); rw [hD] at this; exact this
  have cp1 : ∀ W, Tb W → Calls Tryd.prog 14 #[Str s] W fun e W' => e = .returned (.tuple #[DotV P1 P2, .int .i64 E']) ∧ Below W.heap.size W W' := fun W h => by have := pDParse_any W s (by omega) h; rw [hP] at this; exact this
  have cp2 : ∀ W, Calls Tryd.prog 15 #[Str s] W fun e W' => e = .returned (.tuple #[DotV P1 P2, .int .i64 E']) ∧ Below W.heap.size W W' := fun W => by have := r5Parse_any W s (by omega); rw [hP] at this; exact this
  have CD1 := Lib.hid cd1
  have CD2 := Lib.hid cd2
  have CP1 := Lib.hid cp1
  have CP2 := Lib.hid cp2
  clear cd1 cd2 cp1 cp2 hD hP hT hbs
  go_enter Tryd.func3, Tryd.ntmps3
  go_wp2_with fail
  generalize (w.alloc (.cells #[.int .i64 p, .int .i64 q] 23)).alloc (.cells #[.int .i64 p', .int .i64 q'] 23) = W0 at *
  refine (Twin_any W0 _ bs hbs0 (by omega)).mono ?_
  rintro e w1 ⟨own, rfl, hrow1, hb1⟩
  have ho1 := Bs.of_owns hrow1
  obtain ⟨Ao, co, rfl, hco⟩ := ho1.form
  have HO1 := Lib.hid ho1
  replace g1 := cell_on hb1 g1
  replace g2 := cell_on hb1 g2
  replace g3 := cell_on hb1 g3
  replace g4 := cell_on hb1 g4
  have hbs1 := hbs0.below hb1
  have hT1 := hT0.below hb1
  have hB1 := hB0.trans (hb1.mono hB0.size)
  clear ho1 hrow1 hb1 hB0 hbs0 hT0
  go_wp2_with fail
  refine (pDEncode_any w1 p q).mono ?_
  rintro e w2 ⟨x, rfl, hx, h2⟩
  obtain ⟨Ax, cx, rfl, hcx⟩ := hx.form
  replace g1 := cell_on h2 g1
  replace g2 := cell_on h2 g2
  replace g3 := cell_on h2 g3
  replace g4 := cell_on h2 g4
  have hbs2 := hbs1.below h2
  have HO2 := Lib.hid (HO1.out.below h2)
  have hT2 := hT1.below h2
  have hB2 := hB1.trans (h2.mono hB1.size)
  have HX := Lib.hid hx
  clear hx h2 hB1 hbs1 hT1 HO1
  go_wp2_with fail
  refine (r5Encode_any w2 p q).mono ?_
  rintro e w3 ⟨y, rfl, hy, h3⟩
  obtain ⟨Ay, cy, rfl, hcy⟩ := hy.form
  replace g1 := cell_on h3 g1
  replace g2 := cell_on h3 g2
  replace g3 := cell_on h3 g3
  replace g4 := cell_on h3 g4
  have HX3 := Lib.hid (HX.out.below h3)
  have HY3 := Lib.hid hy
  have HO3 := Lib.hid (HO2.out.below h3)
  have HBS := Lib.hid (hbs2.below h3)
  have HT3 := Lib.hid (hT2.below h3)
  have hB3 := hB2.trans (h3.mono hB2.size)
  clear hy h3 hB2 hbs2 hT2 HO2 HX
  go_wp2_with fail
  refine (From_any w3 _ bs HO3.out (by omega)).mono ?_
  rintro e w4 ⟨gs, v4, rfl, hat4, hgs4, hv4, h4⟩
  have HA4 := Lib.hid hat4
  have HV4 := Lib.hid hv4
  have hF4 := h4
  clear hat4 hv4 h4
  go_wp2_with fail
  refine (Twin_any w4 _ bs (HBS.out.below hF4) (by omega)).mono ?_
  rintro e w5 ⟨rf, rfl, hrow5, h5⟩
  obtain ⟨Ar, cr, rfl, hcr⟩ := (Bs.of_owns hrow5).form
  have hF5 : Below w3.heap.size w3 w5 := hF4.trans (h5.mono hF4.size)
  have hp6 : Pair (w5.alloc (.cells #[.slice Ar bs.length cr] 35)) gs w5.heap.size v4 (.slice Ar bs.length cr) bs bs := by
    have hb6 : Below w4.heap.size w4 (w5.alloc (.cells #[.slice Ar bs.length cr] 35)) := h5.alloc h5.size _
    have hlt4 := HA4.out.box.lt
    have h45 := h5.size
    refine ⟨HA4.out.kept (T := fun _ => False) (Kept.of_below hb6 (Nat.le_refl _) _) (fun h => h) (fun _ _ h => h), ⟨Boxed.new w5 _ _, ((Kept.refl (fun _ => False) w5).alloc _).bs (Bs.of_owns hrow5) (fun _ _ h => h), fun j hj => ?_⟩, by omega, fun e => ?_, fun e => ?_⟩
    · have := hrow5.lt j hj
      simp
      omega
    · have := (HA4.out.row _ e).1
      omega
    · have := (hrow5.lt _ e).1
      omega
  have hF6 : Below w3.heap.size w3 (w5.alloc (.cells #[.slice Ar bs.length cr] 35)) := hF5.alloc hF5.size _
  have hgr : w3.heap.size ≤ w5.heap.size := hF5.size
  have HP6 := Lib.hid hp6
  clear hp6 hrow5 h5 hF4 hF5 HA4 HV4
  go_wp2_with fail
  generalize w5.alloc (.cells #[.slice Ar bs.length cr] 35) = w6 at *
  generalize w5.heap.size = gr at *
  refine (CD1.out w6 gs v4 HP6.out.src).mono ?_
  rintro e w7 ⟨rfl, hr7⟩
  have hF7 : Below w3.heap.size w3 w7 := hF6.trans (SourceRead.below hF6.size hgs4 hr7)
  obtain ⟨v7, hp7, hv7⟩ := HP6.out.reads hr7
  have HP7 := Lib.hid hp7
  clear hp7 hr7 HP6 hF6 CD1
  have cu1 : (w7.alloc (.cells #[.int .i64 U1, .int .i64 U2] 23)).cell? ⟨w7.heap.size, 0, none⟩ = some (.int .i64 U1) := by go_simp
  have cu2 : (w7.alloc (.cells #[.int .i64 U1, .int .i64 U2] 23)).cell? ⟨w7.heap.size, 1, none⟩ = some (.int .i64 U2) := by go_simp
  have hF8 : Below w3.heap.size w3 (w7.alloc (.cells #[.int .i64 U1, .int .i64 U2] 23)) := hF7.alloc hF7.size _
  have HP8 := Lib.hid (HP7.out.below ((Below.refl _ w7).alloc (Nat.le_refl _) (.cells #[.int .i64 U1, .int .i64 U2] 23)))
  have hgr7 : gr < w7.heap.size := HP7.out.ref.box.lt
  have hs8 : w7.heap.size < (w7.alloc (.cells #[.int .i64 U1, .int .i64 U2] 23)).heap.size := by rw [World.size_alloc]; omega
  go_wp2_with fail
  generalize w7.alloc (.cells #[.int .i64 U1, .int .i64 U2] 23) = w8 at *
  obtain ⟨bu, hbu⟩ : ∃ x, x = w7.heap.size := ⟨_, rfl⟩
  rw [← hbu] at cu1 cu2 hgr7 hs8 ⊢
  clear hbu hF7 HP7
  refine (CD2.out w8 gr _ HP8.out.ref).mono ?_
  rintro e w9 ⟨rfl, hr9⟩
  have hF9 : Below w3.heap.size w3 w9 := hF8.trans (RefRead.below hF8.size hgr hr9)
  have hk9 : Kept (fun j => j = gr) w8 w9 := by obtain ⟨_, _, k, _⟩ := hr9; exact k
  replace cu1 := (hk9.cell (p := ⟨bu, 0, none⟩) hs8 (by show ¬ bu = gr; omega)).trans cu1
  replace cu2 := (hk9.cell (p := ⟨bu, 1, none⟩) hs8 (by show ¬ bu = gr; omega)).trans cu2
  obtain ⟨u9, hp9, hv9⟩ := HP8.out.refs hr9
  have HP9 := Lib.hid hp9
  have hs9 : bu < w9.heap.size := Nat.lt_of_lt_of_le hs8 hk9.size
  clear hp9 hr9 HP8 hF8 CD2 hk9 hs8
  have b9 : Below w9.heap.size w9 (w9.alloc (.cells #[.int .i64 U1, .int .i64 U2] 23)) := (Below.refl _ w9).alloc (Nat.le_refl _) _
  have cv1 : (w9.alloc (.cells #[.int .i64 U1, .int .i64 U2] 23)).cell? ⟨w9.heap.size, 0, none⟩ = some (.int .i64 U1) := by go_simp
  have cv2 : (w9.alloc (.cells #[.int .i64 U1, .int .i64 U2] 23)).cell? ⟨w9.heap.size, 1, none⟩ = some (.int .i64 U2) := by go_simp
  have hF10 : Below w3.heap.size w3 (w9.alloc (.cells #[.int .i64 U1, .int .i64 U2] 23)) := hF9.alloc hF9.size _
  have HP10 := Lib.hid (HP9.out.below b9)
  replace cu1 := cell_on b9 cu1
  replace cu2 := cell_on b9 cu2
  go_wp2_with fail
  generalize w9.alloc (.cells #[.int .i64 U1, .int .i64 U2] 23) = w10 at *
  obtain ⟨bv, hbv⟩ : ∃ x, x = w9.heap.size := ⟨_, rfl⟩
  rw [← hbv] at cv1 cv2 hs9 ⊢
  clear hbv hF9 HP9 b9
  refine (CP1.out w10 (HT3.out.below hF10)).mono ?_
  rintro e w11 ⟨rfl, h11⟩
  replace cu1 := cell_on h11 cu1
  replace cu2 := cell_on h11 cu2
  replace cv1 := cell_on h11 cv1
  replace cv2 := cell_on h11 cv2
  have hF11 := hF10.trans (h11.mono hF10.size)
  have HP11 := Lib.hid (HP10.out.below h11)
  clear h11 hF10 HP10 CP1
  have b11 : Below w11.heap.size w11 (w11.alloc (.cells #[.int .i64 P1, .int .i64 P2] 23)) := (Below.refl _ w11).alloc (Nat.le_refl _) _
  have cp1 : (w11.alloc (.cells #[.int .i64 P1, .int .i64 P2] 23)).cell? ⟨w11.heap.size, 0, none⟩ = some (.int .i64 P1) := by go_simp
  have cp2 : (w11.alloc (.cells #[.int .i64 P1, .int .i64 P2] 23)).cell? ⟨w11.heap.size, 1, none⟩ = some (.int .i64 P2) := by go_simp
  have hF12 : Below w3.heap.size w3 (w11.alloc (.cells #[.int .i64 P1, .int .i64 P2] 23)) := hF11.alloc hF11.size _
  have HP12 := Lib.hid (HP11.out.below b11)
  replace cu1 := cell_on b11 cu1
  replace cu2 := cell_on b11 cu2
  replace cv1 := cell_on b11 cv1
  replace cv2 := cell_on b11 cv2
  go_wp2_with fail
  generalize w11.alloc (.cells #[.int .i64 P1, .int .i64 P2] 23) = w12 at *
  obtain ⟨bp, hbp⟩ : ∃ x, x = w11.heap.size := ⟨_, rfl⟩
  rw [← hbp] at cp1 cp2 ⊢
  clear hbp hF11 HP11 b11
  refine (CP2.out w12).mono ?_
  rintro e w13 ⟨rfl, h13⟩
  replace cu1 := cell_on h13 cu1
  replace cu2 := cell_on h13 cu2
  replace cv1 := cell_on h13 cv1
  replace cv2 := cell_on h13 cv2
  replace cp1 := cell_on h13 cp1
  replace cp2 := cell_on h13 cp2
  have hF13 := hF12.trans (h13.mono hF12.size)
  have HP13 := Lib.hid (HP12.out.below h13)
  clear h13 hF12 HP12 CP2
  have b13 : Below w13.heap.size w13 (w13.alloc (.cells #[.int .i64 P1, .int .i64 P2] 23)) := (Below.refl _ w13).alloc (Nat.le_refl _) _
  have hF14 : Below w3.heap.size w3 (w13.alloc (.cells #[.int .i64 P1, .int .i64 P2] 23)) := hF13.alloc hF13.size _
  have hcx1 := run_string_bs (P := Tryd.prog) _ 24 9 5 Tryd.underlying24 Tryd.underlying5 Tryd.underlying9 (HX3.out.below hF14)
  have hcy1 := run_string_bs (P := Tryd.prog) _ 24 9 5 Tryd.underlying24 Tryd.underlying5 Tryd.underlying9 (HY3.out.below hF14)
  have HP14 := Lib.hid (HP13.out.below b13)
  have ku1 := cell_on b13 cu1
  have ku2 := cell_on b13 cu2
  have kv1 := cell_on b13 cv1
  have kv2 := cell_on b13 cv2
  have kp1 := cell_on b13 cp1
  have kp2 := cell_on b13 cp2
  have kq1 : (w13.alloc (.cells #[.int .i64 P1, .int .i64 P2] 23)).cell? ⟨w13.heap.size, 0, none⟩ = some (.int .i64 P1) := by go_simp
  have kq2 : (w13.alloc (.cells #[.int .i64 P1, .int .i64 P2] 23)).cell? ⟨w13.heap.size, 1, none⟩ = some (.int .i64 P2) := by go_simp
  have n1 : ¬ bu = w13.heap.size := fun h => by have := World.block_lt_of_cell? _ _ cu1; simp at this; omega
  have n2 : ¬ bv = w13.heap.size := fun h => by have := World.block_lt_of_cell? _ _ cv1; simp at this; omega
  have n3 : ¬ bp = w13.heap.size := fun h => by have := World.block_lt_of_cell? _ _ cp1; simp at this; omega
  have HT14 := Lib.hid (HT3.out.below hF14)
  have hB14 := hB3.trans (hF14.mono hB3.size)
  replace g1 := cell_on hF14 g1
  replace g2 := cell_on hF14 g2
  replace g3 := cell_on hF14 g3
  replace g4 := cell_on hF14 g4
  obtain ⟨Au, cu, hu9, _⟩ := HP14.out.ref.bytes.form
  subst hu9
  have hcr := HP14.out.ref.box.cell
  clear cu1 cu2 cv1 cv2 cp1 cp2 HP13 hF13 b13 hcx1 hcy1
  by_cases hE : E = 0
  case pos =>
    subst hE
    go_wp2_with fail
    generalize w13.alloc (.cells #[.int .i64 P1, .int .i64 P2] 23) = W14 at *
    generalize w13.heap.size = bq at *
    refine wp_held (fun W1 => Below W14.heap.size W14 W1) (by kernel_rfl) ?_
    have hS0 : Below W14.heap.size W14 W14.drew := (Below.refl _ W14).drew
    refine wpAnyH_next (i := 0) (v := .slice Ax (encD p q).length cx) rfl (by kernel_rfl) (by kernel_rfl) (by kernel_rfl) (fun _ _ _ h => h) (by kernel_rfl) (fun W1 hW1 => by first | (go_simp; done)) hS0 (fun a' ha' => ?_)
    simp only [Act.put, List.getElem_toArray, List.setIfInBounds_toArray] at ha'
    subst ha'
    refine wpAnyH_next (i := 1) (v := Str (encD p q)) rfl (by kernel_rfl) (by kernel_rfl) (by kernel_rfl) (fun _ _ _ h => h) (by kernel_rfl) (fun W1 hW1 => by first | (have hc := run_string_bs (P := Tryd.prog) W1 24 9 5 Tryd.underlying24 Tryd.underlying5 Tryd.underlying9 (HX3.out.below (hF14.trans (hW1.mono hF14.size))); go_simp; done)) hS0 (fun a' ha' => ?_)
    simp only [Act.put, List.getElem_toArray] at ha'
    subst ha'
    refine wpAnyH_next (i := 2) (v := .slice Ay (encD p q).length cy) rfl (by kernel_rfl) (by kernel_rfl) (by kernel_rfl) (fun _ _ _ h => h) (by kernel_rfl) (fun W1 hW1 => by first | (go_simp; done)) hS0 (fun a' ha' => ?_)
    simp only [Act.put, List.getElem_toArray] at ha'
    subst ha'
    refine wpAnyH_next (i := 3) (v := Str (encD p q)) rfl (by kernel_rfl) (by kernel_rfl) (by kernel_rfl) (fun _ _ _ h => h) (by kernel_rfl) (fun W1 hW1 => by first | (have hc := run_string_bs (P := Tryd.prog) W1 24 9 5 Tryd.underlying24 Tryd.underlying5 Tryd.underlying9 (HY3.out.below (hF14.trans (hW1.mono hF14.size))); go_simp; done)) hS0 (fun a' ha' => ?_)
    simp only [Act.put, List.getElem_toArray] at ha'
    subst ha'
    refine wpAnyH_next (i := 4) (v := .bool true) rfl (by kernel_rfl) (by kernel_rfl) (by kernel_rfl) (fun _ _ _ h => h) (by kernel_rfl) (fun W1 hW1 => by first | (go_simp; done)) hS0 (fun a' ha' => ?_)
    simp only [Act.put, List.getElem_toArray] at ha'
    subst ha'
    refine wpAnyH_next (i := 5) (v := .bool true) rfl (by kernel_rfl) (by kernel_rfl) (by kernel_rfl) (fun _ _ _ h => h) (by kernel_rfl) (fun W1 hW1 => by first | (go_simp; done)) hS0 (fun a' ha' => ?_)
    simp only [Act.put, List.getElem_toArray] at ha'
    subst ha'
    refine wpAnyH_next (i := 6) (v := .int .i64 (checkD p q)) rfl (by kernel_rfl) (by kernel_rfl) (by kernel_rfl) (fun _ _ _ h => h) (by kernel_rfl) (fun W1 hW1 => by first | (go_simp; done)) hS0 (fun a' ha' => ?_)
    simp only [Act.put, List.getElem_toArray] at ha'
    subst ha'
    refine wpAnyH_next (i := 7) (v := .int .i64 (checkD p q)) rfl (by kernel_rfl) (by kernel_rfl) (by kernel_rfl) (fun _ _ _ h => h) (by kernel_rfl) (fun W1 hW1 => by first | (go_simp; done)) hS0 (fun a' ha' => ?_)
    simp only [Act.put, List.getElem_toArray] at ha'
    subst ha'
    refine wpAnyH_next (i := 8) (v := .bool true) rfl (by kernel_rfl) (by kernel_rfl) (by kernel_rfl) (fun _ _ _ h => h) (by kernel_rfl) (fun W1 hW1 => by first | (go_simp; done)) hS0 (fun a' ha' => ?_)
    simp only [Act.put, List.getElem_toArray] at ha'
    subst ha'
    refine wpAnyH_next (i := 9) (v := .bool true) rfl (by kernel_rfl) (by kernel_rfl) (by kernel_rfl) (fun _ _ _ h => h) (by kernel_rfl) (fun W1 hW1 => by first | (go_simp; done)) hS0 (fun a' ha' => ?_)
    simp only [Act.put, List.getElem_toArray] at ha'
    subst ha'
    refine wpAnyH_next (i := 10) (v := .bool true) rfl (by kernel_rfl) (by kernel_rfl) (by kernel_rfl) (fun _ _ _ h => h) (by kernel_rfl) (fun W1 hW1 => by first | (go_simp; done)) hS0 (fun a' ha' => ?_)
    simp only [Act.put, List.getElem_toArray] at ha'
    subst ha'
    refine wpAnyH_next (i := 11) (v := DotV U1 U2) rfl (by kernel_rfl) (by kernel_rfl) (by kernel_rfl) (fun _ _ _ h => h) (by kernel_rfl) (fun W1 hW1 => by first | (have e1 := cell_on hW1 ku1; have e2 := cell_on hW1 ku2; go_simp; done)) hS0 (fun a' ha' => ?_)
    simp only [Act.put, List.getElem_toArray] at ha'
    subst ha'
    refine wpAnyH_next (i := 12) (v := DotV U1 U2) rfl (by kernel_rfl) (by kernel_rfl) (by kernel_rfl) (fun _ _ _ h => h) (by kernel_rfl) (fun W1 hW1 => by first | (have e1 := cell_on hW1 kv1; have e2 := cell_on hW1 kv2; go_simp; done)) hS0 (fun a' ha' => ?_)
    simp only [Act.put, List.getElem_toArray] at ha'
    subst ha'
    refine wpAnyH_next (i := 13) (v := .bool true) rfl (by kernel_rfl) (by kernel_rfl) (by kernel_rfl) (fun _ _ _ h => h) (by kernel_rfl) (fun W1 hW1 => by first | (go_simp; done)) hS0 (fun a' ha' => ?_)
    simp only [Act.put, List.getElem_toArray] at ha'
    subst ha'
    refine wpAnyH_next (i := 14) (v := .bool true) rfl (by kernel_rfl) (by kernel_rfl) (by kernel_rfl) (fun _ _ _ h => h) (by kernel_rfl) (fun W1 hW1 => by first | (go_simp; done)) hS0 (fun a' ha' => ?_)
    simp only [Act.put, List.getElem_toArray] at ha'
    subst ha'
    refine wpAnyH_next (i := 15) (v := .bool true) rfl (by kernel_rfl) (by kernel_rfl) (by kernel_rfl) (fun _ _ _ h => h) (by kernel_rfl) (fun W1 hW1 => by first | (go_simp; done)) hS0 (fun a' ha' => ?_)
    simp only [Act.put, List.getElem_toArray] at ha'
    subst ha'
    refine wpAnyH_next (i := 16) (v := .int .i64 0) rfl (by kernel_rfl) (by kernel_rfl) (by kernel_rfl) (fun _ _ _ h => h) (by kernel_rfl) (fun W1 hW1 => by first | (go_simp; done)) hS0 (fun a' ha' => ?_)
    simp only [Act.put, List.getElem_toArray] at ha'
    subst ha'
    refine wpAnyH_next (i := 17) (v := .int .i64 0) rfl (by kernel_rfl) (by kernel_rfl) (by kernel_rfl) (fun _ _ _ h => h) (by kernel_rfl) (fun W1 hW1 => by first | (go_simp; done)) hS0 (fun a' ha' => ?_)
    simp only [Act.put, List.getElem_toArray] at ha'
    subst ha'
    refine wpAnyH_next (i := 18) (v := .bool true) rfl (by kernel_rfl) (by kernel_rfl) (by kernel_rfl) (fun _ _ _ h => h) (by kernel_rfl) (fun W1 hW1 => by first | (go_simp; done)) hS0 (fun a' ha' => ?_)
    simp only [Act.put, List.getElem_toArray] at ha'
    subst ha'
    refine wpAnyH_next (i := 19) (v := .bool true) rfl (by kernel_rfl) (by kernel_rfl) (by kernel_rfl) (fun _ _ _ h => h) (by kernel_rfl) (fun W1 hW1 => by first | (go_simp; done)) hS0 (fun a' ha' => ?_)
    simp only [Act.put, List.getElem_toArray] at ha'
    subst ha'
    refine wpAnyH_next (i := 20) (v := .bool true) rfl (by kernel_rfl) (by kernel_rfl) (by kernel_rfl) (fun _ _ _ h => h) (by kernel_rfl) (fun W1 hW1 => by first | (go_simp; done)) hS0 (fun a' ha' => ?_)
    simp only [Act.put, List.getElem_toArray] at ha'
    subst ha'
    refine wpAnyH_next (i := 21) (v := .int .i64 0) rfl (by kernel_rfl) (by kernel_rfl) (by kernel_rfl) (fun _ _ _ h => h) (by kernel_rfl) (fun W1 hW1 => by first | (go_simp; done)) hS0 (fun a' ha' => ?_)
    simp only [Act.put, List.getElem_toArray] at ha'
    subst ha'
    refine wpAnyH_next (i := 22) (v := .bool false) rfl (by kernel_rfl) (by kernel_rfl) (by kernel_rfl) (fun _ _ _ h => h) (by kernel_rfl) (fun W1 hW1 => by first | (go_simp; done)) hS0 (fun a' ha' => ?_)
    simp only [Act.put, List.getElem_toArray] at ha'
    subst ha'
    refine wpAnyH_next (i := 23) (v := .bool false) rfl (by kernel_rfl) (by kernel_rfl) (by kernel_rfl) (fun _ _ _ h => h) (by kernel_rfl) (fun W1 hW1 => by first | (go_simp; done)) hS0 (fun a' ha' => ?_)
    simp only [Act.put, List.getElem_toArray] at ha'
    subst ha'
    refine wpAnyH_next (i := 24) (v := .pointer (some ⟨gs, 0, none⟩)) rfl (by kernel_rfl) (by kernel_rfl) (by kernel_rfl) (fun _ _ _ h => h) (by kernel_rfl) (fun W1 hW1 => by first | (go_simp; done)) hS0 (fun a' ha' => ?_)
    simp only [Act.put, List.getElem_toArray] at ha'
    subst ha'
    refine wpAnyH_next (i := 26) (v := .pointer (some ⟨gr, 0, none⟩)) rfl (by kernel_rfl) (by kernel_rfl) (by kernel_rfl) (fun _ _ _ h => h) (by kernel_rfl) (fun W1 hW1 => by first | (go_simp; done)) hS0 (fun a' ha' => ?_)
    simp only [Act.put, List.getElem_toArray] at ha'
    subst ha'
    refine wpAnyH_next (i := 27) (v := .pointer (some ⟨gr, 0, none⟩)) rfl (by kernel_rfl) (by kernel_rfl) (by kernel_rfl) (fun _ _ _ h => h) (by kernel_rfl) (fun W1 hW1 => by first | (go_simp; done)) hS0 (fun a' ha' => ?_)
    simp only [Act.put, List.getElem_toArray] at ha'
    subst ha'
    refine wpAnyH_next (i := 28) (v := .pointer (some ⟨gr, 0, none⟩)) rfl (by kernel_rfl) (by kernel_rfl) (by kernel_rfl) (fun _ _ _ h => h) (by kernel_rfl) (fun W1 hW1 => by first | (go_simp; done)) hS0 (fun a' ha' => ?_)
    simp only [Act.put, List.getElem_toArray] at ha'
    subst ha'
    refine wpAnyH_next (i := 29) (v := .slice Au xs'.length cu) rfl (by kernel_rfl) (by kernel_rfl) (by kernel_rfl) (fun _ _ _ h => h) (by kernel_rfl) (fun W1 hW1 => by first | (have hc := cell_on hW1 hcr; go_simp; done)) hS0 (fun a' ha' => ?_)
    simp only [Act.put, List.getElem_toArray] at ha'
    subst ha'
    refine wpAnyH_next (i := 30) (v := .int .i64 (xs'.length : Int)) rfl (by kernel_rfl) (by kernel_rfl) (by kernel_rfl) (fun _ _ _ h => h) (by kernel_rfl) (fun W1 hW1 => by first | (go_simp; done)) hS0 (fun a' ha' => ?_)
    simp only [Act.put, List.getElem_toArray] at ha'
    subst ha'
    refine wpAnyH_want (i := 25) (by kernel_rfl) rfl (by kernel_rfl) (fun K hK => ?_)
    unfold Oper.wp
    go_simp
    refine (SrcLeft_any _ gs _ xs' (HP14.out.below hS0).src).mono ?_
    rintro e y1 ⟨rfl, rfl⟩
    have hS1 := hS0
    refine hK _ _ hS1 ?_
    clear hK K
    refine wpAnyH_next (i := 31) (v := .bool true) rfl (by kernel_rfl) (by kernel_rfl) (by kernel_rfl) (fun _ _ _ h => h) (by kernel_rfl) (fun W1 hW1 => by first | (go_simp; done)) hS1 (fun a' ha' => ?_)
    simp only [Act.put, List.getElem_toArray, List.setIfInBounds_toArray] at ha'
    subst ha'
    refine wpAnyH_next (i := 32) (v := .bool true) rfl (by kernel_rfl) (by kernel_rfl) (by kernel_rfl) (fun _ _ _ h => h) (by kernel_rfl) (fun W1 hW1 => by first | (go_simp; done)) hS1 (fun a' ha' => ?_)
    simp only [Act.put, List.getElem_toArray] at ha'
    subst ha'
    refine wpAnyH_next (i := 33) (v := .bool true) rfl (by kernel_rfl) (by kernel_rfl) (by kernel_rfl) (fun _ _ _ h => h) (by kernel_rfl) (fun W1 hW1 => by first | (go_simp; done)) hS1 (fun a' ha' => ?_)
    simp only [Act.put, List.getElem_toArray] at ha'
    subst ha'
    refine wpAnyH_next (i := 34) (v := .bool true) rfl (by kernel_rfl) (by kernel_rfl) (by kernel_rfl) (fun _ _ _ h => h) (by kernel_rfl) (fun W1 hW1 => by first | (go_simp; done)) hS1 (fun a' ha' => ?_)
    simp only [Act.put, List.getElem_toArray] at ha'
    subst ha'
    refine wpAnyH_next (i := 35) (v := DotV P1 P2) rfl (by kernel_rfl) (by kernel_rfl) (by kernel_rfl) (fun _ _ _ h => h) (by kernel_rfl) (fun W1 hW1 => by first | (have e1 := cell_on hW1 kp1; have e2 := cell_on hW1 kp2; go_simp; done)) hS1 (fun a' ha' => ?_)
    simp only [Act.put, List.getElem_toArray] at ha'
    subst ha'
    refine wpAnyH_next (i := 36) (v := DotV P1 P2) rfl (by kernel_rfl) (by kernel_rfl) (by kernel_rfl) (fun _ _ _ h => h) (by kernel_rfl) (fun W1 hW1 => by first | (have e1 := cell_on hW1 kq1; have e2 := cell_on hW1 kq2; go_simp; done)) hS1 (fun a' ha' => ?_)
    simp only [Act.put, List.getElem_toArray] at ha'
    subst ha'
    refine wpAnyH_next (i := 37) (v := .bool true) rfl (by kernel_rfl) (by kernel_rfl) (by kernel_rfl) (fun _ _ _ h => h) (by kernel_rfl) (fun W1 hW1 => by first | (go_simp; done)) hS1 (fun a' ha' => ?_)
    simp only [Act.put, List.getElem_toArray] at ha'
    subst ha'
    refine wpAnyH_next (i := 38) (v := .bool true) rfl (by kernel_rfl) (by kernel_rfl) (by kernel_rfl) (fun _ _ _ h => h) (by kernel_rfl) (fun W1 hW1 => by first | (go_simp; done)) hS1 (fun a' ha' => ?_)
    simp only [Act.put, List.getElem_toArray] at ha'
    subst ha'
    refine wpAnyH_next (i := 39) (v := .bool true) rfl (by kernel_rfl) (by kernel_rfl) (by kernel_rfl) (fun _ _ _ h => h) (by kernel_rfl) (fun W1 hW1 => by first | (go_simp; done)) hS1 (fun a' ha' => ?_)
    simp only [Act.put, List.getElem_toArray] at ha'
    subst ha'
    refine wpAnyH_next (i := 40) (v := .int .i64 E') rfl (by kernel_rfl) (by kernel_rfl) (by kernel_rfl) (fun _ _ _ h => h) (by kernel_rfl) (fun W1 hW1 => by first | (go_simp; done)) hS1 (fun a' ha' => ?_)
    simp only [Act.put, List.getElem_toArray] at ha'
    subst ha'
    refine wpAnyH_next (i := 41) (v := .int .i64 E') rfl (by kernel_rfl) (by kernel_rfl) (by kernel_rfl) (fun _ _ _ h => h) (by kernel_rfl) (fun W1 hW1 => by first | (go_simp; done)) hS1 (fun a' ha' => ?_)
    simp only [Act.put, List.getElem_toArray] at ha'
    subst ha'
    refine wpAnyH_next (i := 42) (v := .bool true) rfl (by kernel_rfl) (by kernel_rfl) (by kernel_rfl) (fun _ _ _ h => h) (by kernel_rfl) (fun W1 hW1 => by first | (go_simp; done)) hS1 (fun a' ha' => ?_)
    simp only [Act.put, List.getElem_toArray] at ha'
    subst ha'
    refine wpAnyH_next (i := 43) (v := .bool true) rfl (by kernel_rfl) (by kernel_rfl) (by kernel_rfl) (fun _ _ _ h => h) (by kernel_rfl) (fun W1 hW1 => by first | (go_simp; done)) hS1 (fun a' ha' => ?_)
    simp only [Act.put, List.getElem_toArray] at ha'
    subst ha'
    refine wpAnyH_next (i := 44) (v := .bool true) rfl (by kernel_rfl) (by kernel_rfl) (by kernel_rfl) (fun _ _ _ h => h) (by kernel_rfl) (fun W1 hW1 => by first | (go_simp; done)) hS1 (fun a' ha' => ?_)
    simp only [Act.put, List.getElem_toArray] at ha'
    subst ha'
    refine wpAnyH_next (i := 45) (v := DotV p q) rfl (by kernel_rfl) (by kernel_rfl) (by kernel_rfl) (fun _ _ _ h => h) (by kernel_rfl) (fun W1 hW1 => by first | (have e1 := cell_on hW1 g1; have e2 := cell_on hW1 g2; go_simp; done)) hS1 (fun a' ha' => ?_)
    simp only [Act.put, List.getElem_toArray] at ha'
    subst ha'
    refine wpAnyH_next (i := 47) (v := DotV p q) rfl (by kernel_rfl) (by kernel_rfl) (by kernel_rfl) (fun _ _ _ h => h) (by kernel_rfl) (fun W1 hW1 => by first | (have e1 := cell_on hW1 g1; have e2 := cell_on hW1 g2; go_simp; done)) hS1 (fun a' ha' => ?_)
    simp only [Act.put, List.getElem_toArray] at ha'
    subst ha'
    refine wpAnyH_want (i := 46) (by kernel_rfl) rfl (by kernel_rfl) (fun K hK => ?_)
    unfold Oper.wp
    go_simp
    refine (pDCheck_any _ p q).mono ?_
    rintro e y2 ⟨rfl, h2⟩
    have hS2 : Below W14.heap.size W14 y2 := hS1.trans (h2.mono hS1.size)
    clear h2
    refine hK _ _ hS2 ?_
    clear hK K
    refine wpAnyH_want (i := 48) (by kernel_rfl) rfl (by kernel_rfl) (fun K hK => ?_)
    unfold Oper.wp
    go_simp
    refine (r5Check_any _ p q).mono ?_
    rintro e y3 ⟨rfl, h3⟩
    have hS3 : Below W14.heap.size W14 y3 := hS2.trans (h3.mono hS2.size)
    clear h3
    refine hK _ _ hS3 ?_
    clear hK K
    refine wpAnyH_next (i := 49) (v := .bool true) rfl (by kernel_rfl) (by kernel_rfl) (by kernel_rfl) (fun _ _ _ h => h) (by kernel_rfl) (fun W1 hW1 => by first | (go_simp; done)) hS3 (fun a' ha' => ?_)
    simp only [Act.put, List.getElem_toArray, List.setIfInBounds_toArray] at ha'
    subst ha'
    refine wpAnyH_next (i := 50) (v := .bool true) rfl (by kernel_rfl) (by kernel_rfl) (by kernel_rfl) (fun _ _ _ h => h) (by kernel_rfl) (fun W1 hW1 => by first | (go_simp; done)) hS3 (fun a' ha' => ?_)
    simp only [Act.put, List.getElem_toArray] at ha'
    subst ha'
    refine wpAnyH_next (i := 51) (v := .bool true) rfl (by kernel_rfl) (by kernel_rfl) (by kernel_rfl) (fun _ _ _ h => h) (by kernel_rfl) (fun W1 hW1 => by first | (go_simp; done)) hS3 (fun a' ha' => ?_)
    simp only [Act.put, List.getElem_toArray] at ha'
    subst ha'
    refine wpAnyH_next (i := 52) (v := DotV p q) rfl (by kernel_rfl) (by kernel_rfl) (by kernel_rfl) (fun _ _ _ h => h) (by kernel_rfl) (fun W1 hW1 => by first | (have e1 := cell_on hW1 g1; have e2 := cell_on hW1 g2; go_simp; done)) hS3 (fun a' ha' => ?_)
    simp only [Act.put, List.getElem_toArray] at ha'
    subst ha'
    refine wpAnyH_next (i := 53) (v := DotV p' q') rfl (by kernel_rfl) (by kernel_rfl) (by kernel_rfl) (fun _ _ _ h => h) (by kernel_rfl) (fun W1 hW1 => by first | (have e1 := cell_on hW1 g3; have e2 := cell_on hW1 g4; go_simp; done)) hS3 (fun a' ha' => ?_)
    simp only [Act.put, List.getElem_toArray] at ha'
    subst ha'
    refine wpAnyH_next (i := 55) (v := DotV p q) rfl (by kernel_rfl) (by kernel_rfl) (by kernel_rfl) (fun _ _ _ h => h) (by kernel_rfl) (fun W1 hW1 => by first | (have e1 := cell_on hW1 g1; have e2 := cell_on hW1 g2; go_simp; done)) hS3 (fun a' ha' => ?_)
    simp only [Act.put, List.getElem_toArray] at ha'
    subst ha'
    refine wpAnyH_next (i := 56) (v := DotV p' q') rfl (by kernel_rfl) (by kernel_rfl) (by kernel_rfl) (fun _ _ _ h => h) (by kernel_rfl) (fun W1 hW1 => by first | (have e1 := cell_on hW1 g3; have e2 := cell_on hW1 g4; go_simp; done)) hS3 (fun a' ha' => ?_)
    simp only [Act.put, List.getElem_toArray] at ha'
    subst ha'
    refine wpAnyH_want (i := 54) (by kernel_rfl) rfl (by kernel_rfl) (fun K hK => ?_)
    unfold Oper.wp
    go_simp
    refine (pDCompare_any _ p q p' q').mono ?_
    rintro e y4 ⟨rfl, h4⟩
    have hS4 : Below W14.heap.size W14 y4 := hS3.trans (h4.mono hS3.size)
    clear h4
    refine hK _ _ hS4 ?_
    clear hK K
    refine wpAnyH_want (i := 57) (by kernel_rfl) rfl (by kernel_rfl) (fun K hK => ?_)
    unfold Oper.wp
    go_simp
    refine (r5Compare_any _ p q p' q').mono ?_
    rintro e y5 ⟨rfl, h5⟩
    have hS5 : Below W14.heap.size W14 y5 := hS4.trans (h5.mono hS4.size)
    clear h5
    refine hK _ _ hS5 ?_
    clear hK K
    refine wpAnyH_next (i := 58) (v := .bool true) rfl (by kernel_rfl) (by kernel_rfl) (by kernel_rfl) (fun _ _ _ h => h) (by kernel_rfl) (fun W1 hW1 => by first | (go_simp; done)) hS5 (fun a' ha' => ?_)
    simp only [Act.put, List.getElem_toArray, List.setIfInBounds_toArray] at ha'
    subst ha'
    refine wpAnyH_next (i := 59) (v := .bool true) rfl (by kernel_rfl) (by kernel_rfl) (by kernel_rfl) (fun _ _ _ h => h) (by kernel_rfl) (fun W1 hW1 => by first | (go_simp; done)) hS5 (fun a' ha' => ?_)
    simp only [Act.put, List.getElem_toArray] at ha'
    subst ha'
    refine wpAnyH_next (i := 60) (v := .bool true) rfl (by kernel_rfl) (by kernel_rfl) (by kernel_rfl) (fun _ _ _ h => h) (by kernel_rfl) (fun W1 hW1 => by first | (go_simp; done)) hS5 (fun a' ha' => ?_)
    simp only [Act.put, List.getElem_toArray] at ha'
    subst ha'
    refine wpAnyH_next (i := 61) (v := DotV p q) rfl (by kernel_rfl) (by kernel_rfl) (by kernel_rfl) (fun _ _ _ h => h) (by kernel_rfl) (fun W1 hW1 => by first | (have e1 := cell_on hW1 g1; have e2 := cell_on hW1 g2; go_simp; done)) hS5 (fun a' ha' => ?_)
    simp only [Act.put, List.getElem_toArray] at ha'
    subst ha'
    refine wpAnyH_next (i := 63) (v := DotV p q) rfl (by kernel_rfl) (by kernel_rfl) (by kernel_rfl) (fun _ _ _ h => h) (by kernel_rfl) (fun W1 hW1 => by first | (have e1 := cell_on hW1 g1; have e2 := cell_on hW1 g2; go_simp; done)) hS5 (fun a' ha' => ?_)
    simp only [Act.put, List.getElem_toArray] at ha'
    subst ha'
    refine wpAnyH_want (i := 62) (by kernel_rfl) rfl (by kernel_rfl) (fun K hK => ?_)
    unfold Oper.wp
    go_simp
    refine (pDText_any _ p q (HT14.out.below hS5)).mono ?_
    rintro e y6 ⟨rfl, h6⟩
    have hS6 : Below W14.heap.size W14 y6 := hS5.trans (h6.mono hS5.size)
    clear h6
    refine hK _ _ hS6 ?_
    clear hK K
    refine wpAnyH_want (i := 64) (by kernel_rfl) rfl (by kernel_rfl) (fun K hK => ?_)
    unfold Oper.wp
    go_simp
    refine (r5Text_any _ p q).mono ?_
    rintro e y7 ⟨rfl, h7⟩
    have hS7 : Below W14.heap.size W14 y7 := hS6.trans (h7.mono hS6.size)
    clear h7
    refine hK _ _ hS7 ?_
    clear hK K
    refine wpAnyH_next (i := 65) (v := .bool true) rfl (by kernel_rfl) (by kernel_rfl) (by kernel_rfl) (fun _ _ _ h => h) (by kernel_rfl) (fun W1 hW1 => by first | (go_simp; done)) hS7 (fun a' ha' => ?_)
    simp only [Act.put, List.getElem_toArray, List.setIfInBounds_toArray] at ha'
    subst ha'
    refine wpAnyH_next (i := 66) (v := .bool true) rfl (by kernel_rfl) (by kernel_rfl) (by kernel_rfl) (fun _ _ _ h => h) (by kernel_rfl) (fun W1 hW1 => by first | (go_simp; done)) hS7 (fun a' ha' => ?_)
    simp only [Act.put, List.getElem_toArray] at ha'
    subst ha'
    refine wpAnyH_next (i := 67) (v := .bool true) rfl (by kernel_rfl) (by kernel_rfl) (by kernel_rfl) (fun _ _ _ h => h) (by kernel_rfl) (fun W1 hW1 => by first | (go_simp; done)) hS7 (fun a' ha' => ?_)
    simp only [Act.put, List.getElem_toArray] at ha'
    subst ha'
    refine wpAnyH_next (i := 68) (v := .slice Ao bs.length co) rfl (by kernel_rfl) (by kernel_rfl) (by kernel_rfl) (fun _ _ _ h => h) (by kernel_rfl) (fun W1 hW1 => by first | (go_simp; done)) hS7 (fun a' ha' => ?_)
    simp only [Act.put, List.getElem_toArray] at ha'
    subst ha'
    refine wpAnyH_next (i := 69) (v := Str bs) rfl (by kernel_rfl) (by kernel_rfl) (by kernel_rfl) (fun _ _ _ h => h) (by kernel_rfl) (fun W1 hW1 => by first | (have hc := run_string_bs (P := Tryd.prog) W1 24 9 5 Tryd.underlying24 Tryd.underlying5 Tryd.underlying9 (HO3.out.below (hF14.trans (hW1.mono hF14.size))); go_simp; done)) hS7 (fun a' ha' => ?_)
    simp only [Act.put, List.getElem_toArray] at ha'
    subst ha'
    refine wpAnyH_next (i := 70) (v := .slice Ab bs.length cb) rfl (by kernel_rfl) (by kernel_rfl) (by kernel_rfl) (fun _ _ _ h => h) (by kernel_rfl) (fun W1 hW1 => by first | (go_simp; done)) hS7 (fun a' ha' => ?_)
    simp only [Act.put, List.getElem_toArray] at ha'
    subst ha'
    refine wpAnyH_next (i := 71) (v := Str bs) rfl (by kernel_rfl) (by kernel_rfl) (by kernel_rfl) (fun _ _ _ h => h) (by kernel_rfl) (fun W1 hW1 => by first | (have hc := run_string_bs (P := Tryd.prog) W1 24 9 5 Tryd.underlying24 Tryd.underlying5 Tryd.underlying9 (HBS.out.below (hF14.trans (hW1.mono hF14.size))); go_simp; done)) hS7 (fun a' ha' => ?_)
    simp only [Act.put, List.getElem_toArray] at ha'
    subst ha'
    refine wpAnyH_next (i := 72) (v := .bool true) rfl (by kernel_rfl) (by kernel_rfl) (by kernel_rfl) (fun _ _ _ h => h) (by kernel_rfl) (fun W1 hW1 => by first | (go_simp; done)) hS7 (fun a' ha' => ?_)
    simp only [Act.put, List.getElem_toArray] at ha'
    subst ha'
    refine wpAnyH_next (i := 73) (v := .bool true) rfl (by kernel_rfl) (by kernel_rfl) (by kernel_rfl) (fun _ _ _ h => h) (by kernel_rfl) (fun W1 hW1 => by first | (go_simp; done)) hS7 (fun a' ha' => ?_)
    simp only [Act.put, List.getElem_toArray] at ha'
    subst ha'
    refine wpAnyH_one (i := 74) (by kernel_rfl) rfl rfl (fun K hK => ?_)
    unfold Oper.wp
    go_simp
    refine hK _ _ hS7 ?_
    clear hK K
    refine wpAnyH_fin (by kernel_rfl) ?_ _
    go_wp2_with fail
    go_ret
    exact ⟨rfl, hB14.trans (hS7.mono hB14.size)⟩
  case neg =>
    have hE1 : (E == 0) = false := by simpa using hE
    have hE2 : (E != 0) = true := by simpa using hE
    go_wp2_with fail
    generalize w13.alloc (.cells #[.int .i64 P1, .int .i64 P2] 23) = W14 at *
    generalize w13.heap.size = bq at *
    refine wp_held (fun W1 => Below W14.heap.size W14 W1) (by kernel_rfl) ?_
    have hS0 : Below W14.heap.size W14 W14.drew := (Below.refl _ W14).drew
    refine wpAnyH_next (i := 0) (v := .slice Ax (encD p q).length cx) rfl (by kernel_rfl) (by kernel_rfl) (by kernel_rfl) (fun _ _ _ h => h) (by kernel_rfl) (fun W1 hW1 => by first | (go_simp; done)) hS0 (fun a' ha' => ?_)
    simp only [Act.put, List.getElem_toArray, List.setIfInBounds_toArray] at ha'
    subst ha'
    refine wpAnyH_next (i := 1) (v := Str (encD p q)) rfl (by kernel_rfl) (by kernel_rfl) (by kernel_rfl) (fun _ _ _ h => h) (by kernel_rfl) (fun W1 hW1 => by first | (have hc := run_string_bs (P := Tryd.prog) W1 24 9 5 Tryd.underlying24 Tryd.underlying5 Tryd.underlying9 (HX3.out.below (hF14.trans (hW1.mono hF14.size))); go_simp; done)) hS0 (fun a' ha' => ?_)
    simp only [Act.put, List.getElem_toArray] at ha'
    subst ha'
    refine wpAnyH_next (i := 2) (v := .slice Ay (encD p q).length cy) rfl (by kernel_rfl) (by kernel_rfl) (by kernel_rfl) (fun _ _ _ h => h) (by kernel_rfl) (fun W1 hW1 => by first | (go_simp; done)) hS0 (fun a' ha' => ?_)
    simp only [Act.put, List.getElem_toArray] at ha'
    subst ha'
    refine wpAnyH_next (i := 3) (v := Str (encD p q)) rfl (by kernel_rfl) (by kernel_rfl) (by kernel_rfl) (fun _ _ _ h => h) (by kernel_rfl) (fun W1 hW1 => by first | (have hc := run_string_bs (P := Tryd.prog) W1 24 9 5 Tryd.underlying24 Tryd.underlying5 Tryd.underlying9 (HY3.out.below (hF14.trans (hW1.mono hF14.size))); go_simp; done)) hS0 (fun a' ha' => ?_)
    simp only [Act.put, List.getElem_toArray] at ha'
    subst ha'
    refine wpAnyH_next (i := 4) (v := .bool true) rfl (by kernel_rfl) (by kernel_rfl) (by kernel_rfl) (fun _ _ _ h => h) (by kernel_rfl) (fun W1 hW1 => by first | (go_simp; done)) hS0 (fun a' ha' => ?_)
    simp only [Act.put, List.getElem_toArray] at ha'
    subst ha'
    refine wpAnyH_next (i := 5) (v := .bool true) rfl (by kernel_rfl) (by kernel_rfl) (by kernel_rfl) (fun _ _ _ h => h) (by kernel_rfl) (fun W1 hW1 => by first | (go_simp; done)) hS0 (fun a' ha' => ?_)
    simp only [Act.put, List.getElem_toArray] at ha'
    subst ha'
    refine wpAnyH_next (i := 6) (v := .int .i64 (checkD p q)) rfl (by kernel_rfl) (by kernel_rfl) (by kernel_rfl) (fun _ _ _ h => h) (by kernel_rfl) (fun W1 hW1 => by first | (go_simp; done)) hS0 (fun a' ha' => ?_)
    simp only [Act.put, List.getElem_toArray] at ha'
    subst ha'
    refine wpAnyH_next (i := 7) (v := .int .i64 (checkD p q)) rfl (by kernel_rfl) (by kernel_rfl) (by kernel_rfl) (fun _ _ _ h => h) (by kernel_rfl) (fun W1 hW1 => by first | (go_simp; done)) hS0 (fun a' ha' => ?_)
    simp only [Act.put, List.getElem_toArray] at ha'
    subst ha'
    refine wpAnyH_next (i := 8) (v := .bool true) rfl (by kernel_rfl) (by kernel_rfl) (by kernel_rfl) (fun _ _ _ h => h) (by kernel_rfl) (fun W1 hW1 => by first | (go_simp; done)) hS0 (fun a' ha' => ?_)
    simp only [Act.put, List.getElem_toArray] at ha'
    subst ha'
    refine wpAnyH_next (i := 9) (v := .bool true) rfl (by kernel_rfl) (by kernel_rfl) (by kernel_rfl) (fun _ _ _ h => h) (by kernel_rfl) (fun W1 hW1 => by first | (go_simp; done)) hS0 (fun a' ha' => ?_)
    simp only [Act.put, List.getElem_toArray] at ha'
    subst ha'
    refine wpAnyH_next (i := 10) (v := .bool true) rfl (by kernel_rfl) (by kernel_rfl) (by kernel_rfl) (fun _ _ _ h => h) (by kernel_rfl) (fun W1 hW1 => by first | (go_simp; done)) hS0 (fun a' ha' => ?_)
    simp only [Act.put, List.getElem_toArray] at ha'
    subst ha'
    refine wpAnyH_next (i := 11) (v := DotV U1 U2) rfl (by kernel_rfl) (by kernel_rfl) (by kernel_rfl) (fun _ _ _ h => h) (by kernel_rfl) (fun W1 hW1 => by first | (have e1 := cell_on hW1 ku1; have e2 := cell_on hW1 ku2; go_simp; done)) hS0 (fun a' ha' => ?_)
    simp only [Act.put, List.getElem_toArray] at ha'
    subst ha'
    refine wpAnyH_next (i := 12) (v := DotV U1 U2) rfl (by kernel_rfl) (by kernel_rfl) (by kernel_rfl) (fun _ _ _ h => h) (by kernel_rfl) (fun W1 hW1 => by first | (have e1 := cell_on hW1 kv1; have e2 := cell_on hW1 kv2; go_simp; done)) hS0 (fun a' ha' => ?_)
    simp only [Act.put, List.getElem_toArray] at ha'
    subst ha'
    refine wpAnyH_next (i := 13) (v := .bool true) rfl (by kernel_rfl) (by kernel_rfl) (by kernel_rfl) (fun _ _ _ h => h) (by kernel_rfl) (fun W1 hW1 => by first | (go_simp; done)) hS0 (fun a' ha' => ?_)
    simp only [Act.put, List.getElem_toArray] at ha'
    subst ha'
    refine wpAnyH_next (i := 14) (v := .bool true) rfl (by kernel_rfl) (by kernel_rfl) (by kernel_rfl) (fun _ _ _ h => h) (by kernel_rfl) (fun W1 hW1 => by first | (go_simp; done)) hS0 (fun a' ha' => ?_)
    simp only [Act.put, List.getElem_toArray] at ha'
    subst ha'
    refine wpAnyH_next (i := 15) (v := .bool true) rfl (by kernel_rfl) (by kernel_rfl) (by kernel_rfl) (fun _ _ _ h => h) (by kernel_rfl) (fun W1 hW1 => by first | (go_simp; done)) hS0 (fun a' ha' => ?_)
    simp only [Act.put, List.getElem_toArray] at ha'
    subst ha'
    refine wpAnyH_next (i := 16) (v := .int .i64 E) rfl (by kernel_rfl) (by kernel_rfl) (by kernel_rfl) (fun _ _ _ h => h) (by kernel_rfl) (fun W1 hW1 => by first | (go_simp; done)) hS0 (fun a' ha' => ?_)
    simp only [Act.put, List.getElem_toArray] at ha'
    subst ha'
    refine wpAnyH_next (i := 17) (v := .int .i64 E) rfl (by kernel_rfl) (by kernel_rfl) (by kernel_rfl) (fun _ _ _ h => h) (by kernel_rfl) (fun W1 hW1 => by first | (go_simp; done)) hS0 (fun a' ha' => ?_)
    simp only [Act.put, List.getElem_toArray] at ha'
    subst ha'
    refine wpAnyH_next (i := 18) (v := .bool true) rfl (by kernel_rfl) (by kernel_rfl) (by kernel_rfl) (fun _ _ _ h => h) (by kernel_rfl) (fun W1 hW1 => by first | (go_simp; done)) hS0 (fun a' ha' => ?_)
    simp only [Act.put, List.getElem_toArray] at ha'
    subst ha'
    refine wpAnyH_next (i := 19) (v := .bool true) rfl (by kernel_rfl) (by kernel_rfl) (by kernel_rfl) (fun _ _ _ h => h) (by kernel_rfl) (fun W1 hW1 => by first | (go_simp; done)) hS0 (fun a' ha' => ?_)
    simp only [Act.put, List.getElem_toArray] at ha'
    subst ha'
    refine wpAnyH_next (i := 20) (v := .bool true) rfl (by kernel_rfl) (by kernel_rfl) (by kernel_rfl) (fun _ _ _ h => h) (by kernel_rfl) (fun W1 hW1 => by first | (go_simp; done)) hS0 (fun a' ha' => ?_)
    simp only [Act.put, List.getElem_toArray] at ha'
    subst ha'
    refine wpAnyH_next (i := 21) (v := .int .i64 E) rfl (by kernel_rfl) (by kernel_rfl) (by kernel_rfl) (fun _ _ _ h => h) (by kernel_rfl) (fun W1 hW1 => by first | (go_simp; done)) hS0 (fun a' ha' => ?_)
    simp only [Act.put, List.getElem_toArray] at ha'
    subst ha'
    refine wpAnyH_next (i := 22) (v := .bool true) rfl (by kernel_rfl) (by kernel_rfl) (by kernel_rfl) (fun _ _ _ h => h) (by kernel_rfl) (fun W1 hW1 => by first | (go_simp; done)) hS0 (fun a' ha' => ?_)
    simp only [Act.put, List.getElem_toArray] at ha'
    subst ha'
    refine wpAnyH_next (i := 23) (v := .bool true) rfl (by kernel_rfl) (by kernel_rfl) (by kernel_rfl) (fun _ _ _ h => h) (by kernel_rfl) (fun W1 hW1 => by first | (go_simp; done)) hS0 (fun a' ha' => ?_)
    simp only [Act.put, List.getElem_toArray] at ha'
    subst ha'
    refine wpAnyH_skip (i := 24) rfl (by kernel_rfl) (by kernel_rfl) (by kernel_rfl) (fun _ _ _ h => h) (by kernel_rfl) hS0 (fun a' ha' => ?_)
    simp only [Act.put, List.getElem_toArray] at ha'
    subst ha'
    refine wpAnyH_skip (i := 26) rfl (by kernel_rfl) (by kernel_rfl) (by kernel_rfl) (fun _ _ _ h => h) (by kernel_rfl) hS0 (fun a' ha' => ?_)
    simp only [Act.put, List.getElem_toArray] at ha'
    subst ha'
    refine wpAnyH_skip (i := 27) rfl (by kernel_rfl) (by kernel_rfl) (by kernel_rfl) (fun _ _ _ h => h) (by kernel_rfl) hS0 (fun a' ha' => ?_)
    simp only [Act.put, List.getElem_toArray] at ha'
    subst ha'
    refine wpAnyH_skip (i := 28) rfl (by kernel_rfl) (by kernel_rfl) (by kernel_rfl) (fun _ _ _ h => h) (by kernel_rfl) hS0 (fun a' ha' => ?_)
    simp only [Act.put, List.getElem_toArray] at ha'
    subst ha'
    refine wpAnyH_skip (i := 29) rfl (by kernel_rfl) (by kernel_rfl) (by kernel_rfl) (fun _ _ _ h => h) (by kernel_rfl) hS0 (fun a' ha' => ?_)
    simp only [Act.put, List.getElem_toArray] at ha'
    subst ha'
    refine wpAnyH_skip (i := 30) rfl (by kernel_rfl) (by kernel_rfl) (by kernel_rfl) (fun _ _ _ h => h) (by kernel_rfl) hS0 (fun a' ha' => ?_)
    simp only [Act.put, List.getElem_toArray] at ha'
    subst ha'
    refine wpAnyH_skip (i := 25) rfl (by kernel_rfl) (by kernel_rfl) (by kernel_rfl) (fun _ _ _ h => h) (by kernel_rfl) hS0 (fun a' ha' => ?_)
    simp only [Act.put, List.getElem_toArray] at ha'
    subst ha'
    refine wpAnyH_skip (i := 31) rfl (by kernel_rfl) (by kernel_rfl) (by kernel_rfl) (fun _ _ _ h => h) (by kernel_rfl) hS0 (fun a' ha' => ?_)
    simp only [Act.put, List.getElem_toArray] at ha'
    subst ha'
    refine wpAnyH_next (i := 32) (v := .bool true) rfl (by kernel_rfl) (by kernel_rfl) (by kernel_rfl) (fun _ _ _ h => h) (by kernel_rfl) (fun W1 hW1 => by first | (go_simp; done)) hS0 (fun a' ha' => ?_)
    simp only [Act.put, List.getElem_toArray] at ha'
    subst ha'
    refine wpAnyH_next (i := 33) (v := .bool true) rfl (by kernel_rfl) (by kernel_rfl) (by kernel_rfl) (fun _ _ _ h => h) (by kernel_rfl) (fun W1 hW1 => by first | (go_simp; done)) hS0 (fun a' ha' => ?_)
    simp only [Act.put, List.getElem_toArray] at ha'
    subst ha'
    refine wpAnyH_next (i := 34) (v := .bool true) rfl (by kernel_rfl) (by kernel_rfl) (by kernel_rfl) (fun _ _ _ h => h) (by kernel_rfl) (fun W1 hW1 => by first | (go_simp; done)) hS0 (fun a' ha' => ?_)
    simp only [Act.put, List.getElem_toArray] at ha'
    subst ha'
    refine wpAnyH_next (i := 35) (v := DotV P1 P2) rfl (by kernel_rfl) (by kernel_rfl) (by kernel_rfl) (fun _ _ _ h => h) (by kernel_rfl) (fun W1 hW1 => by first | (have e1 := cell_on hW1 kp1; have e2 := cell_on hW1 kp2; go_simp; done)) hS0 (fun a' ha' => ?_)
    simp only [Act.put, List.getElem_toArray] at ha'
    subst ha'
    refine wpAnyH_next (i := 36) (v := DotV P1 P2) rfl (by kernel_rfl) (by kernel_rfl) (by kernel_rfl) (fun _ _ _ h => h) (by kernel_rfl) (fun W1 hW1 => by first | (have e1 := cell_on hW1 kq1; have e2 := cell_on hW1 kq2; go_simp; done)) hS0 (fun a' ha' => ?_)
    simp only [Act.put, List.getElem_toArray] at ha'
    subst ha'
    refine wpAnyH_next (i := 37) (v := .bool true) rfl (by kernel_rfl) (by kernel_rfl) (by kernel_rfl) (fun _ _ _ h => h) (by kernel_rfl) (fun W1 hW1 => by first | (go_simp; done)) hS0 (fun a' ha' => ?_)
    simp only [Act.put, List.getElem_toArray] at ha'
    subst ha'
    refine wpAnyH_next (i := 38) (v := .bool true) rfl (by kernel_rfl) (by kernel_rfl) (by kernel_rfl) (fun _ _ _ h => h) (by kernel_rfl) (fun W1 hW1 => by first | (go_simp; done)) hS0 (fun a' ha' => ?_)
    simp only [Act.put, List.getElem_toArray] at ha'
    subst ha'
    refine wpAnyH_next (i := 39) (v := .bool true) rfl (by kernel_rfl) (by kernel_rfl) (by kernel_rfl) (fun _ _ _ h => h) (by kernel_rfl) (fun W1 hW1 => by first | (go_simp; done)) hS0 (fun a' ha' => ?_)
    simp only [Act.put, List.getElem_toArray] at ha'
    subst ha'
    refine wpAnyH_next (i := 40) (v := .int .i64 E') rfl (by kernel_rfl) (by kernel_rfl) (by kernel_rfl) (fun _ _ _ h => h) (by kernel_rfl) (fun W1 hW1 => by first | (go_simp; done)) hS0 (fun a' ha' => ?_)
    simp only [Act.put, List.getElem_toArray] at ha'
    subst ha'
    refine wpAnyH_next (i := 41) (v := .int .i64 E') rfl (by kernel_rfl) (by kernel_rfl) (by kernel_rfl) (fun _ _ _ h => h) (by kernel_rfl) (fun W1 hW1 => by first | (go_simp; done)) hS0 (fun a' ha' => ?_)
    simp only [Act.put, List.getElem_toArray] at ha'
    subst ha'
    refine wpAnyH_next (i := 42) (v := .bool true) rfl (by kernel_rfl) (by kernel_rfl) (by kernel_rfl) (fun _ _ _ h => h) (by kernel_rfl) (fun W1 hW1 => by first | (go_simp; done)) hS0 (fun a' ha' => ?_)
    simp only [Act.put, List.getElem_toArray] at ha'
    subst ha'
    refine wpAnyH_next (i := 43) (v := .bool true) rfl (by kernel_rfl) (by kernel_rfl) (by kernel_rfl) (fun _ _ _ h => h) (by kernel_rfl) (fun W1 hW1 => by first | (go_simp; done)) hS0 (fun a' ha' => ?_)
    simp only [Act.put, List.getElem_toArray] at ha'
    subst ha'
    refine wpAnyH_next (i := 44) (v := .bool true) rfl (by kernel_rfl) (by kernel_rfl) (by kernel_rfl) (fun _ _ _ h => h) (by kernel_rfl) (fun W1 hW1 => by first | (go_simp; done)) hS0 (fun a' ha' => ?_)
    simp only [Act.put, List.getElem_toArray] at ha'
    subst ha'
    refine wpAnyH_next (i := 45) (v := DotV p q) rfl (by kernel_rfl) (by kernel_rfl) (by kernel_rfl) (fun _ _ _ h => h) (by kernel_rfl) (fun W1 hW1 => by first | (have e1 := cell_on hW1 g1; have e2 := cell_on hW1 g2; go_simp; done)) hS0 (fun a' ha' => ?_)
    simp only [Act.put, List.getElem_toArray] at ha'
    subst ha'
    refine wpAnyH_next (i := 47) (v := DotV p q) rfl (by kernel_rfl) (by kernel_rfl) (by kernel_rfl) (fun _ _ _ h => h) (by kernel_rfl) (fun W1 hW1 => by first | (have e1 := cell_on hW1 g1; have e2 := cell_on hW1 g2; go_simp; done)) hS0 (fun a' ha' => ?_)
    simp only [Act.put, List.getElem_toArray] at ha'
    subst ha'
    refine wpAnyH_want (i := 46) (by kernel_rfl) rfl (by kernel_rfl) (fun K hK => ?_)
    unfold Oper.wp
    go_simp
    refine (pDCheck_any _ p q).mono ?_
    rintro e y1 ⟨rfl, h1⟩
    have hS1 : Below W14.heap.size W14 y1 := hS0.trans (h1.mono hS0.size)
    clear h1
    refine hK _ _ hS1 ?_
    clear hK K
    refine wpAnyH_want (i := 48) (by kernel_rfl) rfl (by kernel_rfl) (fun K hK => ?_)
    unfold Oper.wp
    go_simp
    refine (r5Check_any _ p q).mono ?_
    rintro e y2 ⟨rfl, h2⟩
    have hS2 : Below W14.heap.size W14 y2 := hS1.trans (h2.mono hS1.size)
    clear h2
    refine hK _ _ hS2 ?_
    clear hK K
    refine wpAnyH_next (i := 49) (v := .bool true) rfl (by kernel_rfl) (by kernel_rfl) (by kernel_rfl) (fun _ _ _ h => h) (by kernel_rfl) (fun W1 hW1 => by first | (go_simp; done)) hS2 (fun a' ha' => ?_)
    simp only [Act.put, List.getElem_toArray, List.setIfInBounds_toArray] at ha'
    subst ha'
    refine wpAnyH_next (i := 50) (v := .bool true) rfl (by kernel_rfl) (by kernel_rfl) (by kernel_rfl) (fun _ _ _ h => h) (by kernel_rfl) (fun W1 hW1 => by first | (go_simp; done)) hS2 (fun a' ha' => ?_)
    simp only [Act.put, List.getElem_toArray] at ha'
    subst ha'
    refine wpAnyH_next (i := 51) (v := .bool true) rfl (by kernel_rfl) (by kernel_rfl) (by kernel_rfl) (fun _ _ _ h => h) (by kernel_rfl) (fun W1 hW1 => by first | (go_simp; done)) hS2 (fun a' ha' => ?_)
    simp only [Act.put, List.getElem_toArray] at ha'
    subst ha'
    refine wpAnyH_next (i := 52) (v := DotV p q) rfl (by kernel_rfl) (by kernel_rfl) (by kernel_rfl) (fun _ _ _ h => h) (by kernel_rfl) (fun W1 hW1 => by first | (have e1 := cell_on hW1 g1; have e2 := cell_on hW1 g2; go_simp; done)) hS2 (fun a' ha' => ?_)
    simp only [Act.put, List.getElem_toArray] at ha'
    subst ha'
    refine wpAnyH_next (i := 53) (v := DotV p' q') rfl (by kernel_rfl) (by kernel_rfl) (by kernel_rfl) (fun _ _ _ h => h) (by kernel_rfl) (fun W1 hW1 => by first | (have e1 := cell_on hW1 g3; have e2 := cell_on hW1 g4; go_simp; done)) hS2 (fun a' ha' => ?_)
    simp only [Act.put, List.getElem_toArray] at ha'
    subst ha'
    refine wpAnyH_next (i := 55) (v := DotV p q) rfl (by kernel_rfl) (by kernel_rfl) (by kernel_rfl) (fun _ _ _ h => h) (by kernel_rfl) (fun W1 hW1 => by first | (have e1 := cell_on hW1 g1; have e2 := cell_on hW1 g2; go_simp; done)) hS2 (fun a' ha' => ?_)
    simp only [Act.put, List.getElem_toArray] at ha'
    subst ha'
    refine wpAnyH_next (i := 56) (v := DotV p' q') rfl (by kernel_rfl) (by kernel_rfl) (by kernel_rfl) (fun _ _ _ h => h) (by kernel_rfl) (fun W1 hW1 => by first | (have e1 := cell_on hW1 g3; have e2 := cell_on hW1 g4; go_simp; done)) hS2 (fun a' ha' => ?_)
    simp only [Act.put, List.getElem_toArray] at ha'
    subst ha'
    refine wpAnyH_want (i := 54) (by kernel_rfl) rfl (by kernel_rfl) (fun K hK => ?_)
    unfold Oper.wp
    go_simp
    refine (pDCompare_any _ p q p' q').mono ?_
    rintro e y3 ⟨rfl, h3⟩
    have hS3 : Below W14.heap.size W14 y3 := hS2.trans (h3.mono hS2.size)
    clear h3
    refine hK _ _ hS3 ?_
    clear hK K
    refine wpAnyH_want (i := 57) (by kernel_rfl) rfl (by kernel_rfl) (fun K hK => ?_)
    unfold Oper.wp
    go_simp
    refine (r5Compare_any _ p q p' q').mono ?_
    rintro e y4 ⟨rfl, h4⟩
    have hS4 : Below W14.heap.size W14 y4 := hS3.trans (h4.mono hS3.size)
    clear h4
    refine hK _ _ hS4 ?_
    clear hK K
    refine wpAnyH_next (i := 58) (v := .bool true) rfl (by kernel_rfl) (by kernel_rfl) (by kernel_rfl) (fun _ _ _ h => h) (by kernel_rfl) (fun W1 hW1 => by first | (go_simp; done)) hS4 (fun a' ha' => ?_)
    simp only [Act.put, List.getElem_toArray, List.setIfInBounds_toArray] at ha'
    subst ha'
    refine wpAnyH_next (i := 59) (v := .bool true) rfl (by kernel_rfl) (by kernel_rfl) (by kernel_rfl) (fun _ _ _ h => h) (by kernel_rfl) (fun W1 hW1 => by first | (go_simp; done)) hS4 (fun a' ha' => ?_)
    simp only [Act.put, List.getElem_toArray] at ha'
    subst ha'
    refine wpAnyH_next (i := 60) (v := .bool true) rfl (by kernel_rfl) (by kernel_rfl) (by kernel_rfl) (fun _ _ _ h => h) (by kernel_rfl) (fun W1 hW1 => by first | (go_simp; done)) hS4 (fun a' ha' => ?_)
    simp only [Act.put, List.getElem_toArray] at ha'
    subst ha'
    refine wpAnyH_next (i := 61) (v := DotV p q) rfl (by kernel_rfl) (by kernel_rfl) (by kernel_rfl) (fun _ _ _ h => h) (by kernel_rfl) (fun W1 hW1 => by first | (have e1 := cell_on hW1 g1; have e2 := cell_on hW1 g2; go_simp; done)) hS4 (fun a' ha' => ?_)
    simp only [Act.put, List.getElem_toArray] at ha'
    subst ha'
    refine wpAnyH_next (i := 63) (v := DotV p q) rfl (by kernel_rfl) (by kernel_rfl) (by kernel_rfl) (fun _ _ _ h => h) (by kernel_rfl) (fun W1 hW1 => by first | (have e1 := cell_on hW1 g1; have e2 := cell_on hW1 g2; go_simp; done)) hS4 (fun a' ha' => ?_)
    simp only [Act.put, List.getElem_toArray] at ha'
    subst ha'
    refine wpAnyH_want (i := 62) (by kernel_rfl) rfl (by kernel_rfl) (fun K hK => ?_)
    unfold Oper.wp
    go_simp
    refine (pDText_any _ p q (HT14.out.below hS4)).mono ?_
    rintro e y5 ⟨rfl, h5⟩
    have hS5 : Below W14.heap.size W14 y5 := hS4.trans (h5.mono hS4.size)
    clear h5
    refine hK _ _ hS5 ?_
    clear hK K
    refine wpAnyH_want (i := 64) (by kernel_rfl) rfl (by kernel_rfl) (fun K hK => ?_)
    unfold Oper.wp
    go_simp
    refine (r5Text_any _ p q).mono ?_
    rintro e y6 ⟨rfl, h6⟩
    have hS6 : Below W14.heap.size W14 y6 := hS5.trans (h6.mono hS5.size)
    clear h6
    refine hK _ _ hS6 ?_
    clear hK K
    refine wpAnyH_next (i := 65) (v := .bool true) rfl (by kernel_rfl) (by kernel_rfl) (by kernel_rfl) (fun _ _ _ h => h) (by kernel_rfl) (fun W1 hW1 => by first | (go_simp; done)) hS6 (fun a' ha' => ?_)
    simp only [Act.put, List.getElem_toArray, List.setIfInBounds_toArray] at ha'
    subst ha'
    refine wpAnyH_next (i := 66) (v := .bool true) rfl (by kernel_rfl) (by kernel_rfl) (by kernel_rfl) (fun _ _ _ h => h) (by kernel_rfl) (fun W1 hW1 => by first | (go_simp; done)) hS6 (fun a' ha' => ?_)
    simp only [Act.put, List.getElem_toArray] at ha'
    subst ha'
    refine wpAnyH_next (i := 67) (v := .bool true) rfl (by kernel_rfl) (by kernel_rfl) (by kernel_rfl) (fun _ _ _ h => h) (by kernel_rfl) (fun W1 hW1 => by first | (go_simp; done)) hS6 (fun a' ha' => ?_)
    simp only [Act.put, List.getElem_toArray] at ha'
    subst ha'
    refine wpAnyH_next (i := 68) (v := .slice Ao bs.length co) rfl (by kernel_rfl) (by kernel_rfl) (by kernel_rfl) (fun _ _ _ h => h) (by kernel_rfl) (fun W1 hW1 => by first | (go_simp; done)) hS6 (fun a' ha' => ?_)
    simp only [Act.put, List.getElem_toArray] at ha'
    subst ha'
    refine wpAnyH_next (i := 69) (v := Str bs) rfl (by kernel_rfl) (by kernel_rfl) (by kernel_rfl) (fun _ _ _ h => h) (by kernel_rfl) (fun W1 hW1 => by first | (have hc := run_string_bs (P := Tryd.prog) W1 24 9 5 Tryd.underlying24 Tryd.underlying5 Tryd.underlying9 (HO3.out.below (hF14.trans (hW1.mono hF14.size))); go_simp; done)) hS6 (fun a' ha' => ?_)
    simp only [Act.put, List.getElem_toArray] at ha'
    subst ha'
    refine wpAnyH_next (i := 70) (v := .slice Ab bs.length cb) rfl (by kernel_rfl) (by kernel_rfl) (by kernel_rfl) (fun _ _ _ h => h) (by kernel_rfl) (fun W1 hW1 => by first | (go_simp; done)) hS6 (fun a' ha' => ?_)
    simp only [Act.put, List.getElem_toArray] at ha'
    subst ha'
    refine wpAnyH_next (i := 71) (v := Str bs) rfl (by kernel_rfl) (by kernel_rfl) (by kernel_rfl) (fun _ _ _ h => h) (by kernel_rfl) (fun W1 hW1 => by first | (have hc := run_string_bs (P := Tryd.prog) W1 24 9 5 Tryd.underlying24 Tryd.underlying5 Tryd.underlying9 (HBS.out.below (hF14.trans (hW1.mono hF14.size))); go_simp; done)) hS6 (fun a' ha' => ?_)
    simp only [Act.put, List.getElem_toArray] at ha'
    subst ha'
    refine wpAnyH_next (i := 72) (v := .bool true) rfl (by kernel_rfl) (by kernel_rfl) (by kernel_rfl) (fun _ _ _ h => h) (by kernel_rfl) (fun W1 hW1 => by first | (go_simp; done)) hS6 (fun a' ha' => ?_)
    simp only [Act.put, List.getElem_toArray] at ha'
    subst ha'
    refine wpAnyH_next (i := 73) (v := .bool true) rfl (by kernel_rfl) (by kernel_rfl) (by kernel_rfl) (fun _ _ _ h => h) (by kernel_rfl) (fun W1 hW1 => by first | (go_simp; done)) hS6 (fun a' ha' => ?_)
    simp only [Act.put, List.getElem_toArray] at ha'
    subst ha'
    refine wpAnyH_one (i := 74) (by kernel_rfl) rfl rfl (fun K hK => ?_)
    unfold Oper.wp
    go_simp
    refine hK _ _ hS6 ?_
    clear hK K
    refine wpAnyH_fin (by kernel_rfl) ?_ _
    go_wp2_with fail
    go_ret
    exact ⟨rfl, hB14.trans (hS6.mono hB14.size)⟩
end Go.Proofs.YtockdekhdjmklaaDoor
