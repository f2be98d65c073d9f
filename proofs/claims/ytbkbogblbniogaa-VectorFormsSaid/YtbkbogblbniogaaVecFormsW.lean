/- The walk of VectorForms (tools/genvforms.py). -/
import Derived.Test.YtbkbogblbniogaaVecBackW
namespace Go.Proofs.Ytbkbogblbniogaa
open Go.RowKit Go.Great
set_option maxRecDepth 100000

set_option maxHeartbeats 8000000 in
theorem vforms_arg (w : World) (v : Vc) (Ab : Option Addr) (cb : Nat) (bs : List UInt8) (hbs : Bs w (.slice Ab bs.length cb) bs) :
    Calls Try.prog 4 #[VecV v, .slice Ab bs.length cb] w fun e W' => e = .returned (.bool true) ∧ Below w.heap.size w W' := by
  obtain ⟨w0, hw0⟩ : ∃ x, x = w.alloc (.cells (encC v).toArray 24) := ⟨_, rfl⟩
  have bV : BoxV w0 w.heap.size v := by rw [hw0]; exact BoxV.new w v
  have hB0 : Below w.heap.size w w0 := by rw [hw0]; exact below_alloc w _
  have HBS := Lib.hid (hbs.below hB0)
  clear hbs
  by_cases hlen : 200 < bs.length
  case pos =>
    have d1 : (200 : Int) < (bs.length : Int) := by omega
    clear HBS bV
    go_enter Try.func4, Try.ntmps4
    go_wp2_with fail
    go_ret
    exact ⟨rfl, by rw [← hw0]; exact hB0⟩
  have d1 : ¬ (200 : Int) < (bs.length : Int) := by omega
  obtain ⟨de, dv, dr, hd⟩ : ∃ x y z, decV bs = (x, y, z) := ⟨_, _, _, rfl⟩
  have CD1 := Lib.hid (fun W g s (h : SourceAt W g s bs) => pVDecode_any W g s bs h (by omega))
  have CD2 := Lib.hid (fun W g s (h : RefAt W g s bs) => r6Decode_any W g s bs h (by omega))
  rw [hd] at CD1 CD2
  clear hd
  go_enter Try.func4, Try.ntmps4
  go_wp2_with fail
  rw [← hw0]
  clear hw0
  refine (Twin_any w0 _ bs HBS.out (by omega)).mono ?_
  rintro e w1 ⟨vO, rfl, hrow1, hb1⟩
  obtain ⟨Ao, co, rfl, _⟩ := (Bs.of_owns hrow1).form
  have HO := Lib.hid (Bs.of_owns hrow1)
  replace bV := bV.below hb1
  replace HBS := Lib.hid (HBS.out.below hb1)
  replace hB0 := hB0.trans (hb1.mono hB0.size)
  clear hrow1 hb1
  go_wp2_with fail
  refine (From_any w1 _ bs HO.out (by omega)).mono ?_
  rintro e w2 ⟨gs, s2, rfl, hat2, hgs2, hs2, hF2⟩
  have HA2 := Lib.hid hat2
  clear hat2 hs2
  go_wp2_with fail
  refine (Twin_any w2 _ bs (HBS.out.below hF2) (by omega)).mono ?_
  rintro e w3 ⟨rf, rfl, hrow3, h3⟩
  obtain ⟨Ar, cr, rfl, hcr⟩ := (Bs.of_owns hrow3).form
  have hF3 : Below w1.heap.size w1 w3 := hF2.trans (h3.mono hF2.size)
  have hp4 : Pair (w3.alloc (.cells #[.slice Ar bs.length cr] 51)) gs w3.heap.size s2 (.slice Ar bs.length cr) bs bs := by
    have hb4 : Below w2.heap.size w2 (w3.alloc (.cells #[.slice Ar bs.length cr] 51)) := h3.alloc h3.size _
    have hlt2 := HA2.out.box.lt
    have h23 := h3.size
    refine ⟨HA2.out.kept (T := fun _ => False) (Kept.of_below hb4 (Nat.le_refl _) _) (fun h => h) (fun _ _ h => h), ⟨Boxed.new w3 _ _, ((Kept.refl (fun _ => False) w3).alloc _).bs (Bs.of_owns hrow3) (fun _ _ h => h), fun j hj => ?_⟩, by omega, fun e => ?_, fun e => ?_⟩
    · have := hrow3.lt j hj
      simp
      omega
    · have := (HA2.out.row _ e).1
      omega
    · have := (hrow3.lt _ e).1
      omega
  have hF4 : Below w1.heap.size w1 (w3.alloc (.cells #[.slice Ar bs.length cr] 51)) := hF3.alloc hF3.size _
  have hgr : w1.heap.size ≤ w3.heap.size := hF3.size
  have HP4 := Lib.hid hp4
  clear hp4 hrow3 h3 hF2 hF3 HA2
  go_wp2_with fail
  generalize w3.alloc (.cells #[.slice Ar bs.length cr] 51) = w4 at *
  generalize w3.heap.size = gr at *
  refine (CD1.out w4 gs s2 HP4.out.src).mono ?_
  rintro e w5 ⟨rfl, hr5⟩
  have hF5 : Below w1.heap.size w1 w5 := hF4.trans (SourceRead.below hF4.size hgs2 hr5)
  obtain ⟨s5, hp5, _⟩ := HP4.out.reads hr5
  have HP5 := Lib.hid hp5
  have hgr5 : gr < w5.heap.size := HP5.out.ref.box.lt
  clear hp5 hr5 HP4 hF4 CD1
  go_wp2_with (first
    | (refine wpList_alloc_vec rfl rfl ?_)
    | (refine wpList_store_vec rfl (.tmp 8) (.tmp 26) rfl rfl (BoxV.new _ zeroV) rfl ?_
       intro w6 b8 k6
       have hb6 := keptNew k6
       have hF6 := hF5.trans (hb6.mono hF5.size)
       have HP6 := Lib.hid (HP5.out.below hb6)
       clear hb6 k6))
  refine (CD2.out w6 gr _ HP6.out.ref).mono ?_
  rintro e w7 ⟨rfl, hr7⟩
  have hF7 : Below w1.heap.size w1 w7 := hF6.trans (RefRead.below hF6.size hgr hr7)
  have hk7 : Kept (fun j => j = gr) w6 w7 := by obtain ⟨_, _, k, _⟩ := hr7; exact k
  replace b8 := b8.kept hk7 (fun h => by have : w5.heap.size = gr := h; omega)
  obtain ⟨u7, hp7, _⟩ := HP6.out.refs hr7
  have HP7 := Lib.hid hp7
  clear hp7 hr7 HP6 HP5 hF5 hF6 CD2 hk7
  go_wp2_with (first
    | (refine wpList_alloc_vec rfl rfl ?_)
    | (refine wpList_store_vec rfl (.tmp 10) (.tmp 31) rfl rfl (BoxV.new _ zeroV) rfl ?_
       intro w8 b10 k8
       have hb8 := keptNew k8
       have hF8 := hF7.trans (hb8.mono hF7.size)
       have HP8 := Lib.hid (HP7.out.below hb8)
       have b8' := b8.below hb8
       clear hb8 k8))
  have bV8 := bV.belowN hF8 bV.lt
  have HBS8 := Lib.hid (HBS.out.below hF8)
  have HO8 := Lib.hid (HO.out.below hF8)
  have hub := HP8.out.ref.bytes
  obtain ⟨Au, cu, rfl, _⟩ := hub.form
  clear hub HBS HO bV b8 HP7 hF7
  by_cases hde : de = 0
  case pos =>
    subst hde
    refine wp_drawn_tail 38 (fun _ => false) (leaves [Lv.val (VecV v), Lv.bytes (encV v), Lv.val (Str (encV v)), Lv.val (VecV v), Lv.bytes (encV v), Lv.val (Str (encV v)), Lv.val (.bool true), Lv.val (.bool true), Lv.val (VecV dv), Lv.val (VecV dv), Lv.val (.bool true), Lv.val (.bool true), Lv.val (.bool true), Lv.val (.int .i64 0), Lv.val (.int .i64 0), Lv.val (.bool true), Lv.val (.bool true), Lv.val (.bool true), Lv.val (.int .i64 0), Lv.val (.bool false), Lv.val (.bool false), Lv.val (.pointer (some ⟨gs, 0, none⟩)), Lv.val (.int .i64 (dr.length : Int)), Lv.val (.pointer (some ⟨gr, 0, none⟩)), Lv.val (.pointer (some ⟨gr, 0, none⟩)), Lv.val (.pointer (some ⟨gr, 0, none⟩)), Lv.val (.slice Au dr.length cu), Lv.val (.int .i64 (dr.length : Int)), Lv.val (.bool true), Lv.val (.bool true), Lv.val (.bool true), Lv.val (.bool true), Lv.val (.slice Ao bs.length co), Lv.val (Str bs), Lv.val (.slice Ab bs.length cb), Lv.val (Str bs), Lv.val (.bool true), Lv.val (.bool true)]) (by kernel_rfl) (leaves_st _) (by simp) (by kernel_rfl) (by kernel_rfl) (by kernel_rfl) (by kernel_rfl) ?_ ?_ ?_
    case refine_1 =>
      intro i o j b hin ho hgd
      match i, ho with
      | 0, ho => cases ho; cases hgd
      | 1, ho => cases ho; cases hgd
      | 2, ho => cases ho; cases hgd
      | 3, ho => cases ho; cases hgd
      | 4, ho => cases ho; cases hgd
      | 5, ho => cases ho; cases hgd
      | 6, ho => cases ho; cases hgd
      | 7, ho => cases ho; cases hgd
      | 8, ho => cases ho; cases hgd; exact .inl fun v w h => h
      | 9, ho => cases ho; cases hgd; exact .inl fun v w h => h
      | 10, ho => cases ho; cases hgd; exact .inl fun v w h => h
      | 11, ho => cases ho; cases hgd
      | 12, ho => cases ho; cases hgd
      | 13, ho => cases ho; cases hgd; exact .inl fun v w h => h
      | 14, ho => cases ho; cases hgd; exact .inl fun v w h => h
      | 15, ho => cases ho; cases hgd; exact .inl fun v w h => h
      | 16, ho => cases ho; cases hgd
      | 17, ho => cases ho; cases hgd
      | 18, ho => cases ho; cases hgd; exact .inl fun v w h => h
      | 19, ho => cases ho; cases hgd; exact .inl fun v w h => h
      | 20, ho => cases ho; cases hgd; exact .inl fun v w h => h
      | 21, ho => cases ho; cases hgd; exact .inl fun v w h => h
      | 22, ho => cases ho; cases hgd; exact .inl fun v w h => h
      | 23, ho => cases ho; cases hgd; exact .inl fun v w h => h
      | 24, ho => cases ho; cases hgd; exact .inl fun v w h => h
      | 25, ho => cases ho; cases hgd; exact .inl fun v w h => h
      | 26, ho => cases ho; cases hgd; exact .inl fun v w h => h
      | 27, ho => cases ho; cases hgd; exact .inl fun v w h => h
      | 28, ho => cases ho; cases hgd; exact .inl fun v w h => h
      | 29, ho => cases ho; cases hgd; exact .inl fun v w h => h
      | 30, ho => cases ho; cases hgd
      | 31, ho => cases ho; cases hgd
      | 32, ho => cases ho; cases hgd; exact .inl fun v w h => h
      | 33, ho => cases ho; cases hgd; exact .inl fun v w h => h
      | 34, ho => cases ho; cases hgd; exact .inl fun v w h => h
      | 35, ho => cases ho; cases hgd; exact .inl fun v w h => h
      | 36, ho => cases ho; cases hgd; exact .inl fun v w h => h
      | 37, ho => cases ho; cases hgd
      | i + 38, ho => omega
    case refine_2 =>
      intro i o hin ho hgd ac W hdf hBW hF hD
      match i, ho with
      | 0, ho =>
        cases ho
        have r2 : ac.tmps[2]?.getD undef = (.pointer (some ⟨w.heap.size, 0, none⟩)) := hF 2 (by kernel_rfl)
        unfold Oper.wp
        rw [exec_load_vec rfl (evT r2) ((bV8.below hBW).at)]
        first | exact ⟨_, rfl, rfl, Below.refl _ _, fun h => by cases h⟩ | exact ⟨_, rfl, rfl, Below.refl _ _⟩
      | 1, ho =>
        cases ho
        have r33 : ac.tmps[33]?.getD undef = (VecV v) := hD 0 (by kernel_rfl)
        unfold Oper.wp
        go_simp
        refine (pVEncode_any W v).mono ?_
        rintro e W' ⟨v', rfl, hrow, hb⟩
        first | exact ⟨_, rfl, Bs.of_owns hrow, hb, fun h => by cases h⟩ | exact ⟨_, rfl, Bs.of_owns hrow, hb⟩
      | 2, ho =>
        cases ho
        have r34 : Bs W (ac.tmps[34]?.getD undef) (encV v) := hD 1 (by kernel_rfl)
        obtain ⟨A9, c9, h9, _⟩ := r34.form
        rw [h9] at r34
        have hc := run_string_bs (P := Try.prog) W 45 9 5 Try.underlying45 Try.underlying5 Try.underlying9 r34
        unfold Oper.wp
        go_simp
        first | exact ⟨_, rfl, rfl, Below.refl _ _, fun h => by cases h⟩ | exact ⟨_, rfl, rfl, Below.refl _ _⟩
      | 3, ho =>
        cases ho
        have r2 : ac.tmps[2]?.getD undef = (.pointer (some ⟨w.heap.size, 0, none⟩)) := hF 2 (by kernel_rfl)
        unfold Oper.wp
        rw [exec_load_vec rfl (evT r2) ((bV8.below hBW).at)]
        first | exact ⟨_, rfl, rfl, Below.refl _ _, fun h => by cases h⟩ | exact ⟨_, rfl, rfl, Below.refl _ _⟩
      | 4, ho =>
        cases ho
        have r36 : ac.tmps[36]?.getD undef = (VecV v) := hD 3 (by kernel_rfl)
        unfold Oper.wp
        go_simp
        refine (r6Encode_any W v).mono ?_
        rintro e W' ⟨v', rfl, hrow, hb⟩
        first | exact ⟨_, rfl, Bs.of_owns hrow, hb, fun h => by cases h⟩ | exact ⟨_, rfl, Bs.of_owns hrow, hb⟩
      | 5, ho =>
        cases ho
        have r37 : Bs W (ac.tmps[37]?.getD undef) (encV v) := hD 4 (by kernel_rfl)
        obtain ⟨A9, c9, h9, _⟩ := r37.form
        rw [h9] at r37
        have hc := run_string_bs (P := Try.prog) W 45 9 5 Try.underlying45 Try.underlying5 Try.underlying9 r37
        unfold Oper.wp
        go_simp
        first | exact ⟨_, rfl, rfl, Below.refl _ _, fun h => by cases h⟩ | exact ⟨_, rfl, rfl, Below.refl _ _⟩
      | 6, ho =>
        cases ho
        have r35 : ac.tmps[35]?.getD undef = (Str (encV v)) := hD 2 (by kernel_rfl)
        have r38 : ac.tmps[38]?.getD undef = (Str (encV v)) := hD 5 (by kernel_rfl)
        unfold Oper.wp
        go_simp
        first | exact ⟨_, rfl, rfl, Below.refl _ _, fun h => by cases h⟩ | exact ⟨_, rfl, rfl, Below.refl _ _⟩
      | 7, ho =>
        cases ho
        have r39 : ac.tmps[39]?.getD undef = (.bool true) := hD 6 (by kernel_rfl)
        unfold Oper.wp
        go_simp
        first | exact ⟨_, rfl, rfl, Below.refl _ _, fun h => by cases h⟩ | exact ⟨_, rfl, rfl, Below.refl _ _⟩
      | 8, ho =>
        cases ho
        have r8 : ac.tmps[8]?.getD undef = (.pointer (some ⟨w5.heap.size, 0, none⟩)) := hF 8 (by kernel_rfl)
        unfold Oper.wp
        rw [exec_load_vec rfl (evT r8) ((b8'.below hBW).at)]
        first | exact ⟨_, rfl, rfl, Below.refl _ _, fun h => by cases h⟩ | exact ⟨_, rfl, rfl, Below.refl _ _⟩
      | 9, ho =>
        cases ho
        have r10 : ac.tmps[10]?.getD undef = (.pointer (some ⟨w7.heap.size, 0, none⟩)) := hF 10 (by kernel_rfl)
        unfold Oper.wp
        rw [exec_load_vec rfl (evT r10) ((b10.below hBW).at)]
        first | exact ⟨_, rfl, rfl, Below.refl _ _, fun h => by cases h⟩ | exact ⟨_, rfl, rfl, Below.refl _ _⟩
      | 10, ho =>
        cases ho
        have r41 : ac.tmps[41]?.getD undef = (VecV dv) := hD 8 (by kernel_rfl)
        have r42 : ac.tmps[42]?.getD undef = (VecV dv) := hD 9 (by kernel_rfl)
        unfold Oper.wp
        rw [exec_eql_vec rfl (evT r41) (evT r42) (decide_eq_true rfl)]
        first | exact ⟨_, rfl, rfl, Below.refl _ _, fun h => by cases h⟩ | exact ⟨_, rfl, rfl, Below.refl _ _⟩
      | 11, ho =>
        cases ho
        have r40 : ac.tmps[40]?.getD undef = (.bool true) := hD 7 (by kernel_rfl)
        have r43 : ac.tmps[43]?.getD undef = (.bool true) := hD 10 (by kernel_rfl)
        unfold Oper.wp
        go_simp
        first | exact ⟨_, rfl, rfl, Below.refl _ _, fun h => by cases h⟩ | exact ⟨_, rfl, rfl, Below.refl _ _⟩
      | 12, ho =>
        cases ho
        have r44 : ac.tmps[44]?.getD undef = (.bool true) := hD 11 (by kernel_rfl)
        unfold Oper.wp
        go_simp
        first | exact ⟨_, rfl, rfl, Below.refl _ _, fun h => by cases h⟩ | exact ⟨_, rfl, rfl, Below.refl _ _⟩
      | 13, ho =>
        cases ho
        have r9 : ac.tmps[9]?.getD undef = (.int .i64 0) := hF 9 (by kernel_rfl)
        unfold Oper.wp
        go_simp
        first | exact ⟨_, rfl, rfl, Below.refl _ _, fun h => by cases h⟩ | exact ⟨_, rfl, rfl, Below.refl _ _⟩
      | 14, ho =>
        cases ho
        have r11 : ac.tmps[11]?.getD undef = (.int .i64 0) := hF 11 (by kernel_rfl)
        unfold Oper.wp
        go_simp
        first | exact ⟨_, rfl, rfl, Below.refl _ _, fun h => by cases h⟩ | exact ⟨_, rfl, rfl, Below.refl _ _⟩
      | 15, ho =>
        cases ho
        have r46 : ac.tmps[46]?.getD undef = (.int .i64 0) := hD 13 (by kernel_rfl)
        have r47 : ac.tmps[47]?.getD undef = (.int .i64 0) := hD 14 (by kernel_rfl)
        unfold Oper.wp
        go_simp
        first | exact ⟨_, rfl, rfl, Below.refl _ _, fun h => by cases h⟩ | exact ⟨_, rfl, rfl, Below.refl _ _⟩
      | 16, ho =>
        cases ho
        have r45 : ac.tmps[45]?.getD undef = (.bool true) := hD 12 (by kernel_rfl)
        have r48 : ac.tmps[48]?.getD undef = (.bool true) := hD 15 (by kernel_rfl)
        unfold Oper.wp
        go_simp
        first | exact ⟨_, rfl, rfl, Below.refl _ _, fun h => by cases h⟩ | exact ⟨_, rfl, rfl, Below.refl _ _⟩
      | 17, ho =>
        cases ho
        have r49 : ac.tmps[49]?.getD undef = (.bool true) := hD 16 (by kernel_rfl)
        unfold Oper.wp
        go_simp
        first | exact ⟨_, rfl, rfl, Below.refl _ _, fun h => by cases h⟩ | exact ⟨_, rfl, rfl, Below.refl _ _⟩
      | 18, ho =>
        cases ho
        have r11 : ac.tmps[11]?.getD undef = (.int .i64 0) := hF 11 (by kernel_rfl)
        unfold Oper.wp
        go_simp
        first | exact ⟨_, rfl, rfl, Below.refl _ _, fun h => by cases h⟩ | exact ⟨_, rfl, rfl, Below.refl _ _⟩
      | 19, ho =>
        cases ho
        have r51 : ac.tmps[51]?.getD undef = (.int .i64 0) := hD 18 (by kernel_rfl)
        unfold Oper.wp
        go_simp
        first | exact ⟨_, rfl, rfl, Below.refl _ _, fun h => by cases h⟩ | exact ⟨_, rfl, rfl, Below.refl _ _⟩
      | 20, ho =>
        cases ho
        have r52 : ac.tmps[52]?.getD undef = (.bool false) := hD 19 (by kernel_rfl)
        unfold Oper.wp
        go_simp
        first | exact ⟨_, rfl, rfl, Below.refl _ _, fun h => by cases h⟩ | exact ⟨_, rfl, rfl, Below.refl _ _⟩
      | 21, ho =>
        cases ho
        have r6 : ac.tmps[6]?.getD undef = (.pointer (some ⟨gs, 0, none⟩)) := hF 6 (by kernel_rfl)
        unfold Oper.wp
        go_simp
        first | exact ⟨_, rfl, rfl, Below.refl _ _, fun h => by cases h⟩ | exact ⟨_, rfl, rfl, Below.refl _ _⟩
      | 22, ho =>
        cases ho
        have r54 : ac.tmps[54]?.getD undef = (.pointer (some ⟨gs, 0, none⟩)) := hD 21 (by kernel_rfl)
        unfold Oper.wp
        go_simp
        refine (SrcLeft_any W gs s5 dr (HP8.out.below hBW).src).mono ?_
        rintro e W' ⟨rfl, rfl⟩
        first | exact ⟨_, rfl, rfl, Below.refl _ _, fun h => by cases h⟩ | exact ⟨_, rfl, rfl, Below.refl _ _⟩
      | 23, ho =>
        cases ho
        have r7 : ac.tmps[7]?.getD undef = (.pointer (some ⟨gr, 0, none⟩)) := hF 7 (by kernel_rfl)
        unfold Oper.wp
        go_simp
        first | exact ⟨_, rfl, rfl, Below.refl _ _, fun h => by cases h⟩ | exact ⟨_, rfl, rfl, Below.refl _ _⟩
      | 24, ho =>
        cases ho
        have r56 : ac.tmps[56]?.getD undef = (.pointer (some ⟨gr, 0, none⟩)) := hD 23 (by kernel_rfl)
        unfold Oper.wp
        go_simp
        first | exact ⟨_, rfl, rfl, Below.refl _ _, fun h => by cases h⟩ | exact ⟨_, rfl, rfl, Below.refl _ _⟩
      | 25, ho =>
        cases ho
        have r57 : ac.tmps[57]?.getD undef = (.pointer (some ⟨gr, 0, none⟩)) := hD 24 (by kernel_rfl)
        unfold Oper.wp
        go_simp
        first | exact ⟨_, rfl, rfl, Below.refl _ _, fun h => by cases h⟩ | exact ⟨_, rfl, rfl, Below.refl _ _⟩
      | 26, ho =>
        cases ho
        have r58 : ac.tmps[58]?.getD undef = (.pointer (some ⟨gr, 0, none⟩)) := hD 25 (by kernel_rfl)
        have hce := (HP8.out.below hBW).ref.box.cell
        unfold Oper.wp
        go_simp
        first | exact ⟨_, rfl, rfl, Below.refl _ _, fun h => by cases h⟩ | exact ⟨_, rfl, rfl, Below.refl _ _⟩
      | 27, ho =>
        cases ho
        have r59 : ac.tmps[59]?.getD undef = (.slice Au dr.length cu) := hD 26 (by kernel_rfl)
        unfold Oper.wp
        go_simp
        first | exact ⟨_, rfl, rfl, Below.refl _ _, fun h => by cases h⟩ | exact ⟨_, rfl, rfl, Below.refl _ _⟩
      | 28, ho =>
        cases ho
        have r55 : ac.tmps[55]?.getD undef = (.int .i64 (dr.length : Int)) := hD 22 (by kernel_rfl)
        have r60 : ac.tmps[60]?.getD undef = (.int .i64 (dr.length : Int)) := hD 27 (by kernel_rfl)
        unfold Oper.wp
        go_simp
        first | exact ⟨_, rfl, rfl, Below.refl _ _, fun h => by cases h⟩ | exact ⟨_, rfl, rfl, Below.refl _ _⟩
      | 29, ho =>
        cases ho
        have r53 : ac.tmps[53]?.getD undef = (.bool false) := hD 20 (by kernel_rfl)
        have r61 : ac.tmps[61]?.getD undef = (.bool true) := hD 28 (by kernel_rfl)
        unfold Oper.wp
        go_simp
        first | exact ⟨_, rfl, rfl, Below.refl _ _, fun h => by cases h⟩ | exact ⟨_, rfl, rfl, Below.refl _ _⟩
      | 30, ho =>
        cases ho
        have r50 : ac.tmps[50]?.getD undef = (.bool true) := hD 17 (by kernel_rfl)
        have r62 : ac.tmps[62]?.getD undef = (.bool true) := hD 29 (by kernel_rfl)
        unfold Oper.wp
        go_simp
        first | exact ⟨_, rfl, rfl, Below.refl _ _, fun h => by cases h⟩ | exact ⟨_, rfl, rfl, Below.refl _ _⟩
      | 31, ho =>
        cases ho
        have r63 : ac.tmps[63]?.getD undef = (.bool true) := hD 30 (by kernel_rfl)
        unfold Oper.wp
        go_simp
        first | exact ⟨_, rfl, rfl, Below.refl _ _, fun h => by cases h⟩ | exact ⟨_, rfl, rfl, Below.refl _ _⟩
      | 32, ho =>
        cases ho
        have r5 : ac.tmps[5]?.getD undef = (.slice Ao bs.length co) := hF 5 (by kernel_rfl)
        unfold Oper.wp
        go_simp
        first | exact ⟨_, rfl, rfl, Below.refl _ _, fun h => by cases h⟩ | exact ⟨_, rfl, rfl, Below.refl _ _⟩
      | 33, ho =>
        cases ho
        have r65 : ac.tmps[65]?.getD undef = (.slice Ao bs.length co) := hD 32 (by kernel_rfl)
        have hc := run_string_bs (P := Try.prog) W 45 9 5 Try.underlying45 Try.underlying5 Try.underlying9 (HO8.out.below hBW)
        unfold Oper.wp
        go_simp
        first | exact ⟨_, rfl, rfl, Below.refl _ _, fun h => by cases h⟩ | exact ⟨_, rfl, rfl, Below.refl _ _⟩
      | 34, ho =>
        cases ho
        have r1 : ac.tmps[1]?.getD undef = (.slice Ab bs.length cb) := hF 1 (by kernel_rfl)
        unfold Oper.wp
        go_simp
        first | exact ⟨_, rfl, rfl, Below.refl _ _, fun h => by cases h⟩ | exact ⟨_, rfl, rfl, Below.refl _ _⟩
      | 35, ho =>
        cases ho
        have r67 : ac.tmps[67]?.getD undef = (.slice Ab bs.length cb) := hD 34 (by kernel_rfl)
        have hc := run_string_bs (P := Try.prog) W 45 9 5 Try.underlying45 Try.underlying5 Try.underlying9 (HBS8.out.below hBW)
        unfold Oper.wp
        go_simp
        first | exact ⟨_, rfl, rfl, Below.refl _ _, fun h => by cases h⟩ | exact ⟨_, rfl, rfl, Below.refl _ _⟩
      | 36, ho =>
        cases ho
        have r66 : ac.tmps[66]?.getD undef = (Str bs) := hD 33 (by kernel_rfl)
        have r68 : ac.tmps[68]?.getD undef = (Str bs) := hD 35 (by kernel_rfl)
        unfold Oper.wp
        go_simp
        first | exact ⟨_, rfl, rfl, Below.refl _ _, fun h => by cases h⟩ | exact ⟨_, rfl, rfl, Below.refl _ _⟩
      | 37, ho =>
        cases ho
        have r64 : ac.tmps[64]?.getD undef = (.bool true) := hD 31 (by kernel_rfl)
        have r69 : ac.tmps[69]?.getD undef = (.bool true) := hD 36 (by kernel_rfl)
        unfold Oper.wp
        go_simp
        first | exact ⟨_, rfl, rfl, Below.refl _ _, fun h => by cases h⟩ | exact ⟨_, rfl, rfl, Below.refl _ _⟩
      | i + 38, ho => omega
    case refine_3 =>
      intro L W hL hBW hSp hap ac ha
      obtain ⟨x0, L0, rfl, hL0⟩ := len_succ hL
      obtain ⟨x1, L1, rfl, hL1⟩ := len_succ hL0
      obtain ⟨x2, L2, rfl, hL2⟩ := len_succ hL1
      obtain ⟨x3, L3, rfl, hL3⟩ := len_succ hL2
      obtain ⟨x4, L4, rfl, hL4⟩ := len_succ hL3
      obtain ⟨x5, L5, rfl, hL5⟩ := len_succ hL4
      obtain ⟨x6, L6, rfl, hL6⟩ := len_succ hL5
      obtain ⟨x7, L7, rfl, hL7⟩ := len_succ hL6
      obtain ⟨x8, L8, rfl, hL8⟩ := len_succ hL7
      obtain ⟨x9, L9, rfl, hL9⟩ := len_succ hL8
      obtain ⟨x10, L10, rfl, hL10⟩ := len_succ hL9
      obtain ⟨x11, L11, rfl, hL11⟩ := len_succ hL10
      obtain ⟨x12, L12, rfl, hL12⟩ := len_succ hL11
      obtain ⟨x13, L13, rfl, hL13⟩ := len_succ hL12
      obtain ⟨x14, L14, rfl, hL14⟩ := len_succ hL13
      obtain ⟨x15, L15, rfl, hL15⟩ := len_succ hL14
      obtain ⟨x16, L16, rfl, hL16⟩ := len_succ hL15
      obtain ⟨x17, L17, rfl, hL17⟩ := len_succ hL16
      obtain ⟨x18, L18, rfl, hL18⟩ := len_succ hL17
      obtain ⟨x19, L19, rfl, hL19⟩ := len_succ hL18
      obtain ⟨x20, L20, rfl, hL20⟩ := len_succ hL19
      obtain ⟨x21, L21, rfl, hL21⟩ := len_succ hL20
      obtain ⟨x22, L22, rfl, hL22⟩ := len_succ hL21
      obtain ⟨x23, L23, rfl, hL23⟩ := len_succ hL22
      obtain ⟨x24, L24, rfl, hL24⟩ := len_succ hL23
      obtain ⟨x25, L25, rfl, hL25⟩ := len_succ hL24
      obtain ⟨x26, L26, rfl, hL26⟩ := len_succ hL25
      obtain ⟨x27, L27, rfl, hL27⟩ := len_succ hL26
      obtain ⟨x28, L28, rfl, hL28⟩ := len_succ hL27
      obtain ⟨x29, L29, rfl, hL29⟩ := len_succ hL28
      obtain ⟨x30, L30, rfl, hL30⟩ := len_succ hL29
      obtain ⟨x31, L31, rfl, hL31⟩ := len_succ hL30
      obtain ⟨x32, L32, rfl, hL32⟩ := len_succ hL31
      obtain ⟨x33, L33, rfl, hL33⟩ := len_succ hL32
      obtain ⟨x34, L34, rfl, hL34⟩ := len_succ hL33
      obtain ⟨x35, L35, rfl, hL35⟩ := len_succ hL34
      obtain ⟨x36, L36, rfl, hL36⟩ := len_succ hL35
      obtain ⟨x37, L37, rfl, hL37⟩ := len_succ hL36
      obtain rfl := List.eq_nil_of_length_eq_zero hL37
      obtain rfl : x0 = (VecV v) := hSp 0 _ rfl
      obtain rfl : x2 = (Str (encV v)) := hSp 2 _ rfl
      obtain rfl : x3 = (VecV v) := hSp 3 _ rfl
      obtain rfl : x5 = (Str (encV v)) := hSp 5 _ rfl
      obtain rfl : x6 = (.bool true) := hSp 6 _ rfl
      obtain rfl : x7 = (.bool true) := hSp 7 _ rfl
      obtain rfl : x8 = (VecV dv) := hSp 8 _ rfl
      obtain rfl : x9 = (VecV dv) := hSp 9 _ rfl
      obtain rfl : x10 = (.bool true) := hSp 10 _ rfl
      obtain rfl : x11 = (.bool true) := hSp 11 _ rfl
      obtain rfl : x12 = (.bool true) := hSp 12 _ rfl
      obtain rfl : x13 = (.int .i64 0) := hSp 13 _ rfl
      obtain rfl : x14 = (.int .i64 0) := hSp 14 _ rfl
      obtain rfl : x15 = (.bool true) := hSp 15 _ rfl
      obtain rfl : x16 = (.bool true) := hSp 16 _ rfl
      obtain rfl : x17 = (.bool true) := hSp 17 _ rfl
      obtain rfl : x18 = (.int .i64 0) := hSp 18 _ rfl
      obtain rfl : x19 = (.bool false) := hSp 19 _ rfl
      obtain rfl : x20 = (.bool false) := hSp 20 _ rfl
      obtain rfl : x21 = (.pointer (some ⟨gs, 0, none⟩)) := hSp 21 _ rfl
      obtain rfl : x22 = (.int .i64 (dr.length : Int)) := hSp 22 _ rfl
      obtain rfl : x23 = (.pointer (some ⟨gr, 0, none⟩)) := hSp 23 _ rfl
      obtain rfl : x24 = (.pointer (some ⟨gr, 0, none⟩)) := hSp 24 _ rfl
      obtain rfl : x25 = (.pointer (some ⟨gr, 0, none⟩)) := hSp 25 _ rfl
      obtain rfl : x26 = (.slice Au dr.length cu) := hSp 26 _ rfl
      obtain rfl : x27 = (.int .i64 (dr.length : Int)) := hSp 27 _ rfl
      obtain rfl : x28 = (.bool true) := hSp 28 _ rfl
      obtain rfl : x29 = (.bool true) := hSp 29 _ rfl
      obtain rfl : x30 = (.bool true) := hSp 30 _ rfl
      obtain rfl : x31 = (.bool true) := hSp 31 _ rfl
      obtain rfl : x32 = (.slice Ao bs.length co) := hSp 32 _ rfl
      obtain rfl : x33 = (Str bs) := hSp 33 _ rfl
      obtain rfl : x34 = (.slice Ab bs.length cb) := hSp 34 _ rfl
      obtain rfl : x35 = (Str bs) := hSp 35 _ rfl
      obtain rfl : x36 = (.bool true) := hSp 36 _ rfl
      obtain rfl : x37 = (.bool true) := hSp 37 _ rfl
      simp only [putsL, List.take_succ_cons, List.take_zero, Act.put, List.setIfInBounds_toArray, List.set_cons_succ, List.set_cons_zero] at ha
      subst ha
      simp only [List.drop_succ_cons, List.drop_zero]
      go_wp2_with fail
      go_ret
      exact ⟨rfl, (hB0.trans (hF8.mono hB0.size)).trans (hBW.mono (Nat.le_trans hB0.size hF8.size))⟩
  case neg =>
    have hde1 : (de != 0) = true := by simpa using hde
    refine wp_drawn_tail 38 (fun _ => false) (leaves [Lv.val (VecV v), Lv.bytes (encV v), Lv.val (Str (encV v)), Lv.val (VecV v), Lv.bytes (encV v), Lv.val (Str (encV v)), Lv.val (.bool true), Lv.val (.bool true), Lv.val (VecV dv), Lv.val (VecV dv), Lv.val (.bool true), Lv.val (.bool true), Lv.val (.bool true), Lv.val (.int .i64 de), Lv.val (.int .i64 de), Lv.val (.bool true), Lv.val (.bool true), Lv.val (.bool true), Lv.val (.int .i64 de), Lv.val (.bool true), Lv.val (.bool true), Lv.val undef, Lv.val undef, Lv.val undef, Lv.val undef, Lv.val undef, Lv.val undef, Lv.val undef, Lv.val undef, Lv.val (.bool true), Lv.val (.bool true), Lv.val (.bool true), Lv.val (.slice Ao bs.length co), Lv.val (Str bs), Lv.val (.slice Ab bs.length cb), Lv.val (Str bs), Lv.val (.bool true), Lv.val (.bool true)]) (by kernel_rfl) (leaves_st _) (by simp) (by kernel_rfl) (by kernel_rfl) (by kernel_rfl) (by kernel_rfl) ?_ ?_ ?_
    case refine_1 =>
      intro i o j b hin ho hgd
      match i, ho with
      | 0, ho => cases ho; cases hgd
      | 1, ho => cases ho; cases hgd
      | 2, ho => cases ho; cases hgd
      | 3, ho => cases ho; cases hgd
      | 4, ho => cases ho; cases hgd
      | 5, ho => cases ho; cases hgd
      | 6, ho => cases ho; cases hgd
      | 7, ho => cases ho; cases hgd
      | 8, ho => cases ho; cases hgd; exact .inl fun v w h => h
      | 9, ho => cases ho; cases hgd; exact .inl fun v w h => h
      | 10, ho => cases ho; cases hgd; exact .inl fun v w h => h
      | 11, ho => cases ho; cases hgd
      | 12, ho => cases ho; cases hgd
      | 13, ho => cases ho; cases hgd; exact .inl fun v w h => h
      | 14, ho => cases ho; cases hgd; exact .inl fun v w h => h
      | 15, ho => cases ho; cases hgd; exact .inl fun v w h => h
      | 16, ho => cases ho; cases hgd
      | 17, ho => cases ho; cases hgd
      | 18, ho => cases ho; cases hgd; exact .inl fun v w h => h
      | 19, ho => cases ho; cases hgd; exact .inl fun v w h => h
      | 20, ho => cases ho; cases hgd; exact .inl fun v w h => h
      | 21, ho => cases ho; cases hgd; exact .inr ⟨fun v w h => h, fun w => rfl, rfl⟩
      | 22, ho => cases ho; cases hgd; exact .inr ⟨fun v w h => h, fun w => rfl, rfl⟩
      | 23, ho => cases ho; cases hgd; exact .inr ⟨fun v w h => h, fun w => rfl, rfl⟩
      | 24, ho => cases ho; cases hgd; exact .inr ⟨fun v w h => h, fun w => rfl, rfl⟩
      | 25, ho => cases ho; cases hgd; exact .inr ⟨fun v w h => h, fun w => rfl, rfl⟩
      | 26, ho => cases ho; cases hgd; exact .inr ⟨fun v w h => h, fun w => rfl, rfl⟩
      | 27, ho => cases ho; cases hgd; exact .inr ⟨fun v w h => h, fun w => rfl, rfl⟩
      | 28, ho => cases ho; cases hgd; exact .inr ⟨fun v w h => h, fun w => rfl, rfl⟩
      | 29, ho => cases ho; cases hgd; exact .inl fun v w h => h
      | 30, ho => cases ho; cases hgd
      | 31, ho => cases ho; cases hgd
      | 32, ho => cases ho; cases hgd; exact .inl fun v w h => h
      | 33, ho => cases ho; cases hgd; exact .inl fun v w h => h
      | 34, ho => cases ho; cases hgd; exact .inl fun v w h => h
      | 35, ho => cases ho; cases hgd; exact .inl fun v w h => h
      | 36, ho => cases ho; cases hgd; exact .inl fun v w h => h
      | 37, ho => cases ho; cases hgd
      | i + 38, ho => omega
    case refine_2 =>
      intro i o hin ho hgd ac W hdf hBW hF hD
      match i, ho with
      | 0, ho =>
        cases ho
        have r2 : ac.tmps[2]?.getD undef = (.pointer (some ⟨w.heap.size, 0, none⟩)) := hF 2 (by kernel_rfl)
        unfold Oper.wp
        rw [exec_load_vec rfl (evT r2) ((bV8.below hBW).at)]
        first | exact ⟨_, rfl, rfl, Below.refl _ _, fun h => by cases h⟩ | exact ⟨_, rfl, rfl, Below.refl _ _⟩
      | 1, ho =>
        cases ho
        have r33 : ac.tmps[33]?.getD undef = (VecV v) := hD 0 (by kernel_rfl)
        unfold Oper.wp
        go_simp
        refine (pVEncode_any W v).mono ?_
        rintro e W' ⟨v', rfl, hrow, hb⟩
        first | exact ⟨_, rfl, Bs.of_owns hrow, hb, fun h => by cases h⟩ | exact ⟨_, rfl, Bs.of_owns hrow, hb⟩
      | 2, ho =>
        cases ho
        have r34 : Bs W (ac.tmps[34]?.getD undef) (encV v) := hD 1 (by kernel_rfl)
        obtain ⟨A9, c9, h9, _⟩ := r34.form
        rw [h9] at r34
        have hc := run_string_bs (P := Try.prog) W 45 9 5 Try.underlying45 Try.underlying5 Try.underlying9 r34
        unfold Oper.wp
        go_simp
        first | exact ⟨_, rfl, rfl, Below.refl _ _, fun h => by cases h⟩ | exact ⟨_, rfl, rfl, Below.refl _ _⟩
      | 3, ho =>
        cases ho
        have r2 : ac.tmps[2]?.getD undef = (.pointer (some ⟨w.heap.size, 0, none⟩)) := hF 2 (by kernel_rfl)
        unfold Oper.wp
        rw [exec_load_vec rfl (evT r2) ((bV8.below hBW).at)]
        first | exact ⟨_, rfl, rfl, Below.refl _ _, fun h => by cases h⟩ | exact ⟨_, rfl, rfl, Below.refl _ _⟩
      | 4, ho =>
        cases ho
        have r36 : ac.tmps[36]?.getD undef = (VecV v) := hD 3 (by kernel_rfl)
        unfold Oper.wp
        go_simp
        refine (r6Encode_any W v).mono ?_
        rintro e W' ⟨v', rfl, hrow, hb⟩
        first | exact ⟨_, rfl, Bs.of_owns hrow, hb, fun h => by cases h⟩ | exact ⟨_, rfl, Bs.of_owns hrow, hb⟩
      | 5, ho =>
        cases ho
        have r37 : Bs W (ac.tmps[37]?.getD undef) (encV v) := hD 4 (by kernel_rfl)
        obtain ⟨A9, c9, h9, _⟩ := r37.form
        rw [h9] at r37
        have hc := run_string_bs (P := Try.prog) W 45 9 5 Try.underlying45 Try.underlying5 Try.underlying9 r37
        unfold Oper.wp
        go_simp
        first | exact ⟨_, rfl, rfl, Below.refl _ _, fun h => by cases h⟩ | exact ⟨_, rfl, rfl, Below.refl _ _⟩
      | 6, ho =>
        cases ho
        have r35 : ac.tmps[35]?.getD undef = (Str (encV v)) := hD 2 (by kernel_rfl)
        have r38 : ac.tmps[38]?.getD undef = (Str (encV v)) := hD 5 (by kernel_rfl)
        unfold Oper.wp
        go_simp
        first | exact ⟨_, rfl, rfl, Below.refl _ _, fun h => by cases h⟩ | exact ⟨_, rfl, rfl, Below.refl _ _⟩
      | 7, ho =>
        cases ho
        have r39 : ac.tmps[39]?.getD undef = (.bool true) := hD 6 (by kernel_rfl)
        unfold Oper.wp
        go_simp
        first | exact ⟨_, rfl, rfl, Below.refl _ _, fun h => by cases h⟩ | exact ⟨_, rfl, rfl, Below.refl _ _⟩
      | 8, ho =>
        cases ho
        have r8 : ac.tmps[8]?.getD undef = (.pointer (some ⟨w5.heap.size, 0, none⟩)) := hF 8 (by kernel_rfl)
        unfold Oper.wp
        rw [exec_load_vec rfl (evT r8) ((b8'.below hBW).at)]
        first | exact ⟨_, rfl, rfl, Below.refl _ _, fun h => by cases h⟩ | exact ⟨_, rfl, rfl, Below.refl _ _⟩
      | 9, ho =>
        cases ho
        have r10 : ac.tmps[10]?.getD undef = (.pointer (some ⟨w7.heap.size, 0, none⟩)) := hF 10 (by kernel_rfl)
        unfold Oper.wp
        rw [exec_load_vec rfl (evT r10) ((b10.below hBW).at)]
        first | exact ⟨_, rfl, rfl, Below.refl _ _, fun h => by cases h⟩ | exact ⟨_, rfl, rfl, Below.refl _ _⟩
      | 10, ho =>
        cases ho
        have r41 : ac.tmps[41]?.getD undef = (VecV dv) := hD 8 (by kernel_rfl)
        have r42 : ac.tmps[42]?.getD undef = (VecV dv) := hD 9 (by kernel_rfl)
        unfold Oper.wp
        rw [exec_eql_vec rfl (evT r41) (evT r42) (decide_eq_true rfl)]
        first | exact ⟨_, rfl, rfl, Below.refl _ _, fun h => by cases h⟩ | exact ⟨_, rfl, rfl, Below.refl _ _⟩
      | 11, ho =>
        cases ho
        have r40 : ac.tmps[40]?.getD undef = (.bool true) := hD 7 (by kernel_rfl)
        have r43 : ac.tmps[43]?.getD undef = (.bool true) := hD 10 (by kernel_rfl)
        unfold Oper.wp
        go_simp
        first | exact ⟨_, rfl, rfl, Below.refl _ _, fun h => by cases h⟩ | exact ⟨_, rfl, rfl, Below.refl _ _⟩
      | 12, ho =>
        cases ho
        have r44 : ac.tmps[44]?.getD undef = (.bool true) := hD 11 (by kernel_rfl)
        unfold Oper.wp
        go_simp
        first | exact ⟨_, rfl, rfl, Below.refl _ _, fun h => by cases h⟩ | exact ⟨_, rfl, rfl, Below.refl _ _⟩
      | 13, ho =>
        cases ho
        have r9 : ac.tmps[9]?.getD undef = (.int .i64 de) := hF 9 (by kernel_rfl)
        unfold Oper.wp
        go_simp
        first | exact ⟨_, rfl, rfl, Below.refl _ _, fun h => by cases h⟩ | exact ⟨_, rfl, rfl, Below.refl _ _⟩
      | 14, ho =>
        cases ho
        have r11 : ac.tmps[11]?.getD undef = (.int .i64 de) := hF 11 (by kernel_rfl)
        unfold Oper.wp
        go_simp
        first | exact ⟨_, rfl, rfl, Below.refl _ _, fun h => by cases h⟩ | exact ⟨_, rfl, rfl, Below.refl _ _⟩
      | 15, ho =>
        cases ho
        have r46 : ac.tmps[46]?.getD undef = (.int .i64 de) := hD 13 (by kernel_rfl)
        have r47 : ac.tmps[47]?.getD undef = (.int .i64 de) := hD 14 (by kernel_rfl)
        unfold Oper.wp
        go_simp
        first | exact ⟨_, rfl, rfl, Below.refl _ _, fun h => by cases h⟩ | exact ⟨_, rfl, rfl, Below.refl _ _⟩
      | 16, ho =>
        cases ho
        have r45 : ac.tmps[45]?.getD undef = (.bool true) := hD 12 (by kernel_rfl)
        have r48 : ac.tmps[48]?.getD undef = (.bool true) := hD 15 (by kernel_rfl)
        unfold Oper.wp
        go_simp
        first | exact ⟨_, rfl, rfl, Below.refl _ _, fun h => by cases h⟩ | exact ⟨_, rfl, rfl, Below.refl _ _⟩
      | 17, ho =>
        cases ho
        have r49 : ac.tmps[49]?.getD undef = (.bool true) := hD 16 (by kernel_rfl)
        unfold Oper.wp
        go_simp
        first | exact ⟨_, rfl, rfl, Below.refl _ _, fun h => by cases h⟩ | exact ⟨_, rfl, rfl, Below.refl _ _⟩
      | 18, ho =>
        cases ho
        have r11 : ac.tmps[11]?.getD undef = (.int .i64 de) := hF 11 (by kernel_rfl)
        unfold Oper.wp
        go_simp
        first | exact ⟨_, rfl, rfl, Below.refl _ _, fun h => by cases h⟩ | exact ⟨_, rfl, rfl, Below.refl _ _⟩
      | 19, ho =>
        cases ho
        have r51 : ac.tmps[51]?.getD undef = (.int .i64 de) := hD 18 (by kernel_rfl)
        unfold Oper.wp
        go_simp
        first | exact ⟨_, rfl, rfl, Below.refl _ _, fun h => by cases h⟩ | exact ⟨_, rfl, rfl, Below.refl _ _⟩
      | 20, ho =>
        cases ho
        have r52 : ac.tmps[52]?.getD undef = (.bool true) := hD 19 (by kernel_rfl)
        unfold Oper.wp
        go_simp
        first | exact ⟨_, rfl, rfl, Below.refl _ _, fun h => by cases h⟩ | exact ⟨_, rfl, rfl, Below.refl _ _⟩
      | 21, ho =>
        cases ho
        exact absurd (fun v w h => h) (hgd _ _ rfl)
      | 22, ho =>
        cases ho
        exact absurd (fun v w h => h) (hgd _ _ rfl)
      | 23, ho =>
        cases ho
        exact absurd (fun v w h => h) (hgd _ _ rfl)
      | 24, ho =>
        cases ho
        exact absurd (fun v w h => h) (hgd _ _ rfl)
      | 25, ho =>
        cases ho
        exact absurd (fun v w h => h) (hgd _ _ rfl)
      | 26, ho =>
        cases ho
        exact absurd (fun v w h => h) (hgd _ _ rfl)
      | 27, ho =>
        cases ho
        exact absurd (fun v w h => h) (hgd _ _ rfl)
      | 28, ho =>
        cases ho
        exact absurd (fun v w h => h) (hgd _ _ rfl)
      | 29, ho =>
        cases ho
        have r53 : ac.tmps[53]?.getD undef = (.bool true) := hD 20 (by kernel_rfl)
        have r61 : ac.tmps[61]?.getD undef = undef := hD 28 (by kernel_rfl)
        unfold Oper.wp
        go_simp
        first | exact ⟨_, rfl, rfl, Below.refl _ _, fun h => by cases h⟩ | exact ⟨_, rfl, rfl, Below.refl _ _⟩
      | 30, ho =>
        cases ho
        have r50 : ac.tmps[50]?.getD undef = (.bool true) := hD 17 (by kernel_rfl)
        have r62 : ac.tmps[62]?.getD undef = (.bool true) := hD 29 (by kernel_rfl)
        unfold Oper.wp
        go_simp
        first | exact ⟨_, rfl, rfl, Below.refl _ _, fun h => by cases h⟩ | exact ⟨_, rfl, rfl, Below.refl _ _⟩
      | 31, ho =>
        cases ho
        have r63 : ac.tmps[63]?.getD undef = (.bool true) := hD 30 (by kernel_rfl)
        unfold Oper.wp
        go_simp
        first | exact ⟨_, rfl, rfl, Below.refl _ _, fun h => by cases h⟩ | exact ⟨_, rfl, rfl, Below.refl _ _⟩
      | 32, ho =>
        cases ho
        have r5 : ac.tmps[5]?.getD undef = (.slice Ao bs.length co) := hF 5 (by kernel_rfl)
        unfold Oper.wp
        go_simp
        first | exact ⟨_, rfl, rfl, Below.refl _ _, fun h => by cases h⟩ | exact ⟨_, rfl, rfl, Below.refl _ _⟩
      | 33, ho =>
        cases ho
        have r65 : ac.tmps[65]?.getD undef = (.slice Ao bs.length co) := hD 32 (by kernel_rfl)
        have hc := run_string_bs (P := Try.prog) W 45 9 5 Try.underlying45 Try.underlying5 Try.underlying9 (HO8.out.below hBW)
        unfold Oper.wp
        go_simp
        first | exact ⟨_, rfl, rfl, Below.refl _ _, fun h => by cases h⟩ | exact ⟨_, rfl, rfl, Below.refl _ _⟩
      | 34, ho =>
        cases ho
        have r1 : ac.tmps[1]?.getD undef = (.slice Ab bs.length cb) := hF 1 (by kernel_rfl)
        unfold Oper.wp
        go_simp
        first | exact ⟨_, rfl, rfl, Below.refl _ _, fun h => by cases h⟩ | exact ⟨_, rfl, rfl, Below.refl _ _⟩
      | 35, ho =>
        cases ho
        have r67 : ac.tmps[67]?.getD undef = (.slice Ab bs.length cb) := hD 34 (by kernel_rfl)
        have hc := run_string_bs (P := Try.prog) W 45 9 5 Try.underlying45 Try.underlying5 Try.underlying9 (HBS8.out.below hBW)
        unfold Oper.wp
        go_simp
        first | exact ⟨_, rfl, rfl, Below.refl _ _, fun h => by cases h⟩ | exact ⟨_, rfl, rfl, Below.refl _ _⟩
      | 36, ho =>
        cases ho
        have r66 : ac.tmps[66]?.getD undef = (Str bs) := hD 33 (by kernel_rfl)
        have r68 : ac.tmps[68]?.getD undef = (Str bs) := hD 35 (by kernel_rfl)
        unfold Oper.wp
        go_simp
        first | exact ⟨_, rfl, rfl, Below.refl _ _, fun h => by cases h⟩ | exact ⟨_, rfl, rfl, Below.refl _ _⟩
      | 37, ho =>
        cases ho
        have r64 : ac.tmps[64]?.getD undef = (.bool true) := hD 31 (by kernel_rfl)
        have r69 : ac.tmps[69]?.getD undef = (.bool true) := hD 36 (by kernel_rfl)
        unfold Oper.wp
        go_simp
        first | exact ⟨_, rfl, rfl, Below.refl _ _, fun h => by cases h⟩ | exact ⟨_, rfl, rfl, Below.refl _ _⟩
      | i + 38, ho => omega
    case refine_3 =>
      intro L W hL hBW hSp hap ac ha
      obtain ⟨x0, L0, rfl, hL0⟩ := len_succ hL
      obtain ⟨x1, L1, rfl, hL1⟩ := len_succ hL0
      obtain ⟨x2, L2, rfl, hL2⟩ := len_succ hL1
      obtain ⟨x3, L3, rfl, hL3⟩ := len_succ hL2
      obtain ⟨x4, L4, rfl, hL4⟩ := len_succ hL3
      obtain ⟨x5, L5, rfl, hL5⟩ := len_succ hL4
      obtain ⟨x6, L6, rfl, hL6⟩ := len_succ hL5
      obtain ⟨x7, L7, rfl, hL7⟩ := len_succ hL6
      obtain ⟨x8, L8, rfl, hL8⟩ := len_succ hL7
      obtain ⟨x9, L9, rfl, hL9⟩ := len_succ hL8
      obtain ⟨x10, L10, rfl, hL10⟩ := len_succ hL9
      obtain ⟨x11, L11, rfl, hL11⟩ := len_succ hL10
      obtain ⟨x12, L12, rfl, hL12⟩ := len_succ hL11
      obtain ⟨x13, L13, rfl, hL13⟩ := len_succ hL12
      obtain ⟨x14, L14, rfl, hL14⟩ := len_succ hL13
      obtain ⟨x15, L15, rfl, hL15⟩ := len_succ hL14
      obtain ⟨x16, L16, rfl, hL16⟩ := len_succ hL15
      obtain ⟨x17, L17, rfl, hL17⟩ := len_succ hL16
      obtain ⟨x18, L18, rfl, hL18⟩ := len_succ hL17
      obtain ⟨x19, L19, rfl, hL19⟩ := len_succ hL18
      obtain ⟨x20, L20, rfl, hL20⟩ := len_succ hL19
      obtain ⟨x21, L21, rfl, hL21⟩ := len_succ hL20
      obtain ⟨x22, L22, rfl, hL22⟩ := len_succ hL21
      obtain ⟨x23, L23, rfl, hL23⟩ := len_succ hL22
      obtain ⟨x24, L24, rfl, hL24⟩ := len_succ hL23
      obtain ⟨x25, L25, rfl, hL25⟩ := len_succ hL24
      obtain ⟨x26, L26, rfl, hL26⟩ := len_succ hL25
      obtain ⟨x27, L27, rfl, hL27⟩ := len_succ hL26
      obtain ⟨x28, L28, rfl, hL28⟩ := len_succ hL27
      obtain ⟨x29, L29, rfl, hL29⟩ := len_succ hL28
      obtain ⟨x30, L30, rfl, hL30⟩ := len_succ hL29
      obtain ⟨x31, L31, rfl, hL31⟩ := len_succ hL30
      obtain ⟨x32, L32, rfl, hL32⟩ := len_succ hL31
      obtain ⟨x33, L33, rfl, hL33⟩ := len_succ hL32
      obtain ⟨x34, L34, rfl, hL34⟩ := len_succ hL33
      obtain ⟨x35, L35, rfl, hL35⟩ := len_succ hL34
      obtain ⟨x36, L36, rfl, hL36⟩ := len_succ hL35
      obtain ⟨x37, L37, rfl, hL37⟩ := len_succ hL36
      obtain rfl := List.eq_nil_of_length_eq_zero hL37
      obtain rfl : x0 = (VecV v) := hSp 0 _ rfl
      obtain rfl : x2 = (Str (encV v)) := hSp 2 _ rfl
      obtain rfl : x3 = (VecV v) := hSp 3 _ rfl
      obtain rfl : x5 = (Str (encV v)) := hSp 5 _ rfl
      obtain rfl : x6 = (.bool true) := hSp 6 _ rfl
      obtain rfl : x7 = (.bool true) := hSp 7 _ rfl
      obtain rfl : x8 = (VecV dv) := hSp 8 _ rfl
      obtain rfl : x9 = (VecV dv) := hSp 9 _ rfl
      obtain rfl : x10 = (.bool true) := hSp 10 _ rfl
      obtain rfl : x11 = (.bool true) := hSp 11 _ rfl
      obtain rfl : x12 = (.bool true) := hSp 12 _ rfl
      obtain rfl : x13 = (.int .i64 de) := hSp 13 _ rfl
      obtain rfl : x14 = (.int .i64 de) := hSp 14 _ rfl
      obtain rfl : x15 = (.bool true) := hSp 15 _ rfl
      obtain rfl : x16 = (.bool true) := hSp 16 _ rfl
      obtain rfl : x17 = (.bool true) := hSp 17 _ rfl
      obtain rfl : x18 = (.int .i64 de) := hSp 18 _ rfl
      obtain rfl : x19 = (.bool true) := hSp 19 _ rfl
      obtain rfl : x20 = (.bool true) := hSp 20 _ rfl
      obtain rfl : x21 = undef := hSp 21 _ rfl
      obtain rfl : x22 = undef := hSp 22 _ rfl
      obtain rfl : x23 = undef := hSp 23 _ rfl
      obtain rfl : x24 = undef := hSp 24 _ rfl
      obtain rfl : x25 = undef := hSp 25 _ rfl
      obtain rfl : x26 = undef := hSp 26 _ rfl
      obtain rfl : x27 = undef := hSp 27 _ rfl
      obtain rfl : x28 = undef := hSp 28 _ rfl
      obtain rfl : x29 = (.bool true) := hSp 29 _ rfl
      obtain rfl : x30 = (.bool true) := hSp 30 _ rfl
      obtain rfl : x31 = (.bool true) := hSp 31 _ rfl
      obtain rfl : x32 = (.slice Ao bs.length co) := hSp 32 _ rfl
      obtain rfl : x33 = (Str bs) := hSp 33 _ rfl
      obtain rfl : x34 = (.slice Ab bs.length cb) := hSp 34 _ rfl
      obtain rfl : x35 = (Str bs) := hSp 35 _ rfl
      obtain rfl : x36 = (.bool true) := hSp 36 _ rfl
      obtain rfl : x37 = (.bool true) := hSp 37 _ rfl
      simp only [putsL, List.take_succ_cons, List.take_zero, Act.put, List.setIfInBounds_toArray, List.set_cons_succ, List.set_cons_zero] at ha
      subst ha
      simp only [List.drop_succ_cons, List.drop_zero]
      go_wp2_with fail
      go_ret
      exact ⟨rfl, (hB0.trans (hF8.mono hB0.size)).trans (hBW.mono (Nat.le_trans hB0.size hF8.size))⟩
theorem vforms_walk (W : World) (v : Vc) (bv : Value) (bs : List UInt8) (hbs : Bs W bv bs) (_ : bs.length ≤ 9223372036854775807) :
    Calls Try.prog 4 #[VecV v, bv] W fun e W' => e = .returned (.bool true) ∧ Below W.heap.size W W' := by
  obtain ⟨A, cap, rfl, _⟩ := hbs.form
  exact vforms_arg W v A cap bs hbs
end Go.Proofs.Ytbkbogblbniogaa
