/- The walk of VectorBack (tools/genvback.py). -/
import Derived.Test.YtbkbogblbniogaaVecDec
import Derived.Test.YtbkbogblbniogaaVecLatticeA
import Derived.Test.YtbkbogblbniogaaLebPair
namespace Go.Proofs.Ytbkbogblbniogaa
open Go.RowKit Go.Great
set_option maxRecDepth 100000

def Lv.bytes (xs : List UInt8) : Lv := ⟨fun v W => Bs W v xs, fun _ _ _ h hb => h.below hb⟩
theorem srcOn {W W' : World} {g : Nat} {v : Value} {xs : List UInt8} (h : SourceAt W g v xs) (hb : Below W.heap.size W W') : SourceAt W' g v xs :=
  h.kept (T := fun _ => False) (Kept.of_below hb (Nat.le_refl _) _) (fun h => h) (fun _ _ h => h)
theorem keptNew {w w' : World} {o : Obj} (k : Kept (· = w.heap.size) (w.alloc o) w') : Below w.heap.size w w' :=
  (((Kept.refl (· = w.heap.size) w).alloc o).same k).below (fun j _ e => by subst e; exact Nat.le_refl _) (Nat.le_refl _)
theorem Bs.belowM6 {w w' : World} {n : Nat} {v : Value} {xs : List UInt8} (h : Bs w v xs) (hb : Below n w w') (hn : xs ≠ [] → ∀ j, v.ownBlock = some j → j < n) : Bs w' v xs :=
  (Kept.of_below' hb).bs1 h (fun hx j hj t => by have := hn hx j hj; omega)
theorem ofV_nil : ofV [] = zeroV := by funext i; rfl

set_option maxHeartbeats 8000000 in
theorem vback_arg (w : World) (v : Vc) (Ab : Option Addr) (cb : Nat) (bs : List UInt8) (hbs : Bs w (.slice Ab bs.length cb) bs) :
    Calls Try.prog 8 #[VecV v, .slice Ab bs.length cb] w fun e W' => e = .returned (.bool true) ∧ Below w.heap.size w W' := by
  obtain ⟨i0, hi, hz0, hz1, hz2⟩ := info_parts infoU8
  obtain ⟨w0, hw0⟩ : ∃ x, x = w.alloc (.cells (encC v).toArray 24) := ⟨_, rfl⟩
  have bV : BoxV w0 w.heap.size v := by rw [hw0]; exact BoxV.new w v
  have hB0 : Below w.heap.size w w0 := by rw [hw0]; exact below_alloc w _
  have HBS := Lib.hid (hbs.below hB0)
  clear hbs
  go_enter Try.func8, Try.ntmps8
  go_wp2_with fail
  rw [← hw0]
  clear hw0
  refine (alive6_any _).mono ?_
  rintro e w1 ⟨rfl, hb1⟩
  replace bV := bV.below hb1
  replace HBS := Lib.hid (HBS.out.below hb1)
  replace hB0 := hB0.trans (hb1.mono hB0.size)
  have HWL : w.heap.size < w1.heap.size := bV.lt
  clear hb1
  by_cases hlen : 200 < bs.length
  case pos =>
    have d1 : (200 : Int) < (bs.length : Int) := by omega
    clear HBS bV
    go_wp2_with fail
    go_ret
    exact ⟨rfl, hB0⟩
  have d1 : ¬ (200 : Int) < (bs.length : Int) := by omega
  have hel := encV_len v
  go_wp2_with (first
    | (refine list_load_vec rfl (.tmp 2) rfl rfl bV.at ?_))
  refine (pVEncode_any w1 v).mono ?_
  rintro e w2 ⟨vE, rfl, hrow, hb2⟩
  obtain ⟨Ae, ne, ce, rfl⟩ := owns_slice hrow
  replace bV := bV.below hb2
  have hbs2 := HBS.out.below hb2
  have hsz2 := hb2.size
  replace hB0 := hB0.trans (hb2.mono hB0.size)
  go_wp2_with (at_builtin; refine wpList_append_bs rfl (.tmp 22) (.tmp 23) 45 rfl w1.heap.size 5 i0 Try.underlying45 hi hz0 hz1 hz2 _ (encV v) rfl hrow _ bs rfl hbs2 (by omega) hsz2 ?_; intro v3 w3 hown3 hg3 _ _ _; obtain ⟨A3, n3, c3, rfl⟩ := owns_slice hown3)
  have hb3 : Below w1.heap.size w2 w3 := (Kept.of_grown hg3).below (fun j _ e => (hrow.lt j e).1) hsz2
  replace bV := bV.belowN hb3 HWL
  have HBS3 := Lib.hid (HBS.out.belowM6 (hb2.trans (hb3.mono (Nat.le_refl _))) (fun hne j hj => HBS.out.lt hne j hj))
  replace hB0 := hB0.trans (hb3.mono (Nat.le_of_lt HWL))
  replace HBS := HBS3
  have HO := Lib.hid (Bs.of_owns hown3)
  clear hb2 hb3 hrow hown3 hg3 hbs2 HBS3 hsz2
  have hV3 : w.heap.size < w3.heap.size := bV.lt
  have HLT := Lib.hid (fun (hne : bs ≠ []) j hj => HBS.out.lt hne j hj)
  refine (From_any w3 _ (encV v ++ bs) HO.out (by simp; omega)).mono ?_
  rintro e w4 ⟨g4, s4, rfl, hat4, hg4, hs4, hW4⟩
  have cd := pVDecode_any w4 g4 s4 (encV v ++ bs) hat4 (by simp; omega)
  rw [decV_enc] at cd
  have CD := Lib.hid cd
  clear cd hat4 hs4 HO
  go_wp2_with fail
  refine CD.out.mono ?_
  rintro e w5 ⟨rfl, s5, hat5, k5, hs5⟩
  have hW5 := hW4.trans (k5.below (B := w3.heap.size) (fun j _ e => by have h : j = g4 := e; omega) hW4.size)
  have H5 := Lib.hid hat5
  have heq := fun W => equal_vec W v v
  rw [decide_eq_true rfl] at heq
  clear hat5 k5 hs5 hW4 CD
  go_wp2_with (first
    | (refine wpList_alloc_vec rfl rfl ?_)
    | (refine wpList_store_vec rfl (.tmp 7) (.tmp 29) rfl rfl (BoxV.new _ zeroV) rfl ?_
       intro w6 b7 k6
       have hb6 := keptNew k6
       have hW6 := hW5.trans (hb6.mono hW5.size)
       have H6 := Lib.hid (srcOn H5.out hb6)
       have bV6 := bV.belowN hW6 hV3
       clear hb6 k6)
    | (refine list_load_vec (by first | rfl | kernel_rfl) (.tmp 7) rfl rfl b7.at ?_)
    | (refine list_load_vec (by first | rfl | kernel_rfl) (.tmp 2) rfl rfl bV6.at ?_))
  refine (SrcLeft_any w6 g4 s5 bs H6.out).mono ?_
  rintro e w6' ⟨rfl, rfl⟩
  have hbs6 := HBS.out.belowM6 hW6 HLT.out
  go_wp2_with fail
  refine (From_any w6 _ bs hbs6 (by omega)).mono ?_
  rintro e w7 ⟨g7, s7, rfl, hat7, hg7, hs7, hb7⟩
  have hW7 := hW6.trans (hb7.mono hW6.size)
  have hg7' : w3.heap.size ≤ g7 := Nat.le_trans hW6.size hg7
  have H7 := Lib.hid hat7
  clear hat7 hs7 hb7 hbs6 H5 H6 b7 bV6 heq hW5
  rcases decV_cases (xs := bs) (by omega) with ⟨x, r, hbr, hd⟩ | ⟨er, r, her, hd, hrl⟩
  · have HLR := Lib.hid (show (encV x).length + r.length = bs.length ∧ bs.take (encV x).length = encV x by rw [hbr]; simp)
    have hex := encV_len x
    have cd := pVDecode_any w7 g7 s7 bs H7.out (by omega)
    rw [hd] at cd
    have CD := Lib.hid cd
    clear cd hd hbr H7
    go_wp2_with fail
    refine CD.out.mono ?_
    rintro e w8 ⟨rfl, s8, hat8, k8, hs8⟩
    have hW8 := hW7.trans (k8.below (B := w3.heap.size) (fun j _ e => by have h : j = g7 := e; omega) hW7.size)
    have H8 := Lib.hid hat8
    clear hat8 k8 hs8 CD
    go_wp2_with (first
      | (refine wpList_alloc_vec rfl rfl ?_)
      | (refine wpList_store_vec rfl (.tmp 10) (.tmp 50) rfl rfl (BoxV.new _ zeroV) rfl ?_
         intro w9 b10 k9
         have hb9 := keptNew k9
         have hW9 := hW8.trans (hb9.mono hW8.size)
         have H9 := Lib.hid (srcOn H8.out hb9)
         have HB9 := Lib.hid (HBS.out.belowM6 hW9 HLT.out)
         clear hb9 k9))
    refine wp_drawn_tail 15 (fun _ => false) (leaves [Lv.val (.bool true), Lv.val (.bool true), Lv.val (VecV x), Lv.bytes (encV x), Lv.val (Str (encV x)), Lv.val (.slice Ab bs.length cb), Lv.val (.slice Ab bs.length cb), Lv.val (.int .i64 (bs.length : Int)), Lv.val (.pointer (some ⟨g7, 0, none⟩)), Lv.val (.int .i64 (r.length : Int)), Lv.val (.int .i64 ((encV x).length : Int)), Lv.val (.slice Ab (encV x).length cb), Lv.val (Str (encV x)), Lv.val (.bool true), Lv.val (.bool true)]) (by kernel_rfl) (leaves_st _) (by simp) (by kernel_rfl) (by kernel_rfl) (by kernel_rfl) (by kernel_rfl) ?_ ?_ ?_
    case refine_1 =>
      intro i o j b hin ho hgd
      match i, ho with
      | 0, ho => cases ho; cases hgd
      | 1, ho => cases ho; cases hgd
      | 2, ho => cases ho; cases hgd; exact .inl fun v w h => h
      | 3, ho => cases ho; cases hgd; exact .inl fun v w h => h
      | 4, ho => cases ho; cases hgd; exact .inl fun v w h => h
      | 5, ho => cases ho; cases hgd; exact .inl fun v w h => h
      | 6, ho => cases ho; cases hgd; exact .inl fun v w h => h
      | 7, ho => cases ho; cases hgd; exact .inl fun v w h => h
      | 8, ho => cases ho; cases hgd; exact .inl fun v w h => h
      | 9, ho => cases ho; cases hgd; exact .inl fun v w h => h
      | 10, ho => cases ho; cases hgd; exact .inl fun v w h => h
      | 11, ho => cases ho; cases hgd; exact .inl fun v w h => h
      | 12, ho => cases ho; cases hgd; exact .inl fun v w h => h
      | 13, ho => cases ho; cases hgd; exact .inl fun v w h => h
      | 14, ho => cases ho; cases hgd
      | i + 15, ho => omega
    case refine_2 =>
      intro i o hin ho hgd ac W hdf hBW hF hD
      match i, ho with
      | 0, ho =>
        cases ho
        have r5 : ac.tmps[5]?.getD undef = (.bool true) := hF 5 (by kernel_rfl)
        unfold Oper.wp
        go_simp
        first | exact ⟨_, rfl, rfl, Below.refl _ _, fun h => by cases h⟩ | exact ⟨_, rfl, rfl, Below.refl _ _⟩
      | 1, ho =>
        cases ho
        have r60 : ac.tmps[60]?.getD undef = (.bool true) := hD 0 (by kernel_rfl)
        unfold Oper.wp
        go_simp
        first | exact ⟨_, rfl, rfl, Below.refl _ _, fun h => by cases h⟩ | exact ⟨_, rfl, rfl, Below.refl _ _⟩
      | 2, ho =>
        cases ho
        have r10 : ac.tmps[10]?.getD undef = (.pointer (some ⟨w8.heap.size, 0, none⟩)) := hF 10 (by kernel_rfl)
        unfold Oper.wp
        rw [exec_load_vec rfl (evT r10) ((b10.below hBW).at)]
        first | exact ⟨_, rfl, rfl, Below.refl _ _, fun h => by cases h⟩ | exact ⟨_, rfl, rfl, Below.refl _ _⟩
      | 3, ho =>
        cases ho
        have r62 : ac.tmps[62]?.getD undef = (VecV x) := hD 2 (by kernel_rfl)
        unfold Oper.wp
        go_simp
        refine (pVEncode_any W x).mono ?_
        rintro e W' ⟨v', rfl, hrow, hb⟩
        first | exact ⟨_, rfl, Bs.of_owns hrow, hb, fun h => by cases h⟩ | exact ⟨_, rfl, Bs.of_owns hrow, hb⟩
      | 4, ho =>
        cases ho
        have r63 : Bs W (ac.tmps[63]?.getD undef) (encV x) := hD 3 (by kernel_rfl)
        obtain ⟨A9, c9, h9, _⟩ := r63.form
        rw [h9] at r63
        have hc := run_string_bs (P := Try.prog) W 45 9 5 Try.underlying45 Try.underlying5 Try.underlying9 r63
        unfold Oper.wp
        go_simp
        first | exact ⟨_, rfl, rfl, Below.refl _ _, fun h => by cases h⟩ | exact ⟨_, rfl, rfl, Below.refl _ _⟩
      | 5, ho =>
        cases ho
        have r1 : ac.tmps[1]?.getD undef = (.slice Ab bs.length cb) := hF 1 (by kernel_rfl)
        unfold Oper.wp
        go_simp
        first | exact ⟨_, rfl, rfl, Below.refl _ _, fun h => by cases h⟩ | exact ⟨_, rfl, rfl, Below.refl _ _⟩
      | 6, ho =>
        cases ho
        have r1 : ac.tmps[1]?.getD undef = (.slice Ab bs.length cb) := hF 1 (by kernel_rfl)
        unfold Oper.wp
        go_simp
        first | exact ⟨_, rfl, rfl, Below.refl _ _, fun h => by cases h⟩ | exact ⟨_, rfl, rfl, Below.refl _ _⟩
      | 7, ho =>
        cases ho
        have r66 : ac.tmps[66]?.getD undef = (.slice Ab bs.length cb) := hD 6 (by kernel_rfl)
        unfold Oper.wp
        go_simp
        first | exact ⟨_, rfl, rfl, Below.refl _ _, fun h => by cases h⟩ | exact ⟨_, rfl, rfl, Below.refl _ _⟩
      | 8, ho =>
        cases ho
        have r9 : ac.tmps[9]?.getD undef = (.pointer (some ⟨g7, 0, none⟩)) := hF 9 (by kernel_rfl)
        unfold Oper.wp
        go_simp
        first | exact ⟨_, rfl, rfl, Below.refl _ _, fun h => by cases h⟩ | exact ⟨_, rfl, rfl, Below.refl _ _⟩
      | 9, ho =>
        cases ho
        have r68 : ac.tmps[68]?.getD undef = (.pointer (some ⟨g7, 0, none⟩)) := hD 8 (by kernel_rfl)
        unfold Oper.wp
        go_simp
        refine (SrcLeft_any W g7 s8 r (srcOn H9.out hBW)).mono ?_
        rintro e W' ⟨rfl, rfl⟩
        first | exact ⟨_, rfl, rfl, Below.refl _ _, fun h => by cases h⟩ | exact ⟨_, rfl, rfl, Below.refl _ _⟩
      | 10, ho =>
        cases ho
        have r67 : ac.tmps[67]?.getD undef = (.int .i64 (bs.length : Int)) := hD 7 (by kernel_rfl)
        have r69 : ac.tmps[69]?.getD undef = (.int .i64 (r.length : Int)) := hD 9 (by kernel_rfl)
        have hsb : (bs.length : Int) - (r.length : Int) = ((encV x).length : Int) := (by have := HLR.out.1; omega)
        have hw9 : IntKind.i64.wrap ((encV x).length : Int) = ((encV x).length : Int) := IntWalk.i64_in _ (by omega)
        unfold Oper.wp
        go_simp
        first | exact ⟨_, rfl, rfl, Below.refl _ _, fun h => by cases h⟩ | exact ⟨_, rfl, rfl, Below.refl _ _⟩
      | 11, ho =>
        cases ho
        have r65 : ac.tmps[65]?.getD undef = (.slice Ab bs.length cb) := hD 5 (by kernel_rfl)
        have r70 : ac.tmps[70]?.getD undef = (.int .i64 ((encV x).length : Int)) := hD 10 (by kernel_rfl)
        have hle9 : (encV x).length ≤ bs.length := (by have := HLR.out.1; omega)
        have hlb9 := HB9.out.len
        have hcb9 : ¬ cb < (encV x).length := (by omega)
        have hcb8 : (encV x).length ≤ cb := (by omega)
        unfold Oper.wp
        go_simp
        first | exact ⟨_, rfl, rfl, Below.refl _ _, fun h => by cases h⟩ | exact ⟨_, rfl, rfl, Below.refl _ _⟩
      | 12, ho =>
        cases ho
        have r71 : ac.tmps[71]?.getD undef = (.slice Ab (encV x).length cb) := hD 11 (by kernel_rfl)
        have htk := ((HB9.out.below hBW).take (k := (encV x).length) (by have := HLR.out.1; omega))
        rw [HLR.out.2] at htk
        have hc := run_string_bs (P := Try.prog) W 45 9 5 Try.underlying45 Try.underlying5 Try.underlying9 htk
        unfold Oper.wp
        go_simp
        first | exact ⟨_, rfl, rfl, Below.refl _ _, fun h => by cases h⟩ | exact ⟨_, rfl, rfl, Below.refl _ _⟩
      | 13, ho =>
        cases ho
        have r64 : ac.tmps[64]?.getD undef = (Str (encV x)) := hD 4 (by kernel_rfl)
        have r72 : ac.tmps[72]?.getD undef = (Str (encV x)) := hD 12 (by kernel_rfl)
        unfold Oper.wp
        go_simp
        first | exact ⟨_, rfl, rfl, Below.refl _ _, fun h => by cases h⟩ | exact ⟨_, rfl, rfl, Below.refl _ _⟩
      | 14, ho =>
        cases ho
        have r61 : ac.tmps[61]?.getD undef = (.bool true) := hD 1 (by kernel_rfl)
        have r73 : ac.tmps[73]?.getD undef = (.bool true) := hD 13 (by kernel_rfl)
        unfold Oper.wp
        go_simp
        first | exact ⟨_, rfl, rfl, Below.refl _ _, fun h => by cases h⟩ | exact ⟨_, rfl, rfl, Below.refl _ _⟩
      | i + 15, ho => omega
    case refine_3 =>
      intro L W hL hBW hSp hap ac ha
      obtain ⟨x0, L0, rfl, hL0⟩ := len_succ hL
      obtain ⟨x1, L1, rfl, hL1⟩ := len_succ hL0
      obtain ⟨x2, L2, rfl, hL2⟩ := len_succ hL1
      obtain ⟨x3, L3, rfl, hL3⟩ := len_succ hL2
      obtain ⟨x4, L4, rfl, hL4⟩ := len_succ hL3
      obtain ⟨x5, L5, rfl, hL5⟩ := len_succ hL4
      obtain ⟨x6, L6, rfl, hL6⟩ := len_succ hL5
      obtain ⟨x7, L7, rfl, hL7⟩ := len_succ hL6
      obtain ⟨x8, L8, rfl, hL8⟩ := len_succ hL7
      obtain ⟨x9, L9, rfl, hL9⟩ := len_succ hL8
      obtain ⟨x10, L10, rfl, hL10⟩ := len_succ hL9
      obtain ⟨x11, L11, rfl, hL11⟩ := len_succ hL10
      obtain ⟨x12, L12, rfl, hL12⟩ := len_succ hL11
      obtain ⟨x13, L13, rfl, hL13⟩ := len_succ hL12
      obtain ⟨x14, L14, rfl, hL14⟩ := len_succ hL13
      obtain rfl := List.eq_nil_of_length_eq_zero hL14
      obtain rfl : x0 = (.bool true) := hSp 0 _ rfl
      obtain rfl : x1 = (.bool true) := hSp 1 _ rfl
      obtain rfl : x2 = (VecV x) := hSp 2 _ rfl
      obtain rfl : x4 = (Str (encV x)) := hSp 4 _ rfl
      obtain rfl : x5 = (.slice Ab bs.length cb) := hSp 5 _ rfl
      obtain rfl : x6 = (.slice Ab bs.length cb) := hSp 6 _ rfl
      obtain rfl : x7 = (.int .i64 (bs.length : Int)) := hSp 7 _ rfl
      obtain rfl : x8 = (.pointer (some ⟨g7, 0, none⟩)) := hSp 8 _ rfl
      obtain rfl : x9 = (.int .i64 (r.length : Int)) := hSp 9 _ rfl
      obtain rfl : x10 = (.int .i64 ((encV x).length : Int)) := hSp 10 _ rfl
      obtain rfl : x11 = (.slice Ab (encV x).length cb) := hSp 11 _ rfl
      obtain rfl : x12 = (Str (encV x)) := hSp 12 _ rfl
      obtain rfl : x13 = (.bool true) := hSp 13 _ rfl
      obtain rfl : x14 = (.bool true) := hSp 14 _ rfl
      simp only [putsL, List.take_succ_cons, List.take_zero, Act.put, List.setIfInBounds_toArray, List.set_cons_succ, List.set_cons_zero] at ha
      subst ha
      simp only [List.drop_succ_cons, List.drop_zero]
      go_wp2_with fail
      go_ret
      exact ⟨rfl, (hB0.trans (hW9.mono hB0.size)).trans (hBW.mono (Nat.le_trans hB0.size hW9.size))⟩
  · have her1 : (er != 0) = true := by simpa using her
    have cd := pVDecode_any w7 g7 s7 bs H7.out (by omega)
    rw [hd] at cd
    have CD := Lib.hid cd
    clear cd hd hrl H7 her
    go_wp2_with fail
    refine CD.out.mono ?_
    rintro e w8 ⟨rfl, s8, hat8, k8, hs8⟩
    have hW8 := hW7.trans (k8.below (B := w3.heap.size) (fun j _ e => by have h : j = g7 := e; omega) hW7.size)
    clear hat8 k8 hs8 CD
    go_wp2_with (first
      | (refine wpList_alloc_vec rfl rfl ?_)
      | (refine wpList_store_vec rfl (.tmp 10) (.tmp 50) rfl rfl (BoxV.new _ zeroV) rfl ?_
         intro w9 b10 k9
         have hb9 := keptNew k9
         have hW9 := hW8.trans (hb9.mono hW8.size)
         clear hb9 k9))
    refine wp_held (fun W1 => Below w9.heap.size w9 W1) (by kernel_rfl) ?_
    have hS0 : Below w9.heap.size w9 w9.drew := (Below.refl _ w9).drew
    refine wpAnyH_next (i := 0) (v := .bool true) rfl (by kernel_rfl) (by kernel_rfl) (by kernel_rfl) (fun _ _ _ h => h) (by kernel_rfl) (fun W1 hW1 => by go_simp; done) hS0 (fun a' ha' => ?_)
    simp only [Act.put, List.getElem_toArray, List.getElem_cons_zero, List.setIfInBounds_toArray, List.set_cons_succ, List.set_cons_zero] at ha'
    subst ha'
    refine wpAnyH_next (i := 1) (v := .bool true) rfl (by kernel_rfl) (by kernel_rfl) (by kernel_rfl) (fun _ _ _ h => h) (by kernel_rfl) (fun W1 hW1 => by go_simp; done) hS0 (fun a' ha' => ?_)
    simp only [Act.put, List.getElem_toArray, List.getElem_cons_succ, List.getElem_cons_zero, List.setIfInBounds_toArray, List.set_cons_succ, List.set_cons_zero] at ha'
    subst ha'
    refine wpAnyH_next (i := 2) (v := VecV zeroV) rfl (by kernel_rfl) (by kernel_rfl) (by kernel_rfl) (fun _ _ _ h => h) (by kernel_rfl) (fun W1 hW1 => by exact exec_load_vec rfl rfl ((b10.below hW1).at)) hS0 (fun a' ha' => ?_)
    simp only [Act.put, List.getElem_toArray, List.getElem_cons_succ, List.getElem_cons_zero, List.setIfInBounds_toArray, List.set_cons_succ, List.set_cons_zero] at ha'
    subst ha'
    refine wpAnyH_want (i := 3) (by kernel_rfl) rfl (by kernel_rfl) (fun K hK => ?_)
    unfold Oper.wp
    go_simp
    refine (of6_any _ _ [] (.inl ⟨rfl, rfl⟩) (by simp)).mono ?_
    rintro e y1 ⟨rfl, hy1⟩
    have hSy1 : Below w9.heap.size w9 y1 := hS0.trans (hy1.mono hS0.size)
    clear hy1
    refine hK _ _ hSy1 ?_
    clear hK K
    refine wpAnyH_next (i := 4) (v := .bool true) rfl (by kernel_rfl) (by kernel_rfl) (by kernel_rfl) (fun _ _ _ h => h) (by kernel_rfl) (fun W1 hW1 => by exact exec_eql_vec rfl rfl rfl (by rw [ofV_nil]; exact decide_eq_true rfl)) hSy1 (fun a' ha' => ?_)
    simp only [Act.put, List.getElem_toArray, List.getElem_cons_succ, List.getElem_cons_zero, List.setIfInBounds_toArray, List.set_cons_succ, List.set_cons_zero] at ha'
    subst ha'
    refine wpAnyH_next (i := 5) (v := .bool true) rfl (by kernel_rfl) (by kernel_rfl) (by kernel_rfl) (fun _ _ _ h => h) (by kernel_rfl) (fun W1 hW1 => by go_simp; done) hSy1 (fun a' ha' => ?_)
    simp only [Act.put, List.getElem_toArray, List.getElem_cons_succ, List.getElem_cons_zero, List.setIfInBounds_toArray, List.set_cons_succ, List.set_cons_zero] at ha'
    subst ha'
    refine wpAnyH_next (i := 6) (v := .bool true) rfl (by kernel_rfl) (by kernel_rfl) (by kernel_rfl) (fun _ _ _ h => h) (by kernel_rfl) (fun W1 hW1 => by go_simp; done) hSy1 (fun a' ha' => ?_)
    simp only [Act.put, List.getElem_toArray, List.getElem_cons_succ, List.getElem_cons_zero, List.setIfInBounds_toArray, List.set_cons_succ, List.set_cons_zero] at ha'
    subst ha'
    refine wpAnyH_fin (by kernel_rfl) ?_ _
    go_wp2_with fail
    go_ret
    exact ⟨rfl, (hB0.trans (hW9.mono hB0.size)).trans (hSy1.mono (Nat.le_trans hB0.size hW9.size))⟩
theorem vback_walk (W : World) (v : Vc) (bv : Value) (bs : List UInt8) (hbs : Bs W bv bs) (_ : bs.length ≤ 9223372036854775807) :
    Calls Try.prog 8 #[VecV v, bv] W fun e W' => e = .returned (.bool true) ∧ Below W.heap.size W W' := by
  obtain ⟨A, cap, rfl, _⟩ := hbs.form
  exact vback_arg W v A cap bs hbs
end Go.Proofs.Ytbkbogblbniogaa
