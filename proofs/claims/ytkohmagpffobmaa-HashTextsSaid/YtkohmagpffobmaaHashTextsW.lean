/- The walk of HashTexts. -/
import Derived.Test.YtkohmagpffobmaaHashParse
import Derived.Test.YtkohmagpffobmaaDrawnV
import Derived.Deep.Light
namespace Go.Proofs.Ytkohmagpffobmaa
open Go.RowKit Go.Great

theorem below_grow (w : World) (q : Nat) (os : Array Obj) : Below w.heap.size w (Sort.grow (w.drewN q) os) :=
  ⟨rfl, rfl, rfl, by simp [Sort.grow, World.drewN], fun i hi => by
    show (w.heap ++ os)[i]? = w.heap[i]?
    exact Array.getElem?_append_left hi⟩
theorem hCompare_any (w : World) (xs ys : List UInt8) (hx : xs.length = 32) (hy : ys.length = 32) :
    Calls Try.prog 9 #[IdV xs, IdV ys] w fun e W' => e = .returned (.int .i64 (cmpB xs ys)) ∧ Below w.heap.size w W' :=
  (hCompare_grow w xs ys hx hy).mono fun _ _ ⟨he, q, os, hw⟩ => ⟨he, hw ▸ below_grow w q os⟩
theorem eval_tmp {a : Act} {t : Nat} {v : Value} (h : a.tmps[t]?.getD undef = v) : a.eval (.tmp t) = v := by
  rw [← h]
  simp [Act.eval, Array.getD_eq_getD_getElem?]
theorem wp_load_idV {o : Oper} {a : Act} {w : World} {K : Act → World → Prop} {Q : Exit → Act → World → Prop} {x : Operand} (ho : o.op = .load 23 x) {b off : Nat} (hx : a.eval x = .pointer (some ⟨b, off, none⟩)) {xs : List UInt8} (h32 : xs.length = 32) (hat : IdAt w b off xs)
    (h : K (a.put o.dst (IdV xs)) w) : o.wp Try.prog a w K Q := by
  unfold Oper.wp
  rw [exec_load_id ho hx h32 hat]
  exact h
theorem parseB_length : ∀ (s xs : List UInt8), parseB s = some xs → 2 * xs.length = s.length := by
  intro s
  induction s using parseB.induct with
  | case1 a b r h => intro xs hx; rw [parseB, if_pos h] at hx; cases hx
  | case2 a b r h ih =>
    intro xs hx
    rw [parseB, if_neg h] at hx
    obtain ⟨ys, hy, rfl⟩ := Option.map_eq_some_iff.1 hx
    have := ih ys hy
    simp only [List.length_cons]
    omega
  | case3 => intro xs hx; cases hx; rfl
  | case4 a => intro xs hx; cases hx
theorem parseR_length (s : List UInt8) : (parseR s).2.length = 32 := by
  unfold parseR
  split
  · next h =>
    split
    · next xs hx => have := parseB_length s xs hx; show xs.length = 32; omega
    · exact zeroID_length
  · exact zeroID_length

set_option maxRecDepth 100000 in
set_option maxHeartbeats 2000000 in
theorem texts_some (w : World) (xs ys s : List UInt8) (hx : xs.length = 32) (hy : ys.length = 32) (hs : s.length ≤ 100) :
    Calls Try.prog 3 #[IdV xs, IdV ys, Str s] w fun e W' => e = .returned (.bool true) ∧ Below w.heap.size w W' := by
  have hsz : (⟨s.toArray⟩ : ByteArray).size = s.length := by simp [ByteArray.size]
  have b1 := IdAt.box w xs 23
  have b2 := IdAt.box (w.alloc (.cells (xs.map B8).toArray 23)) ys 23
  have b1' := b1.below ((Below.refl _ _).alloc (Nat.le_refl _) (.cells (ys.map B8).toArray 23))
  have hB0 : Below w.heap.size w ((w.alloc (.cells (xs.map B8).toArray 23)).alloc (.cells (ys.map B8).toArray 23)) := ((Below.refl _ w).alloc (Nat.le_refl _) _).alloc (by simp) _
  have hs2 : ((w.alloc (.cells (xs.map B8).toArray 23)).alloc (.cells (ys.map B8).toArray 23)).heap.size = w.heap.size + 2 := by simp
  rw [World.size_alloc] at b2
  have hR := parseR_length s
  go_enter Try.func3, Try.ntmps3
  go_wp2_with fail
  generalize (w.alloc (.cells (xs.map B8).toArray 23)).alloc (.cells (ys.map B8).toArray 23) = w2 at *
  clear b1
  refine (hParse_any w2 s).mono ?_
  rintro e w3 ⟨rfl, hb3⟩
  have hrp := fun W => rParse_any W s (by omega)
  obtain ⟨⟨n, R⟩, hRd⟩ : ∃ p, p = parseR s := ⟨_, rfl⟩
  rw [← hRd] at hR hrp
  rw [← hRd]
  clear hRd
  dsimp only at hR hrp ⊢
  have n3 := BoxI.new w3 zeroID_length
  go_wp2_with (first
    | (refine wpList_alloc_id rfl rfl ?_)
    | (refine wpList_store_id rfl (.tmp 7) (.tmp 17) rfl rfl n3 hR rfl ?_; intro w4 y4 k4))
  refine (hrp w4).mono ?_
  rintro e w5 ⟨rfl, hb5⟩
  have n5 := BoxI.new w5 zeroID_length
  go_wp2_with (first
    | (refine wpList_alloc_id rfl rfl ?_)
    | (refine wpList_store_id rfl (.tmp 9) (.tmp 22) rfl rfl n5 hR rfl ?_; intro w6 y6 k6))
  have s3 : w3.heap.size < w4.heap.size := y4.lt
  have B4 : Below w3.heap.size w3 w4 := ((Below.refl _ w3).alloc (Nat.le_refl _) _).trans (k4.below (fun j _ e => by omega) (by simp))
  have B6 : Below w5.heap.size w5 w6 := ((Below.refl _ w5).alloc (Nat.le_refl _) _).trans (k6.below (fun j _ e => by omega) (by simp))
  have B24 := hb3.trans (B4.mono hb3.size)
  have B46 := hb5.trans (B6.mono hb5.size)
  have B26 := B24.trans (B46.mono B24.size)
  have h3 := b1'.below B26
  have h4 := b2.below B26
  have h7 := (y4.below B46).at
  have h9 := y6.at
  have hBw : Below w.heap.size w w6 := hB0.trans (B26.mono hB0.size)
  generalize w3.heap.size = g7 at *
  generalize w5.heap.size = g9 at *
  clear b1' b2 n3 n5 y4 k4 y6 k6 B4 B6 B24 B46 B26 hb3 hb5 hrp s3
  refine wp_vals [(IdV xs), (Str (textB xs)), (IdV xs), (Str (textB xs)), (.bool true), (.bool true), (IdV R), (IdV R), (.bool true), (.bool true), (.bool true), (.int .i64 n), (.int .i64 n), (.bool true), (.bool true), (.bool true), (IdV xs), (IdV ys), (.int .i64 (cmpB xs ys)), (IdV xs), (IdV ys), (.int .i64 (cmpB xs ys)), (.bool true), (.bool true), (.bool true)] (by kernel_rfl) (by kernel_rfl) (by kernel_rfl) ?_ ?_
  case refine_1 =>
    go_light
    intro i o ho a W hdf hBW hF hD
    match i, ho with
      | 0, ho =>
        cases ho
        have r3 : a.tmps[3]?.getD undef = (.pointer (some ⟨w.heap.size, 0, none⟩)) := hF 3 (by kernel_rfl)
        exact wp_load_idV rfl (eval_tmp r3) hx (h3.below hBW) ⟨_, rfl, rfl, Below.refl _ _⟩
      | 1, ho =>
        cases ho
        have r24 : a.tmps[24]?.getD undef = (IdV xs) := hD 0 (by kernel_rfl)
        unfold Oper.wp
        go_simp
        refine (hText_any W xs hx).mono ?_
        rintro e W2 ⟨rfl, hb2⟩
        exact ⟨_, rfl, rfl, hb2⟩
      | 2, ho =>
        cases ho
        have r3 : a.tmps[3]?.getD undef = (.pointer (some ⟨w.heap.size, 0, none⟩)) := hF 3 (by kernel_rfl)
        exact wp_load_idV rfl (eval_tmp r3) hx (h3.below hBW) ⟨_, rfl, rfl, Below.refl _ _⟩
      | 3, ho =>
        cases ho
        have r26 : a.tmps[26]?.getD undef = (IdV xs) := hD 2 (by kernel_rfl)
        unfold Oper.wp
        go_simp
        refine (rText_any W xs hx).mono ?_
        rintro e W2 ⟨rfl, hb2⟩
        exact ⟨_, rfl, rfl, hb2⟩
      | 4, ho =>
        cases ho
        have r25 : a.tmps[25]?.getD undef = (Str (textB xs)) := hD 1 (by kernel_rfl)
        have r27 : a.tmps[27]?.getD undef = (Str (textB xs)) := hD 3 (by kernel_rfl)
        unfold Oper.wp
        go_simp
        exact ⟨_, rfl, by simp, Below.refl _ _⟩
      | 5, ho =>
        cases ho
        have r28 : a.tmps[28]?.getD undef = (.bool true) := hD 4 (by kernel_rfl)
        unfold Oper.wp
        go_simp
        exact ⟨_, rfl, rfl, Below.refl _ _⟩
      | 6, ho =>
        cases ho
        have r7 : a.tmps[7]?.getD undef = (.pointer (some ⟨g7, 0, none⟩)) := hF 7 (by kernel_rfl)
        exact wp_load_idV rfl (eval_tmp r7) hR (h7.below hBW) ⟨_, rfl, rfl, Below.refl _ _⟩
      | 7, ho =>
        cases ho
        have r9 : a.tmps[9]?.getD undef = (.pointer (some ⟨g9, 0, none⟩)) := hF 9 (by kernel_rfl)
        exact wp_load_idV rfl (eval_tmp r9) hR (h9.below hBW) ⟨_, rfl, rfl, Below.refl _ _⟩
      | 8, ho =>
        cases ho
        have r30 : a.tmps[30]?.getD undef = (IdV R) := hD 6 (by kernel_rfl)
        have r31 : a.tmps[31]?.getD undef = (IdV R) := hD 7 (by kernel_rfl)
        have heq := equal_id W hR hR
        unfold Oper.wp
        go_simp
        exact ⟨_, rfl, by simp, Below.refl _ _⟩
      | 9, ho =>
        cases ho
        have r29 : a.tmps[29]?.getD undef = (.bool true) := hD 5 (by kernel_rfl)
        have r32 : a.tmps[32]?.getD undef = (.bool true) := hD 8 (by kernel_rfl)
        unfold Oper.wp
        go_simp
        exact ⟨_, rfl, rfl, Below.refl _ _⟩
      | 10, ho =>
        cases ho
        have r33 : a.tmps[33]?.getD undef = (.bool true) := hD 9 (by kernel_rfl)
        unfold Oper.wp
        go_simp
        exact ⟨_, rfl, rfl, Below.refl _ _⟩
      | 11, ho =>
        cases ho
        have r8 : a.tmps[8]?.getD undef = (.int .i64 n) := hF 8 (by kernel_rfl)
        unfold Oper.wp
        go_simp
        exact ⟨_, rfl, rfl, Below.refl _ _⟩
      | 12, ho =>
        cases ho
        have r10 : a.tmps[10]?.getD undef = (.int .i64 n) := hF 10 (by kernel_rfl)
        unfold Oper.wp
        go_simp
        exact ⟨_, rfl, rfl, Below.refl _ _⟩
      | 13, ho =>
        cases ho
        have r35 : a.tmps[35]?.getD undef = (.int .i64 n) := hD 11 (by kernel_rfl)
        have r36 : a.tmps[36]?.getD undef = (.int .i64 n) := hD 12 (by kernel_rfl)
        unfold Oper.wp
        go_simp
        exact ⟨_, rfl, by simp, Below.refl _ _⟩
      | 14, ho =>
        cases ho
        have r34 : a.tmps[34]?.getD undef = (.bool true) := hD 10 (by kernel_rfl)
        have r37 : a.tmps[37]?.getD undef = (.bool true) := hD 13 (by kernel_rfl)
        unfold Oper.wp
        go_simp
        exact ⟨_, rfl, rfl, Below.refl _ _⟩
      | 15, ho =>
        cases ho
        have r38 : a.tmps[38]?.getD undef = (.bool true) := hD 14 (by kernel_rfl)
        unfold Oper.wp
        go_simp
        exact ⟨_, rfl, rfl, Below.refl _ _⟩
      | 16, ho =>
        cases ho
        have r3 : a.tmps[3]?.getD undef = (.pointer (some ⟨w.heap.size, 0, none⟩)) := hF 3 (by kernel_rfl)
        exact wp_load_idV rfl (eval_tmp r3) hx (h3.below hBW) ⟨_, rfl, rfl, Below.refl _ _⟩
      | 17, ho =>
        cases ho
        have r4 : a.tmps[4]?.getD undef = (.pointer (some ⟨w.heap.size + 1, 0, none⟩)) := hF 4 (by kernel_rfl)
        exact wp_load_idV rfl (eval_tmp r4) hy (h4.below hBW) ⟨_, rfl, rfl, Below.refl _ _⟩
      | 18, ho =>
        cases ho
        have r40 : a.tmps[40]?.getD undef = (IdV xs) := hD 16 (by kernel_rfl)
        have r41 : a.tmps[41]?.getD undef = (IdV ys) := hD 17 (by kernel_rfl)
        unfold Oper.wp
        go_simp
        refine (hCompare_any W xs ys hx hy).mono ?_
        rintro e W2 ⟨rfl, hb2⟩
        exact ⟨_, rfl, rfl, hb2⟩
      | 19, ho =>
        cases ho
        have r3 : a.tmps[3]?.getD undef = (.pointer (some ⟨w.heap.size, 0, none⟩)) := hF 3 (by kernel_rfl)
        exact wp_load_idV rfl (eval_tmp r3) hx (h3.below hBW) ⟨_, rfl, rfl, Below.refl _ _⟩
      | 20, ho =>
        cases ho
        have r4 : a.tmps[4]?.getD undef = (.pointer (some ⟨w.heap.size + 1, 0, none⟩)) := hF 4 (by kernel_rfl)
        exact wp_load_idV rfl (eval_tmp r4) hy (h4.below hBW) ⟨_, rfl, rfl, Below.refl _ _⟩
      | 21, ho =>
        cases ho
        have r43 : a.tmps[43]?.getD undef = (IdV xs) := hD 19 (by kernel_rfl)
        have r44 : a.tmps[44]?.getD undef = (IdV ys) := hD 20 (by kernel_rfl)
        unfold Oper.wp
        go_simp
        refine (rCompare_any W xs ys hx hy).mono ?_
        rintro e W2 ⟨rfl, hb2⟩
        exact ⟨_, rfl, rfl, hb2⟩
      | 22, ho =>
        cases ho
        have r42 : a.tmps[42]?.getD undef = (.int .i64 (cmpB xs ys)) := hD 18 (by kernel_rfl)
        have r45 : a.tmps[45]?.getD undef = (.int .i64 (cmpB xs ys)) := hD 21 (by kernel_rfl)
        unfold Oper.wp
        go_simp
        exact ⟨_, rfl, by simp, Below.refl _ _⟩
      | 23, ho =>
        cases ho
        have r39 : a.tmps[39]?.getD undef = (.bool true) := hD 15 (by kernel_rfl)
        have r46 : a.tmps[46]?.getD undef = (.bool true) := hD 22 (by kernel_rfl)
        unfold Oper.wp
        go_simp
        exact ⟨_, rfl, rfl, Below.refl _ _⟩
      | 24, ho =>
        cases ho
        have r47 : a.tmps[47]?.getD undef = (.bool true) := hD 23 (by kernel_rfl)
        unfold Oper.wp
        go_simp
        exact ⟨_, rfl, rfl, Below.refl _ _⟩
      | i + 25, ho => exact absurd (Array.getElem?_eq_some_iff.1 ho).1 (by simp)
  case refine_2 =>
    intro a W hdf hsz hBW hF hD
    have r6 : a.tmps[6]?.getD undef = .bool true := hD 24 (by decide)
    clear hF hD hsz
    go_wp2_with fail
    refine bodyPost_ret (results_tmp rfl _ _ _) hdf ?_
    exact ⟨by rw [Array.getD_eq_getD_getElem?, r6], hBw.trans (hBW.mono hBw.size)⟩

set_option maxRecDepth 100000 in
set_option maxHeartbeats 400000 in
theorem texts_great (w : World) (xs ys s : List UInt8) (h : 100 < s.length) (hm : s.length ≤ 9223372036854775807) :
    Calls Try.prog 3 #[IdV xs, IdV ys, Str s] w fun e W' => e = .returned (.bool true) ∧ Below w.heap.size w W' := by
  have hsz : (⟨s.toArray⟩ : ByteArray).size = s.length := by simp [ByteArray.size]
  have hB0 : Below w.heap.size w ((w.alloc (.cells (xs.map B8).toArray 23)).alloc (.cells (ys.map B8).toArray 23)) := ((Below.refl _ w).alloc (Nat.le_refl _) _).alloc (by simp) _
  go_enter Try.func3, Try.ntmps3
  go_wp2
  go_ret
  exact ⟨rfl, hB0⟩
/-- For all arguments. -/
theorem texts_any (w : World) (xs ys s : List UInt8) (hx : xs.length = 32) (hy : ys.length = 32) (hm : s.length ≤ 9223372036854775807) :
    Calls Try.prog 3 #[IdV xs, IdV ys, Str s] w fun e W' => e = .returned (.bool true) ∧ Below w.heap.size w W' := by
  by_cases h : 100 < s.length
  · exact texts_great w xs ys s h hm
  · exact texts_some w xs ys s hx hy (by omega)
theorem texts_arg (w : World) (xs : List UInt8) (hx : xs.length = 32) (ys : List UInt8) (hy : ys.length = 32) (s : List UInt8) (hm : s.length ≤ 9223372036854775807) :
    Calls Try.prog 3 #[IdV xs, IdV ys, Str s] w fun e W' => e = .returned (.bool true) ∧ Below w.heap.size w W' := texts_any w xs ys s hx hy hm
end Go.Proofs.Ytkohmagpffobmaa
