/- The walk of RefnameApart (tools/genapart.py). -/
import Derived.Test.YtldgnkngjdgiaaaDoorRefnAlive
import Derived.Test.YtldgnkngjdgiaaaDoorRefnPSplit
import Derived.Test.YtldgnkngjdgiaaaDoorRefnLaws
import Derived.Test.YtldgnkngjdgiaaaDoorRefnConflictsW
namespace Go.Proofs.YtldgnkngjdgiaaaDoor
open Go.RowKit Go.Great

/-- An operation that is guarded, and passed over. -/
theorem wpList_skip' {P : Program} {ops : Array Oper} {rest : List Oper} {o : Oper} {a : Act} {w : World} {Q : Exit → Act → World → Prop} (hw : Region.wanted o (yielded ops a.tmps) = false)
    (h : ∀ a', a' = a.put o.dst undef → wpList P ops Q rest a' w) : wpList P ops Q (o :: rest) a w :=
  wpList_skip hw (h _ rfl)
/-- A call whose answer is known. -/
theorem wpList_call_any {P : Program} {ops : Array Oper} {rest : List Oper} {o : Oper} {a : Act} {w : World} {Q : Exit → Act → World → Prop} (hw : Region.wanted o (yielded ops a.tmps) = true) {f : FuncId} {args : Array Value}
    (hrun : (execOp a.eval o).run P w = .ok (.enter f args) w) {v : Value} {R : World → Prop} (hc : Calls P f args w fun e w' => e = .returned v ∧ R w')
    (h : ∀ a' w', a' = a.put o.dst v → R w' → wpList P ops Q rest a' w') : wpList P ops Q (o :: rest) a w :=
  wpList_step fun K hK => by
    rw [if_pos hw]
    unfold Oper.wp
    rw [hrun, Oper.upon_enter]
    refine hc.mono fun e w'' hh => ?_
    obtain ⟨rfl, hr⟩ := hh
    exact hK _ _ (h _ _ rfl hr)
theorem exec_eql_id_no {a : Act} {o : Oper} {x y : Operand} {t : TypeId} (ho : o.op = .binOp .eql 30 x y t) {xs ys : List UInt8} (hx : a.eval x = IdV xs) (hy : a.eval y = IdV ys) (h32 : xs.length = 32) (h33 : ys.length = 32) (hne : ¬ xs = ys) {W : World} : (execOp a.eval o).run Tryd.prog W = .ok (.value (.bool false)) W := by
  have h := eql_id W h32 h33
  rw [beq_false_of_ne hne] at h
  have hg := run_eqGuard_agg (P := Tryd.prog) (w := W) .eql 30 x y (xs.map B8).toArray (ys.map B8).toArray (by kernel_rfl)
  unfold execOp
  simp only [ho, hx, hy, Sem.run_bind]
  show ((((eqGuard .eql 30 x y (.agg (xs.map B8).toArray) (.agg (ys.map B8).toArray)).run Tryd.prog W).andThen fun _ w' => (binOp .eql 30 (IdV xs) (IdV ys)).run Tryd.prog w').andThen fun a w' => (pure (Next.value a) : Sem Next).run Tryd.prog w') = _
  rw [hg]
  simp only [Result.andThen_ok, h, Sem.run_pure]
theorem exec_build_id {a : Act} {o : Oper} (ho : o.op = .build 30 #[]) {W : World} : (execOp a.eval o).run Tryd.prog W = .ok (.value (IdV zeroID)) W := by
  obtain ⟨i0, hi, hz0, hz1, hz2⟩ := info_parts infoID3
  show _ = Result.ok (Next.value (.agg (zeroID.map B8).toArray)) W
  rw [zeroID_cells]
  unfold execOp
  simp [ho, Instr.build, zeroValue, typeInfo, hi, hz0, Value.cells, run_underlying Tryd.underlying30, Instr.fill]
theorem exec_eql_str {a : Act} {o : Oper} {x y : Operand} {t : TypeId} (ho : o.op = .binOp .eql 9 x y t) {xs : List UInt8} (hx : a.eval x = Str xs) (hy : a.eval y = Str xs) {W : World} : (execOp a.eval o).run Tryd.prog W = .ok (.value (.bool true)) W := by
  unfold execOp
  simp only [ho, hx, hy]
  go_simp
theorem exec_eql_str_no {a : Act} {o : Oper} {x y : Operand} {t : TypeId} (ho : o.op = .binOp .eql 9 x y t) {xs ys : List UInt8} (hx : a.eval x = Str xs) (hy : a.eval y = Str ys) (hne : ¬ xs = ys) {W : World} : (execOp a.eval o).run Tryd.prog W = .ok (.value (.bool false)) W := by
  have t1 := str_list xs
  have t2 := str_list ys
  unfold execOp
  simp only [ho, hx, hy]
  go_simp

set_option maxRecDepth 100000 in
set_option maxHeartbeats 4000000 in
theorem apart_arg (w : World) (a : List UInt8) (ha : a.length ≤ 9223372036854775807) (b : List UInt8) (hb : b.length ≤ 9223372036854775807) (x : List UInt8) (hx : x.length = 32) (y : List UInt8) (hy : y.length = 32) (hM : Mx w) :
    Calls Tryd.prog 6 #[Str a, Str b, IdV x, IdV y] w fun e W' => e = .returned (.bool true) ∧ Below w.heap.size w W' := by
  have hsz := str_size a
  have htz := str_size b
  have b1 := BoxI.new w hx
  have b2 := BoxI.new (w.alloc (.cells (x.map B8).toArray 30)) hy
  have b1' := b1.below ((Below.refl _ _).alloc (Nat.le_refl _) (.cells (y.map B8).toArray 30))
  have hB0 : Below w.heap.size w ((w.alloc (.cells (x.map B8).toArray 30)).alloc (.cells (y.map B8).toArray 30)) := ((Below.refl _ w).alloc (Nat.le_refl _) _).alloc (by rw [World.size_alloc]; omega) _
  have HM := Lib.hid hM
  have c0 := alive4_any _ (hM.below hB0)
  rw [World.size_alloc] at b2
  clear hM b1
  by_cases h1 : 200 < a.length
  · have g1 : (200 : Int) < (a.length : Int) := by omega
    go_enter Tryd.func6, Tryd.ntmps6
    go_wp2_with fail
    refine c0.mono ?_
    rintro e w1 ⟨rfl, k1⟩
    go_wp2_with fail
    go_ret
    exact ⟨rfl, hB0.on k1⟩
  have g1 : ¬ (200 : Int) < (a.length : Int) := by omega
  by_cases h2 : 200 < b.length
  · have g2 : (200 : Int) < (b.length : Int) := by omega
    go_enter Tryd.func6, Tryd.ntmps6
    go_wp2_with fail
    refine c0.mono ?_
    rintro e w1 ⟨rfl, k1⟩
    go_wp2_with fail
    go_ret
    exact ⟨rfl, hB0.on k1⟩
  have g2 : ¬ (200 : Int) < (b.length : Int) := by omega
  have c1 := fun W (h : Mx W) => pConflict_any W a x (by omega) hx h
  have c2 := fun W (h : Mx W) => pConflict_any W b y (by omega) hy h
  by_cases h0 : ¬ (breaksB a = 0 ∧ breaksB b = 0)
  · have p1 := fun W (h : Mx W) => pBreaks_any W a (by omega) h
    have p2 := fun W (h : Mx W) => pBreaks_any W b (by omega) h
    have q1 : (conflictR a x).2 = 0 ↔ breaksB a = 0 := by unfold conflictR; split <;> simp [*]
    have q2 : (conflictR b y).2 = 0 ↔ breaksB b = 0 := by unfold conflictR; split <;> simp [*]
    generalize conflictR a x = C at *
    generalize conflictR b y = D at *
    obtain ⟨C1, C2⟩ := C
    obtain ⟨D1, D2⟩ := D
    dsimp only at c1 c2 q1 q2
    generalize breaksB a = Ba at *
    generalize breaksB b = Bb at *
    have key : (¬ (C2 : Int) = 0 ∨ ¬ (D2 : Int) = 0) ∧ ((C2 : Int) = 0 ∨ ¬ (Ba : Int) = 0) ∧ ((D2 : Int) = 0 ∨ ¬ (Bb : Int) = 0) ∧ (¬ (C2 : Int) = 0 ∨ (Ba : Int) = 0) ∧ (¬ (D2 : Int) = 0 ∨ (Bb : Int) = 0) := by omega
    obtain ⟨e1, e2, e3, e4, e5⟩ := key
    clear h0 q1 q2 h1 h2
    go_enter Tryd.func6, Tryd.ntmps6
    go_wp2_with fail
    refine c0.mono ?_
    rintro e w1 ⟨rfl, k1⟩
    have x1 := b1'.below k1
    have y1 := b2.below k1
    have hB1 := hB0.on k1
    clear c0 k1 hB0 b1' b2
    go_wp2_with (refine wpList_load_id rfl (.tmp 6) rfl rfl hx x1.at ?_)
    refine (c1 _ (HM.out.below hB1)).mono ?_
    rintro e w2 ⟨rfl, k2⟩
    have y2 := y1.below k2
    have hB2 := hB1.on k2
    clear c1 k2 hB1 x1 y1
    go_wp2_with (refine wpList_load_id rfl (.tmp 7) rfl rfl hy y2.at ?_)
    refine (c2 _ (HM.out.below hB2)).mono ?_
    rintro e w3 ⟨rfl, k3⟩
    have hB3 := hB2.on k3
    clear c2 k3 hB2 y2
    by_cases f1 : (C2 : Int) = 0
    · have f2 : ¬ (D2 : Int) = 0 := e1.resolve_left (fun h => h f1)
      have f3 := e4.resolve_left (fun h => h f1)
      have f4 := e3.resolve_left f2
      have hDB : ((D2 : Int) == 0) = ((Bb : Int) == 0) := by rw [Bool.eq_iff_iff]; simp; omega
      clear e1 e2 e3 e4 e5
      go_wp2_with fail
      refine (p1 _ (HM.out.below hB3)).mono ?_
      rintro e w4 ⟨rfl, k4⟩
      have hB4 := hB3.on k4
      go_wp2_with fail
      refine (p2 _ (HM.out.below hB4)).mono ?_
      rintro e w5 ⟨rfl, k5⟩
      go_wp2_with fail
      go_ret
      exact ⟨by simp; try exact hDB, hB4.on k5⟩
    · have f3 := e2.resolve_left f1
      have hCB : ((C2 : Int) == 0) = ((Ba : Int) == 0) := by rw [Bool.eq_iff_iff]; simp; omega
      by_cases f2 : (D2 : Int) = 0
      · have f4 := e5.resolve_left (fun h => h f2)
        have hDB : ((D2 : Int) == 0) = ((Bb : Int) == 0) := by rw [Bool.eq_iff_iff]; simp; omega
        clear e1 e2 e3 e4 e5
        go_wp2_with fail
        refine (p1 _ (HM.out.below hB3)).mono ?_
        rintro e w4 ⟨rfl, k4⟩
        have hB4 := hB3.on k4
        go_wp2_with fail
        refine (p2 _ (HM.out.below hB4)).mono ?_
        rintro e w5 ⟨rfl, k5⟩
        go_wp2_with fail
        go_ret
        exact ⟨by simp; try exact hDB, hB4.on k5⟩
      · have f4 := e3.resolve_left f2
        have hDB : ((D2 : Int) == 0) = ((Bb : Int) == 0) := by rw [Bool.eq_iff_iff]; simp; omega
        clear e1 e2 e3 e4 e5
        go_wp2_with fail
        refine (p1 _ (HM.out.below hB3)).mono ?_
        rintro e w4 ⟨rfl, k4⟩
        have hB4 := hB3.on k4
        go_wp2_with fail
        refine (p2 _ (HM.out.below hB4)).mono ?_
        rintro e w5 ⟨rfl, k5⟩
        go_wp2_with fail
        go_ret
        exact ⟨by simp; try exact hDB, hB4.on k5⟩
  obtain ⟨ha0, hb0⟩ := Classical.not_not.1 h0
  have hcd := conflict_inj ha0 hb0 hx hy
  have hCb := conflict_breaks a x
  have c3 := fun W (h : Mx W) => pSplit_any W (a ++ 126 :: textB x) (by have := textB_length x; simp; omega) h
  have c4 := fun W (h : Mx W) => pSplit_any W a (by omega) h
  have c5 := fun W (h : Mx W) => pBreaks_any W (a ++ 126 :: textB x) (by have := textB_length x; simp; omega) h
  rw [split_conflict ha0 hx] at c3
  rw [split_plain ha0] at c4
  rw [show conflictR a x = (a ++ 126 :: textB x, 0) by rw [conflictR, if_pos ha0]] at c1
  rw [show conflictR b y = (b ++ 126 :: textB y, 0) by rw [conflictR, if_pos hb0]] at c2
  dsimp only at c1 c2 c3 c4
  generalize a ++ 126 :: textB x = C at *
  generalize b ++ 126 :: textB y = D at *
  have hCi : ¬ ((breaksB C : Nat) : Int) = 0 := by omega
  clear h0 ha0 hb0 h1 h2
  go_enter Tryd.func6, Tryd.ntmps6
  go_wp2_with fail
  refine c0.mono ?_
  rintro e w1 ⟨rfl, k1⟩
  have x1 := b1'.below k1
  have y1 := b2.below k1
  have hB1 := hB0.on k1
  clear c0 k1 hB0 b1' b2
  go_wp2_with (refine wpList_load_id rfl (.tmp 6) rfl rfl hx x1.at ?_)
  refine (c1 _ (HM.out.below hB1)).mono ?_
  rintro e w2 ⟨rfl, k2⟩
  have x2 := x1.below k2
  have y2 := y1.below k2
  have hB2 := hB1.on k2
  clear c1 k2 hB1 x1 y1
  go_wp2_with (refine wpList_load_id rfl (.tmp 7) rfl rfl hy y2.at ?_)
  refine (c2 _ (HM.out.below hB2)).mono ?_
  rintro e w3 ⟨rfl, k3⟩
  have x3 := x2.below k3
  have y3 := y2.below k3
  have hB3 := hB2.on k3
  clear c2 k3 hB2 x2 y2
  go_wp2_with fail
  refine (c3 _ (HM.out.below hB3)).mono ?_
  rintro e w4 ⟨rfl, k4⟩
  have x4 := x3.below k4
  have y4 := y3.below k4
  have hB4 := hB3.on k4
  have n4 := BoxI.new w4 zeroID_length
  have hBa : Below w.heap.size w (w4.alloc (.cells (zeroID.map B8).toArray 30)) := hB4.alloc hB4.size _
  have x4' := x4.below ((Below.refl _ w4).alloc (Nat.le_refl _) (.cells (zeroID.map B8).toArray 30))
  have y4' := y4.below ((Below.refl _ w4).alloc (Nat.le_refl _) (.cells (zeroID.map B8).toArray 30))
  have lx := x4.lt
  have ly := y4.lt
  clear c3 k4 hB3 x3 y3
  go_wp2_with (first
    | (refine wpList_alloc_id rfl rfl ?_)
    | (refine wpList_store_id rfl (.tmp 15) (.tmp 75) rfl rfl n4 hx rfl ?_; intro w5 t5 k5; have x5 := x4'.kept k5 (Nat.ne_of_lt lx); have y5 := y4'.kept k5 (Nat.ne_of_lt ly)))
  have hB5 := hBa.trans (k5.below (B := w.heap.size) (fun j hj e => by have := hB4.size; omega) hBa.size)
  clear n4 hBa k5 x4 y4 x4' y4' lx ly hB4
  refine (c4 _ (HM.out.below hB5)).mono ?_
  rintro e w6 ⟨rfl, k6⟩
  have x5' := x5.below k6
  have y5' := y5.below k6
  have t5' := t5.below k6
  have hBc := hB5.on k6
  have n6 := BoxI.new w6 zeroID_length
  have hBd : Below w.heap.size w (w6.alloc (.cells (zeroID.map B8).toArray 30)) := hBc.alloc hBc.size _
  have lx := x5'.lt
  have ly := y5'.lt
  have lt := t5'.lt
  have x5'' := x5'.below ((Below.refl _ w6).alloc (Nat.le_refl _) (.cells (zeroID.map B8).toArray 30))
  have y5'' := y5'.below ((Below.refl _ w6).alloc (Nat.le_refl _) (.cells (zeroID.map B8).toArray 30))
  have t5'' := t5'.below ((Below.refl _ w6).alloc (Nat.le_refl _) (.cells (zeroID.map B8).toArray 30))
  clear c4 k6 hB5 x5 y5 t5 x5' y5' t5'
  go_wp2_with (first
    | (refine wpList_alloc_id rfl rfl ?_)
    | (refine wpList_store_id rfl (.tmp 19) (.tmp 82) rfl rfl n6 zeroID_length rfl ?_; intro w7 u6 k7; have x6 := x5''.kept k7 (Nat.ne_of_lt lx); have y6 := y5''.kept k7 (Nat.ne_of_lt ly); have t6 := t5''.kept k7 (Nat.ne_of_lt lt); refine hold_in ?_))
  have hB6 := hBd.trans (k7.below (B := w.heap.size) (fun j hj e => by have := hBc.size; omega) hBd.size)
  clear k7 n6 hBd x5'' y5'' t5'' lx ly lt hBc
  unfold Hold
  refine wpList_known (Value.bool false) (by first | rfl | kernel_rfl) (by go_simp) (fun a' ha' => ?_)
  simp only [Act.put, List.setIfInBounds_toArray, List.set_cons_succ, List.set_cons_zero] at ha'
  subst ha'
  refine wpList_known (Value.int .i64 (0 : Int)) (by first | rfl | kernel_rfl) (by go_simp) (fun a' ha' => ?_)
  simp only [Act.put, List.setIfInBounds_toArray, List.set_cons_succ, List.set_cons_zero] at ha'
  subst ha'
  refine wpList_nil ?_
  show _
  refine (by assumption : ∀ (a : Act) (w : World), _ → _) _ _ ?_
  refine wp_seq_k fun K7 hK7 => ?_
  refine wp_region_lit ?_
  by_cases hab : a = b
  · subst hab
    by_cases hxy : x = y
    · subst hxy
      obtain rfl : C = D := hcd.2 ⟨rfl, rfl⟩
      refine wpList_known (Value.bool true) (by first | rfl | kernel_rfl) (by go_simp) (fun a' ha' => ?_)
      simp only [Act.put, List.setIfInBounds_toArray, List.set_cons_succ, List.set_cons_zero] at ha'
      subst ha'
      refine wpList_known (Value.bool true) (by first | rfl | kernel_rfl) (by go_simp) (fun a' ha' => ?_)
      simp only [Act.put, List.setIfInBounds_toArray, List.set_cons_succ, List.set_cons_zero] at ha'
      subst ha'
      refine wpList_known (Value.int .i64 (0 : Int)) (by first | rfl | kernel_rfl) (by go_simp) (fun a' ha' => ?_)
      simp only [Act.put, List.setIfInBounds_toArray, List.set_cons_succ, List.set_cons_zero] at ha'
      subst ha'
      refine wpList_known (Value.bool true) (by first | rfl | kernel_rfl) (by go_simp) (fun a' ha' => ?_)
      simp only [Act.put, List.setIfInBounds_toArray, List.set_cons_succ, List.set_cons_zero] at ha'
      subst ha'
      refine wpList_known (Value.bool true) (by first | rfl | kernel_rfl) (by go_simp) (fun a' ha' => ?_)
      simp only [Act.put, List.setIfInBounds_toArray, List.set_cons_succ, List.set_cons_zero] at ha'
      subst ha'
      refine wpList_known (Value.bool true) (by first | rfl | kernel_rfl) (by go_simp) (fun a' ha' => ?_)
      simp only [Act.put, List.setIfInBounds_toArray, List.set_cons_succ, List.set_cons_zero] at ha'
      subst ha'
      refine wpList_known (Str a) (by first | rfl | kernel_rfl) (by go_simp) (fun a' ha' => ?_)
      simp only [Act.put, List.setIfInBounds_toArray, List.set_cons_succ, List.set_cons_zero] at ha'
      subst ha'
      refine wpList_known (Str a) (by first | rfl | kernel_rfl) (by go_simp) (fun a' ha' => ?_)
      simp only [Act.put, List.setIfInBounds_toArray, List.set_cons_succ, List.set_cons_zero] at ha'
      subst ha'
      refine wpList_known (Value.bool true) (by first | rfl | kernel_rfl) (exec_eql_str rfl rfl rfl) (fun a' ha' => ?_)
      simp only [Act.put, List.setIfInBounds_toArray, List.set_cons_succ, List.set_cons_zero] at ha'
      subst ha'
      refine wpList_known (Value.bool true) (by first | rfl | kernel_rfl) (by go_simp) (fun a' ha' => ?_)
      simp only [Act.put, List.setIfInBounds_toArray, List.set_cons_succ, List.set_cons_zero] at ha'
      subst ha'
      refine wpList_known (Value.bool true) (by first | rfl | kernel_rfl) (by go_simp) (fun a' ha' => ?_)
      simp only [Act.put, List.setIfInBounds_toArray, List.set_cons_succ, List.set_cons_zero] at ha'
      subst ha'
      refine wpList_known (IdV x) (by first | rfl | kernel_rfl) (exec_load_id rfl rfl hx t6.at) (fun a' ha' => ?_)
      simp only [Act.put, List.setIfInBounds_toArray, List.set_cons_succ, List.set_cons_zero] at ha'
      subst ha'
      refine wpList_known (IdV x) (by first | rfl | kernel_rfl) (exec_load_id rfl rfl hx x6.at) (fun a' ha' => ?_)
      simp only [Act.put, List.setIfInBounds_toArray, List.set_cons_succ, List.set_cons_zero] at ha'
      subst ha'
      refine wpList_known (Value.bool true) (by first | rfl | kernel_rfl) (exec_eql_id rfl rfl rfl hx) (fun a' ha' => ?_)
      simp only [Act.put, List.setIfInBounds_toArray, List.set_cons_succ, List.set_cons_zero] at ha'
      subst ha'
      refine wpList_known (Value.bool true) (by first | rfl | kernel_rfl) (by go_simp) (fun a' ha' => ?_)
      simp only [Act.put, List.setIfInBounds_toArray, List.set_cons_succ, List.set_cons_zero] at ha'
      subst ha'
      refine wpList_known (Value.bool true) (by first | rfl | kernel_rfl) (by go_simp) (fun a' ha' => ?_)
      simp only [Act.put, List.setIfInBounds_toArray, List.set_cons_succ, List.set_cons_zero] at ha'
      subst ha'
      refine wpList_known (Value.bool true) (by first | rfl | kernel_rfl) (by go_simp) (fun a' ha' => ?_)
      simp only [Act.put, List.setIfInBounds_toArray, List.set_cons_succ, List.set_cons_zero] at ha'
      subst ha'
      refine wpList_known (Value.bool true) (by first | rfl | kernel_rfl) (by go_simp) (fun a' ha' => ?_)
      simp only [Act.put, List.setIfInBounds_toArray, List.set_cons_succ, List.set_cons_zero] at ha'
      subst ha'
      refine wpList_known (Value.bool true) (by first | rfl | kernel_rfl) (by go_simp) (fun a' ha' => ?_)
      simp only [Act.put, List.setIfInBounds_toArray, List.set_cons_succ, List.set_cons_zero] at ha'
      subst ha'
      refine wpList_known (Str C) (by first | rfl | kernel_rfl) (by go_simp) (fun a' ha' => ?_)
      simp only [Act.put, List.setIfInBounds_toArray, List.set_cons_succ, List.set_cons_zero] at ha'
      subst ha'
      refine wpList_call_any (by first | rfl | kernel_rfl) (by go_simp) (c5 _ (HM.out.below hB6)) (fun a' w7 ha' k7 => ?_)
      simp only [Act.put, List.setIfInBounds_toArray, List.set_cons_succ, List.set_cons_zero] at ha'
      subst ha'
      have hB7 := hB6.on k7
      have x7 := x6.below k7
      have y7 := y6.below k7
      have u7 := u6.below k7
      refine wpList_known (Value.bool true) (by first | rfl | kernel_rfl) (by go_simp; try exact hCb) (fun a' ha' => ?_)
      simp only [Act.put, List.setIfInBounds_toArray, List.set_cons_succ, List.set_cons_zero] at ha'
      subst ha'
      refine wpList_known (Value.bool true) (by first | rfl | kernel_rfl) (by go_simp) (fun a' ha' => ?_)
      simp only [Act.put, List.setIfInBounds_toArray, List.set_cons_succ, List.set_cons_zero] at ha'
      subst ha'
      refine wpList_known (Value.bool true) (by first | rfl | kernel_rfl) (by go_simp) (fun a' ha' => ?_)
      simp only [Act.put, List.setIfInBounds_toArray, List.set_cons_succ, List.set_cons_zero] at ha'
      subst ha'
      refine wpList_known (Str C) (by first | rfl | kernel_rfl) (by go_simp) (fun a' ha' => ?_)
      simp only [Act.put, List.setIfInBounds_toArray, List.set_cons_succ, List.set_cons_zero] at ha'
      subst ha'
      refine wpList_known (Str C) (by first | rfl | kernel_rfl) (by go_simp) (fun a' ha' => ?_)
      simp only [Act.put, List.setIfInBounds_toArray, List.set_cons_succ, List.set_cons_zero] at ha'
      subst ha'
      refine wpList_known (Value.bool true) (by first | rfl | kernel_rfl) (exec_eql_str rfl rfl rfl) (fun a' ha' => ?_)
      simp only [Act.put, List.setIfInBounds_toArray, List.set_cons_succ, List.set_cons_zero] at ha'
      subst ha'
      refine wpList_known (Str a) (by first | rfl | kernel_rfl) (by go_simp) (fun a' ha' => ?_)
      simp only [Act.put, List.setIfInBounds_toArray, List.set_cons_succ, List.set_cons_zero] at ha'
      subst ha'
      refine wpList_known (Str a) (by first | rfl | kernel_rfl) (by go_simp) (fun a' ha' => ?_)
      simp only [Act.put, List.setIfInBounds_toArray, List.set_cons_succ, List.set_cons_zero] at ha'
      subst ha'
      refine wpList_known (Value.bool true) (by first | rfl | kernel_rfl) (exec_eql_str rfl rfl rfl) (fun a' ha' => ?_)
      simp only [Act.put, List.setIfInBounds_toArray, List.set_cons_succ, List.set_cons_zero] at ha'
      subst ha'
      refine wpList_known (Value.bool true) (by first | rfl | kernel_rfl) (by go_simp) (fun a' ha' => ?_)
      simp only [Act.put, List.setIfInBounds_toArray, List.set_cons_succ, List.set_cons_zero] at ha'
      subst ha'
      refine wpList_known (IdV x) (by first | rfl | kernel_rfl) (exec_load_id rfl rfl hx x7.at) (fun a' ha' => ?_)
      simp only [Act.put, List.setIfInBounds_toArray, List.set_cons_succ, List.set_cons_zero] at ha'
      subst ha'
      refine wpList_known (IdV x) (by first | rfl | kernel_rfl) (exec_load_id rfl rfl hy y7.at) (fun a' ha' => ?_)
      simp only [Act.put, List.setIfInBounds_toArray, List.set_cons_succ, List.set_cons_zero] at ha'
      subst ha'
      refine wpList_known (Value.bool true) (by first | rfl | kernel_rfl) (exec_eql_id rfl rfl rfl hx) (fun a' ha' => ?_)
      simp only [Act.put, List.setIfInBounds_toArray, List.set_cons_succ, List.set_cons_zero] at ha'
      subst ha'
      refine wpList_known (Value.bool true) (by first | rfl | kernel_rfl) (by go_simp) (fun a' ha' => ?_)
      simp only [Act.put, List.setIfInBounds_toArray, List.set_cons_succ, List.set_cons_zero] at ha'
      subst ha'
      refine wpList_known (Value.bool true) (by first | rfl | kernel_rfl) (by go_simp) (fun a' ha' => ?_)
      simp only [Act.put, List.setIfInBounds_toArray, List.set_cons_succ, List.set_cons_zero] at ha'
      subst ha'
      refine wpList_known (Value.bool true) (by first | rfl | kernel_rfl) (by go_simp) (fun a' ha' => ?_)
      simp only [Act.put, List.setIfInBounds_toArray, List.set_cons_succ, List.set_cons_zero] at ha'
      subst ha'
      refine wpList_known (Value.bool true) (by first | rfl | kernel_rfl) (by go_simp) (fun a' ha' => ?_)
      simp only [Act.put, List.setIfInBounds_toArray, List.set_cons_succ, List.set_cons_zero] at ha'
      subst ha'
      refine wpList_known (Value.int .i64 (0 : Int)) (by first | rfl | kernel_rfl) (by go_simp) (fun a' ha' => ?_)
      simp only [Act.put, List.setIfInBounds_toArray, List.set_cons_succ, List.set_cons_zero] at ha'
      subst ha'
      refine wpList_known (Value.bool true) (by first | rfl | kernel_rfl) (by go_simp) (fun a' ha' => ?_)
      simp only [Act.put, List.setIfInBounds_toArray, List.set_cons_succ, List.set_cons_zero] at ha'
      subst ha'
      refine wpList_known (Value.bool true) (by first | rfl | kernel_rfl) (by go_simp) (fun a' ha' => ?_)
      simp only [Act.put, List.setIfInBounds_toArray, List.set_cons_succ, List.set_cons_zero] at ha'
      subst ha'
      refine wpList_known (Value.bool true) (by first | rfl | kernel_rfl) (by go_simp) (fun a' ha' => ?_)
      simp only [Act.put, List.setIfInBounds_toArray, List.set_cons_succ, List.set_cons_zero] at ha'
      subst ha'
      refine wpList_known (Str a) (by first | rfl | kernel_rfl) (by go_simp) (fun a' ha' => ?_)
      simp only [Act.put, List.setIfInBounds_toArray, List.set_cons_succ, List.set_cons_zero] at ha'
      subst ha'
      refine wpList_known (Str a) (by first | rfl | kernel_rfl) (by go_simp) (fun a' ha' => ?_)
      simp only [Act.put, List.setIfInBounds_toArray, List.set_cons_succ, List.set_cons_zero] at ha'
      subst ha'
      refine wpList_known (Value.bool true) (by first | rfl | kernel_rfl) (exec_eql_str rfl rfl rfl) (fun a' ha' => ?_)
      simp only [Act.put, List.setIfInBounds_toArray, List.set_cons_succ, List.set_cons_zero] at ha'
      subst ha'
      refine wpList_known (Value.bool true) (by first | rfl | kernel_rfl) (by go_simp) (fun a' ha' => ?_)
      simp only [Act.put, List.setIfInBounds_toArray, List.set_cons_succ, List.set_cons_zero] at ha'
      subst ha'
      refine wpList_known (Value.bool true) (by first | rfl | kernel_rfl) (by go_simp) (fun a' ha' => ?_)
      simp only [Act.put, List.setIfInBounds_toArray, List.set_cons_succ, List.set_cons_zero] at ha'
      subst ha'
      refine wpList_known (IdV zeroID) (by first | rfl | kernel_rfl) (exec_load_id rfl rfl zeroID_length u7.at) (fun a' ha' => ?_)
      simp only [Act.put, List.setIfInBounds_toArray, List.set_cons_succ, List.set_cons_zero] at ha'
      subst ha'
      refine wpList_known (IdV zeroID) (by first | rfl | kernel_rfl) (exec_build_id rfl) (fun a' ha' => ?_)
      simp only [Act.put, List.setIfInBounds_toArray, List.set_cons_succ, List.set_cons_zero] at ha'
      subst ha'
      refine wpList_known (Value.bool true) (by first | rfl | kernel_rfl) (exec_eql_id rfl rfl rfl zeroID_length) (fun a' ha' => ?_)
      simp only [Act.put, List.setIfInBounds_toArray, List.set_cons_succ, List.set_cons_zero] at ha'
      subst ha'
      refine wpList_known (Value.bool true) (by first | rfl | kernel_rfl) (by go_simp) (fun a' ha' => ?_)
      simp only [Act.put, List.setIfInBounds_toArray, List.set_cons_succ, List.set_cons_zero] at ha'
      subst ha'
      refine wpList_known (Value.bool true) (by first | rfl | kernel_rfl) (by go_simp) (fun a' ha' => ?_)
      simp only [Act.put, List.setIfInBounds_toArray, List.set_cons_succ, List.set_cons_zero] at ha'
      subst ha'
      refine wpList_known (Value.bool false) (by first | rfl | kernel_rfl) (by go_simp) (fun a' ha' => ?_)
      simp only [Act.put, List.setIfInBounds_toArray, List.set_cons_succ, List.set_cons_zero] at ha'
      subst ha'
      refine wpList_known (Value.bool true) (by first | rfl | kernel_rfl) (by go_simp) (fun a' ha' => ?_)
      simp only [Act.put, List.setIfInBounds_toArray, List.set_cons_succ, List.set_cons_zero] at ha'
      subst ha'
      refine wpList_known (Value.bool true) (by first | rfl | kernel_rfl) (by go_simp) (fun a' ha' => ?_)
      simp only [Act.put, List.setIfInBounds_toArray, List.set_cons_succ, List.set_cons_zero] at ha'
      subst ha'
      refine wpList_known (Value.bool true) (by first | rfl | kernel_rfl) (by go_simp) (fun a' ha' => ?_)
      simp only [Act.put, List.setIfInBounds_toArray, List.set_cons_succ, List.set_cons_zero] at ha'
      subst ha'
      refine wpList_nil ?_
      show K7 _ _
      refine hK7 _ _ ?_
      go_wp2_with fail
      go_ret
      exact ⟨rfl, hB7⟩
    · have hCD : ¬ C = D := fun h => hxy (hcd.1 h).2
      refine wpList_known (Value.bool true) (by first | rfl | kernel_rfl) (by go_simp) (fun a' ha' => ?_)
      simp only [Act.put, List.setIfInBounds_toArray, List.set_cons_succ, List.set_cons_zero] at ha'
      subst ha'
      refine wpList_known (Value.bool true) (by first | rfl | kernel_rfl) (by go_simp) (fun a' ha' => ?_)
      simp only [Act.put, List.setIfInBounds_toArray, List.set_cons_succ, List.set_cons_zero] at ha'
      subst ha'
      refine wpList_known (Value.int .i64 (0 : Int)) (by first | rfl | kernel_rfl) (by go_simp) (fun a' ha' => ?_)
      simp only [Act.put, List.setIfInBounds_toArray, List.set_cons_succ, List.set_cons_zero] at ha'
      subst ha'
      refine wpList_known (Value.bool true) (by first | rfl | kernel_rfl) (by go_simp) (fun a' ha' => ?_)
      simp only [Act.put, List.setIfInBounds_toArray, List.set_cons_succ, List.set_cons_zero] at ha'
      subst ha'
      refine wpList_known (Value.bool true) (by first | rfl | kernel_rfl) (by go_simp) (fun a' ha' => ?_)
      simp only [Act.put, List.setIfInBounds_toArray, List.set_cons_succ, List.set_cons_zero] at ha'
      subst ha'
      refine wpList_known (Value.bool true) (by first | rfl | kernel_rfl) (by go_simp) (fun a' ha' => ?_)
      simp only [Act.put, List.setIfInBounds_toArray, List.set_cons_succ, List.set_cons_zero] at ha'
      subst ha'
      refine wpList_known (Str a) (by first | rfl | kernel_rfl) (by go_simp) (fun a' ha' => ?_)
      simp only [Act.put, List.setIfInBounds_toArray, List.set_cons_succ, List.set_cons_zero] at ha'
      subst ha'
      refine wpList_known (Str a) (by first | rfl | kernel_rfl) (by go_simp) (fun a' ha' => ?_)
      simp only [Act.put, List.setIfInBounds_toArray, List.set_cons_succ, List.set_cons_zero] at ha'
      subst ha'
      refine wpList_known (Value.bool true) (by first | rfl | kernel_rfl) (exec_eql_str rfl rfl rfl) (fun a' ha' => ?_)
      simp only [Act.put, List.setIfInBounds_toArray, List.set_cons_succ, List.set_cons_zero] at ha'
      subst ha'
      refine wpList_known (Value.bool true) (by first | rfl | kernel_rfl) (by go_simp) (fun a' ha' => ?_)
      simp only [Act.put, List.setIfInBounds_toArray, List.set_cons_succ, List.set_cons_zero] at ha'
      subst ha'
      refine wpList_known (Value.bool true) (by first | rfl | kernel_rfl) (by go_simp) (fun a' ha' => ?_)
      simp only [Act.put, List.setIfInBounds_toArray, List.set_cons_succ, List.set_cons_zero] at ha'
      subst ha'
      refine wpList_known (IdV x) (by first | rfl | kernel_rfl) (exec_load_id rfl rfl hx t6.at) (fun a' ha' => ?_)
      simp only [Act.put, List.setIfInBounds_toArray, List.set_cons_succ, List.set_cons_zero] at ha'
      subst ha'
      refine wpList_known (IdV x) (by first | rfl | kernel_rfl) (exec_load_id rfl rfl hx x6.at) (fun a' ha' => ?_)
      simp only [Act.put, List.setIfInBounds_toArray, List.set_cons_succ, List.set_cons_zero] at ha'
      subst ha'
      refine wpList_known (Value.bool true) (by first | rfl | kernel_rfl) (exec_eql_id rfl rfl rfl hx) (fun a' ha' => ?_)
      simp only [Act.put, List.setIfInBounds_toArray, List.set_cons_succ, List.set_cons_zero] at ha'
      subst ha'
      refine wpList_known (Value.bool true) (by first | rfl | kernel_rfl) (by go_simp) (fun a' ha' => ?_)
      simp only [Act.put, List.setIfInBounds_toArray, List.set_cons_succ, List.set_cons_zero] at ha'
      subst ha'
      refine wpList_known (Value.bool true) (by first | rfl | kernel_rfl) (by go_simp) (fun a' ha' => ?_)
      simp only [Act.put, List.setIfInBounds_toArray, List.set_cons_succ, List.set_cons_zero] at ha'
      subst ha'
      refine wpList_known (Value.bool true) (by first | rfl | kernel_rfl) (by go_simp) (fun a' ha' => ?_)
      simp only [Act.put, List.setIfInBounds_toArray, List.set_cons_succ, List.set_cons_zero] at ha'
      subst ha'
      refine wpList_known (Value.bool true) (by first | rfl | kernel_rfl) (by go_simp) (fun a' ha' => ?_)
      simp only [Act.put, List.setIfInBounds_toArray, List.set_cons_succ, List.set_cons_zero] at ha'
      subst ha'
      refine wpList_known (Value.bool true) (by first | rfl | kernel_rfl) (by go_simp) (fun a' ha' => ?_)
      simp only [Act.put, List.setIfInBounds_toArray, List.set_cons_succ, List.set_cons_zero] at ha'
      subst ha'
      refine wpList_known (Str C) (by first | rfl | kernel_rfl) (by go_simp) (fun a' ha' => ?_)
      simp only [Act.put, List.setIfInBounds_toArray, List.set_cons_succ, List.set_cons_zero] at ha'
      subst ha'
      refine wpList_call_any (by first | rfl | kernel_rfl) (by go_simp) (c5 _ (HM.out.below hB6)) (fun a' w7 ha' k7 => ?_)
      simp only [Act.put, List.setIfInBounds_toArray, List.set_cons_succ, List.set_cons_zero] at ha'
      subst ha'
      have hB7 := hB6.on k7
      have x7 := x6.below k7
      have y7 := y6.below k7
      have u7 := u6.below k7
      refine wpList_known (Value.bool true) (by first | rfl | kernel_rfl) (by go_simp; try exact hCb) (fun a' ha' => ?_)
      simp only [Act.put, List.setIfInBounds_toArray, List.set_cons_succ, List.set_cons_zero] at ha'
      subst ha'
      refine wpList_known (Value.bool true) (by first | rfl | kernel_rfl) (by go_simp) (fun a' ha' => ?_)
      simp only [Act.put, List.setIfInBounds_toArray, List.set_cons_succ, List.set_cons_zero] at ha'
      subst ha'
      refine wpList_known (Value.bool true) (by first | rfl | kernel_rfl) (by go_simp) (fun a' ha' => ?_)
      simp only [Act.put, List.setIfInBounds_toArray, List.set_cons_succ, List.set_cons_zero] at ha'
      subst ha'
      refine wpList_known (Str C) (by first | rfl | kernel_rfl) (by go_simp) (fun a' ha' => ?_)
      simp only [Act.put, List.setIfInBounds_toArray, List.set_cons_succ, List.set_cons_zero] at ha'
      subst ha'
      refine wpList_known (Str D) (by first | rfl | kernel_rfl) (by go_simp) (fun a' ha' => ?_)
      simp only [Act.put, List.setIfInBounds_toArray, List.set_cons_succ, List.set_cons_zero] at ha'
      subst ha'
      refine wpList_known (Value.bool false) (by first | rfl | kernel_rfl) (exec_eql_str_no rfl rfl rfl hCD) (fun a' ha' => ?_)
      simp only [Act.put, List.setIfInBounds_toArray, List.set_cons_succ, List.set_cons_zero] at ha'
      subst ha'
      refine wpList_known (Str a) (by first | rfl | kernel_rfl) (by go_simp) (fun a' ha' => ?_)
      simp only [Act.put, List.setIfInBounds_toArray, List.set_cons_succ, List.set_cons_zero] at ha'
      subst ha'
      refine wpList_known (Str a) (by first | rfl | kernel_rfl) (by go_simp) (fun a' ha' => ?_)
      simp only [Act.put, List.setIfInBounds_toArray, List.set_cons_succ, List.set_cons_zero] at ha'
      subst ha'
      refine wpList_known (Value.bool true) (by first | rfl | kernel_rfl) (exec_eql_str rfl rfl rfl) (fun a' ha' => ?_)
      simp only [Act.put, List.setIfInBounds_toArray, List.set_cons_succ, List.set_cons_zero] at ha'
      subst ha'
      refine wpList_known (Value.bool true) (by first | rfl | kernel_rfl) (by go_simp) (fun a' ha' => ?_)
      simp only [Act.put, List.setIfInBounds_toArray, List.set_cons_succ, List.set_cons_zero] at ha'
      subst ha'
      refine wpList_known (IdV x) (by first | rfl | kernel_rfl) (exec_load_id rfl rfl hx x7.at) (fun a' ha' => ?_)
      simp only [Act.put, List.setIfInBounds_toArray, List.set_cons_succ, List.set_cons_zero] at ha'
      subst ha'
      refine wpList_known (IdV y) (by first | rfl | kernel_rfl) (exec_load_id rfl rfl hy y7.at) (fun a' ha' => ?_)
      simp only [Act.put, List.setIfInBounds_toArray, List.set_cons_succ, List.set_cons_zero] at ha'
      subst ha'
      refine wpList_known (Value.bool false) (by first | rfl | kernel_rfl) (exec_eql_id_no rfl rfl rfl hx hy hxy) (fun a' ha' => ?_)
      simp only [Act.put, List.setIfInBounds_toArray, List.set_cons_succ, List.set_cons_zero] at ha'
      subst ha'
      refine wpList_known (Value.bool false) (by first | rfl | kernel_rfl) (by go_simp) (fun a' ha' => ?_)
      simp only [Act.put, List.setIfInBounds_toArray, List.set_cons_succ, List.set_cons_zero] at ha'
      subst ha'
      refine wpList_known (Value.bool true) (by first | rfl | kernel_rfl) (by go_simp) (fun a' ha' => ?_)
      simp only [Act.put, List.setIfInBounds_toArray, List.set_cons_succ, List.set_cons_zero] at ha'
      subst ha'
      refine wpList_known (Value.bool true) (by first | rfl | kernel_rfl) (by go_simp) (fun a' ha' => ?_)
      simp only [Act.put, List.setIfInBounds_toArray, List.set_cons_succ, List.set_cons_zero] at ha'
      subst ha'
      refine wpList_known (Value.bool true) (by first | rfl | kernel_rfl) (by go_simp) (fun a' ha' => ?_)
      simp only [Act.put, List.setIfInBounds_toArray, List.set_cons_succ, List.set_cons_zero] at ha'
      subst ha'
      refine wpList_known (Value.int .i64 (0 : Int)) (by first | rfl | kernel_rfl) (by go_simp) (fun a' ha' => ?_)
      simp only [Act.put, List.setIfInBounds_toArray, List.set_cons_succ, List.set_cons_zero] at ha'
      subst ha'
      refine wpList_known (Value.bool true) (by first | rfl | kernel_rfl) (by go_simp) (fun a' ha' => ?_)
      simp only [Act.put, List.setIfInBounds_toArray, List.set_cons_succ, List.set_cons_zero] at ha'
      subst ha'
      refine wpList_known (Value.bool true) (by first | rfl | kernel_rfl) (by go_simp) (fun a' ha' => ?_)
      simp only [Act.put, List.setIfInBounds_toArray, List.set_cons_succ, List.set_cons_zero] at ha'
      subst ha'
      refine wpList_known (Value.bool true) (by first | rfl | kernel_rfl) (by go_simp) (fun a' ha' => ?_)
      simp only [Act.put, List.setIfInBounds_toArray, List.set_cons_succ, List.set_cons_zero] at ha'
      subst ha'
      refine wpList_known (Str a) (by first | rfl | kernel_rfl) (by go_simp) (fun a' ha' => ?_)
      simp only [Act.put, List.setIfInBounds_toArray, List.set_cons_succ, List.set_cons_zero] at ha'
      subst ha'
      refine wpList_known (Str a) (by first | rfl | kernel_rfl) (by go_simp) (fun a' ha' => ?_)
      simp only [Act.put, List.setIfInBounds_toArray, List.set_cons_succ, List.set_cons_zero] at ha'
      subst ha'
      refine wpList_known (Value.bool true) (by first | rfl | kernel_rfl) (exec_eql_str rfl rfl rfl) (fun a' ha' => ?_)
      simp only [Act.put, List.setIfInBounds_toArray, List.set_cons_succ, List.set_cons_zero] at ha'
      subst ha'
      refine wpList_known (Value.bool true) (by first | rfl | kernel_rfl) (by go_simp) (fun a' ha' => ?_)
      simp only [Act.put, List.setIfInBounds_toArray, List.set_cons_succ, List.set_cons_zero] at ha'
      subst ha'
      refine wpList_known (Value.bool true) (by first | rfl | kernel_rfl) (by go_simp) (fun a' ha' => ?_)
      simp only [Act.put, List.setIfInBounds_toArray, List.set_cons_succ, List.set_cons_zero] at ha'
      subst ha'
      refine wpList_known (IdV zeroID) (by first | rfl | kernel_rfl) (exec_load_id rfl rfl zeroID_length u7.at) (fun a' ha' => ?_)
      simp only [Act.put, List.setIfInBounds_toArray, List.set_cons_succ, List.set_cons_zero] at ha'
      subst ha'
      refine wpList_known (IdV zeroID) (by first | rfl | kernel_rfl) (exec_build_id rfl) (fun a' ha' => ?_)
      simp only [Act.put, List.setIfInBounds_toArray, List.set_cons_succ, List.set_cons_zero] at ha'
      subst ha'
      refine wpList_known (Value.bool true) (by first | rfl | kernel_rfl) (exec_eql_id rfl rfl rfl zeroID_length) (fun a' ha' => ?_)
      simp only [Act.put, List.setIfInBounds_toArray, List.set_cons_succ, List.set_cons_zero] at ha'
      subst ha'
      refine wpList_known (Value.bool true) (by first | rfl | kernel_rfl) (by go_simp) (fun a' ha' => ?_)
      simp only [Act.put, List.setIfInBounds_toArray, List.set_cons_succ, List.set_cons_zero] at ha'
      subst ha'
      refine wpList_known (Value.bool true) (by first | rfl | kernel_rfl) (by go_simp) (fun a' ha' => ?_)
      simp only [Act.put, List.setIfInBounds_toArray, List.set_cons_succ, List.set_cons_zero] at ha'
      subst ha'
      refine wpList_known (Value.bool false) (by first | rfl | kernel_rfl) (by go_simp) (fun a' ha' => ?_)
      simp only [Act.put, List.setIfInBounds_toArray, List.set_cons_succ, List.set_cons_zero] at ha'
      subst ha'
      refine wpList_known (Value.bool true) (by first | rfl | kernel_rfl) (by go_simp) (fun a' ha' => ?_)
      simp only [Act.put, List.setIfInBounds_toArray, List.set_cons_succ, List.set_cons_zero] at ha'
      subst ha'
      refine wpList_known (Value.bool true) (by first | rfl | kernel_rfl) (by go_simp) (fun a' ha' => ?_)
      simp only [Act.put, List.setIfInBounds_toArray, List.set_cons_succ, List.set_cons_zero] at ha'
      subst ha'
      refine wpList_known (Value.bool true) (by first | rfl | kernel_rfl) (by go_simp) (fun a' ha' => ?_)
      simp only [Act.put, List.setIfInBounds_toArray, List.set_cons_succ, List.set_cons_zero] at ha'
      subst ha'
      refine wpList_nil ?_
      show K7 _ _
      refine hK7 _ _ ?_
      go_wp2_with fail
      go_ret
      exact ⟨rfl, hB7⟩
  · have hCD : ¬ C = D := fun h => hab (hcd.1 h).1
    refine wpList_known (Value.bool true) (by first | rfl | kernel_rfl) (by go_simp) (fun a' ha' => ?_)
    simp only [Act.put, List.setIfInBounds_toArray, List.set_cons_succ, List.set_cons_zero] at ha'
    subst ha'
    refine wpList_known (Value.bool true) (by first | rfl | kernel_rfl) (by go_simp) (fun a' ha' => ?_)
    simp only [Act.put, List.setIfInBounds_toArray, List.set_cons_succ, List.set_cons_zero] at ha'
    subst ha'
    refine wpList_known (Value.int .i64 (0 : Int)) (by first | rfl | kernel_rfl) (by go_simp) (fun a' ha' => ?_)
    simp only [Act.put, List.setIfInBounds_toArray, List.set_cons_succ, List.set_cons_zero] at ha'
    subst ha'
    refine wpList_known (Value.bool true) (by first | rfl | kernel_rfl) (by go_simp) (fun a' ha' => ?_)
    simp only [Act.put, List.setIfInBounds_toArray, List.set_cons_succ, List.set_cons_zero] at ha'
    subst ha'
    refine wpList_known (Value.bool true) (by first | rfl | kernel_rfl) (by go_simp) (fun a' ha' => ?_)
    simp only [Act.put, List.setIfInBounds_toArray, List.set_cons_succ, List.set_cons_zero] at ha'
    subst ha'
    refine wpList_known (Value.bool true) (by first | rfl | kernel_rfl) (by go_simp) (fun a' ha' => ?_)
    simp only [Act.put, List.setIfInBounds_toArray, List.set_cons_succ, List.set_cons_zero] at ha'
    subst ha'
    refine wpList_known (Str a) (by first | rfl | kernel_rfl) (by go_simp) (fun a' ha' => ?_)
    simp only [Act.put, List.setIfInBounds_toArray, List.set_cons_succ, List.set_cons_zero] at ha'
    subst ha'
    refine wpList_known (Str a) (by first | rfl | kernel_rfl) (by go_simp) (fun a' ha' => ?_)
    simp only [Act.put, List.setIfInBounds_toArray, List.set_cons_succ, List.set_cons_zero] at ha'
    subst ha'
    refine wpList_known (Value.bool true) (by first | rfl | kernel_rfl) (exec_eql_str rfl rfl rfl) (fun a' ha' => ?_)
    simp only [Act.put, List.setIfInBounds_toArray, List.set_cons_succ, List.set_cons_zero] at ha'
    subst ha'
    refine wpList_known (Value.bool true) (by first | rfl | kernel_rfl) (by go_simp) (fun a' ha' => ?_)
    simp only [Act.put, List.setIfInBounds_toArray, List.set_cons_succ, List.set_cons_zero] at ha'
    subst ha'
    refine wpList_known (Value.bool true) (by first | rfl | kernel_rfl) (by go_simp) (fun a' ha' => ?_)
    simp only [Act.put, List.setIfInBounds_toArray, List.set_cons_succ, List.set_cons_zero] at ha'
    subst ha'
    refine wpList_known (IdV x) (by first | rfl | kernel_rfl) (exec_load_id rfl rfl hx t6.at) (fun a' ha' => ?_)
    simp only [Act.put, List.setIfInBounds_toArray, List.set_cons_succ, List.set_cons_zero] at ha'
    subst ha'
    refine wpList_known (IdV x) (by first | rfl | kernel_rfl) (exec_load_id rfl rfl hx x6.at) (fun a' ha' => ?_)
    simp only [Act.put, List.setIfInBounds_toArray, List.set_cons_succ, List.set_cons_zero] at ha'
    subst ha'
    refine wpList_known (Value.bool true) (by first | rfl | kernel_rfl) (exec_eql_id rfl rfl rfl hx) (fun a' ha' => ?_)
    simp only [Act.put, List.setIfInBounds_toArray, List.set_cons_succ, List.set_cons_zero] at ha'
    subst ha'
    refine wpList_known (Value.bool true) (by first | rfl | kernel_rfl) (by go_simp) (fun a' ha' => ?_)
    simp only [Act.put, List.setIfInBounds_toArray, List.set_cons_succ, List.set_cons_zero] at ha'
    subst ha'
    refine wpList_known (Value.bool true) (by first | rfl | kernel_rfl) (by go_simp) (fun a' ha' => ?_)
    simp only [Act.put, List.setIfInBounds_toArray, List.set_cons_succ, List.set_cons_zero] at ha'
    subst ha'
    refine wpList_known (Value.bool true) (by first | rfl | kernel_rfl) (by go_simp) (fun a' ha' => ?_)
    simp only [Act.put, List.setIfInBounds_toArray, List.set_cons_succ, List.set_cons_zero] at ha'
    subst ha'
    refine wpList_known (Value.bool true) (by first | rfl | kernel_rfl) (by go_simp) (fun a' ha' => ?_)
    simp only [Act.put, List.setIfInBounds_toArray, List.set_cons_succ, List.set_cons_zero] at ha'
    subst ha'
    refine wpList_known (Value.bool true) (by first | rfl | kernel_rfl) (by go_simp) (fun a' ha' => ?_)
    simp only [Act.put, List.setIfInBounds_toArray, List.set_cons_succ, List.set_cons_zero] at ha'
    subst ha'
    refine wpList_known (Str C) (by first | rfl | kernel_rfl) (by go_simp) (fun a' ha' => ?_)
    simp only [Act.put, List.setIfInBounds_toArray, List.set_cons_succ, List.set_cons_zero] at ha'
    subst ha'
    refine wpList_call_any (by first | rfl | kernel_rfl) (by go_simp) (c5 _ (HM.out.below hB6)) (fun a' w7 ha' k7 => ?_)
    simp only [Act.put, List.setIfInBounds_toArray, List.set_cons_succ, List.set_cons_zero] at ha'
    subst ha'
    have hB7 := hB6.on k7
    have x7 := x6.below k7
    have y7 := y6.below k7
    have u7 := u6.below k7
    refine wpList_known (Value.bool true) (by first | rfl | kernel_rfl) (by go_simp; try exact hCb) (fun a' ha' => ?_)
    simp only [Act.put, List.setIfInBounds_toArray, List.set_cons_succ, List.set_cons_zero] at ha'
    subst ha'
    refine wpList_known (Value.bool true) (by first | rfl | kernel_rfl) (by go_simp) (fun a' ha' => ?_)
    simp only [Act.put, List.setIfInBounds_toArray, List.set_cons_succ, List.set_cons_zero] at ha'
    subst ha'
    refine wpList_known (Value.bool true) (by first | rfl | kernel_rfl) (by go_simp) (fun a' ha' => ?_)
    simp only [Act.put, List.setIfInBounds_toArray, List.set_cons_succ, List.set_cons_zero] at ha'
    subst ha'
    refine wpList_known (Str C) (by first | rfl | kernel_rfl) (by go_simp) (fun a' ha' => ?_)
    simp only [Act.put, List.setIfInBounds_toArray, List.set_cons_succ, List.set_cons_zero] at ha'
    subst ha'
    refine wpList_known (Str D) (by first | rfl | kernel_rfl) (by go_simp) (fun a' ha' => ?_)
    simp only [Act.put, List.setIfInBounds_toArray, List.set_cons_succ, List.set_cons_zero] at ha'
    subst ha'
    refine wpList_known (Value.bool false) (by first | rfl | kernel_rfl) (exec_eql_str_no rfl rfl rfl hCD) (fun a' ha' => ?_)
    simp only [Act.put, List.setIfInBounds_toArray, List.set_cons_succ, List.set_cons_zero] at ha'
    subst ha'
    refine wpList_known (Str a) (by first | rfl | kernel_rfl) (by go_simp) (fun a' ha' => ?_)
    simp only [Act.put, List.setIfInBounds_toArray, List.set_cons_succ, List.set_cons_zero] at ha'
    subst ha'
    refine wpList_known (Str b) (by first | rfl | kernel_rfl) (by go_simp) (fun a' ha' => ?_)
    simp only [Act.put, List.setIfInBounds_toArray, List.set_cons_succ, List.set_cons_zero] at ha'
    subst ha'
    refine wpList_known (Value.bool false) (by first | rfl | kernel_rfl) (exec_eql_str_no rfl rfl rfl hab) (fun a' ha' => ?_)
    simp only [Act.put, List.setIfInBounds_toArray, List.set_cons_succ, List.set_cons_zero] at ha'
    subst ha'
    refine wpList_known (Value.bool false) (by first | rfl | kernel_rfl) (by go_simp) (fun a' ha' => ?_)
    simp only [Act.put, List.setIfInBounds_toArray, List.set_cons_succ, List.set_cons_zero] at ha'
    subst ha'
    refine wpList_skip' (by first | rfl | kernel_rfl) (fun a' ha' => ?_)
    simp only [Act.put, List.setIfInBounds_toArray, List.set_cons_succ, List.set_cons_zero] at ha'
    subst ha'
    refine wpList_skip' (by first | rfl | kernel_rfl) (fun a' ha' => ?_)
    simp only [Act.put, List.setIfInBounds_toArray, List.set_cons_succ, List.set_cons_zero] at ha'
    subst ha'
    refine wpList_skip' (by first | rfl | kernel_rfl) (fun a' ha' => ?_)
    simp only [Act.put, List.setIfInBounds_toArray, List.set_cons_succ, List.set_cons_zero] at ha'
    subst ha'
    refine wpList_known (Value.bool false) (by first | rfl | kernel_rfl) (by go_simp) (fun a' ha' => ?_)
    simp only [Act.put, List.setIfInBounds_toArray, List.set_cons_succ, List.set_cons_zero] at ha'
    subst ha'
    refine wpList_known (Value.bool true) (by first | rfl | kernel_rfl) (by go_simp) (fun a' ha' => ?_)
    simp only [Act.put, List.setIfInBounds_toArray, List.set_cons_succ, List.set_cons_zero] at ha'
    subst ha'
    refine wpList_known (Value.bool true) (by first | rfl | kernel_rfl) (by go_simp) (fun a' ha' => ?_)
    simp only [Act.put, List.setIfInBounds_toArray, List.set_cons_succ, List.set_cons_zero] at ha'
    subst ha'
    refine wpList_known (Value.bool true) (by first | rfl | kernel_rfl) (by go_simp) (fun a' ha' => ?_)
    simp only [Act.put, List.setIfInBounds_toArray, List.set_cons_succ, List.set_cons_zero] at ha'
    subst ha'
    refine wpList_known (Value.int .i64 (0 : Int)) (by first | rfl | kernel_rfl) (by go_simp) (fun a' ha' => ?_)
    simp only [Act.put, List.setIfInBounds_toArray, List.set_cons_succ, List.set_cons_zero] at ha'
    subst ha'
    refine wpList_known (Value.bool true) (by first | rfl | kernel_rfl) (by go_simp) (fun a' ha' => ?_)
    simp only [Act.put, List.setIfInBounds_toArray, List.set_cons_succ, List.set_cons_zero] at ha'
    subst ha'
    refine wpList_known (Value.bool true) (by first | rfl | kernel_rfl) (by go_simp) (fun a' ha' => ?_)
    simp only [Act.put, List.setIfInBounds_toArray, List.set_cons_succ, List.set_cons_zero] at ha'
    subst ha'
    refine wpList_known (Value.bool true) (by first | rfl | kernel_rfl) (by go_simp) (fun a' ha' => ?_)
    simp only [Act.put, List.setIfInBounds_toArray, List.set_cons_succ, List.set_cons_zero] at ha'
    subst ha'
    refine wpList_known (Str a) (by first | rfl | kernel_rfl) (by go_simp) (fun a' ha' => ?_)
    simp only [Act.put, List.setIfInBounds_toArray, List.set_cons_succ, List.set_cons_zero] at ha'
    subst ha'
    refine wpList_known (Str a) (by first | rfl | kernel_rfl) (by go_simp) (fun a' ha' => ?_)
    simp only [Act.put, List.setIfInBounds_toArray, List.set_cons_succ, List.set_cons_zero] at ha'
    subst ha'
    refine wpList_known (Value.bool true) (by first | rfl | kernel_rfl) (exec_eql_str rfl rfl rfl) (fun a' ha' => ?_)
    simp only [Act.put, List.setIfInBounds_toArray, List.set_cons_succ, List.set_cons_zero] at ha'
    subst ha'
    refine wpList_known (Value.bool true) (by first | rfl | kernel_rfl) (by go_simp) (fun a' ha' => ?_)
    simp only [Act.put, List.setIfInBounds_toArray, List.set_cons_succ, List.set_cons_zero] at ha'
    subst ha'
    refine wpList_known (Value.bool true) (by first | rfl | kernel_rfl) (by go_simp) (fun a' ha' => ?_)
    simp only [Act.put, List.setIfInBounds_toArray, List.set_cons_succ, List.set_cons_zero] at ha'
    subst ha'
    refine wpList_known (IdV zeroID) (by first | rfl | kernel_rfl) (exec_load_id rfl rfl zeroID_length u7.at) (fun a' ha' => ?_)
    simp only [Act.put, List.setIfInBounds_toArray, List.set_cons_succ, List.set_cons_zero] at ha'
    subst ha'
    refine wpList_known (IdV zeroID) (by first | rfl | kernel_rfl) (exec_build_id rfl) (fun a' ha' => ?_)
    simp only [Act.put, List.setIfInBounds_toArray, List.set_cons_succ, List.set_cons_zero] at ha'
    subst ha'
    refine wpList_known (Value.bool true) (by first | rfl | kernel_rfl) (exec_eql_id rfl rfl rfl zeroID_length) (fun a' ha' => ?_)
    simp only [Act.put, List.setIfInBounds_toArray, List.set_cons_succ, List.set_cons_zero] at ha'
    subst ha'
    refine wpList_known (Value.bool true) (by first | rfl | kernel_rfl) (by go_simp) (fun a' ha' => ?_)
    simp only [Act.put, List.setIfInBounds_toArray, List.set_cons_succ, List.set_cons_zero] at ha'
    subst ha'
    refine wpList_known (Value.bool true) (by first | rfl | kernel_rfl) (by go_simp) (fun a' ha' => ?_)
    simp only [Act.put, List.setIfInBounds_toArray, List.set_cons_succ, List.set_cons_zero] at ha'
    subst ha'
    refine wpList_known (Value.bool false) (by first | rfl | kernel_rfl) (by go_simp) (fun a' ha' => ?_)
    simp only [Act.put, List.setIfInBounds_toArray, List.set_cons_succ, List.set_cons_zero] at ha'
    subst ha'
    refine wpList_known (Value.bool true) (by first | rfl | kernel_rfl) (by go_simp) (fun a' ha' => ?_)
    simp only [Act.put, List.setIfInBounds_toArray, List.set_cons_succ, List.set_cons_zero] at ha'
    subst ha'
    refine wpList_known (Value.bool true) (by first | rfl | kernel_rfl) (by go_simp) (fun a' ha' => ?_)
    simp only [Act.put, List.setIfInBounds_toArray, List.set_cons_succ, List.set_cons_zero] at ha'
    subst ha'
    refine wpList_known (Value.bool true) (by first | rfl | kernel_rfl) (by go_simp) (fun a' ha' => ?_)
    simp only [Act.put, List.setIfInBounds_toArray, List.set_cons_succ, List.set_cons_zero] at ha'
    subst ha'
    refine wpList_nil ?_
    show K7 _ _
    refine hK7 _ _ ?_
    go_wp2_with fail
    go_ret
    exact ⟨rfl, hB7⟩
end Go.Proofs.YtldgnkngjdgiaaaDoor
