/- The walk of RefnameConflicts. -/
import Derived.Test.YtldgnkngjdgiaaaDoorRefnPSplit
import Derived.Test.YtldgnkngjdgiaaaDoorRefnRulesW
namespace Go.Proofs.YtldgnkngjdgiaaaDoor
open Go.RowKit Go.Great

theorem exec_eql_id {a : Act} {o : Oper} {x y : Operand} {t : TypeId} (ho : o.op = .binOp .eql 30 x y t) {xs : List UInt8} (hx : a.eval x = IdV xs) (hy : a.eval y = IdV xs) (h32 : xs.length = 32) {W : World} : (execOp a.eval o).run Tryd.prog W = .ok (.value (.bool true)) W := by
  have h := eql_id W h32 h32
  rw [beq_self_eq_true] at h
  have hg := run_eqGuard_agg (P := Tryd.prog) (w := W) .eql 30 x y (xs.map B8).toArray (xs.map B8).toArray (by kernel_rfl)
  unfold execOp
  simp only [ho, hx, hy, Sem.run_bind]
  show ((((eqGuard .eql 30 x y (.agg (xs.map B8).toArray) (.agg (xs.map B8).toArray)).run Tryd.prog W).andThen fun _ w' => (binOp .eql 30 (IdV xs) (IdV xs)).run Tryd.prog w').andThen fun a w' => (pure (Next.value a) : Sem Next).run Tryd.prog w') = _
  rw [hg]
  simp only [Result.andThen_ok, h, Sem.run_pure]
/-- A goal that the walk lets be. -/
def Hold (p : Prop) : Prop := p
theorem hold_in {p : Prop} (h : Hold p) : p := h
/-- An operation whose value is known. -/
theorem wpList_known {P : Program} {ops : Array Oper} {rest : List Oper} {o : Oper} {a : Act} {w : World} {Q : Exit → Act → World → Prop} (v : Value) (hw : Region.wanted o (yielded ops a.tmps) = true) (hrun : (execOp a.eval o).run P w = .ok (.value v) w)
    (h : ∀ a', a' = a.put o.dst v → wpList P ops Q rest a' w) : wpList P ops Q (o :: rest) a w :=
  wpList_step fun K hK => by
    rw [if_pos hw]
    unfold Oper.wp
    rw [hrun]
    exact hK _ _ (h _ rfl)

set_option maxRecDepth 100000 in
set_option maxHeartbeats 2000000 in
theorem conflicts_arg (w : World) (ref : List UInt8) (hr : ref.length ≤ 9223372036854775807) (tip : List UInt8) (ht : tip.length = 32) (name : List UInt8) (hn : name.length ≤ 9223372036854775807) (hM : Mx w) :
    Calls Tryd.prog 4 #[Str ref, IdV tip, Str name] w fun e W' => e = .returned (.bool true) ∧ Below w.heap.size w W' := by
  have hsz := str_size ref
  have htz := str_size name
  have b1 := IdAt.box w tip 30
  have hB0 : Below w.heap.size w (w.alloc (.cells (tip.map B8).toArray 30)) := (Below.refl _ w).alloc (Nat.le_refl _) _
  have HM := Lib.hid hM
  clear hM
  by_cases h1 : 300 < ref.length
  · have g1 : (300 : Int) < (ref.length : Int) := by omega
    go_enter Tryd.func4, Tryd.ntmps4
    go_wp2
    go_ret
    exact ⟨rfl, hB0⟩
  by_cases h2 : 300 < name.length
  · have g1 : ¬ (300 : Int) < (ref.length : Int) := by omega
    have g2 : (300 : Int) < (name.length : Int) := by omega
    go_enter Tryd.func4, Tryd.ntmps4
    go_wp2
    go_ret
    exact ⟨rfl, hB0⟩
  have g1 : ¬ (300 : Int) < (ref.length : Int) := by omega
  have g2 : ¬ (300 : Int) < (name.length : Int) := by omega
  have c1 := fun W (h : Mx W) => pConflict_any W ref tip (by omega) ht h
  have c2 := fun W => r4Conflict_any W ref tip (by omega) ht
  have c3 := fun W (h : Mx W) => pSplit_any W name (by omega) h
  have c4 := fun W => r4Split_any W name (by omega)
  have h32 : (splitR name).2.1.length = 32 := by
    unfold splitR
    cases tilde name with
    | none => dsimp only; split <;> exact zeroID_length
    | some j => dsimp only; split
                · exact parseR_len4 _
                · exact zeroID_length
  generalize conflictR ref tip = C at *
  obtain ⟨C1, C2⟩ := C
  generalize splitR name = S at *
  obtain ⟨S1, S2, S3, S4⟩ := S
  dsimp only at c1 c2 c3 c4 h32
  have heq := fun W => eql_id W h32 h32
  have t1 := str_list C1
  have t2 := str_list S1
  clear h1 h2
  go_enter Tryd.func4, Tryd.ntmps4
  go_wp2_with (refine wpList_load_id rfl (.tmp 4) rfl rfl ht b1 ?_)
  refine (c1 _ (HM.out.below hB0)).mono ?_
  rintro e w1 ⟨rfl, k1⟩
  have b2 := b1.below k1
  have hB1 := hB0.on (k1.mono (Nat.le_refl _))
  clear b1 c1 hB0 k1
  go_wp2_with (refine wpList_load_id rfl (.tmp 4) rfl rfl ht b2 ?_)
  refine (c2 _).mono ?_
  rintro e w2 ⟨rfl, k2⟩
  have hB2 := hB1.on k2
  clear b2 c2 hB1 k2
  go_wp2_with fail
  refine (c3 _ (HM.out.below hB2)).mono ?_
  rintro e w3 ⟨rfl, k3⟩
  have hB3 := hB2.on k3
  have n3 := BoxI.new w3 zeroID_length
  have hBa : Below w.heap.size w (w3.alloc (.cells (zeroID.map B8).toArray 30)) := hB3.alloc hB3.size _
  clear c3 hB2 k3
  go_wp2_with (first
    | (refine wpList_alloc_id rfl rfl ?_)
    | (refine wpList_store_id rfl (.tmp 12) (.tmp 43) rfl rfl n3 h32 rfl ?_; intro w4 y4 k4))
  have hB4 := hBa.trans (k4.below (B := w.heap.size) (fun j hj e => by have := hB3.size; omega) hBa.size)
  refine (c4 _).mono ?_
  rintro e w5 ⟨rfl, k5⟩
  have y5 := y4.below k5
  have hB5 := hB4.on k5
  have n5 := BoxI.new w5 zeroID_length
  have hBb : Below w.heap.size w (w5.alloc (.cells (zeroID.map B8).toArray 30)) := hB5.alloc hB5.size _
  have y5' := y5.below ((Below.refl _ w5).alloc (Nat.le_refl _) (.cells (zeroID.map B8).toArray 30))
  have hlt5 : w3.heap.size < w5.heap.size := y5.lt
  clear c4 hB4 k4 k5 n3 hBa
  go_wp2_with (first
    | (refine wpList_alloc_id rfl rfl ?_)
    | (refine wpList_store_id rfl (.tmp 16) (.tmp 50) rfl rfl n5 h32 rfl ?_; intro w6 z6 k6; have y6 := y5'.kept k6 (by omega); refine hold_in ?_))
  have hB6 := hBb.trans (k6.below (B := w.heap.size) (fun j hj e => by have := hB5.size; omega) hBb.size)
  clear k6 n5 hBb y5 y5' y4
  unfold Hold
  refine wpList_known (Value.bool S3) (by first | rfl | kernel_rfl) (by go_simp) (fun a' ha' => ?_)
  simp only [Act.put, List.setIfInBounds_toArray, List.set_cons_succ, List.set_cons_zero] at ha'
  subst ha'
  refine wpList_known (Value.int .i64 (S4 : Int)) (by first | rfl | kernel_rfl) (by go_simp) (fun a' ha' => ?_)
  simp only [Act.put, List.setIfInBounds_toArray, List.set_cons_succ, List.set_cons_zero] at ha'
  subst ha'
  refine wpList_nil ?_
  show _
  refine (by assumption : ∀ (a : Act) (w : World), _ → _) _ _ ?_
  refine wp_seq_k fun K7 hK7 => ?_
  refine wp_region_lit ?_
  refine wpList_known (Str C1) (by first | rfl | kernel_rfl) (by go_simp) (fun a' ha' => ?_)
  simp only [Act.put, List.setIfInBounds_toArray, List.set_cons_succ, List.set_cons_zero] at ha'
  subst ha'
  refine wpList_known (Str C1) (by first | rfl | kernel_rfl) (by go_simp) (fun a' ha' => ?_)
  simp only [Act.put, List.setIfInBounds_toArray, List.set_cons_succ, List.set_cons_zero] at ha'
  subst ha'
  refine wpList_known (Value.bool true) (by first | rfl | kernel_rfl) (by go_simp) (fun a' ha' => ?_)
  simp only [Act.put, List.setIfInBounds_toArray, List.set_cons_succ, List.set_cons_zero] at ha'
  subst ha'
  refine wpList_known (Value.bool true) (by first | rfl | kernel_rfl) (by go_simp) (fun a' ha' => ?_)
  simp only [Act.put, List.setIfInBounds_toArray, List.set_cons_succ, List.set_cons_zero] at ha'
  subst ha'
  refine wpList_known (Value.int .i64 (C2 : Int)) (by first | rfl | kernel_rfl) (by go_simp) (fun a' ha' => ?_)
  simp only [Act.put, List.setIfInBounds_toArray, List.set_cons_succ, List.set_cons_zero] at ha'
  subst ha'
  refine wpList_known (Value.int .i64 (C2 : Int)) (by first | rfl | kernel_rfl) (by go_simp) (fun a' ha' => ?_)
  simp only [Act.put, List.setIfInBounds_toArray, List.set_cons_succ, List.set_cons_zero] at ha'
  subst ha'
  refine wpList_known (Value.bool true) (by first | rfl | kernel_rfl) (by go_simp) (fun a' ha' => ?_)
  simp only [Act.put, List.setIfInBounds_toArray, List.set_cons_succ, List.set_cons_zero] at ha'
  subst ha'
  refine wpList_known (Value.bool true) (by first | rfl | kernel_rfl) (by go_simp) (fun a' ha' => ?_)
  simp only [Act.put, List.setIfInBounds_toArray, List.set_cons_succ, List.set_cons_zero] at ha'
  subst ha'
  refine wpList_known (Value.bool true) (by first | rfl | kernel_rfl) (by go_simp) (fun a' ha' => ?_)
  simp only [Act.put, List.setIfInBounds_toArray, List.set_cons_succ, List.set_cons_zero] at ha'
  subst ha'
  refine wpList_known (Str S1) (by first | rfl | kernel_rfl) (by go_simp) (fun a' ha' => ?_)
  simp only [Act.put, List.setIfInBounds_toArray, List.set_cons_succ, List.set_cons_zero] at ha'
  subst ha'
  refine wpList_known (Str S1) (by first | rfl | kernel_rfl) (by go_simp) (fun a' ha' => ?_)
  simp only [Act.put, List.setIfInBounds_toArray, List.set_cons_succ, List.set_cons_zero] at ha'
  subst ha'
  refine wpList_known (Value.bool true) (by first | rfl | kernel_rfl) (by go_simp) (fun a' ha' => ?_)
  simp only [Act.put, List.setIfInBounds_toArray, List.set_cons_succ, List.set_cons_zero] at ha'
  subst ha'
  refine wpList_known (Value.bool true) (by first | rfl | kernel_rfl) (by go_simp) (fun a' ha' => ?_)
  simp only [Act.put, List.setIfInBounds_toArray, List.set_cons_succ, List.set_cons_zero] at ha'
  subst ha'
  refine wpList_known (Value.bool true) (by first | rfl | kernel_rfl) (by go_simp) (fun a' ha' => ?_)
  simp only [Act.put, List.setIfInBounds_toArray, List.set_cons_succ, List.set_cons_zero] at ha'
  subst ha'
  refine wpList_known (IdV S2) (by first | rfl | kernel_rfl) (exec_load_id rfl rfl h32 y6.at) (fun a' ha' => ?_)
  simp only [Act.put, List.setIfInBounds_toArray, List.set_cons_succ, List.set_cons_zero] at ha'
  subst ha'
  refine wpList_known (IdV S2) (by first | rfl | kernel_rfl) (exec_load_id rfl rfl h32 z6.at) (fun a' ha' => ?_)
  simp only [Act.put, List.setIfInBounds_toArray, List.set_cons_succ, List.set_cons_zero] at ha'
  subst ha'
  refine wpList_known (Value.bool true) (by first | rfl | kernel_rfl) (exec_eql_id rfl rfl rfl h32) (fun a' ha' => ?_)
  simp only [Act.put, List.setIfInBounds_toArray, List.set_cons_succ, List.set_cons_zero] at ha'
  subst ha'
  refine wpList_known (Value.bool true) (by first | rfl | kernel_rfl) (by go_simp) (fun a' ha' => ?_)
  simp only [Act.put, List.setIfInBounds_toArray, List.set_cons_succ, List.set_cons_zero] at ha'
  subst ha'
  refine wpList_known (Value.bool true) (by first | rfl | kernel_rfl) (by go_simp) (fun a' ha' => ?_)
  simp only [Act.put, List.setIfInBounds_toArray, List.set_cons_succ, List.set_cons_zero] at ha'
  subst ha'
  refine wpList_known (Value.bool S3) (by first | rfl | kernel_rfl) (by go_simp) (fun a' ha' => ?_)
  simp only [Act.put, List.setIfInBounds_toArray, List.set_cons_succ, List.set_cons_zero] at ha'
  subst ha'
  refine wpList_known (Value.bool S3) (by first | rfl | kernel_rfl) (by go_simp) (fun a' ha' => ?_)
  simp only [Act.put, List.setIfInBounds_toArray, List.set_cons_succ, List.set_cons_zero] at ha'
  subst ha'
  refine wpList_known (Value.bool true) (by first | rfl | kernel_rfl) (by go_simp) (fun a' ha' => ?_)
  simp only [Act.put, List.setIfInBounds_toArray, List.set_cons_succ, List.set_cons_zero] at ha'
  subst ha'
  refine wpList_known (Value.bool true) (by first | rfl | kernel_rfl) (by go_simp) (fun a' ha' => ?_)
  simp only [Act.put, List.setIfInBounds_toArray, List.set_cons_succ, List.set_cons_zero] at ha'
  subst ha'
  refine wpList_known (Value.bool true) (by first | rfl | kernel_rfl) (by go_simp) (fun a' ha' => ?_)
  simp only [Act.put, List.setIfInBounds_toArray, List.set_cons_succ, List.set_cons_zero] at ha'
  subst ha'
  refine wpList_known (Value.int .i64 (S4 : Int)) (by first | rfl | kernel_rfl) (by go_simp) (fun a' ha' => ?_)
  simp only [Act.put, List.setIfInBounds_toArray, List.set_cons_succ, List.set_cons_zero] at ha'
  subst ha'
  refine wpList_known (Value.int .i64 (S4 : Int)) (by first | rfl | kernel_rfl) (by go_simp) (fun a' ha' => ?_)
  simp only [Act.put, List.setIfInBounds_toArray, List.set_cons_succ, List.set_cons_zero] at ha'
  subst ha'
  refine wpList_known (Value.bool true) (by first | rfl | kernel_rfl) (by go_simp) (fun a' ha' => ?_)
  simp only [Act.put, List.setIfInBounds_toArray, List.set_cons_succ, List.set_cons_zero] at ha'
  subst ha'
  refine wpList_known (Value.bool true) (by first | rfl | kernel_rfl) (by go_simp) (fun a' ha' => ?_)
  simp only [Act.put, List.setIfInBounds_toArray, List.set_cons_succ, List.set_cons_zero] at ha'
  subst ha'
  refine wpList_known (Value.bool true) (by first | rfl | kernel_rfl) (by go_simp) (fun a' ha' => ?_)
  simp only [Act.put, List.setIfInBounds_toArray, List.set_cons_succ, List.set_cons_zero] at ha'
  subst ha'
  refine wpList_nil ?_
  show K7 _ _
  refine hK7 _ _ ?_
  go_wp2_with fail
  go_ret
  exact ⟨rfl, hB6⟩
end Go.Proofs.YtldgnkngjdgiaaaDoor
