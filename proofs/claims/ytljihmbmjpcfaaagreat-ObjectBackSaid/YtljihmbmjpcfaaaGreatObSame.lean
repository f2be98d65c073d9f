/- Two objects held against one another: the program's (tools/genobsame.py). -/
import Derived.Test.YtljihmbmjpcfaaaGreatObLinks
namespace Go.Proofs.YtljihmbmjpcfaaaGreat
open Go.RowKit Go.Shelf Go.Great
set_option maxRecDepth 100000

theorem beqT {a b : Int} (h : a = b) : (a == b) = true := by simp [h]
theorem beqF {a b : Int} (h : ¬ a = b) : (a == b) = false := by simp [h]
set_option maxHeartbeats 4000000 in
theorem oSame_0 (w : World) (a b : Ob) (p q : Pl) (ha : ObIs w a p) (hb : ObIs w b q) (_sp : PlSmall p) (_sq : PlSmall q) (e0 : ¬ p.kd = q.kd) :
    Calls Tryz.prog 16 #[ObV a, ObV b] w fun e W' => e = .returned (.bool (decide (p = q))) ∧ Below w.heap.size w W' := by
  have HE := Lib.hid (decide_eq_false (show ¬ p = q from fun h => e0 (by rw [h])))
  have HA := Lib.hid ha
  have HB := Lib.hid hb
  have f0 : (a.kd == b.kd) = false := beqF (by rw [ha.kd, hb.kd]; exact e0)
  clear ha hb e0
  have hta := a.h
  have htb := b.h
  go_enter Tryz.func16, Tryz.ntmps16
  go_wp2_with (first
    | (refine wpList_box_e (E := eOb) rfl (.tmp 0) rfl (x := a) rfl ?_; intro w1 bA hB1)
    | (refine wpList_box_e (E := eOb) rfl (.tmp 1) rfl (x := b) rfl ?_; intro w2 bB hB12; replace bA : BoxOb w2 w.heap.size a := bA.below hB12; have hB2 : Below w.heap.size w w2 := hB1.trans (hB12.mono hB1.size); have a0 := bA.obc.kd; have b0 := bB.obc.kd; have a1 := bA.obc.dv; have b1 := bB.obc.dv))
  go_ret
  exact ⟨by rw [HE.out]; rfl, hB2⟩
set_option maxHeartbeats 4000000 in
theorem oSame_1 (w : World) (a b : Ob) (p q : Pl) (ha : ObIs w a p) (hb : ObIs w b q) (_sp : PlSmall p) (_sq : PlSmall q) (e0 : p.kd = q.kd) (e1 : ¬ p.d = q.d) :
    Calls Tryz.prog 16 #[ObV a, ObV b] w fun e W' => e = .returned (.bool (decide (p = q))) ∧ Below w.heap.size w W' := by
  have HE := Lib.hid (decide_eq_false (show ¬ p = q from fun h => e1 (by rw [h])))
  have HA := Lib.hid ha
  have HB := Lib.hid hb
  have f0 : (a.kd == b.kd) = true := beqT (by rw [ha.kd, hb.kd]; exact e0)
  have F1 := Lib.hid (show decide (p.d = q.d) = false by simp [e1])
  clear ha hb e0 e1
  have hta := a.h
  have htb := b.h
  go_enter Tryz.func16, Tryz.ntmps16
  go_wp2_with (first
    | (refine wpList_box_e (E := eOb) rfl (.tmp 0) rfl (x := a) rfl ?_; intro w1 bA hB1)
    | (refine wpList_box_e (E := eOb) rfl (.tmp 1) rfl (x := b) rfl ?_; intro w2 bB hB12; replace bA : BoxOb w2 w.heap.size a := bA.below hB12; have hB2 : Below w.heap.size w w2 := hB1.trans (hB12.mono hB1.size); have a0 := bA.obc.kd; have b0 := bB.obc.kd; have a1 := bA.obc.dv; have b1 := bB.obc.dv))
  refine (bEqual_any w2 a.dv.v b.dv.v p.d q.d (HA.out.d.below hB2) (HB.out.d.below hB2)).mono ?_
  rintro e w3 ⟨rfl, hw3⟩
  rw [F1.out]
  have hBw3 : Below w.heap.size w w3 := hB2.trans (hw3.mono hB2.size)
  replace bA : BoxOb w3 w.heap.size a := bA.below hw3
  replace bB : BoxOb w3 w1.heap.size b := bB.below hw3
  go_wp2_with fail
  go_ret
  exact ⟨by rw [HE.out]; rfl, hBw3⟩
set_option maxHeartbeats 4000000 in
theorem oSame_2 (w : World) (a b : Ob) (p q : Pl) (ha : ObIs w a p) (hb : ObIs w b q) (sp : PlSmall p) (sq : PlSmall q) (e0 : p.kd = q.kd) (e1 : p.d = q.d) (e2 : ¬ p.es = q.es) :
    Calls Tryz.prog 16 #[ObV a, ObV b] w fun e W' => e = .returned (.bool (decide (p = q))) ∧ Below w.heap.size w W' := by
  have HE := Lib.hid (decide_eq_false (show ¬ p = q from fun h => e2 (by rw [h])))
  have HA := Lib.hid ha
  have HB := Lib.hid hb
  have f0 : (a.kd == b.kd) = true := beqT (by rw [ha.kd, hb.kd]; exact e0)
  have F1 := Lib.hid (show decide (p.d = q.d) = true by simp [e1])
  have F2 := Lib.hid (show decide (p.es = q.es) = false by simp [e2])
  clear ha hb e0 e1 e2
  have hta := a.h
  have htb := b.h
  go_enter Tryz.func16, Tryz.ntmps16
  go_wp2_with (first
    | (refine wpList_box_e (E := eOb) rfl (.tmp 0) rfl (x := a) rfl ?_; intro w1 bA hB1)
    | (refine wpList_box_e (E := eOb) rfl (.tmp 1) rfl (x := b) rfl ?_; intro w2 bB hB12; replace bA : BoxOb w2 w.heap.size a := bA.below hB12; have hB2 : Below w.heap.size w w2 := hB1.trans (hB12.mono hB1.size); have a0 := bA.obc.kd; have b0 := bB.obc.kd; have a1 := bA.obc.dv; have b1 := bB.obc.dv))
  refine (bEqual_any w2 a.dv.v b.dv.v p.d q.d (HA.out.d.below hB2) (HB.out.d.below hB2)).mono ?_
  rintro e w3 ⟨rfl, hw3⟩
  rw [F1.out]
  have hBw3 : Below w.heap.size w w3 := hB2.trans (hw3.mono hB2.size)
  replace bA : BoxOb w3 w.heap.size a := bA.below hw3
  replace bB : BoxOb w3 w1.heap.size b := bB.below hw3
  have a_ev := bA.obc.ev
  have b_ev := bB.obc.ev
  go_wp2_with fail
  refine (enEqual_any w3 a.ev.v b.ev.v p.es q.es (HA.out.es.below hBw3) (HB.out.es.below hBw3) (by have := sp.es; omega) (by have := sq.es; omega)).mono ?_
  rintro e w4 ⟨rfl, hw4⟩
  rw [F2.out]
  have hBw4 : Below w.heap.size w w4 := hBw3.trans (hw4.mono hBw3.size)
  replace bA : BoxOb w4 w.heap.size a := bA.below hw4
  replace bB : BoxOb w4 w1.heap.size b := bB.below hw4
  go_wp2_with fail
  go_ret
  exact ⟨by rw [HE.out]; rfl, hBw4⟩
set_option maxHeartbeats 4000000 in
theorem oSame_3 (w : World) (a b : Ob) (p q : Pl) (ha : ObIs w a p) (hb : ObIs w b q) (sp : PlSmall p) (sq : PlSmall q) (e0 : p.kd = q.kd) (e1 : p.d = q.d) (e2 : p.es = q.es) (e3 : ¬ p.tree = q.tree) :
    Calls Tryz.prog 16 #[ObV a, ObV b] w fun e W' => e = .returned (.bool (decide (p = q))) ∧ Below w.heap.size w W' := by
  have HE := Lib.hid (decide_eq_false (show ¬ p = q from fun h => e3 (by rw [h])))
  have HA := Lib.hid ha
  have HB := Lib.hid hb
  have f0 : (a.kd == b.kd) = true := beqT (by rw [ha.kd, hb.kd]; exact e0)
  have F1 := Lib.hid (show decide (p.d = q.d) = true by simp [e1])
  have F2 := Lib.hid (show decide (p.es = q.es) = true by simp [e2])
  have F3 := Lib.hid (show decide (a.tree = b.tree) = false by rw [ha.tree, hb.tree]; simp [e3])
  clear ha hb e0 e1 e2 e3
  have hta := a.h
  have htb := b.h
  go_enter Tryz.func16, Tryz.ntmps16
  go_wp2_with (first
    | (refine wpList_box_e (E := eOb) rfl (.tmp 0) rfl (x := a) rfl ?_; intro w1 bA hB1)
    | (refine wpList_box_e (E := eOb) rfl (.tmp 1) rfl (x := b) rfl ?_; intro w2 bB hB12; replace bA : BoxOb w2 w.heap.size a := bA.below hB12; have hB2 : Below w.heap.size w w2 := hB1.trans (hB12.mono hB1.size); have a0 := bA.obc.kd; have b0 := bB.obc.kd; have a1 := bA.obc.dv; have b1 := bB.obc.dv))
  refine (bEqual_any w2 a.dv.v b.dv.v p.d q.d (HA.out.d.below hB2) (HB.out.d.below hB2)).mono ?_
  rintro e w3 ⟨rfl, hw3⟩
  rw [F1.out]
  have hBw3 : Below w.heap.size w w3 := hB2.trans (hw3.mono hB2.size)
  replace bA : BoxOb w3 w.heap.size a := bA.below hw3
  replace bB : BoxOb w3 w1.heap.size b := bB.below hw3
  have a_ev := bA.obc.ev
  have b_ev := bB.obc.ev
  go_wp2_with fail
  refine (enEqual_any w3 a.ev.v b.ev.v p.es q.es (HA.out.es.below hBw3) (HB.out.es.below hBw3) (by have := sp.es; omega) (by have := sq.es; omega)).mono ?_
  rintro e w4 ⟨rfl, hw4⟩
  rw [F2.out]
  have hBw4 : Below w.heap.size w w4 := hBw3.trans (hw4.mono hBw3.size)
  replace bA : BoxOb w4 w.heap.size a := bA.below hw4
  replace bB : BoxOb w4 w1.heap.size b := bB.below hw4
  have a_tree := bA.obc.tree
  have b_tree := bB.obc.tree
  go_wp2_with (first
    | (refine list_known (IdV a.tree) (by first | rfl | kernel_rfl) (exec_load_id rfl rfl hta a_tree) (fun a' ha' => ha' ▸ ?_))
    | (refine list_known (IdV b.tree) (by first | rfl | kernel_rfl) (exec_load_id rfl rfl htb b_tree) (fun a' ha' => ha' ▸ ?_))
    | (refine list_known (.bool false) (by first | rfl | kernel_rfl) ((exec_eqlI (x := a.tree) (y := b.tree) rfl rfl rfl hta htb).trans (by rw [F3.out])) (fun a' ha' => ha' ▸ ?_)))
  go_ret
  exact ⟨by rw [HE.out]; rfl, hBw4⟩
set_option maxHeartbeats 4000000 in
theorem oSame_4 (w : World) (a b : Ob) (p q : Pl) (ha : ObIs w a p) (hb : ObIs w b q) (sp : PlSmall p) (sq : PlSmall q) (e0 : p.kd = q.kd) (e1 : p.d = q.d) (e2 : p.es = q.es) (e3 : p.tree = q.tree) (e4 : ¬ p.ps = q.ps) :
    Calls Tryz.prog 16 #[ObV a, ObV b] w fun e W' => e = .returned (.bool (decide (p = q))) ∧ Below w.heap.size w W' := by
  have HE := Lib.hid (decide_eq_false (show ¬ p = q from fun h => e4 (by rw [h])))
  have HA := Lib.hid ha
  have HB := Lib.hid hb
  have f0 : (a.kd == b.kd) = true := beqT (by rw [ha.kd, hb.kd]; exact e0)
  have F1 := Lib.hid (show decide (p.d = q.d) = true by simp [e1])
  have F2 := Lib.hid (show decide (p.es = q.es) = true by simp [e2])
  have F3 := Lib.hid (show decide (a.tree = b.tree) = true by rw [ha.tree, hb.tree]; simp [e3])
  have F4 := Lib.hid (show decide (p.ps = q.ps) = false by simp [e4])
  clear ha hb e0 e1 e2 e3 e4
  have hta := a.h
  have htb := b.h
  go_enter Tryz.func16, Tryz.ntmps16
  go_wp2_with (first
    | (refine wpList_box_e (E := eOb) rfl (.tmp 0) rfl (x := a) rfl ?_; intro w1 bA hB1)
    | (refine wpList_box_e (E := eOb) rfl (.tmp 1) rfl (x := b) rfl ?_; intro w2 bB hB12; replace bA : BoxOb w2 w.heap.size a := bA.below hB12; have hB2 : Below w.heap.size w w2 := hB1.trans (hB12.mono hB1.size); have a0 := bA.obc.kd; have b0 := bB.obc.kd; have a1 := bA.obc.dv; have b1 := bB.obc.dv))
  refine (bEqual_any w2 a.dv.v b.dv.v p.d q.d (HA.out.d.below hB2) (HB.out.d.below hB2)).mono ?_
  rintro e w3 ⟨rfl, hw3⟩
  rw [F1.out]
  have hBw3 : Below w.heap.size w w3 := hB2.trans (hw3.mono hB2.size)
  replace bA : BoxOb w3 w.heap.size a := bA.below hw3
  replace bB : BoxOb w3 w1.heap.size b := bB.below hw3
  have a_ev := bA.obc.ev
  have b_ev := bB.obc.ev
  go_wp2_with fail
  refine (enEqual_any w3 a.ev.v b.ev.v p.es q.es (HA.out.es.below hBw3) (HB.out.es.below hBw3) (by have := sp.es; omega) (by have := sq.es; omega)).mono ?_
  rintro e w4 ⟨rfl, hw4⟩
  rw [F2.out]
  have hBw4 : Below w.heap.size w w4 := hBw3.trans (hw4.mono hBw3.size)
  replace bA : BoxOb w4 w.heap.size a := bA.below hw4
  replace bB : BoxOb w4 w1.heap.size b := bB.below hw4
  have a_tree := bA.obc.tree
  have b_tree := bB.obc.tree
  have a_pv := bA.obc.pv
  have b_pv := bB.obc.pv
  go_wp2_with (first
    | (refine list_known (IdV a.tree) (by first | rfl | kernel_rfl) (exec_load_id rfl rfl hta a_tree) (fun a' ha' => ha' ▸ ?_))
    | (refine list_known (IdV b.tree) (by first | rfl | kernel_rfl) (exec_load_id rfl rfl htb b_tree) (fun a' ha' => ha' ▸ ?_))
    | (refine list_known (.bool true) (by first | rfl | kernel_rfl) ((exec_eqlI (x := a.tree) (y := b.tree) rfl rfl rfl hta htb).trans (by rw [F3.out])) (fun a' ha' => ha' ▸ ?_)))
  refine (idEqual_any w4 a.pv.v b.pv.v p.ps q.ps (HA.out.ps.below hBw4) (HB.out.ps.below hBw4) (by have := sp.ps; omega) (by have := sq.ps; omega)).mono ?_
  rintro e w5 ⟨rfl, hw5⟩
  rw [F4.out]
  have hBw5 : Below w.heap.size w w5 := hBw4.trans (hw5.mono hBw4.size)
  replace bA : BoxOb w5 w.heap.size a := bA.below hw5
  replace bB : BoxOb w5 w1.heap.size b := bB.below hw5
  go_wp2_with fail
  go_ret
  exact ⟨by rw [HE.out]; rfl, hBw5⟩
set_option maxHeartbeats 4000000 in
theorem oSame_5 (w : World) (a b : Ob) (p q : Pl) (ha : ObIs w a p) (hb : ObIs w b q) (sp : PlSmall p) (sq : PlSmall q) (e0 : p.kd = q.kd) (e1 : p.d = q.d) (e2 : p.es = q.es) (e3 : p.tree = q.tree) (e4 : p.ps = q.ps) (e5 : ¬ p.tg = q.tg) :
    Calls Tryz.prog 16 #[ObV a, ObV b] w fun e W' => e = .returned (.bool (decide (p = q))) ∧ Below w.heap.size w W' := by
  have HE := Lib.hid (decide_eq_false (show ¬ p = q from fun h => e5 (by rw [h])))
  have HA := Lib.hid ha
  have HB := Lib.hid hb
  have f0 : (a.kd == b.kd) = true := beqT (by rw [ha.kd, hb.kd]; exact e0)
  have F1 := Lib.hid (show decide (p.d = q.d) = true by simp [e1])
  have F2 := Lib.hid (show decide (p.es = q.es) = true by simp [e2])
  have F3 := Lib.hid (show decide (a.tree = b.tree) = true by rw [ha.tree, hb.tree]; simp [e3])
  have F4 := Lib.hid (show decide (p.ps = q.ps) = true by simp [e4])
  have F5 := Lib.hid (show decide (a.tg = b.tg) = false by rw [ha.tg, hb.tg]; simp [e5])
  clear ha hb e0 e1 e2 e3 e4 e5
  have hta := a.h
  have htb := b.h
  go_enter Tryz.func16, Tryz.ntmps16
  go_wp2_with (first
    | (refine wpList_box_e (E := eOb) rfl (.tmp 0) rfl (x := a) rfl ?_; intro w1 bA hB1)
    | (refine wpList_box_e (E := eOb) rfl (.tmp 1) rfl (x := b) rfl ?_; intro w2 bB hB12; replace bA : BoxOb w2 w.heap.size a := bA.below hB12; have hB2 : Below w.heap.size w w2 := hB1.trans (hB12.mono hB1.size); have a0 := bA.obc.kd; have b0 := bB.obc.kd; have a1 := bA.obc.dv; have b1 := bB.obc.dv))
  refine (bEqual_any w2 a.dv.v b.dv.v p.d q.d (HA.out.d.below hB2) (HB.out.d.below hB2)).mono ?_
  rintro e w3 ⟨rfl, hw3⟩
  rw [F1.out]
  have hBw3 : Below w.heap.size w w3 := hB2.trans (hw3.mono hB2.size)
  replace bA : BoxOb w3 w.heap.size a := bA.below hw3
  replace bB : BoxOb w3 w1.heap.size b := bB.below hw3
  have a_ev := bA.obc.ev
  have b_ev := bB.obc.ev
  go_wp2_with fail
  refine (enEqual_any w3 a.ev.v b.ev.v p.es q.es (HA.out.es.below hBw3) (HB.out.es.below hBw3) (by have := sp.es; omega) (by have := sq.es; omega)).mono ?_
  rintro e w4 ⟨rfl, hw4⟩
  rw [F2.out]
  have hBw4 : Below w.heap.size w w4 := hBw3.trans (hw4.mono hBw3.size)
  replace bA : BoxOb w4 w.heap.size a := bA.below hw4
  replace bB : BoxOb w4 w1.heap.size b := bB.below hw4
  have a_tree := bA.obc.tree
  have b_tree := bB.obc.tree
  have a_pv := bA.obc.pv
  have b_pv := bB.obc.pv
  go_wp2_with (first
    | (refine list_known (IdV a.tree) (by first | rfl | kernel_rfl) (exec_load_id rfl rfl hta a_tree) (fun a' ha' => ha' ▸ ?_))
    | (refine list_known (IdV b.tree) (by first | rfl | kernel_rfl) (exec_load_id rfl rfl htb b_tree) (fun a' ha' => ha' ▸ ?_))
    | (refine list_known (.bool true) (by first | rfl | kernel_rfl) ((exec_eqlI (x := a.tree) (y := b.tree) rfl rfl rfl hta htb).trans (by rw [F3.out])) (fun a' ha' => ha' ▸ ?_)))
  refine (idEqual_any w4 a.pv.v b.pv.v p.ps q.ps (HA.out.ps.below hBw4) (HB.out.ps.below hBw4) (by have := sp.ps; omega) (by have := sq.ps; omega)).mono ?_
  rintro e w5 ⟨rfl, hw5⟩
  rw [F4.out]
  have hBw5 : Below w.heap.size w w5 := hBw4.trans (hw5.mono hBw4.size)
  replace bA : BoxOb w5 w.heap.size a := bA.below hw5
  replace bB : BoxOb w5 w1.heap.size b := bB.below hw5
  have a_tg := bA.obc.tg
  have b_tg := bB.obc.tg
  go_wp2_with (first
    | (refine list_known (LkV a.tg) (by first | rfl | kernel_rfl) (exec_load_el (E := eLk) Tryz.underlying28 rfl sizeLk rfl rfl a_tg) (fun a' ha' => ha' ▸ ?_))
    | (refine list_known (LkV b.tg) (by first | rfl | kernel_rfl) (exec_load_el (E := eLk) Tryz.underlying28 rfl sizeLk rfl rfl b_tg) (fun a' ha' => ha' ▸ ?_))
    | (refine list_known (.bool false) (by first | rfl | kernel_rfl) ((exec_eql_lk (x := a.tg) (y := b.tg) rfl rfl rfl).trans (by rw [F5.out])) (fun a' ha' => ha' ▸ ?_)))
  go_ret
  exact ⟨by rw [HE.out]; rfl, hBw5⟩
set_option maxHeartbeats 4000000 in
theorem oSame_6 (w : World) (a b : Ob) (p q : Pl) (ha : ObIs w a p) (hb : ObIs w b q) (sp : PlSmall p) (sq : PlSmall q) (e0 : p.kd = q.kd) (e1 : p.d = q.d) (e2 : p.es = q.es) (e3 : p.tree = q.tree) (e4 : p.ps = q.ps) (e5 : p.tg = q.tg) (e6 : ¬ p.msg = q.msg) :
    Calls Tryz.prog 16 #[ObV a, ObV b] w fun e W' => e = .returned (.bool (decide (p = q))) ∧ Below w.heap.size w W' := by
  have HE := Lib.hid (decide_eq_false (show ¬ p = q from fun h => e6 (by rw [h])))
  have HA := Lib.hid ha
  have HB := Lib.hid hb
  have f0 : (a.kd == b.kd) = true := beqT (by rw [ha.kd, hb.kd]; exact e0)
  have F1 := Lib.hid (show decide (p.d = q.d) = true by simp [e1])
  have F2 := Lib.hid (show decide (p.es = q.es) = true by simp [e2])
  have F3 := Lib.hid (show decide (a.tree = b.tree) = true by rw [ha.tree, hb.tree]; simp [e3])
  have F4 := Lib.hid (show decide (p.ps = q.ps) = true by simp [e4])
  have F5 := Lib.hid (show decide (a.tg = b.tg) = true by rw [ha.tg, hb.tg]; simp [e5])
  have f6 : (a.msg == b.msg) = false := by rw [ha.msg, hb.msg]; simp [e6]
  clear ha hb e0 e1 e2 e3 e4 e5 e6
  have hta := a.h
  have htb := b.h
  go_enter Tryz.func16, Tryz.ntmps16
  go_wp2_with (first
    | (refine wpList_box_e (E := eOb) rfl (.tmp 0) rfl (x := a) rfl ?_; intro w1 bA hB1)
    | (refine wpList_box_e (E := eOb) rfl (.tmp 1) rfl (x := b) rfl ?_; intro w2 bB hB12; replace bA : BoxOb w2 w.heap.size a := bA.below hB12; have hB2 : Below w.heap.size w w2 := hB1.trans (hB12.mono hB1.size); have a0 := bA.obc.kd; have b0 := bB.obc.kd; have a1 := bA.obc.dv; have b1 := bB.obc.dv))
  refine (bEqual_any w2 a.dv.v b.dv.v p.d q.d (HA.out.d.below hB2) (HB.out.d.below hB2)).mono ?_
  rintro e w3 ⟨rfl, hw3⟩
  rw [F1.out]
  have hBw3 : Below w.heap.size w w3 := hB2.trans (hw3.mono hB2.size)
  replace bA : BoxOb w3 w.heap.size a := bA.below hw3
  replace bB : BoxOb w3 w1.heap.size b := bB.below hw3
  have a_ev := bA.obc.ev
  have b_ev := bB.obc.ev
  go_wp2_with fail
  refine (enEqual_any w3 a.ev.v b.ev.v p.es q.es (HA.out.es.below hBw3) (HB.out.es.below hBw3) (by have := sp.es; omega) (by have := sq.es; omega)).mono ?_
  rintro e w4 ⟨rfl, hw4⟩
  rw [F2.out]
  have hBw4 : Below w.heap.size w w4 := hBw3.trans (hw4.mono hBw3.size)
  replace bA : BoxOb w4 w.heap.size a := bA.below hw4
  replace bB : BoxOb w4 w1.heap.size b := bB.below hw4
  have a_tree := bA.obc.tree
  have b_tree := bB.obc.tree
  have a_pv := bA.obc.pv
  have b_pv := bB.obc.pv
  go_wp2_with (first
    | (refine list_known (IdV a.tree) (by first | rfl | kernel_rfl) (exec_load_id rfl rfl hta a_tree) (fun a' ha' => ha' ▸ ?_))
    | (refine list_known (IdV b.tree) (by first | rfl | kernel_rfl) (exec_load_id rfl rfl htb b_tree) (fun a' ha' => ha' ▸ ?_))
    | (refine list_known (.bool true) (by first | rfl | kernel_rfl) ((exec_eqlI (x := a.tree) (y := b.tree) rfl rfl rfl hta htb).trans (by rw [F3.out])) (fun a' ha' => ha' ▸ ?_)))
  refine (idEqual_any w4 a.pv.v b.pv.v p.ps q.ps (HA.out.ps.below hBw4) (HB.out.ps.below hBw4) (by have := sp.ps; omega) (by have := sq.ps; omega)).mono ?_
  rintro e w5 ⟨rfl, hw5⟩
  rw [F4.out]
  have hBw5 : Below w.heap.size w w5 := hBw4.trans (hw5.mono hBw4.size)
  replace bA : BoxOb w5 w.heap.size a := bA.below hw5
  replace bB : BoxOb w5 w1.heap.size b := bB.below hw5
  have a_tg := bA.obc.tg
  have b_tg := bB.obc.tg
  have a_msg := bA.obc.msg
  have b_msg := bB.obc.msg
  go_wp2_with (first
    | (refine list_known (LkV a.tg) (by first | rfl | kernel_rfl) (exec_load_el (E := eLk) Tryz.underlying28 rfl sizeLk rfl rfl a_tg) (fun a' ha' => ha' ▸ ?_))
    | (refine list_known (LkV b.tg) (by first | rfl | kernel_rfl) (exec_load_el (E := eLk) Tryz.underlying28 rfl sizeLk rfl rfl b_tg) (fun a' ha' => ha' ▸ ?_))
    | (refine list_known (.bool true) (by first | rfl | kernel_rfl) ((exec_eql_lk (x := a.tg) (y := b.tg) rfl rfl rfl).trans (by rw [F5.out])) (fun a' ha' => ha' ▸ ?_)))
  go_ret
  exact ⟨by rw [HE.out]; rfl, hBw5⟩
set_option maxHeartbeats 4000000 in
theorem oSame_7 (w : World) (a b : Ob) (p q : Pl) (ha : ObIs w a p) (hb : ObIs w b q) (sp : PlSmall p) (sq : PlSmall q) (e0 : p.kd = q.kd) (e1 : p.d = q.d) (e2 : p.es = q.es) (e3 : p.tree = q.tree) (e4 : p.ps = q.ps) (e5 : p.tg = q.tg) (e6 : p.msg = q.msg) :
    Calls Tryz.prog 16 #[ObV a, ObV b] w fun e W' => e = .returned (.bool (decide (p = q))) ∧ Below w.heap.size w W' := by
  have HE := Lib.hid (decide_eq_true ((pl_ext p q).2 ⟨e0, e1, e2, e3, e4, e5, e6⟩))
  have HA := Lib.hid ha
  have HB := Lib.hid hb
  have f0 : (a.kd == b.kd) = true := beqT (by rw [ha.kd, hb.kd]; exact e0)
  have F1 := Lib.hid (show decide (p.d = q.d) = true by simp [e1])
  have F2 := Lib.hid (show decide (p.es = q.es) = true by simp [e2])
  have F3 := Lib.hid (show decide (a.tree = b.tree) = true by rw [ha.tree, hb.tree]; simp [e3])
  have F4 := Lib.hid (show decide (p.ps = q.ps) = true by simp [e4])
  have F5 := Lib.hid (show decide (a.tg = b.tg) = true by rw [ha.tg, hb.tg]; simp [e5])
  have f6 : (a.msg == b.msg) = true := by rw [ha.msg, hb.msg]; simp [e6]
  clear ha hb e0 e1 e2 e3 e4 e5 e6
  have hta := a.h
  have htb := b.h
  go_enter Tryz.func16, Tryz.ntmps16
  go_wp2_with (first
    | (refine wpList_box_e (E := eOb) rfl (.tmp 0) rfl (x := a) rfl ?_; intro w1 bA hB1)
    | (refine wpList_box_e (E := eOb) rfl (.tmp 1) rfl (x := b) rfl ?_; intro w2 bB hB12; replace bA : BoxOb w2 w.heap.size a := bA.below hB12; have hB2 : Below w.heap.size w w2 := hB1.trans (hB12.mono hB1.size); have a0 := bA.obc.kd; have b0 := bB.obc.kd; have a1 := bA.obc.dv; have b1 := bB.obc.dv))
  refine (bEqual_any w2 a.dv.v b.dv.v p.d q.d (HA.out.d.below hB2) (HB.out.d.below hB2)).mono ?_
  rintro e w3 ⟨rfl, hw3⟩
  rw [F1.out]
  have hBw3 : Below w.heap.size w w3 := hB2.trans (hw3.mono hB2.size)
  replace bA : BoxOb w3 w.heap.size a := bA.below hw3
  replace bB : BoxOb w3 w1.heap.size b := bB.below hw3
  have a_ev := bA.obc.ev
  have b_ev := bB.obc.ev
  go_wp2_with fail
  refine (enEqual_any w3 a.ev.v b.ev.v p.es q.es (HA.out.es.below hBw3) (HB.out.es.below hBw3) (by have := sp.es; omega) (by have := sq.es; omega)).mono ?_
  rintro e w4 ⟨rfl, hw4⟩
  rw [F2.out]
  have hBw4 : Below w.heap.size w w4 := hBw3.trans (hw4.mono hBw3.size)
  replace bA : BoxOb w4 w.heap.size a := bA.below hw4
  replace bB : BoxOb w4 w1.heap.size b := bB.below hw4
  have a_tree := bA.obc.tree
  have b_tree := bB.obc.tree
  have a_pv := bA.obc.pv
  have b_pv := bB.obc.pv
  go_wp2_with (first
    | (refine list_known (IdV a.tree) (by first | rfl | kernel_rfl) (exec_load_id rfl rfl hta a_tree) (fun a' ha' => ha' ▸ ?_))
    | (refine list_known (IdV b.tree) (by first | rfl | kernel_rfl) (exec_load_id rfl rfl htb b_tree) (fun a' ha' => ha' ▸ ?_))
    | (refine list_known (.bool true) (by first | rfl | kernel_rfl) ((exec_eqlI (x := a.tree) (y := b.tree) rfl rfl rfl hta htb).trans (by rw [F3.out])) (fun a' ha' => ha' ▸ ?_)))
  refine (idEqual_any w4 a.pv.v b.pv.v p.ps q.ps (HA.out.ps.below hBw4) (HB.out.ps.below hBw4) (by have := sp.ps; omega) (by have := sq.ps; omega)).mono ?_
  rintro e w5 ⟨rfl, hw5⟩
  rw [F4.out]
  have hBw5 : Below w.heap.size w w5 := hBw4.trans (hw5.mono hBw4.size)
  replace bA : BoxOb w5 w.heap.size a := bA.below hw5
  replace bB : BoxOb w5 w1.heap.size b := bB.below hw5
  have a_tg := bA.obc.tg
  have b_tg := bB.obc.tg
  have a_msg := bA.obc.msg
  have b_msg := bB.obc.msg
  go_wp2_with (first
    | (refine list_known (LkV a.tg) (by first | rfl | kernel_rfl) (exec_load_el (E := eLk) Tryz.underlying28 rfl sizeLk rfl rfl a_tg) (fun a' ha' => ha' ▸ ?_))
    | (refine list_known (LkV b.tg) (by first | rfl | kernel_rfl) (exec_load_el (E := eLk) Tryz.underlying28 rfl sizeLk rfl rfl b_tg) (fun a' ha' => ha' ▸ ?_))
    | (refine list_known (.bool true) (by first | rfl | kernel_rfl) ((exec_eql_lk (x := a.tg) (y := b.tg) rfl rfl rfl).trans (by rw [F5.out])) (fun a' ha' => ha' ▸ ?_)))
  go_ret
  exact ⟨by rw [HE.out]; rfl, hBw5⟩

theorem oSame_any (w : World) (a b : Ob) (p q : Pl) (ha : ObIs w a p) (hb : ObIs w b q) (sp : PlSmall p) (sq : PlSmall q) :
    Calls Tryz.prog 16 #[ObV a, ObV b] w fun e W' => e = .returned (.bool (decide (p = q))) ∧ Below w.heap.size w W' := by
  by_cases e0 : p.kd = q.kd
  case neg => exact oSame_0 w a b p q ha hb sp sq e0
  by_cases e1 : p.d = q.d
  case neg => exact oSame_1 w a b p q ha hb sp sq e0 e1
  by_cases e2 : p.es = q.es
  case neg => exact oSame_2 w a b p q ha hb sp sq e0 e1 e2
  by_cases e3 : p.tree = q.tree
  case neg => exact oSame_3 w a b p q ha hb sp sq e0 e1 e2 e3
  by_cases e4 : p.ps = q.ps
  case neg => exact oSame_4 w a b p q ha hb sp sq e0 e1 e2 e3 e4
  by_cases e5 : p.tg = q.tg
  case neg => exact oSame_5 w a b p q ha hb sp sq e0 e1 e2 e3 e4 e5
  by_cases e6 : p.msg = q.msg
  case neg => exact oSame_6 w a b p q ha hb sp sq e0 e1 e2 e3 e4 e5 e6
  exact oSame_7 w a b p q ha hb sp sq e0 e1 e2 e3 e4 e5 e6
end Go.Proofs.YtljihmbmjpcfaaaGreat
