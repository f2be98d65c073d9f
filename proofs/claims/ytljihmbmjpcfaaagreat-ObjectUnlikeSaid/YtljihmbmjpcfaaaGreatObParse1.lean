/- Numbers, kinds, bytes, texts, ids, entries read (tools/genobread2.py). Parse of bytes that tell one entry, and end. -/
import Derived.Test.YtljihmbmjpcfaaaGreatObRead
import Derived.Test.YtljihmbmjpcfaaaGreatObLinks
import Derived.Test.YtljihmbmjpcfaaaGreatOneE
namespace Go.Proofs.YtljihmbmjpcfaaaGreat
open Go.RowKit Go.Shelf Go.Great
set_option maxRecDepth 100000

theorem rdNum_le (most : Nat) (xs : List UInt8) (b : Bool) : (rdNum most xs b).1 ≤ most := by
  unfold rdNum
  split
  · exact Nat.zero_le _
  · split
    · next h => exact numRes_le h
    · exact Nat.zero_le _
set_option maxHeartbeats 1000000 in
theorem rNumber_any (w : World) (gr gs : Nat) (v : Value) (xs : List UInt8) (b : Bool) (hat : RdAt w gr gs v xs b) (hlen : xs.length ≤ 140737488355328) (most : Nat) :
    Calls Tryz.prog 81 #[.pointer (some ⟨gr, 0, none⟩), .int .u64 most] w fun e W' => e = .returned (.int .u64 (rdNum most xs b).1) ∧ RdOut w gr gs v (rdNum most xs b).2.1 (rdNum most xs b).2.2 W' := by
  have hmf : ∀ (fn : Fn) (first cap : Array Value) (w : World), (Instr.makeFunc fn first cap).run Tryz.prog w = .ok (.func fn first cap) w := fun _ _ _ _ => rfl
  have b1 := (Boxed.new w 107 (.pointer (some ⟨gr, 0, none⟩))).alloc (.cells #[.int .u64 most] 76)
  have b2 := Boxed.new (w.alloc (.cells #[.pointer (some ⟨gr, 0, none⟩)] 107)) 76 (.int .u64 most)
  have hB : Below w.heap.size w ((w.alloc (.cells #[.pointer (some ⟨gr, 0, none⟩)] 107)).alloc (.cells #[.int .u64 most] 76)) := ((Below.refl _ w).alloc (Nat.le_refl _) _).alloc (by simp) _
  rw [World.size_alloc] at b2
  have hat2 := hat.below hB
  have c1 := b1.cell
  have c2 := b2.cell
  cases b with
  | true =>
    go_enter Tryz.func81, Tryz.ntmps81
    go_wp2_with fail
    refine (rdU64_wrong _ gr gs v xs hat2 _).mono ?_
    rintro e w2 ⟨rfl, rfl⟩
    go_wp2_with fail
    go_ret
    exact ⟨rfl, .of_below hat hB⟩
  | false =>
    go_enter Tryz.func81, Tryz.ntmps81
    go_wp2_with fail
    refine (rdU64_right _ gr gs v xs hat2 hlen w.heap.size (w.heap.size + 1) most c1 c2).mono ?_
    rintro e w2 ⟨rfl, hout⟩
    have HO := Lib.hid hout
    clear hout
    go_wp2_with fail
    go_ret
    exact ⟨rfl, HO.out.ahead hB⟩
set_option maxHeartbeats 1000000 in
theorem rKind_any (w : World) (gr gs : Nat) (v : Value) (xs : List UInt8) (b : Bool) (hat : RdAt w gr gs v xs b) (hlen : xs.length ≤ 140737488355328) :
    Calls Tryz.prog 52 #[.pointer (some ⟨gr, 0, none⟩)] w fun e W' => e = .returned (.int .i64 (rdNum 4 xs b).1) ∧ RdOut w gr gs v (rdNum 4 xs b).2.1 (rdNum 4 xs b).2.2 W' := by
  have hle := rdNum_le 4 xs b
  have hn := rNumber_any w gr gs v xs b hat hlen 4
  generalize rdNum 4 xs b = res at *
  obtain ⟨m, ys, b'⟩ := res
  dsimp only at hle hn ⊢
  have hw : IntKind.i64.wrap (m : Int) = (m : Int) := IntWalk.i64_in _ (by omega)
  go_enter Tryz.func52, Tryz.ntmps52
  go_wp2_with fail
  refine hn.mono ?_
  rintro e w2 ⟨rfl, hout⟩
  have HO := Lib.hid hout
  clear hout hn
  go_wp2_with fail
  go_ret
  exact ⟨rfl, HO.out⟩
set_option maxHeartbeats 1000000 in
theorem rBytes_any (w : World) (gr gs : Nat) (v : Value) (xs : List UInt8) (b : Bool) (hat : RdAt w gr gs v xs b) (hlen : xs.length ≤ 140737488355328) (most : Int) (hm0 : 0 ≤ most) (hm : most ≤ 100000) :
    Calls Tryz.prog 206 #[.pointer (some ⟨gr, 0, none⟩), .int .i64 most] w fun e W' => ∃ r, e = .returned r ∧ W'.ownsRow w.heap.size 5 1 r (rdBy most xs b).1.length ((rdBy most xs b).1.map B8) ∧ RdOut w gr gs v (rdBy most xs b).2.1 (rdBy most xs b).2.2 W' := by
  have hmf : ∀ (fn : Fn) (first cap : Array Value) (w : World), (Instr.makeFunc fn first cap).run Tryz.prog w = .ok (.func fn first cap) w := fun _ _ _ _ => rfl
  have b1 := (Boxed.new w 107 (.pointer (some ⟨gr, 0, none⟩))).alloc (.cells #[.int .i64 most] 3)
  have b2 := Boxed.new (w.alloc (.cells #[.pointer (some ⟨gr, 0, none⟩)] 107)) 3 (.int .i64 most)
  have hB : Below w.heap.size w ((w.alloc (.cells #[.pointer (some ⟨gr, 0, none⟩)] 107)).alloc (.cells #[.int .i64 most] 3)) := ((Below.refl _ w).alloc (Nat.le_refl _) _).alloc (by simp) _
  rw [World.size_alloc] at b2
  have hat2 := hat.below hB
  have c1 := b1.cell
  have c2 := b2.cell
  cases b with
  | true =>
    go_enter Tryz.func206, Tryz.ntmps206
    go_wp2_with fail
    refine (rdBytes_wrong _ gr gs v xs hat2 _).mono ?_
    rintro e w2 ⟨rfl, rfl⟩
    go_wp2_with fail
    go_ret
    exact ⟨_, rfl, World.ownsRow_nil _ _ _ _, .of_below hat hB⟩
  | false =>
    go_enter Tryz.func206, Tryz.ntmps206
    go_wp2_with fail
    refine (rdBytes_right _ gr gs v xs hat2 hlen w.heap.size (w.heap.size + 1) most hm0 hm c1 c2).mono ?_
    rintro e w2 ⟨r, rfl, hrow, hout⟩
    have HO := Lib.hid hout
    have HR := Lib.hid hrow
    obtain ⟨A, n, c, rfl⟩ := owns_slice hrow
    clear hout hrow
    go_wp2_with fail
    go_ret
    exact ⟨_, rfl, owns_base HR.out hB.size, HO.out.ahead hB⟩
set_option maxHeartbeats 1000000 in
theorem rdText_any (w : World) (gr gs : Nat) (v : Value) (xs : List UInt8) (b : Bool) (hat : RdAt w gr gs v xs b) (hlen : xs.length ≤ 140737488355328) (most : Int) (hm0 : 0 ≤ most) (hm : most ≤ 100000) :
    Calls Tryz.prog 228 #[.pointer (some ⟨gr, 0, none⟩), .int .i64 most] w fun e W' => e = .returned (Str (rdBy most xs b).1) ∧ RdOut w gr gs v (rdBy most xs b).2.1 (rdBy most xs b).2.2 W' := by
  have hn := rBytes_any w gr gs v xs b hat hlen most hm0 hm
  generalize rdBy most xs b = res at *
  obtain ⟨m, ys, b'⟩ := res
  dsimp only at hn ⊢
  go_enter Tryz.func228, Tryz.ntmps228
  go_wp2_with fail
  refine hn.mono ?_
  rintro e w2 ⟨r, rfl, hrow, hout⟩
  have HO := Lib.hid hout
  have hcv := run_string_bs (P := Tryz.prog) w2 22 9 5 Tryz.underlying22 Tryz.underlying5 Tryz.underlying9 (Bs.of_owns hrow)
  obtain ⟨A, n, c, rfl⟩ := owns_slice hrow
  clear hout hn hrow
  go_wp2_with fail
  go_ret
  exact ⟨rfl, HO.out⟩
theorem copy_nil (w : World) (b : Nat) : (Builtin.copy_ #[22, 22] 3 #[.slice (some ⟨b, 0, none⟩) 32 32, .slice none 0 0]).run Tryz.prog w = .ok (.int .i64 0) w := by
  obtain ⟨i0, hi, hz0, hz1, hz2⟩ := info_parts infoU8
  simp [Builtin.copy_, run_underlying Tryz.underlying22, sizeOf, typeInfo, hi, Builtin.lenOf, Builtin.firstCells, storeCells, goInt]
theorem rdBytes_wrongB (w : World) (gr gs : Nat) (v : Value) (xs : List UInt8) (hat : RdAt w gr gs v xs true) (f : Value) :
    Calls Tryz.prog 208 #[.pointer (some ⟨gr, 0, none⟩), f] w fun e W' => e = .returned (.slice none 0 0) ∧ Below w.heap.size w W' :=
  (rdBytes_wrong w gr gs v xs hat f).mono fun e W' h => ⟨h.1, by rw [h.2]; exact Below.refl _ _⟩
set_option maxHeartbeats 2000000 in
/-- An id, where something was wrong already: noughts. -/
theorem rId_wrong (w : World) (gr gs : Nat) (v : Value) (xs : List UInt8) (hat : RdAt w gr gs v xs true) :
    Calls Tryz.prog 229 #[.pointer (some ⟨gr, 0, none⟩)] w fun e W' => e = .returned (IdV zeroID) ∧ Below w.heap.size w W' := by
  have hmf : ∀ (fn : Fn) (first cap : Array Value) (w : World), (Instr.makeFunc fn first cap).run Tryz.prog w = .ok (.func fn first cap) w := fun _ _ _ _ => rfl
  have hB1 : Below w.heap.size w (w.alloc (.cells #[.pointer (some ⟨gr, 0, none⟩)] 107)) := (Below.refl _ w).alloc (Nat.le_refl _) _
  have p1 := Boxed.new w 107 (.pointer (some ⟨gr, 0, none⟩))
  go_enter Tryz.func229, Tryz.ntmps229
  go_wp2_with (refine wpList_alloc_id rfl rfl ?_)
  obtain ⟨w0, hw0⟩ : ∃ x, x = w.alloc (.cells #[.pointer (some ⟨gr, 0, none⟩)] 107) := ⟨_, rfl⟩
  rw [← hw0] at hB1 p1 ⊢
  have s0 : w0.heap.size = w.heap.size + 1 := by rw [hw0, World.size_alloc]
  clear hw0
  have i1 := BoxI.new w0 zeroID_length
  have hB2 := hB1.alloc hB1.size (.cells (zeroID.map B8).toArray 25)
  have p2 := p1.alloc (.cells (zeroID.map B8).toArray 25)
  obtain ⟨w1, hw1⟩ : ∃ x, x = w0.alloc (.cells (zeroID.map B8).toArray 25) := ⟨_, rfl⟩
  rw [← hw1] at hB2 p2 i1 ⊢
  have s1 : w1.heap.size = w.heap.size + 1 + 1 := by rw [hw1, World.size_alloc, s0]
  clear hw1
  have i2 := BoxI.new w1 zeroID_length
  have hB3 := hB2.alloc hB2.size (.cells (zeroID.map B8).toArray 25)
  have p3 := p2.alloc (.cells (zeroID.map B8).toArray 25)
  have i1' := i1.below ((Below.refl _ w1).alloc (Nat.le_refl _) (.cells (zeroID.map B8).toArray 25))
  obtain ⟨w2, hw2⟩ : ∃ x, x = w1.alloc (.cells (zeroID.map B8).toArray 25) := ⟨_, rfl⟩
  rw [← hw2] at hB3 p3 i2 i1' ⊢
  clear hw2
  have c1 := p3.cell
  have hat2 := hat.below hB3
  have S0 := Lib.hid s0
  have S1 := Lib.hid s1
  clear s0 s1
  refine wp_held (fun W1 => Below w2.heap.size w2 W1) (by kernel_rfl) ?_
  have hS0 : Below w2.heap.size w2 w2.drew := (Below.refl _ w2).drew
  refine wpAnyH_next (i := 0) (v := .slice (some ⟨w1.heap.size, 0, none⟩) 32 32) rfl (by kernel_rfl) (by kernel_rfl) (by kernel_rfl) (fun _ _ _ h => h) (by kernel_rfl) (fun W1 hW1 => by go_simp; done) hS0 (fun a' ha' => ?_)
  simp only [Act.put, List.getElem_toArray, List.getElem_cons_zero, List.setIfInBounds_toArray, List.set_cons_succ, List.set_cons_zero] at ha'
  subst ha'
  refine wpAnyH_next (i := 1) (v := .pointer (some ⟨gr, 0, none⟩)) rfl (by kernel_rfl) (by kernel_rfl) (by kernel_rfl) (fun _ _ _ h => h) (by kernel_rfl) (fun W1 hW1 => by have e1 := cellB hW1 c1; go_simp; done) hS0 (fun a' ha' => ?_)
  simp only [Act.put, List.getElem_toArray, List.getElem_cons_succ, List.getElem_cons_zero, List.setIfInBounds_toArray, List.set_cons_succ, List.set_cons_zero] at ha'
  subst ha'
  refine wpAnyH_next (i := 2) (v := .func (.func 233) #[] #[.pointer (some ⟨w.heap.size, 0, none⟩)]) rfl (by kernel_rfl) (by kernel_rfl) (by kernel_rfl) (fun _ _ _ h => h) (by kernel_rfl) (fun W1 hW1 => by go_simp; done) hS0 (fun a' ha' => ?_)
  simp only [Act.put, List.getElem_toArray, List.getElem_cons_succ, List.getElem_cons_zero, List.setIfInBounds_toArray, List.set_cons_succ, List.set_cons_zero] at ha'
  subst ha'
  refine wpAnyH_want (i := 3) (by kernel_rfl) rfl (by kernel_rfl) (fun K hK => ?_)
  unfold Oper.wp
  go_simp
  refine (rdBytes_wrongB _ gr gs v xs (hat2.below hS0) _).mono ?_
  rintro e a1 ⟨rfl, ha1⟩
  have hSa1 : Below w2.heap.size w2 a1 := hS0.trans (ha1.mono hS0.size)
  clear ha1
  refine hK _ _ hSa1 ?_
  clear hK K
  refine wpAnyH_next (i := 4) (v := .int .i64 0) rfl (by kernel_rfl) (by kernel_rfl) (by kernel_rfl) (fun _ _ _ h => h) (by kernel_rfl) (fun W1 hW1 => by have hcp := copy_nil W1 w1.heap.size; go_simp; done) hSa1 (fun a' ha' => ?_)
  simp only [Act.put, List.getElem_toArray, List.getElem_cons_succ, List.getElem_cons_zero, List.setIfInBounds_toArray, List.set_cons_succ, List.set_cons_zero] at ha'
  subst ha'
  refine wpAnyH_fin (by kernel_rfl) ?_ _
  have i3 := i2.below hSa1
  have i3' := i1'.below hSa1
  go_wp2_with (first
    | (refine wpList_load_id rfl (.tmp 3) rfl rfl zeroID_length i3.at ?_)
    | (refine wpList_store_id rfl (.tmp 2) (.tmp 9) rfl rfl i3' zeroID_length rfl ?_; intro w5 i5 k5))
  refine bodyPost_ret (results_id1 rfl _ rfl i5) rfl ?_
  have hB4 := hB3.trans (hSa1.mono hB3.size)
  exact ⟨rfl, hB4.trans (k5.below (fun j _ e => by subst e; have := S0.out; omega) hB4.size)⟩
/-- Behind a change of newer memory alone. -/
theorem RdOut.behindNew {w w1 W : World} {gr gs n : Nat} {v : Value} {xs : List UInt8} {b : Bool} (h : RdOut w gr gs v xs b w1) (h1 : gr < n) (h2 : gs < n) (h3 : ∀ j, v.ownBlock = some j → j < n) (hb : Below n w1 W) (h4 : w.heap.size ≤ n) : RdOut w gr gs v xs b W := by
  obtain ⟨v', q1, q2, q3⟩ := h
  have k := Kept.of_below' hb
  have hr : ∀ j, v'.ownBlock = some j → ¬ n ≤ j := fun j hj => by have := h3 j (q3 ▸ hj); omega
  exact ⟨v', ⟨q1.src.kept k (by omega) hr, (k.block gr q1.lt (by omega)).trans q1.rd, q1.ne, q1.row⟩, q2.trans k (fun j hj hn => by omega), q3⟩
theorem id_there {W : World} {g : Nat} {x : En} (h : BoxE eEn 70 W g x) : W.there g 2 32 := fun j hj => by
  have := h.there (2 + j) (by show 2 + j < 34; omega)
  rwa [Nat.zero_add] at this
theorem id_store {W : World} {g : Nat} (h : BoxE eEn 70 W g zeroEn) : BoxE eEn 70 (W.setCells g 2 (zeroID.map B8)) g zeroEn ∧ Kept (· = g) W (W.setCells g 2 (zeroID.map B8)) := by
  obtain ⟨h1, h2⟩ := setCells_box (zeroID.map B8) (eEn.enc zeroEn) g 2 W _ h (by decide)
  exact ⟨h1, h2⟩
theorem wpList_store_part {ops : Array Oper} {rest : List Oper} {o : Oper} {a : Act} {w : World} {Q : Exit → Act → World → Prop} (hg : o.guard = none) (x y : Operand) (ho : o.op = .store 25 x y) {g : Nat} (hx : a.eval x = .pointer (some ⟨g, 2, none⟩)) (hbox : BoxE eEn 70 w g zeroEn) (hy : a.eval y = IdV zeroID)
    (h : ∀ w', BoxE eEn 70 w' g zeroEn → Kept (· = g) w w' → wpList Tryz.prog ops Q rest (a.put o.dst undef) w') : wpList Tryz.prog ops Q (o :: rest) a w := by
  have hthere := id_there hbox
  refine wpList_store_mid hg 25 x y ho g 2 (zeroID.map B8).toArray hx hy (by simpa [zeroID] using hthere) (by simpa using sizeID zeroID_length) (all_oneCell_toArray (bs_oneCell zeroID)) ?_
  exact h _ (id_store hbox).1 (id_store hbox).2
set_option maxHeartbeats 1000000 in
/-- An entry, of nothing. -/
theorem rEntry_none (w : World) (gr gs : Nat) (v : Value) (hat : RdAt w gr gs v [] false) :
    Calls Tryz.prog 224 #[.pointer (some ⟨gr, 0, none⟩)] w fun e W' => e = .returned (EnV zeroEn) ∧ RdOut w gr gs v [] true W' := by
  have e1 := BoxE.new (E := eEn) (t := 70) w zeroEn
  have hB1 : Below w.heap.size w (w.alloc (.cells (eEn.enc zeroEn).toArray 70)) := (Below.refl _ w).alloc (Nat.le_refl _) _
  have e2 := BoxE.new (E := eEn) (t := 70) (w.alloc (.cells (eEn.enc zeroEn).toArray 70)) zeroEn
  have hB2 := hB1.alloc hB1.size (.cells (eEn.enc zeroEn).toArray 70)
  have e1' := e1.below ((Below.refl _ (w.alloc (.cells (eEn.enc zeroEn).toArray 70))).alloc (Nat.le_refl _) (.cells (eEn.enc zeroEn).toArray 70))
  rw [World.size_alloc] at e2
  have hat2 := hat.below hB2
  have hgs := hat.src.box.lt
  have hgr := hat.lt
  have HV0 := Lib.hid (fun j hj => (hat.src.row j hj).1)
  go_enter Tryz.func224, Tryz.ntmps224
  go_wp2_with (refine wpList_alloc_e (E := eEn) (z := zeroEn) zeroEn_run rfl rfl ?_)
  refine (rdText_any _ gr gs v [] false hat2 (by simp) 64 (by decide) (by decide)).mono ?_
  rintro e w3 ⟨rfl, hout⟩
  rw [show rdBy 64 [] false = ([], [], true) by decide +kernel] at hout ⊢
  obtain ⟨v3, hat3, hk3, hv3⟩ := hout
  dsimp only at hat3
  have n1 : ¬ (w.heap.size = gs ∨ w.heap.size = gr) := by omega
  have n2 : ¬ (w.heap.size + 1 = gs ∨ w.heap.size + 1 = gr) := by omega
  have e13 : BoxE eEn 70 w3 w.heap.size zeroEn := e1'.kept hk3 n1
  have e23 : BoxE eEn 70 w3 (w.heap.size + 1) zeroEn := e2.kept hk3 n2
  have O3 := Lib.hid (RdOut.ahead hB2 (⟨v3, hat3, hk3, hv3⟩ : RdOut _ gr gs v [] true w3))
  clear hk3 hv3 hat hat2 e1 e1' e2 hB1
  have q0 := EnAt.nm e23.at
  have z0 := e23.frozen 0
  dsimp only
  go_wp2_with fail
  have e24 : BoxE eEn 70 (w3.setCell ⟨w.heap.size + 1, 0, none⟩ (Str [])) (w.heap.size + 1) zeroEn := e23.put (Str []) rfl
  have k4 : Kept (fun j => j = w.heap.size + 1) w3 (w3.setCell ⟨w.heap.size + 1, 0, none⟩ (Str [])) := (Kept.refl (fun j => j = w.heap.size + 1) w3).setCell (p := ⟨w.heap.size + 1, 0, none⟩) (fun _ => rfl) _
  have e14 := e13.kept k4 (show ¬ w.heap.size = w.heap.size + 1 by omega)
  have hrow3 := hat3.row
  have hsr3 := hat3.src.row
  have O4 := Lib.hid (O3.out.behindNew (n := w.heap.size) (by omega) (by omega) (fun j hj => by have := HV0.out j hj; omega) (k4.below (B := w.heap.size) (fun j _ e => by subst e; omega) (by have := e13.lt; omega)) (Nat.le_refl _))
  generalize w3.setCell ⟨w.heap.size + 1, 0, none⟩ (Str []) = w4 at *
  clear hat3 e13 e23 q0 z0 hrow3 hsr3 k4 O3
  obtain ⟨v4, hat4, hk4, hv4⟩ := O4.out
  have HK4 := Lib.hid hk4
  have HV4 := Lib.hid hv4
  clear hk4 hv4
  refine (rKind_any w4 gr gs v4 [] true hat4 (by simp)).mono ?_
  rintro e w5 ⟨rfl, hout⟩
  rw [show rdNum 4 [] true = (0, [], true) by decide +kernel] at hout ⊢
  dsimp only at hout ⊢
  obtain ⟨v5, hat5, hk5, hv5⟩ := hout
  have e15 : BoxE eEn 70 w5 w.heap.size zeroEn := e14.kept hk5 n1
  have e25 : BoxE eEn 70 w5 (w.heap.size + 1) zeroEn := e24.kept hk5 n2
  have O5 := Lib.hid (RdOut.then HK4.out HV4.out (⟨v5, hat5, hk5, hv5⟩ : RdOut w4 gr gs v4 [] true w5))
  clear hk5 hv5 hat4 hat5 e14 e24 O4 HK4 HV4
  have q1 := EnAt.kd e25.at
  rw [Nat.zero_add] at q1
  have z1 := e25.frozen 1
  go_wp2_with fail
  have e26 : BoxE eEn 70 (w5.setCell ⟨w.heap.size + 1, 1, none⟩ (.int .i64 0)) (w.heap.size + 1) zeroEn := e25.put (.int .i64 0) rfl
  have k6 : Kept (fun j => j = w.heap.size + 1) w5 (w5.setCell ⟨w.heap.size + 1, 1, none⟩ (.int .i64 0)) := (Kept.refl (fun j => j = w.heap.size + 1) w5).setCell (p := ⟨w.heap.size + 1, 1, none⟩) (fun _ => rfl) _
  have e16 := e15.kept k6 (show ¬ w.heap.size = w.heap.size + 1 by omega)
  have O6 := Lib.hid (O5.out.behindNew (n := w.heap.size) (by omega) (by omega) (fun j hj => by have := HV0.out j hj; omega) (k6.below (B := w.heap.size) (fun j _ e => by subst e; omega) (by have := e15.lt; omega)) (Nat.le_refl _))
  generalize w5.setCell ⟨w.heap.size + 1, 1, none⟩ (.int .i64 0) = w6 at *
  clear e15 e25 q1 z1 k6 O5
  obtain ⟨v6, hat6, hk6, hv6⟩ := O6.out
  clear hk6 hv6
  refine (rId_wrong w6 gr gs v6 [] hat6).mono ?_
  rintro e w7 ⟨rfl, h7⟩
  have e17 := e16.below h7
  have e27 := e26.below h7
  have O7 := Lib.hid (O6.out.behind h7)
  clear h7 hat6 e16 e26 O6
  go_wp2_with (first
    | (refine wpList_store_part rfl (.tmp 12) (.tmp 11) rfl rfl e27 rfl ?_; intro w8 e28 k8; have e18 := e17.kept k8 (show ¬ w.heap.size = w.heap.size + 1 by omega))
    | (refine wpList_load_e (E := eEn) Tryz.underlying70 rfl sizeEn rfl (.tmp 3) rfl rfl e28.at ?_)
    | (refine wpList_store_e (E := eEn) sizeEn rfl (.tmp 2) (.tmp 13) rfl rfl e18 rfl ?_; intro w9 b9 k9))
  refine bodyPost_ret (results_e1 (E := eEn) Tryz.underlying70 rfl sizeEn rfl _ rfl b9) rfl ?_
  have hs7 := e17.lt
  have hb8 : Below w.heap.size w7 w8 := k8.below (fun j _ e => by subst e; omega) (by omega)
  have hb9 := hb8.trans (k9.below (B := w.heap.size) (fun j _ e => by subst e; omega) (by have := hb8.size; omega))
  exact ⟨rfl, O7.out.behindNew (n := w.heap.size) (by omega) (by omega) (fun j hj => by have := HV0.out j hj; omega) hb9 (Nat.le_refl _)⟩
end Go.Proofs.YtljihmbmjpcfaaaGreat
namespace Go.Proofs.YtljihmbmjpcfaaaGreat
open Go.RowKit Go.Shelf Go.Great
set_option maxRecDepth 100000

theorem rEntry_enters (args : Array Value) (w : World) : (callFunc 224 args).run Tryz.prog w = .ok (.enter 224 args) w := enters_of Tryz.func224 (by kernel_rfl) rfl args w
set_option maxHeartbeats 1000000 in
theorem rSevE_one (w : World) (gr gs : Nat) (v : Value) (hat : RdAt w gr gs v [1] false) :
    Calls Tryz.prog 223 #[.pointer (some ⟨gr, 0, none⟩), .int .u64 32, .func (.func 224) #[.pointer (some ⟨gr, 0, none⟩)] #[]] w fun e W' => ∃ A n c, e = .returned (.slice A n c) ∧ RdOut w gr gs v [] true W' := by
  have hen := fun args w => rEntry_enters args w
  go_enter Tryz.func223, Tryz.ntmps223
  go_wp2_with fail
  refine (rNumber_any w gr gs v [1] false hat (by simp) 32).mono ?_
  rintro e w2 ⟨rfl, hout⟩
  rw [show rdNum 32 [1] false = (1, [], false) by decide +kernel] at hout ⊢
  dsimp only at hout ⊢
  obtain ⟨v2, hat2, hk2, hv2⟩ := hout
  have HK2 := Lib.hid hk2
  have HV2 := Lib.hid hv2
  clear hk2 hv2 hat
  go_wp2_with fail
  go_loopw [7, 11] (fun s i wr => (i = .int .u64 0 ∧ s = .slice none 0 0 ∧ wr = w2) ∨ (i = .int .u64 1 ∧ (∃ A n c, s = .slice A n c) ∧ RdOut w gr gs v [] true wr)) (fun _ i _ => 1 - (RowKit.intOf i).toNat)
  case atStart => exact .inl ⟨rfl, rfl, rfl⟩
  case round =>
    rcases hrel with ⟨rfl, rfl, rfl⟩ | ⟨rfl, ⟨A, n, c, rfl⟩, hO⟩
    · go_wp2_with fail
      refine (rEntry_none wr gr gs v2 hat2).mono ?_
      rintro e w3 ⟨rfl, hout⟩
      have O3 := Lib.hid (RdOut.then HK2.out HV2.out hout)
      clear hout hat2 HK2 HV2
      go_wp2_with (first
        | (refine wpList_one_e (E := eEn) elEn (by decide) rfl (.tmp 15) rfl (x := zeroEn) rfl ?_; have hone := Es.one_e (E := eEn) w3 zeroEn 70; have hB4 := (Below.refl w3.heap.size w3).alloc (Nat.le_refl _) (.cells (eEn.enc zeroEn).toArray 70); generalize hg4 : w3.alloc (.cells (eEn.enc zeroEn).toArray 70) = w4 at hone hB4 ⊢; clear hg4)
        | (at_builtin; refine wpList_append_es elEn rfl (.tmp 13) (.tmp 16) rfl w4.heap.size _ [] rfl (RowE.nil _ _) _ [zeroEn] rfl hone (by simp) (Nat.le_refl _) ?_; intro v5 w5 hown5 hg5 hv5; obtain ⟨A5, c5, rfl, _⟩ := hown5.slice))
      have hB5 : Below w3.heap.size w3 w5 := hB4.trans ((Kept.of_grown hg5).below (B := w3.heap.size) (fun j _ e => by cases e) hB4.size)
      have O5 := O3.out.behind hB5
      go_roundw
      case rel => exact O5
      case measure => simp [RowKit.intOf]
    · have O := Lib.hid hO
      clear hO
      go_wp2_with fail
      go_ret
      exact ⟨_, _, _, rfl, O.out⟩
set_option maxHeartbeats 1000000 in
theorem treeRead_one (w : World) (gr gs gb : Nat) (v x : Value) (hat : RdAt w gr gs v [1] false) (hb : Boxed w gb 165 x) (h1 : gb ≠ gr) (h2 : gb ≠ gs) (h3 : ∀ j, v.ownBlock = some j → j ≠ gb) :
    Calls Tryz.prog 220 #[.pointer (some ⟨gb, 0, none⟩), .pointer (some ⟨gr, 0, none⟩)] w fun e W' => e = .returned (.tuple #[]) ∧ (∃ v', RdAt W' gr gs v' [] true) ∧ Kept (fun j => j = gs ∨ j = gr ∨ j = gb) w W' := by
  have hmf : ∀ (fn : Fn) (first cap : Array Value) (w : World), (Instr.makeFunc fn first cap).run Tryz.prog w = .ok (.func fn first cap) w := fun _ _ _ _ => rfl
  go_enter Tryz.func220, Tryz.ntmps220
  go_wp2_with fail
  refine (rSevE_one w gr gs v hat).mono ?_
  rintro e w2 ⟨A, n, c, rfl, v2, hat2, hk2, hv2⟩
  have hb2 := hk2.boxed hb (by rintro (h | h); exact h2 h; exact h1 h)
  have hc2 := hb2.cell
  have hf2 := hb2.frozen
  have HK := Lib.hid hk2
  have HV := Lib.hid hv2
  clear hk2 hv2
  go_wp2_with fail
  go_end0
  have k3 : Kept (fun j => j = gb) w2 (w2.setCell ⟨gb, 0, none⟩ (.slice A n c)) := (Kept.refl (fun j => j = gb) w2).setCell (p := ⟨gb, 0, none⟩) (fun _ => rfl) _
  refine ⟨rfl, ⟨v2, hat2.src.kept k3 (fun e => h2 e.symm) (fun j hj e => h3 j (HV.out ▸ hj) e), (k3.block gr hat2.lt (fun e => h1 e.symm)).trans hat2.rd, hat2.ne, hat2.row⟩, ?_⟩
  exact (HK.out.mono (T' := fun j => j = gs ∨ j = gr ∨ j = gb) (fun j _ h => by rcases h with h | h; exact .inl h; exact .inr (.inl h))).trans k3 (fun j _ e => .inr (.inr e))
theorem build_kd (w : World) (k : Int) : (Instr.build 30 #[(0, .int .i64 k)]).run Tryz.prog w = .ok (ObV { zeroOb with kd := k }) w := by
  obtain ⟨fs, hu, hp⟩ := ob_places w
  refine run_build_struct hu w (zeroOb_run w) hp ?_
  show Instr.fill _ (encO zeroOb).toArray [(0, .int .i64 k)] = _
  rw [ofill_one _ _ _ _ [.int .i64 k] _ 0 1 rfl rfl rfl (by rw [encO_length]; simp), ofill_none, encO_set_kd]
theorem build_ob0 (w : World) : (Instr.build 30 #[]).run Tryz.prog w = .ok (ObV zeroOb) w := by
  obtain ⟨fs, hu, hp⟩ := ob_places w
  refine run_build_struct hu w (zeroOb_run w) hp ?_
  show Instr.fill _ (encO zeroOb).toArray [] = _
  rw [ofill_none]
theorem results_e2 {α : Type} {E : Elt α} {t : TypeId} {d : TypeDesc} (hu : Tryz.prog.underlying t = some d) (hd : d.isRow = true) (hi : (Tryz.prog.info? t).map (·.size) = some E.k) {fn : Func} {s u : Tmp} (h : fn.results = #[.cell s t, .tmp u]) (tmps : Array Value) {w : World} {g : Nat} {x : α} (ht : tmps.getD s undef = .pointer (some ⟨g, 0, none⟩)) (hb : BoxE E t w g x) :
    (results fn tmps).run Tryz.prog w = .ok (.tuple #[E.val x, tmps.getD u undef]) w := by
  have hl := run_loadVar_mid (P := Tryz.prog) w g 0 t (E.enc x) d hb.at hu hd (by rw [hi, E.len x])
  rw [Array.getD_eq_getD_getElem?] at ht
  simp [results, h, ht, asAddr, hl]
end Go.Proofs.YtljihmbmjpcfaaaGreat
