/- Numbers, kinds, bytes, texts, ids, entries read (tools/genobread2.py). Parse of bytes that tell one entry, and end. Ids and entries read, in general (tools/genobrdid.py). -/
import Derived.Test.YtljihmbmjpcfaaaGreatObEnc
import Derived.Test.YtljihmbmjpcfaaaGreatObLinks
import Derived.Test.YtljihmbmjpcfaaaGreatOneE
namespace Go.Proofs.YtljihmbmjpcfaaaGreat
open Go.RowKit Go.Shelf Go.Great
set_option maxRecDepth 100000

theorem rdNum_le (most : Nat) (xs : List UInt8) (b : Bool) : (rdNum most xs b).1 ≤ most := by
  unfold rdNum
  split
  · exact Nat.zero_le _
  · split
    · next h => exact numRes_le h
    · exact Nat.zero_le _
set_option maxHeartbeats 1000000 in
theorem rNumber_any (w : World) (gr gs : Nat) (v : Value) (xs : List UInt8) (b : Bool) (hat : RdAt w gr gs v xs b) (hlen : xs.length ≤ 140737488355328) (most : Nat) :
    Calls Tryz.prog 81 #[.pointer (some ⟨gr, 0, none⟩), .int .u64 most] w fun e W' => e = .returned (.int .u64 (rdNum most xs b).1) ∧ RdOut w gr gs v (rdNum most xs b).2.1 (rdNum most xs b).2.2 W' := by
  have hmf : ∀ (fn : Fn) (first cap : Array Value) (w : World), (Instr.makeFunc fn first cap).run Tryz.prog w = .ok (.func fn first cap) w := fun _ _ _ _ => rfl
  have b1 := (Boxed.new w 107 (.pointer (some ⟨gr, 0, none⟩))).alloc (.cells #[.int .u64 most] 76)
  have b2 := Boxed.new (w.alloc (.cells #[.pointer (some ⟨gr, 0, none⟩)] 107)) 76 (.int .u64 most)
  have hB : Below w.heap.size w ((w.alloc (.cells #[.pointer (some ⟨gr, 0, none⟩)] 107)).alloc (.cells #[.int .u64 most] 76)) := ((Below.refl _ w).alloc (Nat.le_refl _) _).alloc (by simp) _
  rw [World.size_alloc] at b2
  have hat2 := hat.below hB
  have c1 := b1.cell
  have c2 := b2.cell
  cases b with
  | true =>
    go_enter Tryz.func81, Tryz.ntmps81
    go_wp2_with fail
    refine (rdU64_wrong _ gr gs v xs hat2 _).mono ?_
    rintro e w2 ⟨rfl, rfl⟩
    go_wp2_with fail
    go_ret
    exact ⟨rfl, .of_below hat hB⟩
  | false =>
    go_enter Tryz.func81, Tryz.ntmps81
    go_wp2_with fail
    refine (rdU64_right _ gr gs v xs hat2 hlen w.heap.size (w.heap.size + 1) most c1 c2).mono ?_
    rintro e w2 ⟨rfl, hout⟩
    have HO := Lib.hid hout
    clear hout
    go_wp2_with fail
    go_ret
    exact ⟨rfl, HO.out.ahead hB⟩
set_option maxHeartbeats 1000000 in
theorem rKind_any (w : World) (gr gs : Nat) (v : Value) (xs : List UInt8) (b : Bool) (hat : RdAt w gr gs v xs b) (hlen : xs.length ≤ 140737488355328) :
    Calls Tryz.prog 52 #[.pointer (some ⟨gr, 0, none⟩)] w fun e W' => e = .returned (.int .i64 (rdNum 4 xs b).1) ∧ RdOut w gr gs v (rdNum 4 xs b).2.1 (rdNum 4 xs b).2.2 W' := by
  have hle := rdNum_le 4 xs b
  have hn := rNumber_any w gr gs v xs b hat hlen 4
  generalize rdNum 4 xs b = res at *
  obtain ⟨m, ys, b'⟩ := res
  dsimp only at hle hn ⊢
  have hw : IntKind.i64.wrap (m : Int) = (m : Int) := IntWalk.i64_in _ (by omega)
  go_enter Tryz.func52, Tryz.ntmps52
  go_wp2_with fail
  refine hn.mono ?_
  rintro e w2 ⟨rfl, hout⟩
  have HO := Lib.hid hout
  clear hout hn
  go_wp2_with fail
  go_ret
  exact ⟨rfl, HO.out⟩
set_option maxHeartbeats 1000000 in
theorem rBytes_any (w : World) (gr gs : Nat) (v : Value) (xs : List UInt8) (b : Bool) (hat : RdAt w gr gs v xs b) (hlen : xs.length ≤ 140737488355328) (most : Int) (hm0 : 0 ≤ most) (hm : most ≤ 100000) :
    Calls Tryz.prog 206 #[.pointer (some ⟨gr, 0, none⟩), .int .i64 most] w fun e W' => ∃ r, e = .returned r ∧ W'.ownsRow w.heap.size 5 1 r (rdBy most xs b).1.length ((rdBy most xs b).1.map B8) ∧ RdOut w gr gs v (rdBy most xs b).2.1 (rdBy most xs b).2.2 W' := by
  have hmf : ∀ (fn : Fn) (first cap : Array Value) (w : World), (Instr.makeFunc fn first cap).run Tryz.prog w = .ok (.func fn first cap) w := fun _ _ _ _ => rfl
  have b1 := (Boxed.new w 107 (.pointer (some ⟨gr, 0, none⟩))).alloc (.cells #[.int .i64 most] 3)
  have b2 := Boxed.new (w.alloc (.cells #[.pointer (some ⟨gr, 0, none⟩)] 107)) 3 (.int .i64 most)
  have hB : Below w.heap.size w ((w.alloc (.cells #[.pointer (some ⟨gr, 0, none⟩)] 107)).alloc (.cells #[.int .i64 most] 3)) := ((Below.refl _ w).alloc (Nat.le_refl _) _).alloc (by simp) _
  rw [World.size_alloc] at b2
  have hat2 := hat.below hB
  have c1 := b1.cell
  have c2 := b2.cell
  cases b with
  | true =>
    go_enter Tryz.func206, Tryz.ntmps206
    go_wp2_with fail
    refine (rdBytes_wrong _ gr gs v xs hat2 _).mono ?_
    rintro e w2 ⟨rfl, rfl⟩
    go_wp2_with fail
    go_ret
    exact ⟨_, rfl, World.ownsRow_nil _ _ _ _, .of_below hat hB⟩
  | false =>
    go_enter Tryz.func206, Tryz.ntmps206
    go_wp2_with fail
    refine (rdBytes_right _ gr gs v xs hat2 hlen w.heap.size (w.heap.size + 1) most hm0 hm c1 c2).mono ?_
    rintro e w2 ⟨r, rfl, hrow, hout⟩
    have HO := Lib.hid hout
    have HR := Lib.hid hrow
    obtain ⟨A, n, c, rfl⟩ := owns_slice hrow
    clear hout hrow
    go_wp2_with fail
    go_ret
    exact ⟨_, rfl, owns_base HR.out hB.size, HO.out.ahead hB⟩
set_option maxHeartbeats 1000000 in
theorem rdText_any (w : World) (gr gs : Nat) (v : Value) (xs : List UInt8) (b : Bool) (hat : RdAt w gr gs v xs b) (hlen : xs.length ≤ 140737488355328) (most : Int) (hm0 : 0 ≤ most) (hm : most ≤ 100000) :
    Calls Tryz.prog 228 #[.pointer (some ⟨gr, 0, none⟩), .int .i64 most] w fun e W' => e = .returned (Str (rdBy most xs b).1) ∧ RdOut w gr gs v (rdBy most xs b).2.1 (rdBy most xs b).2.2 W' := by
  have hn := rBytes_any w gr gs v xs b hat hlen most hm0 hm
  generalize rdBy most xs b = res at *
  obtain ⟨m, ys, b'⟩ := res
  dsimp only at hn ⊢
  go_enter Tryz.func228, Tryz.ntmps228
  go_wp2_with fail
  refine hn.mono ?_
  rintro e w2 ⟨r, rfl, hrow, hout⟩
  have HO := Lib.hid hout
  have hcv := run_string_bs (P := Tryz.prog) w2 22 9 5 Tryz.underlying22 Tryz.underlying5 Tryz.underlying9 (Bs.of_owns hrow)
  obtain ⟨A, n, c, rfl⟩ := owns_slice hrow
  clear hout hn hrow
  go_wp2_with fail
  go_ret
  exact ⟨rfl, HO.out⟩
theorem copy_nil (w : World) (b : Nat) : (Builtin.copy_ #[22, 22] 3 #[.slice (some ⟨b, 0, none⟩) 32 32, .slice none 0 0]).run Tryz.prog w = .ok (.int .i64 0) w := by
  obtain ⟨i0, hi, hz0, hz1, hz2⟩ := info_parts infoU8
  simp [Builtin.copy_, run_underlying Tryz.underlying22, sizeOf, typeInfo, hi, Builtin.lenOf, Builtin.firstCells, storeCells, goInt]
theorem rdBytes_wrongB (w : World) (gr gs : Nat) (v : Value) (xs : List UInt8) (hat : RdAt w gr gs v xs true) (f : Value) :
    Calls Tryz.prog 208 #[.pointer (some ⟨gr, 0, none⟩), f] w fun e W' => e = .returned (.slice none 0 0) ∧ Below w.heap.size w W' :=
  (rdBytes_wrong w gr gs v xs hat f).mono fun e W' h => ⟨h.1, by rw [h.2]; exact Below.refl _ _⟩
set_option maxHeartbeats 2000000 in
/-- An id, where something was wrong already: noughts. -/
theorem rId_wrong (w : World) (gr gs : Nat) (v : Value) (xs : List UInt8) (hat : RdAt w gr gs v xs true) :
    Calls Tryz.prog 229 #[.pointer (some ⟨gr, 0, none⟩)] w fun e W' => e = .returned (IdV zeroID) ∧ Below w.heap.size w W' := by
  have hmf : ∀ (fn : Fn) (first cap : Array Value) (w : World), (Instr.makeFunc fn first cap).run Tryz.prog w = .ok (.func fn first cap) w := fun _ _ _ _ => rfl
  have hB1 : Below w.heap.size w (w.alloc (.cells #[.pointer (some ⟨gr, 0, none⟩)] 107)) := (Below.refl _ w).alloc (Nat.le_refl _) _
  have p1 := Boxed.new w 107 (.pointer (some ⟨gr, 0, none⟩))
  go_enter Tryz.func229, Tryz.ntmps229
  go_wp2_with (refine wpList_alloc_id rfl rfl ?_)
  obtain ⟨w0, hw0⟩ : ∃ x, x = w.alloc (.cells #[.pointer (some ⟨gr, 0, none⟩)] 107) := ⟨_, rfl⟩
  rw [← hw0] at hB1 p1 ⊢
  have s0 : w0.heap.size = w.heap.size + 1 := by rw [hw0, World.size_alloc]
  clear hw0
  have i1 := BoxI.new w0 zeroID_length
  have hB2 := hB1.alloc hB1.size (.cells (zeroID.map B8).toArray 25)
  have p2 := p1.alloc (.cells (zeroID.map B8).toArray 25)
  obtain ⟨w1, hw1⟩ : ∃ x, x = w0.alloc (.cells (zeroID.map B8).toArray 25) := ⟨_, rfl⟩
  rw [← hw1] at hB2 p2 i1 ⊢
  have s1 : w1.heap.size = w.heap.size + 1 + 1 := by rw [hw1, World.size_alloc, s0]
  clear hw1
  have i2 := BoxI.new w1 zeroID_length
  have hB3 := hB2.alloc hB2.size (.cells (zeroID.map B8).toArray 25)
  have p3 := p2.alloc (.cells (zeroID.map B8).toArray 25)
  have i1' := i1.below ((Below.refl _ w1).alloc (Nat.le_refl _) (.cells (zeroID.map B8).toArray 25))
  obtain ⟨w2, hw2⟩ : ∃ x, x = w1.alloc (.cells (zeroID.map B8).toArray 25) := ⟨_, rfl⟩
  rw [← hw2] at hB3 p3 i2 i1' ⊢
  clear hw2
  have c1 := p3.cell
  have hat2 := hat.below hB3
  have S0 := Lib.hid s0
  have S1 := Lib.hid s1
  clear s0 s1
  refine wp_held (fun W1 => Below w2.heap.size w2 W1) (by kernel_rfl) ?_
  have hS0 : Below w2.heap.size w2 w2.drew := (Below.refl _ w2).drew
  refine wpAnyH_next (i := 0) (v := .slice (some ⟨w1.heap.size, 0, none⟩) 32 32) rfl (by kernel_rfl) (by kernel_rfl) (by kernel_rfl) (fun _ _ _ h => h) (by kernel_rfl) (fun W1 hW1 => by go_simp; done) hS0 (fun a' ha' => ?_)
  simp only [Act.put, List.getElem_toArray, List.getElem_cons_zero, List.setIfInBounds_toArray, List.set_cons_succ, List.set_cons_zero] at ha'
  subst ha'
  refine wpAnyH_next (i := 1) (v := .pointer (some ⟨gr, 0, none⟩)) rfl (by kernel_rfl) (by kernel_rfl) (by kernel_rfl) (fun _ _ _ h => h) (by kernel_rfl) (fun W1 hW1 => by have e1 := cellB hW1 c1; go_simp; done) hS0 (fun a' ha' => ?_)
  simp only [Act.put, List.getElem_toArray, List.getElem_cons_succ, List.getElem_cons_zero, List.setIfInBounds_toArray, List.set_cons_succ, List.set_cons_zero] at ha'
  subst ha'
  refine wpAnyH_next (i := 2) (v := .func (.func 233) #[] #[.pointer (some ⟨w.heap.size, 0, none⟩)]) rfl (by kernel_rfl) (by kernel_rfl) (by kernel_rfl) (fun _ _ _ h => h) (by kernel_rfl) (fun W1 hW1 => by go_simp; done) hS0 (fun a' ha' => ?_)
  simp only [Act.put, List.getElem_toArray, List.getElem_cons_succ, List.getElem_cons_zero, List.setIfInBounds_toArray, List.set_cons_succ, List.set_cons_zero] at ha'
  subst ha'
  refine wpAnyH_want (i := 3) (by kernel_rfl) rfl (by kernel_rfl) (fun K hK => ?_)
  unfold Oper.wp
  go_simp
  refine (rdBytes_wrongB _ gr gs v xs (hat2.below hS0) _).mono ?_
  rintro e a1 ⟨rfl, ha1⟩
  have hSa1 : Below w2.heap.size w2 a1 := hS0.trans (ha1.mono hS0.size)
  clear ha1
  refine hK _ _ hSa1 ?_
  clear hK K
  refine wpAnyH_next (i := 4) (v := .int .i64 0) rfl (by kernel_rfl) (by kernel_rfl) (by kernel_rfl) (fun _ _ _ h => h) (by kernel_rfl) (fun W1 hW1 => by have hcp := copy_nil W1 w1.heap.size; go_simp; done) hSa1 (fun a' ha' => ?_)
  simp only [Act.put, List.getElem_toArray, List.getElem_cons_succ, List.getElem_cons_zero, List.setIfInBounds_toArray, List.set_cons_succ, List.set_cons_zero] at ha'
  subst ha'
  refine wpAnyH_fin (by kernel_rfl) ?_ _
  have i3 := i2.below hSa1
  have i3' := i1'.below hSa1
  go_wp2_with (first
    | (refine wpList_load_id rfl (.tmp 3) rfl rfl zeroID_length i3.at ?_)
    | (refine wpList_store_id rfl (.tmp 2) (.tmp 9) rfl rfl i3' zeroID_length rfl ?_; intro w5 i5 k5))
  refine bodyPost_ret (results_id1 rfl _ rfl i5) rfl ?_
  have hB4 := hB3.trans (hSa1.mono hB3.size)
  exact ⟨rfl, hB4.trans (k5.below (fun j _ e => by subst e; have := S0.out; omega) hB4.size)⟩
/-- Behind a change of newer memory alone. -/
theorem RdOut.behindNew {w w1 W : World} {gr gs n : Nat} {v : Value} {xs : List UInt8} {b : Bool} (h : RdOut w gr gs v xs b w1) (h1 : gr < n) (h2 : gs < n) (h3 : ∀ j, v.ownBlock = some j → j < n) (hb : Below n w1 W) (h4 : w.heap.size ≤ n) : RdOut w gr gs v xs b W := by
  obtain ⟨v', q1, q2, q3⟩ := h
  have k := Kept.of_below' hb
  have hr : ∀ j, v'.ownBlock = some j → ¬ n ≤ j := fun j hj => by have := h3 j (q3 ▸ hj); omega
  exact ⟨v', ⟨q1.src.kept k (by omega) hr, (k.block gr q1.lt (by omega)).trans q1.rd, q1.ne, q1.row⟩, q2.trans k (fun j hj hn => by omega), q3⟩
theorem id_there {W : World} {g : Nat} {x : En} (h : BoxE eEn 70 W g x) : W.there g 2 32 := fun j hj => by
  have := h.there (2 + j) (by show 2 + j < 34; omega)
  rwa [Nat.zero_add] at this
theorem id_store {W : World} {g : Nat} (h : BoxE eEn 70 W g zeroEn) : BoxE eEn 70 (W.setCells g 2 (zeroID.map B8)) g zeroEn ∧ Kept (· = g) W (W.setCells g 2 (zeroID.map B8)) := by
  obtain ⟨h1, h2⟩ := setCells_box (zeroID.map B8) (eEn.enc zeroEn) g 2 W _ h (by decide)
  exact ⟨h1, h2⟩
theorem wpList_store_part {ops : Array Oper} {rest : List Oper} {o : Oper} {a : Act} {w : World} {Q : Exit → Act → World → Prop} (hg : o.guard = none) (x y : Operand) (ho : o.op = .store 25 x y) {g : Nat} (hx : a.eval x = .pointer (some ⟨g, 2, none⟩)) (hbox : BoxE eEn 70 w g zeroEn) (hy : a.eval y = IdV zeroID)
    (h : ∀ w', BoxE eEn 70 w' g zeroEn → Kept (· = g) w w' → wpList Tryz.prog ops Q rest (a.put o.dst undef) w') : wpList Tryz.prog ops Q (o :: rest) a w := by
  have hthere := id_there hbox
  refine wpList_store_mid hg 25 x y ho g 2 (zeroID.map B8).toArray hx hy (by simpa [zeroID] using hthere) (by simpa using sizeID zeroID_length) (all_oneCell_toArray (bs_oneCell zeroID)) ?_
  exact h _ (id_store hbox).1 (id_store hbox).2
set_option maxHeartbeats 1000000 in
/-- An entry, of nothing. -/
theorem rEntry_none (w : World) (gr gs : Nat) (v : Value) (hat : RdAt w gr gs v [] false) :
    Calls Tryz.prog 224 #[.pointer (some ⟨gr, 0, none⟩)] w fun e W' => e = .returned (EnV zeroEn) ∧ RdOut w gr gs v [] true W' := by
  have e1 := BoxE.new (E := eEn) (t := 70) w zeroEn
  have hB1 : Below w.heap.size w (w.alloc (.cells (eEn.enc zeroEn).toArray 70)) := (Below.refl _ w).alloc (Nat.le_refl _) _
  have e2 := BoxE.new (E := eEn) (t := 70) (w.alloc (.cells (eEn.enc zeroEn).toArray 70)) zeroEn
  have hB2 := hB1.alloc hB1.size (.cells (eEn.enc zeroEn).toArray 70)
  have e1' := e1.below ((Below.refl _ (w.alloc (.cells (eEn.enc zeroEn).toArray 70))).alloc (Nat.le_refl _) (.cells (eEn.enc zeroEn).toArray 70))
  rw [World.size_alloc] at e2
  have hat2 := hat.below hB2
  have hgs := hat.src.box.lt
  have hgr := hat.lt
  have HV0 := Lib.hid (fun j hj => (hat.src.row j hj).1)
  go_enter Tryz.func224, Tryz.ntmps224
  go_wp2_with (refine wpList_alloc_e (E := eEn) (z := zeroEn) zeroEn_run rfl rfl ?_)
  refine (rdText_any _ gr gs v [] false hat2 (by simp) 64 (by decide) (by decide)).mono ?_
  rintro e w3 ⟨rfl, hout⟩
  rw [show rdBy 64 [] false = ([], [], true) by decide +kernel] at hout ⊢
  obtain ⟨v3, hat3, hk3, hv3⟩ := hout
  dsimp only at hat3
  have n1 : ¬ (w.heap.size = gs ∨ w.heap.size = gr) := by omega
  have n2 : ¬ (w.heap.size + 1 = gs ∨ w.heap.size + 1 = gr) := by omega
  have e13 : BoxE eEn 70 w3 w.heap.size zeroEn := e1'.kept hk3 n1
  have e23 : BoxE eEn 70 w3 (w.heap.size + 1) zeroEn := e2.kept hk3 n2
  have O3 := Lib.hid (RdOut.ahead hB2 (⟨v3, hat3, hk3, hv3⟩ : RdOut _ gr gs v [] true w3))
  clear hk3 hv3 hat hat2 e1 e1' e2 hB1
  have q0 := EnAt.nm e23.at
  have z0 := e23.frozen 0
  dsimp only
  go_wp2_with fail
  have e24 : BoxE eEn 70 (w3.setCell ⟨w.heap.size + 1, 0, none⟩ (Str [])) (w.heap.size + 1) zeroEn := e23.put (Str []) rfl
  have k4 : Kept (fun j => j = w.heap.size + 1) w3 (w3.setCell ⟨w.heap.size + 1, 0, none⟩ (Str [])) := (Kept.refl (fun j => j = w.heap.size + 1) w3).setCell (p := ⟨w.heap.size + 1, 0, none⟩) (fun _ => rfl) _
  have e14 := e13.kept k4 (show ¬ w.heap.size = w.heap.size + 1 by omega)
  have hrow3 := hat3.row
  have hsr3 := hat3.src.row
  have O4 := Lib.hid (O3.out.behindNew (n := w.heap.size) (by omega) (by omega) (fun j hj => by have := HV0.out j hj; omega) (k4.below (B := w.heap.size) (fun j _ e => by subst e; omega) (by have := e13.lt; omega)) (Nat.le_refl _))
  generalize w3.setCell ⟨w.heap.size + 1, 0, none⟩ (Str []) = w4 at *
  clear hat3 e13 e23 q0 z0 hrow3 hsr3 k4 O3
  obtain ⟨v4, hat4, hk4, hv4⟩ := O4.out
  have HK4 := Lib.hid hk4
  have HV4 := Lib.hid hv4
  clear hk4 hv4
  refine (rKind_any w4 gr gs v4 [] true hat4 (by simp)).mono ?_
  rintro e w5 ⟨rfl, hout⟩
  rw [show rdNum 4 [] true = (0, [], true) by decide +kernel] at hout ⊢
  dsimp only at hout ⊢
  obtain ⟨v5, hat5, hk5, hv5⟩ := hout
  have e15 : BoxE eEn 70 w5 w.heap.size zeroEn := e14.kept hk5 n1
  have e25 : BoxE eEn 70 w5 (w.heap.size + 1) zeroEn := e24.kept hk5 n2
  have O5 := Lib.hid (RdOut.then HK4.out HV4.out (⟨v5, hat5, hk5, hv5⟩ : RdOut w4 gr gs v4 [] true w5))
  clear hk5 hv5 hat4 hat5 e14 e24 O4 HK4 HV4
  have q1 := EnAt.kd e25.at
  rw [Nat.zero_add] at q1
  have z1 := e25.frozen 1
  go_wp2_with fail
  have e26 : BoxE eEn 70 (w5.setCell ⟨w.heap.size + 1, 1, none⟩ (.int .i64 0)) (w.heap.size + 1) zeroEn := e25.put (.int .i64 0) rfl
  have k6 : Kept (fun j => j = w.heap.size + 1) w5 (w5.setCell ⟨w.heap.size + 1, 1, none⟩ (.int .i64 0)) := (Kept.refl (fun j => j = w.heap.size + 1) w5).setCell (p := ⟨w.heap.size + 1, 1, none⟩) (fun _ => rfl) _
  have e16 := e15.kept k6 (show ¬ w.heap.size = w.heap.size + 1 by omega)
  have O6 := Lib.hid (O5.out.behindNew (n := w.heap.size) (by omega) (by omega) (fun j hj => by have := HV0.out j hj; omega) (k6.below (B := w.heap.size) (fun j _ e => by subst e; omega) (by have := e15.lt; omega)) (Nat.le_refl _))
  generalize w5.setCell ⟨w.heap.size + 1, 1, none⟩ (.int .i64 0) = w6 at *
  clear e15 e25 q1 z1 k6 O5
  obtain ⟨v6, hat6, hk6, hv6⟩ := O6.out
  clear hk6 hv6
  refine (rId_wrong w6 gr gs v6 [] hat6).mono ?_
  rintro e w7 ⟨rfl, h7⟩
  have e17 := e16.below h7
  have e27 := e26.below h7
  have O7 := Lib.hid (O6.out.behind h7)
  clear h7 hat6 e16 e26 O6
  go_wp2_with (first
    | (refine wpList_store_part rfl (.tmp 12) (.tmp 11) rfl rfl e27 rfl ?_; intro w8 e28 k8; have e18 := e17.kept k8 (show ¬ w.heap.size = w.heap.size + 1 by omega))
    | (refine wpList_load_e (E := eEn) Tryz.underlying70 rfl sizeEn rfl (.tmp 3) rfl rfl e28.at ?_)
    | (refine wpList_store_e (E := eEn) sizeEn rfl (.tmp 2) (.tmp 13) rfl rfl e18 rfl ?_; intro w9 b9 k9))
  refine bodyPost_ret (results_e1 (E := eEn) Tryz.underlying70 rfl sizeEn rfl _ rfl b9) rfl ?_
  have hs7 := e17.lt
  have hb8 : Below w.heap.size w7 w8 := k8.below (fun j _ e => by subst e; omega) (by omega)
  have hb9 := hb8.trans (k9.below (B := w.heap.size) (fun j _ e => by subst e; omega) (by have := hb8.size; omega))
  exact ⟨rfl, O7.out.behindNew (n := w.heap.size) (by omega) (by omega) (fun j hj => by have := HV0.out j hj; omega) hb9 (Nat.le_refl _)⟩
end Go.Proofs.YtljihmbmjpcfaaaGreat
namespace Go.Proofs.YtljihmbmjpcfaaaGreat
open Go.RowKit Go.Shelf Go.Great
set_option maxRecDepth 100000

theorem rEntry_enters (args : Array Value) (w : World) : (callFunc 224 args).run Tryz.prog w = .ok (.enter 224 args) w := enters_of Tryz.func224 (by kernel_rfl) rfl args w
set_option maxHeartbeats 1000000 in
theorem rSevE_one (w : World) (gr gs : Nat) (v : Value) (hat : RdAt w gr gs v [1] false) :
    Calls Tryz.prog 223 #[.pointer (some ⟨gr, 0, none⟩), .int .u64 32, .func (.func 224) #[.pointer (some ⟨gr, 0, none⟩)] #[]] w fun e W' => ∃ A n c, e = .returned (.slice A n c) ∧ RdOut w gr gs v [] true W' := by
  have hen := fun args w => rEntry_enters args w
  go_enter Tryz.func223, Tryz.ntmps223
  go_wp2_with fail
  refine (rNumber_any w gr gs v [1] false hat (by simp) 32).mono ?_
  rintro e w2 ⟨rfl, hout⟩
  rw [show rdNum 32 [1] false = (1, [], false) by decide +kernel] at hout ⊢
  dsimp only at hout ⊢
  obtain ⟨v2, hat2, hk2, hv2⟩ := hout
  have HK2 := Lib.hid hk2
  have HV2 := Lib.hid hv2
  clear hk2 hv2 hat
  go_wp2_with fail
  go_loopw [7, 11] (fun s i wr => (i = .int .u64 0 ∧ s = .slice none 0 0 ∧ wr = w2) ∨ (i = .int .u64 1 ∧ (∃ A n c, s = .slice A n c) ∧ RdOut w gr gs v [] true wr)) (fun _ i _ => 1 - (RowKit.intOf i).toNat)
  case atStart => exact .inl ⟨rfl, rfl, rfl⟩
  case round =>
    rcases hrel with ⟨rfl, rfl, rfl⟩ | ⟨rfl, ⟨A, n, c, rfl⟩, hO⟩
    · go_wp2_with fail
      refine (rEntry_none wr gr gs v2 hat2).mono ?_
      rintro e w3 ⟨rfl, hout⟩
      have O3 := Lib.hid (RdOut.then HK2.out HV2.out hout)
      clear hout hat2 HK2 HV2
      go_wp2_with (first
        | (refine wpList_one_e (E := eEn) elEn (by decide) rfl (.tmp 15) rfl (x := zeroEn) rfl ?_; have hone := Es.one_e (E := eEn) w3 zeroEn 70; have hB4 := (Below.refl w3.heap.size w3).alloc (Nat.le_refl _) (.cells (eEn.enc zeroEn).toArray 70); generalize hg4 : w3.alloc (.cells (eEn.enc zeroEn).toArray 70) = w4 at hone hB4 ⊢; clear hg4)
        | (at_builtin; refine wpList_append_es elEn rfl (.tmp 13) (.tmp 16) rfl w4.heap.size _ [] rfl (RowE.nil _ _) _ [zeroEn] rfl hone (by simp) (Nat.le_refl _) ?_; intro v5 w5 hown5 hg5 hv5; obtain ⟨A5, c5, rfl, _⟩ := hown5.slice))
      have hB5 : Below w3.heap.size w3 w5 := hB4.trans ((Kept.of_grown hg5).below (B := w3.heap.size) (fun j _ e => by cases e) hB4.size)
      have O5 := O3.out.behind hB5
      go_roundw
      case rel => exact O5
      case measure => simp [RowKit.intOf]
    · have O := Lib.hid hO
      clear hO
      go_wp2_with fail
      go_ret
      exact ⟨_, _, _, rfl, O.out⟩
set_option maxHeartbeats 1000000 in
theorem treeRead_one (w : World) (gr gs gb : Nat) (v x : Value) (hat : RdAt w gr gs v [1] false) (hb : Boxed w gb 165 x) (h1 : gb ≠ gr) (h2 : gb ≠ gs) (h3 : ∀ j, v.ownBlock = some j → j ≠ gb) :
    Calls Tryz.prog 220 #[.pointer (some ⟨gb, 0, none⟩), .pointer (some ⟨gr, 0, none⟩)] w fun e W' => e = .returned (.tuple #[]) ∧ (∃ v', RdAt W' gr gs v' [] true) ∧ Kept (fun j => j = gs ∨ j = gr ∨ j = gb) w W' := by
  have hmf : ∀ (fn : Fn) (first cap : Array Value) (w : World), (Instr.makeFunc fn first cap).run Tryz.prog w = .ok (.func fn first cap) w := fun _ _ _ _ => rfl
  go_enter Tryz.func220, Tryz.ntmps220
  go_wp2_with fail
  refine (rSevE_one w gr gs v hat).mono ?_
  rintro e w2 ⟨A, n, c, rfl, v2, hat2, hk2, hv2⟩
  have hb2 := hk2.boxed hb (by rintro (h | h); exact h2 h; exact h1 h)
  have hc2 := hb2.cell
  have hf2 := hb2.frozen
  have HK := Lib.hid hk2
  have HV := Lib.hid hv2
  clear hk2 hv2
  go_wp2_with fail
  go_end0
  have k3 : Kept (fun j => j = gb) w2 (w2.setCell ⟨gb, 0, none⟩ (.slice A n c)) := (Kept.refl (fun j => j = gb) w2).setCell (p := ⟨gb, 0, none⟩) (fun _ => rfl) _
  refine ⟨rfl, ⟨v2, hat2.src.kept k3 (fun e => h2 e.symm) (fun j hj e => h3 j (HV.out ▸ hj) e), (k3.block gr hat2.lt (fun e => h1 e.symm)).trans hat2.rd, hat2.ne, hat2.row⟩, ?_⟩
  exact (HK.out.mono (T' := fun j => j = gs ∨ j = gr ∨ j = gb) (fun j _ h => by rcases h with h | h; exact .inl h; exact .inr (.inl h))).trans k3 (fun j _ e => .inr (.inr e))
theorem build_kd (w : World) (k : Int) : (Instr.build 30 #[(0, .int .i64 k)]).run Tryz.prog w = .ok (ObV { zeroOb with kd := k }) w := by
  obtain ⟨fs, hu, hp⟩ := ob_places w
  refine run_build_struct hu w (zeroOb_run w) hp ?_
  show Instr.fill _ (encO zeroOb).toArray [(0, .int .i64 k)] = _
  rw [ofill_one _ _ _ _ [.int .i64 k] _ 0 1 rfl rfl rfl (by rw [encO_length]; simp), ofill_none, encO_set_kd]
theorem build_ob0 (w : World) : (Instr.build 30 #[]).run Tryz.prog w = .ok (ObV zeroOb) w := by
  obtain ⟨fs, hu, hp⟩ := ob_places w
  refine run_build_struct hu w (zeroOb_run w) hp ?_
  show Instr.fill _ (encO zeroOb).toArray [] = _
  rw [ofill_none]
theorem results_e2 {α : Type} {E : Elt α} {t : TypeId} {d : TypeDesc} (hu : Tryz.prog.underlying t = some d) (hd : d.isRow = true) (hi : (Tryz.prog.info? t).map (·.size) = some E.k) {fn : Func} {s u : Tmp} (h : fn.results = #[.cell s t, .tmp u]) (tmps : Array Value) {w : World} {g : Nat} {x : α} (ht : tmps.getD s undef = .pointer (some ⟨g, 0, none⟩)) (hb : BoxE E t w g x) :
    (results fn tmps).run Tryz.prog w = .ok (.tuple #[E.val x, tmps.getD u undef]) w := by
  have hl := run_loadVar_mid (P := Tryz.prog) w g 0 t (E.enc x) d hb.at hu hd (by rw [hi, E.len x])
  rw [Array.getD_eq_getD_getElem?] at ht
  simp [results, h, ht, asAddr, hl]
end Go.Proofs.YtljihmbmjpcfaaaGreat
namespace Go.Proofs.YtljihmbmjpcfaaaGreat
open Go.RowKit Go.Shelf Go.Great
set_option maxRecDepth 100000

/-- As many bytes as an id has. -/
def rdRawP (xs : List UInt8) (wrong : Bool) : List UInt8 × List UInt8 × Bool :=
  if wrong then ([], xs, true) else if (rawRes 32 xs).1 = 0 then ((rawRes 32 xs).2.1, (rawRes 32 xs).2.2, false) else ([], xs, true)
theorem rdNum_left (most : Nat) (xs : List UInt8) (b : Bool) : (rdNum most xs b).2.1.length ≤ xs.length := by
  unfold rdNum
  split
  · exact Nat.le_refl _
  · split
    · exact numRes_left _ _
    · exact Nat.le_refl _
theorem rawRes_left (n : Int) (xs : List UInt8) : (rawRes n xs).2.2.length ≤ xs.length := by
  unfold rawRes
  split
  · exact Nat.le_refl _
  · split
    · exact Nat.le_refl _
    · simp
theorem rdBy_left (most : Int) (xs : List UInt8) (b : Bool) : (rdBy most xs b).2.1.length ≤ xs.length := by
  unfold rdBy
  split
  · exact Nat.le_refl _
  · split
    · unfold bytesRes
      split
      · exact numRes_left _ _
      · exact Nat.le_trans (rawRes_left _ _) (numRes_left _ _)
    · exact Nat.le_refl _
theorem rdIdP_left (xs : List UInt8) (b : Bool) : (rdIdP xs b).2.1.length ≤ xs.length := by
  unfold rdIdP
  split
  · exact Nat.le_refl _
  · split
    · exact Nat.le_refl _
    · simp
theorem rdEnP_left (xs : List UInt8) (b : Bool) : (rdEnP xs b).2.1.length ≤ xs.length := by
  unfold rdEnP
  exact Nat.le_trans (rdIdP_left _ _) (Nat.le_trans (rdNum_left _ _ _) (rdBy_left _ _ _))
theorem rdRawP_id (xs : List UInt8) : ((rdRawP xs false).1 = [] ∧ (rdIdP xs false).1 = zeroID ∨ (rdRawP xs false).1 = (rdIdP xs false).1) ∧ (rdRawP xs false).2 = (rdIdP xs false).2 := by
  by_cases h : xs.length < 32
  · have e : rawRes 32 xs = (10, [], xs) := by
      unfold rawRes
      rw [if_neg (by decide), if_pos (show (xs.length : Int) < 32 by omega)]
    exact ⟨.inl (by simp [rdRawP, rdIdP, e, h]), by simp [rdRawP, rdIdP, e, h]⟩
  · have e : rawRes 32 xs = (0, xs.take 32, xs.drop 32) := by
      unfold rawRes
      rw [if_neg (by decide), if_neg (show ¬ (xs.length : Int) < 32 by omega)]
      rfl
    exact ⟨.inr (by simp [rdRawP, rdIdP, e, h]), by simp [rdRawP, rdIdP, e, h]⟩
set_option maxHeartbeats 1000000 in
/-- The closure that reads the bytes of an id. -/
theorem rId1_any (w : World) (gr gs : Nat) (v : Value) (xs : List UInt8) (b : Bool) (hat : RdAt w gr gs v xs b) (hlen : xs.length ≤ 140737488355328) (b1 : Nat) (h1 : w.cell? ⟨b1, 0, none⟩ = some (.pointer (some ⟨gr, 0, none⟩))) :
    Calls Tryz.prog 233 #[.pointer (some ⟨b1, 0, none⟩)] w fun e W' => ∃ r, e = .returned (.tuple #[r, .int .i64 (back xs (rawRes 32 xs)).1]) ∧ W'.ownsRow w.heap.size 5 1 r (back xs (rawRes 32 xs)).2.1.length ((back xs (rawRes 32 xs)).2.1.map B8) ∧ ∃ v', RdAt W' gr gs v' (back xs (rawRes 32 xs)).2.2 b ∧ Kept (fun j => j = gs) w W' ∧ v'.ownBlock = v.ownBlock := by
  generalize hres : back xs (rawRes 32 xs) = res
  obtain ⟨er, m, ys⟩ := res
  dsimp only
  have h0 := hat.c0
  have hcall := SrcRaw_any w gs v xs hat.src hlen 32
  rw [hres] at hcall
  clear hres
  have HAT := Lib.hid hat
  clear hat
  go_enter Tryz.func233, Tryz.ntmps233
  go_wp2_with fail
  refine hcall.mono ?_
  rintro e w2 ⟨r, rfl, hrow, hread⟩
  obtain ⟨v2, hat2, hk, hv⟩ := HAT.out.read hread
  obtain ⟨A, n, c, rfl⟩ := owns_slice hrow
  have HROW := Lib.hid hrow
  have HK := Lib.hid hk
  have HV := Lib.hid hv
  have HA2 := Lib.hid hat2
  clear hk hv hread hrow hcall hat2
  go_wp2_with fail
  go_ret2
  exact ⟨_, rfl, HROW.out, v2, HA2.out, HK.out, HV.out⟩
set_option maxHeartbeats 1000000 in
theorem rdRaw_right (w : World) (gr gs : Nat) (v : Value) (xs : List UInt8) (hat : RdAt w gr gs v xs false) (hlen : xs.length ≤ 140737488355328) (b1 : Nat) (h1 : w.cell? ⟨b1, 0, none⟩ = some (.pointer (some ⟨gr, 0, none⟩))) :
    Calls Tryz.prog 208 #[.pointer (some ⟨gr, 0, none⟩), .func (.func 233) #[] #[.pointer (some ⟨b1, 0, none⟩)]] w fun e W' => ∃ r, e = .returned r ∧ W'.ownsRow w.heap.size 5 1 r (rdRawP xs false).1.length ((rdRawP xs false).1.map B8) ∧ RdOut w gr gs v (rdRawP xs false).2.1 (rdRawP xs false).2.2 W' := by
  have hcall := rId1_any w gr gs v xs false hat hlen b1 h1
  have hc1 := hat.c1
  obtain ⟨er, m, ys, hr⟩ : ∃ er m ys, back xs (rawRes 32 xs) = (er, m, ys) := ⟨_, _, _, rfl⟩
  have HRD := Lib.hid (show rdRawP xs false = if er = 0 then (m, ys, false) else ([], xs, true) by
    unfold back at hr
    injection hr with r1 r2
    injection r2 with r2 r3
    unfold rdRawP
    rw [if_neg (by decide), r1, r2]
    by_cases h0 : er = 0
    · rw [r1, if_pos h0] at r3
      rw [if_pos h0, if_pos h0, r3]
    · rw [if_neg h0, if_neg h0])
  have HX := Lib.hid (show ¬ er = 0 → ys = xs by
    intro h0
    unfold back at hr
    injection hr with r1 r2
    injection r2 with r2 r3
    rw [r1, if_neg h0] at r3
    exact r3.symm)
  rw [hr] at hcall
  dsimp only at hcall
  clear hr
  go_enter Tryz.func208, Tryz.ntmps208
  go_wp2_with fail
  refine hcall.mono ?_
  rintro e w2 ⟨r, rfl, hrow, v2, hat2, hk2, hv2⟩
  obtain ⟨A, n, c, rfl⟩ := owns_slice hrow
  have HROW := Lib.hid hrow
  have HK := Lib.hid hk2
  have HV := Lib.hid hv2
  clear hk2 hv2 hcall hrow
  by_cases h0 : er = 0
  · subst h0
    have HR2 := Lib.hid (HRD.out.trans (if_pos rfl))
    go_wp2_with fail
    go_ret
    rw [HR2.out]
    exact ⟨_, rfl, HROW.out, v2, hat2, HK.out.mono (fun _ _ h => .inl h), HV.out⟩
  · have HR2 := Lib.hid (HRD.out.trans (if_neg h0))
    have hne : (er != 0) = true := by simpa using h0
    have hc2 := hat2.c1
    have hf2 := hat2.frozen 1
    go_wp2_with fail
    go_ret
    rw [HR2.out]
    have hm := hat2.mark
    rw [HX.out h0] at hm
    exact ⟨_, rfl, World.ownsRow_nil _ _ _ _, v2, hm, (HK.out.mono (T' := fun j => j = gs ∨ j = gr) (fun _ _ h => .inl h)).setCell (p := ⟨gr, 1, none⟩) (fun _ => .inr rfl) _, HV.out⟩

/-- copy of what was read into an id. -/
theorem copy_raw (w : World) (ty : TypeId) (g : Nat) (hb : BoxI w g zeroID) {r : Value} {ys id : List UInt8} (hs : Bs w r ys) (h : ys = [] ∧ id = zeroID ∨ ys = id) (h32 : id.length = 32) :
    ∃ A m c n w', r = .slice A m c ∧ (Builtin.copy_ #[22, 22] ty #[.slice (some ⟨g, 0, none⟩) 32 32, .slice A m c]).run Tryz.prog w = .ok (.int .i64 n) w' ∧ BoxI w' g id ∧ Kept (· = g) w w' := by
  have hi1 : (Tryz.prog.info? 5).map (·.size) = some 1 := by kernel_rfl
  rcases h with ⟨rfl, rfl⟩ | rfl
  · obtain ⟨A, c, rfl, _⟩ := hs.form
    exact ⟨A, 0, c, _, w, rfl, run_copy_none w 22 22 ty 5 _ _ _ _ _ _ Tryz.underlying22 hi1 rfl, hb, Kept.refl _ _⟩
  · rcases hs with ⟨rfl, rfl⟩ | ⟨A, c, rfl, _, hx⟩
    · simp at h32
    · have hr := run_copy_cells (P := Tryz.prog) w 22 22 ty 5 g 0 32 32 A ys.length c (ys.map B8) Tryz.underlying22 hi1 (by rw [List.length_map, h32]; rfl)
        (fun j v hv => by
          rw [List.getElem?_map] at hv
          cases hj : ys[j]? with
          | none => rw [hj] at hv; cases hv
          | some x =>
            rw [hj] at hv
            cases hv
            exact hx j x hj)
        (fun j hj => (hb.there j (by simp at hj; omega)).1)
        (fun j hj => (hb.there j (by simp at hj; omega)).2)
        (fun v hv => by
          obtain ⟨x, _, rfl⟩ := List.mem_map.1 hv
          rfl)
      obtain ⟨h1, h2⟩ := hb.store h32
      exact ⟨_, _, _, _, _, rfl, hr, h1, h2⟩
set_option maxHeartbeats 2000000 in
/-- An id, where nothing was wrong. -/
theorem rId_right (w : World) (gr gs : Nat) (v : Value) (xs : List UInt8) (hat : RdAt w gr gs v xs false) (hlen : xs.length ≤ 140737488355328) :
    Calls Tryz.prog 229 #[.pointer (some ⟨gr, 0, none⟩)] w fun e W' => e = .returned (IdV (rdIdP xs false).1) ∧ RdOut w gr gs v (rdIdP xs false).2.1 (rdIdP xs false).2.2 W' := by
  have h32 := rdIdP_length xs false
  obtain ⟨hraw, hrest⟩ := rdRawP_id xs
  obtain ⟨id, ys, wr, hres⟩ : ∃ id ys wr, rdIdP xs false = (id, ys, wr) := ⟨_, _, _, rfl⟩
  obtain ⟨raw, hrw⟩ : ∃ raw, (rdRawP xs false).1 = raw := ⟨_, rfl⟩
  rw [hres] at h32 hraw hrest ⊢
  rw [hrw] at hraw
  dsimp only at h32 hraw ⊢
  have hR2 : (rdRawP xs false).2.1 = ys := by rw [hrest]
  have hR3 : (rdRawP xs false).2.2 = wr := by rw [hrest]
  have hmf : ∀ (fn : Fn) (first cap : Array Value) (w : World), (Instr.makeFunc fn first cap).run Tryz.prog w = .ok (.func fn first cap) w := fun _ _ _ _ => rfl
  have hB1 : Below w.heap.size w (w.alloc (.cells #[.pointer (some ⟨gr, 0, none⟩)] 107)) := (Below.refl _ w).alloc (Nat.le_refl _) _
  have p1 := Boxed.new w 107 (.pointer (some ⟨gr, 0, none⟩))
  have hgr := hat.lt
  have hgs := hat.src.box.lt
  have hrl : ∀ j, v.ownBlock = some j → j < w.heap.size := fun j hj => (hat.src.row j hj).1
  have HRL := Lib.hid hrl
  have HR2 := Lib.hid hR2
  have HR3 := Lib.hid hR3
  have HRW := Lib.hid hrw
  have HRAW := Lib.hid hraw
  clear hres hrest hrl hR2 hR3 hrw hraw
  go_enter Tryz.func229, Tryz.ntmps229
  go_wp2_with (refine wpList_alloc_id rfl rfl ?_)
  obtain ⟨w0, hw0⟩ : ∃ x, x = w.alloc (.cells #[.pointer (some ⟨gr, 0, none⟩)] 107) := ⟨_, rfl⟩
  rw [← hw0] at hB1 p1 ⊢
  have s0 : w0.heap.size = w.heap.size + 1 := by rw [hw0, World.size_alloc]
  clear hw0
  have i1 := BoxI.new w0 zeroID_length
  have hB2 := hB1.alloc hB1.size (.cells (zeroID.map B8).toArray 25)
  have p2 := p1.alloc (.cells (zeroID.map B8).toArray 25)
  obtain ⟨w1, hw1⟩ : ∃ x, x = w0.alloc (.cells (zeroID.map B8).toArray 25) := ⟨_, rfl⟩
  rw [← hw1] at hB2 p2 i1 ⊢
  have s1 : w1.heap.size = w.heap.size + 1 + 1 := by rw [hw1, World.size_alloc, s0]
  clear hw1
  have i2 := BoxI.new w1 zeroID_length
  have hB3 := hB2.alloc hB2.size (.cells (zeroID.map B8).toArray 25)
  have p3 := p2.alloc (.cells (zeroID.map B8).toArray 25)
  have i1' := i1.below ((Below.refl _ w1).alloc (Nat.le_refl _) (.cells (zeroID.map B8).toArray 25))
  obtain ⟨w2, hw2⟩ : ∃ x, x = w1.alloc (.cells (zeroID.map B8).toArray 25) := ⟨_, rfl⟩
  rw [← hw2] at hB3 p3 i2 i1' ⊢
  clear hw2
  have c1 := p3.cell
  have hB4 : Below w.heap.size w w2.drew := hB3.drew
  have hat2 : RdAt w2.drew gr gs v xs false := hat.below hB4
  have i2' : BoxI w2.drew w1.heap.size zeroID := i2
  have i1'' : BoxI w2.drew w0.heap.size zeroID := i1'
  have hS0 : w2.drew.cell? ⟨w.heap.size, 0, none⟩ = some (.pointer (some ⟨gr, 0, none⟩)) := c1
  have S0 := Lib.hid s0
  have S1 := Lib.hid s1
  clear s0 s1 i1 i1' i2 p1 p2 hB1 hB2 hB3
  refine wp_held (fun W1 => W1.cell? ⟨w.heap.size, 0, none⟩ = some (.pointer (some ⟨gr, 0, none⟩))) (by kernel_rfl) ?_
  refine wpAnyH_next (i := 0) (v := .slice (some ⟨w1.heap.size, 0, none⟩) 32 32) rfl (by kernel_rfl) (by kernel_rfl) (by kernel_rfl) (fun _ _ _ h => h) (by kernel_rfl) (fun W1 hW1 => by go_simp; done) hS0 (fun a' ha' => ?_)
  simp only [Act.put, List.getElem_toArray, List.getElem_cons_zero, List.setIfInBounds_toArray, List.set_cons_succ, List.set_cons_zero] at ha'
  subst ha'
  refine wpAnyH_next (i := 1) (v := .pointer (some ⟨gr, 0, none⟩)) rfl (by kernel_rfl) (by kernel_rfl) (by kernel_rfl) (fun _ _ _ h => h) (by kernel_rfl) (fun W1 hW1 => by go_simp; done) hS0 (fun a' ha' => ?_)
  simp only [Act.put, List.getElem_toArray, List.getElem_cons_succ, List.getElem_cons_zero, List.setIfInBounds_toArray, List.set_cons_succ, List.set_cons_zero] at ha'
  subst ha'
  refine wpAnyH_next (i := 2) (v := .func (.func 233) #[] #[.pointer (some ⟨w.heap.size, 0, none⟩)]) rfl (by kernel_rfl) (by kernel_rfl) (by kernel_rfl) (fun _ _ _ h => h) (by kernel_rfl) (fun W1 hW1 => by go_simp; done) hS0 (fun a' ha' => ?_)
  simp only [Act.put, List.getElem_toArray, List.getElem_cons_succ, List.getElem_cons_zero, List.setIfInBounds_toArray, List.set_cons_succ, List.set_cons_zero] at ha'
  subst ha'
  refine wpAnyH_want (i := 3) (by kernel_rfl) rfl (by kernel_rfl) (fun K hK => ?_)
  unfold Oper.wp
  go_simp
  refine (rdRaw_right w2.drew gr gs v xs hat2 hlen w.heap.size hS0).mono ?_
  rintro e a1 ⟨r, rfl, hrow, hout⟩
  rw [HR2.out, HR3.out] at hout
  rw [HRW.out] at hrow
  have hbs := Bs.of_owns hrow
  have O1 := Lib.hid (RdOut.ahead hB4 hout)
  obtain ⟨v1, hat1, hk1, hv1⟩ := hout
  have n1 : ¬ (w1.heap.size = gs ∨ w1.heap.size = gr) := by have := S1.out; omega
  have n0 : ¬ (w0.heap.size = gs ∨ w0.heap.size = gr) := by have := S0.out; omega
  have nw : ¬ (w.heap.size = gs ∨ w.heap.size = gr) := by omega
  have i2a := i2'.kept hk1 n1
  have i1a := i1''.kept hk1 n0
  have hS1 : a1.cell? ⟨w.heap.size, 0, none⟩ = some (.pointer (some ⟨gr, 0, none⟩)) := (hk1.cell (World.block_lt_of_cell? _ _ hS0) nw).trans hS0
  obtain ⟨A, m, c, n, w5, rfl, hcp, b5, k5⟩ := copy_raw a1 3 w1.heap.size i2a hbs HRAW.out h32
  have hS5 : w5.cell? ⟨w.heap.size, 0, none⟩ = some (.pointer (some ⟨gr, 0, none⟩)) := (k5.cell (World.block_lt_of_cell? _ _ hS1) (show ¬ w.heap.size = w1.heap.size by have := S1.out; omega)).trans hS1
  have i15 := i1a.kept k5 (show ¬ w0.heap.size = w1.heap.size by have := S0.out; have := S1.out; omega)
  have K5 := Lib.hid k5
  have HA1 := Lib.hid hat1
  clear hrow hbs hk1 hv1 i2' i1'' hat2 k5 hat1 hat
  refine hK _ _ hS1 ?_
  clear hK K
  refine wpAnyH_one (i := 4) (by kernel_rfl) rfl rfl (fun K hK => ?_)
  unfold Oper.wp
  go_simp
  refine hK _ _ hS5 ?_
  clear hK K
  refine wpAnyH_fin (by kernel_rfl) ?_ _
  go_wp2_with (first
    | (refine wpList_load_id rfl (.tmp 3) rfl rfl h32 b5.at ?_)
    | (refine wpList_store_id rfl (.tmp 2) (.tmp 9) rfl rfl i15 h32 rfl ?_; intro w6 i6 k6))
  refine bodyPost_ret (results_id1 rfl _ rfl i6) rfl ?_
  have hszA : w.heap.size ≤ a1.heap.size := by have := i1a.lt; have := S0.out; omega
  have hk56 : Below w.heap.size a1 w6 := (K5.out.below (fun j _ e => by subst e; have := S1.out; omega) hszA).trans (k6.below (fun j _ e => by subst e; have := S0.out; omega) (by have := i15.lt; have := S0.out; omega))
  exact ⟨rfl, O1.out.behindNew (n := w.heap.size) hgr hgs HRL.out hk56 (Nat.le_refl _)⟩
theorem rId_any (w : World) (gr gs : Nat) (v : Value) (xs : List UInt8) (b : Bool) (hat : RdAt w gr gs v xs b) (hlen : xs.length ≤ 140737488355328) :
    Calls Tryz.prog 229 #[.pointer (some ⟨gr, 0, none⟩)] w fun e W' => e = .returned (IdV (rdIdP xs b).1) ∧ RdOut w gr gs v (rdIdP xs b).2.1 (rdIdP xs b).2.2 W' := by
  cases b with
  | false => exact rId_right w gr gs v xs hat hlen
  | true => exact (rId_wrong w gr gs v xs hat).mono fun e W' ⟨h1, h2⟩ => ⟨h1, .of_below hat h2⟩

/-- A part of a variable, stored. -/
theorem wpList_store_partE {α : Type} {E : Elt α} {t tp : TypeId} {ops : Array Oper} {rest : List Oper} {o : Oper} {a : Act} {w : World} {Q : Exit → Act → World → Prop} (hg : o.guard = none) (x y : Operand) (ho : o.op = .store tp x y) {g off : Nat} (hx : a.eval x = .pointer (some ⟨g, off, none⟩)) {u u' : α} (hbox : BoxE E t w g u) (cs : List Value) (hy : a.eval y = .agg cs.toArray) (hsz : (Tryz.prog.info? tp).map (·.size) = some cs.length) (hone : ∀ c ∈ cs, c.oneCell' = true) (hl : off + cs.length ≤ E.k) (hu : (E.enc u).take off ++ cs ++ (E.enc u).drop (off + cs.length) = E.enc u')
    (h : ∀ w', BoxE E t w' g u' → Kept (· = g) w w' → wpList Tryz.prog ops Q rest (a.put o.dst undef) w') : wpList Tryz.prog ops Q (o :: rest) a w := by
  have hthere : w.there g off cs.length := fun j hj => by
    have := hbox.there (off + j) (by omega)
    rwa [Nat.zero_add] at this
  obtain ⟨h1, h2⟩ := setCells_box cs (E.enc u) g off w t hbox (by rw [E.len]; exact hl)
  rw [hu] at h1
  refine wpList_store_mid hg tp x y ho g off cs.toArray hx hy (by simpa using hthere) (by simpa using hsz) (all_oneCell_toArray hone) ?_
  exact h _ h1 h2
theorem en_idx (x : En) (id : List UInt8) (h : id.length = 32) : (eEn.enc x).take 2 ++ id.map B8 ++ (eEn.enc x).drop (2 + (id.map B8).length) = eEn.enc ⟨x.nm, x.kd, id, h⟩ := by
  show (encE x).take 2 ++ id.map B8 ++ (encE x).drop (2 + (id.map B8).length) = encE ⟨x.nm, x.kd, id, h⟩
  have hx := x.h
  rw [List.drop_eq_nil_of_le (by simp [encE, hx, h])]
  simp [encE]
set_option maxHeartbeats 2000000 in
/-- An entry. -/
theorem rEntry_any (w : World) (gr gs : Nat) (v : Value) (xs : List UInt8) (b : Bool) (hat : RdAt w gr gs v xs b) (hlen : xs.length ≤ 1000000) :
    Calls Tryz.prog 224 #[.pointer (some ⟨gr, 0, none⟩)] w fun e W' => e = .returned (EnV (rdEnP xs b).1) ∧ RdOut w gr gs v (rdEnP xs b).2.1 (rdEnP xs b).2.2 W' := by
  have hl1 := rdBy_left 64 xs b
  obtain ⟨nm, r1, b1, ha⟩ : ∃ nm r1 b1, rdBy 64 xs b = (nm, r1, b1) := ⟨_, _, _, rfl⟩
  have hl2 := rdNum_left 4 r1 b1
  obtain ⟨kd, r2, b2, hk⟩ : ∃ kd r2 b2, rdNum 4 r1 b1 = (kd, r2, b2) := ⟨_, _, _, rfl⟩
  have h32 := rdIdP_length r2 b2
  obtain ⟨id, r3, b3, hi⟩ : ∃ id r3 b3, rdIdP r2 b2 = (id, r3, b3) := ⟨_, _, _, rfl⟩
  rw [hi] at h32
  rw [hk] at hl2
  rw [ha] at hl1
  dsimp only at h32 hl1 hl2
  have hres : rdEnP xs b = (⟨nm, kd, id, h32⟩, r3, b3) := by
    unfold rdEnP
    simp only [ha, hk, hi]
  rw [hres]
  dsimp only
  have HA := Lib.hid ha
  have HKK := Lib.hid hk
  have HI := Lib.hid hi
  have HL1 := Lib.hid (show r1.length ≤ 1000000 by omega)
  have HL2 := Lib.hid (show r2.length ≤ 1000000 by omega)
  clear hres ha hk hi hl1 hl2
  have e1 := BoxE.new (E := eEn) (t := 70) w zeroEn
  have hB1 : Below w.heap.size w (w.alloc (.cells (eEn.enc zeroEn).toArray 70)) := (Below.refl _ w).alloc (Nat.le_refl _) _
  have e2 := BoxE.new (E := eEn) (t := 70) (w.alloc (.cells (eEn.enc zeroEn).toArray 70)) zeroEn
  have hB2 := hB1.alloc hB1.size (.cells (eEn.enc zeroEn).toArray 70)
  have e1' := e1.below ((Below.refl _ (w.alloc (.cells (eEn.enc zeroEn).toArray 70))).alloc (Nat.le_refl _) (.cells (eEn.enc zeroEn).toArray 70))
  rw [World.size_alloc] at e2
  have hat2 := hat.below hB2
  have hgs := hat.src.box.lt
  have hgr := hat.lt
  have HV0 := Lib.hid (fun j hj => (hat.src.row j hj).1)
  go_enter Tryz.func224, Tryz.ntmps224
  go_wp2_with (refine wpList_alloc_e (E := eEn) (z := zeroEn) zeroEn_run rfl rfl ?_)
  refine (rdText_any _ gr gs v xs b hat2 (by omega) 64 (by decide) (by decide)).mono ?_
  rintro e w3 ⟨rfl, hout⟩
  rw [HA.out] at hout ⊢
  obtain ⟨v3, hat3, hk3, hv3⟩ := hout
  dsimp only at hat3
  have n1 : ¬ (w.heap.size = gs ∨ w.heap.size = gr) := by omega
  have n2 : ¬ (w.heap.size + 1 = gs ∨ w.heap.size + 1 = gr) := by omega
  have e13 : BoxE eEn 70 w3 w.heap.size zeroEn := e1'.kept hk3 n1
  have e23 : BoxE eEn 70 w3 (w.heap.size + 1) zeroEn := e2.kept hk3 n2
  have O3 := Lib.hid (RdOut.ahead hB2 (⟨v3, hat3, hk3, hv3⟩ : RdOut _ gr gs v r1 b1 w3))
  clear hk3 hv3 hat hat2 e1 e1' e2 hB1
  have q0 := EnAt.nm e23.at
  have z0 := e23.frozen 0
  dsimp only
  go_wp2_with fail
  have e24 : BoxE eEn 70 (w3.setCell ⟨w.heap.size + 1, 0, none⟩ (Str nm)) (w.heap.size + 1) { zeroEn with nm := nm } := e23.put (Str nm) rfl
  have k4 : Kept (fun j => j = w.heap.size + 1) w3 (w3.setCell ⟨w.heap.size + 1, 0, none⟩ (Str nm)) := (Kept.refl (fun j => j = w.heap.size + 1) w3).setCell (p := ⟨w.heap.size + 1, 0, none⟩) (fun _ => rfl) _
  have e14 := e13.kept k4 (show ¬ w.heap.size = w.heap.size + 1 by omega)
  have O4 := Lib.hid (O3.out.behindNew (n := w.heap.size) (by omega) (by omega) (fun j hj => by have := HV0.out j hj; omega) (k4.below (B := w.heap.size) (fun j _ e => by subst e; omega) (by have := e13.lt; omega)) (Nat.le_refl _))
  generalize w3.setCell ⟨w.heap.size + 1, 0, none⟩ (Str nm) = w4 at *
  clear hat3 e13 e23 q0 z0 k4 O3
  obtain ⟨v4, hat4, hk4, hv4⟩ := O4.out
  have HK4 := Lib.hid hk4
  have HV4 := Lib.hid hv4
  clear hk4 hv4
  refine (rKind_any w4 gr gs v4 r1 b1 hat4 (by have := HL1.out; omega)).mono ?_
  rintro e w5 ⟨rfl, hout⟩
  rw [HKK.out] at hout ⊢
  dsimp only at hout ⊢
  obtain ⟨v5, hat5, hk5, hv5⟩ := hout
  have e15 : BoxE eEn 70 w5 w.heap.size zeroEn := e14.kept hk5 n1
  have e25 : BoxE eEn 70 w5 (w.heap.size + 1) { zeroEn with nm := nm } := e24.kept hk5 n2
  have O5 := Lib.hid (RdOut.then HK4.out HV4.out (⟨v5, hat5, hk5, hv5⟩ : RdOut w4 gr gs v4 r2 b2 w5))
  clear hk5 hv5 hat4 hat5 e14 e24 O4 HK4 HV4
  have q1 := EnAt.kd e25.at
  rw [Nat.zero_add] at q1
  have z1 := e25.frozen 1
  go_wp2_with fail
  have e26 : BoxE eEn 70 (w5.setCell ⟨w.heap.size + 1, 1, none⟩ (.int .i64 (kd : Int))) (w.heap.size + 1) { zeroEn with nm := nm, kd := (kd : Int) } := e25.put (.int .i64 (kd : Int)) rfl
  have k6 : Kept (fun j => j = w.heap.size + 1) w5 (w5.setCell ⟨w.heap.size + 1, 1, none⟩ (.int .i64 (kd : Int))) := (Kept.refl (fun j => j = w.heap.size + 1) w5).setCell (p := ⟨w.heap.size + 1, 1, none⟩) (fun _ => rfl) _
  have e16 := e15.kept k6 (show ¬ w.heap.size = w.heap.size + 1 by omega)
  have O6 := Lib.hid (O5.out.behindNew (n := w.heap.size) (by omega) (by omega) (fun j hj => by have := HV0.out j hj; omega) (k6.below (B := w.heap.size) (fun j _ e => by subst e; omega) (by have := e15.lt; omega)) (Nat.le_refl _))
  generalize w5.setCell ⟨w.heap.size + 1, 1, none⟩ (.int .i64 (kd : Int)) = w6 at *
  clear e15 e25 q1 z1 k6 O5
  obtain ⟨v6, hat6, hk6, hv6⟩ := O6.out
  have HK6 := Lib.hid hk6
  have HV6 := Lib.hid hv6
  clear hk6 hv6
  refine (rId_any w6 gr gs v6 r2 b2 hat6 (by have := HL2.out; omega)).mono ?_
  rintro e w7 ⟨rfl, hout⟩
  rw [HI.out] at hout ⊢
  dsimp only at hout ⊢
  obtain ⟨v7, hat7, hk7, hv7⟩ := hout
  have e17 : BoxE eEn 70 w7 w.heap.size zeroEn := e16.kept hk7 n1
  have e27 : BoxE eEn 70 w7 (w.heap.size + 1) { zeroEn with nm := nm, kd := (kd : Int) } := e26.kept hk7 n2
  have O7 := Lib.hid (RdOut.then HK6.out HV6.out (⟨v7, hat7, hk7, hv7⟩ : RdOut w6 gr gs v6 r3 b3 w7))
  clear hk7 hv7 hat6 hat7 e16 e26 O6 HK6 HV6
  go_wp2_with (first
    | (refine wpList_store_partE (E := eEn) rfl (.tmp 12) (.tmp 11) rfl rfl e27 (id.map B8) rfl (sizeID h32) (bs_oneCell id) (by rw [List.length_map, h32]; decide) (en_idx _ id h32) ?_; intro w8 e28 k8; have e18 := e17.kept k8 (show ¬ w.heap.size = w.heap.size + 1 by omega))
    | (refine wpList_load_e (E := eEn) Tryz.underlying70 rfl sizeEn rfl (.tmp 3) rfl rfl e28.at ?_)
    | (refine wpList_store_e (E := eEn) sizeEn rfl (.tmp 2) (.tmp 13) rfl rfl e18 rfl ?_; intro w9 b9 k9))
  refine bodyPost_ret (results_e1 (E := eEn) Tryz.underlying70 rfl sizeEn rfl _ rfl b9) rfl ?_
  have hs7 := e17.lt
  have hb8 : Below w.heap.size w7 w8 := k8.below (fun j _ e => by subst e; omega) (by omega)
  have hb9 := hb8.trans (k9.below (B := w.heap.size) (fun j _ e => by subst e; omega) (by have := hb8.size; omega))
  exact ⟨rfl, O7.out.behindNew (n := w.heap.size) (by omega) (by omega) (fun j hj => by have := HV0.out j hj; omega) hb9 (Nat.le_refl _)⟩
end Go.Proofs.YtljihmbmjpcfaaaGreat
