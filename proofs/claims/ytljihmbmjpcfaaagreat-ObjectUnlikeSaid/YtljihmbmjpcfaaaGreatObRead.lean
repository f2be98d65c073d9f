/- The reader of objects' parts (tools/genobread.py). -/
import Derived.Test.YtljihmbmjpcfaaaGreatLebReadB
import Derived.Test.YtljihmbmjpcfaaaGreatObLinks
namespace Go.Proofs.YtljihmbmjpcfaaaGreat
open Go.RowKit Go.Shelf Go.Great
set_option maxRecDepth 100000

/-- A reader's block. -/
abbrev RdCells (gs : Nat) (wrong : Bool) : Obj := .cells #[.pointer (some ⟨gs, 0, none⟩), .bool wrong] 104 (0, 0)
/-- A reader at gr, whose Source at gs has xs left. -/
structure RdAt (W : World) (gr gs : Nat) (v : Value) (xs : List UInt8) (wrong : Bool) : Prop where
  src : SourceAt W gs v xs
  rd : W.heap[gr]? = some (RdCells gs wrong)
  ne : gr ≠ gs
  row : ∀ j, v.ownBlock = some j → j ≠ gr
theorem RdAt.lt {W : World} {gr gs : Nat} {v : Value} {xs : List UInt8} {b : Bool} (h : RdAt W gr gs v xs b) : gr < W.heap.size := (Array.getElem?_eq_some_iff.1 h.rd).1
theorem RdAt.c0 {W : World} {gr gs : Nat} {v : Value} {xs : List UInt8} {b : Bool} (h : RdAt W gr gs v xs b) : W.cell? ⟨gr, 0, none⟩ = some (.pointer (some ⟨gs, 0, none⟩)) := by simp [World.cell?, h.rd]
theorem RdAt.c1 {W : World} {gr gs : Nat} {v : Value} {xs : List UInt8} {b : Bool} (h : RdAt W gr gs v xs b) : W.cell? ⟨gr, 1, none⟩ = some (.bool b) := by simp [World.cell?, h.rd]
theorem RdAt.below {w W : World} {gr gs : Nat} {v : Value} {xs : List UInt8} {b : Bool} (h : RdAt w gr gs v xs b) (hb : Below w.heap.size w W) : RdAt W gr gs v xs b :=
  ⟨h.src.kept (Kept.of_below hb (Nat.le_refl _) (fun _ => False)) (fun h => h) (fun _ _ h => h), (hb.block gr h.lt).trans h.rd, h.ne, h.row⟩
theorem RdAt.drew {w : World} {gr gs : Nat} {v : Value} {xs : List UInt8} {b : Bool} (h : RdAt w gr gs v xs b) : RdAt w.drew gr gs v xs b := h.below (Below.refl _ _).drew
/-- Behind a read of the Source. -/
theorem RdAt.read {w W : World} {gr gs : Nat} {v : Value} {xs ys : List UInt8} {b : Bool} (h : RdAt w gr gs v xs b) (hr : SourceRead w gs v ys W) : ∃ v', RdAt W gr gs v' ys b ∧ Kept (fun j => j = gs) w W ∧ v'.ownBlock = v.ownBlock := by
  obtain ⟨v', h1, h2, h3⟩ := hr
  exact ⟨v', ⟨h1, (h2.block gr h.lt h.ne).trans h.rd, h.ne, fun j hj => h.row j (h3 ▸ hj)⟩, h2, h3⟩
/-- What was wrong, told. -/
theorem RdAt.mark {w : World} {gr gs : Nat} {v : Value} {xs : List UInt8} {b : Bool} (h : RdAt w gr gs v xs b) : RdAt (w.setCell ⟨gr, 1, none⟩ (.bool true)) gr gs v xs true := by
  have k : Kept (fun j => j = gr) w (w.setCell ⟨gr, 1, none⟩ (.bool true)) := (Kept.refl (fun j => j = gr) w).setCell (p := ⟨gr, 1, none⟩) (fun _ => rfl) _
  refine ⟨h.src.kept k (fun e => h.ne e.symm) (fun j hj e => h.row j hj e), ?_, h.ne, h.row⟩
  have := heap_setCell_same w gr 1 _ _ (.bool true) h.rd
  rw [this]
  simp
theorem RdAt.frozen {w : World} {gr gs : Nat} {v : Value} {xs : List UInt8} {b : Bool} (h : RdAt w gr gs v xs b) (n : Nat) : w.frozen? ⟨gr, n, none⟩ = false := frozen_of_row w gr _ _ _ h.rd
/-- What a reader's call leaves: new bytes left, wrong or not. -/
def RdOut (w : World) (gr gs : Nat) (v : Value) (xs : List UInt8) (b : Bool) (W : World) : Prop := ∃ v', RdAt W gr gs v' xs b ∧ Kept (fun j => j = gs ∨ j = gr) w W ∧ v'.ownBlock = v.ownBlock
theorem RdOut.same {w : World} {gr gs : Nat} {v : Value} {xs : List UInt8} {b : Bool} (h : RdAt w gr gs v xs b) : RdOut w gr gs v xs b w := ⟨v, h, Kept.refl _ _, rfl⟩
theorem RdOut.of_below {w W : World} {gr gs : Nat} {v : Value} {xs : List UInt8} {b : Bool} (h : RdAt w gr gs v xs b) (hb : Below w.heap.size w W) : RdOut w gr gs v xs b W := ⟨v, h.below hb, Kept.of_below hb (Nat.le_refl _) _, rfl⟩
theorem RdOut.ahead {w w1 W : World} {gr gs : Nat} {v : Value} {xs : List UInt8} {b : Bool} (hb : Below w.heap.size w w1) (h : RdOut w1 gr gs v xs b W) : RdOut w gr gs v xs b W := by
  obtain ⟨v', h1, h2, h3⟩ := h
  exact ⟨v', h1, (Kept.of_below hb (Nat.le_refl _) (fun j => j = gs ∨ j = gr)).same h2, h3⟩
theorem RdOut.behind {w w1 W : World} {gr gs : Nat} {v : Value} {xs : List UInt8} {b : Bool} (h : RdOut w gr gs v xs b w1) (hb : Below w1.heap.size w1 W) : RdOut w gr gs v xs b W := by
  obtain ⟨v', h1, h2, h3⟩ := h
  exact ⟨v', h1.below hb, h2.same (Kept.of_below hb (Nat.le_refl _) _), h3⟩
theorem RdOut.then {w w1 W : World} {gr gs : Nat} {v v1 : Value} {ys : List UInt8} {b : Bool} (hk : Kept (fun j => j = gs ∨ j = gr) w w1) (hv : v1.ownBlock = v.ownBlock) (h : RdOut w1 gr gs v1 ys b W) : RdOut w gr gs v ys b W := by
  obtain ⟨v', h1, h2, h3⟩ := h
  exact ⟨v', h1, hk.same h2, h3.trans hv⟩

def rdNum (most : Nat) (xs : List UInt8) (wrong : Bool) : Nat × List UInt8 × Bool :=
  if wrong then (0, xs, true) else if (numRes most xs).1 = 0 then ((numRes most xs).2.1, (numRes most xs).2.2, false) else (0, xs, true)
def rdBy (most : Int) (xs : List UInt8) (wrong : Bool) : List UInt8 × List UInt8 × Bool :=
  if wrong then ([], xs, true) else if (bytesRes most xs).1 = 0 then ((bytesRes most xs).2.1, (bytesRes most xs).2.2, false) else ([], xs, true)

set_option maxHeartbeats 1000000 in
/-- The closure that reads a number. -/
theorem rNumber1_any (w : World) (gr gs : Nat) (v : Value) (xs : List UInt8) (b : Bool) (hat : RdAt w gr gs v xs b) (hlen : xs.length ≤ 140737488355328) (b1 b2 most : Nat) (h1 : w.cell? ⟨b1, 0, none⟩ = some (.pointer (some ⟨gr, 0, none⟩))) (h2 : w.cell? ⟨b2, 0, none⟩ = some (.int .u64 most)) :
    Calls Tryz.prog 113 #[.pointer (some ⟨b1, 0, none⟩), .pointer (some ⟨b2, 0, none⟩)] w fun e W' => e = .returned (.tuple #[.int .u64 (back xs (numRes most xs)).2.1, .int .i64 (back xs (numRes most xs)).1]) ∧ ∃ v', RdAt W' gr gs v' (back xs (numRes most xs)).2.2 b ∧ Kept (fun j => j = gs) w W' ∧ v'.ownBlock = v.ownBlock := by
  generalize hres : back xs (numRes most xs) = res
  obtain ⟨er, m, ys⟩ := res
  dsimp only
  have h0 := hat.c0
  have hsl : ∃ A n c, v = .slice A n c := by obtain ⟨A, c, rfl, _⟩ := hat.src.bytes.form; exact ⟨A, _, c, rfl⟩
  have hbs := hat.src.box.cell
  have n1 : b1 ≠ gs := by rintro rfl; rw [h1] at hbs; obtain ⟨A, n, c, rfl⟩ := hsl; cases hbs
  have n2 : b2 ≠ gs := by rintro rfl; rw [h2] at hbs; obtain ⟨A, n, c, rfl⟩ := hsl; cases hbs
  have n3 := hat.ne
  have hcall := SrcNumber_any w.drew gs v xs hat.drew.src hlen most
  rw [hres] at hcall
  clear hres
  have HAT := Lib.hid hat
  clear hat hbs hsl
  go_enter Tryz.func113, Tryz.ntmps113
  go_wp2_with fail
  refine wp_held (fun W1 => W1.cell? ⟨b1, 0, none⟩ = some (.pointer (some ⟨gr, 0, none⟩)) ∧ W1.cell? ⟨b2, 0, none⟩ = some (.int .u64 most) ∧ W1.cell? ⟨gr, 0, none⟩ = some (.pointer (some ⟨gs, 0, none⟩))) (by kernel_rfl) ?_
  have hS0 : w.drew.cell? ⟨b1, 0, none⟩ = some (.pointer (some ⟨gr, 0, none⟩)) ∧ w.drew.cell? ⟨b2, 0, none⟩ = some (.int .u64 most) ∧ w.drew.cell? ⟨gr, 0, none⟩ = some (.pointer (some ⟨gs, 0, none⟩)) := ⟨h1, h2, h0⟩
  refine wpAnyH_next (i := 0) (v := .pointer (some ⟨gr, 0, none⟩)) rfl (by kernel_rfl) (by kernel_rfl) (by kernel_rfl) (fun _ _ _ h => h) (by kernel_rfl) (fun W1 hW1 => by obtain ⟨e1, e2, e3⟩ := hW1; go_simp; done) hS0 (fun a' ha' => ?_)
  simp only [Act.put, List.getElem_toArray, List.getElem_cons_zero, List.setIfInBounds_toArray, List.set_cons_succ, List.set_cons_zero] at ha'
  subst ha'
  refine wpAnyH_next (i := 1) (v := .pointer (some ⟨gr, 0, none⟩)) rfl (by kernel_rfl) (by kernel_rfl) (by kernel_rfl) (fun _ _ _ h => h) (by kernel_rfl) (fun W1 hW1 => by obtain ⟨e1, e2, e3⟩ := hW1; go_simp; done) hS0 (fun a' ha' => ?_)
  simp only [Act.put, List.getElem_toArray, List.getElem_cons_succ, List.getElem_cons_zero, List.setIfInBounds_toArray, List.set_cons_succ, List.set_cons_zero] at ha'
  subst ha'
  refine wpAnyH_next (i := 2) (v := .pointer (some ⟨gr, 0, none⟩)) rfl (by kernel_rfl) (by kernel_rfl) (by kernel_rfl) (fun _ _ _ h => h) (by kernel_rfl) (fun W1 hW1 => by obtain ⟨e1, e2, e3⟩ := hW1; go_simp; done) hS0 (fun a' ha' => ?_)
  simp only [Act.put, List.getElem_toArray, List.getElem_cons_succ, List.getElem_cons_zero, List.setIfInBounds_toArray, List.set_cons_succ, List.set_cons_zero] at ha'
  subst ha'
  refine wpAnyH_next (i := 3) (v := .pointer (some ⟨gs, 0, none⟩)) rfl (by kernel_rfl) (by kernel_rfl) (by kernel_rfl) (fun _ _ _ h => h) (by kernel_rfl) (fun W1 hW1 => by obtain ⟨e1, e2, e3⟩ := hW1; go_simp; done) hS0 (fun a' ha' => ?_)
  simp only [Act.put, List.getElem_toArray, List.getElem_cons_succ, List.getElem_cons_zero, List.setIfInBounds_toArray, List.set_cons_succ, List.set_cons_zero] at ha'
  subst ha'
  refine wpAnyH_next (i := 4) (v := .int .u64 most) rfl (by kernel_rfl) (by kernel_rfl) (by kernel_rfl) (fun _ _ _ h => h) (by kernel_rfl) (fun W1 hW1 => by obtain ⟨e1, e2, e3⟩ := hW1; go_simp; done) hS0 (fun a' ha' => ?_)
  simp only [Act.put, List.getElem_toArray, List.getElem_cons_succ, List.getElem_cons_zero, List.setIfInBounds_toArray, List.set_cons_succ, List.set_cons_zero] at ha'
  subst ha'
  refine wpAnyH_want (i := 5) (by kernel_rfl) rfl (by kernel_rfl) (fun K hK => ?_)
  unfold Oper.wp
  go_simp
  refine hcall.mono ?_
  rintro e w2 ⟨rfl, hread⟩
  obtain ⟨v2, hat2, hk, hv⟩ := HAT.out.read (W := w2) (by obtain ⟨v', q1, q2, q3⟩ := hread; exact ⟨v', q1, ⟨q2.os, q2.tape, q2.output, q2.size, q2.block⟩, q3⟩)
  have HK := Lib.hid hk
  have HV := Lib.hid hv
  clear hk hv hread
  have hS1 : w2.cell? ⟨b1, 0, none⟩ = some (.pointer (some ⟨gr, 0, none⟩)) ∧ w2.cell? ⟨b2, 0, none⟩ = some (.int .u64 most) ∧ w2.cell? ⟨gr, 0, none⟩ = some (.pointer (some ⟨gs, 0, none⟩)) := ⟨(HK.out.cell (World.block_lt_of_cell? _ _ h1) n1).trans h1, (HK.out.cell (World.block_lt_of_cell? _ _ h2) n2).trans h2, (HK.out.cell (World.block_lt_of_cell? _ _ h0) n3).trans h0⟩
  refine hK _ _ hS1 ?_
  clear hK K
  refine wpAnyH_next (i := 6) (v := .int .u64 m) rfl (by kernel_rfl) (by kernel_rfl) (by kernel_rfl) (fun _ _ _ h => h) (by kernel_rfl) (fun W1 hW1 => by go_simp; done) hS1 (fun a' ha' => ?_)
  simp only [Act.put, List.getElem_toArray, List.getElem_cons_succ, List.getElem_cons_zero, List.setIfInBounds_toArray, List.set_cons_succ, List.set_cons_zero] at ha'
  subst ha'
  refine wpAnyH_next (i := 7) (v := .int .i64 er) rfl (by kernel_rfl) (by kernel_rfl) (by kernel_rfl) (fun _ _ _ h => h) (by kernel_rfl) (fun W1 hW1 => by go_simp; done) hS1 (fun a' ha' => ?_)
  simp only [Act.put, List.getElem_toArray, List.getElem_cons_succ, List.getElem_cons_zero, List.setIfInBounds_toArray, List.set_cons_succ, List.set_cons_zero] at ha'
  subst ha'
  refine wpAnyH_next (i := 8) (v := .int .u64 m) rfl (by kernel_rfl) (by kernel_rfl) (by kernel_rfl) (fun _ _ _ h => h) (by kernel_rfl) (fun W1 hW1 => by go_simp; done) hS1 (fun a' ha' => ?_)
  simp only [Act.put, List.getElem_toArray, List.getElem_cons_succ, List.getElem_cons_zero, List.setIfInBounds_toArray, List.set_cons_succ, List.set_cons_zero] at ha'
  subst ha'
  refine wpAnyH_next (i := 9) (v := .int .i64 er) rfl (by kernel_rfl) (by kernel_rfl) (by kernel_rfl) (fun _ _ _ h => h) (by kernel_rfl) (fun W1 hW1 => by go_simp; done) hS1 (fun a' ha' => ?_)
  simp only [Act.put, List.getElem_toArray, List.getElem_cons_succ, List.getElem_cons_zero, List.setIfInBounds_toArray, List.set_cons_succ, List.set_cons_zero] at ha'
  subst ha'
  refine wpAnyH_fin (by kernel_rfl) ?_ _
  go_wp2_with fail
  go_ret2
  exact ⟨rfl, v2, hat2, HK.out, HV.out⟩
set_option maxHeartbeats 1000000 in
/-- The closure that reads bytes. -/
theorem rBytes1_any (w : World) (gr gs : Nat) (v : Value) (xs : List UInt8) (b : Bool) (hat : RdAt w gr gs v xs b) (hlen : xs.length ≤ 140737488355328) (b1 b2 : Nat) (most : Int) (hm0 : 0 ≤ most) (hm : most ≤ 100000) (h1 : w.cell? ⟨b1, 0, none⟩ = some (.pointer (some ⟨gr, 0, none⟩))) (h2 : w.cell? ⟨b2, 0, none⟩ = some (.int .i64 most)) :
    Calls Tryz.prog 209 #[.pointer (some ⟨b1, 0, none⟩), .pointer (some ⟨b2, 0, none⟩)] w fun e W' => ∃ r, e = .returned (.tuple #[r, .int .i64 (back xs (bytesRes most xs)).1]) ∧ W'.ownsRow w.heap.size 5 1 r (back xs (bytesRes most xs)).2.1.length ((back xs (bytesRes most xs)).2.1.map B8) ∧ ∃ v', RdAt W' gr gs v' (back xs (bytesRes most xs)).2.2 b ∧ Kept (fun j => j = gs) w W' ∧ v'.ownBlock = v.ownBlock := by
  generalize hres : back xs (bytesRes most xs) = res
  obtain ⟨er, m, ys⟩ := res
  dsimp only
  have h0 := hat.c0
  have hsl : ∃ A n c, v = .slice A n c := by obtain ⟨A, c, rfl, _⟩ := hat.src.bytes.form; exact ⟨A, _, c, rfl⟩
  have hbs := hat.src.box.cell
  have n1 : b1 ≠ gs := by rintro rfl; rw [h1] at hbs; obtain ⟨A, n, c, rfl⟩ := hsl; cases hbs
  have n2 : b2 ≠ gs := by rintro rfl; rw [h2] at hbs; obtain ⟨A, n, c, rfl⟩ := hsl; cases hbs
  have n3 := hat.ne
  have hcall := SrcBytes_any w.drew gs v xs hat.drew.src hlen most (by omega)
  rw [hres] at hcall
  clear hres
  have HAT := Lib.hid hat
  clear hat hbs hsl
  go_enter Tryz.func209, Tryz.ntmps209
  go_wp2_with fail
  refine wp_held (fun W1 => W1.cell? ⟨b1, 0, none⟩ = some (.pointer (some ⟨gr, 0, none⟩)) ∧ W1.cell? ⟨b2, 0, none⟩ = some (.int .i64 most) ∧ W1.cell? ⟨gr, 0, none⟩ = some (.pointer (some ⟨gs, 0, none⟩))) (by kernel_rfl) ?_
  have hS0 : w.drew.cell? ⟨b1, 0, none⟩ = some (.pointer (some ⟨gr, 0, none⟩)) ∧ w.drew.cell? ⟨b2, 0, none⟩ = some (.int .i64 most) ∧ w.drew.cell? ⟨gr, 0, none⟩ = some (.pointer (some ⟨gs, 0, none⟩)) := ⟨h1, h2, h0⟩
  refine wpAnyH_next (i := 0) (v := .pointer (some ⟨gr, 0, none⟩)) rfl (by kernel_rfl) (by kernel_rfl) (by kernel_rfl) (fun _ _ _ h => h) (by kernel_rfl) (fun W1 hW1 => by obtain ⟨e1, e2, e3⟩ := hW1; go_simp; done) hS0 (fun a' ha' => ?_)
  simp only [Act.put, List.getElem_toArray, List.getElem_cons_zero, List.setIfInBounds_toArray, List.set_cons_succ, List.set_cons_zero] at ha'
  subst ha'
  refine wpAnyH_next (i := 1) (v := .pointer (some ⟨gr, 0, none⟩)) rfl (by kernel_rfl) (by kernel_rfl) (by kernel_rfl) (fun _ _ _ h => h) (by kernel_rfl) (fun W1 hW1 => by obtain ⟨e1, e2, e3⟩ := hW1; go_simp; done) hS0 (fun a' ha' => ?_)
  simp only [Act.put, List.getElem_toArray, List.getElem_cons_succ, List.getElem_cons_zero, List.setIfInBounds_toArray, List.set_cons_succ, List.set_cons_zero] at ha'
  subst ha'
  refine wpAnyH_next (i := 2) (v := .pointer (some ⟨gr, 0, none⟩)) rfl (by kernel_rfl) (by kernel_rfl) (by kernel_rfl) (fun _ _ _ h => h) (by kernel_rfl) (fun W1 hW1 => by obtain ⟨e1, e2, e3⟩ := hW1; go_simp; done) hS0 (fun a' ha' => ?_)
  simp only [Act.put, List.getElem_toArray, List.getElem_cons_succ, List.getElem_cons_zero, List.setIfInBounds_toArray, List.set_cons_succ, List.set_cons_zero] at ha'
  subst ha'
  refine wpAnyH_next (i := 3) (v := .pointer (some ⟨gs, 0, none⟩)) rfl (by kernel_rfl) (by kernel_rfl) (by kernel_rfl) (fun _ _ _ h => h) (by kernel_rfl) (fun W1 hW1 => by obtain ⟨e1, e2, e3⟩ := hW1; go_simp; done) hS0 (fun a' ha' => ?_)
  simp only [Act.put, List.getElem_toArray, List.getElem_cons_succ, List.getElem_cons_zero, List.setIfInBounds_toArray, List.set_cons_succ, List.set_cons_zero] at ha'
  subst ha'
  refine wpAnyH_next (i := 4) (v := .int .i64 most) rfl (by kernel_rfl) (by kernel_rfl) (by kernel_rfl) (fun _ _ _ h => h) (by kernel_rfl) (fun W1 hW1 => by obtain ⟨e1, e2, e3⟩ := hW1; go_simp; done) hS0 (fun a' ha' => ?_)
  simp only [Act.put, List.getElem_toArray, List.getElem_cons_succ, List.getElem_cons_zero, List.setIfInBounds_toArray, List.set_cons_succ, List.set_cons_zero] at ha'
  subst ha'
  refine wpAnyH_want (i := 5) (by kernel_rfl) rfl (by kernel_rfl) (fun K hK => ?_)
  unfold Oper.wp
  go_simp
  refine hcall.mono ?_
  rintro e w2 ⟨r, rfl, hrow, hread⟩
  obtain ⟨v2, hat2, hk, hv⟩ := HAT.out.read (W := w2) (by obtain ⟨v', q1, q2, q3⟩ := hread; exact ⟨v', q1, ⟨q2.os, q2.tape, q2.output, q2.size, q2.block⟩, q3⟩)
  have HROW := Lib.hid hrow
  have HK := Lib.hid hk
  have HV := Lib.hid hv
  clear hk hv hread hrow
  have hS1 : w2.cell? ⟨b1, 0, none⟩ = some (.pointer (some ⟨gr, 0, none⟩)) ∧ w2.cell? ⟨b2, 0, none⟩ = some (.int .i64 most) ∧ w2.cell? ⟨gr, 0, none⟩ = some (.pointer (some ⟨gs, 0, none⟩)) := ⟨(HK.out.cell (World.block_lt_of_cell? _ _ h1) n1).trans h1, (HK.out.cell (World.block_lt_of_cell? _ _ h2) n2).trans h2, (HK.out.cell (World.block_lt_of_cell? _ _ h0) n3).trans h0⟩
  refine hK _ _ hS1 ?_
  clear hK K
  refine wpAnyH_next (i := 6) (v := r) rfl (by kernel_rfl) (by kernel_rfl) (by kernel_rfl) (fun _ _ _ h => h) (by kernel_rfl) (fun W1 hW1 => by go_simp; done) hS1 (fun a' ha' => ?_)
  simp only [Act.put, List.getElem_toArray, List.getElem_cons_succ, List.getElem_cons_zero, List.setIfInBounds_toArray, List.set_cons_succ, List.set_cons_zero] at ha'
  subst ha'
  refine wpAnyH_next (i := 7) (v := .int .i64 er) rfl (by kernel_rfl) (by kernel_rfl) (by kernel_rfl) (fun _ _ _ h => h) (by kernel_rfl) (fun W1 hW1 => by go_simp; done) hS1 (fun a' ha' => ?_)
  simp only [Act.put, List.getElem_toArray, List.getElem_cons_succ, List.getElem_cons_zero, List.setIfInBounds_toArray, List.set_cons_succ, List.set_cons_zero] at ha'
  subst ha'
  refine wpAnyH_next (i := 8) (v := r) rfl (by kernel_rfl) (by kernel_rfl) (by kernel_rfl) (fun _ _ _ h => h) (by kernel_rfl) (fun W1 hW1 => by go_simp; done) hS1 (fun a' ha' => ?_)
  simp only [Act.put, List.getElem_toArray, List.getElem_cons_succ, List.getElem_cons_zero, List.setIfInBounds_toArray, List.set_cons_succ, List.set_cons_zero] at ha'
  subst ha'
  refine wpAnyH_next (i := 9) (v := .int .i64 er) rfl (by kernel_rfl) (by kernel_rfl) (by kernel_rfl) (fun _ _ _ h => h) (by kernel_rfl) (fun W1 hW1 => by go_simp; done) hS1 (fun a' ha' => ?_)
  simp only [Act.put, List.getElem_toArray, List.getElem_cons_succ, List.getElem_cons_zero, List.setIfInBounds_toArray, List.set_cons_succ, List.set_cons_zero] at ha'
  subst ha'
  refine wpAnyH_fin (by kernel_rfl) ?_ _
  go_wp2_with fail
  go_ret2
  exact ⟨r, rfl, HROW.out, v2, hat2, HK.out, HV.out⟩
set_option maxHeartbeats 1000000 in
theorem rdU64_wrong (w : World) (gr gs : Nat) (v : Value) (xs : List UInt8) (hat : RdAt w gr gs v xs true) (f : Value) :
    Calls Tryz.prog 112 #[.pointer (some ⟨gr, 0, none⟩), f] w fun e W' => e = .returned (.int .u64 0) ∧ W' = w := by
  have h1 := hat.c1
  go_enter Tryz.func112, Tryz.ntmps112
  go_wp2_with fail
  go_ret
  exact ⟨rfl, rfl⟩
set_option maxHeartbeats 1000000 in
theorem rdBytes_wrong (w : World) (gr gs : Nat) (v : Value) (xs : List UInt8) (hat : RdAt w gr gs v xs true) (f : Value) :
    Calls Tryz.prog 208 #[.pointer (some ⟨gr, 0, none⟩), f] w fun e W' => e = .returned (.slice none 0 0) ∧ W' = w := by
  have h1 := hat.c1
  go_enter Tryz.func208, Tryz.ntmps208
  go_wp2_with fail
  go_ret
  exact ⟨rfl, rfl⟩
set_option maxHeartbeats 1000000 in
theorem rdU64_right (w : World) (gr gs : Nat) (v : Value) (xs : List UInt8) (hat : RdAt w gr gs v xs false) (hlen : xs.length ≤ 140737488355328) (b1 b2 most : Nat) (h1 : w.cell? ⟨b1, 0, none⟩ = some (.pointer (some ⟨gr, 0, none⟩))) (h2 : w.cell? ⟨b2, 0, none⟩ = some (.int .u64 most)) :
    Calls Tryz.prog 112 #[.pointer (some ⟨gr, 0, none⟩), .func (.func 113) #[] #[.pointer (some ⟨b1, 0, none⟩), .pointer (some ⟨b2, 0, none⟩)]] w fun e W' => e = .returned (.int .u64 (rdNum most xs false).1) ∧ RdOut w gr gs v (rdNum most xs false).2.1 (rdNum most xs false).2.2 W' := by
  have hcall := rNumber1_any w gr gs v xs false hat hlen b1 b2 most h1 h2
  have hc1 := hat.c1
  obtain ⟨er, m, ys, hr⟩ : ∃ er m ys, back xs (numRes most xs) = (er, m, ys) := ⟨_, _, _, rfl⟩
  have HRD := Lib.hid (show rdNum most xs false = if er = 0 then (m, ys, false) else (0, xs, true) by
    unfold back at hr
    injection hr with r1 r2
    injection r2 with r2 r3
    unfold rdNum
    rw [if_neg (by decide), r1, r2]
    by_cases h0 : er = 0
    · rw [r1, if_pos h0] at r3
      rw [if_pos h0, if_pos h0, r3]
    · rw [if_neg h0, if_neg h0])
  have HX := Lib.hid (show ¬ er = 0 → ys = xs by
    intro h0
    unfold back at hr
    injection hr with r1 r2
    injection r2 with r2 r3
    rw [r1, if_neg h0] at r3
    exact r3.symm)
  rw [hr] at hcall
  dsimp only at hcall
  clear hr
  go_enter Tryz.func112, Tryz.ntmps112
  go_wp2_with fail
  refine hcall.mono ?_
  rintro e w2 ⟨rfl, v2, hat2, hk2, hv2⟩
  have HK := Lib.hid hk2
  have HV := Lib.hid hv2
  clear hk2 hv2 hcall
  by_cases h0 : er = 0
  · subst h0
    have HR2 := Lib.hid (HRD.out.trans (if_pos rfl))
    go_wp2_with fail
    go_ret
    rw [HR2.out]
    exact ⟨rfl, v2, hat2, HK.out.mono (fun _ _ h => .inl h), HV.out⟩
  · have HR2 := Lib.hid (HRD.out.trans (if_neg h0))
    have hne : (er != 0) = true := by simpa using h0
    have hc2 := hat2.c1
    have hf2 := hat2.frozen 1
    go_wp2_with fail
    go_ret
    rw [HR2.out]
    have hm := hat2.mark
    rw [HX.out h0] at hm
    exact ⟨rfl, v2, hm, (HK.out.mono (T' := fun j => j = gs ∨ j = gr) (fun _ _ h => .inl h)).setCell (p := ⟨gr, 1, none⟩) (fun _ => .inr rfl) _, HV.out⟩
set_option maxHeartbeats 1000000 in
theorem rdBytes_right (w : World) (gr gs : Nat) (v : Value) (xs : List UInt8) (hat : RdAt w gr gs v xs false) (hlen : xs.length ≤ 140737488355328) (b1 b2 : Nat) (most : Int) (hm0 : 0 ≤ most) (hm : most ≤ 100000) (h1 : w.cell? ⟨b1, 0, none⟩ = some (.pointer (some ⟨gr, 0, none⟩))) (h2 : w.cell? ⟨b2, 0, none⟩ = some (.int .i64 most)) :
    Calls Tryz.prog 208 #[.pointer (some ⟨gr, 0, none⟩), .func (.func 209) #[] #[.pointer (some ⟨b1, 0, none⟩), .pointer (some ⟨b2, 0, none⟩)]] w fun e W' => ∃ r, e = .returned r ∧ W'.ownsRow w.heap.size 5 1 r (rdBy most xs false).1.length ((rdBy most xs false).1.map B8) ∧ RdOut w gr gs v (rdBy most xs false).2.1 (rdBy most xs false).2.2 W' := by
  have hcall := rBytes1_any w gr gs v xs false hat hlen b1 b2 most hm0 hm h1 h2
  have hc1 := hat.c1
  obtain ⟨er, m, ys, hr⟩ : ∃ er m ys, back xs (bytesRes most xs) = (er, m, ys) := ⟨_, _, _, rfl⟩
  have HRD := Lib.hid (show rdBy most xs false = if er = 0 then (m, ys, false) else ([], xs, true) by
    unfold back at hr
    injection hr with r1 r2
    injection r2 with r2 r3
    unfold rdBy
    rw [if_neg (by decide), r1, r2]
    by_cases h0 : er = 0
    · rw [r1, if_pos h0] at r3
      rw [if_pos h0, if_pos h0, r3]
    · rw [if_neg h0, if_neg h0])
  have HX := Lib.hid (show ¬ er = 0 → ys = xs by
    intro h0
    unfold back at hr
    injection hr with r1 r2
    injection r2 with r2 r3
    rw [r1, if_neg h0] at r3
    exact r3.symm)
  rw [hr] at hcall
  dsimp only at hcall
  clear hr
  go_enter Tryz.func208, Tryz.ntmps208
  go_wp2_with fail
  refine hcall.mono ?_
  rintro e w2 ⟨r, rfl, hrow, v2, hat2, hk2, hv2⟩
  obtain ⟨A, n, c, rfl⟩ := owns_slice hrow
  have HROW := Lib.hid hrow
  have HK := Lib.hid hk2
  have HV := Lib.hid hv2
  clear hk2 hv2 hcall hrow
  by_cases h0 : er = 0
  · subst h0
    have HR2 := Lib.hid (HRD.out.trans (if_pos rfl))
    go_wp2_with fail
    go_ret
    rw [HR2.out]
    exact ⟨_, rfl, HROW.out, v2, hat2, HK.out.mono (fun _ _ h => .inl h), HV.out⟩
  · have HR2 := Lib.hid (HRD.out.trans (if_neg h0))
    have hne : (er != 0) = true := by simpa using h0
    have hc2 := hat2.c1
    have hf2 := hat2.frozen 1
    go_wp2_with fail
    go_ret
    rw [HR2.out]
    have hm := hat2.mark
    rw [HX.out h0] at hm
    exact ⟨_, rfl, World.ownsRow_nil _ _ _ _, v2, hm, (HK.out.mono (T' := fun j => j = gs ∨ j = gr) (fun _ _ h => .inl h)).setCell (p := ⟨gr, 1, none⟩) (fun _ => .inr rfl) _, HV.out⟩
end Go.Proofs.YtljihmbmjpcfaaaGreat
