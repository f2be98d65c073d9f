/- The reader of objects' parts (tools/genobread.py). Objects' bytes in plain lists, written and read: what is read is what was written. -/
import Derived.Test.YtljihmbmjpcfaaaGreatLebReadB
import Derived.Test.YtljihmbmjpcfaaaGreatObLinks
import Derived.Test.YtljihmbmjpcfaaaGreatObBody
namespace Go.Proofs.YtljihmbmjpcfaaaGreat
open Go.RowKit Go.Shelf Go.Great
set_option maxRecDepth 100000

/-- A reader's block. -/
abbrev RdCells (gs : Nat) (wrong : Bool) : Obj := .cells #[.pointer (some ⟨gs, 0, none⟩), .bool wrong] 104 (0, 0)
/-- A reader at gr, whose Source at gs has xs left. -/
structure RdAt (W : World) (gr gs : Nat) (v : Value) (xs : List UInt8) (wrong : Bool) : Prop where
  src : SourceAt W gs v xs
  rd : W.heap[gr]? = some (RdCells gs wrong)
  ne : gr ≠ gs
  row : ∀ j, v.ownBlock = some j → j ≠ gr
theorem RdAt.lt {W : World} {gr gs : Nat} {v : Value} {xs : List UInt8} {b : Bool} (h : RdAt W gr gs v xs b) : gr < W.heap.size := (Array.getElem?_eq_some_iff.1 h.rd).1
theorem RdAt.c0 {W : World} {gr gs : Nat} {v : Value} {xs : List UInt8} {b : Bool} (h : RdAt W gr gs v xs b) : W.cell? ⟨gr, 0, none⟩ = some (.pointer (some ⟨gs, 0, none⟩)) := by simp [World.cell?, h.rd]
theorem RdAt.c1 {W : World} {gr gs : Nat} {v : Value} {xs : List UInt8} {b : Bool} (h : RdAt W gr gs v xs b) : W.cell? ⟨gr, 1, none⟩ = some (.bool b) := by simp [World.cell?, h.rd]
theorem RdAt.below {w W : World} {gr gs : Nat} {v : Value} {xs : List UInt8} {b : Bool} (h : RdAt w gr gs v xs b) (hb : Below w.heap.size w W) : RdAt W gr gs v xs b :=
  ⟨h.src.kept (Kept.of_below hb (Nat.le_refl _) (fun _ => False)) (fun h => h) (fun _ _ h => h), (hb.block gr h.lt).trans h.rd, h.ne, h.row⟩
theorem RdAt.drew {w : World} {gr gs : Nat} {v : Value} {xs : List UInt8} {b : Bool} (h : RdAt w gr gs v xs b) : RdAt w.drew gr gs v xs b := h.below (Below.refl _ _).drew
/-- Behind a read of the Source. -/
theorem RdAt.read {w W : World} {gr gs : Nat} {v : Value} {xs ys : List UInt8} {b : Bool} (h : RdAt w gr gs v xs b) (hr : SourceRead w gs v ys W) : ∃ v', RdAt W gr gs v' ys b ∧ Kept (fun j => j = gs) w W ∧ v'.ownBlock = v.ownBlock := by
  obtain ⟨v', h1, h2, h3⟩ := hr
  exact ⟨v', ⟨h1, (h2.block gr h.lt h.ne).trans h.rd, h.ne, fun j hj => h.row j (h3 ▸ hj)⟩, h2, h3⟩
/-- What was wrong, told. -/
theorem RdAt.mark {w : World} {gr gs : Nat} {v : Value} {xs : List UInt8} {b : Bool} (h : RdAt w gr gs v xs b) : RdAt (w.setCell ⟨gr, 1, none⟩ (.bool true)) gr gs v xs true := by
  have k : Kept (fun j => j = gr) w (w.setCell ⟨gr, 1, none⟩ (.bool true)) := (Kept.refl (fun j => j = gr) w).setCell (p := ⟨gr, 1, none⟩) (fun _ => rfl) _
  refine ⟨h.src.kept k (fun e => h.ne e.symm) (fun j hj e => h.row j hj e), ?_, h.ne, h.row⟩
  have := heap_setCell_same w gr 1 _ _ (.bool true) h.rd
  rw [this]
  simp
theorem RdAt.frozen {w : World} {gr gs : Nat} {v : Value} {xs : List UInt8} {b : Bool} (h : RdAt w gr gs v xs b) (n : Nat) : w.frozen? ⟨gr, n, none⟩ = false := frozen_of_row w gr _ _ _ h.rd
/-- What a reader's call leaves: new bytes left, wrong or not. -/
def RdOut (w : World) (gr gs : Nat) (v : Value) (xs : List UInt8) (b : Bool) (W : World) : Prop := ∃ v', RdAt W gr gs v' xs b ∧ Kept (fun j => j = gs ∨ j = gr) w W ∧ v'.ownBlock = v.ownBlock
theorem RdOut.same {w : World} {gr gs : Nat} {v : Value} {xs : List UInt8} {b : Bool} (h : RdAt w gr gs v xs b) : RdOut w gr gs v xs b w := ⟨v, h, Kept.refl _ _, rfl⟩
theorem RdOut.of_below {w W : World} {gr gs : Nat} {v : Value} {xs : List UInt8} {b : Bool} (h : RdAt w gr gs v xs b) (hb : Below w.heap.size w W) : RdOut w gr gs v xs b W := ⟨v, h.below hb, Kept.of_below hb (Nat.le_refl _) _, rfl⟩
theorem RdOut.ahead {w w1 W : World} {gr gs : Nat} {v : Value} {xs : List UInt8} {b : Bool} (hb : Below w.heap.size w w1) (h : RdOut w1 gr gs v xs b W) : RdOut w gr gs v xs b W := by
  obtain ⟨v', h1, h2, h3⟩ := h
  exact ⟨v', h1, (Kept.of_below hb (Nat.le_refl _) (fun j => j = gs ∨ j = gr)).same h2, h3⟩
theorem RdOut.behind {w w1 W : World} {gr gs : Nat} {v : Value} {xs : List UInt8} {b : Bool} (h : RdOut w gr gs v xs b w1) (hb : Below w1.heap.size w1 W) : RdOut w gr gs v xs b W := by
  obtain ⟨v', h1, h2, h3⟩ := h
  exact ⟨v', h1.below hb, h2.same (Kept.of_below hb (Nat.le_refl _) _), h3⟩
theorem RdOut.then {w w1 W : World} {gr gs : Nat} {v v1 : Value} {ys : List UInt8} {b : Bool} (hk : Kept (fun j => j = gs ∨ j = gr) w w1) (hv : v1.ownBlock = v.ownBlock) (h : RdOut w1 gr gs v1 ys b W) : RdOut w gr gs v ys b W := by
  obtain ⟨v', h1, h2, h3⟩ := h
  exact ⟨v', h1, hk.same h2, h3.trans hv⟩

def rdNum (most : Nat) (xs : List UInt8) (wrong : Bool) : Nat × List UInt8 × Bool :=
  if wrong then (0, xs, true) else if (numRes most xs).1 = 0 then ((numRes most xs).2.1, (numRes most xs).2.2, false) else (0, xs, true)
def rdBy (most : Int) (xs : List UInt8) (wrong : Bool) : List UInt8 × List UInt8 × Bool :=
  if wrong then ([], xs, true) else if (bytesRes most xs).1 = 0 then ((bytesRes most xs).2.1, (bytesRes most xs).2.2, false) else ([], xs, true)

set_option maxHeartbeats 1000000 in
/-- The closure that reads a number. -/
theorem rNumber1_any (w : World) (gr gs : Nat) (v : Value) (xs : List UInt8) (b : Bool) (hat : RdAt w gr gs v xs b) (hlen : xs.length ≤ 140737488355328) (b1 b2 most : Nat) (h1 : w.cell? ⟨b1, 0, none⟩ = some (.pointer (some ⟨gr, 0, none⟩))) (h2 : w.cell? ⟨b2, 0, none⟩ = some (.int .u64 most)) :
    Calls Tryz.prog 113 #[.pointer (some ⟨b1, 0, none⟩), .pointer (some ⟨b2, 0, none⟩)] w fun e W' => e = .returned (.tuple #[.int .u64 (back xs (numRes most xs)).2.1, .int .i64 (back xs (numRes most xs)).1]) ∧ ∃ v', RdAt W' gr gs v' (back xs (numRes most xs)).2.2 b ∧ Kept (fun j => j = gs) w W' ∧ v'.ownBlock = v.ownBlock := by
  generalize hres : back xs (numRes most xs) = res
  obtain ⟨er, m, ys⟩ := res
  dsimp only
  have h0 := hat.c0
  have hsl : ∃ A n c, v = .slice A n c := by obtain ⟨A, c, rfl, _⟩ := hat.src.bytes.form; exact ⟨A, _, c, rfl⟩
  have hbs := hat.src.box.cell
  have n1 : b1 ≠ gs := by rintro rfl; rw [h1] at hbs; obtain ⟨A, n, c, rfl⟩ := hsl; cases hbs
  have n2 : b2 ≠ gs := by rintro rfl; rw [h2] at hbs; obtain ⟨A, n, c, rfl⟩ := hsl; cases hbs
  have n3 := hat.ne
  have hcall := SrcNumber_any w.drew gs v xs hat.drew.src hlen most
  rw [hres] at hcall
  clear hres
  have HAT := Lib.hid hat
  clear hat hbs hsl
  go_enter Tryz.func113, Tryz.ntmps113
  go_wp2_with fail
  refine wp_held (fun W1 => W1.cell? ⟨b1, 0, none⟩ = some (.pointer (some ⟨gr, 0, none⟩)) ∧ W1.cell? ⟨b2, 0, none⟩ = some (.int .u64 most) ∧ W1.cell? ⟨gr, 0, none⟩ = some (.pointer (some ⟨gs, 0, none⟩))) (by kernel_rfl) ?_
  have hS0 : w.drew.cell? ⟨b1, 0, none⟩ = some (.pointer (some ⟨gr, 0, none⟩)) ∧ w.drew.cell? ⟨b2, 0, none⟩ = some (.int .u64 most) ∧ w.drew.cell? ⟨gr, 0, none⟩ = some (.pointer (some ⟨gs, 0, none⟩)) := ⟨h1, h2, h0⟩
  refine wpAnyH_next (i := 0) (v := .pointer (some ⟨gr, 0, none⟩)) rfl (by kernel_rfl) (by kernel_rfl) (by kernel_rfl) (fun _ _ _ h => h) (by kernel_rfl) (fun W1 hW1 => by obtain ⟨e1, e2, e3⟩ := hW1; go_simp; done) hS0 (fun a' ha' => ?_)
  simp only [Act.put, List.getElem_toArray, List.getElem_cons_zero, List.setIfInBounds_toArray, List.set_cons_succ, List.set_cons_zero] at ha'
  subst ha'
  refine wpAnyH_next (i := 1) (v := .pointer (some ⟨gr, 0, none⟩)) rfl (by kernel_rfl) (by kernel_rfl) (by kernel_rfl) (fun _ _ _ h => h) (by kernel_rfl) (fun W1 hW1 => by obtain ⟨e1, e2, e3⟩ := hW1; go_simp; done) hS0 (fun a' ha' => ?_)
  simp only [Act.put, List.getElem_toArray, List.getElem_cons_succ, List.getElem_cons_zero, List.setIfInBounds_toArray, List.set_cons_succ, List.set_cons_zero] at ha'
  subst ha'
  refine wpAnyH_next (i := 2) (v := .pointer (some ⟨gr, 0, none⟩)) rfl (by kernel_rfl) (by kernel_rfl) (by kernel_rfl) (fun _ _ _ h => h) (by kernel_rfl) (fun W1 hW1 => by obtain ⟨e1, e2, e3⟩ := hW1; go_simp; done) hS0 (fun a' ha' => ?_)
  simp only [Act.put, List.getElem_toArray, List.getElem_cons_succ, List.getElem_cons_zero, List.setIfInBounds_toArray, List.set_cons_succ, List.set_cons_zero] at ha'
  subst ha'
  refine wpAnyH_next (i := 3) (v := .pointer (some ⟨gs, 0, none⟩)) rfl (by kernel_rfl) (by kernel_rfl) (by kernel_rfl) (fun _ _ _ h => h) (by kernel_rfl) (fun W1 hW1 => by obtain ⟨e1, e2, e3⟩ := hW1; go_simp; done) hS0 (fun a' ha' => ?_)
  simp only [Act.put, List.getElem_toArray, List.getElem_cons_succ, List.getElem_cons_zero, List.setIfInBounds_toArray, List.set_cons_succ, List.set_cons_zero] at ha'
  subst ha'
  refine wpAnyH_next (i := 4) (v := .int .u64 most) rfl (by kernel_rfl) (by kernel_rfl) (by kernel_rfl) (fun _ _ _ h => h) (by kernel_rfl) (fun W1 hW1 => by obtain ⟨e1, e2, e3⟩ := hW1; go_simp; done) hS0 (fun a' ha' => ?_)
  simp only [Act.put, List.getElem_toArray, List.getElem_cons_succ, List.getElem_cons_zero, List.setIfInBounds_toArray, List.set_cons_succ, List.set_cons_zero] at ha'
  subst ha'
  refine wpAnyH_want (i := 5) (by kernel_rfl) rfl (by kernel_rfl) (fun K hK => ?_)
  unfold Oper.wp
  go_simp
  refine hcall.mono ?_
  rintro e w2 ⟨rfl, hread⟩
  obtain ⟨v2, hat2, hk, hv⟩ := HAT.out.read (W := w2) (by obtain ⟨v', q1, q2, q3⟩ := hread; exact ⟨v', q1, ⟨q2.os, q2.tape, q2.output, q2.size, q2.block⟩, q3⟩)
  have HK := Lib.hid hk
  have HV := Lib.hid hv
  clear hk hv hread
  have hS1 : w2.cell? ⟨b1, 0, none⟩ = some (.pointer (some ⟨gr, 0, none⟩)) ∧ w2.cell? ⟨b2, 0, none⟩ = some (.int .u64 most) ∧ w2.cell? ⟨gr, 0, none⟩ = some (.pointer (some ⟨gs, 0, none⟩)) := ⟨(HK.out.cell (World.block_lt_of_cell? _ _ h1) n1).trans h1, (HK.out.cell (World.block_lt_of_cell? _ _ h2) n2).trans h2, (HK.out.cell (World.block_lt_of_cell? _ _ h0) n3).trans h0⟩
  refine hK _ _ hS1 ?_
  clear hK K
  refine wpAnyH_next (i := 6) (v := .int .u64 m) rfl (by kernel_rfl) (by kernel_rfl) (by kernel_rfl) (fun _ _ _ h => h) (by kernel_rfl) (fun W1 hW1 => by go_simp; done) hS1 (fun a' ha' => ?_)
  simp only [Act.put, List.getElem_toArray, List.getElem_cons_succ, List.getElem_cons_zero, List.setIfInBounds_toArray, List.set_cons_succ, List.set_cons_zero] at ha'
  subst ha'
  refine wpAnyH_next (i := 7) (v := .int .i64 er) rfl (by kernel_rfl) (by kernel_rfl) (by kernel_rfl) (fun _ _ _ h => h) (by kernel_rfl) (fun W1 hW1 => by go_simp; done) hS1 (fun a' ha' => ?_)
  simp only [Act.put, List.getElem_toArray, List.getElem_cons_succ, List.getElem_cons_zero, List.setIfInBounds_toArray, List.set_cons_succ, List.set_cons_zero] at ha'
  subst ha'
  refine wpAnyH_next (i := 8) (v := .int .u64 m) rfl (by kernel_rfl) (by kernel_rfl) (by kernel_rfl) (fun _ _ _ h => h) (by kernel_rfl) (fun W1 hW1 => by go_simp; done) hS1 (fun a' ha' => ?_)
  simp only [Act.put, List.getElem_toArray, List.getElem_cons_succ, List.getElem_cons_zero, List.setIfInBounds_toArray, List.set_cons_succ, List.set_cons_zero] at ha'
  subst ha'
  refine wpAnyH_next (i := 9) (v := .int .i64 er) rfl (by kernel_rfl) (by kernel_rfl) (by kernel_rfl) (fun _ _ _ h => h) (by kernel_rfl) (fun W1 hW1 => by go_simp; done) hS1 (fun a' ha' => ?_)
  simp only [Act.put, List.getElem_toArray, List.getElem_cons_succ, List.getElem_cons_zero, List.setIfInBounds_toArray, List.set_cons_succ, List.set_cons_zero] at ha'
  subst ha'
  refine wpAnyH_fin (by kernel_rfl) ?_ _
  go_wp2_with fail
  go_ret2
  exact ⟨rfl, v2, hat2, HK.out, HV.out⟩
set_option maxHeartbeats 1000000 in
/-- The closure that reads bytes. -/
theorem rBytes1_any (w : World) (gr gs : Nat) (v : Value) (xs : List UInt8) (b : Bool) (hat : RdAt w gr gs v xs b) (hlen : xs.length ≤ 140737488355328) (b1 b2 : Nat) (most : Int) (hm0 : 0 ≤ most) (hm : most ≤ 100000) (h1 : w.cell? ⟨b1, 0, none⟩ = some (.pointer (some ⟨gr, 0, none⟩))) (h2 : w.cell? ⟨b2, 0, none⟩ = some (.int .i64 most)) :
    Calls Tryz.prog 209 #[.pointer (some ⟨b1, 0, none⟩), .pointer (some ⟨b2, 0, none⟩)] w fun e W' => ∃ r, e = .returned (.tuple #[r, .int .i64 (back xs (bytesRes most xs)).1]) ∧ W'.ownsRow w.heap.size 5 1 r (back xs (bytesRes most xs)).2.1.length ((back xs (bytesRes most xs)).2.1.map B8) ∧ ∃ v', RdAt W' gr gs v' (back xs (bytesRes most xs)).2.2 b ∧ Kept (fun j => j = gs) w W' ∧ v'.ownBlock = v.ownBlock := by
  generalize hres : back xs (bytesRes most xs) = res
  obtain ⟨er, m, ys⟩ := res
  dsimp only
  have h0 := hat.c0
  have hsl : ∃ A n c, v = .slice A n c := by obtain ⟨A, c, rfl, _⟩ := hat.src.bytes.form; exact ⟨A, _, c, rfl⟩
  have hbs := hat.src.box.cell
  have n1 : b1 ≠ gs := by rintro rfl; rw [h1] at hbs; obtain ⟨A, n, c, rfl⟩ := hsl; cases hbs
  have n2 : b2 ≠ gs := by rintro rfl; rw [h2] at hbs; obtain ⟨A, n, c, rfl⟩ := hsl; cases hbs
  have n3 := hat.ne
  have hcall := SrcBytes_any w.drew gs v xs hat.drew.src hlen most (by omega)
  rw [hres] at hcall
  clear hres
  have HAT := Lib.hid hat
  clear hat hbs hsl
  go_enter Tryz.func209, Tryz.ntmps209
  go_wp2_with fail
  refine wp_held (fun W1 => W1.cell? ⟨b1, 0, none⟩ = some (.pointer (some ⟨gr, 0, none⟩)) ∧ W1.cell? ⟨b2, 0, none⟩ = some (.int .i64 most) ∧ W1.cell? ⟨gr, 0, none⟩ = some (.pointer (some ⟨gs, 0, none⟩))) (by kernel_rfl) ?_
  have hS0 : w.drew.cell? ⟨b1, 0, none⟩ = some (.pointer (some ⟨gr, 0, none⟩)) ∧ w.drew.cell? ⟨b2, 0, none⟩ = some (.int .i64 most) ∧ w.drew.cell? ⟨gr, 0, none⟩ = some (.pointer (some ⟨gs, 0, none⟩)) := ⟨h1, h2, h0⟩
  refine wpAnyH_next (i := 0) (v := .pointer (some ⟨gr, 0, none⟩)) rfl (by kernel_rfl) (by kernel_rfl) (by kernel_rfl) (fun _ _ _ h => h) (by kernel_rfl) (fun W1 hW1 => by obtain ⟨e1, e2, e3⟩ := hW1; go_simp; done) hS0 (fun a' ha' => ?_)
  simp only [Act.put, List.getElem_toArray, List.getElem_cons_zero, List.setIfInBounds_toArray, List.set_cons_succ, List.set_cons_zero] at ha'
  subst ha'
  refine wpAnyH_next (i := 1) (v := .pointer (some ⟨gr, 0, none⟩)) rfl (by kernel_rfl) (by kernel_rfl) (by kernel_rfl) (fun _ _ _ h => h) (by kernel_rfl) (fun W1 hW1 => by obtain ⟨e1, e2, e3⟩ := hW1; go_simp; done) hS0 (fun a' ha' => ?_)
  simp only [Act.put, List.getElem_toArray, List.getElem_cons_succ, List.getElem_cons_zero, List.setIfInBounds_toArray, List.set_cons_succ, List.set_cons_zero] at ha'
  subst ha'
  refine wpAnyH_next (i := 2) (v := .pointer (some ⟨gr, 0, none⟩)) rfl (by kernel_rfl) (by kernel_rfl) (by kernel_rfl) (fun _ _ _ h => h) (by kernel_rfl) (fun W1 hW1 => by obtain ⟨e1, e2, e3⟩ := hW1; go_simp; done) hS0 (fun a' ha' => ?_)
  simp only [Act.put, List.getElem_toArray, List.getElem_cons_succ, List.getElem_cons_zero, List.setIfInBounds_toArray, List.set_cons_succ, List.set_cons_zero] at ha'
  subst ha'
  refine wpAnyH_next (i := 3) (v := .pointer (some ⟨gs, 0, none⟩)) rfl (by kernel_rfl) (by kernel_rfl) (by kernel_rfl) (fun _ _ _ h => h) (by kernel_rfl) (fun W1 hW1 => by obtain ⟨e1, e2, e3⟩ := hW1; go_simp; done) hS0 (fun a' ha' => ?_)
  simp only [Act.put, List.getElem_toArray, List.getElem_cons_succ, List.getElem_cons_zero, List.setIfInBounds_toArray, List.set_cons_succ, List.set_cons_zero] at ha'
  subst ha'
  refine wpAnyH_next (i := 4) (v := .int .i64 most) rfl (by kernel_rfl) (by kernel_rfl) (by kernel_rfl) (fun _ _ _ h => h) (by kernel_rfl) (fun W1 hW1 => by obtain ⟨e1, e2, e3⟩ := hW1; go_simp; done) hS0 (fun a' ha' => ?_)
  simp only [Act.put, List.getElem_toArray, List.getElem_cons_succ, List.getElem_cons_zero, List.setIfInBounds_toArray, List.set_cons_succ, List.set_cons_zero] at ha'
  subst ha'
  refine wpAnyH_want (i := 5) (by kernel_rfl) rfl (by kernel_rfl) (fun K hK => ?_)
  unfold Oper.wp
  go_simp
  refine hcall.mono ?_
  rintro e w2 ⟨r, rfl, hrow, hread⟩
  obtain ⟨v2, hat2, hk, hv⟩ := HAT.out.read (W := w2) (by obtain ⟨v', q1, q2, q3⟩ := hread; exact ⟨v', q1, ⟨q2.os, q2.tape, q2.output, q2.size, q2.block⟩, q3⟩)
  have HROW := Lib.hid hrow
  have HK := Lib.hid hk
  have HV := Lib.hid hv
  clear hk hv hread hrow
  have hS1 : w2.cell? ⟨b1, 0, none⟩ = some (.pointer (some ⟨gr, 0, none⟩)) ∧ w2.cell? ⟨b2, 0, none⟩ = some (.int .i64 most) ∧ w2.cell? ⟨gr, 0, none⟩ = some (.pointer (some ⟨gs, 0, none⟩)) := ⟨(HK.out.cell (World.block_lt_of_cell? _ _ h1) n1).trans h1, (HK.out.cell (World.block_lt_of_cell? _ _ h2) n2).trans h2, (HK.out.cell (World.block_lt_of_cell? _ _ h0) n3).trans h0⟩
  refine hK _ _ hS1 ?_
  clear hK K
  refine wpAnyH_next (i := 6) (v := r) rfl (by kernel_rfl) (by kernel_rfl) (by kernel_rfl) (fun _ _ _ h => h) (by kernel_rfl) (fun W1 hW1 => by go_simp; done) hS1 (fun a' ha' => ?_)
  simp only [Act.put, List.getElem_toArray, List.getElem_cons_succ, List.getElem_cons_zero, List.setIfInBounds_toArray, List.set_cons_succ, List.set_cons_zero] at ha'
  subst ha'
  refine wpAnyH_next (i := 7) (v := .int .i64 er) rfl (by kernel_rfl) (by kernel_rfl) (by kernel_rfl) (fun _ _ _ h => h) (by kernel_rfl) (fun W1 hW1 => by go_simp; done) hS1 (fun a' ha' => ?_)
  simp only [Act.put, List.getElem_toArray, List.getElem_cons_succ, List.getElem_cons_zero, List.setIfInBounds_toArray, List.set_cons_succ, List.set_cons_zero] at ha'
  subst ha'
  refine wpAnyH_next (i := 8) (v := r) rfl (by kernel_rfl) (by kernel_rfl) (by kernel_rfl) (fun _ _ _ h => h) (by kernel_rfl) (fun W1 hW1 => by go_simp; done) hS1 (fun a' ha' => ?_)
  simp only [Act.put, List.getElem_toArray, List.getElem_cons_succ, List.getElem_cons_zero, List.setIfInBounds_toArray, List.set_cons_succ, List.set_cons_zero] at ha'
  subst ha'
  refine wpAnyH_next (i := 9) (v := .int .i64 er) rfl (by kernel_rfl) (by kernel_rfl) (by kernel_rfl) (fun _ _ _ h => h) (by kernel_rfl) (fun W1 hW1 => by go_simp; done) hS1 (fun a' ha' => ?_)
  simp only [Act.put, List.getElem_toArray, List.getElem_cons_succ, List.getElem_cons_zero, List.setIfInBounds_toArray, List.set_cons_succ, List.set_cons_zero] at ha'
  subst ha'
  refine wpAnyH_fin (by kernel_rfl) ?_ _
  go_wp2_with fail
  go_ret2
  exact ⟨r, rfl, HROW.out, v2, hat2, HK.out, HV.out⟩
set_option maxHeartbeats 1000000 in
theorem rdU64_wrong (w : World) (gr gs : Nat) (v : Value) (xs : List UInt8) (hat : RdAt w gr gs v xs true) (f : Value) :
    Calls Tryz.prog 112 #[.pointer (some ⟨gr, 0, none⟩), f] w fun e W' => e = .returned (.int .u64 0) ∧ W' = w := by
  have h1 := hat.c1
  go_enter Tryz.func112, Tryz.ntmps112
  go_wp2_with fail
  go_ret
  exact ⟨rfl, rfl⟩
set_option maxHeartbeats 1000000 in
theorem rdBytes_wrong (w : World) (gr gs : Nat) (v : Value) (xs : List UInt8) (hat : RdAt w gr gs v xs true) (f : Value) :
    Calls Tryz.prog 208 #[.pointer (some ⟨gr, 0, none⟩), f] w fun e W' => e = .returned (.slice none 0 0) ∧ W' = w := by
  have h1 := hat.c1
  go_enter Tryz.func208, Tryz.ntmps208
  go_wp2_with fail
  go_ret
  exact ⟨rfl, rfl⟩
set_option maxHeartbeats 1000000 in
theorem rdU64_right (w : World) (gr gs : Nat) (v : Value) (xs : List UInt8) (hat : RdAt w gr gs v xs false) (hlen : xs.length ≤ 140737488355328) (b1 b2 most : Nat) (h1 : w.cell? ⟨b1, 0, none⟩ = some (.pointer (some ⟨gr, 0, none⟩))) (h2 : w.cell? ⟨b2, 0, none⟩ = some (.int .u64 most)) :
    Calls Tryz.prog 112 #[.pointer (some ⟨gr, 0, none⟩), .func (.func 113) #[] #[.pointer (some ⟨b1, 0, none⟩), .pointer (some ⟨b2, 0, none⟩)]] w fun e W' => e = .returned (.int .u64 (rdNum most xs false).1) ∧ RdOut w gr gs v (rdNum most xs false).2.1 (rdNum most xs false).2.2 W' := by
  have hcall := rNumber1_any w gr gs v xs false hat hlen b1 b2 most h1 h2
  have hc1 := hat.c1
  obtain ⟨er, m, ys, hr⟩ : ∃ er m ys, back xs (numRes most xs) = (er, m, ys) := ⟨_, _, _, rfl⟩
  have HRD := Lib.hid (show rdNum most xs false = if er = 0 then (m, ys, false) else (0, xs, true) by
    unfold back at hr
    injection hr with r1 r2
    injection r2 with r2 r3
    unfold rdNum
    rw [if_neg (by decide), r1, r2]
    by_cases h0 : er = 0
    · rw [r1, if_pos h0] at r3
      rw [if_pos h0, if_pos h0, r3]
    · rw [if_neg h0, if_neg h0])
  have HX := Lib.hid (show ¬ er = 0 → ys = xs by
    intro h0
    unfold back at hr
    injection hr with r1 r2
    injection r2 with r2 r3
    rw [r1, if_neg h0] at r3
    exact r3.symm)
  rw [hr] at hcall
  dsimp only at hcall
  clear hr
  go_enter Tryz.func112, Tryz.ntmps112
  go_wp2_with fail
  refine hcall.mono ?_
  rintro e w2 ⟨rfl, v2, hat2, hk2, hv2⟩
  have HK := Lib.hid hk2
  have HV := Lib.hid hv2
  clear hk2 hv2 hcall
  by_cases h0 : er = 0
  · subst h0
    have HR2 := Lib.hid (HRD.out.trans (if_pos rfl))
    go_wp2_with fail
    go_ret
    rw [HR2.out]
    exact ⟨rfl, v2, hat2, HK.out.mono (fun _ _ h => .inl h), HV.out⟩
  · have HR2 := Lib.hid (HRD.out.trans (if_neg h0))
    have hne : (er != 0) = true := by simpa using h0
    have hc2 := hat2.c1
    have hf2 := hat2.frozen 1
    go_wp2_with fail
    go_ret
    rw [HR2.out]
    have hm := hat2.mark
    rw [HX.out h0] at hm
    exact ⟨rfl, v2, hm, (HK.out.mono (T' := fun j => j = gs ∨ j = gr) (fun _ _ h => .inl h)).setCell (p := ⟨gr, 1, none⟩) (fun _ => .inr rfl) _, HV.out⟩
set_option maxHeartbeats 1000000 in
theorem rdBytes_right (w : World) (gr gs : Nat) (v : Value) (xs : List UInt8) (hat : RdAt w gr gs v xs false) (hlen : xs.length ≤ 140737488355328) (b1 b2 : Nat) (most : Int) (hm0 : 0 ≤ most) (hm : most ≤ 100000) (h1 : w.cell? ⟨b1, 0, none⟩ = some (.pointer (some ⟨gr, 0, none⟩))) (h2 : w.cell? ⟨b2, 0, none⟩ = some (.int .i64 most)) :
    Calls Tryz.prog 208 #[.pointer (some ⟨gr, 0, none⟩), .func (.func 209) #[] #[.pointer (some ⟨b1, 0, none⟩), .pointer (some ⟨b2, 0, none⟩)]] w fun e W' => ∃ r, e = .returned r ∧ W'.ownsRow w.heap.size 5 1 r (rdBy most xs false).1.length ((rdBy most xs false).1.map B8) ∧ RdOut w gr gs v (rdBy most xs false).2.1 (rdBy most xs false).2.2 W' := by
  have hcall := rBytes1_any w gr gs v xs false hat hlen b1 b2 most hm0 hm h1 h2
  have hc1 := hat.c1
  obtain ⟨er, m, ys, hr⟩ : ∃ er m ys, back xs (bytesRes most xs) = (er, m, ys) := ⟨_, _, _, rfl⟩
  have HRD := Lib.hid (show rdBy most xs false = if er = 0 then (m, ys, false) else ([], xs, true) by
    unfold back at hr
    injection hr with r1 r2
    injection r2 with r2 r3
    unfold rdBy
    rw [if_neg (by decide), r1, r2]
    by_cases h0 : er = 0
    · rw [r1, if_pos h0] at r3
      rw [if_pos h0, if_pos h0, r3]
    · rw [if_neg h0, if_neg h0])
  have HX := Lib.hid (show ¬ er = 0 → ys = xs by
    intro h0
    unfold back at hr
    injection hr with r1 r2
    injection r2 with r2 r3
    rw [r1, if_neg h0] at r3
    exact r3.symm)
  rw [hr] at hcall
  dsimp only at hcall
  clear hr
  go_enter Tryz.func208, Tryz.ntmps208
  go_wp2_with fail
  refine hcall.mono ?_
  rintro e w2 ⟨r, rfl, hrow, v2, hat2, hk2, hv2⟩
  obtain ⟨A, n, c, rfl⟩ := owns_slice hrow
  have HROW := Lib.hid hrow
  have HK := Lib.hid hk2
  have HV := Lib.hid hv2
  clear hk2 hv2 hcall hrow
  by_cases h0 : er = 0
  · subst h0
    have HR2 := Lib.hid (HRD.out.trans (if_pos rfl))
    go_wp2_with fail
    go_ret
    rw [HR2.out]
    exact ⟨_, rfl, HROW.out, v2, hat2, HK.out.mono (fun _ _ h => .inl h), HV.out⟩
  · have HR2 := Lib.hid (HRD.out.trans (if_neg h0))
    have hne : (er != 0) = true := by simpa using h0
    have hc2 := hat2.c1
    have hf2 := hat2.frozen 1
    go_wp2_with fail
    go_ret
    rw [HR2.out]
    have hm := hat2.mark
    rw [HX.out h0] at hm
    exact ⟨_, rfl, World.ownsRow_nil _ _ _ _, v2, hm, (HK.out.mono (T' := fun j => j = gs ∨ j = gr) (fun _ _ h => .inl h)).setCell (p := ⟨gr, 1, none⟩) (fun _ => .inr rfl) _, HV.out⟩
end Go.Proofs.YtljihmbmjpcfaaaGreat
namespace Go.Proofs.YtljihmbmjpcfaaaGreat
open Go.RowKit Go.Shelf Go.Great
set_option maxRecDepth 100000

/-- An entry's bytes. -/
def encEnB (x : En) : List UInt8 := (lebB x.nm.length ++ x.nm) ++ (lebB x.kd.toNat ++ x.id)
/-- An object's bytes. -/
def encP (p : Pl) : List UInt8 :=
  if p.kd = 1 then lebB 1 ++ (lebB p.d.length ++ p.d)
  else if p.kd = 2 then lebB 2 ++ (lebB p.es.length ++ p.es.flatMap encEnB)
  else if p.kd = 3 then lebB 3 ++ (p.tree ++ ((lebB p.ps.length ++ p.ps.flatten) ++ (lebB p.msg.length ++ p.msg)))
  else lebB 4 ++ (lebB p.tg.kd.toNat ++ (p.tg.id ++ (lebB p.msg.length ++ p.msg)))
/-- An id read. -/
def rdIdP (xs : List UInt8) (b : Bool) : List UInt8 × List UInt8 × Bool :=
  if b then (zeroID, xs, true) else if xs.length < 32 then (zeroID, xs, true) else (xs.take 32, xs.drop 32, false)
theorem rdIdP_length (xs : List UInt8) (b : Bool) : (rdIdP xs b).1.length = 32 := by
  unfold rdIdP
  split
  · rfl
  · split
    · rfl
    · simp; omega
/-- An entry read. -/
def rdEnP (xs : List UInt8) (b : Bool) : En × List UInt8 × Bool :=
  let a := rdBy 64 xs b
  let k := rdNum 4 a.2.1 a.2.2
  let i := rdIdP k.2.1 k.2.2
  (⟨a.1, k.1, i.1, rdIdP_length _ _⟩, i.2.1, i.2.2)
/-- Several parts read. -/
def rdSevP {α : Type} (f : List UInt8 → Bool → α × List UInt8 × Bool) : Nat → List UInt8 → Bool → List α × List UInt8 × Bool
  | 0, xs, b => ([], xs, b)
  | n + 1, xs, b => ((f xs b).1 :: (rdSevP f n (f xs b).2.1 (f xs b).2.2).1, (rdSevP f n (f xs b).2.1 (f xs b).2.2).2)
/-- What is read behind the kind. -/
def bodyR (k : Nat) (xs : List UInt8) (b : Bool) : Pl × List UInt8 × Bool :=
  if k = 1 then
    let r := rdBy 1024 xs b
    (⟨1, r.1, [], zeroID, [], zeroLk, []⟩, r.2)
  else if k = 2 then
    let n := rdNum 32 xs b
    let r := rdSevP rdEnP n.1 n.2.1 n.2.2
    (⟨2, [], r.1, zeroID, [], zeroLk, []⟩, r.2)
  else if k = 3 then
    let t := rdIdP xs b
    let n := rdNum 4 t.2.1 t.2.2
    let r := rdSevP rdIdP n.1 n.2.1 n.2.2
    let m := rdBy 200 r.2.1 r.2.2
    (⟨3, [], [], t.1, r.1, zeroLk, m.1⟩, m.2)
  else
    let t := rdNum 4 xs b
    let i := rdIdP t.2.1 t.2.2
    let m := rdBy 200 i.2.1 i.2.2
    (⟨4, [], [], zeroID, [], ⟨t.1, i.1, rdIdP_length _ _⟩, m.1⟩, m.2)
/-- What bytes are read as: the object, or none. -/
def parseP (xs : List UInt8) : Option Pl :=
  let k := rdNum 4 xs false
  if k.1 = 0 then none
  else
    let r := bodyR k.1 k.2.1 k.2.2
    if r.2.2 = false ∧ r.2.1 = [] ∧ bodyB r.1 = true then some r.1 else none

theorem rdNum_fwd {most n : Nat} (hn : n ≤ most) (hm : most < 18446744073709551616) (rest : List UInt8) : rdNum most (lebB n ++ rest) false = (n, rest, false) := by
  have h := scan_read (k := n) (by omega) rest
  have h2 : numRes most (lebB n ++ rest) = (0, n, rest) := by
    unfold numRes
    rw [h]
    simp
    omega
  unfold rdNum
  rw [h2]
  simp
theorem rdNum_bwd {most n : Nat} {xs rest : List UInt8} {b : Bool} (h : rdNum most xs b = (n, rest, false)) : b = false ∧ xs = lebB n ++ rest ∧ n ≤ most := by
  unfold rdNum at h
  cases b with
  | true => simp at h
  | false =>
    refine ⟨rfl, ?_⟩
    simp only [Bool.false_eq_true, if_false] at h
    split at h
    · next h0 =>
      have hle := numRes_le h0
      simp only [Prod.mk.injEq, and_true] at h
      obtain ⟨rfl, rfl⟩ := h
      refine ⟨?_, hle⟩
      unfold numRes at h0 ⊢
      split at h0
      · next h1 => exact absurd h0 h1
      · next h1 =>
        split at h0
        · cases h0
        · next h2 =>
          rw [if_neg h1, if_neg h2]
          have h1' : (scan 0 0 xs).1 = 0 := by omega
          have := scan_told (xs := xs) (n := (scan 0 0 xs).2.1) (rest := (scan 0 0 xs).2.2) (by rw [← h1'])
          exact this.1
    · simp at h
theorem rawRes_all {ys rest : List UInt8} : rawRes (ys.length : Int) (ys ++ rest) = (0, ys, rest) := by
  unfold rawRes
  rw [if_neg (by omega), if_neg (by simp; omega)]
  simp
theorem rdBy_fwd {most : Nat} {ys : List UInt8} (hn : ys.length ≤ most) (hm : most < 18446744073709551616) (rest : List UInt8) : rdBy (most : Int) ((lebB ys.length ++ ys) ++ rest) false = (ys, rest, false) := by
  have h := scan_read (k := ys.length) (by omega) (ys ++ rest)
  have h2 : numRes most (lebB ys.length ++ (ys ++ rest)) = (0, ys.length, ys ++ rest) := by
    unfold numRes
    rw [h]
    simp
    omega
  have h3 : bytesRes (most : Int) ((lebB ys.length ++ ys) ++ rest) = (0, ys, rest) := by
    unfold bytesRes
    rw [List.append_assoc, Int.toNat_natCast, h2]
    simp [rawRes_all]
  unfold rdBy
  rw [h3]
  simp
theorem rdBy_bwd {most : Nat} {ys xs rest : List UInt8} {b : Bool} (h : rdBy (most : Int) xs b = (ys, rest, false)) : b = false ∧ xs = (lebB ys.length ++ ys) ++ rest ∧ ys.length ≤ most := by
  unfold rdBy at h
  cases b with
  | true => simp at h
  | false =>
    refine ⟨rfl, ?_⟩
    simp only [Bool.false_eq_true, if_false] at h
    split at h
    · next h0 =>
      simp only [Prod.mk.injEq, and_true] at h
      obtain ⟨rfl, rfl⟩ := h
      unfold bytesRes at h0 ⊢
      rw [Int.toNat_natCast] at h0 ⊢
      split at h0
      · next h1 => exact absurd h0 h1
      · next h1 =>
        rw [if_neg h1]
        have h1' : (numRes most xs).1 = 0 := by omega
        have hq := @rdNum_bwd most (numRes most xs).2.1 xs (numRes most xs).2.2 false (by unfold rdNum; rw [h1']; simp)
        generalize (numRes most xs).2.1 = n at *
        generalize (numRes most xs).2.2 = r at *
        obtain ⟨_, rfl, hle⟩ := hq
        unfold rawRes at h0 ⊢
        rw [if_neg (by omega)] at h0 ⊢
        split at h0
        · cases h0
        · next h2 =>
          rw [if_neg h2]
          have hl : (r.take n).length = n := by simp; omega
          simp only [Int.toNat_natCast]
          rw [hl]
          exact ⟨by simp, hle⟩
    · simp at h
theorem rdIdP_fwd {id : List UInt8} (h : id.length = 32) (rest : List UInt8) : rdIdP (id ++ rest) false = (id, rest, false) := by
  unfold rdIdP
  rw [if_neg (by simp), if_neg (by simp; omega), List.take_append_of_le_length (by omega), List.take_of_length_le (by omega), List.drop_append_of_le_length (by omega), List.drop_of_length_le (by omega)]
  rfl
theorem rdIdP_bwd {id xs rest : List UInt8} {b : Bool} (h : rdIdP xs b = (id, rest, false)) : b = false ∧ xs = id ++ rest ∧ id.length = 32 := by
  have hl := rdIdP_length xs b
  rw [h] at hl
  unfold rdIdP at h
  cases b with
  | true => simp at h
  | false =>
    refine ⟨rfl, ?_, hl⟩
    simp only [Bool.false_eq_true, if_false] at h
    split at h
    · simp at h
    · simp only [Prod.mk.injEq, and_true] at h
      obtain ⟨rfl, rfl⟩ := h
      simp
theorem rdEnP_fwd {x : En} (hn : x.nm.length ≤ 64) (hk0 : 0 ≤ x.kd) (hk : x.kd ≤ 4) (rest : List UInt8) : rdEnP (encEnB x ++ rest) false = (x, rest, false) := by
  obtain ⟨nm, kd, id, h32⟩ := x
  dsimp only at hn hk hk0
  have h1 : rdBy 64 ((lebB nm.length ++ nm) ++ ((lebB kd.toNat ++ id) ++ rest)) false = (nm, (lebB kd.toNat ++ id) ++ rest, false) := rdBy_fwd (most := 64) hn (by decide) _
  have h2 := rdNum_fwd (most := 4) (n := kd.toNat) (by omega) (by decide) (id ++ rest)
  have h3 := rdIdP_fwd h32 rest
  unfold rdEnP encEnB
  dsimp only
  simp only [List.append_assoc] at h1 h2 ⊢
  simp only [h1, h2, h3]
  have hkd : ((kd.toNat : Nat) : Int) = kd := by omega
  simp only [hkd]
theorem rdEnP_bwd {x : En} {xs rest : List UInt8} {b : Bool} (h : rdEnP xs b = (x, rest, false)) : b = false ∧ xs = encEnB x ++ rest ∧ x.nm.length ≤ 64 ∧ 0 ≤ x.kd ∧ x.kd ≤ 4 := by
  unfold rdEnP at h
  dsimp only at h
  obtain ⟨nm, r1, b1, ha⟩ : ∃ nm r1 b1, rdBy 64 xs b = (nm, r1, b1) := ⟨_, _, _, rfl⟩
  simp only [ha] at h
  obtain ⟨kd, r2, b2, hk⟩ : ∃ kd r2 b2, rdNum 4 r1 b1 = (kd, r2, b2) := ⟨_, _, _, rfl⟩
  simp only [hk] at h
  simp only [Prod.mk.injEq] at h
  obtain ⟨rfl, h4, h5⟩ := h
  have hi : rdIdP r2 b2 = ((rdIdP r2 b2).1, rest, false) := by rw [← h4, ← h5]
  obtain ⟨rfl, hr2, _⟩ := rdIdP_bwd hi
  obtain ⟨rfl, hr1, hkd⟩ := rdNum_bwd hk
  obtain ⟨rfl, hxs, hnm⟩ := rdBy_bwd (most := 64) ha
  refine ⟨rfl, ?_, hnm, by dsimp only; omega, by dsimp only; omega⟩
  unfold encEnB
  dsimp only
  rw [hxs, hr1, Int.toNat_natCast, hr2]
  simp [List.append_assoc]
  rw [← hr2]
theorem rdSevP_fwd {α : Type} {f : List UInt8 → Bool → α × List UInt8 × Bool} {enc : α → List UInt8} (rest : List UInt8) : ∀ (l : List α), (∀ x ∈ l, ∀ t, f (enc x ++ t) false = (x, t, false)) → rdSevP f l.length (l.flatMap enc ++ rest) false = (l, rest, false)
  | [], _ => rfl
  | x :: l, h => by
    have h1 := h x (List.mem_cons_self ..) (l.flatMap enc ++ rest)
    have h2 := rdSevP_fwd rest l (fun y hy => h y (List.mem_cons_of_mem _ hy))
    rw [List.flatMap_cons, List.append_assoc, List.length_cons]
    unfold rdSevP
    rw [h1]
    dsimp only
    rw [h2]
theorem rdSevP_bwd {α : Type} {f : List UInt8 → Bool → α × List UInt8 × Bool} {enc : α → List UInt8} {Q : α → Prop} (hf : ∀ xs b x t, f xs b = (x, t, false) → b = false ∧ xs = enc x ++ t ∧ Q x) : ∀ (n : Nat) (xs : List UInt8) (b : Bool) (l : List α) (rest : List UInt8), rdSevP f n xs b = (l, rest, false) → b = false ∧ xs = l.flatMap enc ++ rest ∧ l.length = n ∧ ∀ x ∈ l, Q x
  | 0, xs, b, l, rest, h => by
    unfold rdSevP at h
    simp only [Prod.mk.injEq] at h
    obtain ⟨rfl, rfl, rfl⟩ := h
    simp
  | n + 1, xs, b, l, rest, h => by
    unfold rdSevP at h
    simp only [Prod.mk.injEq] at h
    obtain ⟨rfl, h2⟩ := h
    generalize hq : f xs b = q at *
    obtain ⟨x, t, b1⟩ := q
    dsimp only at h2 ⊢
    obtain ⟨rfl, ht, hl, hall⟩ := rdSevP_bwd hf n t b1 (rdSevP f n t b1).1 rest (by rw [← h2])
    obtain ⟨rfl, hxs, hqx⟩ := hf _ _ _ _ hq
    refine ⟨rfl, ?_, by simp [hl], ?_⟩
    · rw [List.flatMap_cons, List.append_assoc, ← ht, hxs]
    · intro y hy
      rcases List.mem_cons.1 hy with rfl | hy
      · exact hqx
      · exact hall y hy

/-- What an object that may be has. -/
structure FineP (p : Pl) : Prop where
  kd : p.kd = 1 ∨ p.kd = 2 ∨ p.kd = 3 ∨ p.kd = 4
  d : p.kd = 1 → p.d.length ≤ 1024
  el : p.kd = 2 → p.es.length ≤ 32
  es : p.kd = 2 → ∀ x ∈ p.es, (x.kd = 1 ∨ x.kd = 2) ∧ x.nm.length ≤ 64
  pl : p.kd = 3 → p.ps.length ≤ 4
  tg : p.kd = 4 → 1 ≤ p.tg.kd ∧ p.tg.kd ≤ 4
  msg : p.kd = 3 ∨ p.kd = 4 → p.msg.length ≤ 200
/-- All ids have 32 bytes. -/
structure IdsP (p : Pl) : Prop where
  tree : p.tree.length = 32
  ps : ∀ x ∈ p.ps, x.length = 32
theorem flatMap_id (l : List (List UInt8)) : l.flatMap (fun x => x) = l.flatten := by simp [List.flatMap]
theorem parse_enc {p : Pl} (h : FineP p) (hi : IdsP p) (hb : bodyB p = true) (ho : p = onlyK p) : parseP (encP p) = some p := by
  have hz : ∀ (xs : List UInt8), xs ++ [] = xs := List.append_nil
  rcases h.kd with h1 | h2 | h3 | h4
  · have e1 : encP p = lebB 1 ++ (lebB p.d.length ++ p.d) := by unfold encP; rw [if_pos h1]
    have o1 : onlyK p = ⟨1, p.d, [], zeroID, [], zeroLk, []⟩ := by unfold onlyK; rw [if_pos h1]
    have q1 := rdNum_fwd (most := 4) (n := 1) (by decide) (by decide) (lebB p.d.length ++ p.d)
    have q2 : rdBy 1024 ((lebB p.d.length ++ p.d) ++ []) false = (p.d, [], false) := rdBy_fwd (most := 1024) (h.d h1) (by decide) []
    rw [hz] at q2
    have hq : bodyR 1 (lebB p.d.length ++ p.d) false = (p, [], false) := by
      unfold bodyR
      rw [if_pos rfl]
      dsimp only
      rw [q2]
      dsimp only
      rw [← o1, ← ho]
    unfold parseP
    rw [e1]
    dsimp only
    rw [q1]
    dsimp only
    rw [hq, if_neg (by decide)]
    exact if_pos ⟨rfl, rfl, hb⟩
  · have e1 : encP p = lebB 2 ++ (lebB p.es.length ++ p.es.flatMap encEnB) := by unfold encP; rw [if_neg (by omega), if_pos h2]
    have o1 : onlyK p = ⟨2, [], p.es, zeroID, [], zeroLk, []⟩ := by unfold onlyK; rw [if_neg (by omega), if_pos h2]
    have q1 := rdNum_fwd (most := 4) (n := 2) (by decide) (by decide) (lebB p.es.length ++ p.es.flatMap encEnB)
    have q2 := rdNum_fwd (most := 32) (n := p.es.length) (h.el h2) (by decide) (p.es.flatMap encEnB)
    have q3 := rdSevP_fwd (f := rdEnP) (enc := encEnB) [] p.es (fun x hx t => rdEnP_fwd (h.es h2 x hx).2 (by have := (h.es h2 x hx).1; omega) (by have := (h.es h2 x hx).1; omega) t)
    rw [hz] at q3
    have hq : bodyR 2 (lebB p.es.length ++ p.es.flatMap encEnB) false = (p, [], false) := by
      unfold bodyR
      rw [if_neg (by decide), if_pos rfl]
      dsimp only
      rw [q2]
      dsimp only
      rw [q3]
      dsimp only
      rw [← o1, ← ho]
    unfold parseP
    rw [e1]
    dsimp only
    rw [q1]
    dsimp only
    rw [hq, if_neg (by decide)]
    exact if_pos ⟨rfl, rfl, hb⟩
  · have e1 : encP p = lebB 3 ++ (p.tree ++ ((lebB p.ps.length ++ p.ps.flatten) ++ (lebB p.msg.length ++ p.msg))) := by unfold encP; rw [if_neg (by omega), if_neg (by omega), if_pos h3]
    have o1 : onlyK p = ⟨3, [], [], p.tree, p.ps, zeroLk, p.msg⟩ := by unfold onlyK; rw [if_neg (by omega), if_neg (by omega), if_pos h3]
    have q1 := rdNum_fwd (most := 4) (n := 3) (by decide) (by decide) (p.tree ++ ((lebB p.ps.length ++ p.ps.flatten) ++ (lebB p.msg.length ++ p.msg)))
    have q2 := rdIdP_fwd hi.tree ((lebB p.ps.length ++ p.ps.flatten) ++ (lebB p.msg.length ++ p.msg))
    have q3 := rdNum_fwd (most := 4) (n := p.ps.length) (h.pl h3) (by decide) (p.ps.flatten ++ (lebB p.msg.length ++ p.msg))
    have q4 := rdSevP_fwd (f := rdIdP) (enc := fun x => x) (lebB p.msg.length ++ p.msg) p.ps (fun x hx t => rdIdP_fwd (hi.ps x hx) t)
    rw [flatMap_id] at q4
    have q5 : rdBy 200 ((lebB p.msg.length ++ p.msg) ++ []) false = (p.msg, [], false) := rdBy_fwd (most := 200) (h.msg (.inl h3)) (by decide) []
    rw [hz] at q5
    have hq : bodyR 3 (p.tree ++ ((lebB p.ps.length ++ p.ps.flatten) ++ (lebB p.msg.length ++ p.msg))) false = (p, [], false) := by
      unfold bodyR
      rw [if_neg (by decide), if_neg (by decide), if_pos rfl]
      dsimp only
      rw [q2]
      dsimp only
      rw [List.append_assoc (lebB p.ps.length), q3]
      dsimp only
      rw [q4]
      dsimp only
      rw [q5]
      dsimp only
      rw [← o1, ← ho]
    unfold parseP
    rw [e1]
    dsimp only
    rw [q1]
    dsimp only
    rw [hq, if_neg (by decide)]
    exact if_pos ⟨rfl, rfl, hb⟩
  · have e1 : encP p = lebB 4 ++ (lebB p.tg.kd.toNat ++ (p.tg.id ++ (lebB p.msg.length ++ p.msg))) := by unfold encP; rw [if_neg (by omega), if_neg (by omega), if_neg (by omega)]
    have o1 : onlyK p = ⟨4, [], [], zeroID, [], p.tg, p.msg⟩ := by unfold onlyK; rw [if_neg (by omega), if_neg (by omega), if_neg (by omega), if_pos h4]
    have hk := h.tg h4
    have q1 := rdNum_fwd (most := 4) (n := 4) (by decide) (by decide) (lebB p.tg.kd.toNat ++ (p.tg.id ++ (lebB p.msg.length ++ p.msg)))
    have q2 := rdNum_fwd (most := 4) (n := p.tg.kd.toNat) (by omega) (by decide) (p.tg.id ++ (lebB p.msg.length ++ p.msg))
    have q3 := rdIdP_fwd p.tg.h (lebB p.msg.length ++ p.msg)
    have q5 : rdBy 200 ((lebB p.msg.length ++ p.msg) ++ []) false = (p.msg, [], false) := rdBy_fwd (most := 200) (h.msg (.inr h4)) (by decide) []
    rw [hz] at q5
    have hkd : ((p.tg.kd.toNat : Nat) : Int) = p.tg.kd := by omega
    have hq : bodyR 4 (lebB p.tg.kd.toNat ++ (p.tg.id ++ (lebB p.msg.length ++ p.msg))) false = (p, [], false) := by
      unfold bodyR
      rw [if_neg (by decide), if_neg (by decide), if_neg (by decide)]
      simp only [q2, q3, q5, hkd]
      show ((⟨4, [], [], zeroID, [], p.tg, p.msg⟩ : Pl), ([] : List UInt8), false) = _
      rw [← o1, ← ho]
    unfold parseP
    rw [e1]
    dsimp only
    rw [q1]
    dsimp only
    rw [hq, if_neg (by decide)]
    exact if_pos ⟨rfl, rfl, hb⟩
theorem enc_parse {xs : List UInt8} {p : Pl} (h : parseP xs = some p) : xs = encP p ∧ bodyB p = true ∧ p = onlyK p ∧ IdsP p := by
  unfold parseP at h
  dsimp only at h
  generalize hk : rdNum 4 xs false = k at *
  obtain ⟨k, r0, b0⟩ := k
  dsimp only at h
  by_cases h0 : k = 0
  · rw [if_pos h0] at h; cases h
  rw [if_neg h0] at h
  split at h
  case isFalse => cases h
  case isTrue hc =>
    obtain ⟨c1, c2, c3⟩ := hc
    injection h with h
    subst h
    refine (fun (q : xs = encP (bodyR k r0 b0).1 ∧ (bodyR k r0 b0).1 = onlyK (bodyR k r0 b0).1 ∧ IdsP (bodyR k r0 b0).1) => ⟨q.1, c3, q.2.1, q.2.2⟩) ?_
    clear c3
    have hz : ∀ (xs : List UInt8), xs ++ [] = xs := List.append_nil
    unfold bodyR at c1 c2 ⊢
    by_cases k1 : k = 1
    · subst k1
      rw [if_pos rfl] at c1 c2 ⊢
      dsimp only at c1 c2 ⊢
      generalize hr : rdBy 1024 r0 b0 = r at *
      obtain ⟨d, r1, b1⟩ := r
      dsimp only at c1 c2 ⊢
      subst c1 c2
      obtain ⟨rfl, hr0, _⟩ := rdBy_bwd (most := 1024) hr
      obtain ⟨_, hxs, _⟩ := rdNum_bwd hk
      rw [hz] at hr0
      refine ⟨?_, rfl, ⟨rfl, by simp⟩⟩
      unfold encP
      rw [if_pos rfl, hxs, hr0]
    rw [if_neg k1] at c1 c2 ⊢
    by_cases k2 : k = 2
    · subst k2
      rw [if_pos rfl] at c1 c2 ⊢
      dsimp only at c1 c2 ⊢
      generalize hn : rdNum 32 r0 b0 = n at *
      obtain ⟨n, r1, b1⟩ := n
      dsimp only at c1 c2 ⊢
      generalize hr : rdSevP rdEnP n r1 b1 = r at *
      obtain ⟨es, r2, b2⟩ := r
      dsimp only at c1 c2 ⊢
      subst c1 c2
      obtain ⟨rfl, hr1, hl, _⟩ := rdSevP_bwd (f := rdEnP) (enc := encEnB) (Q := fun x => x.nm.length ≤ 64 ∧ 0 ≤ x.kd ∧ x.kd ≤ 4) (fun _ _ _ _ h => rdEnP_bwd h) _ _ _ _ _ hr
      obtain ⟨rfl, hr0, _⟩ := rdNum_bwd hn
      obtain ⟨_, hxs, _⟩ := rdNum_bwd hk
      rw [hz] at hr1
      refine ⟨?_, rfl, ⟨rfl, by simp⟩⟩
      unfold encP
      rw [if_neg (by show ¬ (2 : Int) = 1; decide), if_pos rfl, hxs, hr0, hr1, hl]
    rw [if_neg k2] at c1 c2 ⊢
    by_cases k3 : k = 3
    · subst k3
      rw [if_pos rfl] at c1 c2 ⊢
      dsimp only at c1 c2 ⊢
      generalize ht : rdIdP r0 b0 = t at *
      obtain ⟨t, r1, b1⟩ := t
      dsimp only at c1 c2 ⊢
      generalize hn : rdNum 4 r1 b1 = n at *
      obtain ⟨n, r2, b2⟩ := n
      dsimp only at c1 c2 ⊢
      generalize hr : rdSevP rdIdP n r2 b2 = r at *
      obtain ⟨ps, r3, b3⟩ := r
      dsimp only at c1 c2 ⊢
      generalize hm : rdBy 200 r3 b3 = m at *
      obtain ⟨m, r4, b4⟩ := m
      dsimp only at c1 c2 ⊢
      subst c1 c2
      obtain ⟨rfl, hr3, _⟩ := rdBy_bwd (most := 200) hm
      obtain ⟨rfl, hr2, hl, hall⟩ := rdSevP_bwd (f := rdIdP) (enc := fun x => x) (Q := fun x => x.length = 32) (fun _ _ _ _ h => rdIdP_bwd h) _ _ _ _ _ hr
      obtain ⟨rfl, hr1, _⟩ := rdNum_bwd hn
      obtain ⟨rfl, hr0, ht32⟩ := rdIdP_bwd ht
      obtain ⟨_, hxs, _⟩ := rdNum_bwd hk
      rw [hz] at hr3
      rw [flatMap_id] at hr2
      refine ⟨?_, rfl, ⟨ht32, hall⟩⟩
      unfold encP
      rw [if_neg (by show ¬ (3 : Int) = 1; decide), if_neg (by show ¬ (3 : Int) = 2; decide), if_pos rfl, hxs, hr0, hr1, hr2, hr3, hl]
      simp only [List.append_assoc]
    rw [if_neg k3] at c1 c2 ⊢
    obtain ⟨_, hxs, hk4⟩ := rdNum_bwd (b := false) (n := k) (rest := r0) (most := 4) (xs := xs) (by
      have hb0 : b0 = false := by
        dsimp only at c1
        have e1 := (rdBy_bwd (most := 200) (ys := (rdBy 200 (rdIdP (rdNum 4 r0 b0).2.1 (rdNum 4 r0 b0).2.2).2.1 (rdIdP (rdNum 4 r0 b0).2.1 (rdNum 4 r0 b0).2.2).2.2).1) (rest := (rdBy 200 (rdIdP (rdNum 4 r0 b0).2.1 (rdNum 4 r0 b0).2.2).2.1 (rdIdP (rdNum 4 r0 b0).2.1 (rdNum 4 r0 b0).2.2).2.2).2.1) (by rw [← c1]; rfl)).1
        have e2 := (rdIdP_bwd (id := (rdIdP (rdNum 4 r0 b0).2.1 (rdNum 4 r0 b0).2.2).1) (rest := (rdIdP (rdNum 4 r0 b0).2.1 (rdNum 4 r0 b0).2.2).2.1) (by rw [← e1])).1
        exact (rdNum_bwd (n := (rdNum 4 r0 b0).1) (rest := (rdNum 4 r0 b0).2.1) (by rw [← e2])).1
      rw [hb0] at hk
      exact hk)
    have k4 : k = 4 := by omega
    subst k4
    dsimp only at c1 c2 ⊢
    obtain ⟨t, r1, b1, ht⟩ : ∃ t r1 b1, rdNum 4 r0 b0 = (t, r1, b1) := ⟨_, _, _, rfl⟩
    simp only [ht] at c1 c2 ⊢
    obtain ⟨m, r4, b4, hm⟩ : ∃ m r4 b4, rdBy 200 (rdIdP r1 b1).2.1 (rdIdP r1 b1).2.2 = (m, r4, b4) := ⟨_, _, _, rfl⟩
    simp only [hm] at c1 c2 ⊢
    subst c1 c2
    obtain ⟨e1, hr3, _⟩ := rdBy_bwd (most := 200) hm
    obtain ⟨rfl, hr1, _⟩ := rdIdP_bwd (xs := r1) (b := b1) (id := (rdIdP r1 b1).1) (rest := (rdIdP r1 b1).2.1) (by rw [← e1])
    obtain ⟨rfl, hr0, _⟩ := rdNum_bwd ht
    rw [hz] at hr3
    refine ⟨?_, rfl, ⟨rfl, by simp⟩⟩
    unfold encP
    rw [if_neg (by show ¬ (4 : Int) = 1; decide), if_neg (by show ¬ (4 : Int) = 2; decide), if_neg (by show ¬ (4 : Int) = 3; decide)]
    dsimp only
    rw [Int.toNat_natCast, ← hr3, ← hr1]
    exact hxs.trans (congrArg (lebB 4 ++ ·) hr0)
theorem enc_length {p : Pl} (h : FineP p) (hi : IdsP p) : (encP p).length ≤ 4000 := by
  have l1 : ∀ n, n < 128 → (lebB n).length ≤ 1 := fun n hn => lebB_le 0 n (by simpa using hn)
  have l2 : ∀ n, n < 16384 → (lebB n).length ≤ 2 := fun n hn => lebB_le 1 n (by simpa using hn)
  rcases h.kd with h1 | h2 | h3 | h4
  · have e1 : encP p = lebB 1 ++ (lebB p.d.length ++ p.d) := by unfold encP; rw [if_pos h1]
    have := h.d h1
    have := l1 1 (by decide)
    have := l2 p.d.length (by omega)
    rw [e1]; simp; omega
  · have e1 : encP p = lebB 2 ++ (lebB p.es.length ++ p.es.flatMap encEnB) := by unfold encP; rw [if_neg (by omega), if_pos h2]
    have hl := h.el h2
    have : ∀ (l : List En), (∀ x ∈ l, (x.kd = 1 ∨ x.kd = 2) ∧ x.nm.length ≤ 64) → (l.flatMap encEnB).length ≤ l.length * 98 := by
      intro l
      induction l with
      | nil => intro _; simp
      | cons x l ih =>
        intro hx
        have h1 := ih (fun y hy => hx y (List.mem_cons_of_mem _ hy))
        have h2 := hx x (List.mem_cons_self ..)
        have h3 := l1 x.nm.length (by omega)
        have h4 := l1 x.kd.toNat (by omega)
        have h5 := x.h
        have h6 : (encEnB x).length ≤ 98 := by
          unfold encEnB
          simp only [List.length_append]
          omega
        rw [List.flatMap_cons, List.length_append, List.length_cons]
        omega
    have := this p.es (h.es h2)
    have := l1 2 (by decide)
    have := l1 p.es.length (by omega)
    rw [e1]; simp only [List.length_append]; omega
  · have e1 : encP p = lebB 3 ++ (p.tree ++ ((lebB p.ps.length ++ p.ps.flatten) ++ (lebB p.msg.length ++ p.msg))) := by unfold encP; rw [if_neg (by omega), if_neg (by omega), if_pos h3]
    have hpl := h.pl h3
    have : ∀ (l : List (List UInt8)), (∀ x ∈ l, x.length = 32) → l.flatten.length = l.length * 32 := by
      intro l
      induction l with
      | nil => intro _; simp
      | cons x l ih =>
        intro hx
        have h1 := ih (fun y hy => hx y (List.mem_cons_of_mem _ hy))
        have h2 := hx x (List.mem_cons_self ..)
        rw [List.flatten_cons, List.length_append, List.length_cons]
        omega
    have := this p.ps hi.ps
    have := l1 3 (by decide)
    have := l1 p.ps.length (by omega)
    have hm := h.msg (.inl h3)
    have := l2 p.msg.length (by omega)
    have := hi.tree
    rw [e1]; simp only [List.length_append]; omega
  · have e1 : encP p = lebB 4 ++ (lebB p.tg.kd.toNat ++ (p.tg.id ++ (lebB p.msg.length ++ p.msg))) := by unfold encP; rw [if_neg (by omega), if_neg (by omega), if_neg (by omega)]
    have hm := h.msg (.inr h4)
    have ht := h.tg h4
    have := l1 4 (by decide)
    have := l1 p.tg.kd.toNat (by omega)
    have := l2 p.msg.length (by omega)
    have := p.tg.h
    rw [e1]; simp only [List.length_append]; omega
theorem mayB_body {p : Pl} (h : mayB p = true) : bodyB p = true ∧ p = onlyK p := by
  unfold mayB at h
  simp only [Bool.and_eq_true, decide_eq_true_eq] at h
  exact h
theorem bodyB_fine {p : Pl} (h : bodyB p = true) : FineP p := by
  have hkd : p.kd = 1 ∨ p.kd = 2 ∨ p.kd = 3 ∨ p.kd = 4 := by
    by_cases h1 : p.kd = 1
    · exact .inl h1
    by_cases h2 : p.kd = 2
    · exact .inr (.inl h2)
    by_cases h3 : p.kd = 3
    · exact .inr (.inr (.inl h3))
    by_cases h4 : p.kd = 4
    · exact .inr (.inr (.inr h4))
    · unfold bodyB at h
      rw [if_neg h1, if_neg h2, if_neg h3, if_neg h4] at h
      cases h
  have htree : p.kd = 2 → treeB p.es = true := fun h2 => by
    unfold bodyB at h
    rwa [if_neg (by omega), if_pos h2] at h
  have hcom : p.kd = 3 → commitB p.ps p.msg = true := fun h3 => by
    unfold bodyB at h
    rwa [if_neg (by omega), if_neg (by omega), if_pos h3] at h
  have htag : p.kd = 4 → tagB p.tg.kd p.msg = true := fun h4 => by
    unfold bodyB at h
    rwa [if_neg (by omega), if_neg (by omega), if_neg (by omega), if_pos h4] at h
  refine ⟨hkd, fun h1 => ?_, fun h2 => ?_, fun h2 x hx => ?_, fun h3 => ?_, fun h4 => ?_, fun h34 => ?_⟩
  · unfold bodyB at h
    rw [if_pos h1] at h
    exact of_decide_eq_true h
  · have ht := htree h2
    unfold treeB at ht
    simp only [Bool.and_eq_true, decide_eq_true_eq] at ht
    exact ht.1
  · have ht := htree h2
    unfold treeB at ht
    simp only [Bool.and_eq_true, List.all_eq_true, List.mem_range] at ht
    obtain ⟨i, hi, rfl⟩ := List.mem_iff_getElem.1 hx
    have := ht.2 i hi
    unfold entryAt at this
    rw [List.getElem?_eq_getElem hi] at this
    simp only [Bool.and_eq_true] at this
    have he := this.1
    unfold entryB nameB at he
    simp only [Bool.and_eq_true, Bool.or_eq_true, decide_eq_true_eq] at he
    exact ⟨he.1, he.2.2.1⟩
  · have hc := hcom h3
    unfold commitB parentsB at hc
    simp only [Bool.and_eq_true, decide_eq_true_eq] at hc
    exact hc.1.1
  · have hc := htag h4
    unfold tagB at hc
    simp only [Bool.and_eq_true, decide_eq_true_eq] at hc
    exact hc.1
  · rcases h34 with h3 | h4
    · have hc := hcom h3
      unfold commitB at hc
      simp only [Bool.and_eq_true, decide_eq_true_eq] at hc
      exact hc.2
    · have hc := htag h4
      unfold tagB at hc
      simp only [Bool.and_eq_true, decide_eq_true_eq] at hc
      exact hc.2
theorem ObIs.ids {W : World} {o : Ob} {p : Pl} (h : ObIs W o p) : IdsP p := ⟨h.tree ▸ o.h, h.ps.1⟩
/-- Bytes that are an object's, of two objects that may be, are the same just if they are. -/
theorem enc_inj {p q : Pl} (hp : mayB p = true) (hq : mayB q = true) (ip : IdsP p) (iq : IdsP q) : encP p = encP q ↔ p = q := by
  constructor
  · intro h
    have h1 := parse_enc (bodyB_fine (mayB_body hp).1) ip (mayB_body hp).1 (mayB_body hp).2
    have h2 := parse_enc (bodyB_fine (mayB_body hq).1) iq (mayB_body hq).1 (mayB_body hq).2
    rw [h, h2] at h1
    injection h1 with h1
    exact h1.symm
  · rintro rfl
    rfl
end Go.Proofs.YtljihmbmjpcfaaaGreat
