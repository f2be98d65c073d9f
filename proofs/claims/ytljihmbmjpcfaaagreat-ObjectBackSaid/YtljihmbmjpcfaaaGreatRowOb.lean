/- From the row's reading of an object to what the walks are told. -/
import Derived.Test.YtljihmbmjpcfaaaGreatRowElem
import Derived.Test.YtljihmbmjpcfaaaGreatRowIds
import Derived.Test.YtljihmbmjpcfaaaGreatObLinks
namespace Go.Proofs.YtljihmbmjpcfaaaGreat
open Go.ChangeShapes Go.WideShapes Go.ChangeAt Go.RowKit
set_option maxRecDepth 100000

theorem cellsEntry : Tryz.prog.cellsOf 70 = 34 := by kernel_rfl
theorem cellsLink : Tryz.prog.cellsOf 28 = 33 := by kernel_rfl
theorem cellsObject : Tryz.prog.cellsOf 30 = 70 := by kernel_rfl
theorem cellsIntO : Tryz.prog.cellsOf 3 = 1 := by kernel_rfl
theorem cellsStrO : Tryz.prog.cellsOf 9 = 1 := by kernel_rfl
theorem cellsBytesO : Tryz.prog.cellsOf 22 = 1 := by kernel_rfl
theorem cellsEntriesO : Tryz.prog.cellsOf 23 = 1 := by kernel_rfl
theorem cellsIDsO : Tryz.prog.cellsOf 26 = 1 := by kernel_rfl
theorem part_split {α : Type} (cs : List α) (a b : Nat) : cs.drop a = (cs.drop a).take b ++ cs.drop (a + b) := by
  rw [← List.drop_drop, List.take_append_drop]
section
variable {H : Type} {enc : TypeId × Value → H}
theorem one_cell {cs : List Value} {a : Nat} (h : a < cs.length) : ∃ v, (cs.drop a).take 1 = [v] := by
  refine ⟨cs[a], ?_⟩
  rw [List.drop_eq_getElem_cons h]
  rfl
theorem lk_of_trod {W : World} {base : Nat} {spare : Nat → Bool} {held : Bool} {fuel : Nat} {cs : List Value} {x : DataW H × List MemPlace} (h : DataW.trod enc Tryz.prog W base spare held fuel 28 cs = some x) :
    ∃ e : Lk, cs = encL e := by
  obtain ⟨xs, n, _, rfl, hcl, hxl, hf⟩ := DataW.trod_struct Tryz.underlying28 h
  rw [cellsLink] at hcl
  replace hxl : xs.length = 2 := hxl
  match xs, hxl with
  | [x0, x1], _ =>
  have f0 : DataW.trod enc Tryz.prog W base spare held n 3 ((cs.drop 0).take (Tryz.prog.cellsOf 3)) = some x0 := hf 0 _ rfl
  have f1 : DataW.trod enc Tryz.prog W base spare held n 25 ((cs.drop 1).take (Tryz.prog.cellsOf 25)) = some x1 := hf 1 _ rfl
  rw [cellsIntO] at f0
  rw [cellsID] at f1
  obtain ⟨k, e0, _, _⟩ := DataW.trod_int Tryz.underlying3 f0
  obtain ⟨ys, h32, e1⟩ := id_of_trod f1
  refine ⟨⟨k, ys, h32⟩, ?_⟩
  have h0 := part_split cs 0 1
  have h1 := part_split cs 1 32
  rw [e0] at h0
  rw [e1, List.drop_eq_nil_of_le (show cs.length ≤ 1 + 32 by omega), List.append_nil] at h1
  rw [List.drop_zero, Nat.zero_add, h1] at h0
  exact h0
theorem en_of_trod {W : World} {base : Nat} {spare : Nat → Bool} {held : Bool} {fuel : Nat} {cs : List Value} {x : DataW H × List MemPlace} (h : DataW.trod enc Tryz.prog W base spare held fuel 70 cs = some x) :
    ∃ e : En, cs = encE e := by
  obtain ⟨xs, n, _, rfl, hcl, hxl, hf⟩ := DataW.trod_struct Tryz.underlying70 h
  rw [cellsEntry] at hcl
  replace hxl : xs.length = 3 := hxl
  match xs, hxl with
  | [x0, x1, x2], _ =>
  have f0 : DataW.trod enc Tryz.prog W base spare held n 9 ((cs.drop 0).take (Tryz.prog.cellsOf 9)) = some x0 := hf 0 _ rfl
  have f1 : DataW.trod enc Tryz.prog W base spare held n 3 ((cs.drop 1).take (Tryz.prog.cellsOf 3)) = some x1 := hf 1 _ rfl
  have f2 : DataW.trod enc Tryz.prog W base spare held n 25 ((cs.drop 2).take (Tryz.prog.cellsOf 25)) = some x2 := hf 2 _ rfl
  rw [cellsStrO] at f0
  rw [cellsIntO] at f1
  rw [cellsID] at f2
  obtain ⟨⟨⟨nm⟩⟩, e0, _, _⟩ := DataW.trod_string Tryz.underlying9 f0
  obtain ⟨k, e1, _, _⟩ := DataW.trod_int Tryz.underlying3 f1
  obtain ⟨ys, h32, e2⟩ := id_of_trod f2
  refine ⟨⟨nm, k, ys, h32⟩, ?_⟩
  have h0 := part_split cs 0 1
  have h1 := part_split cs 1 1
  have h2 := part_split cs 2 32
  rw [e0] at h0
  rw [e1] at h1
  rw [e2, List.drop_eq_nil_of_le (show cs.length ≤ 2 + 32 by omega), List.append_nil] at h2
  rw [List.drop_zero, Nat.zero_add, h1, h2] at h0
  exact h0
/-- An object that is read. -/
theorem ob_of_trod {W : World} {base : Nat} {spare : Nat → Bool} {held : Bool} {fuel : Nat} {cs : List Value} {x : DataW H × List MemPlace} (h : DataW.trod enc Tryz.prog W base spare held fuel 30 cs = some x) :
    ∃ (o : Ob) (p : Pl), cs = encO o ∧ ObIs W o p := by
  obtain ⟨xs, n, _, rfl, hcl, hxl, hf⟩ := DataW.trod_struct Tryz.underlying30 h
  rw [cellsObject] at hcl
  replace hxl : xs.length = 7 := hxl
  match xs, hxl with
  | [x0, x1, x2, x3, x4, x5, x6], _ =>
  have f0 : DataW.trod enc Tryz.prog W base spare held n 3 ((cs.drop 0).take (Tryz.prog.cellsOf 3)) = some x0 := hf 0 _ rfl
  have f1 : DataW.trod enc Tryz.prog W base spare held n 22 ((cs.drop 1).take (Tryz.prog.cellsOf 22)) = some x1 := hf 1 _ rfl
  have f2 : DataW.trod enc Tryz.prog W base spare held n 23 ((cs.drop 2).take (Tryz.prog.cellsOf 23)) = some x2 := hf 2 _ rfl
  have f3 : DataW.trod enc Tryz.prog W base spare held n 25 ((cs.drop 3).take (Tryz.prog.cellsOf 25)) = some x3 := hf 3 _ rfl
  have f4 : DataW.trod enc Tryz.prog W base spare held n 26 ((cs.drop 35).take (Tryz.prog.cellsOf 26)) = some x4 := hf 4 _ rfl
  have f5 : DataW.trod enc Tryz.prog W base spare held n 28 ((cs.drop 36).take (Tryz.prog.cellsOf 28)) = some x5 := hf 5 _ rfl
  have f6 : DataW.trod enc Tryz.prog W base spare held n 9 ((cs.drop 69).take (Tryz.prog.cellsOf 9)) = some x6 := hf 6 _ rfl
  rw [cellsIntO] at f0
  rw [cellsBytesO] at f1
  rw [cellsEntriesO] at f2
  rw [cellsID] at f3
  rw [cellsIDsO] at f4
  rw [cellsLink] at f5
  rw [cellsStrO] at f6
  obtain ⟨v1, e1⟩ := one_cell (cs := cs) (a := 1) (by omega)
  obtain ⟨v2, e2⟩ := one_cell (cs := cs) (a := 2) (by omega)
  obtain ⟨v4, e4⟩ := one_cell (cs := cs) (a := 35) (by omega)
  rw [e1] at f1
  rw [e2] at f2
  rw [e4] at f4
  obtain ⟨k, e0, _, _⟩ := DataW.trod_int Tryz.underlying3 f0
  obtain ⟨d, hd, _⟩ := bs_of_trod f1
  haveI : Inhabited En := ⟨zeroEn⟩
  obtain ⟨es, hes, _⟩ := es_of_trod (E := eEn) Tryz.underlying23 cellsEntry (fun _ _ _ ht => by obtain ⟨y, he⟩ := en_of_trod ht; exact ⟨y, he⟩) f2
  obtain ⟨tree, h32, e3⟩ := id_of_trod f3
  obtain ⟨ps, hps, _⟩ := ids_of_trod f4
  obtain ⟨tg, e5⟩ := lk_of_trod f5
  obtain ⟨⟨⟨msg⟩⟩, e6, _, _⟩ := DataW.trod_string Tryz.underlying9 f6
  obtain ⟨A1, c1, rfl, _⟩ := hd.form
  obtain ⟨A2, c2, rfl, _⟩ := hes.form
  obtain ⟨A4, c4, rfl, _⟩ := hps.form
  refine ⟨⟨k, ⟨A1, _, c1⟩, ⟨A2, _, c2⟩, tree, ⟨A4, _, c4⟩, tg, msg, h32⟩, ⟨k, d, es, tree, ps, tg, msg⟩, ?_, rfl, hd, hes, rfl, hps, rfl, rfl⟩
  have g0 := part_split cs 0 1
  have g1 := part_split cs 1 1
  have g2 := part_split cs 2 1
  have g3 := part_split cs 3 32
  have g4 := part_split cs 35 1
  have g5 := part_split cs 36 33
  have g6 := part_split cs 69 1
  rw [e0] at g0
  rw [e1] at g1
  rw [e2] at g2
  rw [e3] at g3
  rw [e4] at g4
  rw [e5] at g5
  rw [e6, List.drop_eq_nil_of_le (show cs.length ≤ 69 + 1 by omega), List.append_nil] at g6
  rw [List.drop_zero, Nat.zero_add, g1, g2, g3, g4, g5, g6] at g0
  exact g0
/-- An object that is handed over. -/
theorem ob_of_arg {W : World} {base b0 : Nat} {spare : Nat → Bool} {held : Bool} {r : Reach} {v : Value} {d : DataW H} {ps : List MemPlace} (hv : Value.okWide Tryz.prog W r b0 30 v) (h : DataW.Trod enc Tryz.prog W base spare held 30 v d ps) :
    ∃ (o : Ob) (p : Pl), v = ObV o ∧ ObIs W o p := by
  simp only [Value.okWide, Tryz.underlying30] at hv
  obtain ⟨cs, rfl, h2, _⟩ := hv
  obtain ⟨fuel, hf⟩ := h
  obtain ⟨o, p, hcs, hp⟩ := ob_of_trod hf
  refine ⟨o, p, ?_, hp⟩
  simp only [Value.cells] at hcs
  show Value.agg cs = Value.agg (encO o).toArray
  rw [← hcs]
end
end Go.Proofs.YtljihmbmjpcfaaaGreat
