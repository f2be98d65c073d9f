/- From the row's reading of an argument to what the walks are told. From the row's reading of a list of elements to what the walks are told. From the row's reading of an id or a string to what the walks are told. From the row's reading of ids to what the walks are told. From the row's reading of an object to what the walks are told. -/
import Derived.Test.YtljihmbmjpcfaaaGreatRows
import Derived.Test.YtljihmbmjpcfaaaGreatFrame
import Derived.ProofKit
import Derived.OpenShut
import Derived.ShutString
import Derived.ChangeOld
import Derived.Below
import Derived.Test.YtljihmbmjpcfaaaGreatElem
import Derived.Test.YtljihmbmjpcfaaaGreatIdBox
import Derived.Deep.Slices
import Derived.Test.YtljihmbmjpcfaaaGreatLebSrc
namespace Go.Proofs.YtljihmbmjpcfaaaGreat
open Go.ChangeShapes Go.WideShapes Go.ChangeAt Go.RowKit
set_option maxRecDepth 100000

theorem own : ownKnob Tryz.prog.godebug = none := by kernel_rfl
theorem laidOut : laidOutB Tryz.prog = true := by kernel_rfl

section
variable {H : Type} {enc : TypeId × Value → H}

theorem wf_u64 {n : Int} (h : (Lit.int .u64 n).wf = true) : ∃ k : Nat, n = k ∧ k < 18446744073709551616 := by
  have hb := bounds_u64 h
  exact ⟨n.toNat, by omega, by omega⟩
theorem wf_i64 {n : Int} (h : (Lit.int .i64 n).wf = true) : -9223372036854775808 ≤ n ∧ n ≤ 9223372036854775807 := bounds_i64 h

/-- A []byte that is read is a slice that reads as bytes. -/
theorem bs_of_trod {W : World} {base : Nat} {spare : Nat → Bool} {held : Bool} {fuel : Nat} {v : Value} {x : DataW H × List MemPlace} (h : DataW.trod enc Tryz.prog W base spare held fuel 22 [v] = some x) :
    ∃ xs : List UInt8, Bs W v xs ∧ xs.length ≤ maxLen := by
  rcases open_ints Tryz.underlying22 Tryz.underlying5 (by kernel_rfl) h with ⟨hcs, _⟩ | ⟨a, len, cap, zs, hcs, _, hl, hm, hz, _, hcell, hwz⟩
  · simp at hcs
    exact ⟨[], .inl ⟨hcs, rfl⟩, by simp⟩
  · simp at hcs
    subst hcs
    have hlz : len ≤ zs.length := by rw [hz]; split <;> omega
    refine ⟨(zs.take len).map (fun z => UInt8.ofNat z.toNat), .inr ⟨a, cap, by simp [Nat.min_eq_left hlz], by simp; omega, fun i y hy => ?_⟩, by simp; omega⟩
    rw [List.getElem?_map] at hy
    obtain ⟨z, hz1, rfl⟩ := Option.map_eq_some_iff.1 hy
    rw [List.getElem?_take] at hz1
    split at hz1
    · have hi : i < zs.length := by omega
      rw [List.getElem?_eq_getElem hi] at hz1
      cases hz1
      rw [hcell i hi]
      have hb := bounds_u8 (hwz zs[i] (List.getElem_mem hi))
      have e : zs.getD i 0 = zs[i] := by simp [List.getD_eq_getElem?_getD, List.getElem?_eq_getElem hi]
      rw [e]
      congr 2
      rw [UInt8.toNat_ofNat', Nat.mod_eq_of_lt (by omega)]
      omega
    · cases hz1
end
end Go.Proofs.YtljihmbmjpcfaaaGreat
namespace Go.Proofs.YtljihmbmjpcfaaaGreat
open Go.ChangeShapes Go.WideShapes Go.ChangeAt Go.RowKit
set_option maxRecDepth 100000

section
variable {H : Type} {enc : TypeId × Value → H} {α : Type} {E : Elt α} {t ts : TypeId}
/-- A list of elements that is read. -/
theorem es_of_trod [Inhabited α] (hsl : Tryz.prog.underlying ts = some (.slice t)) (hk : Tryz.prog.cellsOf t = E.k) {W : World} {base : Nat} {spare : Nat → Bool} {held : Bool}
    (hone : ∀ (fuel : Nat) (cs : List Value) (x : DataW H × List MemPlace), DataW.trod enc Tryz.prog W base spare held fuel t cs = some x → ∃ y : α, cs = E.enc y)
    {fuel : Nat} {v : Value} {x : DataW H × List MemPlace} (h : DataW.trod enc Tryz.prog W base spare held fuel ts [v] = some x) :
    ∃ l : List α, Es E W v l ∧ l.length ≤ 9223372036854775807 := by
  have hpos := E.pos
  rcases Deep.open_slice hsl h with ⟨hcs, _⟩ | ⟨a, len, cap, m, n, D, Pl, hcs, _, hl, hm, hmm, rfl, hel⟩
  · simp at hcs
    subst hcs
    exact ⟨[], Es.nil W, by simp⟩
  · simp at hcs
    subst hcs
    by_cases h0 : len = 0
    · subst h0
      exact ⟨[], Es.empty W _ _, by simp⟩
    have hlm : len ≤ m := by rw [hmm]; split <;> omega
    have hp : a = ⟨a.block, a.off, none⟩ := by
      obtain ⟨cs, hc, ht⟩ := hel 0 (by omega)
      rw [hk] at hc
      obtain ⟨_, hcl, hcell⟩ := World.cells?_some hc
      have g0 := hcell 0 (by omega)
      rw [List.getElem?_eq_getElem (by omega)] at g0
      have := cell_plain g0
      simpa [Addr.add] using this
    have hall : ∀ i, i < len → ∃ o : α, ElAt E W a.block (a.off + i * E.k) o := fun i hi => by
      obtain ⟨cs, hc, ht⟩ := hel i (by omega)
      rw [hk] at hc
      obtain ⟨_, hcl, hcell⟩ := World.cells?_some hc
      obtain ⟨y, rfl⟩ := hone _ _ _ ht
      refine ⟨y, fun j u hu => ?_⟩
      have hj : j < E.k := by have := (List.getElem?_eq_some_iff.1 hu).1; rw [E.len] at this; exact this
      have g0 := hcell j hj
      rw [Deep.add_add, hu] at g0
      rw [hp] at g0
      simpa [add_plain, Nat.add_assoc] using g0
    obtain ⟨f, hf⟩ := Deep.choose_lt (p := fun i (o : α) => ElAt E W a.block (a.off + i * E.k) o) hall
    refine ⟨(List.range len).map f, ⟨some a, cap, by simp, by simp; omega, fun i o ho => ?_⟩, by unfold maxLen at hm; simp; omega⟩
    rw [List.getElem?_map] at ho
    obtain ⟨j, hj, rfl⟩ := Option.map_eq_some_iff.1 ho
    obtain ⟨hi, rfl⟩ := List.getElem?_eq_some_iff.1 hj
    rw [List.length_range] at hi
    simp only [List.getElem_range]
    exact ⟨a.block, a.off, congrArg some hp, hf i hi⟩
end
end Go.Proofs.YtljihmbmjpcfaaaGreat
namespace Go.Proofs.YtljihmbmjpcfaaaGreat
open Go.ChangeShapes Go.WideShapes Go.ChangeAt Go.RowKit
set_option maxRecDepth 100000

theorem cellsID : Tryz.prog.cellsOf 25 = 32 := by kernel_rfl
theorem cellsU8 : Tryz.prog.cellsOf 5 = 1 := by kernel_rfl

section
variable {H : Type} {enc : TypeId × Value → H}

/-- An id that is read: its 32 cells. -/
theorem id_of_trod {W : World} {base : Nat} {spare : Nat → Bool} {held : Bool} {fuel : Nat} {cs : List Value} {x : DataW H × List MemPlace} (h : DataW.trod enc Tryz.prog W base spare held fuel 25 cs = some x) :
    ∃ xs : List UInt8, xs.length = 32 ∧ cs = xs.map B8 := by
  obtain ⟨ys, m, rfl, rfl, hl, hyl, hel⟩ := DataW.trod_array Tryz.underlying25 h
  rw [cellsID] at hl
  rw [cellsU8] at hel
  have hall : ∀ i, i < 32 → ∃ b : UInt8, cs[i]? = some (B8 b) := fun i hi => by
    have h1 := hel i hi
    rw [List.getElem?_eq_getElem (by omega)] at h1
    obtain ⟨k, hk, _, wk⟩ := DataW.trod_int Tryz.underlying5 h1
    have hb := bounds_u8 wk
    refine ⟨UInt8.ofNat k.toNat, ?_⟩
    have h2 : ((cs.drop (i * 1)).take 1)[0]? = some (.int .u8 k) := by rw [hk]; rfl
    rw [List.getElem?_take, if_pos (by omega), List.getElem?_drop, Nat.mul_one, Nat.add_zero] at h2
    rw [h2]
    unfold B8
    rw [UInt8.toNat_ofNat', Nat.mod_eq_of_lt (by omega)]
    congr 2
    omega
  obtain ⟨f, hf⟩ := Deep.choose_lt (p := fun i (b : UInt8) => cs[i]? = some (B8 b)) hall
  refine ⟨(List.range 32).map f, by simp, ?_⟩
  apply List.ext_getElem?
  intro i
  by_cases hi : i < 32
  · rw [hf i hi]
    simp [hi]
  · rw [List.getElem?_eq_none (by omega), List.getElem?_eq_none (by simp; omega)]
/-- An id that is handed over. -/
theorem id_of_arg {W : World} {base b0 : Nat} {spare : Nat → Bool} {held : Bool} {r : Reach} {v : Value} {d : DataW H} {ps : List MemPlace} (hv : Value.okWide Tryz.prog W r b0 25 v) (h : DataW.Trod enc Tryz.prog W base spare held 25 v d ps) :
    ∃ xs : List UInt8, xs.length = 32 ∧ v = IdV xs := by
  simp only [Value.okWide, Tryz.underlying25] at hv
  obtain ⟨cs, rfl, h2, _⟩ := hv
  obtain ⟨fuel, hf⟩ := h
  obtain ⟨xs, hx, hcs⟩ := id_of_trod hf
  refine ⟨xs, hx, ?_⟩
  simp only [Value.cells] at hcs
  show Value.agg cs = Value.agg (xs.map B8).toArray
  rw [← hcs]

/-- A string that is handed over. -/
theorem str_of_arg {W : World} {base b0 : Nat} {spare : Nat → Bool} {held : Bool} {r : Reach} {v : Value} {d : DataW H} {ps : List MemPlace} (hv : Value.okWide Tryz.prog W r b0 9 v) (h : DataW.Trod enc Tryz.prog W base spare held 9 v d ps) :
    ∃ xs : List UInt8, xs.length ≤ 9223372036854775807 ∧ v = Str xs := by
  obtain ⟨⟨⟨xs⟩⟩, rfl⟩ := okWide_string Tryz.underlying9 hv
  obtain ⟨fuel, hf⟩ := h
  obtain ⟨s', h, -, hs⟩ := DataW.trod_string Tryz.underlying9 hf
  simp only [Value.cells, List.cons.injEq, and_true] at h
  injection h with h
  subst h
  refine ⟨xs, ?_, rfl⟩
  simp only [ByteArray.size, List.size_toArray] at hs
  unfold maxLen at hs
  omega
end
end Go.Proofs.YtljihmbmjpcfaaaGreat
namespace Go.Proofs.YtljihmbmjpcfaaaGreat
open Go.ChangeShapes Go.WideShapes Go.ChangeAt Go.RowKit
set_option maxRecDepth 100000

section
variable {H : Type} {enc : TypeId × Value → H}

/-- A []ID that is read. -/
theorem ids_of_trod {W : World} {base : Nat} {spare : Nat → Bool} {held : Bool} {fuel : Nat} {v : Value} {x : DataW H × List MemPlace} (h : DataW.trod enc Tryz.prog W base spare held fuel 26 [v] = some x) :
    ∃ l : List (List UInt8), Is W v l ∧ l.length ≤ 9223372036854775807 := by
  rcases Deep.open_slice Tryz.underlying26 h with ⟨hcs, _⟩ | ⟨a, len, cap, m, n, D, Pl, hcs, _, hl, hm, hmm, rfl, hel⟩
  · simp at hcs
    subst hcs
    exact ⟨[], Is.nil W, by simp⟩
  · simp at hcs
    subst hcs
    by_cases h0 : len = 0
    · subst h0
      exact ⟨[], Is.empty W _ _, by simp⟩
    have hlm : len ≤ m := by rw [hmm]; split <;> omega
    have hp : a = ⟨a.block, a.off, none⟩ := by
      obtain ⟨cs, hc, ht⟩ := hel 0 (by omega)
      rw [cellsID] at hc
      obtain ⟨_, hcl, hcell⟩ := World.cells?_some hc
      have g0 := hcell 0 (by omega)
      rw [List.getElem?_eq_getElem (by omega)] at g0
      have := cell_plain g0
      simpa [Addr.add] using this
    have hall : ∀ i, i < len → ∃ o : List UInt8, o.length = 32 ∧ IdAt W a.block (a.off + i * 32) o := fun i hi => by
      obtain ⟨cs, hc, ht⟩ := hel i (by omega)
      rw [cellsID] at hc
      obtain ⟨_, hcl, hcell⟩ := World.cells?_some hc
      obtain ⟨xs, hx, rfl⟩ := id_of_trod ht
      refine ⟨xs, hx, fun j u hu => ?_⟩
      have hj : j < 32 := by have := (List.getElem?_eq_some_iff.1 hu).1; simp at this; omega
      have g0 := hcell j hj
      rw [Deep.add_add, hu] at g0
      rw [hp] at g0
      simpa [add_plain, Nat.add_assoc] using g0
    haveI : Inhabited (List UInt8) := ⟨[]⟩
    obtain ⟨f, hf⟩ := Deep.choose_lt (p := fun i (o : List UInt8) => o.length = 32 ∧ IdAt W a.block (a.off + i * 32) o) hall
    refine ⟨(List.range len).map f, ⟨fun x hx => ?_, some a, cap, by simp, by simp; omega, fun i o ho => ?_⟩, by unfold maxLen at hm; simp; omega⟩
    · obtain ⟨j, hj, rfl⟩ := List.mem_map.1 hx
      exact (hf j (List.mem_range.1 hj)).1
    · rw [List.getElem?_map] at ho
      obtain ⟨j, hj, rfl⟩ := Option.map_eq_some_iff.1 ho
      obtain ⟨hi, rfl⟩ := List.getElem?_eq_some_iff.1 hj
      rw [List.length_range] at hi
      simp only [List.getElem_range]
      exact ⟨a.block, a.off, congrArg some hp, (hf i hi).2⟩
end
end Go.Proofs.YtljihmbmjpcfaaaGreat
namespace Go.Proofs.YtljihmbmjpcfaaaGreat
open Go.ChangeShapes Go.WideShapes Go.ChangeAt Go.RowKit
set_option maxRecDepth 100000

theorem cellsEntry : Tryz.prog.cellsOf 70 = 34 := by kernel_rfl
theorem cellsLink : Tryz.prog.cellsOf 28 = 33 := by kernel_rfl
theorem cellsObject : Tryz.prog.cellsOf 30 = 70 := by kernel_rfl
theorem cellsIntO : Tryz.prog.cellsOf 3 = 1 := by kernel_rfl
theorem cellsStrO : Tryz.prog.cellsOf 9 = 1 := by kernel_rfl
theorem cellsBytesO : Tryz.prog.cellsOf 22 = 1 := by kernel_rfl
theorem cellsEntriesO : Tryz.prog.cellsOf 23 = 1 := by kernel_rfl
theorem cellsIDsO : Tryz.prog.cellsOf 26 = 1 := by kernel_rfl
theorem part_split {α : Type} (cs : List α) (a b : Nat) : cs.drop a = (cs.drop a).take b ++ cs.drop (a + b) := by
  rw [← List.drop_drop, List.take_append_drop]
section
variable {H : Type} {enc : TypeId × Value → H}
theorem one_cell {cs : List Value} {a : Nat} (h : a < cs.length) : ∃ v, (cs.drop a).take 1 = [v] := by
  refine ⟨cs[a], ?_⟩
  rw [List.drop_eq_getElem_cons h]
  rfl
theorem lk_of_trod {W : World} {base : Nat} {spare : Nat → Bool} {held : Bool} {fuel : Nat} {cs : List Value} {x : DataW H × List MemPlace} (h : DataW.trod enc Tryz.prog W base spare held fuel 28 cs = some x) :
    ∃ e : Lk, cs = encL e := by
  obtain ⟨xs, n, _, rfl, hcl, hxl, hf⟩ := DataW.trod_struct Tryz.underlying28 h
  rw [cellsLink] at hcl
  replace hxl : xs.length = 2 := hxl
  match xs, hxl with
  | [x0, x1], _ =>
  have f0 : DataW.trod enc Tryz.prog W base spare held n 3 ((cs.drop 0).take (Tryz.prog.cellsOf 3)) = some x0 := hf 0 _ rfl
  have f1 : DataW.trod enc Tryz.prog W base spare held n 25 ((cs.drop 1).take (Tryz.prog.cellsOf 25)) = some x1 := hf 1 _ rfl
  rw [cellsIntO] at f0
  rw [cellsID] at f1
  obtain ⟨k, e0, _, _⟩ := DataW.trod_int Tryz.underlying3 f0
  obtain ⟨ys, h32, e1⟩ := id_of_trod f1
  refine ⟨⟨k, ys, h32⟩, ?_⟩
  have h0 := part_split cs 0 1
  have h1 := part_split cs 1 32
  rw [e0] at h0
  rw [e1, List.drop_eq_nil_of_le (show cs.length ≤ 1 + 32 by omega), List.append_nil] at h1
  rw [List.drop_zero, Nat.zero_add, h1] at h0
  exact h0
theorem en_of_trod {W : World} {base : Nat} {spare : Nat → Bool} {held : Bool} {fuel : Nat} {cs : List Value} {x : DataW H × List MemPlace} (h : DataW.trod enc Tryz.prog W base spare held fuel 70 cs = some x) :
    ∃ e : En, cs = encE e := by
  obtain ⟨xs, n, _, rfl, hcl, hxl, hf⟩ := DataW.trod_struct Tryz.underlying70 h
  rw [cellsEntry] at hcl
  replace hxl : xs.length = 3 := hxl
  match xs, hxl with
  | [x0, x1, x2], _ =>
  have f0 : DataW.trod enc Tryz.prog W base spare held n 9 ((cs.drop 0).take (Tryz.prog.cellsOf 9)) = some x0 := hf 0 _ rfl
  have f1 : DataW.trod enc Tryz.prog W base spare held n 3 ((cs.drop 1).take (Tryz.prog.cellsOf 3)) = some x1 := hf 1 _ rfl
  have f2 : DataW.trod enc Tryz.prog W base spare held n 25 ((cs.drop 2).take (Tryz.prog.cellsOf 25)) = some x2 := hf 2 _ rfl
  rw [cellsStrO] at f0
  rw [cellsIntO] at f1
  rw [cellsID] at f2
  obtain ⟨⟨⟨nm⟩⟩, e0, _, _⟩ := DataW.trod_string Tryz.underlying9 f0
  obtain ⟨k, e1, _, _⟩ := DataW.trod_int Tryz.underlying3 f1
  obtain ⟨ys, h32, e2⟩ := id_of_trod f2
  refine ⟨⟨nm, k, ys, h32⟩, ?_⟩
  have h0 := part_split cs 0 1
  have h1 := part_split cs 1 1
  have h2 := part_split cs 2 32
  rw [e0] at h0
  rw [e1] at h1
  rw [e2, List.drop_eq_nil_of_le (show cs.length ≤ 2 + 32 by omega), List.append_nil] at h2
  rw [List.drop_zero, Nat.zero_add, h1, h2] at h0
  exact h0
/-- An object that is read. -/
theorem ob_of_trod {W : World} {base : Nat} {spare : Nat → Bool} {held : Bool} {fuel : Nat} {cs : List Value} {x : DataW H × List MemPlace} (h : DataW.trod enc Tryz.prog W base spare held fuel 30 cs = some x) :
    ∃ (o : Ob) (p : Pl), cs = encO o ∧ ObIs W o p := by
  obtain ⟨xs, n, _, rfl, hcl, hxl, hf⟩ := DataW.trod_struct Tryz.underlying30 h
  rw [cellsObject] at hcl
  replace hxl : xs.length = 7 := hxl
  match xs, hxl with
  | [x0, x1, x2, x3, x4, x5, x6], _ =>
  have f0 : DataW.trod enc Tryz.prog W base spare held n 3 ((cs.drop 0).take (Tryz.prog.cellsOf 3)) = some x0 := hf 0 _ rfl
  have f1 : DataW.trod enc Tryz.prog W base spare held n 22 ((cs.drop 1).take (Tryz.prog.cellsOf 22)) = some x1 := hf 1 _ rfl
  have f2 : DataW.trod enc Tryz.prog W base spare held n 23 ((cs.drop 2).take (Tryz.prog.cellsOf 23)) = some x2 := hf 2 _ rfl
  have f3 : DataW.trod enc Tryz.prog W base spare held n 25 ((cs.drop 3).take (Tryz.prog.cellsOf 25)) = some x3 := hf 3 _ rfl
  have f4 : DataW.trod enc Tryz.prog W base spare held n 26 ((cs.drop 35).take (Tryz.prog.cellsOf 26)) = some x4 := hf 4 _ rfl
  have f5 : DataW.trod enc Tryz.prog W base spare held n 28 ((cs.drop 36).take (Tryz.prog.cellsOf 28)) = some x5 := hf 5 _ rfl
  have f6 : DataW.trod enc Tryz.prog W base spare held n 9 ((cs.drop 69).take (Tryz.prog.cellsOf 9)) = some x6 := hf 6 _ rfl
  rw [cellsIntO] at f0
  rw [cellsBytesO] at f1
  rw [cellsEntriesO] at f2
  rw [cellsID] at f3
  rw [cellsIDsO] at f4
  rw [cellsLink] at f5
  rw [cellsStrO] at f6
  obtain ⟨v1, e1⟩ := one_cell (cs := cs) (a := 1) (by omega)
  obtain ⟨v2, e2⟩ := one_cell (cs := cs) (a := 2) (by omega)
  obtain ⟨v4, e4⟩ := one_cell (cs := cs) (a := 35) (by omega)
  rw [e1] at f1
  rw [e2] at f2
  rw [e4] at f4
  obtain ⟨k, e0, _, _⟩ := DataW.trod_int Tryz.underlying3 f0
  obtain ⟨d, hd, _⟩ := bs_of_trod f1
  haveI : Inhabited En := ⟨zeroEn⟩
  obtain ⟨es, hes, _⟩ := es_of_trod (E := eEn) Tryz.underlying23 cellsEntry (fun _ _ _ ht => by obtain ⟨y, he⟩ := en_of_trod ht; exact ⟨y, he⟩) f2
  obtain ⟨tree, h32, e3⟩ := id_of_trod f3
  obtain ⟨ps, hps, _⟩ := ids_of_trod f4
  obtain ⟨tg, e5⟩ := lk_of_trod f5
  obtain ⟨⟨⟨msg⟩⟩, e6, _, _⟩ := DataW.trod_string Tryz.underlying9 f6
  obtain ⟨A1, c1, rfl, _⟩ := hd.form
  obtain ⟨A2, c2, rfl, _⟩ := hes.form
  obtain ⟨A4, c4, rfl, _⟩ := hps.form
  refine ⟨⟨k, ⟨A1, _, c1⟩, ⟨A2, _, c2⟩, tree, ⟨A4, _, c4⟩, tg, msg, h32⟩, ⟨k, d, es, tree, ps, tg, msg⟩, ?_, rfl, hd, hes, rfl, hps, rfl, rfl⟩
  have g0 := part_split cs 0 1
  have g1 := part_split cs 1 1
  have g2 := part_split cs 2 1
  have g3 := part_split cs 3 32
  have g4 := part_split cs 35 1
  have g5 := part_split cs 36 33
  have g6 := part_split cs 69 1
  rw [e0] at g0
  rw [e1] at g1
  rw [e2] at g2
  rw [e3] at g3
  rw [e4] at g4
  rw [e5] at g5
  rw [e6, List.drop_eq_nil_of_le (show cs.length ≤ 69 + 1 by omega), List.append_nil] at g6
  rw [List.drop_zero, Nat.zero_add, g1, g2, g3, g4, g5, g6] at g0
  exact g0
/-- An object that is handed over. -/
theorem ob_of_arg {W : World} {base b0 : Nat} {spare : Nat → Bool} {held : Bool} {r : Reach} {v : Value} {d : DataW H} {ps : List MemPlace} (hv : Value.okWide Tryz.prog W r b0 30 v) (h : DataW.Trod enc Tryz.prog W base spare held 30 v d ps) :
    ∃ (o : Ob) (p : Pl), v = ObV o ∧ ObIs W o p := by
  simp only [Value.okWide, Tryz.underlying30] at hv
  obtain ⟨cs, rfl, h2, _⟩ := hv
  obtain ⟨fuel, hf⟩ := h
  obtain ⟨o, p, hcs, hp⟩ := ob_of_trod hf
  refine ⟨o, p, ?_, hp⟩
  simp only [Value.cells] at hcs
  show Value.agg cs = Value.agg (encO o).toArray
  rw [← hcs]
end
end Go.Proofs.YtljihmbmjpcfaaaGreat
