/- The rows of layer 5: a dot that is handed over, the listed variables, a world that has them. -/
import Derived.Test.YtockdekhdjmklaaDoorRowKit
import Derived.Test.YtockdekhdjmklaaDoorDotText
import Derived.Test.YtockdekhdjmklaaDoorTie
import Derived.Test.YtockdekhdjmklaaDoorCards
import Derived.HandedShaped
import Derived.LaidLaws
import Derived.LaidHandle
import Derived.WitnessAt
import Derived.SevenTiedAt
import Derived.Shelf.Vars
import Derived.Lib.LaidTab
import Derived.Stop.LaidErr
import Derived.ChangeSame
namespace Go.Proofs.YtockdekhdjmklaaDoor
open Go.ChangeShapes Go.WideShapes Go.ChangeAt Go.RowKit
set_option maxRecDepth 100000

theorem mx5 {W : World} (h : W.ShapedOpen Tryd.prog) : ∃ m, W.cell? ⟨0, 0, none⟩ = some (.int .i64 m) :=
  cell_of_shapedOpen_int (t := 3) (zero := #[.int .i64 0]) h (of_decide_eq_true (by kernel_rfl)) (by kernel_rfl) rfl (by kernel_rfl) (by kernel_rfl) Tryd.underlying3
theorem err_cell {W : World} {n nm : String} {d : DataW Unit} {r : List (String × DataW Unit)} {g : Nat} (h : laidMet Tryd.prog ((n, .iface nm d) :: r) W) (hg : Tryd.prog.globalNamed n = some g) (ht : (Tryd.prog.globals[g]?).map (·.type) = some 75) :
    ∃ te pe, W.cell? ⟨g, 0, none⟩ = some (.iface te pe) := by
  obtain ⟨ps, ⟨g0, t0, cs0, f0, p0, q0, hg0, ht0, hv0, hd0, _, _⟩, _⟩ := h
  obtain rfl := Option.some.inj (hg.symm.trans hg0)
  obtain rfl := Option.some.inj (ht.symm.trans ht0)
  obtain ⟨ms, hi⟩ : ∃ ms, Tryd.prog.underlying 75 = some (.interface ms) := ⟨(match Tryd.prog.underlying 75 with | some (.interface ms) => ms | _ => #[]), by kernel_rfl⟩
  obtain ⟨_, u, v, hcs, _, _⟩ := iface_of_trod hi hd0
  refine ⟨u, v, ?_⟩
  rw [World.var?_cell hg hv0 0, ← Array.getElem?_toList, hcs]
  rfl
def laid2 : List (String × DataW Unit) := Rows.dotFormsRow.laid
theorem tb_of {W : World} (hsh : W.ShapedOpen Tryd.prog) (hl : laidMetH Tryd.prog laid2 W) : Tb W := by
  have h0 : laidMet Tryd.prog Rows.dotFormsRow.laid W := hl
  have h3 : laidMet Tryd.prog [("internal/strconv.uint64pow10", Rows.laid_internal_strconv_uint64pow10), ("strconv.ErrRange", Rows.laid_strconv_ErrRange), ("strconv.ErrSyntax", Rows.laid_strconv_ErrSyntax)] W := laidMet.tail (laidMet.tail h0)
  have h4 := laidMet.tail h3
  have h5 := laidMet.tail h4
  have hp : Lib.TabIs Tryd.prog W "internal/strconv.uint64pow10" .u64 Lib.pow10Tab := by
    refine Lib.tabIs_of_head (g := 3) (t := 157) (e := 63) (n := 20) (by kernel_rfl) (by kernel_rfl) (by kernel_rfl) Tryd.underlying63 (by kernel_rfl) (by kernel_rfl) (rest := [("strconv.ErrRange", Rows.laid_strconv_ErrRange), ("strconv.ErrSyntax", Rows.laid_strconv_ErrSyntax)]) ?_
    have e : (Rows.laid_internal_strconv_uint64pow10 : DataW Unit) = Lib.tabData .u64 Lib.pow10Tab := by first | rfl | kernel_rfl
    rw [← e]
    exact h3
  obtain ⟨t1, p1, e1⟩ := err_cell (g := 2) h4 (by kernel_rfl) (by kernel_rfl)
  obtain ⟨t2, p2, e2⟩ := err_cell (g := 1) h5 (by kernel_rfl) (by kernel_rfl)
  exact ⟨mx5 hsh, hp, ⟨_, e2, .inr ⟨_, _, rfl⟩⟩, ⟨_, e1, .inr ⟨_, _, rfl⟩⟩⟩
theorem cellsDot : Tryd.prog.cellsOf 23 = 2 := by kernel_rfl
theorem cellsInt5 : Tryd.prog.cellsOf 3 = 1 := by kernel_rfl
section
variable {H : Type} {enc : TypeId × Value → H}
/-- A string that is handed over. -/
theorem str_of_arg {W : World} {base b0 : Nat} {spare : Nat → Bool} {held : Bool} {r : Reach} {v : Value} {d : DataW H} {ps : List MemPlace} (hv : Value.okWide Tryd.prog W r b0 9 v) (h : DataW.Trod enc Tryd.prog W base spare held 9 v d ps) :
    ∃ xs : List UInt8, xs.length ≤ 9223372036854775807 ∧ v = Str xs := by
  obtain ⟨⟨⟨xs⟩⟩, rfl⟩ := okWide_string Tryd.underlying9 hv
  obtain ⟨fuel, hf⟩ := h
  obtain ⟨s', h, -, hs⟩ := DataW.trod_string Tryd.underlying9 hf
  simp only [Value.cells, List.cons.injEq, and_true] at h
  injection h with h
  subst h
  refine ⟨xs, ?_, rfl⟩
  simp only [ByteArray.size, List.size_toArray] at hs
  unfold maxLen at hs
  omega
theorem dot_of_trod {W : World} {base : Nat} {spare : Nat → Bool} {held : Bool} {fuel : Nat} {cs : List Value} {x : DataW H × List MemPlace} (h : DataW.trod enc Tryd.prog W base spare held fuel 23 cs = some x) :
    ∃ a b : Int, cs = [.int .i64 a, .int .i64 b] := by
  obtain ⟨xs, n, _, rfl, hcl, hxl, hf⟩ := DataW.trod_struct Tryd.underlying23 h
  rw [cellsDot] at hcl
  match cs, hcl with
  | [v0, v1], _ =>
  replace hxl : xs.length = 2 := hxl
  match xs, hxl with
  | [x0, x1], _ =>
  have f0 : DataW.trod enc Tryd.prog W base spare held n 3 [v0] = some x0 := by have h0 := hf 0 _ rfl; simpa [cellsInt5] using h0
  have f1 : DataW.trod enc Tryd.prog W base spare held n 3 [v1] = some x1 := by have h0 := hf 1 _ rfl; simpa [cellsInt5] using h0
  obtain ⟨k0, e0, _, _⟩ := DataW.trod_int Tryd.underlying3 f0
  obtain ⟨k1, e1, _, _⟩ := DataW.trod_int Tryd.underlying3 f1
  simp only [List.cons.injEq, and_true] at e0 e1
  subst e0
  subst e1
  exact ⟨k0, k1, rfl⟩
theorem dot_of_arg {W : World} {base b0 : Nat} {spare : Nat → Bool} {held : Bool} {r : Reach} {v : Value} {d : DataW H} {ps : List MemPlace} (hv : Value.okWide Tryd.prog W r b0 23 v) (h : DataW.Trod enc Tryd.prog W base spare held 23 v d ps) :
    ∃ a b : Int, v = DotV a b := by
  simp only [Value.okWide, Tryd.underlying23] at hv
  obtain ⟨cs, rfl, h2, _⟩ := hv
  obtain ⟨fuel, hf⟩ := h
  obtain ⟨a, b, hcs⟩ := dot_of_trod hf
  refine ⟨a, b, ?_⟩
  simp only [Value.cells] at hcs
  obtain ⟨l⟩ := cs
  simp only at hcs
  rw [hcs]
end
/-- A wrap that hands on what the row lists and the world's shape. -/
theorem wrap_and_shaped {H : Type} {enc : TypeId × Value → H} {a : Assume} {C : Checked} {os : Os} {f : FuncId} {fn : Func} {s : ChangeSpec} {conds : List PathCond} {apart fresh handsOn again : Bool} {X : World → Array Value → Prop}
    (hX : ∀ (w w' : World) (args : Array Value), w.heap = w'.heap → X w args → X w' args)
    (own : ownKnob C.prog.godebug = none) (started : os.Started) (noInit : C.prog.inits.idxOf? f = none) (hfn : C.prog.funcs[f]? = some fn)
    (witness : ∃ (w : World) (tape : Tape) (i : Input), w.os = os ∧ (w.forCall tape i).Shaped C.prog ∧ i.vars = [] ∧ Input.okWide C.prog (w.forCall tape i) .any w.heap.size f i ∧
      ((s.pre enc C.prog fn conds apart (w.forCall tape i).memory i.args ∧ X (w.forCall tape i).memory i.args) ∧ sizedMet enc C.prog fn (OpenSpec.ofChange s) apart (w.forCall tape i).memory i.args) ∧ a.holds C.prog (lone (Frame.enter C.prog f i.args .normal) [] (w.forCall tape i)))
    (contract : ∀ (W : World) (base : Nat) (args : Array Value) (ds gs : List (DataW H)) (before : List MemPlace),
      (∀ (j : Nat) t v, fn.params[j]? = some t → args[j]? = some v → Value.okWide C.prog W .any base t v) →
      DataW.Whole enc C.prog fn.params.toList s.vars apart W args.toList ds gs before → W.ShapedOpen C.prog → X W args →
      Calls C.prog f args W fun e W' => ∃ v, e = .returned v ∧ s.post enc C.prog fn apart fresh handsOn again W args v W') :
    ReturnsInHanded a C os f .any (fun w args => (s.pre enc C.prog fn conds apart w args ∧ X w args) ∧ sizedMet enc C.prog fn (OpenSpec.ofChange s) apart w args) (s.post enc C.prog fn apart fresh handsOn again) := by
  refine returnsInHanded_of_calls own started noInit witness ?_
  intro w tape i _ hsh _ hok hpre _
  obtain ⟨_, _, _, fn', hfn', _, _, _, _, hval⟩ := hok
  obtain rfl : fn' = fn := Option.some.inj (hfn'.symm.trans hfn)
  obtain ⟨⟨⟨ds, gs, before, hw, _⟩, hx⟩, _⟩ := hpre
  refine (contract (w.forCall tape i) w.heap.size i.args ds gs before hval (DataW.Whole.of_heap (w' := w.forCall tape i) (by rfl) hw) hsh (hX _ _ _ (by rfl) hx)).mono fun e W' ⟨v, he, hp⟩ => ?_
  subst he
  exact ChangeSpec.post_blind hp

/-- A datum's numbers, two deep. -/
def litsD : List (DataW Unit) → List Value
  | [] => []
  | .lit (.int k n) :: l => .int k n :: litsD l
  | _ :: l => litsD l
def flatD : List (DataW Unit) → List Value
  | [] => []
  | .lit (.int k n) :: l => .int k n :: flatD l
  | .agg m :: l => litsD m ++ flatD l
  | _ :: l => flatD l
def cellsD : DataW Unit → Array Value
  | .agg l => (flatD l).toArray
  | _ => #[]
def tabO (c : Array Value) : Obj → Obj
  | .cells _ t frozen => .cells c t frozen
  | o => o
noncomputable def laidWorld (os : Os) : World :=
  let w0 := World.holding Tryd.prog os ⟨#[], #[], []⟩
  { w0 with heap := (((((((w0.heap.modify 4 (tabO (cellsD Rows.laid_math_bits_deBruijn32tab))).modify 5 (tabO (cellsD Rows.laid_math_bits_deBruijn64tab))).modify 3 (tabO (cellsD Rows.laid_internal_strconv_uint64pow10))).modify 2 (tabO #[.iface 153 (.pointer (some ⟨w0.heap.size, 0, none⟩))])).modify 1 (tabO #[.iface 153 (.pointer (some ⟨w0.heap.size + 1, 0, none⟩))])).push
      (.cells #[.string ⟨#[118, 97, 108, 117, 101, 32, 111, 117, 116, 32, 111, 102, 32, 114, 97, 110, 103, 101]⟩] 155)).push (.cells #[.string ⟨#[105, 110, 118, 97, 108, 105, 100, 32, 115, 121, 110, 116, 97, 120]⟩] 155)) }
set_option maxRecDepth 100000 in
theorem laidWorld_met (os : Os) (args : Array Value) : laidMetH Tryd.prog laid2 ((laidWorld os).forCall (fun _ _ => 0) ⟨#[], args, []⟩).memory :=
  laidMetH_of_parts3 (fuel := 8) (laidMet_of_run' 8 (by kernel_rfl) (by kernel_rfl)) (by kernel_rfl) (by kernel_rfl)
end Go.Proofs.YtockdekhdjmklaaDoor
