/- Plain objects; how one lies in memory; boxes in the walk. -/
import Derived.Test.YtfoeelhghdonbaaGreatObjSames
import Derived.Test.YtfoeelhghdonbaaGreatObjMays
import Derived.Test.YtfoeelhghdonbaaGreatListStep
namespace Go.Proofs.YtfoeelhghdonbaaGreat
open Go.RowKit Go.Shelf Go.Great
set_option maxRecDepth 100000

/-- An object, plainly. -/
structure Pl where
  kd : Int
  d : List UInt8
  es : List En
  tree : List UInt8
  ps : List (List UInt8)
  tg : Lk
  msg : List UInt8
deriving DecidableEq
theorem pl_ext (p q : Pl) : p = q ↔ p.kd = q.kd ∧ p.d = q.d ∧ p.es = q.es ∧ p.tree = q.tree ∧ p.ps = q.ps ∧ p.tg = q.tg ∧ p.msg = q.msg := by
  obtain ⟨a, b, c, d, e, f, g⟩ := p
  obtain ⟨a', b', c', d', e', f', g'⟩ := q
  constructor
  · intro h; cases h; exact ⟨rfl, rfl, rfl, rfl, rfl, rfl, rfl⟩
  · rintro ⟨h1, h2, h3, h4, h5, h6, h7⟩
    dsimp only at h1 h2 h3 h4 h5 h6 h7
    subst h1 h2 h3 h4 h5 h6 h7
    rfl
/-- The object value is that plain one. -/
structure ObIs (W : World) (o : Ob) (p : Pl) : Prop where
  kd : o.kd = p.kd
  d : Bs W o.dv.v p.d
  es : Es eEn W o.ev.v p.es
  tree : o.tree = p.tree
  ps : Is W o.pv.v p.ps
  tg : o.tg = p.tg
  msg : o.msg = p.msg
theorem ObIs.below {w w' : World} {o : Ob} {p : Pl} (h : ObIs w o p) (hb : Below w.heap.size w w') : ObIs w' o p := ⟨h.kd, h.d.below hb, h.es.below hb, h.tree, h.ps.below hb, h.tg, h.msg⟩
/-- No more than statements go through. -/
structure PlSmall (p : Pl) : Prop where
  d : p.d.length ≤ 100000
  es : p.es.length ≤ 1000
  ps : p.ps.length ≤ 1000
/-- The cells of an object in a variable. -/
structure ObC (W : World) (g : Nat) (o : Ob) : Prop where
  kd : W.cell? ⟨g, 0, none⟩ = some (.int .i64 o.kd)
  dv : W.cell? ⟨g, 1, none⟩ = some (.slice o.dv.A o.dv.n o.dv.c)
  ev : W.cell? ⟨g, 2, none⟩ = some (.slice o.ev.A o.ev.n o.ev.c)
  tree : IdAt W g 3 o.tree
  pv : W.cell? ⟨g, 35, none⟩ = some (.slice o.pv.A o.pv.n o.pv.c)
  tg : ElAt eLk W g 36 o.tg
  msg : W.cell? ⟨g, 69, none⟩ = some (Str o.msg)
abbrev BoxOb (W : World) (g : Nat) (o : Ob) : Prop := BoxE eOb 30 W g o
theorem BoxE.obc {W : World} {g : Nat} {o : Ob} (h : BoxOb W g o) : ObC W g o := by
  have c0 := ObAt.kd h.at
  have c1 := ObAt.dv h.at
  have c2 := ObAt.ev h.at
  have c3 := ObAt.tree h.at
  have c4 := ObAt.pv h.at
  have c5 := ObAt.tg h.at
  have c6 := ObAt.msg h.at
  simp only [Nat.zero_add] at c0 c1 c2 c3 c4 c5 c6
  exact ⟨c0, c1, c2, c3, c4, c5, c6⟩
theorem wpList_box_e {α : Type} {E : Elt α} {t : TypeId} {ops : Array Oper} {rest : List Oper} {o : Oper} {a : Act} {w : World} {Q : Exit → Act → World → Prop} (hg : o.guard = none) (p : Operand) (ho : o.op = .box t p) {x : α} (hp : a.eval p = E.val x)
    (h : ∀ w', BoxE E t w' w.heap.size x → Below w.heap.size w w' → wpList Tryz.prog ops Q rest (a.put o.dst (.pointer (some ⟨w.heap.size, 0, none⟩))) w') : wpList Tryz.prog ops Q (o :: rest) a w := by
  refine wpList_runTo hg _ rfl _ _ ?_ (h _ (BoxE.new w x) ((Below.refl _ w).alloc (Nat.le_refl _) _))
  unfold execOp
  simp [ho, hp, Instr.box, newVar, newRow, Value.cells]
theorem bEqual_any (w : World) (u v : Value) (xs ys : List UInt8) (hx : Bs w u xs) (hy : Bs w v ys) :
    Calls Tryz.prog 49 #[u, v] w fun e W' => e = .returned (.bool (decide (xs = ys))) ∧ Below w.heap.size w W' := by
  have h1 := run_string_bs (P := Tryz.prog) w 22 9 5 Tryz.underlying22 Tryz.underlying5 Tryz.underlying9 hx
  have h2 := run_string_bs (P := Tryz.prog) w 22 9 5 Tryz.underlying22 Tryz.underlying5 Tryz.underlying9 hy
  obtain ⟨A, c, rfl, _⟩ := hx.form
  obtain ⟨B, d, rfl, _⟩ := hy.form
  by_cases he : xs = ys
  · have HE := Lib.hid (decide_eq_true he)
    subst he
    go_enter Tryz.func49, Tryz.ntmps49
    go_wp2_with fail
    go_ret
    exact ⟨rfl, Below.refl _ _⟩
  · have HE := Lib.hid (decide_eq_false he)
    go_enter Tryz.func49, Tryz.ntmps49
    go_wp2_with fail
    go_ret
    exact ⟨by rw [HE.out]; simp [he], Below.refl _ _⟩
end Go.Proofs.YtfoeelhghdonbaaGreat
