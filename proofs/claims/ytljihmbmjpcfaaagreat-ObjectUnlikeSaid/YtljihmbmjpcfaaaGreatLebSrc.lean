/- Operations stepped by hand in a region that does not draw; a goal that the walk lets be. Plain objects; how one lies in memory; boxes in the walk. The writer of objects' parts. A Source: From, Left, End, raw. -/
import Derived.Test.YtljihmbmjpcfaaaGreatLebMath
import Derived.Great.Walk
import Derived.Test.YtljihmbmjpcfaaaGreatObjSames
import Derived.Test.YtljihmbmjpcfaaaGreatObjMays
import Derived.Test.YtljihmbmjpcfaaaGreatWrSinkMore
namespace Go.Proofs.YtljihmbmjpcfaaaGreat
open Go.RowKit Go.Great
set_option maxRecDepth 100000

/-- An operation whose value is known. -/
theorem list_known {P : Program} {ops : Array Oper} {rest : List Oper} {o : Oper} {a : Act} {w : World} {Q : Exit → Act → World → Prop} (v : Value) (hw : Region.wanted o (yielded ops a.tmps) = true) (hrun : (execOp a.eval o).run P w = .ok (.value v) w)
    (h : ∀ a', a.put o.dst v = a' → wpList P ops Q rest a' w) : wpList P ops Q (o :: rest) a w :=
  wpList_step fun K hK => by
    rw [if_pos hw]
    unfold Oper.wp
    rw [hrun]
    exact hK _ _ (h _ rfl)
/-- An operation that is guarded, and passed over. -/
theorem list_skip {P : Program} {ops : Array Oper} {rest : List Oper} {o : Oper} {a : Act} {w : World} {Q : Exit → Act → World → Prop} (hw : Region.wanted o (yielded ops a.tmps) = false)
    (h : ∀ a', a.put o.dst undef = a' → wpList P ops Q rest a' w) : wpList P ops Q (o :: rest) a w :=
  wpList_skip hw (h _ rfl)
/-- An operation, its guard met. -/
theorem list_want {P : Program} {ops : Array Oper} {rest : List Oper} {o : Oper} {a : Act} {w : World} {Q : Exit → Act → World → Prop} (hw : Region.wanted o (yielded ops a.tmps) = true)
    (h : ∀ K : Act → World → Prop, (∀ a' w', wpList P ops Q rest a' w' → K a' w') → o.wp P a w K Q) : wpList P ops Q (o :: rest) a w :=
  wpList_step fun K hK => by
    rw [if_pos hw]
    exact h K hK
/-- A goal that the walk lets be. -/
def Held (p : Prop) (_ : (p → Nat) → Nat) : Prop := p
theorem held_in {p : Prop} (h : Held p fun _ => 0) : p := h
theorem held_at (n : Nat) {l : Array Oper} {b : Bool} {P : Program} {Q : Exit → Act → World → Prop} {a : Act} {w : World} (h : Held ((Code.region n l b).wp P Q a w) fun _ => 0) : (Code.region n l b).wp P Q a w := h
end Go.Proofs.YtljihmbmjpcfaaaGreat
namespace Go.Proofs.YtljihmbmjpcfaaaGreat
open Go.RowKit Go.Shelf Go.Great
set_option maxRecDepth 100000

/-- An object, plainly. -/
structure Pl where
  kd : Int
  d : List UInt8
  es : List En
  tree : List UInt8
  ps : List (List UInt8)
  tg : Lk
  msg : List UInt8
deriving DecidableEq
theorem pl_ext (p q : Pl) : p = q ↔ p.kd = q.kd ∧ p.d = q.d ∧ p.es = q.es ∧ p.tree = q.tree ∧ p.ps = q.ps ∧ p.tg = q.tg ∧ p.msg = q.msg := by
  obtain ⟨a, b, c, d, e, f, g⟩ := p
  obtain ⟨a', b', c', d', e', f', g'⟩ := q
  constructor
  · intro h; cases h; exact ⟨rfl, rfl, rfl, rfl, rfl, rfl, rfl⟩
  · rintro ⟨h1, h2, h3, h4, h5, h6, h7⟩
    dsimp only at h1 h2 h3 h4 h5 h6 h7
    subst h1 h2 h3 h4 h5 h6 h7
    rfl
/-- The object value is that plain one. -/
structure ObIs (W : World) (o : Ob) (p : Pl) : Prop where
  kd : o.kd = p.kd
  d : Bs W o.dv.v p.d
  es : Es eEn W o.ev.v p.es
  tree : o.tree = p.tree
  ps : Is W o.pv.v p.ps
  tg : o.tg = p.tg
  msg : o.msg = p.msg
theorem ObIs.below {w w' : World} {o : Ob} {p : Pl} (h : ObIs w o p) (hb : Below w.heap.size w w') : ObIs w' o p := ⟨h.kd, h.d.below hb, h.es.below hb, h.tree, h.ps.below hb, h.tg, h.msg⟩
/-- No more than statements go through. -/
structure PlSmall (p : Pl) : Prop where
  d : p.d.length ≤ 100000
  es : p.es.length ≤ 1000
  ps : p.ps.length ≤ 1000
/-- The cells of an object in a variable. -/
structure ObC (W : World) (g : Nat) (o : Ob) : Prop where
  kd : W.cell? ⟨g, 0, none⟩ = some (.int .i64 o.kd)
  dv : W.cell? ⟨g, 1, none⟩ = some (.slice o.dv.A o.dv.n o.dv.c)
  ev : W.cell? ⟨g, 2, none⟩ = some (.slice o.ev.A o.ev.n o.ev.c)
  tree : IdAt W g 3 o.tree
  pv : W.cell? ⟨g, 35, none⟩ = some (.slice o.pv.A o.pv.n o.pv.c)
  tg : ElAt eLk W g 36 o.tg
  msg : W.cell? ⟨g, 69, none⟩ = some (Str o.msg)
abbrev BoxOb (W : World) (g : Nat) (o : Ob) : Prop := BoxE eOb 30 W g o
theorem BoxE.obc {W : World} {g : Nat} {o : Ob} (h : BoxOb W g o) : ObC W g o := by
  have c0 := ObAt.kd h.at
  have c1 := ObAt.dv h.at
  have c2 := ObAt.ev h.at
  have c3 := ObAt.tree h.at
  have c4 := ObAt.pv h.at
  have c5 := ObAt.tg h.at
  have c6 := ObAt.msg h.at
  simp only [Nat.zero_add] at c0 c1 c2 c3 c4 c5 c6
  exact ⟨c0, c1, c2, c3, c4, c5, c6⟩
theorem bEqual_any (w : World) (u v : Value) (xs ys : List UInt8) (hx : Bs w u xs) (hy : Bs w v ys) :
    Calls Tryz.prog 54 #[u, v] w fun e W' => e = .returned (.bool (decide (xs = ys))) ∧ Below w.heap.size w W' := by
  have h1 := run_string_bs (P := Tryz.prog) w 22 9 5 Tryz.underlying22 Tryz.underlying5 Tryz.underlying9 hx
  have h2 := run_string_bs (P := Tryz.prog) w 22 9 5 Tryz.underlying22 Tryz.underlying5 Tryz.underlying9 hy
  obtain ⟨A, c, rfl, _⟩ := hx.form
  obtain ⟨B, d, rfl, _⟩ := hy.form
  by_cases he : xs = ys
  · have HE := Lib.hid (decide_eq_true he)
    subst he
    go_enter Tryz.func54, Tryz.ntmps54
    go_wp2_with fail
    go_ret
    exact ⟨rfl, Below.refl _ _⟩
  · have HE := Lib.hid (decide_eq_false he)
    go_enter Tryz.func54, Tryz.ntmps54
    go_wp2_with fail
    go_ret
    exact ⟨by rw [HE.out]; simp [he], Below.refl _ _⟩
end Go.Proofs.YtljihmbmjpcfaaaGreat
namespace Go.Proofs.YtljihmbmjpcfaaaGreat
open Go.RowKit Go.Shelf Go.Great
set_option maxRecDepth 100000

/-- What a call of the writer leaves. -/
abbrev WOut (w : World) (n₀ g : Nat) (v : Value) (xs : List UInt8) (e : Ending) (W' : World) : Prop := e = .returned (.tuple #[]) ∧ WrSinkWrote w n₀ g v xs W'
set_option maxHeartbeats 1000000 in
theorem wKind_any (w : World) (n₀ g : Nat) (v : Value) (xs : List UInt8) (hn₀ : n₀ ≤ w.heap.size) (hat : WrSinkAt w n₀ g v xs) (k : Nat) (hk : k < 1000) (hlen : xs.length ≤ 100000000) :
    Calls Tryz.prog 48 #[.pointer (some ⟨g, 0, none⟩), .int .i64 k] w (WOut w n₀ g v (xs ++ lebB k)) := by
  have hu : IntKind.u64.wrap (k : Int) = (k : Int) := IntWalk.u64_in _ (by omega)
  go_enter Tryz.func48, Tryz.ntmps48
  go_wp2_with fail
  refine (WrSinkNumber_any g k (by omega) w v xs n₀ hn₀ hat (by omega)).mono ?_
  rintro e w2 ⟨rfl, h2⟩
  go_wp2_with fail
  go_end0
  exact ⟨rfl, h2⟩
set_option maxHeartbeats 1000000 in
theorem wBytes_any (w : World) (n₀ g : Nat) (v : Value) (xs : List UInt8) (hn₀ : n₀ ≤ w.heap.size) (hat : WrSinkAt w n₀ g v xs) (sv : Value) (ys : List UInt8) (hs : Bs w sv ys) (hap : ys ≠ [] → ∀ j, sv.ownBlock = some j → j ≠ g ∧ v.ownBlock ≠ some j) (hlen : xs.length + ys.length ≤ 100000000) :
    Calls Tryz.prog 207 #[.pointer (some ⟨g, 0, none⟩), sv] w (WOut w n₀ g v (xs ++ (lebB ys.length ++ ys))) := by
  have HS := Lib.hid hs
  have HA := Lib.hid hap
  obtain ⟨A, c, rfl, hc⟩ := hs.form
  clear hs hap
  go_enter Tryz.func207, Tryz.ntmps207
  go_wp2_with fail
  refine (WrSinkBytes_any g w v xs n₀ hn₀ hat _ ys HS.out HA.out (by omega)).mono ?_
  rintro e w2 ⟨rfl, h2⟩
  go_wp2_with fail
  go_end0
  exact ⟨rfl, h2⟩
theorem blobWrite_any (w : World) (n₀ g gb : Nat) (v : Value) (xs : List UInt8) (hn₀ : n₀ ≤ w.heap.size) (hat : WrSinkAt w n₀ g v xs) (s : Sl) (ys : List UInt8) (hb : BoxBlob w gb s) (hs : Bs w s.v ys) (hap : ys ≠ [] → ∀ j, s.v.ownBlock = some j → j ≠ g ∧ v.ownBlock ≠ some j) (hlen : xs.length + ys.length ≤ 100000000) :
    Calls Tryz.prog 205 #[.pointer (some ⟨gb, 0, none⟩), .pointer (some ⟨g, 0, none⟩)] w (WOut w n₀ g v (xs ++ (lebB ys.length ++ ys))) := by
  have hc := hb.cell
  have HS := Lib.hid hs
  have HA := Lib.hid hap
  clear hs hap
  go_enter Tryz.func205, Tryz.ntmps205
  go_wp2_with fail
  refine (wBytes_any w n₀ g v xs hn₀ hat s.v ys HS.out HA.out hlen).mono ?_
  rintro e w2 ⟨rfl, h2⟩
  go_wp2_with fail
  go_end0
  exact ⟨rfl, h2⟩
set_option maxHeartbeats 1000000 in
/-- No parts: how many there are, alone. -/
theorem wSevE_none (w : World) (n₀ g : Nat) (v : Value) (xs : List UInt8) (hn₀ : n₀ ≤ w.heap.size) (hat : WrSinkAt w n₀ g v xs) (A : Option Addr) (c : Nat) (f : Value) (hlen : xs.length ≤ 100000000) :
    Calls Tryz.prog 225 #[.pointer (some ⟨g, 0, none⟩), .slice A 0 c, f] w (WOut w n₀ g v (xs ++ [0])) := by
  have hu : IntKind.u64.wrap (0 : Int) = (0 : Int) := by decide
  go_enter Tryz.func225, Tryz.ntmps225
  go_wp2_with fail
  refine (WrSinkNumber_any g 0 (by decide) w v xs n₀ hn₀ hat (by omega)).mono ?_
  rintro e w2 ⟨rfl, h2⟩
  rw [show lebB 0 = [0] by decide] at h2
  go_wp2_with fail
  go_loopw [17] (fun i wr => i = .int .i64 0 ∧ wr = w2) (fun _ _ => 0)
  case atStart => exact ⟨rfl, rfl⟩
  case round =>
    obtain ⟨rfl, rfl⟩ := hrel
    go_wp2_with fail
    go_end0
    exact ⟨rfl, h2⟩
theorem treeWrite_none (w : World) (n₀ g gb : Nat) (v : Value) (xs : List UInt8) (hn₀ : n₀ ≤ w.heap.size) (hat : WrSinkAt w n₀ g v xs) (A : Option Addr) (c : Nat) (hb : Boxed w gb 165 (.slice A 0 c)) (hlen : xs.length ≤ 100000000) :
    Calls Tryz.prog 221 #[.pointer (some ⟨gb, 0, none⟩), .pointer (some ⟨g, 0, none⟩)] w (WOut w n₀ g v (xs ++ [0])) := by
  have hc := hb.cell
  have hmf : ∀ (fn : Fn) (first cap : Array Value) (w : World), (Instr.makeFunc fn first cap).run Tryz.prog w = .ok (.func fn first cap) w := fun _ _ _ _ => rfl
  go_enter Tryz.func221, Tryz.ntmps221
  go_wp2_with fail
  refine (wSevE_none w n₀ g v xs hn₀ hat A c _ hlen).mono ?_
  rintro e w2 ⟨rfl, h2⟩
  go_wp2_with fail
  go_end0
  exact ⟨rfl, h2⟩
end Go.Proofs.YtljihmbmjpcfaaaGreat
namespace Go.Proofs.YtljihmbmjpcfaaaGreat
open Go.RowKit

/-- A Source at g has the bytes xs left. -/
structure SourceAt (W : World) (g : Nat) (v : Value) (xs : List UInt8) : Prop where
  box : Boxed W g 159 v
  bytes : Bs W v xs
  row : ∀ j, v.ownBlock = some j → j < W.heap.size ∧ j ≠ g

theorem SourceAt.kept {T : Nat → Prop} {W W' : World} {g : Nat} {v : Value} {xs : List UInt8} (h : SourceAt W g v xs) (k : Kept T W W') (h1 : ¬ T g) (h2 : ∀ j, v.ownBlock = some j → ¬ T j) : SourceAt W' g v xs :=
  ⟨k.boxed h.box h1, k.bs h.bytes h2, fun j hj => ⟨Nat.lt_of_lt_of_le (h.row j hj).1 k.size, (h.row j hj).2⟩⟩

set_option maxHeartbeats 400000 in
theorem From_any (w : World) (sv : Value) (ys : List UInt8) (hs : Bs w sv ys) (hlen : ys.length ≤ 140737488355328) :
    Calls Tryz.prog 50 #[sv] w fun e W' => ∃ g v, e = .returned (.pointer (some ⟨g, 0, none⟩)) ∧ SourceAt W' g v ys ∧ w.heap.size ≤ g ∧ (∀ j, v.ownBlock = some j → w.heap.size ≤ j) ∧ Below w.heap.size w W' := by
  go_enter Tryz.func50, Tryz.ntmps50
  go_wp2_with (go_at_call 80; refine (Clone_any _ sv ys hs hlen).mono ?_; rintro e w' ⟨v', rfl, h1, h2⟩; obtain ⟨A', n', c', rfl⟩ := owns_slice h1)
  go_ret
  refine ⟨w'.heap.size, _, rfl, ⟨Boxed.new w' _ _, ((Kept.refl (fun _ => False) w').alloc _).bs (Bs.of_owns h1) (fun _ _ h => h), fun j hj => ?_⟩, h2.size, fun j hj => (h1.lt j hj).1, h2.alloc h2.size _⟩
  have := h1.lt j hj
  simp
  omega

set_option maxHeartbeats 400000 in
theorem SrcEnd_any (w : World) (g : Nat) (v : Value) (xs : List UInt8) (hat : SourceAt w g v xs) :
    Calls Tryz.prog 53 #[.pointer (some ⟨g, 0, none⟩)] w fun e W' => e = .returned (.int .i64 (if xs = [] then 0 else 13)) ∧ w = W' := by
  obtain ⟨A, c, rfl, hc⟩ := hat.bytes.form
  have hc := hat.box.cell
  cases xs with
  | nil =>
    go_enter Tryz.func53, Tryz.ntmps53
    go_wp2
    go_ret
    exact ⟨rfl, rfl⟩
  | cons x xs =>
    have hd : (0 : Int) < ((x :: xs).length : Int) := by simp
    go_enter Tryz.func53, Tryz.ntmps53
    go_wp2
    go_ret
    exact ⟨rfl, rfl⟩

set_option maxHeartbeats 400000 in
theorem SrcEnd_none (w : World) : Calls Tryz.prog 53 #[.pointer none] w fun e W' => e = .returned (.int .i64 1) ∧ w = W' := by
  go_enter Tryz.func53, Tryz.ntmps53
  go_wp2
  go_ret
  exact ⟨rfl, rfl⟩

/-- What is read, and what is left: errors leave all as it was. -/
def rawRes (n : Int) (xs : List UInt8) : Int × List UInt8 × List UInt8 := if n < 0 then (2, [], xs) else if (xs.length : Int) < n then (10, [], xs) else (0, xs.take n.toNat, xs.drop n.toNat)

/-- What a read leaves: the Source has what is left; nothing else that was there has turned. -/
def SourceRead (w : World) (g : Nat) (v : Value) (xs : List UInt8) (W : World) : Prop :=
  ∃ v', SourceAt W g v' xs ∧ Kept (fun j => j = g) w W ∧ v'.ownBlock = v.ownBlock

set_option maxHeartbeats 400000 in
theorem srcraw_neg (w : World) (g : Nat) (n : Int) (hn : n < 0) :
    Calls Tryz.prog 214 #[.pointer (some ⟨g, 0, none⟩), .int .i64 n] w fun e W' => e = .returned (.tuple #[.slice none 0 0, .int .i64 2]) ∧ w = W' := by
  go_enter Tryz.func214, Tryz.ntmps214
  go_wp2
  go_ret2
  exact ⟨rfl, rfl⟩
set_option maxHeartbeats 400000 in
theorem srcraw_short (w : World) (g : Nat) (v : Value) (xs : List UInt8) (hat : SourceAt w g v xs) (n : Int) (h0 : ¬ n < 0) (hn : (xs.length : Int) < n) :
    Calls Tryz.prog 214 #[.pointer (some ⟨g, 0, none⟩), .int .i64 n] w fun e W' => e = .returned (.tuple #[.slice none 0 0, .int .i64 10]) ∧ w = W' := by
  obtain ⟨A, c, rfl, hc⟩ := hat.bytes.form
  have hc := hat.box.cell
  go_enter Tryz.func214, Tryz.ntmps214
  go_wp2
  go_ret2
  exact ⟨rfl, rfl⟩
theorem SourceRead.cut {w w1 : World} {g : Nat} {v u u' : Value} {xs ys : List UInt8} (hk : Kept (fun j => j = g) w w1) (hat : SourceAt w1 g u' xs) (hu : Bs w1 u ys) (hb : u.ownBlock = v.ownBlock) (hb' : u.ownBlock = u'.ownBlock) :
    SourceRead w g v ys (w1.setCell ⟨g, 0, none⟩ u) :=
  ⟨u, ⟨hat.box.set u, (Kept.setCell (p := ⟨g, 0, none⟩) (Kept.refl (fun j => j = g) w1) (fun _ => rfl) u).bs hu (fun j hj => (hat.row j (hb' ▸ hj)).2), fun j hj => ⟨Nat.lt_of_lt_of_le (hat.row j (hb' ▸ hj)).1 (by simp [World.setCell]), (hat.row j (hb' ▸ hj)).2⟩⟩, hk.setCell (p := ⟨g, 0, none⟩) (fun _ => rfl) u, hb⟩
theorem SourceRead.refl {w : World} {g : Nat} {v : Value} {xs : List UInt8} (h : SourceAt w g v xs) : SourceRead w g v xs w := ⟨v, h, Kept.refl _ _, rfl⟩

/-- What raw comes to. -/
def RawOut (w : World) (g : Nat) (v : Value) (er : Int) (ys xs : List UInt8) (e : Ending) (W' : World) : Prop :=
  ∃ r, e = .returned (.tuple #[r, .int .i64 er]) ∧ W'.ownsRow w.heap.size 5 1 r ys.length (ys.map B8) ∧ SourceRead w g v xs W'

set_option maxHeartbeats 400000 in
theorem srcraw_ok (w : World) (g : Nat) (v : Value) (xs : List UInt8) (hat : SourceAt w g v xs) (hlen : xs.length ≤ 140737488355328) (n : Nat) (hn : n ≤ xs.length) :
    Calls Tryz.prog 214 #[.pointer (some ⟨g, 0, none⟩), .int .i64 n] w (RawOut w g v 0 (xs.take n) (xs.drop n)) := by
  obtain ⟨A, c, rfl, hc⟩ := hat.bytes.form
  have hcc := hat.box.cell
  go_enter Tryz.func214, Tryz.ntmps214
  go_wp2_with fail
  refine (Clone_any w _ (xs.take n) (hat.bytes.take hn) (by simp; omega)).mono ?_
  rintro e w1 ⟨r, rfl, h1, h2⟩
  have hk1 : Kept (fun _ => False) w w1 := Kept.of_below h2 (Nat.le_refl _) _
  have hat1 := hat.kept hk1 (fun h => h) (fun _ _ h => h)
  have hcc1 := hat1.box.cell
  have hf1 := hat1.box.frozen
  obtain ⟨A1, n1, c1, rfl⟩ := owns_slice h1
  by_cases hcn : c = n
  · have hd : Bs w1 (.slice A 0 0) (xs.drop n) := by
      have h := hat1.bytes.drop hn
      rw [if_pos hcn, show xs.length - n = 0 by omega, show c - n = 0 by omega] at h
      exact h
    have hob : (Value.slice A 0 0).ownBlock = (Value.slice A xs.length c).ownBlock := by cases A <;> rfl
    have HO := Lib.hid hob
    clear hcc hob
    subst hcn
    go_wp2
    go_ret2
    exact ⟨_, rfl, h1.kept (grownBy_setCell' w1 g _) (.inr (hat1.box.not_row (by decide) h1).symm), SourceRead.cut (hk1.mono (fun _ _ h => h.elim)) hat1 hd HO.out HO.out⟩
  · have hd : Bs w1 (.slice (A.map (·.add n)) (xs.length - n) (c - n)) (xs.drop n) := by
      have h := hat1.bytes.drop hn
      rw [if_neg hcn] at h
      exact h
    have hob := ownBlock_cut A xs.length c n (xs.length - n) (c - n)
    rw [if_neg hcn] at hob
    have HO := Lib.hid hob
    clear hcc hob
    go_wp2
    go_ret2
    exact ⟨_, rfl, h1.kept (grownBy_setCell' w1 g _) (.inr (hat1.box.not_row (by decide) h1).symm), SourceRead.cut (hk1.mono (fun _ _ h => h.elim)) hat1 hd HO.out HO.out⟩

/-- raw. -/
theorem srcraw_any (w : World) (g : Nat) (v : Value) (xs : List UInt8) (hat : SourceAt w g v xs) (hlen : xs.length ≤ 140737488355328) (n : Int) :
    Calls Tryz.prog 214 #[.pointer (some ⟨g, 0, none⟩), .int .i64 n] w (RawOut w g v (rawRes n xs).1 (rawRes n xs).2.1 (rawRes n xs).2.2) := by
  unfold rawRes
  by_cases h0 : n < 0
  · rw [if_pos h0]
    exact (srcraw_neg w g n h0).mono fun e W' ⟨he, hw⟩ => ⟨_, he, World.ownsRow_nil _ _ _ _, hw ▸ SourceRead.refl hat⟩
  · rw [if_neg h0]
    by_cases h1 : (xs.length : Int) < n
    · rw [if_pos h1]
      exact (srcraw_short w g v xs hat n h0 h1).mono fun e W' ⟨he, hw⟩ => ⟨_, he, World.ownsRow_nil _ _ _ _, hw ▸ SourceRead.refl hat⟩
    · rw [if_neg h1]
      obtain ⟨m, rfl⟩ := Int.eq_ofNat_of_zero_le (by omega : 0 ≤ n)
      exact srcraw_ok w g v xs hat hlen m (by omega)
end Go.Proofs.YtljihmbmjpcfaaaGreat
