/- Objects, links and bodies, built. Entries, links held against one another. What an object has of its kind: ofKind. Decoding: bytes from 128 on are never read as less. Plain. -/
import Derived.Test.YtljihmbmjpcfaaaGreatObj
import Derived.Test.YtljihmbmjpcfaaaGreatLebMath
import Derived.Lib.DecodeN
import Derived.Lib.OthersKept
namespace Go.Proofs.YtljihmbmjpcfaaaGreat
open Go.RowKit Go.Shelf Go.Great
set_option maxRecDepth 100000

theorem splice_in (off : Nat) (ys xs zs us : List Value) (h1 : xs.length = off) (h2 : zs.length = ys.length) : splice off ys (xs ++ zs ++ us) = xs ++ ys ++ us := by
  subst h1
  unfold splice
  rw [List.append_assoc xs zs us, List.take_left, ← h2, ← List.drop_drop, List.drop_left, List.drop_left]
theorem build_co (w : World) (x : Co) : (Instr.build 168 #[(0, IdV x.tree), (1, x.pv.v), (2, Str x.msg)]).run Tryz.prog w = .ok (eCo.val x) w := by
  refine run_build_struct (places := #[(0, 32), (32, 1), (33, 1)]) Tryz.underlying168 w (zeroCo_run w) (by first | kernel_rfl | rfl) ?_
  show Instr.fill _ (encCo zeroCo).toArray [(0, IdV x.tree), (1, x.pv.v), (2, Str x.msg)] = some (encCo x).toArray
  rw [ofill_three _ _ _ _ _ _ _ _ (x.tree.map B8) [x.pv.v] [Str x.msg] 0 32 33 32 1 1 rfl rfl rfl rfl rfl rfl (by simp [x.h]) rfl rfl (by simp [x.h, encCo, zeroCo, zeroID]) (by simp [encCo, zeroCo, zeroID]) (by simp [encCo, zeroCo, zeroID])]
  have e1 : splice 0 (x.tree.map B8) (encCo zeroCo) = x.tree.map B8 ++ [nilSl.v, Str []] := splice_in 0 (x.tree.map B8) [] (zeroID.map B8) _ rfl (by simp [x.h]; rfl)
  have e3 : splice 32 [x.pv.v] (x.tree.map B8 ++ [nilSl.v, Str []]) = x.tree.map B8 ++ [x.pv.v] ++ [Str []] := by
    rw [show x.tree.map B8 ++ [nilSl.v, Str []] = x.tree.map B8 ++ [nilSl.v] ++ [Str []] by simp]
    exact splice_in 32 [x.pv.v] (x.tree.map B8) [nilSl.v] [Str []] (by simp [x.h]) rfl
  rw [e1, e3]
  have e2 := splice_in 33 [Str x.msg] (x.tree.map B8 ++ [x.pv.v]) [Str []] [] (by simp [x.h]) rfl
  rw [List.append_nil, List.append_nil] at e2
  rw [e2]
  simp [encCo]
theorem build_tg (w : World) (x : Tg) : (Instr.build 171 #[(0, LkV x.tg), (1, Str x.msg)]).run Tryz.prog w = .ok (eTg.val x) w := by
  refine run_build_struct (places := #[(0, 33), (33, 1)]) Tryz.underlying171 w (zeroTg_run w) (by first | kernel_rfl | rfl) ?_
  show Instr.fill _ (encTg zeroTg).toArray [(0, LkV x.tg), (1, Str x.msg)] = some (encTg x).toArray
  rw [ofill_two _ _ _ _ _ _ (encL x.tg) [Str x.msg] 0 33 33 1 rfl rfl rfl rfl (encL_length _) rfl (by simp [encL_length, encTg]) (by simp [encL_length, encTg])]
  have e1 : splice 0 (encL x.tg) (encTg zeroTg) = encL x.tg ++ [Str []] := splice_in 0 (encL x.tg) [] (encL zeroLk) _ rfl (by rw [encL_length, encL_length])
  have e2 := splice_in 33 [Str x.msg] (encL x.tg) [Str []] [] (encL_length _) rfl
  rw [List.append_nil, List.append_nil] at e2
  rw [e1, e2]
  rfl
theorem build_lk (w : World) (x : Lk) : (Instr.build 28 #[(0, .int .i64 x.kd), (1, IdV x.id)]).run Tryz.prog w = .ok (eLk.val x) w := by
  refine run_build_struct (places := #[(0, 1), (1, 32)]) Tryz.underlying28 w (zeroLk_run w) (by first | kernel_rfl | rfl) ?_
  show Instr.fill _ (encL zeroLk).toArray [(0, .int .i64 x.kd), (1, IdV x.id)] = some (encL x).toArray
  rw [ofill_two _ _ _ _ _ _ [.int .i64 x.kd] (x.id.map B8) 0 1 1 32 rfl rfl rfl rfl rfl (by simp [x.h]) (by simp [encL_length]) (by simp [encL_length, x.h])]
  have e1 : splice 0 [Value.int .i64 x.kd] (encL zeroLk) = Value.int .i64 x.kd :: (zeroID.map B8) := rfl
  have e2 := splice_in 1 (x.id.map B8) [Value.int .i64 x.kd] (zeroID.map B8) [] rfl (by simp [x.h]; rfl)
  rw [List.append_nil, List.append_nil] at e2
  rw [e1]
  show some (splice 1 (x.id.map B8) ([Value.int .i64 x.kd] ++ zeroID.map B8)).toArray = _
  rw [e2]
  rfl

abbrev obPlaces : Array (Nat × Nat) := #[(0, 1), (1, 1), (2, 1), (3, 32), (35, 1), (36, 33), (69, 1)]
theorem ob_places (w : World) : ∃ fs, Tryz.prog.underlying 30 = some (.struct fs) ∧ (fs.mapM fun f => do pure (f.offset, ← sizeOf f.type) : Sem (Array (Nat × Nat))).run Tryz.prog w = .ok obPlaces w := ⟨_, Tryz.underlying30, by first | kernel_rfl | rfl⟩
/-- An object's cells, part by part. -/
theorem encO_set_kd (o : Ob) (k : Int) : splice 0 [.int .i64 k] (encO o) = encO { o with kd := k } := rfl
theorem encO_set_dv (o : Ob) (s : Sl) : splice 1 [s.v] (encO o) = encO { o with dv := s } := rfl
theorem encO_set_ev (o : Ob) (s : Sl) : splice 2 [s.v] (encO o) = encO { o with ev := s } := rfl
theorem encO_parts (o : Ob) : encO o = [.int .i64 o.kd, o.dv.v, o.ev.v] ++ o.tree.map B8 ++ (o.pv.v :: (encL o.tg ++ [Str o.msg])) := by simp [encO]
theorem encO_parts2 (o : Ob) : encO o = ([.int .i64 o.kd, o.dv.v, o.ev.v] ++ o.tree.map B8) ++ [o.pv.v] ++ (encL o.tg ++ [Str o.msg]) := by simp [encO]
theorem encO_parts3 (o : Ob) : encO o = ([.int .i64 o.kd, o.dv.v, o.ev.v] ++ o.tree.map B8 ++ [o.pv.v]) ++ encL o.tg ++ [Str o.msg] := by simp [encO]
theorem encO_parts4 (o : Ob) : encO o = ([.int .i64 o.kd, o.dv.v, o.ev.v] ++ o.tree.map B8 ++ [o.pv.v] ++ encL o.tg) ++ [Str o.msg] ++ [] := by simp [encO]
theorem encO_set_tree (o : Ob) (t : List UInt8) (h : t.length = 32) : splice 3 (t.map B8) (encO o) = encO { o with tree := t, h := h } := by
  rw [encO_parts o, encO_parts, splice_in 3 (t.map B8) _ (o.tree.map B8) _ rfl (by simp [o.h, h])]
theorem encO_set_pv (o : Ob) (s : Sl) : splice 35 [s.v] (encO o) = encO { o with pv := s } := by
  rw [encO_parts2 o, encO_parts2, splice_in 35 [s.v] _ [o.pv.v] _ (by simp [o.h]) rfl]
theorem encO_set_tg (o : Ob) (t : Lk) : splice 36 (encL t) (encO o) = encO { o with tg := t } := by
  rw [encO_parts3 o, encO_parts3, splice_in 36 (encL t) _ (encL o.tg) _ (by simp [o.h]) (by rw [encL_length, encL_length])]
theorem encO_set_msg (o : Ob) (m : List UInt8) : splice 69 [Str m] (encO o) = encO { o with msg := m } := by
  rw [encO_parts4 o, encO_parts4, splice_in 69 [Str m] _ [Str o.msg] _ (by simp [o.h, encL_length]) rfl]
theorem encO_length (o : Ob) : (encO o).length = 70 := eOb.len o
theorem build_blobO (w : World) (k : Int) (s : Sl) : (Instr.build 30 #[(0, .int .i64 k), (1, s.v)]).run Tryz.prog w = .ok (ObV { zeroOb with kd := k, dv := s }) w := by
  obtain ⟨fs, hu, hp⟩ := ob_places w
  refine run_build_struct hu w (zeroOb_run w) hp ?_
  show Instr.fill _ (encO zeroOb).toArray [(0, .int .i64 k), (1, s.v)] = _
  rw [ofill_two _ _ _ _ _ _ [.int .i64 k] [s.v] 0 1 1 1 rfl rfl rfl rfl rfl rfl (by rw [encO_length]; simp) (by rw [encO_length]; simp), encO_set_kd, encO_set_dv]
theorem build_treeO (w : World) (k : Int) (s : Sl) : (Instr.build 30 #[(0, .int .i64 k), (2, s.v)]).run Tryz.prog w = .ok (ObV { zeroOb with kd := k, ev := s }) w := by
  obtain ⟨fs, hu, hp⟩ := ob_places w
  refine run_build_struct hu w (zeroOb_run w) hp ?_
  show Instr.fill _ (encO zeroOb).toArray [(0, .int .i64 k), (2, s.v)] = _
  rw [ofill_two _ _ _ _ _ _ [.int .i64 k] [s.v] 0 2 1 1 rfl rfl rfl rfl rfl rfl (by rw [encO_length]; simp) (by rw [encO_length]; simp), encO_set_kd, encO_set_ev]
theorem build_commitO (w : World) (k : Int) (x : Co) : (Instr.build 30 #[(0, .int .i64 k), (3, IdV x.tree), (4, x.pv.v), (6, Str x.msg)]).run Tryz.prog w = .ok (ObV { zeroOb with kd := k, tree := x.tree, pv := x.pv, msg := x.msg, h := x.h }) w := by
  obtain ⟨fs, hu, hp⟩ := ob_places w
  refine run_build_struct hu w (zeroOb_run w) hp ?_
  show Instr.fill _ (encO zeroOb).toArray [(0, .int .i64 k), (3, IdV x.tree), (4, x.pv.v), (6, Str x.msg)] = _
  rw [ofill_four _ _ _ _ _ _ _ _ _ _ [.int .i64 k] (x.tree.map B8) [x.pv.v] [Str x.msg] 0 3 35 69 1 32 1 1 rfl rfl rfl rfl rfl rfl rfl rfl rfl (by simp [x.h]) rfl rfl (by rw [encO_length]; simp) (by rw [encO_length]; simp [x.h]) (by rw [encO_length]; simp) (by rw [encO_length]; simp), encO_set_kd, encO_set_tree _ _ x.h, encO_set_pv, encO_set_msg]
theorem build_tagO (w : World) (k : Int) (x : Tg) : (Instr.build 30 #[(0, .int .i64 k), (5, LkV x.tg), (6, Str x.msg)]).run Tryz.prog w = .ok (ObV { zeroOb with kd := k, tg := x.tg, msg := x.msg }) w := by
  obtain ⟨fs, hu, hp⟩ := ob_places w
  refine run_build_struct hu w (zeroOb_run w) hp ?_
  show Instr.fill _ (encO zeroOb).toArray [(0, .int .i64 k), (5, LkV x.tg), (6, Str x.msg)] = _
  rw [ofill_three _ _ _ _ _ _ _ _ [.int .i64 k] (encL x.tg) [Str x.msg] 0 36 69 1 33 1 rfl rfl rfl rfl rfl rfl rfl (encL_length _) rfl (by rw [encO_length]; simp) (by rw [encO_length, encL_length]; simp) (by rw [encO_length]; simp), encO_set_kd, encO_set_tg, encO_set_msg]
end Go.Proofs.YtljihmbmjpcfaaaGreat
namespace Go.Proofs.YtljihmbmjpcfaaaGreat
open Go.RowKit Go.Shelf Go.Great
set_option maxRecDepth 100000

theorem lk_id (x : Lk) : List.take 32 (encL x).tail = x.id.map B8 := by
  rw [encL, List.tail_cons, List.take_of_length_le (by simp [x.h])]
theorem en_id (x : En) : List.take 32 (List.drop 2 (encE x)) = x.id.map B8 := by
  rw [encE, List.drop_succ_cons, List.drop_succ_cons, List.drop_zero, List.take_of_length_le (by simp [x.h])]
theorem aggID (w : World) : (isAgg 25).run Tryz.prog w = .ok true w := by simp [isAgg, run_underlying Tryz.underlying25]
theorem sizeIDrun (w : World) : (sizeOf 25).run Tryz.prog w = .ok 32 w := by
  obtain ⟨i0, hi0, hz0, hz1, hz2⟩ := info_parts infoID3
  simp [sizeOf, typeInfo, hi0, hz1]
theorem part_lk (w : World) (x : Lk) : (part 25 (encL x).toArray 1).run Tryz.prog w = .ok (IdV x.id) w := by
  simp [part, lk_id]
theorem part_en (w : World) (x : En) : (part 25 (encE x).toArray 2).run Tryz.prog w = .ok (IdV x.id) w := by
  simp [part, en_id]
theorem eqId_run (w : World) (xs ys : List UInt8) (hx : xs.length = 32) (hy : ys.length = 32) (d : Nat) : (Op.equalIn (d + 2) 25 (IdV xs) (IdV ys)).run Tryz.prog w = .ok (xs == ys) w :=
  run_equalIn_bytes (P := Tryz.prog) w d 25 5 32 Tryz.underlying25 Tryz.underlying5 size1 xs ys hx hy
theorem lk_ext (x y : Lk) : (x = y) ↔ x.kd = y.kd ∧ x.id = y.id := by
  obtain ⟨k, i, h⟩ := x
  obtain ⟨k', i', h'⟩ := y
  constructor
  · intro h; cases h; exact ⟨rfl, rfl⟩
  · rintro ⟨h1, h2⟩
    dsimp only at h1 h2
    subst h1 h2
    rfl
theorem en_ext (x y : En) : (x = y) ↔ x.nm = y.nm ∧ x.kd = y.kd ∧ x.id = y.id := by
  obtain ⟨n, k, i, h⟩ := x
  obtain ⟨n', k', i', h'⟩ := y
  constructor
  · intro h; cases h; exact ⟨rfl, rfl, rfl⟩
  · rintro ⟨h0, h1, h2⟩
    dsimp only at h0 h1 h2
    subst h0 h1 h2
    rfl
theorem eqLk_run (w : World) (x y : Lk) : (Op.equalIn 10000 28 (LkV x) (LkV y)).run Tryz.prog w = .ok (decide (x = y)) w := by
  have hx0 : (encL x)[0]? = some (.int .i64 x.kd) := rfl
  have hy0 : (encL y)[0]? = some (.int .i64 y.kd) := rfl
  have hi : (Op.equalIn 9999 25 (IdV x.id) (IdV y.id)).run Tryz.prog w = _ := eqId_run w x.id y.id x.h y.h 9997
  rw [run_equalIn_agg (P := Tryz.prog) w 9999 28 _ _ (by kernel_rfl) (by kernel_rfl)]
  simp only [Program.fieldsOf, Tryz.underlying28]
  go_simp
  simp only [lk_id, Result.andThen_ok, hi]
  go_simp
  by_cases h1 : x.kd = y.kd
  · by_cases h2 : x.id = y.id
    · have : x = y := (lk_ext x y).2 ⟨h1, h2⟩
      simp [this]
    · have : ¬ x = y := fun h => h2 ((lk_ext x y).1 h).2
      simp [h1, h2, this]
  · have : ¬ x = y := fun h => h1 ((lk_ext x y).1 h).1
    simp [h1, this]
theorem eqEn_run (w : World) (x y : En) : (Op.equalIn 10000 70 (EnV x) (EnV y)).run Tryz.prog w = .ok (decide (x = y)) w := by
  have hx0 : (encE x)[0]? = some (Str x.nm) := rfl
  have hy0 : (encE y)[0]? = some (Str y.nm) := rfl
  have hx1 : (encE x)[1]? = some (.int .i64 x.kd) := rfl
  have hy1 : (encE y)[1]? = some (.int .i64 y.kd) := rfl
  have hi : (Op.equalIn 9999 25 (IdV x.id) (IdV y.id)).run Tryz.prog w = _ := eqId_run w x.id y.id x.h y.h 9997
  rw [run_equalIn_agg (P := Tryz.prog) w 9999 70 _ _ (by kernel_rfl) (by kernel_rfl)]
  simp only [Program.fieldsOf, Tryz.underlying70]
  go_simp
  simp only [en_id, Result.andThen_ok, hi]
  go_simp
  by_cases h0 : x.nm = y.nm
  · by_cases h1 : x.kd = y.kd
    · by_cases h2 : x.id = y.id
      · have : x = y := (en_ext x y).2 ⟨h0, h1, h2⟩
        simp [this]
      · have : ¬ x = y := fun h => h2 ((en_ext x y).1 h).2.2
        simp [h0, h1, h2, this]
    · have : ¬ x = y := fun h => h1 ((en_ext x y).1 h).2.1
      simp [h0, h1, this]
  · have : ¬ x = y := fun h => h0 ((en_ext x y).1 h).1
    simp [h0, this]
theorem exec_cmp_lk {o : Oper} {a : Act} {p q : Operand} {x y : Lk} {w : World} (ho : o.op = .binOp .neq 28 p q 28) (hp : a.eval p = LkV x) (hq : a.eval q = LkV y) : (execOp a.eval o).run Tryz.prog w = .ok (.value (.bool (!decide (x = y)))) w := by
  have hg := run_eqGuard_agg (P := Tryz.prog) (w := w) .neq 28 p q (encL x).toArray (encL y).toArray (by kernel_rfl)
  have h := eqLk_run w x y
  have hn : (binOp .neq 28 (LkV x) (LkV y)).run Tryz.prog w = .ok (.bool (!decide (x = y))) w := by
    rw [run_neq_struct, h]
    rfl
  unfold execOp
  simp only [ho, hp, hq, Sem.run_bind, hg, hn, Result.andThen_ok, Sem.run_pure]
theorem exec_eql_lk {o : Oper} {a : Act} {p q : Operand} {x y : Lk} {w : World} (ho : o.op = .binOp .eql 28 p q 28) (hp : a.eval p = LkV x) (hq : a.eval q = LkV y) : (execOp a.eval o).run Tryz.prog w = .ok (.value (.bool (decide (x = y)))) w := by
  have hg := run_eqGuard_agg (P := Tryz.prog) (w := w) .eql 28 p q (encL x).toArray (encL y).toArray (by kernel_rfl)
  have h := eqLk_run w x y
  have hn : (binOp .eql 28 (LkV x) (LkV y)).run Tryz.prog w = .ok (.bool (decide (x = y))) w := by
    rw [run_eql_struct, h]
    rfl
  unfold execOp
  simp only [ho, hp, hq, Sem.run_bind, hg, hn, Result.andThen_ok, Sem.run_pure]
theorem exec_neq_en {o : Oper} {a : Act} {p q : Operand} {x y : En} {w : World} (ho : o.op = .binOp .neq 70 p q 70) (hp : a.eval p = EnV x) (hq : a.eval q = EnV y) : (execOp a.eval o).run Tryz.prog w = .ok (.value (.bool (!decide (x = y)))) w := by
  have hg := run_eqGuard_agg (P := Tryz.prog) (w := w) .neq 70 p q (encE x).toArray (encE y).toArray (by kernel_rfl)
  have h := eqEn_run w x y
  have hn : (binOp .neq 70 (EnV x) (EnV y)).run Tryz.prog w = .ok (.bool (!decide (x = y))) w := by
    rw [run_neq_struct, h]
    rfl
  unfold execOp
  simp only [ho, hp, hq, Sem.run_bind, hg, hn, Result.andThen_ok, Sem.run_pure]
theorem exec_eqlI {o : Oper} {a : Act} {p q : Operand} {x y : List UInt8} {w : World} (ho : o.op = .binOp .eql 25 p q 25) (hp : a.eval p = IdV x) (hq : a.eval q = IdV y) (hx : x.length = 32) (hy : y.length = 32) : (execOp a.eval o).run Tryz.prog w = .ok (.value (.bool (decide (x = y)))) w := by
  have hg := run_eqGuard_agg (P := Tryz.prog) (w := w) .eql 25 p q (x.map B8).toArray (y.map B8).toArray (by kernel_rfl)
  have h := eql_id w hx hy
  rw [show (x == y) = decide (x = y) by by_cases e : x = y <;> simp [e]] at h
  unfold execOp
  simp only [ho, hp, hq, Sem.run_bind, hg, h, Result.andThen_ok, Sem.run_pure]
theorem exec_neqI {o : Oper} {a : Act} {p q : Operand} {x y : List UInt8} {w : World} (ho : o.op = .binOp .neq 25 p q 25) (hp : a.eval p = IdV x) (hq : a.eval q = IdV y) (hx : x.length = 32) (hy : y.length = 32) : (execOp a.eval o).run Tryz.prog w = .ok (.value (.bool (!decide (x = y)))) w := by
  have hg := run_eqGuard_agg (P := Tryz.prog) (w := w) .neq 25 p q (x.map B8).toArray (y.map B8).toArray (by kernel_rfl)
  have h := neq_id w hx hy
  rw [show (x == y) = decide (x = y) by by_cases e : x = y <;> simp [e]] at h
  unfold execOp
  simp only [ho, hp, hq, Sem.run_bind, hg, h, Result.andThen_ok, Sem.run_pure]
end Go.Proofs.YtljihmbmjpcfaaaGreat
namespace Go.Proofs.YtljihmbmjpcfaaaGreat
open Go.RowKit Go.Shelf Go.Great
set_option maxRecDepth 100000

abbrev BoxBlob (W : World) (g : Nat) (s : Sl) : Prop := Boxed W g 162 s.v
abbrev BoxTree (W : World) (g : Nat) (s : Sl) : Prop := Boxed W g 165 s.v
abbrev BoxCo (W : World) (g : Nat) (x : Co) : Prop := BoxE eCo 168 W g x
abbrev BoxTg (W : World) (g : Nat) (x : Tg) : Prop := BoxE eTg 171 W g x
abbrev Ob.co (o : Ob) : Co := ⟨o.tree, o.pv, o.msg, o.h⟩
abbrev Ob.tag (o : Ob) : Tg := ⟨o.tg, o.msg⟩
/-- A body, in memory. -/
inductive BodyAt (W : World) (o : Ob) : Value → Prop
  | blob (g : Nat) (hk : o.kd = 1) (h : BoxBlob W g o.dv) : BodyAt W o (.iface 160 (.pointer (some ⟨g, 0, none⟩)))
  | tree (g : Nat) (hk : o.kd = 2) (h : BoxTree W g o.ev) : BodyAt W o (.iface 163 (.pointer (some ⟨g, 0, none⟩)))
  | commit (g : Nat) (hk : o.kd = 3) (h : BoxCo W g o.co) : BodyAt W o (.iface 166 (.pointer (some ⟨g, 0, none⟩)))
  | tag (g : Nat) (hk : o.kd = 4) (h : BoxTg W g o.tag) : BodyAt W o (.iface 169 (.pointer (some ⟨g, 0, none⟩)))
  | none (hk : ¬ (1 ≤ o.kd ∧ o.kd ≤ 4)) : BodyAt W o .nilIface

theorem ob_kd0 {w w' : World} {g : Nat} {o : Ob} (h : BoxE eOb 30 w g o) (hb : Below w.heap.size w w') : w'.cell? ⟨g, 0, none⟩ = some (.int .i64 o.kd) := ObAt.kd (h.below hb).at


theorem wpList_build_co {ops : Array Oper} {rest : List Oper} {o : Oper} {a : Act} {w : World} {Q : Exit → Act → World → Prop} (hg : o.guard = none) (p q r : Operand) (ho : o.op = .build 168 #[(0, p), (1, q), (2, r)]) (x : Co) (h1 : a.eval p = IdV x.tree) (h2 : a.eval q = x.pv.v) (h3 : a.eval r = Str x.msg)
    (h : wpList Tryz.prog ops Q rest (a.put o.dst (eCo.val x)) w) : wpList Tryz.prog ops Q (o :: rest) a w :=
  wpList_build_of hg _ _ ho #[(0, IdV x.tree), (1, x.pv.v), (2, Str x.msg)] (by simp [h1, h2, h3]) _ (build_co w x) h
theorem wpList_build_tg {ops : Array Oper} {rest : List Oper} {o : Oper} {a : Act} {w : World} {Q : Exit → Act → World → Prop} (hg : o.guard = none) (p q : Operand) (ho : o.op = .build 171 #[(0, p), (1, q)]) (x : Tg) (h1 : a.eval p = LkV x.tg) (h2 : a.eval q = Str x.msg)
    (h : wpList Tryz.prog ops Q rest (a.put o.dst (eTg.val x)) w) : wpList Tryz.prog ops Q (o :: rest) a w :=
  wpList_build_of hg _ _ ho #[(0, LkV x.tg), (1, Str x.msg)] (by simp [h1, h2]) _ (build_tg w x) h
set_option maxHeartbeats 1000000 in
theorem oOfKind_any (w : World) (o : Ob) :
    Calls Tryz.prog 51 #[ObV o] w fun e W' => ∃ v, e = .returned v ∧ BodyAt W' o v ∧ Below w.heap.size w W' := by
  have b1 : BoxE eOb 30 (w.alloc (.cells (encO o).toArray 30)) w.heap.size o := BoxE.new w o
  have hB1 : Below w.heap.size w (w.alloc (.cells (encO o).toArray 30)) := (Below.refl _ w).alloc (Nat.le_refl _) _
  have c0 := ObAt.kd b1.at
  have c1 := ObAt.dv b1.at
  have c2 := ObAt.ev b1.at
  have c3 := ObAt.tree b1.at
  have c4 := ObAt.pv b1.at
  have c5 := ObAt.tg b1.at
  have c6 := ObAt.msg b1.at
  simp only [Nat.zero_add] at c0 c1 c2 c3 c4 c5 c6
  by_cases h1 : o.kd = 1
  · go_enter Tryz.func51, Tryz.ntmps51
    go_wp2_with fail
    go_ret
    refine ⟨_, rfl, .blob _ h1 ?_, hB1.alloc hB1.size _⟩
    have := Boxed.new (w.alloc (.cells (encO o).toArray 30)) 162 o.dv.v
    rwa [World.size_alloc] at this
  by_cases h2 : o.kd = 2
  · go_enter Tryz.func51, Tryz.ntmps51
    go_wp2_with fail
    go_ret
    refine ⟨_, rfl, .tree _ h2 ?_, hB1.alloc hB1.size _⟩
    have := Boxed.new (w.alloc (.cells (encO o).toArray 30)) 165 o.ev.v
    rwa [World.size_alloc] at this
  by_cases h3 : o.kd = 3
  · have hh := o.h
    go_enter Tryz.func51, Tryz.ntmps51
    go_wp2_with (first
      | (refine wpList_load_id rfl (.tmp 21) rfl rfl hh c3 ?_)
      | (refine wpList_build_co rfl (.tmp 22) (.tmp 24) (.tmp 26) rfl o.co rfl rfl rfl ?_))
    go_ret
    refine ⟨_, rfl, .commit _ h3 ?_, hB1.alloc hB1.size _⟩
    have : BoxCo _ _ o.co := BoxE.new (w.alloc (.cells (encO o).toArray 30)) o.co
    rwa [World.size_alloc] at this
  by_cases h4 : o.kd = 4
  · go_enter Tryz.func51, Tryz.ntmps51
    go_wp2_with (first
      | (refine elLk.wpLoad rfl (.tmp 32) rfl rfl c5 ?_)
      | (refine wpList_build_tg rfl (.tmp 33) (.tmp 35) rfl o.tag rfl rfl ?_))
    go_ret
    refine ⟨_, rfl, .tag _ h4 ?_, hB1.alloc hB1.size _⟩
    have : BoxTg _ _ o.tag := BoxE.new (w.alloc (.cells (encO o).toArray 30)) o.tag
    rwa [World.size_alloc] at this
  go_enter Tryz.func51, Tryz.ntmps51
  go_wp2_with fail
  go_ret
  exact ⟨_, rfl, .none (by omega), hB1⟩
end Go.Proofs.YtljihmbmjpcfaaaGreat
namespace Go.Proofs.YtljihmbmjpcfaaaGreat
open Go.RowKit
set_option maxRecDepth 100000

theorem div64 {n : Nat} (h : n / 64 = 2) : 128 ≤ n := by omega
def DecOk (s : ByteArray) (i : Nat) (d : Nat × Nat) : Prop := 128 ≤ d.1 ∧ (d.1 = 65533 ∨ Utf8.valid d.1 = true) ∧ d.1 < 2147483648 ∧ 1 ≤ d.2 ∧ i + d.2 ≤ s.size ∧ ∀ j, i ≤ j → j < i + d.2 → 128 ≤ (s.get! j).toNat
theorem DecOk.err {s : ByteArray} {i : Nat} (h : i < s.size) (h128 : 128 ≤ (s.get! i).toNat) : DecOk s i (Utf8.runeError, 1) :=
  ⟨by decide, .inl rfl, by decide, by decide, h, fun j hj1 hj2 => by
    obtain rfl : j = i := by
      have : j < i + 1 := hj2
      omega
    exact h128⟩
theorem DecOk.mk' {s : ByteArray} {i c n : Nat} (h1 : 128 ≤ c) (h2 : Utf8.valid c = true) (h3 : c < 2147483648) (h4 : 1 ≤ n) (h5 : i + n ≤ s.size) (h6 : ∀ k, k < n → 128 ≤ (s.get! (i + k)).toNat) : DecOk s i (c, n) :=
  ⟨h1, .inr h2, h3, h4, h5, fun j hj1 hj2 => by
    have hj2' : j < i + n := hj2
    have := h6 (j - i) (by omega)
    rwa [show i + (j - i) = j by omega] at this⟩
theorem decode_hi (s : ByteArray) (i : Nat) (h : i < s.size) (h128 : 128 ≤ (s.get! i).toNat) : DecOk s i (Utf8.decode s i) := by
  have hb : (s.get! i).toNat < 256 := (s.get! i).toNat_lt
  unfold Utf8.decode
  dsimp only [Nat.add_zero]
  rw [if_neg (by omega)]
  split
  · next h1 =>
    simp only [Bool.and_eq_true, beq_iff_eq, decide_eq_true_eq] at h1
    obtain ⟨h2, h3, h4⟩ := h1
    have h4' := div64 h4
    split
    · next h5 =>
      have hlt : (s.get! i).toNat % 32 * 64 + (s.get! (i + 1)).toNat % 64 < 2048 := by omega
      refine .mk' h5 ?_ (by omega) (by omega) (by omega) fun k hk => ?_
      · simp only [Utf8.valid, Bool.or_eq_true, Bool.and_eq_true, decide_eq_true_eq]
        left
        omega
      · have : k = 0 ∨ k = 1 := by omega
        rcases this with rfl | rfl
        · exact h128
        · exact h4'
    · exact .err h h128
  · split
    · next h1 =>
      simp only [Bool.and_eq_true, beq_iff_eq, decide_eq_true_eq] at h1
      obtain ⟨⟨h2, h3, h4⟩, h5, h6⟩ := h1
      have h4' := div64 h4
      have h6' := div64 h6
      split
      · next h7 =>
        simp only [Bool.and_eq_true, decide_eq_true_eq] at h7
        obtain ⟨h7, h8⟩ := h7
        refine .mk' (by omega) h8 (by omega) (by omega) (by omega) fun k hk => ?_
        have : k = 0 ∨ k = 1 ∨ k = 2 := by omega
        rcases this with rfl | rfl | rfl
        · exact h128
        · exact h4'
        · exact h6'
      · exact .err h h128
    · split
      · next h1 =>
        simp only [Bool.and_eq_true, beq_iff_eq, decide_eq_true_eq] at h1
        obtain ⟨⟨⟨h2, h3, h4⟩, h5, h6⟩, h7, h8⟩ := h1
        have h4' := div64 h4
        have h6' := div64 h6
        have h8' := div64 h8
        split
        · next h9 =>
          simp only [Bool.and_eq_true, decide_eq_true_eq] at h9
          obtain ⟨h9, h10⟩ := h9
          refine .mk' (by omega) h10 (by omega) (by omega) (by omega) fun k hk => ?_
          have : k = 0 ∨ k = 1 ∨ k = 2 ∨ k = 3 := by omega
          rcases this with rfl | rfl | rfl | rfl
          · exact h128
          · exact h4'
          · exact h6'
          · exact h8'
        · exact .err h h128
      · exact .err h h128
/-- What is encoded of a rune from 128 on ends in a byte from 128 on, and has two bytes or more. -/
theorem encode_hi (r : Nat) (h : 128 ≤ r) (hv : Utf8.valid r = true) : ∃ xs : List UInt8, Utf8.encode r = ⟨xs.toArray⟩ ∧ 2 ≤ xs.length ∧ xs.length ≤ 4 ∧ ∀ b ∈ xs, b ≠ 0 := by
  unfold Utf8.encode
  rw [if_pos hv]
  dsimp only
  have hr : (r : Int).toNat = r := by omega
  have hmax : r ≤ 1114111 := by
    simp only [Utf8.valid, Bool.or_eq_true, Bool.and_eq_true, decide_eq_true_eq] at hv
    omega
  have nz : ∀ n : Nat, 0 < n → n < 256 → UInt8.ofNat n ≠ 0 := fun n h1 h2 e => by
    have := congrArg UInt8.toNat e
    simp [Nat.mod_eq_of_lt h2] at this
    omega
  rw [hr, if_neg (by omega)]
  split
  · exact ⟨[_, _], rfl, by simp, by simp, fun b hb => by
      simp only [List.mem_cons, List.not_mem_nil, or_false] at hb
      rcases hb with rfl | rfl <;> exact nz _ (by omega) (by omega)⟩
  · split
    · exact ⟨[_, _, _], rfl, by simp, by simp, fun b hb => by
        simp only [List.mem_cons, List.not_mem_nil, or_false] at hb
        rcases hb with rfl | rfl | rfl <;> exact nz _ (by omega) (by omega)⟩
    · exact ⟨[_, _, _, _], rfl, by simp, by simp, fun b hb => by
        simp only [List.mem_cons, List.not_mem_nil, or_false] at hb
        rcases hb with rfl | rfl | rfl | rfl <;> exact nz _ (by omega) (by omega)⟩
end Go.Proofs.YtljihmbmjpcfaaaGreat
