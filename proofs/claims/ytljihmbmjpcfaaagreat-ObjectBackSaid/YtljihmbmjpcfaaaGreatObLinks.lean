/- Plain objects; how one lies in memory; boxes in the walk. Is an object more than statements go through: the reference's Great. The objects that have a body, and nothing else: the program's (tools/genobobject.py). A list of one element, laid. What bodies refer to: the program's (tools/genlinks.py). -/
import Derived.Test.YtljihmbmjpcfaaaGreatObjSames
import Derived.Test.YtljihmbmjpcfaaaGreatObjMays
import Derived.Test.YtljihmbmjpcfaaaGreatListStep
import Derived.Test.YtljihmbmjpcfaaaGreatOneE
namespace Go.Proofs.YtljihmbmjpcfaaaGreat
open Go.RowKit Go.Shelf Go.Great
set_option maxRecDepth 100000

/-- An object, plainly. -/
structure Pl where
  kd : Int
  d : List UInt8
  es : List En
  tree : List UInt8
  ps : List (List UInt8)
  tg : Lk
  msg : List UInt8
deriving DecidableEq
theorem pl_ext (p q : Pl) : p = q ↔ p.kd = q.kd ∧ p.d = q.d ∧ p.es = q.es ∧ p.tree = q.tree ∧ p.ps = q.ps ∧ p.tg = q.tg ∧ p.msg = q.msg := by
  obtain ⟨a, b, c, d, e, f, g⟩ := p
  obtain ⟨a', b', c', d', e', f', g'⟩ := q
  constructor
  · intro h; cases h; exact ⟨rfl, rfl, rfl, rfl, rfl, rfl, rfl⟩
  · rintro ⟨h1, h2, h3, h4, h5, h6, h7⟩
    dsimp only at h1 h2 h3 h4 h5 h6 h7
    subst h1 h2 h3 h4 h5 h6 h7
    rfl
/-- The object value is that plain one. -/
structure ObIs (W : World) (o : Ob) (p : Pl) : Prop where
  kd : o.kd = p.kd
  d : Bs W o.dv.v p.d
  es : Es eEn W o.ev.v p.es
  tree : o.tree = p.tree
  ps : Is W o.pv.v p.ps
  tg : o.tg = p.tg
  msg : o.msg = p.msg
theorem ObIs.below {w w' : World} {o : Ob} {p : Pl} (h : ObIs w o p) (hb : Below w.heap.size w w') : ObIs w' o p := ⟨h.kd, h.d.below hb, h.es.below hb, h.tree, h.ps.below hb, h.tg, h.msg⟩
/-- No more than statements go through. -/
structure PlSmall (p : Pl) : Prop where
  d : p.d.length ≤ 100000
  es : p.es.length ≤ 1000
  ps : p.ps.length ≤ 1000
/-- The cells of an object in a variable. -/
structure ObC (W : World) (g : Nat) (o : Ob) : Prop where
  kd : W.cell? ⟨g, 0, none⟩ = some (.int .i64 o.kd)
  dv : W.cell? ⟨g, 1, none⟩ = some (.slice o.dv.A o.dv.n o.dv.c)
  ev : W.cell? ⟨g, 2, none⟩ = some (.slice o.ev.A o.ev.n o.ev.c)
  tree : IdAt W g 3 o.tree
  pv : W.cell? ⟨g, 35, none⟩ = some (.slice o.pv.A o.pv.n o.pv.c)
  tg : ElAt eLk W g 36 o.tg
  msg : W.cell? ⟨g, 69, none⟩ = some (Str o.msg)
abbrev BoxOb (W : World) (g : Nat) (o : Ob) : Prop := BoxE eOb 30 W g o
theorem BoxE.obc {W : World} {g : Nat} {o : Ob} (h : BoxOb W g o) : ObC W g o := by
  have c0 := ObAt.kd h.at
  have c1 := ObAt.dv h.at
  have c2 := ObAt.ev h.at
  have c3 := ObAt.tree h.at
  have c4 := ObAt.pv h.at
  have c5 := ObAt.tg h.at
  have c6 := ObAt.msg h.at
  simp only [Nat.zero_add] at c0 c1 c2 c3 c4 c5 c6
  exact ⟨c0, c1, c2, c3, c4, c5, c6⟩
theorem bEqual_any (w : World) (u v : Value) (xs ys : List UInt8) (hx : Bs w u xs) (hy : Bs w v ys) :
    Calls Tryz.prog 54 #[u, v] w fun e W' => e = .returned (.bool (decide (xs = ys))) ∧ Below w.heap.size w W' := by
  have h1 := run_string_bs (P := Tryz.prog) w 22 9 5 Tryz.underlying22 Tryz.underlying5 Tryz.underlying9 hx
  have h2 := run_string_bs (P := Tryz.prog) w 22 9 5 Tryz.underlying22 Tryz.underlying5 Tryz.underlying9 hy
  obtain ⟨A, c, rfl, _⟩ := hx.form
  obtain ⟨B, d, rfl, _⟩ := hy.form
  by_cases he : xs = ys
  · have HE := Lib.hid (decide_eq_true he)
    subst he
    go_enter Tryz.func54, Tryz.ntmps54
    go_wp2_with fail
    go_ret
    exact ⟨rfl, Below.refl _ _⟩
  · have HE := Lib.hid (decide_eq_false he)
    go_enter Tryz.func54, Tryz.ntmps54
    go_wp2_with fail
    go_ret
    exact ⟨by rw [HE.out]; simp [he], Below.refl _ _⟩
end Go.Proofs.YtljihmbmjpcfaaaGreat
namespace Go.Proofs.YtljihmbmjpcfaaaGreat
open Go.RowKit Go.Shelf Go.Great
set_option maxRecDepth 100000

/-- An object that statements go through. -/
structure Fit (p : Pl) : Prop where
  d : p.d.length ≤ 1100
  es : p.es.length ≤ 40
  ps : p.ps.length ≤ 10
  msg : p.msg.length ≤ 300
  nm : ∀ x ∈ p.es, x.nm.length ≤ 100
theorem Fit.small {p : Pl} (h : Fit p) : PlSmall p := ⟨by have := h.d; omega, by have := h.es; omega, by have := h.ps; omega⟩
def GreatOut (p : Pl) (r : Int) : Prop := (r = 0 ∧ Fit p) ∨ r = 1
set_option maxHeartbeats 4000000 in
theorem r7Great_any (w : World) (o : Ob) (p : Pl) (ho : ObIs w o p) :
    Calls Tryz.prog 12 #[ObV o] w fun e W' => ∃ r, e = .returned (.int .i64 r) ∧ GreatOut p r ∧ Below w.heap.size w W' := by
  obtain ⟨A1, c1, e1, _⟩ := ho.d.form
  obtain ⟨A2, c2, e2, hc2⟩ := ho.es.form
  obtain ⟨_, A3, c3, e3, _, _⟩ := ho.ps
  have hmsg := ho.msg
  have HS := Lib.hid ho.es
  clear ho
  obtain ⟨kd, ⟨Ad, nd, cd⟩, ⟨Ae, ne, ce⟩, tree, ⟨Ap, np, cp⟩, tg, msg, h32⟩ := o
  injection e1 with a1 a2 a3
  injection e2 with a4 a5 a6
  injection e3 with a7 a8 a9
  dsimp only at hmsg
  subst a1 a2 a3 a4 a5 a6 a7 a8 a9 hmsg
  replace HS := Lib.hid (show Es eEn w (.slice Ae p.es.length ce) p.es from HS.out)
  generalize hoo : (⟨kd, ⟨Ad, p.d.length, cd⟩, ⟨Ae, p.es.length, ce⟩, tree, ⟨Ap, p.ps.length, cp⟩, tg, p.msg, h32⟩ : Ob) = o
  have f1 : o.dv = ⟨Ad, p.d.length, cd⟩ := by rw [← hoo]
  have f2 : o.ev = ⟨Ae, p.es.length, ce⟩ := by rw [← hoo]
  have f4 : o.pv = ⟨Ap, p.ps.length, cp⟩ := by rw [← hoo]
  have f6 : o.msg = p.msg := by rw [← hoo]
  clear hoo
  obtain ⟨dl, hdl⟩ : ∃ n, n = p.d.length := ⟨_, rfl⟩
  obtain ⟨el, hel⟩ : ∃ n, n = p.es.length := ⟨_, rfl⟩
  obtain ⟨pl, hpl⟩ : ∃ n, n = p.ps.length := ⟨_, rfl⟩
  rw [← hdl] at f1
  rw [← hel] at f2 hc2 HS
  rw [← hpl] at f4
  have HD := Lib.hid hdl
  have HEL := Lib.hid hel
  have HP := Lib.hid hpl
  clear hdl hel hpl
  by_cases h1 : (1100 : Int) < (dl : Int)
  · go_enter Tryz.func12, Tryz.ntmps12
    go_wp2_with (refine wpList_box_e (E := eOb) rfl (.tmp 0) rfl (x := o) rfl ?_; intro w1 b1 hB1; have g1 := b1.obc.dv; rw [f1] at g1)
    go_ret
    exact ⟨1, rfl, .inr rfl, hB1⟩
  by_cases h2 : (40 : Int) < (el : Int)
  · go_enter Tryz.func12, Tryz.ntmps12
    go_wp2_with (refine wpList_box_e (E := eOb) rfl (.tmp 0) rfl (x := o) rfl ?_; intro w1 b1 hB1; have g1 := b1.obc.dv; rw [f1] at g1; have g2 := b1.obc.ev; rw [f2] at g2)
    go_ret
    exact ⟨1, rfl, .inr rfl, hB1⟩
  by_cases h3 : (10 : Int) < (pl : Int)
  · go_enter Tryz.func12, Tryz.ntmps12
    go_wp2_with (refine wpList_box_e (E := eOb) rfl (.tmp 0) rfl (x := o) rfl ?_; intro w1 b1 hB1; have g1 := b1.obc.dv; rw [f1] at g1; have g2 := b1.obc.ev; rw [f2] at g2; have g3 := b1.obc.pv; rw [f4] at g3)
    go_ret
    exact ⟨1, rfl, .inr rfl, hB1⟩
  by_cases h4 : (300 : Int) < (p.msg.length : Int)
  · go_enter Tryz.func12, Tryz.ntmps12
    go_wp2_with (refine wpList_box_e (E := eOb) rfl (.tmp 0) rfl (x := o) rfl ?_; intro w1 b1 hB1; have g1 := b1.obc.dv; rw [f1] at g1; have g2 := b1.obc.ev; rw [f2] at g2; have g3 := b1.obc.pv; rw [f4] at g3; have g4 := b1.obc.msg; rw [f6] at g4)
    go_ret
    exact ⟨1, rfl, .inr rfl, hB1⟩
  have HF := Lib.hid (show (∀ x ∈ p.es, x.nm.length ≤ 100) → Fit p from fun h => ⟨by rw [← HD.out]; omega, by rw [← HEL.out]; omega, by rw [← HP.out]; omega, by omega, h⟩)
  clear hc2 HD HP
  go_enter Tryz.func12, Tryz.ntmps12
  go_wp2_with (refine wpList_box_e (E := eOb) rfl (.tmp 0) rfl (x := o) rfl ?_; intro w1 b1 hB1; have g1 := b1.obc.dv; rw [f1] at g1; have g2 := b1.obc.ev; rw [f2] at g2; have g3 := b1.obc.pv; rw [f4] at g3; have g4 := b1.obc.msg; rw [f6] at g4)
  clear g1 g3 g4 b1
  go_loopw [3] (fun i wr => ∃ k : Nat, k ≤ el ∧ i = .int .i64 k ∧ (∀ x ∈ p.es.take k, x.nm.length ≤ 100) ∧ Below w1.heap.size w1 wr) (fun i _ => el - (RowKit.intOf i).toNat)
  case atStart => exact ⟨0, by omega, rfl, by simp, Below.refl _ _⟩
  case round =>
    obtain ⟨k, hk, rfl, hall, hB⟩ := hrel
    have HA := Lib.hid hall
    clear hall
    have hBw := hB1.trans (hB.mono hB1.size)
    have g2' := cellB hB g2
    by_cases hlt : k < el
    case neg =>
      have hnk : ¬ (k : Int) < (el : Int) := by omega
      have HE := Lib.hid (HF.out (by
        have := HA.out
        rwa [List.take_of_length_le (by rw [← HEL.out]; omega)] at this))
      clear hlt
      go_wp2_with fail
      go_ret
      exact ⟨0, rfl, .inl ⟨rfl, HE.out⟩, hBw⟩
    case pos =>
      obtain ⟨x, hxk⟩ : ∃ x, p.es[k]? = some x := ⟨_, List.getElem?_eq_getElem (by rw [← HEL.out]; exact hlt)⟩
      obtain ⟨b, off, rfl, hat⟩ := HS.out.at hxk
      have cn := EnAt.nm (show ElAt eEn wr b (off + k * 34) x from hat.below hBw)
      have hklt : (k : Int) < (el : Int) := by omega
      have HT := Lib.hid (show x.nm.length ≤ 100 → ∀ y ∈ p.es.take (k + 1), y.nm.length ≤ 100 from fun h y hy => by
        rw [List.take_add_one, hxk] at hy
        rcases List.mem_append.1 hy with hy | hy
        · exact HA.out y hy
        · simp at hy
          subst hy
          exact h)
      clear hxk hat
      by_cases hx : (100 : Int) < (x.nm.length : Int)
      · go_wp2_with fail
        go_ret
        exact ⟨1, rfl, .inr rfl, hBw⟩
      · have HT2 := Lib.hid (HT.out (by omega))
        go_wp2_with fail
        go_roundw
        case rel => exact ⟨k + 1, by omega, by go_num, HT2.out, hB⟩
        case measure => simp [RowKit.intOf]; omega
end Go.Proofs.YtljihmbmjpcfaaaGreat
namespace Go.Proofs.YtljihmbmjpcfaaaGreat
open Go.RowKit Go.Shelf Go.Great
set_option maxRecDepth 100000

abbrev blobOb (s : Sl) : Ob := { zeroOb with kd := 1, dv := s }
abbrev treeOb (s : Sl) : Ob := { zeroOb with kd := 2, ev := s }
abbrev commitOb (x : Co) : Ob := { zeroOb with kd := 3, tree := x.tree, pv := x.pv, msg := x.msg, h := x.h }
abbrev tagOb (x : Tg) : Ob := { zeroOb with kd := 4, tg := x.tg, msg := x.msg }

set_option maxHeartbeats 1000000 in
theorem blobObject_any (w : World) (g : Nat) (s : Sl) (hb : BoxBlob w g s) :
    Calls Tryz.prog 203 #[.pointer (some ⟨g, 0, none⟩)] w fun e W' => e = .returned (ObV (blobOb s)) ∧ Below w.heap.size w W' := by
  have hB1 : Below w.heap.size w (w.alloc (.cells (eOb.enc zeroOb).toArray 30)) := (Below.refl _ w).alloc (Nat.le_refl _) _
  have hc := cellB hB1 hb.cell
  have bz : BoxOb (w.alloc (.cells (eOb.enc zeroOb).toArray 30)) w.heap.size zeroOb := BoxE.new w zeroOb
  go_enter Tryz.func203, Tryz.ntmps203
  go_wp2_with (first
    | (refine wpList_alloc_e (E := eOb) (z := zeroOb) zeroOb_run rfl rfl ?_)
    | (refine wpList_build_of rfl _ _ rfl #[(0, .int .i64 1), (1, s.v)] (by go_simp; done) _ (build_blobO _ 1 s) ?_)
    | (refine wpList_store_e (E := eOb) sizeO rfl (.tmp 2) (.tmp 7) rfl rfl bz rfl ?_; intro w3 b3 k3))

  refine bodyPost_ret (results_e1 (E := eOb) Tryz.underlying30 rfl sizeO rfl _ rfl b3) rfl ?_
  exact ⟨rfl, below_kept_new hB1 k3⟩
set_option maxHeartbeats 1000000 in
theorem treeObject_any (w : World) (g : Nat) (s : Sl) (hb : BoxTree w g s) :
    Calls Tryz.prog 219 #[.pointer (some ⟨g, 0, none⟩)] w fun e W' => e = .returned (ObV (treeOb s)) ∧ Below w.heap.size w W' := by
  have hB1 : Below w.heap.size w (w.alloc (.cells (eOb.enc zeroOb).toArray 30)) := (Below.refl _ w).alloc (Nat.le_refl _) _
  have hc := cellB hB1 hb.cell
  have bz : BoxOb (w.alloc (.cells (eOb.enc zeroOb).toArray 30)) w.heap.size zeroOb := BoxE.new w zeroOb
  go_enter Tryz.func219, Tryz.ntmps219
  go_wp2_with (first
    | (refine wpList_alloc_e (E := eOb) (z := zeroOb) zeroOb_run rfl rfl ?_)
    | (refine wpList_build_of rfl _ _ rfl #[(0, .int .i64 2), (2, s.v)] (by go_simp; done) _ (build_treeO _ 2 s) ?_)
    | (refine wpList_store_e (E := eOb) sizeO rfl (.tmp 2) (.tmp 7) rfl rfl bz rfl ?_; intro w3 b3 k3))
  refine bodyPost_ret (results_e1 (E := eOb) Tryz.underlying30 rfl sizeO rfl _ rfl b3) rfl ?_
  exact ⟨rfl, below_kept_new hB1 k3⟩

set_option maxHeartbeats 4000000 in
theorem commitObject_any (w : World) (g : Nat) (x : Co) (hb : BoxCo w g x) :
    Calls Tryz.prog 248 #[.pointer (some ⟨g, 0, none⟩)] w fun e W' => e = .returned (ObV (commitOb x)) ∧ Below w.heap.size w W' := by
  have hB1 : Below w.heap.size w (w.alloc (.cells (eOb.enc zeroOb).toArray 30)) := (Below.refl _ w).alloc (Nat.le_refl _) _
  have c0 := CoAt.tree hb.at
  have c1 := CoAt.pv hb.at
  have c2 := CoAt.msg hb.at
  simp only [Nat.zero_add] at c1 c2
  have hx32 := x.h
  have bz : BoxOb (w.alloc (.cells (eOb.enc zeroOb).toArray 30)) w.heap.size zeroOb := BoxE.new w zeroOb
  go_enter Tryz.func248, Tryz.ntmps248
  go_wp2_with (refine wpList_alloc_e (E := eOb) (z := zeroOb) zeroOb_run rfl rfl ?_)
  refine wp_held (fun W1 => Below w.heap.size w W1) (by kernel_rfl) ?_
  have hS0 : Below w.heap.size w (w.alloc (.cells (eOb.enc zeroOb).toArray 30)).drew := hB1.drew
  refine wpAnyH_next (i := 0) (v := .pointer (some ⟨g, 0, none⟩)) rfl (by kernel_rfl) (by kernel_rfl) (by kernel_rfl) (fun _ _ _ h => h) (by kernel_rfl) (fun W1 hW1 => by go_simp; done) hS0 (fun a' ha' => ?_)
  simp only [Act.put, List.getElem_toArray, List.getElem_cons_zero, List.setIfInBounds_toArray, List.set_cons_succ, List.set_cons_zero] at ha'
  subst ha'
  refine wpAnyH_next (i := 1) (v := .pointer (some ⟨g, 0, none⟩)) rfl (by kernel_rfl) (by kernel_rfl) (by kernel_rfl) (fun _ _ _ h => h) (by kernel_rfl) (fun W1 hW1 => by go_simp; done) hS0 (fun a' ha' => ?_)
  simp only [Act.put, List.getElem_toArray, List.getElem_cons_succ, List.getElem_cons_zero, List.setIfInBounds_toArray, List.set_cons_succ, List.set_cons_zero] at ha'
  subst ha'
  refine wpAnyH_next (i := 2) (v := .pointer (some ⟨g, 0, none⟩)) rfl (by kernel_rfl) (by kernel_rfl) (by kernel_rfl) (fun _ _ _ h => h) (by kernel_rfl) (fun W1 hW1 => by go_simp; done) hS0 (fun a' ha' => ?_)
  simp only [Act.put, List.getElem_toArray, List.getElem_cons_succ, List.getElem_cons_zero, List.setIfInBounds_toArray, List.set_cons_succ, List.set_cons_zero] at ha'
  subst ha'
  refine wpAnyH_next (i := 3) (v := IdV x.tree) rfl (by kernel_rfl) (by kernel_rfl) (by kernel_rfl) (fun _ _ _ h => h) (by kernel_rfl) (fun W1 hW1 => by exact exec_load_id rfl rfl hx32 (IdAt.below c0 hW1)) hS0 (fun a' ha' => ?_)
  simp only [Act.put, List.getElem_toArray, List.getElem_cons_succ, List.getElem_cons_zero, List.setIfInBounds_toArray, List.set_cons_succ, List.set_cons_zero] at ha'
  subst ha'
  refine wpAnyH_next (i := 4) (v := .pointer (some ⟨g, 0, none⟩)) rfl (by kernel_rfl) (by kernel_rfl) (by kernel_rfl) (fun _ _ _ h => h) (by kernel_rfl) (fun W1 hW1 => by go_simp; done) hS0 (fun a' ha' => ?_)
  simp only [Act.put, List.getElem_toArray, List.getElem_cons_succ, List.getElem_cons_zero, List.setIfInBounds_toArray, List.set_cons_succ, List.set_cons_zero] at ha'
  subst ha'
  refine wpAnyH_next (i := 5) (v := .pointer (some ⟨g, 0, none⟩)) rfl (by kernel_rfl) (by kernel_rfl) (by kernel_rfl) (fun _ _ _ h => h) (by kernel_rfl) (fun W1 hW1 => by go_simp; done) hS0 (fun a' ha' => ?_)
  simp only [Act.put, List.getElem_toArray, List.getElem_cons_succ, List.getElem_cons_zero, List.setIfInBounds_toArray, List.set_cons_succ, List.set_cons_zero] at ha'
  subst ha'
  refine wpAnyH_next (i := 6) (v := .pointer (some ⟨g, 32, none⟩)) rfl (by kernel_rfl) (by kernel_rfl) (by kernel_rfl) (fun _ _ _ h => h) (by kernel_rfl) (fun W1 hW1 => by go_simp; done) hS0 (fun a' ha' => ?_)
  simp only [Act.put, List.getElem_toArray, List.getElem_cons_succ, List.getElem_cons_zero, List.setIfInBounds_toArray, List.set_cons_succ, List.set_cons_zero] at ha'
  subst ha'
  refine wpAnyH_next (i := 7) (v := x.pv.v) rfl (by kernel_rfl) (by kernel_rfl) (by kernel_rfl) (fun _ _ _ h => h) (by kernel_rfl) (fun W1 hW1 => by have e1 := cellB hW1 c1; go_simp; done) hS0 (fun a' ha' => ?_)
  simp only [Act.put, List.getElem_toArray, List.getElem_cons_succ, List.getElem_cons_zero, List.setIfInBounds_toArray, List.set_cons_succ, List.set_cons_zero] at ha'
  subst ha'
  refine wpAnyH_next (i := 8) (v := .pointer (some ⟨g, 0, none⟩)) rfl (by kernel_rfl) (by kernel_rfl) (by kernel_rfl) (fun _ _ _ h => h) (by kernel_rfl) (fun W1 hW1 => by go_simp; done) hS0 (fun a' ha' => ?_)
  simp only [Act.put, List.getElem_toArray, List.getElem_cons_succ, List.getElem_cons_zero, List.setIfInBounds_toArray, List.set_cons_succ, List.set_cons_zero] at ha'
  subst ha'
  refine wpAnyH_next (i := 9) (v := .pointer (some ⟨g, 0, none⟩)) rfl (by kernel_rfl) (by kernel_rfl) (by kernel_rfl) (fun _ _ _ h => h) (by kernel_rfl) (fun W1 hW1 => by go_simp; done) hS0 (fun a' ha' => ?_)
  simp only [Act.put, List.getElem_toArray, List.getElem_cons_succ, List.getElem_cons_zero, List.setIfInBounds_toArray, List.set_cons_succ, List.set_cons_zero] at ha'
  subst ha'
  refine wpAnyH_next (i := 10) (v := .pointer (some ⟨g, 33, none⟩)) rfl (by kernel_rfl) (by kernel_rfl) (by kernel_rfl) (fun _ _ _ h => h) (by kernel_rfl) (fun W1 hW1 => by go_simp; done) hS0 (fun a' ha' => ?_)
  simp only [Act.put, List.getElem_toArray, List.getElem_cons_succ, List.getElem_cons_zero, List.setIfInBounds_toArray, List.set_cons_succ, List.set_cons_zero] at ha'
  subst ha'
  refine wpAnyH_next (i := 11) (v := Str x.msg) rfl (by kernel_rfl) (by kernel_rfl) (by kernel_rfl) (fun _ _ _ h => h) (by kernel_rfl) (fun W1 hW1 => by have e1 := cellB hW1 c2; go_simp; done) hS0 (fun a' ha' => ?_)
  simp only [Act.put, List.getElem_toArray, List.getElem_cons_succ, List.getElem_cons_zero, List.setIfInBounds_toArray, List.set_cons_succ, List.set_cons_zero] at ha'
  subst ha'
  refine wpAnyH_next (i := 12) (v := ObV (commitOb x)) rfl (by kernel_rfl) (by kernel_rfl) (by kernel_rfl) (fun _ _ _ h => h) (by kernel_rfl) (fun W1 hW1 => by exact exec_build_of _ _ rfl #[(0, .int .i64 3), (3, IdV x.tree), (4, x.pv.v), (6, Str x.msg)] (by go_simp; done) _ (build_commitO _ 3 x)) hS0 (fun a' ha' => ?_)
  simp only [Act.put, List.getElem_toArray, List.getElem_cons_succ, List.getElem_cons_zero, List.setIfInBounds_toArray, List.set_cons_succ, List.set_cons_zero] at ha'
  subst ha'
  refine wpAnyH_one (i := 13) (by kernel_rfl) rfl rfl (fun K hK => ?_)
  refine wp_store_e (E := eOb) sizeO (.tmp 2) (.tmp 15) rfl rfl (BoxE.drew bz) rfl ?_
  intro w3 b3 k3
  refine hK _ _ (below_kept_new hS0 k3) ?_
  refine wpAnyH_fin (by kernel_rfl) ?_ _
  go_wp2_with fail
  refine bodyPost_ret (results_e1 (E := eOb) Tryz.underlying30 rfl sizeO rfl _ rfl b3) rfl ?_
  exact ⟨rfl, below_kept_new hS0 k3⟩

set_option maxHeartbeats 4000000 in
theorem tagObject_any (w : World) (g : Nat) (x : Tg) (hb : BoxTg w g x) :
    Calls Tryz.prog 256 #[.pointer (some ⟨g, 0, none⟩)] w fun e W' => e = .returned (ObV (tagOb x)) ∧ Below w.heap.size w W' := by
  have hB1 : Below w.heap.size w (w.alloc (.cells (eOb.enc zeroOb).toArray 30)) := (Below.refl _ w).alloc (Nat.le_refl _) _
  have c0 := TgAt.tg hb.at
  have c2 := TgAt.msg hb.at
  simp only [Nat.zero_add] at c2
  have bz : BoxOb (w.alloc (.cells (eOb.enc zeroOb).toArray 30)) w.heap.size zeroOb := BoxE.new w zeroOb
  go_enter Tryz.func256, Tryz.ntmps256
  go_wp2_with (refine wpList_alloc_e (E := eOb) (z := zeroOb) zeroOb_run rfl rfl ?_)
  refine wp_held (fun W1 => Below w.heap.size w W1) (by kernel_rfl) ?_
  have hS0 : Below w.heap.size w (w.alloc (.cells (eOb.enc zeroOb).toArray 30)).drew := hB1.drew
  refine wpAnyH_next (i := 0) (v := .pointer (some ⟨g, 0, none⟩)) rfl (by kernel_rfl) (by kernel_rfl) (by kernel_rfl) (fun _ _ _ h => h) (by kernel_rfl) (fun W1 hW1 => by go_simp; done) hS0 (fun a' ha' => ?_)
  simp only [Act.put, List.getElem_toArray, List.getElem_cons_zero, List.setIfInBounds_toArray, List.set_cons_succ, List.set_cons_zero] at ha'
  subst ha'
  refine wpAnyH_next (i := 1) (v := .pointer (some ⟨g, 0, none⟩)) rfl (by kernel_rfl) (by kernel_rfl) (by kernel_rfl) (fun _ _ _ h => h) (by kernel_rfl) (fun W1 hW1 => by go_simp; done) hS0 (fun a' ha' => ?_)
  simp only [Act.put, List.getElem_toArray, List.getElem_cons_succ, List.getElem_cons_zero, List.setIfInBounds_toArray, List.set_cons_succ, List.set_cons_zero] at ha'
  subst ha'
  refine wpAnyH_next (i := 2) (v := .pointer (some ⟨g, 0, none⟩)) rfl (by kernel_rfl) (by kernel_rfl) (by kernel_rfl) (fun _ _ _ h => h) (by kernel_rfl) (fun W1 hW1 => by go_simp; done) hS0 (fun a' ha' => ?_)
  simp only [Act.put, List.getElem_toArray, List.getElem_cons_succ, List.getElem_cons_zero, List.setIfInBounds_toArray, List.set_cons_succ, List.set_cons_zero] at ha'
  subst ha'
  refine wpAnyH_next (i := 3) (v := LkV x.tg) rfl (by kernel_rfl) (by kernel_rfl) (by kernel_rfl) (fun _ _ _ h => h) (by kernel_rfl) (fun W1 hW1 => by exact exec_load_el (E := eLk) Tryz.underlying28 rfl sizeLk rfl rfl (ElAt.below c0 hW1)) hS0 (fun a' ha' => ?_)
  simp only [Act.put, List.getElem_toArray, List.getElem_cons_succ, List.getElem_cons_zero, List.setIfInBounds_toArray, List.set_cons_succ, List.set_cons_zero] at ha'
  subst ha'
  refine wpAnyH_next (i := 4) (v := .pointer (some ⟨g, 0, none⟩)) rfl (by kernel_rfl) (by kernel_rfl) (by kernel_rfl) (fun _ _ _ h => h) (by kernel_rfl) (fun W1 hW1 => by go_simp; done) hS0 (fun a' ha' => ?_)
  simp only [Act.put, List.getElem_toArray, List.getElem_cons_succ, List.getElem_cons_zero, List.setIfInBounds_toArray, List.set_cons_succ, List.set_cons_zero] at ha'
  subst ha'
  refine wpAnyH_next (i := 5) (v := .pointer (some ⟨g, 0, none⟩)) rfl (by kernel_rfl) (by kernel_rfl) (by kernel_rfl) (fun _ _ _ h => h) (by kernel_rfl) (fun W1 hW1 => by go_simp; done) hS0 (fun a' ha' => ?_)
  simp only [Act.put, List.getElem_toArray, List.getElem_cons_succ, List.getElem_cons_zero, List.setIfInBounds_toArray, List.set_cons_succ, List.set_cons_zero] at ha'
  subst ha'
  refine wpAnyH_next (i := 6) (v := .pointer (some ⟨g, 33, none⟩)) rfl (by kernel_rfl) (by kernel_rfl) (by kernel_rfl) (fun _ _ _ h => h) (by kernel_rfl) (fun W1 hW1 => by go_simp; done) hS0 (fun a' ha' => ?_)
  simp only [Act.put, List.getElem_toArray, List.getElem_cons_succ, List.getElem_cons_zero, List.setIfInBounds_toArray, List.set_cons_succ, List.set_cons_zero] at ha'
  subst ha'
  refine wpAnyH_next (i := 7) (v := Str x.msg) rfl (by kernel_rfl) (by kernel_rfl) (by kernel_rfl) (fun _ _ _ h => h) (by kernel_rfl) (fun W1 hW1 => by have e1 := cellB hW1 c2; go_simp; done) hS0 (fun a' ha' => ?_)
  simp only [Act.put, List.getElem_toArray, List.getElem_cons_succ, List.getElem_cons_zero, List.setIfInBounds_toArray, List.set_cons_succ, List.set_cons_zero] at ha'
  subst ha'
  refine wpAnyH_next (i := 8) (v := ObV (tagOb x)) rfl (by kernel_rfl) (by kernel_rfl) (by kernel_rfl) (fun _ _ _ h => h) (by kernel_rfl) (fun W1 hW1 => by exact exec_build_of _ _ rfl #[(0, .int .i64 4), (5, LkV x.tg), (6, Str x.msg)] (by go_simp; done) _ (build_tagO _ 4 x)) hS0 (fun a' ha' => ?_)
  simp only [Act.put, List.getElem_toArray, List.getElem_cons_succ, List.getElem_cons_zero, List.setIfInBounds_toArray, List.set_cons_succ, List.set_cons_zero] at ha'
  subst ha'
  refine wpAnyH_one (i := 9) (by kernel_rfl) rfl rfl (fun K hK => ?_)
  refine wp_store_e (E := eOb) sizeO (.tmp 2) (.tmp 11) rfl rfl (BoxE.drew bz) rfl ?_
  intro w3 b3 k3
  refine hK _ _ (below_kept_new hS0 k3) ?_
  refine wpAnyH_fin (by kernel_rfl) ?_ _
  go_wp2_with fail
  refine bodyPost_ret (results_e1 (E := eOb) Tryz.underlying30 rfl sizeO rfl _ rfl b3) rfl ?_
  exact ⟨rfl, below_kept_new hS0 k3⟩
end Go.Proofs.YtljihmbmjpcfaaaGreat
namespace Go.Proofs.YtljihmbmjpcfaaaGreat
open Go.RowKit Go.Shelf Go.Great
set_option maxRecDepth 100000

/-- A link. -/
def mkLk (k : Int) (id : List UInt8) : Lk := if h : id.length = 32 then ⟨k, id, h⟩ else ⟨k, zeroID, rfl⟩
theorem mkLk_of {k : Int} {id : List UInt8} (h : id.length = 32) : mkLk k id = ⟨k, id, h⟩ := by unfold mkLk; rw [dif_pos h]
abbrev lkE (x : En) : Lk := ⟨x.kd, x.id, x.h⟩
/-- What an object refers to. -/
def linksK (p : Pl) : List Lk :=
  if p.kd = 2 then p.es.map lkE
  else if p.kd = 3 then mkLk 2 p.tree :: p.ps.map (mkLk 3)
  else if p.kd = 4 then [p.tg]
  else []
abbrev RowL (W : World) (n : Nat) (v : Value) (l : List Lk) : Prop := RowE eLk 28 W n v l
theorem below_row {α : Type} {E : Elt α} {t : TypeId} {w w' w'' : World} {v : Value} {l : List α} (hB : Below w.heap.size w w') (hrow : RowE E t w' w.heap.size v l) (hg : w'.grownBy w'' v.ownBlock) : Below w.heap.size w w'' :=
  hB.trans ((Kept.of_grown hg).below (fun j _ e => (World.ownsRow.lt hrow j e).1) hB.size)
end Go.Proofs.YtljihmbmjpcfaaaGreat
namespace Go.Proofs.YtljihmbmjpcfaaaGreat
open Go.RowKit Go.Shelf Go.Great
set_option maxRecDepth 100000

theorem blobLinks_any (w : World) (p : Value) : Calls Tryz.prog 201 #[p] w fun e W' => ∃ v, e = .returned v ∧ RowL W' w.heap.size v [] ∧ Below w.heap.size w W' := by
  go_enter Tryz.func201, Tryz.ntmps201
  go_wp2_with fail
  go_ret
  exact ⟨_, rfl, RowE.nil _ _, Below.refl _ _⟩
set_option maxHeartbeats 1000000 in
theorem tagLinks_any (w : World) (g : Nat) (x : Tg) (hb : BoxTg w g x) :
    Calls Tryz.prog 254 #[.pointer (some ⟨g, 0, none⟩)] w fun e W' => ∃ v, e = .returned v ∧ RowL W' w.heap.size v [x.tg] ∧ Below w.heap.size w W' := by
  have c0 := TgAt.tg hb.at
  have hrow : RowL (w.alloc (.cells (eLk.enc x.tg).toArray 28)) w.heap.size (.slice (some ⟨w.heap.size, 0, none⟩) 1 1) [x.tg] := rowE_one (E := eLk) w x.tg
  go_enter Tryz.func254, Tryz.ntmps254
  go_wp2_with (first
    | (refine elLk.wpLoad rfl (.tmp 5) rfl rfl c0 ?_)
    | (refine wpList_one_e (E := eLk) elLk (by decide) rfl (.tmp 6) rfl (x := x.tg) rfl ?_))
  go_ret
  exact ⟨_, rfl, hrow, (Below.refl _ w).alloc (Nat.le_refl _) _⟩

set_option maxHeartbeats 4000000 in
theorem treeLinks_any (w : World) (g : Nat) (s : Sl) (es : List En) (hb : BoxTree w g s) (hs : Es eEn w s.v es) (hl : es.length ≤ 1000) :
    Calls Tryz.prog 217 #[.pointer (some ⟨g, 0, none⟩)] w fun e W' => ∃ v, e = .returned v ∧ RowL W' w.heap.size v (es.map lkE) ∧ Below w.heap.size w W' := by
  have hc := hb.cell
  obtain ⟨A, n, c⟩ := s
  obtain ⟨A', c', he, hcap⟩ := hs.form
  injection he with e1 e2 e3
  subst e1 e2 e3
  change w.cell? _ = some (.slice A es.length c) at hc
  change Es eEn w (.slice A es.length c) es at hs
  generalize hn : es.length = n at *
  have HN := Lib.hid hn
  have HS := Lib.hid hs
  clear hs hn hb
  go_enter Tryz.func217, Tryz.ntmps217
  go_wp2_with fail
  go_loopw [3, 11] (fun v i wr => ∃ k : Nat, k ≤ n ∧ i = .int .i64 k ∧ RowL wr w.heap.size v ((es.take k).map lkE) ∧ Below w.heap.size w wr) (fun _ i _ => n - (RowKit.intOf i).toNat)
  case atStart => exact ⟨0, by omega, rfl, RowE.nil _ _, Below.refl _ _⟩
  case round =>
    obtain ⟨k, hk, rfl, hrow, hB⟩ := hrel
    by_cases hlt : k < n
    case neg =>
      have hkn : k = n := by omega
      have HE := Lib.hid (show es.take k = es from List.take_of_length_le (by rw [HN.out]; omega))
      have hr := hrow
      rw [HE.out] at hr
      have HR := Lib.hid hr
      have hnk : ¬ (k : Int) < (n : Int) := by omega
      clear hkn hlt hrow hr
      go_wp2_with fail
      go_ret
      exact ⟨_, rfl, HR.out, hB⟩
    case pos =>
      obtain ⟨x, hxk⟩ : ∃ x, es[k]? = some x := ⟨_, List.getElem?_eq_getElem (by rw [HN.out]; exact hlt)⟩
      obtain ⟨b, off, rfl, hat⟩ := HS.out.at hxk
      have hat1 : ElAt eEn wr b (off + k * 34) x := hat.below hB
      have hklt : (k : Int) < (n : Int) := by omega
      have HT := Lib.hid (show (es.take k).map lkE ++ [lkE x] = (es.take (k + 1)).map lkE by rw [List.take_add_one, hxk, List.map_append]; rfl)
      have hlen : ((es.take k).map lkE).length ≤ 1000 := by rw [List.length_map, List.length_take]; omega
      obtain ⟨Ar, cr, rfl, hcr⟩ := hrow.slice
      have HR := Lib.hid hrow
      have HLEN := Lib.hid hlen
      generalize (es.take k).map lkE = pre at *
      clear hxk hat hlt hrow hlen hcr
      have hx32 := x.h
      go_wp2_with (first
        | (refine elEn.wpLoad rfl (.tmp 13) rfl rfl hat1 ?_)
        | (refine wpList_alloc_e (E := eEn) (z := zeroEn) zeroEn_run rfl rfl ?_)
        | (refine wpList_store_e (E := eEn) sizeEn rfl (.tmp 5) (.tmp 14) rfl rfl (BoxE.new (E := eEn) _ _) rfl ?_; intro w3 b3 k3; have hBw : Below wr.heap.size wr w3 := (((Kept.refl (· = wr.heap.size) wr).alloc _).same k3).below (fun j _ e => by subst e; exact Nat.le_refl _) (Nat.le_refl _); have c1 := EnAt.kd b3.at; have c2 := EnAt.id b3.at; simp only [Nat.zero_add] at c1 c2)
        | (refine wpList_load_id rfl (.tmp 18) rfl rfl hx32 c2 ?_)
        | (refine wpList_build_of rfl _ _ rfl #[(0, .int .i64 x.kd), (1, IdV x.id)] (by go_simp; done) _ (build_lk _ (lkE x)) ?_)
        | (refine wpList_one_e (E := eLk) elLk (by decide) rfl (.tmp 20) rfl (x := lkE x) rfl ?_; have hone := Es.one_e (E := eLk) w3 (lkE x) 28; have hB3 : Below w.heap.size w w3 := hB.trans (hBw.mono hB.size); have hrow3 : RowL (w3.alloc (.cells (eLk.enc (lkE x)).toArray 28)) w.heap.size (.slice Ar pre.length cr) pre := (HR.out.below hBw).below ((Below.refl _ _).alloc (Nat.le_refl _) _); have hB4 := hB3.alloc hB3.size (.cells (eLk.enc (lkE x)).toArray 28); generalize hg4 : w3.alloc (.cells (eLk.enc (lkE x)).toArray 28) = w4 at hone hrow3 hB4 ⊢; clear hg4)
        | (at_builtin; refine wpList_append_es elLk rfl (.tmp 15) (.tmp 21) rfl w.heap.size _ pre rfl hrow3 _ [lkE x] rfl hone (by have := HLEN.out; simp; omega) hB4.size ?_; intro v5 w5 hown5 hg5 hv5; obtain ⟨A5, c5, rfl, _⟩ := hown5.slice; have hB5 : Below w.heap.size w w5 := below_row hB4 hrow3 hg5))
      go_roundw
      case rel => exact ⟨k + 1, by omega, by go_num, by rw [← HT.out]; have h := hown5; rw [List.length_append] at h; exact h, hB5⟩
      case measure => simp [RowKit.intOf]; omega

set_option maxHeartbeats 4000000 in
theorem commitLinks_any (w : World) (g : Nat) (x : Co) (ps : List (List UInt8)) (hb : BoxCo w g x) (hs : Is w x.pv.v ps) (hl : ps.length ≤ 1000) :
    Calls Tryz.prog 246 #[.pointer (some ⟨g, 0, none⟩)] w fun e W' => ∃ v, e = .returned v ∧ RowL W' w.heap.size v (mkLk 2 x.tree :: ps.map (mkLk 3)) ∧ Below w.heap.size w W' := by
  obtain ⟨tree, ⟨A, n, c⟩, msg, h32⟩ := x
  obtain ⟨A', c', he, hcap⟩ := hs.form
  injection he with e1 e2 e3
  subst e1 e2 e3
  have c0 : IdAt w g 0 tree := CoAt.tree hb.at
  have c1 : w.cell? ⟨g, 32, none⟩ = some (.slice A ps.length c) := by have := CoAt.pv hb.at; rwa [Nat.zero_add] at this
  change Is w (.slice A ps.length c) ps at hs
  show Calls Tryz.prog 246 #[.pointer (some ⟨g, 0, none⟩)] w fun e W' => ∃ v, e = .returned v ∧ RowL W' w.heap.size v (mkLk 2 tree :: ps.map (mkLk 3)) ∧ Below w.heap.size w W'
  rw [mkLk_of h32]
  generalize hn : ps.length = n at *
  have HN := Lib.hid hn
  have HS := Lib.hid hs
  clear hs hn hb
  go_enter Tryz.func246, Tryz.ntmps246
  go_wp2_with (first
    | (refine wpList_load_id rfl (.tmp 8) rfl rfl h32 c0 ?_)
    | (refine wpList_build_of rfl _ _ rfl #[(0, .int .i64 2), (1, IdV tree)] (by go_simp; done) _ (build_lk _ ⟨2, tree, h32⟩) ?_)
    | (refine wpList_one_e (E := eLk) elLk (by decide) rfl (.tmp 10) rfl (x := ⟨2, tree, h32⟩) rfl ?_; have hrow0 := rowE_one (E := eLk) (t := 28) w ⟨2, tree, h32⟩; have hB0 := (Below.refl w.heap.size w).alloc (Nat.le_refl _) (.cells (eLk.enc ⟨2, tree, h32⟩).toArray 28); generalize hg0 : w.alloc (.cells (eLk.enc ⟨2, tree, h32⟩).toArray 28) = w0 at hrow0 hB0 ⊢; clear hg0; replace c1 := cellB hB0 c1))
  go_loopw [3, 17] (fun v i wr => ∃ k : Nat, k ≤ n ∧ i = .int .i64 k ∧ RowL wr w.heap.size v (⟨2, tree, h32⟩ :: (ps.take k).map (mkLk 3)) ∧ Below w.heap.size w wr) (fun _ i _ => n - (RowKit.intOf i).toNat)
  case atStart => exact ⟨0, by omega, rfl, hrow0, hB0⟩
  case round =>
    obtain ⟨k, hk, rfl, hrow, hB⟩ := hrel
    by_cases hlt : k < n
    case neg =>
      have hkn : k = n := by omega
      have HE := Lib.hid (show ps.take k = ps from List.take_of_length_le (by rw [HN.out]; omega))
      have hr := hrow
      rw [HE.out] at hr
      have HR := Lib.hid hr
      have hnk : ¬ (k : Int) < (n : Int) := by omega
      clear hkn hlt hrow hr hrow0
      go_wp2_with fail
      go_ret
      exact ⟨_, rfl, HR.out, hB⟩
    case pos =>
      obtain ⟨x, hxk⟩ : ∃ x, ps[k]? = some x := ⟨_, List.getElem?_eq_getElem (by rw [HN.out]; exact hlt)⟩
      obtain ⟨hx32, b, off, rfl, hat⟩ := HS.out.at hxk
      have hat1 : IdAt wr b (off + k * 32) x := hat.below hB
      have hklt : (k : Int) < (n : Int) := by omega
      have HT := Lib.hid (show (⟨2, tree, h32⟩ :: (ps.take k).map (mkLk 3)) ++ [⟨3, x, hx32⟩] = ⟨2, tree, h32⟩ :: (ps.take (k + 1)).map (mkLk 3) by rw [List.take_add_one, hxk, List.map_append, List.cons_append]; simp [mkLk_of hx32])
      have hlen : ((⟨2, tree, h32⟩ :: (ps.take k).map (mkLk 3) : List Lk)).length ≤ 1001 := by rw [List.length_cons, List.length_map, List.length_take]; omega
      obtain ⟨Ar, cr, rfl, hcr⟩ := hrow.slice
      have HR := Lib.hid hrow
      have HLEN := Lib.hid hlen
      generalize (⟨2, tree, h32⟩ :: (ps.take k).map (mkLk 3) : List Lk) = pre at *
      clear hxk hat hlt hrow hlen hcr hrow0
      go_wp2_with (first
        | (refine wpList_load_id rfl (.tmp 19) rfl rfl hx32 hat1 ?_)
        | (refine wpList_alloc_id rfl rfl ?_)
        | (refine wpList_store_id rfl (.tmp 5) (.tmp 20) rfl rfl (BoxI.new _ zeroID_length) hx32 rfl ?_; intro w3 b3 k3; have hBw : Below wr.heap.size wr w3 := (((Kept.refl (· = wr.heap.size) wr).alloc _).same k3).below (fun j _ e => by subst e; exact Nat.le_refl _) (Nat.le_refl _))
        | (refine wpList_load_id rfl (.tmp 5) rfl rfl hx32 b3.at ?_)
        | (refine wpList_build_of rfl _ _ rfl #[(0, .int .i64 3), (1, IdV x)] (by go_simp; done) _ (build_lk _ ⟨3, x, hx32⟩) ?_)
        | (refine wpList_one_e (E := eLk) elLk (by decide) rfl (.tmp 23) rfl (x := ⟨3, x, hx32⟩) rfl ?_; have hone := Es.one_e (E := eLk) w3 ⟨3, x, hx32⟩ 28; have hB3 : Below w.heap.size w w3 := hB.trans (hBw.mono hB.size); have hrow3 : RowL (w3.alloc (.cells (eLk.enc ⟨3, x, hx32⟩).toArray 28)) w.heap.size (.slice Ar pre.length cr) pre := (HR.out.below hBw).below ((Below.refl _ _).alloc (Nat.le_refl _) _); have hB4 := hB3.alloc hB3.size (.cells (eLk.enc ⟨3, x, hx32⟩).toArray 28); generalize hg4 : w3.alloc (.cells (eLk.enc ⟨3, x, hx32⟩).toArray 28) = w4 at hone hrow3 hB4 ⊢; clear hg4)
        | (at_builtin; refine wpList_append_es elLk rfl (.tmp 21) (.tmp 24) rfl w.heap.size _ pre rfl hrow3 _ [⟨3, x, hx32⟩] rfl hone (by have := HLEN.out; simp; omega) hB4.size ?_; intro v5 w5 hown5 hg5 hv5; obtain ⟨A5, c5, rfl, _⟩ := hown5.slice; have hB5 : Below w.heap.size w w5 := below_row hB4 hrow3 hg5))
      go_roundw
      case rel => exact ⟨k + 1, by omega, by go_num, by rw [← HT.out]; have h := hown5; rw [List.length_append] at h; exact h, hB5⟩
      case measure => simp [RowKit.intOf]; omega
end Go.Proofs.YtljihmbmjpcfaaaGreat
