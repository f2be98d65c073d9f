/- The objects that have a body, and nothing else: the program's (tools/genobobject.py). -/
import Derived.Test.YtljihmbmjpcfaaaGreatLebSrc
namespace Go.Proofs.YtljihmbmjpcfaaaGreat
open Go.RowKit Go.Shelf Go.Great
set_option maxRecDepth 100000

abbrev blobOb (s : Sl) : Ob := { zeroOb with kd := 1, dv := s }
abbrev treeOb (s : Sl) : Ob := { zeroOb with kd := 2, ev := s }
abbrev commitOb (x : Co) : Ob := { zeroOb with kd := 3, tree := x.tree, pv := x.pv, msg := x.msg, h := x.h }
abbrev tagOb (x : Tg) : Ob := { zeroOb with kd := 4, tg := x.tg, msg := x.msg }

set_option maxHeartbeats 1000000 in
theorem blobObject_any (w : World) (g : Nat) (s : Sl) (hb : BoxBlob w g s) :
    Calls Tryz.prog 203 #[.pointer (some ⟨g, 0, none⟩)] w fun e W' => e = .returned (ObV (blobOb s)) ∧ Below w.heap.size w W' := by
  have hB1 : Below w.heap.size w (w.alloc (.cells (eOb.enc zeroOb).toArray 30)) := (Below.refl _ w).alloc (Nat.le_refl _) _
  have hc := cellB hB1 hb.cell
  have bz : BoxOb (w.alloc (.cells (eOb.enc zeroOb).toArray 30)) w.heap.size zeroOb := BoxE.new w zeroOb
  go_enter Tryz.func203, Tryz.ntmps203
  go_wp2_with (first
    | (refine wpList_alloc_e (E := eOb) (z := zeroOb) zeroOb_run rfl rfl ?_)
    | (refine wpList_build_of rfl _ _ rfl #[(0, .int .i64 1), (1, s.v)] (by go_simp; done) _ (build_blobO _ 1 s) ?_)
    | (refine wpList_store_e (E := eOb) sizeO rfl (.tmp 2) (.tmp 7) rfl rfl bz rfl ?_; intro w3 b3 k3))

  refine bodyPost_ret (results_e1 (E := eOb) Tryz.underlying30 rfl sizeO rfl _ rfl b3) rfl ?_
  exact ⟨rfl, below_kept_new hB1 k3⟩
set_option maxHeartbeats 1000000 in
theorem treeObject_any (w : World) (g : Nat) (s : Sl) (hb : BoxTree w g s) :
    Calls Tryz.prog 219 #[.pointer (some ⟨g, 0, none⟩)] w fun e W' => e = .returned (ObV (treeOb s)) ∧ Below w.heap.size w W' := by
  have hB1 : Below w.heap.size w (w.alloc (.cells (eOb.enc zeroOb).toArray 30)) := (Below.refl _ w).alloc (Nat.le_refl _) _
  have hc := cellB hB1 hb.cell
  have bz : BoxOb (w.alloc (.cells (eOb.enc zeroOb).toArray 30)) w.heap.size zeroOb := BoxE.new w zeroOb
  go_enter Tryz.func219, Tryz.ntmps219
  go_wp2_with (first
    | (refine wpList_alloc_e (E := eOb) (z := zeroOb) zeroOb_run rfl rfl ?_)
    | (refine wpList_build_of rfl _ _ rfl #[(0, .int .i64 2), (2, s.v)] (by go_simp; done) _ (build_treeO _ 2 s) ?_)
    | (refine wpList_store_e (E := eOb) sizeO rfl (.tmp 2) (.tmp 7) rfl rfl bz rfl ?_; intro w3 b3 k3))
  refine bodyPost_ret (results_e1 (E := eOb) Tryz.underlying30 rfl sizeO rfl _ rfl b3) rfl ?_
  exact ⟨rfl, below_kept_new hB1 k3⟩

set_option maxHeartbeats 4000000 in
theorem commitObject_any (w : World) (g : Nat) (x : Co) (hb : BoxCo w g x) :
    Calls Tryz.prog 248 #[.pointer (some ⟨g, 0, none⟩)] w fun e W' => e = .returned (ObV (commitOb x)) ∧ Below w.heap.size w W' := by
  have hB1 : Below w.heap.size w (w.alloc (.cells (eOb.enc zeroOb).toArray 30)) := (Below.refl _ w).alloc (Nat.le_refl _) _
  have c0 := CoAt.tree hb.at
  have c1 := CoAt.pv hb.at
  have c2 := CoAt.msg hb.at
  simp only [Nat.zero_add] at c1 c2
  have hx32 := x.h
  have bz : BoxOb (w.alloc (.cells (eOb.enc zeroOb).toArray 30)) w.heap.size zeroOb := BoxE.new w zeroOb
  go_enter Tryz.func248, Tryz.ntmps248
  go_wp2_with (refine wpList_alloc_e (E := eOb) (z := zeroOb) zeroOb_run rfl rfl ?_)
  refine wp_held (fun W1 => Below w.heap.size w W1) (by kernel_rfl) ?_
  have hS0 : Below w.heap.size w (w.alloc (.cells (eOb.enc zeroOb).toArray 30)).drew := hB1.drew
  refine wpAnyH_next (i := 0) (v := .pointer (some ⟨g, 0, none⟩)) rfl (by kernel_rfl) (by kernel_rfl) (by kernel_rfl) (fun _ _ _ h => h) (by kernel_rfl) (fun W1 hW1 => by go_simp; done) hS0 (fun a' ha' => ?_)
  simp only [Act.put, List.getElem_toArray, List.getElem_cons_zero, List.setIfInBounds_toArray, List.set_cons_succ, List.set_cons_zero] at ha'
  subst ha'
  refine wpAnyH_next (i := 1) (v := .pointer (some ⟨g, 0, none⟩)) rfl (by kernel_rfl) (by kernel_rfl) (by kernel_rfl) (fun _ _ _ h => h) (by kernel_rfl) (fun W1 hW1 => by go_simp; done) hS0 (fun a' ha' => ?_)
  simp only [Act.put, List.getElem_toArray, List.getElem_cons_succ, List.getElem_cons_zero, List.setIfInBounds_toArray, List.set_cons_succ, List.set_cons_zero] at ha'
  subst ha'
  refine wpAnyH_next (i := 2) (v := .pointer (some ⟨g, 0, none⟩)) rfl (by kernel_rfl) (by kernel_rfl) (by kernel_rfl) (fun _ _ _ h => h) (by kernel_rfl) (fun W1 hW1 => by go_simp; done) hS0 (fun a' ha' => ?_)
  simp only [Act.put, List.getElem_toArray, List.getElem_cons_succ, List.getElem_cons_zero, List.setIfInBounds_toArray, List.set_cons_succ, List.set_cons_zero] at ha'
  subst ha'
  refine wpAnyH_next (i := 3) (v := IdV x.tree) rfl (by kernel_rfl) (by kernel_rfl) (by kernel_rfl) (fun _ _ _ h => h) (by kernel_rfl) (fun W1 hW1 => by exact exec_load_id rfl rfl hx32 (IdAt.below c0 hW1)) hS0 (fun a' ha' => ?_)
  simp only [Act.put, List.getElem_toArray, List.getElem_cons_succ, List.getElem_cons_zero, List.setIfInBounds_toArray, List.set_cons_succ, List.set_cons_zero] at ha'
  subst ha'
  refine wpAnyH_next (i := 4) (v := .pointer (some ⟨g, 0, none⟩)) rfl (by kernel_rfl) (by kernel_rfl) (by kernel_rfl) (fun _ _ _ h => h) (by kernel_rfl) (fun W1 hW1 => by go_simp; done) hS0 (fun a' ha' => ?_)
  simp only [Act.put, List.getElem_toArray, List.getElem_cons_succ, List.getElem_cons_zero, List.setIfInBounds_toArray, List.set_cons_succ, List.set_cons_zero] at ha'
  subst ha'
  refine wpAnyH_next (i := 5) (v := .pointer (some ⟨g, 0, none⟩)) rfl (by kernel_rfl) (by kernel_rfl) (by kernel_rfl) (fun _ _ _ h => h) (by kernel_rfl) (fun W1 hW1 => by go_simp; done) hS0 (fun a' ha' => ?_)
  simp only [Act.put, List.getElem_toArray, List.getElem_cons_succ, List.getElem_cons_zero, List.setIfInBounds_toArray, List.set_cons_succ, List.set_cons_zero] at ha'
  subst ha'
  refine wpAnyH_next (i := 6) (v := .pointer (some ⟨g, 32, none⟩)) rfl (by kernel_rfl) (by kernel_rfl) (by kernel_rfl) (fun _ _ _ h => h) (by kernel_rfl) (fun W1 hW1 => by go_simp; done) hS0 (fun a' ha' => ?_)
  simp only [Act.put, List.getElem_toArray, List.getElem_cons_succ, List.getElem_cons_zero, List.setIfInBounds_toArray, List.set_cons_succ, List.set_cons_zero] at ha'
  subst ha'
  refine wpAnyH_next (i := 7) (v := x.pv.v) rfl (by kernel_rfl) (by kernel_rfl) (by kernel_rfl) (fun _ _ _ h => h) (by kernel_rfl) (fun W1 hW1 => by have e1 := cellB hW1 c1; go_simp; done) hS0 (fun a' ha' => ?_)
  simp only [Act.put, List.getElem_toArray, List.getElem_cons_succ, List.getElem_cons_zero, List.setIfInBounds_toArray, List.set_cons_succ, List.set_cons_zero] at ha'
  subst ha'
  refine wpAnyH_next (i := 8) (v := .pointer (some ⟨g, 0, none⟩)) rfl (by kernel_rfl) (by kernel_rfl) (by kernel_rfl) (fun _ _ _ h => h) (by kernel_rfl) (fun W1 hW1 => by go_simp; done) hS0 (fun a' ha' => ?_)
  simp only [Act.put, List.getElem_toArray, List.getElem_cons_succ, List.getElem_cons_zero, List.setIfInBounds_toArray, List.set_cons_succ, List.set_cons_zero] at ha'
  subst ha'
  refine wpAnyH_next (i := 9) (v := .pointer (some ⟨g, 0, none⟩)) rfl (by kernel_rfl) (by kernel_rfl) (by kernel_rfl) (fun _ _ _ h => h) (by kernel_rfl) (fun W1 hW1 => by go_simp; done) hS0 (fun a' ha' => ?_)
  simp only [Act.put, List.getElem_toArray, List.getElem_cons_succ, List.getElem_cons_zero, List.setIfInBounds_toArray, List.set_cons_succ, List.set_cons_zero] at ha'
  subst ha'
  refine wpAnyH_next (i := 10) (v := .pointer (some ⟨g, 33, none⟩)) rfl (by kernel_rfl) (by kernel_rfl) (by kernel_rfl) (fun _ _ _ h => h) (by kernel_rfl) (fun W1 hW1 => by go_simp; done) hS0 (fun a' ha' => ?_)
  simp only [Act.put, List.getElem_toArray, List.getElem_cons_succ, List.getElem_cons_zero, List.setIfInBounds_toArray, List.set_cons_succ, List.set_cons_zero] at ha'
  subst ha'
  refine wpAnyH_next (i := 11) (v := Str x.msg) rfl (by kernel_rfl) (by kernel_rfl) (by kernel_rfl) (fun _ _ _ h => h) (by kernel_rfl) (fun W1 hW1 => by have e1 := cellB hW1 c2; go_simp; done) hS0 (fun a' ha' => ?_)
  simp only [Act.put, List.getElem_toArray, List.getElem_cons_succ, List.getElem_cons_zero, List.setIfInBounds_toArray, List.set_cons_succ, List.set_cons_zero] at ha'
  subst ha'
  refine wpAnyH_next (i := 12) (v := ObV (commitOb x)) rfl (by kernel_rfl) (by kernel_rfl) (by kernel_rfl) (fun _ _ _ h => h) (by kernel_rfl) (fun W1 hW1 => by exact exec_build_of _ _ rfl #[(0, .int .i64 3), (3, IdV x.tree), (4, x.pv.v), (6, Str x.msg)] (by go_simp; done) _ (build_commitO _ 3 x)) hS0 (fun a' ha' => ?_)
  simp only [Act.put, List.getElem_toArray, List.getElem_cons_succ, List.getElem_cons_zero, List.setIfInBounds_toArray, List.set_cons_succ, List.set_cons_zero] at ha'
  subst ha'
  refine wpAnyH_one (i := 13) (by kernel_rfl) rfl rfl (fun K hK => ?_)
  refine wp_store_e (E := eOb) sizeO (.tmp 2) (.tmp 15) rfl rfl (BoxE.drew bz) rfl ?_
  intro w3 b3 k3
  refine hK _ _ (below_kept_new hS0 k3) ?_
  refine wpAnyH_fin (by kernel_rfl) ?_ _
  go_wp2_with fail
  refine bodyPost_ret (results_e1 (E := eOb) Tryz.underlying30 rfl sizeO rfl _ rfl b3) rfl ?_
  exact ⟨rfl, below_kept_new hS0 k3⟩

set_option maxHeartbeats 4000000 in
theorem tagObject_any (w : World) (g : Nat) (x : Tg) (hb : BoxTg w g x) :
    Calls Tryz.prog 256 #[.pointer (some ⟨g, 0, none⟩)] w fun e W' => e = .returned (ObV (tagOb x)) ∧ Below w.heap.size w W' := by
  have hB1 : Below w.heap.size w (w.alloc (.cells (eOb.enc zeroOb).toArray 30)) := (Below.refl _ w).alloc (Nat.le_refl _) _
  have c0 := TgAt.tg hb.at
  have c2 := TgAt.msg hb.at
  simp only [Nat.zero_add] at c2
  have bz : BoxOb (w.alloc (.cells (eOb.enc zeroOb).toArray 30)) w.heap.size zeroOb := BoxE.new w zeroOb
  go_enter Tryz.func256, Tryz.ntmps256
  go_wp2_with (refine wpList_alloc_e (E := eOb) (z := zeroOb) zeroOb_run rfl rfl ?_)
  refine wp_held (fun W1 => Below w.heap.size w W1) (by kernel_rfl) ?_
  have hS0 : Below w.heap.size w (w.alloc (.cells (eOb.enc zeroOb).toArray 30)).drew := hB1.drew
  refine wpAnyH_next (i := 0) (v := .pointer (some ⟨g, 0, none⟩)) rfl (by kernel_rfl) (by kernel_rfl) (by kernel_rfl) (fun _ _ _ h => h) (by kernel_rfl) (fun W1 hW1 => by go_simp; done) hS0 (fun a' ha' => ?_)
  simp only [Act.put, List.getElem_toArray, List.getElem_cons_zero, List.setIfInBounds_toArray, List.set_cons_succ, List.set_cons_zero] at ha'
  subst ha'
  refine wpAnyH_next (i := 1) (v := .pointer (some ⟨g, 0, none⟩)) rfl (by kernel_rfl) (by kernel_rfl) (by kernel_rfl) (fun _ _ _ h => h) (by kernel_rfl) (fun W1 hW1 => by go_simp; done) hS0 (fun a' ha' => ?_)
  simp only [Act.put, List.getElem_toArray, List.getElem_cons_succ, List.getElem_cons_zero, List.setIfInBounds_toArray, List.set_cons_succ, List.set_cons_zero] at ha'
  subst ha'
  refine wpAnyH_next (i := 2) (v := .pointer (some ⟨g, 0, none⟩)) rfl (by kernel_rfl) (by kernel_rfl) (by kernel_rfl) (fun _ _ _ h => h) (by kernel_rfl) (fun W1 hW1 => by go_simp; done) hS0 (fun a' ha' => ?_)
  simp only [Act.put, List.getElem_toArray, List.getElem_cons_succ, List.getElem_cons_zero, List.setIfInBounds_toArray, List.set_cons_succ, List.set_cons_zero] at ha'
  subst ha'
  refine wpAnyH_next (i := 3) (v := LkV x.tg) rfl (by kernel_rfl) (by kernel_rfl) (by kernel_rfl) (fun _ _ _ h => h) (by kernel_rfl) (fun W1 hW1 => by exact exec_load_el (E := eLk) Tryz.underlying28 rfl sizeLk rfl rfl (ElAt.below c0 hW1)) hS0 (fun a' ha' => ?_)
  simp only [Act.put, List.getElem_toArray, List.getElem_cons_succ, List.getElem_cons_zero, List.setIfInBounds_toArray, List.set_cons_succ, List.set_cons_zero] at ha'
  subst ha'
  refine wpAnyH_next (i := 4) (v := .pointer (some ⟨g, 0, none⟩)) rfl (by kernel_rfl) (by kernel_rfl) (by kernel_rfl) (fun _ _ _ h => h) (by kernel_rfl) (fun W1 hW1 => by go_simp; done) hS0 (fun a' ha' => ?_)
  simp only [Act.put, List.getElem_toArray, List.getElem_cons_succ, List.getElem_cons_zero, List.setIfInBounds_toArray, List.set_cons_succ, List.set_cons_zero] at ha'
  subst ha'
  refine wpAnyH_next (i := 5) (v := .pointer (some ⟨g, 0, none⟩)) rfl (by kernel_rfl) (by kernel_rfl) (by kernel_rfl) (fun _ _ _ h => h) (by kernel_rfl) (fun W1 hW1 => by go_simp; done) hS0 (fun a' ha' => ?_)
  simp only [Act.put, List.getElem_toArray, List.getElem_cons_succ, List.getElem_cons_zero, List.setIfInBounds_toArray, List.set_cons_succ, List.set_cons_zero] at ha'
  subst ha'
  refine wpAnyH_next (i := 6) (v := .pointer (some ⟨g, 33, none⟩)) rfl (by kernel_rfl) (by kernel_rfl) (by kernel_rfl) (fun _ _ _ h => h) (by kernel_rfl) (fun W1 hW1 => by go_simp; done) hS0 (fun a' ha' => ?_)
  simp only [Act.put, List.getElem_toArray, List.getElem_cons_succ, List.getElem_cons_zero, List.setIfInBounds_toArray, List.set_cons_succ, List.set_cons_zero] at ha'
  subst ha'
  refine wpAnyH_next (i := 7) (v := Str x.msg) rfl (by kernel_rfl) (by kernel_rfl) (by kernel_rfl) (fun _ _ _ h => h) (by kernel_rfl) (fun W1 hW1 => by have e1 := cellB hW1 c2; go_simp; done) hS0 (fun a' ha' => ?_)
  simp only [Act.put, List.getElem_toArray, List.getElem_cons_succ, List.getElem_cons_zero, List.setIfInBounds_toArray, List.set_cons_succ, List.set_cons_zero] at ha'
  subst ha'
  refine wpAnyH_next (i := 8) (v := ObV (tagOb x)) rfl (by kernel_rfl) (by kernel_rfl) (by kernel_rfl) (fun _ _ _ h => h) (by kernel_rfl) (fun W1 hW1 => by exact exec_build_of _ _ rfl #[(0, .int .i64 4), (5, LkV x.tg), (6, Str x.msg)] (by go_simp; done) _ (build_tagO _ 4 x)) hS0 (fun a' ha' => ?_)
  simp only [Act.put, List.getElem_toArray, List.getElem_cons_succ, List.getElem_cons_zero, List.setIfInBounds_toArray, List.set_cons_succ, List.set_cons_zero] at ha'
  subst ha'
  refine wpAnyH_one (i := 9) (by kernel_rfl) rfl rfl (fun K hK => ?_)
  refine wp_store_e (E := eOb) sizeO (.tmp 2) (.tmp 11) rfl rfl (BoxE.drew bz) rfl ?_
  intro w3 b3 k3
  refine hK _ _ (below_kept_new hS0 k3) ?_
  refine wpAnyH_fin (by kernel_rfl) ?_ _
  go_wp2_with fail
  refine bodyPost_ret (results_e1 (E := eOb) Tryz.underlying30 rfl sizeO rfl _ rfl b3) rfl ?_
  exact ⟨rfl, below_kept_new hS0 k3⟩
end Go.Proofs.YtljihmbmjpcfaaaGreat
