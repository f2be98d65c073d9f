/- The walk of DotSets (tools/gendotsets.py). -/
import Derived.Test.YtcclifnhbncfcaaDotRefSet
import Derived.Test.YtcclifnhbncfcaaDotUnion
import Derived.Test.YtcclifnhbncfcaaDotSet
import Derived.Test.YtcclifnhbncfcaaDotHasX
import Derived.Test.YtcclifnhbncfcaaListStep
namespace Go.Proofs.Ytcclifnhbncfcaa
open Go.RowKit Go.Great
set_option maxRecDepth 100000

/-- A list that may be written, in a block between two bounds. -/
def OwnL (W : World) (B G : Nat) (v : Value) (n : Nat) : Prop := ∃ A c, v = .slice A n c ∧ n ≤ 1000 ∧ (0 < n → ∃ g, A = some ⟨g, 0, none⟩ ∧ B ≤ g ∧ g < G ∧ W.there g 0 (n * 2))
theorem OwnL.of {W : World} {B G : Nat} {v : Value} {l : List X2} (h : NewE eDot W B v l) (hl : l.length ≤ 1000) (hG : W.heap.size ≤ G) : OwnL W B G v l.length := by
  rcases h with ⟨rfl, A, c, rfl, _⟩ | ⟨g, c, rfl, hc, hg, hlt, hH⟩
  · exact ⟨A, c, rfl, by simp, fun h => absurd h (by simp)⟩
  · exact ⟨_, c, rfl, hl, fun _ => ⟨g, rfl, hg, by omega, hH.there⟩⟩
theorem there_below {w w' : World} {g n : Nat} (h : w.there g 0 n) (hb : Below w.heap.size w w') (hg : g < w.heap.size) : w'.there g 0 n := fun j hj => by
  have h1 := h j hj
  have h2 := hb.block g hg
  simp only [World.cell?, World.frozen?, h2] at h1 ⊢
  exact h1
theorem OwnL.below {w w' : World} {B G : Nat} {v : Value} {n : Nat} (h : OwnL w B G v n) (hb : Below w.heap.size w w') (hG : G ≤ w.heap.size) : OwnL w' B G v n := by
  obtain ⟨A, c, rfl, hn, h2⟩ := h
  refine ⟨A, c, rfl, hn, fun h0 => ?_⟩
  obtain ⟨g, rfl, h3, h4, h5⟩ := h2 h0
  exact ⟨g, rfl, h3, h4, there_below h5 hb (by omega)⟩
theorem OwnL.up {w : World} {B G G' : Nat} {v : Value} {n : Nat} (h : OwnL w B G v n) (hG : G ≤ G') : OwnL w B G' v n := by
  obtain ⟨A, c, rfl, hn, h2⟩ := h
  refine ⟨A, c, rfl, hn, fun h0 => ?_⟩
  obtain ⟨g, rfl, h3, h4, h5⟩ := h2 h0
  exact ⟨g, rfl, h3, by omega, h5⟩
theorem OwnL.setCell {w : World} {B G : Nat} {v : Value} {n : Nat} (h : OwnL w B G v n) (b o : Nat) (u : Value) : OwnL (w.setCell ⟨b, o, none⟩ u) B G v n := by
  obtain ⟨A, c, rfl, hn, h2⟩ := h
  refine ⟨A, c, rfl, hn, fun h0 => ?_⟩
  obtain ⟨g, rfl, h3, h4, h5⟩ := h2 h0
  exact ⟨g, rfl, h3, h4, World.there_setCells h5 b o [u]⟩
theorem OwnL.setCells {w : World} {B G : Nat} {v : Value} {n : Nat} (h : OwnL w B G v n) (b o : Nat) (vs : List Value) : OwnL (w.setCells b o vs) B G v n := by
  obtain ⟨A, c, rfl, hn, h2⟩ := h
  refine ⟨A, c, rfl, hn, fun h0 => ?_⟩
  obtain ⟨g, rfl, h3, h4, h5⟩ := h2 h0
  exact ⟨g, rfl, h3, h4, World.there_setCells h5 _ _ _⟩
theorem same_true (W : World) (v u : Value) (l : List X2) (h1 : Ds W v l) (h2 : Ds W u l) (hl : l.length ≤ 1000) : Calls Try.prog 22 #[v, u] W fun e W' => e = .returned (.bool true) ∧ Below W.heap.size W W' := by
  have h := r5Same_any W v u l l h1 h2 hl hl
  rwa [decide_eq_true rfl] at h
theorem lessX_lenS (l m : List X2) : (lessX l m).length ≤ l.length + m.length := by
  have h := merge_len _ l m (Nat.le_refl _)
  unfold lessX
  rw [List.length_map]
  exact Nat.le_trans (List.length_filter_le _ _) h
theorem unionX_lenS (l m : List X2) : (unionX l m).length ≤ l.length + m.length := by
  have h := merge_len _ l m (Nat.le_refl _)
  unfold unionX
  rwa [List.length_map]

set_option maxRecDepth 100000 in
set_option maxHeartbeats 4000000 in
theorem dotsets_some (w : World) (A B : Option Addr) (c d : Nat) (l m : List X2) (hl : Ds w (.slice A l.length c) l) (hm : Ds w (.slice B m.length d) m) (x : X2) (hll : l.length ≤ 60) (hml : m.length ≤ 60) :
    Calls Try.prog 5 #[.slice A l.length c, .slice B m.length d, eDot.val x] w fun e W' => e = .returned (.bool true) ∧ Below w.heap.size w W' := by
  have hg1 : ¬ (60 : Int) < (l.length : Int) := by omega
  have hg2 : ¬ (60 : Int) < (m.length : Int) := by omega
  obtain ⟨R1, hR1⟩ : ∃ R : Int, R = (if l.all okX then 0 else 50) := ⟨_, rfl⟩
  obtain ⟨L1, hL1⟩ : ∃ L, L = (if l.all okX then setE cmpX l else []) := ⟨_, rfl⟩
  obtain ⟨R2, hR2⟩ : ∃ R : Int, R = (if isB l && isB m then 0 else 50) := ⟨_, rfl⟩
  obtain ⟨L2, hL2⟩ : ∃ L, L = (if isB l && isB m then unionX l m else []) := ⟨_, rfl⟩
  obtain ⟨L3, hL3⟩ : ∃ L, L = (if isB l && isB m then lessX l m else []) := ⟨_, rfl⟩
  obtain ⟨H, hH⟩ : ∃ H, H = decide (x ∈ l) := ⟨_, rfl⟩
  have z1 : L1.length ≤ 1000 := by
    rw [hL1]; split
    · have := foldE_lenR l []; simp at this; unfold setE; omega
    · simp
  have z2 : L2.length ≤ 1000 := by
    rw [hL2]; split
    · have := unionX_lenS l m; omega
    · simp
  have z3 : L3.length ≤ 1000 := by
    rw [hL3]; split
    · have := lessX_lenS l m; omega
    · simp
  have c1 : ∀ W v, Ds W v l → Calls Try.prog 16 #[v] W fun e W' => ∃ v', e = .returned (.tuple #[v', .int .i64 R1]) ∧ NewE eDot W' W.heap.size v' L1 ∧ Below W.heap.size W W' := fun W v h => by rw [hR1, hL1]; exact pDSet_any W v l h (by omega)
  have c2 : ∀ W v, Ds W v l → Calls Try.prog 17 #[v] W fun e W' => ∃ v', e = .returned (.tuple #[v', .int .i64 R1]) ∧ RowD W' W.heap.size v' L1 ∧ Below W.heap.size W W' := fun W v h => by rw [hR1, hL1]; exact r5Set_any W v l h (by omega)
  have c3 : ∀ W v u, Ds W v l → Ds W u m → Calls Try.prog 18 #[v, u] W fun e W' => ∃ v', e = .returned (.tuple #[v', .int .i64 R2]) ∧ NewE eDot W' W.heap.size v' L2 ∧ Below W.heap.size W W' := fun W v u h h' => by rw [hR2, hL2]; exact pDUnion_any W v u l m h h' (by omega) (by omega)
  have c4 : ∀ W v u, Ds W v l → Ds W u m → Calls Try.prog 19 #[v, u] W fun e W' => ∃ v', e = .returned (.tuple #[v', .int .i64 R2]) ∧ RowD W' W.heap.size v' L2 ∧ Below W.heap.size W W' := fun W v u h h' => by rw [hR2, hL2]; exact r5Union_any W v u l m h h' (by omega) (by omega)
  have c5 : ∀ W v u, Ds W v l → Ds W u m → Calls Try.prog 20 #[v, u] W fun e W' => ∃ v', e = .returned (.tuple #[v', .int .i64 R2]) ∧ NewE eDot W' W.heap.size v' L3 ∧ Below W.heap.size W W' := fun W v u h h' => by rw [hR2, hL3]; exact pDLess_any W v u l m h h' (by omega) (by omega)
  have c6 : ∀ W v u, Ds W v l → Ds W u m → Calls Try.prog 21 #[v, u] W fun e W' => ∃ v', e = .returned (.tuple #[v', .int .i64 R2]) ∧ RowD W' W.heap.size v' L3 ∧ Below W.heap.size W W' := fun W v u h h' => by rw [hR2, hL3]; exact r5Less_any W v u l m h h' (by omega) (by omega)
  have c7 : ∀ W v, Ds W v l → Calls Try.prog 23 #[v, eDot.val x] W fun e W' => e = .returned (.bool H) ∧ Below W.heap.size W W' := fun W v h => by rw [hH]; exact pDHas_any W v l x h (by omega)
  have c8 : ∀ W v, Ds W v l → Calls Try.prog 24 #[v, eDot.val x] W fun e W' => e = .returned (.bool H) ∧ Below W.heap.size W W' := fun W v h => by rw [hH]; exact r5Has_any W v l x h (by omega)
  clear hR1 hR2 hL1 hL2 hL3 hH
  have hbx := ElAt.box (E := eDot) w x 38
  have hB0 : Below w.heap.size w (w.alloc (.cells (eDot.enc x).toArray 38)) := (Below.refl _ w).alloc (Nat.le_refl _) _
  have HL := Lib.hid hl
  have HM := Lib.hid hm
  have hl0 := hl.below hB0
  have hm0 := hm.below hB0
  clear hl hm
  have hB1 : Below w.heap.size w ((w.alloc (.cells (eDot.enc x).toArray 38)).alloc (.cells #[] 38)) := hB0.alloc hB0.size _
  have r0 := RowE.made (E := eDot) (t := 38) (w.alloc (.cells (eDot.enc x).toArray 38))
  rw [World.size_alloc] at r0
  have hl1 := HL.out.below hB1
  have hbx1 := hbx.below ((Below.refl _ (w.alloc (.cells (eDot.enc x).toArray 38))).alloc (Nat.le_refl _) (.cells #[] 38))
  clear hl0 hm0 hbx hB0
  go_enter Try.func5, Try.ntmps5
  go_wp2_with (first
    | (at_builtin; refine wpList_append_es eltDot rfl (.tmp 32) (.tmp 33) rfl _ _ [] rfl r0 _ l rfl hl1 (by simp; omega) (by simp) ?_; intro v1 w1 hown1 hgr1 _; have hB2 := hB1.trans ((Kept.of_grown hgr1).below (fun j _ e => by have := (r0.lt j e).1; omega) hB1.size); rw [List.nil_append] at hown1; have hbx2 := hbx1.kept (Kept.of_grown hgr1) (fun e => by have := (r0.lt _ e).1; omega); have r1 := RowE.made (E := eDot) (t := 38) w1; have hm1 := (HM.out.below hB2).below ((Below.refl _ w1).alloc (Nat.le_refl _) (.cells #[] 38)); clear hl1 hbx1 hgr1 r0 hB1)
    | (at_builtin; refine wpList_append_es eltDot rfl (.tmp 35) (.tmp 36) rfl _ _ [] rfl r1 _ m rfl hm1 (by simp; omega) (by simp) ?_; intro v2 w2 hown2 hgr2 _; rw [List.nil_append] at hown2))
  have k12 : Below w1.heap.size w1 w2 := ((Below.refl _ w1).alloc (Nat.le_refl _) _).trans ((Kept.of_grown hgr2).below (fun j _ e => (r1.lt j e).1) (by simp))
  have ho1 := hown1.is.below k12
  have ho2 := hown2.is
  have hB3 := hB2.trans (k12.mono hB2.size)
  have hl2 := HL.out.below hB3
  have hm2 := HM.out.below hB3
  have hbx3 := hbx2.below k12
  clear hgr2 r1 hm1 hbx2 hown1 hown2 hB2 k12
  refine (c1 w2 v1 ho1).mono ?_
  rintro e w3 ⟨vs, rfl, hs3, q3⟩
  go_wp2_with fail
  refine (c2 w3 _ (hl2.below q3)).mono ?_
  rintro e w4 ⟨vt, rfl, ht4, q4⟩
  have q24 := q3.trans (q4.mono q3.size)
  go_wp2_with fail
  refine (c3 w4 v1 v2 (ho1.below q24) (ho2.below q24)).mono ?_
  rintro e w5 ⟨vu, rfl, hu5, q5⟩
  have q25 := q24.trans (q5.mono q24.size)
  go_wp2_with fail
  refine (c4 w5 _ _ (hl2.below q25) (hm2.below q25)).mono ?_
  rintro e w6 ⟨vv, rfl, hv6, q6⟩
  have q26 := q25.trans (q6.mono q25.size)
  go_wp2_with fail
  refine (c5 w6 v1 v2 (ho1.below q26) (ho2.below q26)).mono ?_
  rintro e w7 ⟨vx, rfl, hx7, q7⟩
  have q27 := q26.trans (q7.mono q26.size)
  go_wp2_with fail
  refine (c6 w7 _ _ (hl2.below q27) (hm2.below q27)).mono ?_
  rintro e w8 ⟨vy, rfl, hy8, q8⟩
  have q28 := q27.trans (q8.mono q27.size)
  have hs8 : NewE eDot w8 w2.heap.size vs L1 := ((((hs3.below q4).below q5).below q6).below q7).below q8
  have ht8 : Ds w8 vt L1 := ((((ht4.is.below q5).below q6).below q7).below q8)
  have hu8 : NewE eDot w8 w2.heap.size vu L2 := (((hu5.base q24.size).below q6).below q7).below q8
  have hv8 : Ds w8 vv L2 := (hv6.is.below q7).below q8
  have hx8 : NewE eDot w8 w2.heap.size vx L3 := (hx7.base q26.size).below q8
  have hy8 : Ds w8 vy L3 := hy8.is
  have es8 := hs8.is
  have eu8 := hu8.is
  have ex8 := hx8.is
  have ho8 := ho1.below q28
  have hl8 := hl2.below q28
  have hbx8 := hbx3.below q28
  have HN := Lib.hid (And.intro hs8 (And.intro hu8 hx8))
  clear hs3 ht4 hu5 hv6 hx7 q3 q4 q5 q6 q7 q8 q24 q25 q26 q27 c1 c2 c3 c4 c5 c6 hs8 hu8 hx8 hbx3
  go_wp2_with fail
  refine wp_held (fun W1 => Below w8.heap.size w8 W1) (by kernel_rfl) ?_
  have hS0 : Below w8.heap.size w8 w8.drew := (Below.refl _ w8).drew
  refine wpAnyH_next (i := 0) (v := vs) rfl (by kernel_rfl) (by kernel_rfl) (by kernel_rfl) (fun _ _ _ h => h) (by kernel_rfl) (fun W1 hW1 => by go_simp; done) hS0 (fun a' ha' => ?_)
  simp only [Act.put, List.getElem_toArray, List.getElem_cons_succ, List.getElem_cons_zero, List.setIfInBounds_toArray, List.set_cons_succ, List.set_cons_zero] at ha'
  subst ha'
  refine wpAnyH_next (i := 1) (v := vt) rfl (by kernel_rfl) (by kernel_rfl) (by kernel_rfl) (fun _ _ _ h => h) (by kernel_rfl) (fun W1 hW1 => by go_simp; done) hS0 (fun a' ha' => ?_)
  simp only [Act.put, List.getElem_toArray, List.getElem_cons_succ, List.getElem_cons_zero, List.setIfInBounds_toArray, List.set_cons_succ, List.set_cons_zero] at ha'
  subst ha'
  refine wpAnyH_want (i := 2) (by kernel_rfl) rfl (by kernel_rfl) (fun K hK => ?_)
  unfold Oper.wp
  go_simp
  refine (same_true _ vs vt L1 (es8.below hS0) (ht8.below hS0) z1).mono ?_
  rintro e p1 ⟨rfl, hp1⟩
  have hSp1 : Below w8.heap.size w8 p1 := hS0.trans (hp1.mono hS0.size)
  clear hp1
  refine hK _ _ hSp1 ?_
  clear hK K
  refine wpAnyH_next (i := 3) (v := .bool false) rfl (by kernel_rfl) (by kernel_rfl) (by kernel_rfl) (fun _ _ _ h => h) (by kernel_rfl) (fun W1 hW1 => by go_simp; done) hSp1 (fun a' ha' => ?_)
  simp only [Act.put, List.getElem_toArray, List.getElem_cons_succ, List.getElem_cons_zero, List.setIfInBounds_toArray, List.set_cons_succ, List.set_cons_zero] at ha'
  subst ha'
  refine wpAnyH_next (i := 4) (v := .bool false) rfl (by kernel_rfl) (by kernel_rfl) (by kernel_rfl) (fun _ _ _ h => h) (by kernel_rfl) (fun W1 hW1 => by go_simp; done) hSp1 (fun a' ha' => ?_)
  simp only [Act.put, List.getElem_toArray, List.getElem_cons_succ, List.getElem_cons_zero, List.setIfInBounds_toArray, List.set_cons_succ, List.set_cons_zero] at ha'
  subst ha'
  refine wpAnyH_next (i := 5) (v := .int .i64 R1) rfl (by kernel_rfl) (by kernel_rfl) (by kernel_rfl) (fun _ _ _ h => h) (by kernel_rfl) (fun W1 hW1 => by go_simp; done) hSp1 (fun a' ha' => ?_)
  simp only [Act.put, List.getElem_toArray, List.getElem_cons_succ, List.getElem_cons_zero, List.setIfInBounds_toArray, List.set_cons_succ, List.set_cons_zero] at ha'
  subst ha'
  refine wpAnyH_next (i := 6) (v := .int .i64 R1) rfl (by kernel_rfl) (by kernel_rfl) (by kernel_rfl) (fun _ _ _ h => h) (by kernel_rfl) (fun W1 hW1 => by go_simp; done) hSp1 (fun a' ha' => ?_)
  simp only [Act.put, List.getElem_toArray, List.getElem_cons_succ, List.getElem_cons_zero, List.setIfInBounds_toArray, List.set_cons_succ, List.set_cons_zero] at ha'
  subst ha'
  refine wpAnyH_next (i := 7) (v := .bool false) rfl (by kernel_rfl) (by kernel_rfl) (by kernel_rfl) (fun _ _ _ h => h) (by kernel_rfl) (fun W1 hW1 => by go_simp; done) hSp1 (fun a' ha' => ?_)
  simp only [Act.put, List.getElem_toArray, List.getElem_cons_succ, List.getElem_cons_zero, List.setIfInBounds_toArray, List.set_cons_succ, List.set_cons_zero] at ha'
  subst ha'
  refine wpAnyH_next (i := 8) (v := .bool false) rfl (by kernel_rfl) (by kernel_rfl) (by kernel_rfl) (fun _ _ _ h => h) (by kernel_rfl) (fun W1 hW1 => by go_simp; done) hSp1 (fun a' ha' => ?_)
  simp only [Act.put, List.getElem_toArray, List.getElem_cons_succ, List.getElem_cons_zero, List.setIfInBounds_toArray, List.set_cons_succ, List.set_cons_zero] at ha'
  subst ha'
  refine wpAnyH_next (i := 9) (v := .bool false) rfl (by kernel_rfl) (by kernel_rfl) (by kernel_rfl) (fun _ _ _ h => h) (by kernel_rfl) (fun W1 hW1 => by go_simp; done) hSp1 (fun a' ha' => ?_)
  simp only [Act.put, List.getElem_toArray, List.getElem_cons_succ, List.getElem_cons_zero, List.setIfInBounds_toArray, List.set_cons_succ, List.set_cons_zero] at ha'
  subst ha'
  refine wpAnyH_next (i := 10) (v := vu) rfl (by kernel_rfl) (by kernel_rfl) (by kernel_rfl) (fun _ _ _ h => h) (by kernel_rfl) (fun W1 hW1 => by go_simp; done) hSp1 (fun a' ha' => ?_)
  simp only [Act.put, List.getElem_toArray, List.getElem_cons_succ, List.getElem_cons_zero, List.setIfInBounds_toArray, List.set_cons_succ, List.set_cons_zero] at ha'
  subst ha'
  refine wpAnyH_next (i := 11) (v := vv) rfl (by kernel_rfl) (by kernel_rfl) (by kernel_rfl) (fun _ _ _ h => h) (by kernel_rfl) (fun W1 hW1 => by go_simp; done) hSp1 (fun a' ha' => ?_)
  simp only [Act.put, List.getElem_toArray, List.getElem_cons_succ, List.getElem_cons_zero, List.setIfInBounds_toArray, List.set_cons_succ, List.set_cons_zero] at ha'
  subst ha'
  refine wpAnyH_want (i := 12) (by kernel_rfl) rfl (by kernel_rfl) (fun K hK => ?_)
  unfold Oper.wp
  go_simp
  refine (same_true _ vu vv L2 (eu8.below hSp1) (hv8.below hSp1) z2).mono ?_
  rintro e p2 ⟨rfl, hp2⟩
  have hSp2 : Below w8.heap.size w8 p2 := hSp1.trans (hp2.mono hSp1.size)
  clear hp2
  refine hK _ _ hSp2 ?_
  clear hK K
  refine wpAnyH_next (i := 13) (v := .bool false) rfl (by kernel_rfl) (by kernel_rfl) (by kernel_rfl) (fun _ _ _ h => h) (by kernel_rfl) (fun W1 hW1 => by go_simp; done) hSp2 (fun a' ha' => ?_)
  simp only [Act.put, List.getElem_toArray, List.getElem_cons_succ, List.getElem_cons_zero, List.setIfInBounds_toArray, List.set_cons_succ, List.set_cons_zero] at ha'
  subst ha'
  refine wpAnyH_next (i := 14) (v := .bool false) rfl (by kernel_rfl) (by kernel_rfl) (by kernel_rfl) (fun _ _ _ h => h) (by kernel_rfl) (fun W1 hW1 => by go_simp; done) hSp2 (fun a' ha' => ?_)
  simp only [Act.put, List.getElem_toArray, List.getElem_cons_succ, List.getElem_cons_zero, List.setIfInBounds_toArray, List.set_cons_succ, List.set_cons_zero] at ha'
  subst ha'
  refine wpAnyH_next (i := 15) (v := .bool false) rfl (by kernel_rfl) (by kernel_rfl) (by kernel_rfl) (fun _ _ _ h => h) (by kernel_rfl) (fun W1 hW1 => by go_simp; done) hSp2 (fun a' ha' => ?_)
  simp only [Act.put, List.getElem_toArray, List.getElem_cons_succ, List.getElem_cons_zero, List.setIfInBounds_toArray, List.set_cons_succ, List.set_cons_zero] at ha'
  subst ha'
  refine wpAnyH_next (i := 16) (v := .int .i64 R2) rfl (by kernel_rfl) (by kernel_rfl) (by kernel_rfl) (fun _ _ _ h => h) (by kernel_rfl) (fun W1 hW1 => by go_simp; done) hSp2 (fun a' ha' => ?_)
  simp only [Act.put, List.getElem_toArray, List.getElem_cons_succ, List.getElem_cons_zero, List.setIfInBounds_toArray, List.set_cons_succ, List.set_cons_zero] at ha'
  subst ha'
  refine wpAnyH_next (i := 17) (v := .int .i64 R2) rfl (by kernel_rfl) (by kernel_rfl) (by kernel_rfl) (fun _ _ _ h => h) (by kernel_rfl) (fun W1 hW1 => by go_simp; done) hSp2 (fun a' ha' => ?_)
  simp only [Act.put, List.getElem_toArray, List.getElem_cons_succ, List.getElem_cons_zero, List.setIfInBounds_toArray, List.set_cons_succ, List.set_cons_zero] at ha'
  subst ha'
  refine wpAnyH_next (i := 18) (v := .bool false) rfl (by kernel_rfl) (by kernel_rfl) (by kernel_rfl) (fun _ _ _ h => h) (by kernel_rfl) (fun W1 hW1 => by go_simp; done) hSp2 (fun a' ha' => ?_)
  simp only [Act.put, List.getElem_toArray, List.getElem_cons_succ, List.getElem_cons_zero, List.setIfInBounds_toArray, List.set_cons_succ, List.set_cons_zero] at ha'
  subst ha'
  refine wpAnyH_next (i := 19) (v := .bool false) rfl (by kernel_rfl) (by kernel_rfl) (by kernel_rfl) (fun _ _ _ h => h) (by kernel_rfl) (fun W1 hW1 => by go_simp; done) hSp2 (fun a' ha' => ?_)
  simp only [Act.put, List.getElem_toArray, List.getElem_cons_succ, List.getElem_cons_zero, List.setIfInBounds_toArray, List.set_cons_succ, List.set_cons_zero] at ha'
  subst ha'
  refine wpAnyH_next (i := 20) (v := .bool false) rfl (by kernel_rfl) (by kernel_rfl) (by kernel_rfl) (fun _ _ _ h => h) (by kernel_rfl) (fun W1 hW1 => by go_simp; done) hSp2 (fun a' ha' => ?_)
  simp only [Act.put, List.getElem_toArray, List.getElem_cons_succ, List.getElem_cons_zero, List.setIfInBounds_toArray, List.set_cons_succ, List.set_cons_zero] at ha'
  subst ha'
  refine wpAnyH_next (i := 21) (v := vx) rfl (by kernel_rfl) (by kernel_rfl) (by kernel_rfl) (fun _ _ _ h => h) (by kernel_rfl) (fun W1 hW1 => by go_simp; done) hSp2 (fun a' ha' => ?_)
  simp only [Act.put, List.getElem_toArray, List.getElem_cons_succ, List.getElem_cons_zero, List.setIfInBounds_toArray, List.set_cons_succ, List.set_cons_zero] at ha'
  subst ha'
  refine wpAnyH_next (i := 22) (v := vy) rfl (by kernel_rfl) (by kernel_rfl) (by kernel_rfl) (fun _ _ _ h => h) (by kernel_rfl) (fun W1 hW1 => by go_simp; done) hSp2 (fun a' ha' => ?_)
  simp only [Act.put, List.getElem_toArray, List.getElem_cons_succ, List.getElem_cons_zero, List.setIfInBounds_toArray, List.set_cons_succ, List.set_cons_zero] at ha'
  subst ha'
  refine wpAnyH_want (i := 23) (by kernel_rfl) rfl (by kernel_rfl) (fun K hK => ?_)
  unfold Oper.wp
  go_simp
  refine (same_true _ vx vy L3 (ex8.below hSp2) (hy8.below hSp2) z3).mono ?_
  rintro e p3 ⟨rfl, hp3⟩
  have hSp3 : Below w8.heap.size w8 p3 := hSp2.trans (hp3.mono hSp2.size)
  clear hp3
  refine hK _ _ hSp3 ?_
  clear hK K
  refine wpAnyH_next (i := 24) (v := .bool false) rfl (by kernel_rfl) (by kernel_rfl) (by kernel_rfl) (fun _ _ _ h => h) (by kernel_rfl) (fun W1 hW1 => by go_simp; done) hSp3 (fun a' ha' => ?_)
  simp only [Act.put, List.getElem_toArray, List.getElem_cons_succ, List.getElem_cons_zero, List.setIfInBounds_toArray, List.set_cons_succ, List.set_cons_zero] at ha'
  subst ha'
  refine wpAnyH_next (i := 25) (v := .bool false) rfl (by kernel_rfl) (by kernel_rfl) (by kernel_rfl) (fun _ _ _ h => h) (by kernel_rfl) (fun W1 hW1 => by go_simp; done) hSp3 (fun a' ha' => ?_)
  simp only [Act.put, List.getElem_toArray, List.getElem_cons_succ, List.getElem_cons_zero, List.setIfInBounds_toArray, List.set_cons_succ, List.set_cons_zero] at ha'
  subst ha'
  refine wpAnyH_next (i := 26) (v := .bool false) rfl (by kernel_rfl) (by kernel_rfl) (by kernel_rfl) (fun _ _ _ h => h) (by kernel_rfl) (fun W1 hW1 => by go_simp; done) hSp3 (fun a' ha' => ?_)
  simp only [Act.put, List.getElem_toArray, List.getElem_cons_succ, List.getElem_cons_zero, List.setIfInBounds_toArray, List.set_cons_succ, List.set_cons_zero] at ha'
  subst ha'
  refine wpAnyH_next (i := 27) (v := .int .i64 R2) rfl (by kernel_rfl) (by kernel_rfl) (by kernel_rfl) (fun _ _ _ h => h) (by kernel_rfl) (fun W1 hW1 => by go_simp; done) hSp3 (fun a' ha' => ?_)
  simp only [Act.put, List.getElem_toArray, List.getElem_cons_succ, List.getElem_cons_zero, List.setIfInBounds_toArray, List.set_cons_succ, List.set_cons_zero] at ha'
  subst ha'
  refine wpAnyH_next (i := 28) (v := .int .i64 R2) rfl (by kernel_rfl) (by kernel_rfl) (by kernel_rfl) (fun _ _ _ h => h) (by kernel_rfl) (fun W1 hW1 => by go_simp; done) hSp3 (fun a' ha' => ?_)
  simp only [Act.put, List.getElem_toArray, List.getElem_cons_succ, List.getElem_cons_zero, List.setIfInBounds_toArray, List.set_cons_succ, List.set_cons_zero] at ha'
  subst ha'
  refine wpAnyH_next (i := 29) (v := .bool false) rfl (by kernel_rfl) (by kernel_rfl) (by kernel_rfl) (fun _ _ _ h => h) (by kernel_rfl) (fun W1 hW1 => by go_simp; done) hSp3 (fun a' ha' => ?_)
  simp only [Act.put, List.getElem_toArray, List.getElem_cons_succ, List.getElem_cons_zero, List.setIfInBounds_toArray, List.set_cons_succ, List.set_cons_zero] at ha'
  subst ha'
  refine wpAnyH_next (i := 30) (v := .bool false) rfl (by kernel_rfl) (by kernel_rfl) (by kernel_rfl) (fun _ _ _ h => h) (by kernel_rfl) (fun W1 hW1 => by go_simp; done) hSp3 (fun a' ha' => ?_)
  simp only [Act.put, List.getElem_toArray, List.getElem_cons_succ, List.getElem_cons_zero, List.setIfInBounds_toArray, List.set_cons_succ, List.set_cons_zero] at ha'
  subst ha'
  refine wpAnyH_next (i := 31) (v := .bool false) rfl (by kernel_rfl) (by kernel_rfl) (by kernel_rfl) (fun _ _ _ h => h) (by kernel_rfl) (fun W1 hW1 => by go_simp; done) hSp3 (fun a' ha' => ?_)
  simp only [Act.put, List.getElem_toArray, List.getElem_cons_succ, List.getElem_cons_zero, List.setIfInBounds_toArray, List.set_cons_succ, List.set_cons_zero] at ha'
  subst ha'
  refine wpAnyH_next (i := 32) (v := v1) rfl (by kernel_rfl) (by kernel_rfl) (by kernel_rfl) (fun _ _ _ h => h) (by kernel_rfl) (fun W1 hW1 => by go_simp; done) hSp3 (fun a' ha' => ?_)
  simp only [Act.put, List.getElem_toArray, List.getElem_cons_succ, List.getElem_cons_zero, List.setIfInBounds_toArray, List.set_cons_succ, List.set_cons_zero] at ha'
  subst ha'
  refine wpAnyH_next (i := 33) (v := eDot.val x) rfl (by kernel_rfl) (by kernel_rfl) (by kernel_rfl) (fun _ _ _ h => h) (by kernel_rfl) (fun W1 hW1 => by exact eltDot.load rfl rfl (hbx8.below hW1)) hSp3 (fun a' ha' => ?_)
  simp only [Act.put, List.getElem_toArray, List.getElem_cons_succ, List.getElem_cons_zero, List.setIfInBounds_toArray, List.set_cons_succ, List.set_cons_zero] at ha'
  subst ha'
  refine wpAnyH_next (i := 35) (v := .slice A l.length c) rfl (by kernel_rfl) (by kernel_rfl) (by kernel_rfl) (fun _ _ _ h => h) (by kernel_rfl) (fun W1 hW1 => by go_simp; done) hSp3 (fun a' ha' => ?_)
  simp only [Act.put, List.getElem_toArray, List.getElem_cons_succ, List.getElem_cons_zero, List.setIfInBounds_toArray, List.set_cons_succ, List.set_cons_zero] at ha'
  subst ha'
  refine wpAnyH_next (i := 36) (v := eDot.val x) rfl (by kernel_rfl) (by kernel_rfl) (by kernel_rfl) (fun _ _ _ h => h) (by kernel_rfl) (fun W1 hW1 => by exact eltDot.load rfl rfl (hbx8.below hW1)) hSp3 (fun a' ha' => ?_)
  simp only [Act.put, List.getElem_toArray, List.getElem_cons_succ, List.getElem_cons_zero, List.setIfInBounds_toArray, List.set_cons_succ, List.set_cons_zero] at ha'
  subst ha'
  refine wpAnyH_want (i := 34) (by kernel_rfl) rfl (by kernel_rfl) (fun K hK => ?_)
  unfold Oper.wp
  go_simp
  refine (c7 _ v1 (ho8.below hSp3)).mono ?_
  rintro e p4 ⟨rfl, hp4⟩
  have hSp4 : Below w8.heap.size w8 p4 := hSp3.trans (hp4.mono hSp3.size)
  clear hp4
  refine hK _ _ hSp4 ?_
  clear hK K
  refine wpAnyH_want (i := 37) (by kernel_rfl) rfl (by kernel_rfl) (fun K hK => ?_)
  unfold Oper.wp
  go_simp
  refine (c8 _ _ (hl8.below hSp4)).mono ?_
  rintro e p5 ⟨rfl, hp5⟩
  have hSp5 : Below w8.heap.size w8 p5 := hSp4.trans (hp5.mono hSp4.size)
  clear hp5
  refine hK _ _ hSp5 ?_
  clear hK K
  refine wpAnyH_next (i := 38) (v := .bool false) rfl (by kernel_rfl) (by kernel_rfl) (by kernel_rfl) (fun _ _ _ h => h) (by kernel_rfl) (fun W1 hW1 => by go_simp; done) hSp5 (fun a' ha' => ?_)
  simp only [Act.put, List.getElem_toArray, List.getElem_cons_succ, List.getElem_cons_zero, List.setIfInBounds_toArray, List.set_cons_succ, List.set_cons_zero] at ha'
  subst ha'
  refine wpAnyH_next (i := 39) (v := .bool false) rfl (by kernel_rfl) (by kernel_rfl) (by kernel_rfl) (fun _ _ _ h => h) (by kernel_rfl) (fun W1 hW1 => by go_simp; done) hSp5 (fun a' ha' => ?_)
  simp only [Act.put, List.getElem_toArray, List.getElem_cons_succ, List.getElem_cons_zero, List.setIfInBounds_toArray, List.set_cons_succ, List.set_cons_zero] at ha'
  subst ha'
  refine wpAnyH_fin (by kernel_rfl) ?_ _
  rename World => w9
  have q29 := q28.trans (hSp5.mono q28.size)
  have hn1 := ((OwnL.of HN.out.1 z1 (Nat.le_refl _)).below hSp5 (Nat.le_refl _)).up hSp5.size
  have hn2 := ((OwnL.of HN.out.2.1 z2 (Nat.le_refl _)).below hSp5 (Nat.le_refl _)).up hSp5.size
  have hn3 := ((OwnL.of HN.out.2.2 z3 (Nat.le_refl _)).below hSp5 (Nat.le_refl _)).up hSp5.size
  clear hS0 hSp1 hSp2 hSp3 hSp4 hSp5 es8 ht8 eu8 hv8 ex8 hy8 ho8 hl8 hbx8 q28 c7 c8 hl2 hm2
  have hf1 := hn1
  obtain ⟨As, cs, rfl, -, -⟩ := hf1
  have hf2 := hn2
  obtain ⟨Au, cu, rfl, -, -⟩ := hf2
  have hf3 := hn3
  obtain ⟨Ax, cx, rfl, -, -⟩ := hf3
  have hBb : ∀ ob, Below w9.heap.size w9 (w9.alloc ob) := fun ob => (Below.refl _ w9).alloc (Nat.le_refl _) ob
  have gA : ∀ (a b c : Value) t, (w9.alloc (.cells #[a, b, c] t)).cell? ⟨w9.heap.size, 0, none⟩ = some a := fun a b c t => by go_simp
  have gB : ∀ (a b c : Value) t, (w9.alloc (.cells #[a, b, c] t)).cell? ⟨w9.heap.size, 1, none⟩ = some b := fun a b c t => by go_simp
  have gC : ∀ (a b c : Value) t, (w9.alloc (.cells #[a, b, c] t)).cell? ⟨w9.heap.size, 2, none⟩ = some c := fun a b c t => by go_simp
  have GS := Lib.hid (And.intro gA (And.intro gB gC))
  clear gA gB gC
  go_wp2_with fail
  generalize hWb : w9.alloc _ = Wb at *
  have g0 : Wb.cell? ⟨w9.heap.size, 0, none⟩ = some (.slice As L1.length cs) := by rw [← hWb]; exact GS.out.1 _ _ _ _
  have g1 : Wb.cell? ⟨w9.heap.size, 1, none⟩ = some (.slice Au L2.length cu) := by rw [← hWb]; exact GS.out.2.1 _ _ _ _
  have g2 : Wb.cell? ⟨w9.heap.size, 2, none⟩ = some (.slice Ax L3.length cx) := by rw [← hWb]; exact GS.out.2.2 _ _ _ _
  have hBb : Below w9.heap.size w9 Wb := by rw [← hWb]; exact hBb _
  have hGb : w9.heap.size < Wb.heap.size := by rw [← hWb]; simp
  have hn1 := hn1.below hBb (Nat.le_refl _)
  have hn2 := hn2.below hBb (Nat.le_refl _)
  have hn3 := hn3.below hBb (Nat.le_refl _)
  have q30 := q29.trans (hBb.mono q29.size)
  clear hWb hBb
  generalize w9.heap.size = G at *
  have hKG : ∀ k u wr, Kept (fun j => w2.heap.size ≤ j ∧ j < G) Wb wr → Wb.cell? ⟨G, k, none⟩ = some u → wr.cell? ⟨G, k, none⟩ = some u := fun k u wr hK h => (hK.cell (p := ⟨G, k, none⟩) hGb (fun t => Nat.lt_irrefl _ t.2)).trans h
  have HG := Lib.hid (And.intro g0 (And.intro g1 (And.intro g2 hKG)))
  clear g0 g1 g2 hKG
  go_loopw [117] (fun i wr => ∃ k : Nat, k ≤ 3 ∧ i = .int .i64 k ∧ Kept (fun j => w2.heap.size ≤ j ∧ j < G) Wb wr ∧ OwnL wr w2.heap.size G (.slice As L1.length cs) L1.length ∧ OwnL wr w2.heap.size G (.slice Au L2.length cu) L2.length ∧ OwnL wr w2.heap.size G (.slice Ax L3.length cx) L3.length) (fun i _ => 3 - (intOf i).toNat)
  case atStart => exact ⟨0, by omega, rfl, Kept.refl _ _, hn1, hn2, hn3⟩
  case round =>
    obtain ⟨k, hk, rfl, hK, o1, o2, o3⟩ := hrel
    by_cases hk3 : k < 3
    case pos =>
      obtain ⟨n, Av, cv, hck, hnk⟩ : ∃ n Av cv, wr.cell? ⟨G, k, none⟩ = some (.slice Av n cv) ∧ OwnL wr w2.heap.size G (.slice Av n cv) n := by
        rcases (by omega : k = 0 ∨ k = 1 ∨ k = 2) with rfl | rfl | rfl
        · exact ⟨_, _, _, HG.out.2.2.2 _ _ _ hK HG.out.1, o1⟩
        · exact ⟨_, _, _, HG.out.2.2.2 _ _ _ hK HG.out.2.1, o2⟩
        · exact ⟨_, _, _, HG.out.2.2.2 _ _ _ hK HG.out.2.2.1, o3⟩
      have hki : (k : Int) < 3 := by omega
      have hn0 : n ≤ 1000 := by obtain ⟨_, _, _, h, _⟩ := hnk; exact h
      go_wp2_with fail
      rename World => wo
      go_loopw [123] (fun i wr => ∃ q : Nat, q ≤ n ∧ i = .int .i64 q ∧ Kept (fun j => w2.heap.size ≤ j ∧ j < G) Wb wr ∧ OwnL wr w2.heap.size G (.slice As L1.length cs) L1.length ∧ OwnL wr w2.heap.size G (.slice Au L2.length cu) L2.length ∧ OwnL wr w2.heap.size G (.slice Ax L3.length cx) L3.length ∧ OwnL wr w2.heap.size G (.slice Av n cv) n) (fun i _ => n - (intOf i).toNat)
      case atStart => exact ⟨0, by omega, rfl, hK, o1, o2, o3, hnk⟩
      case round =>
        clear hK o1 o2 o3 hnk hck
        obtain ⟨q, hq, rfl, hK, o1, o2, o3, hnk⟩ := hrel
        have O := Lib.hid (And.intro hK (And.intro o1 (And.intro o2 (And.intro o3 hnk))))
        clear hK o1 o2 o3
        by_cases hqn : q < n
        case pos =>
          obtain ⟨A', c', he, -, hin⟩ := hnk
          obtain ⟨g, hA', hg1, hg2, hth⟩ := hin (by omega)
          obtain ⟨rfl, rfl⟩ : Av = A' ∧ cv = c' := by
            injection he with e1 e2 e3
            exact ⟨e1, e3⟩
          subst hA'
          obtain ⟨hc1, hf1⟩ := hth (q * 2) (by omega)
          rw [Nat.zero_add] at hc1 hf1
          obtain ⟨u0, hu0⟩ := Option.isSome_iff_exists.1 hc1
          have hqi : (q : Int) < (n : Int) := by omega
          have hgw : g < Wb.heap.size := by omega
          clear hth hin hc1 he
          go_wp2_with fail
          exact ⟨⟨q + 1, by omega, by go_num, O.out.1.setCell (p := ⟨g, q * 2, none⟩) (fun _ => ⟨hg1, hg2⟩) _, O.out.2.1.setCell _ _ _, O.out.2.2.1.setCell _ _ _, O.out.2.2.2.1.setCell _ _ _, O.out.2.2.2.2.setCell _ _ _⟩, by simp [intOf]; omega⟩
        case neg =>
          have hqi : ¬ (q : Int) < (n : Int) := by omega
          clear hnk
          go_wp2_with fail
          go_roundw
          case rel => exact ⟨k + 1, by omega, by go_num, O.out.1, O.out.2.1, O.out.2.2.1, O.out.2.2.2.1⟩
          case measure => simp [intOf]; omega
    case neg =>
      obtain rfl : k = 3 := by omega
      have q31 := q30.trans ((hK.below (fun j _ t => t.1) q30.size).mono (Nat.le_refl _))
      have hoz := ho1.below q31
      have hpz := ho2.below q31
      have hBz := hB3.trans (q31.mono hB3.size)
      have hlz := HL.out.below hBz
      have hmz := HM.out.below hBz
      clear o1 o2 o3 hK
      go_wp2_with fail
      refine (same_true wr _ _ l hoz hlz (by omega)).mono ?_
      rintro e w10 ⟨rfl, q10⟩
      go_wp2_with fail
      refine (same_true w10 _ _ m (hpz.below q10) (hmz.below q10) (by omega)).mono ?_
      rintro e w11 ⟨rfl, q11⟩
      have hBf := hBz.trans ((q10.trans (q11.mono q10.size)).mono hBz.size)
      clear hoz hpz hlz hmz q10 q11
      go_wp2
      go_ret
      exact ⟨rfl, hBf⟩

set_option maxRecDepth 100000 in
set_option maxHeartbeats 400000 in
theorem dotsets_great (w : World) (A B : Option Addr) (n k c d : Nat) (x : X2) (hn : n ≤ 9223372036854775807) (hk : k ≤ 9223372036854775807) (h : 60 < n ∨ 60 < k) :
    Calls Try.prog 5 #[.slice A n c, .slice B k d, eDot.val x] w fun e W' => e = .returned (.bool true) ∧ Below w.heap.size w W' := by
  have hB0 : Below w.heap.size w (w.alloc (.cells (eDot.enc x).toArray 38)) := (Below.refl _ w).alloc (Nat.le_refl _) _
  go_enter Try.func5, Try.ntmps5
  by_cases h1 : 60 < n
  · have h1' : (60 : Int) < (n : Int) := by omega
    clear h
    go_wp2
    go_ret
    exact ⟨rfl, hB0⟩
  · have h1' : ¬ (60 : Int) < (n : Int) := by omega
    have h2' : (60 : Int) < (k : Int) := by omega
    clear h
    go_wp2
    go_ret
    exact ⟨rfl, hB0⟩
/-- For all arguments. -/
theorem dotsets_arg (w : World) (v : Value) (l : List X2) (hl : Ds w v l) (hll : l.length ≤ 9223372036854775807) (u : Value) (m : List X2) (hm : Ds w u m) (hml : m.length ≤ 9223372036854775807) (s t : Int) :
    Calls Try.prog 5 #[v, u, DotV s t] w fun e W' => e = .returned (.bool true) ∧ Below w.heap.size w W' := by
  obtain ⟨A, c, rfl, _⟩ := hl.form
  obtain ⟨B, d, rfl, _⟩ := hm.form
  by_cases h : 60 < l.length ∨ 60 < m.length
  · exact dotsets_great w A B _ _ c d (s, t) hll hml h
  · exact dotsets_some w A B c d l m hl hm (s, t) (by omega) (by omega)
end Go.Proofs.Ytcclifnhbncfcaa
