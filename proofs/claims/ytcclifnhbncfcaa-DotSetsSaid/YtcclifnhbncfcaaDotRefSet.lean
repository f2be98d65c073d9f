/- Set, is, Union, Less of the reference of layer 5. -/
import Derived.Test.YtcclifnhbncfcaaDotRefPut
import Derived.Test.YtcclifnhbncfcaaDotSame
import Derived.Test.YtcclifnhbncfcaaDotCheck
import Derived.Test.YtcclifnhbncfcaaDotIs
import Derived.Test.YtcclifnhbncfcaaDotMerge
namespace Go.Proofs.Ytcclifnhbncfcaa
open Go.RowKit Go.Great
set_option maxRecDepth 100000

theorem putE_lenR (l : List X2) (x : X2) : (putE cmpX l x).length ≤ l.length + 1 := by
  unfold putE
  split
  · omega
  · have h := congrArg List.length (List.takeWhile_append_dropWhile (p := fun y => decide (cmpX y x < 0)) (l := l))
    rw [List.length_append] at h
    simp only [insE, List.length_append, List.length_cons, List.length_nil]
    omega
theorem foldE_lenR : ∀ (l out : List X2), (l.foldl (putE cmpX) out).length ≤ l.length + out.length
  | [], out => by simp
  | a :: l, out => by
    have h1 := foldE_lenR l (putE cmpX out a)
    have h2 := putE_lenR out a
    simp only [List.foldl_cons, List.length_cons]
    omega
theorem fold_succ {m l : List X2} {k : Nat} {x : X2} (hx : m[k]? = some x) : (m.take (k + 1)).foldl (putE cmpX) l = putE cmpX ((m.take k).foldl (putE cmpX) l) x := by
  rw [List.take_add_one, hx, List.foldl_append]
  rfl
theorem union_fold {l m : List X2} (hl : Rises cmpX l) (hm : Rises cmpX m) : m.foldl (putE cmpX) l = unionX l m := by
  obtain ⟨h1, h2⟩ := foldE_spec totD m l hl
  obtain ⟨h3, h4⟩ := union_spec hl hm
  exact rises_ext totD _ _ h1 h3 fun x => by rw [h2, h4]; exact Or.comm
/-- What one list has and another one has not. -/
def lessL (l m : List X2) : List X2 := l.filter fun x => !decide (x ∈ m)
theorem lessL_succ {l m : List X2} {k : Nat} {x : X2} (hx : l[k]? = some x) : lessL (l.take (k + 1)) m = lessL (l.take k) m ++ (if x ∈ m then [] else [x]) := by
  unfold lessL
  rw [List.take_add_one, hx, List.filter_append]
  by_cases h : x ∈ m <;> simp [h]
theorem lessL_le (l m : List X2) : (lessL l m).length ≤ l.length := List.length_filter_le _ _
theorem less_filter {l m : List X2} (hl : Rises cmpX l) (hm : Rises cmpX m) : lessL l m = lessX l m := by
  obtain ⟨h3, h4⟩ := less_spec hl hm
  refine rises_ext totD _ _ (List.Pairwise.sublist List.filter_sublist hl) h3 fun x => ?_
  rw [h4]
  unfold lessL
  rw [List.mem_filter]
  simp

set_option maxRecDepth 100000 in
set_option maxHeartbeats 2000000 in
theorem r5Set_any (w : World) (v : Value) (l : List X2) (hs : Ds w v l) (hl : l.length ≤ 1000) :
    Calls Try.prog 17 #[v] w fun e W' => ∃ v', e = .returned (.tuple #[v', .int .i64 (if l.all okX then 0 else 50)]) ∧ RowD W' w.heap.size v' (if l.all okX then setE cmpX l else []) ∧ Below w.heap.size w W' := by
  obtain ⟨A, c, rfl, hc⟩ := hs.form
  have HS := Lib.hid hs
  obtain ⟨r, hr⟩ : ∃ r : Int, r = (if l.all okX then 0 else 50) := ⟨_, rfl⟩
  obtain ⟨L, hL⟩ : ∃ L, L = (if l.all okX then setE cmpX l else []) := ⟨_, rfl⟩
  rw [← hr, ← hL]
  have HRL := Lib.hid (And.intro hr hL)
  clear hs hr hL
  go_enter Try.func17, Try.ntmps17
  go_wp2_with fail
  go_loopw [4, 5] (fun v i wr => ∃ k : Nat, k ≤ l.length ∧ i = .int .i64 k ∧ (l.take k).all okX = true ∧ RowD wr w.heap.size v ((l.take k).foldl (putE cmpX) []) ∧ Below w.heap.size w wr) (fun _ i _ => l.length - (intOf i).toNat)
  case atStart => exact ⟨0, by omega, rfl, by simp, RowE.nil _ _, Below.refl _ _⟩
  case round =>
    obtain ⟨k, hk, rfl, hok, hrow, hB⟩ := hrel
    have HOK := Lib.hid hok
    clear hok
    by_cases hkl : k < l.length
    case neg =>
      obtain rfl : k = l.length := by omega
      have HE := Lib.hid (show l.all okX = true by have := HOK.out; rwa [List.take_length] at this)
      rw [List.take_length] at hrow
      obtain rfl : r = 0 := by rw [HRL.out.1, HE.out]; rfl
      obtain rfl : L = setE cmpX l := by rw [HRL.out.2, HE.out]; rfl
      go_wp2_with fail
      go_ret2
      exact ⟨_, rfl, hrow, hB⟩
    case pos =>
      obtain ⟨x, hx⟩ : ∃ x, l[k]? = some x := ⟨_, List.getElem?_eq_getElem hkl⟩
      obtain ⟨b, off, rfl, hat⟩ := (HS.out.below hB).at hx
      have hkl' : (k : Int) < (l.length : Int) := by omega
      have HX := Lib.hid hx
      have HROW := Lib.hid hrow
      clear hx hrow
      by_cases ho : okX x = true
      case neg =>
        have hall := Lib.hid (show l.all okX = false from Bool.eq_false_iff.2 fun h => ho (List.all_eq_true.1 h x (List.mem_of_getElem? HX.out)))
        have cK : ∀ W, Calls Try.prog 46 #[eDot.val x] W fun e W' => e = .returned (.int .i64 50) ∧ Below W.heap.size W W' := fun W => by
          have h := r5Check_any W x.1 x.2
          rwa [checkD_no (fun h => ho (decide_eq_true h))] at h
        obtain rfl : r = 50 := by rw [HRL.out.1, hall.out]; rfl
        obtain rfl : L = [] := by rw [HRL.out.2, hall.out]; rfl
        go_wp2_with (refine eltDot.wpLoad rfl (.tmp 14) rfl rfl hat ?_)
        refine (cK _).mono ?_
        rintro e w1 ⟨rfl, q1⟩
        go_wp2_with fail
        go_ret2
        exact ⟨_, rfl, RowE.nil _ _, hB.trans (q1.mono hB.size)⟩
      case pos =>
        have HA := Lib.hid (show (l.take (k + 1)).all okX = true by
          rw [List.take_add_one, HX.out, List.all_append, HOK.out]
          simp [ho])
        have cK : ∀ W, Calls Try.prog 46 #[eDot.val x] W fun e W' => e = .returned (.int .i64 0) ∧ Below W.heap.size W W' := fun W => by
          have h := r5Check_any W x.1 x.2
          rwa [checkD_ok (of_decide_eq_true ho)] at h
        go_wp2_with (refine eltDot.wpLoad rfl (.tmp 14) rfl rfl hat ?_)
        refine (cK _).mono ?_
        rintro e w1 ⟨rfl, q1⟩
        have hat1 := hat.below q1
        have hB1 := hB.trans (q1.mono hB.size)
        have hsz : ((l.take k).foldl (putE cmpX) []).length ≤ 1000 := by have := foldE_lenR (l.take k) []; simp at this; omega
        go_wp2_with (refine eltDot.wpLoad rfl (.tmp 21) rfl rfl hat1 ?_)
        refine (r5Put_any w1 _ _ x w.heap.size hB1.size (HROW.out.below q1) hsz (foldE_spec totD _ _ List.Pairwise.nil).1).mono ?_
        rintro e w2 ⟨v2, rfl, h2, q2⟩
        rw [← fold_succ HX.out] at h2
        have HROW2 := Lib.hid h2
        have hB2 := hB1.trans (q2.mono hB1.size)
        clear h2 q1 q2 hat hat1 hB1 hB
        go_wp2_with fail
        go_roundw
        case rel => exact ⟨k + 1, by omega, by go_num, HA.out, HROW2.out, hB2⟩
        case measure => simp [intOf]; omega

set_option maxRecDepth 100000 in
set_option maxHeartbeats 2000000 in
theorem r5Is_any (w : World) (v : Value) (l : List X2) (hs : Ds w v l) (hl : l.length ≤ 1000) :
    Calls Try.prog 50 #[v] w fun e W' => e = .returned (.bool (isB l)) ∧ Below w.heap.size w W' := by
  have c1 := r5Set_any w v l hs hl
  have HS := Lib.hid hs
  clear hs
  by_cases hok : l.all okX = true
  case pos =>
    rw [hok] at c1
    obtain ⟨b, hb⟩ : ∃ b, b = decide (setE cmpX l = l) := ⟨_, rfl⟩
    have HE := Lib.hid (show isB l = b by rw [hb]; unfold isB; rw [hok]; rfl)
    have HBB := Lib.hid hb
    clear hb
    have hsl : (setE cmpX l).length ≤ 1000 := by have := foldE_lenR l []; simp at this; unfold setE; omega
    go_enter Try.func50, Try.ntmps50
    go_wp2_with fail
    refine c1.mono ?_
    rintro e w1 ⟨v1, rfl, h1, q1⟩
    simp only [if_true] at h1
    go_wp2_with fail
    refine (r5Same_any w1 v1 v _ l h1.is (HS.out.below q1) hsl hl).mono ?_
    rintro e w2 ⟨rfl, q2⟩
    rw [← HBB.out]
    go_wp2_with fail
    go_ret
    exact ⟨by rw [HE.out]; rfl, q1.trans (q2.mono q1.size)⟩
  case neg =>
    have hokf := Bool.eq_false_iff.2 hok
    rw [hokf] at c1
    have HE := Lib.hid (show isB l = false by unfold isB; rw [hokf]; rfl)
    go_enter Try.func50, Try.ntmps50
    go_wp2_with fail
    refine c1.mono ?_
    rintro e w1 ⟨v1, rfl, h1, q1⟩
    simp only [Bool.false_eq_true, if_false] at h1
    go_wp2_with fail
    refine (r5Same_any w1 v1 v [] l h1.is (HS.out.below q1) (by simp) hl).mono ?_
    rintro e w2 ⟨rfl, q2⟩
    go_wp2_with fail
    go_ret
    exact ⟨by rw [HE.out]; rfl, q1.trans (q2.mono q1.size)⟩

set_option maxRecDepth 100000 in
set_option maxHeartbeats 2000000 in
theorem r5Union_any (w : World) (v v' : Value) (l m : List X2) (hs : Ds w v l) (hs' : Ds w v' m) (hl : l.length ≤ 400) (hm : m.length ≤ 400) :
    Calls Try.prog 19 #[v, v'] w fun e W' => ∃ u, e = .returned (.tuple #[u, .int .i64 (if isB l && isB m then 0 else 50)]) ∧ RowD W' w.heap.size u (if isB l && isB m then unionX l m else []) ∧ Below w.heap.size w W' := by
  have c1 := r5Is_any w v l hs (by omega)
  have c2 := fun W h => r5Is_any W v' m h (by omega)
  obtain ⟨A, c, rfl, hc⟩ := hs.form
  obtain ⟨A', c', rfl, hc'⟩ := hs'.form
  have HS := Lib.hid hs
  have HS' := Lib.hid hs'
  have HT := Lib.hid hl
  clear hs hs'
  obtain ⟨p, hp⟩ : ∃ p, p = isB l := ⟨_, rfl⟩
  obtain ⟨q, hq⟩ : ∃ q, q = isB m := ⟨_, rfl⟩
  rw [← hp] at c1 ⊢
  rw [← hq] at c2 ⊢
  have HP := Lib.hid hp
  have HQ := Lib.hid hq
  clear hp hq
  go_enter Try.func19, Try.ntmps19
  go_wp2_with fail
  refine c1.mono ?_
  rintro e w1 ⟨rfl, q1⟩
  have hm1 := HS'.out.below q1
  go_wp2_with fail
  refine (c2 w1 hm1).mono ?_
  rintro e w2 ⟨rfl, q2⟩
  have hB2 := q1.trans (q2.mono q1.size)
  have hl2 := HS.out.below hB2
  have hm2 := HS'.out.below hB2
  clear hm1 q1 q2 c1 c2
  by_cases hpq : p = true ∧ q = true
  case neg =>
    have hpq' : (p && q) = false := by
      cases p <;> cases q <;> simp_all
    have HF := Lib.hid hpq'
    clear hpq'
    cases p with
    | false =>
      go_wp2_with fail
      go_ret2
      exact ⟨_, rfl, RowE.nil _ _, hB2⟩
    | true =>
      have hqf : q = false := by cases q <;> simp_all
      subst hqf
      go_wp2_with fail
      go_ret2
      exact ⟨_, rfl, RowE.nil _ _, hB2⟩
  case pos =>
    obtain ⟨rfl, rfl⟩ := hpq
    have hrl := Lib.hid ((isB_iff l).1 HP.out.symm).2
    have hrm := Lib.hid ((isB_iff m).1 HQ.out.symm).2
    go_wp2_with (at_builtin; refine wpList_append_es eltDot rfl (.tmp 20) (.tmp 21) rfl w2.heap.size _ [] rfl (RowE.nil _ _) _ l rfl hl2 (by simp; omega) (Nat.le_refl _) ?_; intro v3 w3 hown3 hg3 _; have h3 : Below w2.heap.size w2 w3 := (Kept.of_grown hg3).below (fun j _ e => by have e' : (none : Option Nat) = some j := e; cases e') (Nat.le_refl _); rw [List.nil_append] at hown3; have hm3 := hm2.below h3; have hown3 := RowE.base hown3 hB2.size; have hB3 := hB2.trans (h3.mono hB2.size); clear hg3 h3 hm2 hl2)
    have HM3 := Lib.hid hm3
    clear hm3
    go_loopw [8, 9] (fun v i wr => ∃ k : Nat, k ≤ m.length ∧ i = .int .i64 k ∧ RowD wr w.heap.size v ((m.take k).foldl (putE cmpX) l) ∧ Below w3.heap.size w3 wr) (fun _ i _ => m.length - (intOf i).toNat)
    case atStart => exact ⟨0, by omega, rfl, hown3, Below.refl _ _⟩
    case round =>
      obtain ⟨k, hk, rfl, hrow, hB⟩ := hrel
      have HROW := Lib.hid hrow
      have hBw := hB3.trans (hB.mono hB3.size)
      clear hrow
      by_cases hkm : k < m.length
      case neg =>
        obtain rfl : k = m.length := by omega
        have HE := Lib.hid (show m.foldl (putE cmpX) l = unionX l m from union_fold hrl.out hrm.out)
        have h1 := HROW.out
        rw [List.take_length, HE.out] at h1
        have HROW2 := Lib.hid h1
        clear h1
        go_wp2_with fail
        go_ret2
        exact ⟨_, rfl, HROW2.out, hBw⟩
      case pos =>
        obtain ⟨x, hx⟩ : ∃ x, m[k]? = some x := ⟨_, List.getElem?_eq_getElem hkm⟩
        obtain ⟨b, off, rfl, hat⟩ := (HM3.out.below hB).at hx
        have hkm' : (k : Int) < (m.length : Int) := by omega
        have HX := Lib.hid hx
        clear hx
        have hsz : ((m.take k).foldl (putE cmpX) l).length ≤ 1000 := by have := foldE_lenR (m.take k) l; simp at this; omega
        go_wp2_with (refine eltDot.wpLoad rfl (.tmp 32) rfl rfl hat ?_)
        refine (r5Put_any wr _ _ x w.heap.size hBw.size HROW.out hsz (foldE_spec totD _ _ hrl.out).1).mono ?_
        rintro e w5 ⟨v5, rfl, h5, q5⟩
        rw [← fold_succ HX.out] at h5
        have HROW2 := Lib.hid h5
        have hB5 := hB.trans (q5.mono hB.size)
        clear h5 q5 hat hB
        go_wp2_with fail
        go_roundw
        case rel => exact ⟨k + 1, by omega, by go_num, HROW2.out, hB5⟩
        case measure => simp [intOf]; omega

set_option maxRecDepth 100000 in
set_option maxHeartbeats 2000000 in
theorem r5Less_any (w : World) (v v' : Value) (l m : List X2) (hs : Ds w v l) (hs' : Ds w v' m) (hl : l.length ≤ 400) (hm : m.length ≤ 400) :
    Calls Try.prog 21 #[v, v'] w fun e W' => ∃ u, e = .returned (.tuple #[u, .int .i64 (if isB l && isB m then 0 else 50)]) ∧ RowD W' w.heap.size u (if isB l && isB m then lessX l m else []) ∧ Below w.heap.size w W' := by
  have c1 := r5Is_any w v l hs (by omega)
  have c2 := fun W h => r5Is_any W v' m h (by omega)
  have c3 := fun W h x => r5Has_any W v' m x h (by omega)
  obtain ⟨A, c, rfl, hc⟩ := hs.form
  have HS := Lib.hid hs
  have HS' := Lib.hid hs'
  clear hs hs'
  obtain ⟨p, hp⟩ : ∃ p, p = isB l := ⟨_, rfl⟩
  obtain ⟨q, hq⟩ : ∃ q, q = isB m := ⟨_, rfl⟩
  rw [← hp] at c1 ⊢
  rw [← hq] at c2 ⊢
  have HP := Lib.hid hp
  have HQ := Lib.hid hq
  clear hp hq
  go_enter Try.func21, Try.ntmps21
  go_wp2_with fail
  refine c1.mono ?_
  rintro e w1 ⟨rfl, q1⟩
  have hm1 := HS'.out.below q1
  go_wp2_with fail
  refine (c2 w1 hm1).mono ?_
  rintro e w2 ⟨rfl, q2⟩
  have hB2 := q1.trans (q2.mono q1.size)
  clear hm1 q1 q2 c1 c2
  by_cases hpq : p = true ∧ q = true
  case neg =>
    have hpq' : (p && q) = false := by
      cases p <;> cases q <;> simp_all
    have HF := Lib.hid hpq'
    clear hpq'
    cases p with
    | false =>
      go_wp2_with fail
      go_ret2
      exact ⟨_, rfl, RowE.nil _ _, hB2⟩
    | true =>
      have hqf : q = false := by cases q <;> simp_all
      subst hqf
      go_wp2_with fail
      go_ret2
      exact ⟨_, rfl, RowE.nil _ _, hB2⟩
  case pos =>
    obtain ⟨rfl, rfl⟩ := hpq
    have HE := Lib.hid (less_filter ((isB_iff l).1 HP.out.symm).2 ((isB_iff m).1 HQ.out.symm).2)
    go_wp2_with fail
    go_loopw [8, 9] (fun v i wr => ∃ k : Nat, k ≤ l.length ∧ i = .int .i64 k ∧ RowD wr w2.heap.size v (lessL (l.take k) m) ∧ Below w2.heap.size w2 wr) (fun _ i _ => l.length - (intOf i).toNat)
    case atStart => exact ⟨0, by omega, rfl, RowE.nil _ _, Below.refl _ _⟩
    case round =>
      obtain ⟨k, hk, rfl, hrow, hB⟩ := hrel
      have HROW := Lib.hid hrow
      have hBw := hB2.trans (hB.mono hB2.size)
      clear hrow
      by_cases hkl : k < l.length
      case neg =>
        obtain rfl : k = l.length := by omega
        have h1 := HROW.out
        rw [List.take_length, HE.out] at h1
        have HROW2 := Lib.hid h1
        clear h1
        go_wp2_with fail
        go_ret2
        exact ⟨_, rfl, RowE.base HROW2.out hB2.size, hBw⟩
      case pos =>
        obtain ⟨x, hx⟩ : ∃ x, l[k]? = some x := ⟨_, List.getElem?_eq_getElem hkl⟩
        obtain ⟨b, off, rfl, hat⟩ := (HS.out.below hBw).at hx
        have hkl' : (k : Int) < (l.length : Int) := by omega
        have HX := Lib.hid (lessL_succ (m := m) hx)
        have hmr := HS'.out.below hBw
        clear hx
        go_wp2_with (refine eltDot.wpLoad rfl (.tmp 30) rfl rfl hat ?_)
        refine (c3 wr hmr x).mono ?_
        rintro e w5 ⟨rfl, q5⟩
        have hB5 := hB.trans (q5.mono hB.size)
        have hat5 := hat.below q5
        have HROW5 := Lib.hid (HROW.out.below q5)
        have hle := lessL_le (l.take k) m
        rw [List.length_take, Nat.min_eq_left hk] at hle
        by_cases hxm : x ∈ m
        case pos =>
          rw [decide_eq_true hxm]
          have HROW6 := Lib.hid (show RowD w5 w2.heap.size _ (lessL (l.take (k + 1)) m) by rw [HX.out, if_pos hxm, List.append_nil]; exact HROW5.out)
          clear hxm hat hmr q5 HX hB
          go_wp2_with fail
          go_roundw
          case rel => exact ⟨k + 1, by omega, by go_num, HROW6.out, hB5⟩
          case measure => simp [intOf]; omega
        case neg =>
          rw [decide_eq_false hxm]
          have HX2 := Lib.hid (show lessL (l.take (k + 1)) m = lessL (l.take k) m ++ [x] by rw [HX.out, if_neg hxm])
          clear hxm hat hmr q5 HX hB
          go_wp2_with (first
            | (refine eltDot.wpLoad rfl (.tmp 38) rfl rfl hat5 ?_)
            | (refine wpList_one_e eltDot (by decide) rfl (.tmp 39) rfl rfl ?_; have one := Es.one_e (E := eDot) w5 x 38; have hB6 := hB5.alloc hB5.size (.cells (eDot.enc x).toArray 38); have hown6 := HROW5.out.below ((Below.refl _ w5).alloc (Nat.le_refl _) (.cells (eDot.enc x).toArray 38)); clear HROW5 hat5; generalize w5.alloc (.cells (eDot.enc x).toArray 38) = w6 at *; generalize w5.heap.size = g5 at *)
            | (at_builtin; refine wpList_append_es eltDot rfl (.tmp 35) (.tmp 40) rfl w2.heap.size _ _ rfl hown6 _ [x] rfl one (by simp; omega) hB6.size ?_; intro v7 w7 hown7 hg7 _; have hB7 := hB6.trans ((Kept.of_grown hg7).below (fun j _ e => (hown6.lt j e).1) hB6.size)))
          have HROW7 := Lib.hid (show RowD w7 w2.heap.size _ (lessL (l.take (k + 1)) m) by rw [HX2.out]; exact hown7)
          clear hown7 hg7 hown6 one hB6 hB5
          go_roundw
          case rel => exact ⟨k + 1, by omega, by go_num, HROW7.out, hB7⟩
          case measure => simp [intOf]; omega
end Go.Proofs.Ytcclifnhbncfcaa
