/- Put of the reference of layer 5 (tools/gendotref.py). -/
import Derived.Test.YtcclifnhbncfcaaDotRefHas
namespace Go.Proofs.Ytcclifnhbncfcaa
open Go.RowKit Go.Great
set_option maxRecDepth 100000

theorem takeW_at {α : Type} {p : α → Bool} {out : List α} {n : Nat} (h1 : ∀ i y, i < n → out[i]? = some y → p y = true) (h2 : n = out.length ∨ ∃ y, out[n]? = some y ∧ p y = false) (hn : n ≤ out.length) : out.takeWhile p = out.take n ∧ out.dropWhile p = out.drop n := by
  induction out generalizing n with
  | nil => simp at hn; subst hn; exact ⟨rfl, rfl⟩
  | cons y out ih =>
    cases n with
    | zero =>
      rcases h2 with h2 | ⟨z, hz, hp⟩
      · simp at h2
      · simp at hz
        subst hz
        simp [List.takeWhile, List.dropWhile, hp]
    | succ n =>
      have hy := h1 0 y (by omega) rfl
      obtain ⟨e1, e2⟩ := ih (n := n) (fun i z hi hz => h1 (i + 1) z (by omega) (by simpa using hz)) (by rcases h2 with h2 | ⟨z, hz, hp⟩; exact .inl (by simpa using h2); exact .inr ⟨z, by simpa using hz, hp⟩) (by simpa using hn)
      simp [List.takeWhile, List.dropWhile, hy, e1, e2]
/-- Put in where the first one stands that is not ahead. -/
theorem put_at {l : List (Int × Int)} {x : Int × Int} {k : Nat} (hr : Rises cmpX l) (hk : k ≤ l.length) (h1 : ∀ i y, i < k → l[i]? = some y → cmpX y x < 0) (h2 : k = l.length ∨ ∃ y, l[k]? = some y ∧ ¬ cmpX y x < 0 ∧ ¬ y = x) : putE cmpX l x = l.take k ++ [x] ++ l.drop k := by
  obtain ⟨e1, e2⟩ := takeW_at (p := fun y => decide (cmpX y x < 0)) (out := l) (n := k) (fun i z hi hz => decide_eq_true (h1 i z hi hz)) (by
    rcases h2 with h2 | ⟨y, hy, hc, _⟩
    · exact .inl h2
    · exact .inr ⟨y, hy, decide_eq_false hc⟩) hk
  have hn : ¬ x ∈ l := by
    intro hm
    obtain ⟨i, hi⟩ := List.getElem?_of_mem hm
    have hil := (List.getElem?_eq_some_iff.1 hi).1
    have hge : k ≤ i := Classical.byContradiction fun c => by
      have := h1 i x (by omega) hi
      have := totD.same x
      omega
    rcases h2 with h2 | ⟨y, hy, hc, hne⟩
    · omega
    · by_cases hik : i = k
      · subst hik
        rw [hi] at hy
        cases hy
        exact hne rfl
      · have h3 := List.pairwise_iff_getElem.1 hr k i (by omega) hil (by omega)
        rw [List.getElem?_eq_getElem (by omega)] at hy hi
        rw [Option.some.inj hy, Option.some.inj hi] at h3
        exact hc h3
  unfold putE
  rw [if_neg hn]
  unfold insE
  rw [e1, e2]
theorem put_there {l : List (Int × Int)} {x : Int × Int} (h : x ∈ l) : putE cmpX l x = l := by
  unfold putE
  rw [if_pos h]

set_option maxRecDepth 100000 in
set_option maxHeartbeats 4000000 in
theorem r5Put_any (w : World) (v : Value) (l : List (Int × Int)) (x : Int × Int) (n : Nat) (hn : n ≤ w.heap.size) (hs : RowD w n v l) (hl : l.length ≤ 1000) (hr : Rises cmpX l) :
    Calls Try.prog 47 #[v, eDot.val x] w fun e W' => ∃ v', e = .returned v' ∧ RowD W' n v' (putE cmpX l x) ∧ Below w.heap.size w W' := by
  obtain ⟨A, c, rfl, hc⟩ := hs.slice
  have hB0 : Below w.heap.size w (w.alloc (.cells (eDot.enc x).toArray 38)) := (Below.refl _ w).alloc (Nat.le_refl _) _
  have hb0 := ElAt.box (E := eDot) w x 38
  have HS := Lib.hid (hs.below hB0)
  have HR := Lib.hid hr
  have HN := Lib.hid hn
  clear hs hr hn
  go_enter Try.func47, Try.ntmps47
  go_wp2_with fail
  generalize hW0 : w.alloc _ = W0 at *
  clear hW0
  go_loopw [6] (fun i wr => ∃ k : Nat, k ≤ l.length ∧ i = .int .i64 k ∧ (∀ i y, i < k → l[i]? = some y → cmpX y x < 0) ∧ Below W0.heap.size W0 wr) (fun i _ => l.length - (intOf i).toNat)
  case atStart => exact ⟨0, by omega, rfl, fun i y hi => by omega, Below.refl _ _⟩
  case round =>
    obtain ⟨k, hk, rfl, hall, hB⟩ := hrel
    have HALL := Lib.hid hall
    have hrow := HS.out.below hB
    have hBw := hB0.trans (hB.mono hB0.size)
    have hbx := hb0.below hB
    clear hall
    by_cases hkl : k < l.length
    case pos =>
      obtain ⟨y, hy⟩ : ∃ y, l[k]? = some y := ⟨_, List.getElem?_eq_getElem hkl⟩
      obtain ⟨b, off, rfl, hat⟩ := hrow.is.at hy
      have hkl' : (k : Int) < (l.length : Int) := by omega
      have HY := Lib.hid hy
      have HROW := Lib.hid hrow
      obtain ⟨C, hC⟩ : ∃ C, C = cmpX y x := ⟨_, rfl⟩
      have cC : ∀ W, Calls Try.prog 72 #[eDot.val y, eDot.val x] W fun e W' => e = .returned (.int .i64 C) ∧ Below W.heap.size W W' := fun W => by rw [hC]; exact r5Compare_any W y.1 y.2 x.1 x.2
      have HC := Lib.hid hC
      clear hy hC hrow
      by_cases hCm : C < 0
      case pos =>
          have HA2 := Lib.hid (show ∀ i z, i < k + 1 → l[i]? = some z → cmpX z x < 0 by
            intro i z hi hz
            by_cases hin : i = k
            · subst hin
              rw [HY.out] at hz
              cases hz
              rw [← HC.out]
              exact hCm
            · exact HALL.out i z (by omega) hz)
          go_wp2_with fail
          refine wp_held (fun W1 => Below wr.heap.size wr W1) (by kernel_rfl) ?_
          have hS0 : Below wr.heap.size wr wr.drew := (Below.refl _ wr).drew
          refine wpAnyH_next (i := 0) (v := .int .i64 (k : Int)) rfl (by kernel_rfl) (by kernel_rfl) (by kernel_rfl) (fun _ _ _ h => h) (by kernel_rfl) (fun W1 hW1 => by go_simp; done) hS0 (fun a' ha' => ?_)
          simp only [Act.put, List.getElem_toArray, List.getElem_cons_succ, List.getElem_cons_zero, List.setIfInBounds_toArray, List.set_cons_succ, List.set_cons_zero] at ha'
          subst ha'
          refine wpAnyH_next (i := 1) (v := .slice (some ⟨b, off, none⟩) l.length c) rfl (by kernel_rfl) (by kernel_rfl) (by kernel_rfl) (fun _ _ _ h => h) (by kernel_rfl) (fun W1 hW1 => by go_simp; done) hS0 (fun a' ha' => ?_)
          simp only [Act.put, List.getElem_toArray, List.getElem_cons_succ, List.getElem_cons_zero, List.setIfInBounds_toArray, List.set_cons_succ, List.set_cons_zero] at ha'
          subst ha'
          refine wpAnyH_next (i := 2) (v := .int .i64 (l.length : Int)) rfl (by kernel_rfl) (by kernel_rfl) (by kernel_rfl) (fun _ _ _ h => h) (by kernel_rfl) (fun W1 hW1 => by go_simp; done) hS0 (fun a' ha' => ?_)
          simp only [Act.put, List.getElem_toArray, List.getElem_cons_succ, List.getElem_cons_zero, List.setIfInBounds_toArray, List.set_cons_succ, List.set_cons_zero] at ha'
          subst ha'
          refine wpAnyH_next (i := 3) (v := .bool true) rfl (by kernel_rfl) (by kernel_rfl) (by kernel_rfl) (fun _ _ _ h => h) (by kernel_rfl) (fun W1 hW1 => by go_simp; done) hS0 (fun a' ha' => ?_)
          simp only [Act.put, List.getElem_toArray, List.getElem_cons_succ, List.getElem_cons_zero, List.setIfInBounds_toArray, List.set_cons_succ, List.set_cons_zero] at ha'
          subst ha'
          refine wpAnyH_next (i := 4) (v := .bool true) rfl (by kernel_rfl) (by kernel_rfl) (by kernel_rfl) (fun _ _ _ h => h) (by kernel_rfl) (fun W1 hW1 => by go_simp; done) hS0 (fun a' ha' => ?_)
          simp only [Act.put, List.getElem_toArray, List.getElem_cons_succ, List.getElem_cons_zero, List.setIfInBounds_toArray, List.set_cons_succ, List.set_cons_zero] at ha'
          subst ha'
          refine wpAnyH_next (i := 5) (v := .slice (some ⟨b, off, none⟩) l.length c) rfl (by kernel_rfl) (by kernel_rfl) (by kernel_rfl) (fun _ _ _ h => h) (by kernel_rfl) (fun W1 hW1 => by go_simp; done) hS0 (fun a' ha' => ?_)
          simp only [Act.put, List.getElem_toArray, List.getElem_cons_succ, List.getElem_cons_zero, List.setIfInBounds_toArray, List.set_cons_succ, List.set_cons_zero] at ha'
          subst ha'
          refine wpAnyH_next (i := 6) (v := .int .i64 (k : Int)) rfl (by kernel_rfl) (by kernel_rfl) (by kernel_rfl) (fun _ _ _ h => h) (by kernel_rfl) (fun W1 hW1 => by go_simp; done) hS0 (fun a' ha' => ?_)
          simp only [Act.put, List.getElem_toArray, List.getElem_cons_succ, List.getElem_cons_zero, List.setIfInBounds_toArray, List.set_cons_succ, List.set_cons_zero] at ha'
          subst ha'
          refine wpAnyH_next (i := 7) (v := .pointer (some ⟨b, off + k * 2, none⟩)) rfl (by kernel_rfl) (by kernel_rfl) (by kernel_rfl) (fun _ _ _ h => h) (by kernel_rfl) (fun W1 hW1 => by go_simp; done) hS0 (fun a' ha' => ?_)
          simp only [Act.put, List.getElem_toArray, List.getElem_cons_succ, List.getElem_cons_zero, List.setIfInBounds_toArray, List.set_cons_succ, List.set_cons_zero] at ha'
          subst ha'
          refine wpAnyH_next (i := 8) (v := eDot.val y) rfl (by kernel_rfl) (by kernel_rfl) (by kernel_rfl) (fun _ _ _ h => h) (by kernel_rfl) (fun W1 hW1 => by exact eltDot.load rfl rfl (hat.below hW1)) hS0 (fun a' ha' => ?_)
          simp only [Act.put, List.getElem_toArray, List.getElem_cons_succ, List.getElem_cons_zero, List.setIfInBounds_toArray, List.set_cons_succ, List.set_cons_zero] at ha'
          subst ha'
          refine wpAnyH_next (i := 9) (v := eDot.val x) rfl (by kernel_rfl) (by kernel_rfl) (by kernel_rfl) (fun _ _ _ h => h) (by kernel_rfl) (fun W1 hW1 => by exact eltDot.load rfl rfl (hbx.below hW1)) hS0 (fun a' ha' => ?_)
          simp only [Act.put, List.getElem_toArray, List.getElem_cons_succ, List.getElem_cons_zero, List.setIfInBounds_toArray, List.set_cons_succ, List.set_cons_zero] at ha'
          subst ha'
          refine wpAnyH_want (i := 10) (by kernel_rfl) rfl (by kernel_rfl) (fun K hK => ?_)
          unfold Oper.wp
          go_simp
          refine (cC _).mono ?_
          rintro e z1 ⟨rfl, hz1⟩
          have hSz1 : Below wr.heap.size wr z1 := hS0.trans (hz1.mono hS0.size)
          clear hz1
          refine hK _ _ hSz1 ?_
          clear hK K
          refine wpAnyH_next (i := 11) (v := .bool true) rfl (by kernel_rfl) (by kernel_rfl) (by kernel_rfl) (fun _ _ _ h => h) (by kernel_rfl) (fun W1 hW1 => by go_simp; done) hSz1 (fun a' ha' => ?_)
          simp only [Act.put, List.getElem_toArray, List.getElem_cons_succ, List.getElem_cons_zero, List.setIfInBounds_toArray, List.set_cons_succ, List.set_cons_zero] at ha'
          subst ha'
          refine wpAnyH_next (i := 12) (v := .bool true) rfl (by kernel_rfl) (by kernel_rfl) (by kernel_rfl) (fun _ _ _ h => h) (by kernel_rfl) (fun W1 hW1 => by go_simp; done) hSz1 (fun a' ha' => ?_)
          simp only [Act.put, List.getElem_toArray, List.getElem_cons_succ, List.getElem_cons_zero, List.setIfInBounds_toArray, List.set_cons_succ, List.set_cons_zero] at ha'
          subst ha'
          refine wpAnyH_fin (by kernel_rfl) ?_ _
          have hB1 := hB.trans (hSz1.mono hB.size)
          clear hSz1
          go_wp2_with fail
          go_roundw
          case rel => exact ⟨k + 1, by omega, by go_num, HA2.out, hB1⟩
          case measure => simp [intOf]; omega
      case neg =>
          have HCM := Lib.hid hCm
          go_wp2_with fail
          refine wp_held (fun W1 => Below wr.heap.size wr W1) (by kernel_rfl) ?_
          have hS0 : Below wr.heap.size wr wr.drew := (Below.refl _ wr).drew
          refine wpAnyH_next (i := 0) (v := .int .i64 (k : Int)) rfl (by kernel_rfl) (by kernel_rfl) (by kernel_rfl) (fun _ _ _ h => h) (by kernel_rfl) (fun W1 hW1 => by go_simp; done) hS0 (fun a' ha' => ?_)
          simp only [Act.put, List.getElem_toArray, List.getElem_cons_succ, List.getElem_cons_zero, List.setIfInBounds_toArray, List.set_cons_succ, List.set_cons_zero] at ha'
          subst ha'
          refine wpAnyH_next (i := 1) (v := .slice (some ⟨b, off, none⟩) l.length c) rfl (by kernel_rfl) (by kernel_rfl) (by kernel_rfl) (fun _ _ _ h => h) (by kernel_rfl) (fun W1 hW1 => by go_simp; done) hS0 (fun a' ha' => ?_)
          simp only [Act.put, List.getElem_toArray, List.getElem_cons_succ, List.getElem_cons_zero, List.setIfInBounds_toArray, List.set_cons_succ, List.set_cons_zero] at ha'
          subst ha'
          refine wpAnyH_next (i := 2) (v := .int .i64 (l.length : Int)) rfl (by kernel_rfl) (by kernel_rfl) (by kernel_rfl) (fun _ _ _ h => h) (by kernel_rfl) (fun W1 hW1 => by go_simp; done) hS0 (fun a' ha' => ?_)
          simp only [Act.put, List.getElem_toArray, List.getElem_cons_succ, List.getElem_cons_zero, List.setIfInBounds_toArray, List.set_cons_succ, List.set_cons_zero] at ha'
          subst ha'
          refine wpAnyH_next (i := 3) (v := .bool true) rfl (by kernel_rfl) (by kernel_rfl) (by kernel_rfl) (fun _ _ _ h => h) (by kernel_rfl) (fun W1 hW1 => by go_simp; done) hS0 (fun a' ha' => ?_)
          simp only [Act.put, List.getElem_toArray, List.getElem_cons_succ, List.getElem_cons_zero, List.setIfInBounds_toArray, List.set_cons_succ, List.set_cons_zero] at ha'
          subst ha'
          refine wpAnyH_next (i := 4) (v := .bool true) rfl (by kernel_rfl) (by kernel_rfl) (by kernel_rfl) (fun _ _ _ h => h) (by kernel_rfl) (fun W1 hW1 => by go_simp; done) hS0 (fun a' ha' => ?_)
          simp only [Act.put, List.getElem_toArray, List.getElem_cons_succ, List.getElem_cons_zero, List.setIfInBounds_toArray, List.set_cons_succ, List.set_cons_zero] at ha'
          subst ha'
          refine wpAnyH_next (i := 5) (v := .slice (some ⟨b, off, none⟩) l.length c) rfl (by kernel_rfl) (by kernel_rfl) (by kernel_rfl) (fun _ _ _ h => h) (by kernel_rfl) (fun W1 hW1 => by go_simp; done) hS0 (fun a' ha' => ?_)
          simp only [Act.put, List.getElem_toArray, List.getElem_cons_succ, List.getElem_cons_zero, List.setIfInBounds_toArray, List.set_cons_succ, List.set_cons_zero] at ha'
          subst ha'
          refine wpAnyH_next (i := 6) (v := .int .i64 (k : Int)) rfl (by kernel_rfl) (by kernel_rfl) (by kernel_rfl) (fun _ _ _ h => h) (by kernel_rfl) (fun W1 hW1 => by go_simp; done) hS0 (fun a' ha' => ?_)
          simp only [Act.put, List.getElem_toArray, List.getElem_cons_succ, List.getElem_cons_zero, List.setIfInBounds_toArray, List.set_cons_succ, List.set_cons_zero] at ha'
          subst ha'
          refine wpAnyH_next (i := 7) (v := .pointer (some ⟨b, off + k * 2, none⟩)) rfl (by kernel_rfl) (by kernel_rfl) (by kernel_rfl) (fun _ _ _ h => h) (by kernel_rfl) (fun W1 hW1 => by go_simp; done) hS0 (fun a' ha' => ?_)
          simp only [Act.put, List.getElem_toArray, List.getElem_cons_succ, List.getElem_cons_zero, List.setIfInBounds_toArray, List.set_cons_succ, List.set_cons_zero] at ha'
          subst ha'
          refine wpAnyH_next (i := 8) (v := eDot.val y) rfl (by kernel_rfl) (by kernel_rfl) (by kernel_rfl) (fun _ _ _ h => h) (by kernel_rfl) (fun W1 hW1 => by exact eltDot.load rfl rfl (hat.below hW1)) hS0 (fun a' ha' => ?_)
          simp only [Act.put, List.getElem_toArray, List.getElem_cons_succ, List.getElem_cons_zero, List.setIfInBounds_toArray, List.set_cons_succ, List.set_cons_zero] at ha'
          subst ha'
          refine wpAnyH_next (i := 9) (v := eDot.val x) rfl (by kernel_rfl) (by kernel_rfl) (by kernel_rfl) (fun _ _ _ h => h) (by kernel_rfl) (fun W1 hW1 => by exact eltDot.load rfl rfl (hbx.below hW1)) hS0 (fun a' ha' => ?_)
          simp only [Act.put, List.getElem_toArray, List.getElem_cons_succ, List.getElem_cons_zero, List.setIfInBounds_toArray, List.set_cons_succ, List.set_cons_zero] at ha'
          subst ha'
          refine wpAnyH_want (i := 10) (by kernel_rfl) rfl (by kernel_rfl) (fun K hK => ?_)
          unfold Oper.wp
          go_simp
          refine (cC _).mono ?_
          rintro e z1 ⟨rfl, hz1⟩
          have hSz1 : Below wr.heap.size wr z1 := hS0.trans (hz1.mono hS0.size)
          clear hz1
          refine hK _ _ hSz1 ?_
          clear hK K
          refine wpAnyH_next (i := 11) (v := .bool false) rfl (by kernel_rfl) (by kernel_rfl) (by kernel_rfl) (fun _ _ _ h => h) (by kernel_rfl) (fun W1 hW1 => by go_simp; done) hSz1 (fun a' ha' => ?_)
          simp only [Act.put, List.getElem_toArray, List.getElem_cons_succ, List.getElem_cons_zero, List.setIfInBounds_toArray, List.set_cons_succ, List.set_cons_zero] at ha'
          subst ha'
          refine wpAnyH_next (i := 12) (v := .bool false) rfl (by kernel_rfl) (by kernel_rfl) (by kernel_rfl) (fun _ _ _ h => h) (by kernel_rfl) (fun W1 hW1 => by go_simp; done) hSz1 (fun a' ha' => ?_)
          simp only [Act.put, List.getElem_toArray, List.getElem_cons_succ, List.getElem_cons_zero, List.setIfInBounds_toArray, List.set_cons_succ, List.set_cons_zero] at ha'
          subst ha'
          refine wpAnyH_fin (by kernel_rfl) ?_ _
          rename World => wq
          have hB1 := hB.trans (hSz1.mono hB.size)
          have hBq := hBw.trans (hSz1.mono hBw.size)
          have hat := hat.below hSz1
          have hbx := hbx.below hSz1
          have HROW := Lib.hid (HROW.out.below hSz1)
          clear hSz1 hBw hB hS0
          by_cases he : y = x
          case pos =>
            go_wp2_with fail
            refine wp_held (fun W1 => Below wq.heap.size wq W1) (by kernel_rfl) ?_
            have hS0 : Below wq.heap.size wq wq.drew := (Below.refl _ wq).drew
            refine wpAnyH_next (i := 0) (v := .int .i64 (k : Int)) rfl (by kernel_rfl) (by kernel_rfl) (by kernel_rfl) (fun _ _ _ h => h) (by kernel_rfl) (fun W1 hW1 => by go_simp; done) hS0 (fun a' ha' => ?_)
            simp only [Act.put, List.getElem_toArray, List.getElem_cons_succ, List.getElem_cons_zero, List.setIfInBounds_toArray, List.set_cons_succ, List.set_cons_zero] at ha'
            subst ha'
            refine wpAnyH_next (i := 1) (v := .slice (some ⟨b, off, none⟩) l.length c) rfl (by kernel_rfl) (by kernel_rfl) (by kernel_rfl) (fun _ _ _ h => h) (by kernel_rfl) (fun W1 hW1 => by go_simp; done) hS0 (fun a' ha' => ?_)
            simp only [Act.put, List.getElem_toArray, List.getElem_cons_succ, List.getElem_cons_zero, List.setIfInBounds_toArray, List.set_cons_succ, List.set_cons_zero] at ha'
            subst ha'
            refine wpAnyH_next (i := 2) (v := .int .i64 (l.length : Int)) rfl (by kernel_rfl) (by kernel_rfl) (by kernel_rfl) (fun _ _ _ h => h) (by kernel_rfl) (fun W1 hW1 => by go_simp; done) hS0 (fun a' ha' => ?_)
            simp only [Act.put, List.getElem_toArray, List.getElem_cons_succ, List.getElem_cons_zero, List.setIfInBounds_toArray, List.set_cons_succ, List.set_cons_zero] at ha'
            subst ha'
            refine wpAnyH_next (i := 3) (v := .bool true) rfl (by kernel_rfl) (by kernel_rfl) (by kernel_rfl) (fun _ _ _ h => h) (by kernel_rfl) (fun W1 hW1 => by go_simp; done) hS0 (fun a' ha' => ?_)
            simp only [Act.put, List.getElem_toArray, List.getElem_cons_succ, List.getElem_cons_zero, List.setIfInBounds_toArray, List.set_cons_succ, List.set_cons_zero] at ha'
            subst ha'
            refine wpAnyH_next (i := 4) (v := .bool true) rfl (by kernel_rfl) (by kernel_rfl) (by kernel_rfl) (fun _ _ _ h => h) (by kernel_rfl) (fun W1 hW1 => by go_simp; done) hS0 (fun a' ha' => ?_)
            simp only [Act.put, List.getElem_toArray, List.getElem_cons_succ, List.getElem_cons_zero, List.setIfInBounds_toArray, List.set_cons_succ, List.set_cons_zero] at ha'
            subst ha'
            refine wpAnyH_next (i := 5) (v := .slice (some ⟨b, off, none⟩) l.length c) rfl (by kernel_rfl) (by kernel_rfl) (by kernel_rfl) (fun _ _ _ h => h) (by kernel_rfl) (fun W1 hW1 => by go_simp; done) hS0 (fun a' ha' => ?_)
            simp only [Act.put, List.getElem_toArray, List.getElem_cons_succ, List.getElem_cons_zero, List.setIfInBounds_toArray, List.set_cons_succ, List.set_cons_zero] at ha'
            subst ha'
            refine wpAnyH_next (i := 6) (v := .int .i64 (k : Int)) rfl (by kernel_rfl) (by kernel_rfl) (by kernel_rfl) (fun _ _ _ h => h) (by kernel_rfl) (fun W1 hW1 => by go_simp; done) hS0 (fun a' ha' => ?_)
            simp only [Act.put, List.getElem_toArray, List.getElem_cons_succ, List.getElem_cons_zero, List.setIfInBounds_toArray, List.set_cons_succ, List.set_cons_zero] at ha'
            subst ha'
            refine wpAnyH_next (i := 7) (v := .pointer (some ⟨b, off + k * 2, none⟩)) rfl (by kernel_rfl) (by kernel_rfl) (by kernel_rfl) (fun _ _ _ h => h) (by kernel_rfl) (fun W1 hW1 => by go_simp; done) hS0 (fun a' ha' => ?_)
            simp only [Act.put, List.getElem_toArray, List.getElem_cons_succ, List.getElem_cons_zero, List.setIfInBounds_toArray, List.set_cons_succ, List.set_cons_zero] at ha'
            subst ha'
            refine wpAnyH_next (i := 8) (v := eDot.val y) rfl (by kernel_rfl) (by kernel_rfl) (by kernel_rfl) (fun _ _ _ h => h) (by kernel_rfl) (fun W1 hW1 => by exact eltDot.load rfl rfl (hat.below hW1)) hS0 (fun a' ha' => ?_)
            simp only [Act.put, List.getElem_toArray, List.getElem_cons_succ, List.getElem_cons_zero, List.setIfInBounds_toArray, List.set_cons_succ, List.set_cons_zero] at ha'
            subst ha'
            refine wpAnyH_next (i := 9) (v := eDot.val x) rfl (by kernel_rfl) (by kernel_rfl) (by kernel_rfl) (fun _ _ _ h => h) (by kernel_rfl) (fun W1 hW1 => by exact eltDot.load rfl rfl (hbx.below hW1)) hS0 (fun a' ha' => ?_)
            simp only [Act.put, List.getElem_toArray, List.getElem_cons_succ, List.getElem_cons_zero, List.setIfInBounds_toArray, List.set_cons_succ, List.set_cons_zero] at ha'
            subst ha'
            refine wpAnyH_next (i := 10) (v := .bool true) rfl (by kernel_rfl) (by kernel_rfl) (by kernel_rfl) (fun _ _ _ h => h) (by kernel_rfl) (fun W1 hW1 => by exact eqX_execV rfl rfl rfl (eqX_eq he)) hS0 (fun a' ha' => ?_)
            simp only [Act.put, List.getElem_toArray, List.getElem_cons_succ, List.getElem_cons_zero, List.setIfInBounds_toArray, List.set_cons_succ, List.set_cons_zero] at ha'
            subst ha'
            refine wpAnyH_next (i := 11) (v := .bool true) rfl (by kernel_rfl) (by kernel_rfl) (by kernel_rfl) (fun _ _ _ h => h) (by kernel_rfl) (fun W1 hW1 => by go_simp; done) hS0 (fun a' ha' => ?_)
            simp only [Act.put, List.getElem_toArray, List.getElem_cons_succ, List.getElem_cons_zero, List.setIfInBounds_toArray, List.set_cons_succ, List.set_cons_zero] at ha'
            subst ha'
            refine wpAnyH_fin (by kernel_rfl) ?_ _
            have hBz := hBq.trans (hS0.mono hBq.size)
            have hrz := HROW.out.below hS0
            have HE := Lib.hid (show putE cmpX l x = l from put_there (he ▸ List.mem_of_getElem? HY.out))
            clear hS0
            go_wp2_with fail
            go_ret
            exact ⟨_, rfl, by rw [HE.out]; exact hrz, hBz⟩
          case neg =>
            go_wp2_with fail
            refine wp_held (fun W1 => Below wq.heap.size wq W1) (by kernel_rfl) ?_
            have hS0 : Below wq.heap.size wq wq.drew := (Below.refl _ wq).drew
            refine wpAnyH_next (i := 0) (v := .int .i64 (k : Int)) rfl (by kernel_rfl) (by kernel_rfl) (by kernel_rfl) (fun _ _ _ h => h) (by kernel_rfl) (fun W1 hW1 => by go_simp; done) hS0 (fun a' ha' => ?_)
            simp only [Act.put, List.getElem_toArray, List.getElem_cons_succ, List.getElem_cons_zero, List.setIfInBounds_toArray, List.set_cons_succ, List.set_cons_zero] at ha'
            subst ha'
            refine wpAnyH_next (i := 1) (v := .slice (some ⟨b, off, none⟩) l.length c) rfl (by kernel_rfl) (by kernel_rfl) (by kernel_rfl) (fun _ _ _ h => h) (by kernel_rfl) (fun W1 hW1 => by go_simp; done) hS0 (fun a' ha' => ?_)
            simp only [Act.put, List.getElem_toArray, List.getElem_cons_succ, List.getElem_cons_zero, List.setIfInBounds_toArray, List.set_cons_succ, List.set_cons_zero] at ha'
            subst ha'
            refine wpAnyH_next (i := 2) (v := .int .i64 (l.length : Int)) rfl (by kernel_rfl) (by kernel_rfl) (by kernel_rfl) (fun _ _ _ h => h) (by kernel_rfl) (fun W1 hW1 => by go_simp; done) hS0 (fun a' ha' => ?_)
            simp only [Act.put, List.getElem_toArray, List.getElem_cons_succ, List.getElem_cons_zero, List.setIfInBounds_toArray, List.set_cons_succ, List.set_cons_zero] at ha'
            subst ha'
            refine wpAnyH_next (i := 3) (v := .bool true) rfl (by kernel_rfl) (by kernel_rfl) (by kernel_rfl) (fun _ _ _ h => h) (by kernel_rfl) (fun W1 hW1 => by go_simp; done) hS0 (fun a' ha' => ?_)
            simp only [Act.put, List.getElem_toArray, List.getElem_cons_succ, List.getElem_cons_zero, List.setIfInBounds_toArray, List.set_cons_succ, List.set_cons_zero] at ha'
            subst ha'
            refine wpAnyH_next (i := 4) (v := .bool true) rfl (by kernel_rfl) (by kernel_rfl) (by kernel_rfl) (fun _ _ _ h => h) (by kernel_rfl) (fun W1 hW1 => by go_simp; done) hS0 (fun a' ha' => ?_)
            simp only [Act.put, List.getElem_toArray, List.getElem_cons_succ, List.getElem_cons_zero, List.setIfInBounds_toArray, List.set_cons_succ, List.set_cons_zero] at ha'
            subst ha'
            refine wpAnyH_next (i := 5) (v := .slice (some ⟨b, off, none⟩) l.length c) rfl (by kernel_rfl) (by kernel_rfl) (by kernel_rfl) (fun _ _ _ h => h) (by kernel_rfl) (fun W1 hW1 => by go_simp; done) hS0 (fun a' ha' => ?_)
            simp only [Act.put, List.getElem_toArray, List.getElem_cons_succ, List.getElem_cons_zero, List.setIfInBounds_toArray, List.set_cons_succ, List.set_cons_zero] at ha'
            subst ha'
            refine wpAnyH_next (i := 6) (v := .int .i64 (k : Int)) rfl (by kernel_rfl) (by kernel_rfl) (by kernel_rfl) (fun _ _ _ h => h) (by kernel_rfl) (fun W1 hW1 => by go_simp; done) hS0 (fun a' ha' => ?_)
            simp only [Act.put, List.getElem_toArray, List.getElem_cons_succ, List.getElem_cons_zero, List.setIfInBounds_toArray, List.set_cons_succ, List.set_cons_zero] at ha'
            subst ha'
            refine wpAnyH_next (i := 7) (v := .pointer (some ⟨b, off + k * 2, none⟩)) rfl (by kernel_rfl) (by kernel_rfl) (by kernel_rfl) (fun _ _ _ h => h) (by kernel_rfl) (fun W1 hW1 => by go_simp; done) hS0 (fun a' ha' => ?_)
            simp only [Act.put, List.getElem_toArray, List.getElem_cons_succ, List.getElem_cons_zero, List.setIfInBounds_toArray, List.set_cons_succ, List.set_cons_zero] at ha'
            subst ha'
            refine wpAnyH_next (i := 8) (v := eDot.val y) rfl (by kernel_rfl) (by kernel_rfl) (by kernel_rfl) (fun _ _ _ h => h) (by kernel_rfl) (fun W1 hW1 => by exact eltDot.load rfl rfl (hat.below hW1)) hS0 (fun a' ha' => ?_)
            simp only [Act.put, List.getElem_toArray, List.getElem_cons_succ, List.getElem_cons_zero, List.setIfInBounds_toArray, List.set_cons_succ, List.set_cons_zero] at ha'
            subst ha'
            refine wpAnyH_next (i := 9) (v := eDot.val x) rfl (by kernel_rfl) (by kernel_rfl) (by kernel_rfl) (fun _ _ _ h => h) (by kernel_rfl) (fun W1 hW1 => by exact eltDot.load rfl rfl (hbx.below hW1)) hS0 (fun a' ha' => ?_)
            simp only [Act.put, List.getElem_toArray, List.getElem_cons_succ, List.getElem_cons_zero, List.setIfInBounds_toArray, List.set_cons_succ, List.set_cons_zero] at ha'
            subst ha'
            refine wpAnyH_next (i := 10) (v := .bool false) rfl (by kernel_rfl) (by kernel_rfl) (by kernel_rfl) (fun _ _ _ h => h) (by kernel_rfl) (fun W1 hW1 => by exact eqX_execV rfl rfl rfl (eqX_ne he)) hS0 (fun a' ha' => ?_)
            simp only [Act.put, List.getElem_toArray, List.getElem_cons_succ, List.getElem_cons_zero, List.setIfInBounds_toArray, List.set_cons_succ, List.set_cons_zero] at ha'
            subst ha'
            refine wpAnyH_next (i := 11) (v := .bool false) rfl (by kernel_rfl) (by kernel_rfl) (by kernel_rfl) (fun _ _ _ h => h) (by kernel_rfl) (fun W1 hW1 => by go_simp; done) hS0 (fun a' ha' => ?_)
            simp only [Act.put, List.getElem_toArray, List.getElem_cons_succ, List.getElem_cons_zero, List.setIfInBounds_toArray, List.set_cons_succ, List.set_cons_zero] at ha'
            subst ha'
            refine wpAnyH_fin (by kernel_rfl) ?_ _
            have hBz := hBq.trans (hS0.mono hBq.size)
            have hrz := HROW.out.below hS0
            have hbz := hbx.below hS0
            have HE := Lib.hid (show putE cmpX l x = l.take k ++ [x] ++ l.drop k from put_at HR.out (by omega) HALL.out (.inr ⟨y, HY.out, by have h := HCM.out; have e := HC.out; omega, he⟩))
            clear hS0
            generalize wq.drew = wz at *
            have htk := hrz.is.take (k := k) (by omega)
            have hlt1 : (l.take k).length ≤ 1000 := by simp; omega
            have hdr := hrz.is.drop (k := k) (by omega)
            have hcn : ¬ c = k := by omega
            rw [if_neg hcn] at hdr
            have hdr2 : Es eDot wz (.slice (some ⟨b, off + k * 2, none⟩) (l.length - k) (c - k)) (l.drop k) := by simpa [add_plain, eDot] using hdr
            have hlt2 : (l.drop k).length ≤ 1000 := by simp; omega
            clear hdr hBq hat hbx hB1
            go_wp2_with (first
              | (at_builtin; refine wpList_append_es eltDot rfl (.tmp 35) (.tmp 38) rfl wz.heap.size _ [] rfl (RowE.nil _ _) _ (l.take k) rfl htk (by simp; omega) (Nat.le_refl _) ?_; intro v4 w4 hown4 hg4 _; have h4 : Below wz.heap.size wz w4 := (Kept.of_grown hg4).below (fun j _ e => by have e' : (none : Option Nat) = some j := e; cases e') (Nat.le_refl _); have hb4 := hbz.below h4; rw [List.nil_append] at hown4; clear hg4)
              | (refine eltDot.wpLoad rfl (.tmp 3) rfl rfl hb4 ?_)
              | (refine wpList_one_e eltDot (by decide) rfl (.tmp 41) rfl rfl ?_; have one := Es.one_e (E := eDot) w4 x 38; have h5 := h4.alloc h4.size (.cells (eDot.enc x).toArray 38); have hown5 := hown4.below ((Below.refl _ w4).alloc (Nat.le_refl _) (.cells (eDot.enc x).toArray 38)); clear hb4 hown4 h4; generalize w4.alloc (.cells (eDot.enc x).toArray 38) = w5 at *; generalize w4.heap.size = g4 at *)
              | (at_builtin; refine wpList_append_es eltDot rfl (.tmp 40) (.tmp 42) rfl wz.heap.size _ _ rfl hown5 _ [x] rfl one (by simp; omega) h5.size ?_; intro v6 w6 hown6 hg6 _; have h6 : Below wz.heap.size wz w6 := h5.trans ((Kept.of_grown hg6).below (fun j _ e => (hown5.lt j e).1) h5.size); clear hg6 one hown5 h5)
              | (at_builtin; refine wpList_append_es eltDot rfl (.tmp 44) (.tmp 47) rfl wz.heap.size _ _ rfl hown6 _ (l.drop k) rfl (hdr2.below h6) (by simp; omega) h6.size ?_; intro v7 w7 hown7 hg7 _; have h7 : Below wz.heap.size wz w7 := h6.trans ((Kept.of_grown hg7).below (fun j _ e => (hown6.lt j e).1) h6.size); clear hg7))
            go_ret
            have hnz : n ≤ wz.heap.size := by have := HN.out; have := hBz.size; omega
            exact ⟨_, rfl, by rw [HE.out]; exact RowE.base (by simpa using hown7) hnz, hBz.trans (h7.mono hBz.size)⟩
    case neg =>
      obtain rfl : k = l.length := by omega
      have HROW := Lib.hid hrow
      clear hrow
      go_wp2_with fail
      refine wp_held (fun W1 => Below wr.heap.size wr W1) (by kernel_rfl) ?_
      have hS0 : Below wr.heap.size wr wr.drew := (Below.refl _ wr).drew
      refine wpAnyH_next (i := 0) (v := .int .i64 (l.length : Int)) rfl (by kernel_rfl) (by kernel_rfl) (by kernel_rfl) (fun _ _ _ h => h) (by kernel_rfl) (fun W1 hW1 => by go_simp; done) hS0 (fun a' ha' => ?_)
      simp only [Act.put, List.getElem_toArray, List.getElem_cons_succ, List.getElem_cons_zero, List.setIfInBounds_toArray, List.set_cons_succ, List.set_cons_zero] at ha'
      subst ha'
      refine wpAnyH_next (i := 1) (v := .slice A l.length c) rfl (by kernel_rfl) (by kernel_rfl) (by kernel_rfl) (fun _ _ _ h => h) (by kernel_rfl) (fun W1 hW1 => by go_simp; done) hS0 (fun a' ha' => ?_)
      simp only [Act.put, List.getElem_toArray, List.getElem_cons_succ, List.getElem_cons_zero, List.setIfInBounds_toArray, List.set_cons_succ, List.set_cons_zero] at ha'
      subst ha'
      refine wpAnyH_next (i := 2) (v := .int .i64 (l.length : Int)) rfl (by kernel_rfl) (by kernel_rfl) (by kernel_rfl) (fun _ _ _ h => h) (by kernel_rfl) (fun W1 hW1 => by go_simp; done) hS0 (fun a' ha' => ?_)
      simp only [Act.put, List.getElem_toArray, List.getElem_cons_succ, List.getElem_cons_zero, List.setIfInBounds_toArray, List.set_cons_succ, List.set_cons_zero] at ha'
      subst ha'
      refine wpAnyH_next (i := 3) (v := .bool false) rfl (by kernel_rfl) (by kernel_rfl) (by kernel_rfl) (fun _ _ _ h => h) (by kernel_rfl) (fun W1 hW1 => by go_simp; done) hS0 (fun a' ha' => ?_)
      simp only [Act.put, List.getElem_toArray, List.getElem_cons_succ, List.getElem_cons_zero, List.setIfInBounds_toArray, List.set_cons_succ, List.set_cons_zero] at ha'
      subst ha'
      refine wpAnyH_next (i := 4) (v := .bool false) rfl (by kernel_rfl) (by kernel_rfl) (by kernel_rfl) (fun _ _ _ h => h) (by kernel_rfl) (fun W1 hW1 => by go_simp; done) hS0 (fun a' ha' => ?_)
      simp only [Act.put, List.getElem_toArray, List.getElem_cons_succ, List.getElem_cons_zero, List.setIfInBounds_toArray, List.set_cons_succ, List.set_cons_zero] at ha'
      subst ha'
      refine wpAnyH_skip (i := 5) rfl (by kernel_rfl) (by kernel_rfl) (by kernel_rfl) (fun _ _ _ h => h) (by kernel_rfl) hS0 (fun a' ha' => ?_)
      simp only [Act.put, List.getElem_toArray, List.getElem_cons_succ, List.getElem_cons_zero, List.setIfInBounds_toArray, List.set_cons_succ, List.set_cons_zero] at ha'
      subst ha'
      refine wpAnyH_skip (i := 6) rfl (by kernel_rfl) (by kernel_rfl) (by kernel_rfl) (fun _ _ _ h => h) (by kernel_rfl) hS0 (fun a' ha' => ?_)
      simp only [Act.put, List.getElem_toArray, List.getElem_cons_succ, List.getElem_cons_zero, List.setIfInBounds_toArray, List.set_cons_succ, List.set_cons_zero] at ha'
      subst ha'
      refine wpAnyH_skip (i := 7) rfl (by kernel_rfl) (by kernel_rfl) (by kernel_rfl) (fun _ _ _ h => h) (by kernel_rfl) hS0 (fun a' ha' => ?_)
      simp only [Act.put, List.getElem_toArray, List.getElem_cons_succ, List.getElem_cons_zero, List.setIfInBounds_toArray, List.set_cons_succ, List.set_cons_zero] at ha'
      subst ha'
      refine wpAnyH_skip (i := 8) rfl (by kernel_rfl) (by kernel_rfl) (by kernel_rfl) (fun _ _ _ h => h) (by kernel_rfl) hS0 (fun a' ha' => ?_)
      simp only [Act.put, List.getElem_toArray, List.getElem_cons_succ, List.getElem_cons_zero, List.setIfInBounds_toArray, List.set_cons_succ, List.set_cons_zero] at ha'
      subst ha'
      refine wpAnyH_skip (i := 9) rfl (by kernel_rfl) (by kernel_rfl) (by kernel_rfl) (fun _ _ _ h => h) (by kernel_rfl) hS0 (fun a' ha' => ?_)
      simp only [Act.put, List.getElem_toArray, List.getElem_cons_succ, List.getElem_cons_zero, List.setIfInBounds_toArray, List.set_cons_succ, List.set_cons_zero] at ha'
      subst ha'
      refine wpAnyH_skip (i := 10) rfl (by kernel_rfl) (by kernel_rfl) (by kernel_rfl) (fun _ _ _ h => h) (by kernel_rfl) hS0 (fun a' ha' => ?_)
      simp only [Act.put, List.getElem_toArray, List.getElem_cons_succ, List.getElem_cons_zero, List.setIfInBounds_toArray, List.set_cons_succ, List.set_cons_zero] at ha'
      subst ha'
      refine wpAnyH_skip (i := 11) rfl (by kernel_rfl) (by kernel_rfl) (by kernel_rfl) (fun _ _ _ h => h) (by kernel_rfl) hS0 (fun a' ha' => ?_)
      simp only [Act.put, List.getElem_toArray, List.getElem_cons_succ, List.getElem_cons_zero, List.setIfInBounds_toArray, List.set_cons_succ, List.set_cons_zero] at ha'
      subst ha'
      refine wpAnyH_next (i := 12) (v := .bool false) rfl (by kernel_rfl) (by kernel_rfl) (by kernel_rfl) (fun _ _ _ h => h) (by kernel_rfl) (fun W1 hW1 => by go_simp; done) hS0 (fun a' ha' => ?_)
      simp only [Act.put, List.getElem_toArray, List.getElem_cons_succ, List.getElem_cons_zero, List.setIfInBounds_toArray, List.set_cons_succ, List.set_cons_zero] at ha'
      subst ha'
      refine wpAnyH_fin (by kernel_rfl) ?_ _
      have hBq := hBw.trans (hS0.mono hBw.size)
      have hbx := hbx.below hS0
      have HROW := Lib.hid (HROW.out.below hS0)
      clear hS0 hBw hB
      generalize wr.drew = wq at *
      go_wp2_with fail
      refine wp_held (fun W1 => Below wq.heap.size wq W1) (by kernel_rfl) ?_
      have hS0 : Below wq.heap.size wq wq.drew := (Below.refl _ wq).drew
      refine wpAnyH_next (i := 0) (v := .int .i64 (l.length : Int)) rfl (by kernel_rfl) (by kernel_rfl) (by kernel_rfl) (fun _ _ _ h => h) (by kernel_rfl) (fun W1 hW1 => by go_simp; done) hS0 (fun a' ha' => ?_)
      simp only [Act.put, List.getElem_toArray, List.getElem_cons_succ, List.getElem_cons_zero, List.setIfInBounds_toArray, List.set_cons_succ, List.set_cons_zero] at ha'
      subst ha'
      refine wpAnyH_next (i := 1) (v := .slice A l.length c) rfl (by kernel_rfl) (by kernel_rfl) (by kernel_rfl) (fun _ _ _ h => h) (by kernel_rfl) (fun W1 hW1 => by go_simp; done) hS0 (fun a' ha' => ?_)
      simp only [Act.put, List.getElem_toArray, List.getElem_cons_succ, List.getElem_cons_zero, List.setIfInBounds_toArray, List.set_cons_succ, List.set_cons_zero] at ha'
      subst ha'
      refine wpAnyH_next (i := 2) (v := .int .i64 (l.length : Int)) rfl (by kernel_rfl) (by kernel_rfl) (by kernel_rfl) (fun _ _ _ h => h) (by kernel_rfl) (fun W1 hW1 => by go_simp; done) hS0 (fun a' ha' => ?_)
      simp only [Act.put, List.getElem_toArray, List.getElem_cons_succ, List.getElem_cons_zero, List.setIfInBounds_toArray, List.set_cons_succ, List.set_cons_zero] at ha'
      subst ha'
      refine wpAnyH_next (i := 3) (v := .bool false) rfl (by kernel_rfl) (by kernel_rfl) (by kernel_rfl) (fun _ _ _ h => h) (by kernel_rfl) (fun W1 hW1 => by go_simp; done) hS0 (fun a' ha' => ?_)
      simp only [Act.put, List.getElem_toArray, List.getElem_cons_succ, List.getElem_cons_zero, List.setIfInBounds_toArray, List.set_cons_succ, List.set_cons_zero] at ha'
      subst ha'
      refine wpAnyH_next (i := 4) (v := .bool false) rfl (by kernel_rfl) (by kernel_rfl) (by kernel_rfl) (fun _ _ _ h => h) (by kernel_rfl) (fun W1 hW1 => by go_simp; done) hS0 (fun a' ha' => ?_)
      simp only [Act.put, List.getElem_toArray, List.getElem_cons_succ, List.getElem_cons_zero, List.setIfInBounds_toArray, List.set_cons_succ, List.set_cons_zero] at ha'
      subst ha'
      refine wpAnyH_skip (i := 5) rfl (by kernel_rfl) (by kernel_rfl) (by kernel_rfl) (fun _ _ _ h => h) (by kernel_rfl) hS0 (fun a' ha' => ?_)
      simp only [Act.put, List.getElem_toArray, List.getElem_cons_succ, List.getElem_cons_zero, List.setIfInBounds_toArray, List.set_cons_succ, List.set_cons_zero] at ha'
      subst ha'
      refine wpAnyH_skip (i := 6) rfl (by kernel_rfl) (by kernel_rfl) (by kernel_rfl) (fun _ _ _ h => h) (by kernel_rfl) hS0 (fun a' ha' => ?_)
      simp only [Act.put, List.getElem_toArray, List.getElem_cons_succ, List.getElem_cons_zero, List.setIfInBounds_toArray, List.set_cons_succ, List.set_cons_zero] at ha'
      subst ha'
      refine wpAnyH_skip (i := 7) rfl (by kernel_rfl) (by kernel_rfl) (by kernel_rfl) (fun _ _ _ h => h) (by kernel_rfl) hS0 (fun a' ha' => ?_)
      simp only [Act.put, List.getElem_toArray, List.getElem_cons_succ, List.getElem_cons_zero, List.setIfInBounds_toArray, List.set_cons_succ, List.set_cons_zero] at ha'
      subst ha'
      refine wpAnyH_skip (i := 8) rfl (by kernel_rfl) (by kernel_rfl) (by kernel_rfl) (fun _ _ _ h => h) (by kernel_rfl) hS0 (fun a' ha' => ?_)
      simp only [Act.put, List.getElem_toArray, List.getElem_cons_succ, List.getElem_cons_zero, List.setIfInBounds_toArray, List.set_cons_succ, List.set_cons_zero] at ha'
      subst ha'
      refine wpAnyH_skip (i := 9) rfl (by kernel_rfl) (by kernel_rfl) (by kernel_rfl) (fun _ _ _ h => h) (by kernel_rfl) hS0 (fun a' ha' => ?_)
      simp only [Act.put, List.getElem_toArray, List.getElem_cons_succ, List.getElem_cons_zero, List.setIfInBounds_toArray, List.set_cons_succ, List.set_cons_zero] at ha'
      subst ha'
      refine wpAnyH_skip (i := 10) rfl (by kernel_rfl) (by kernel_rfl) (by kernel_rfl) (fun _ _ _ h => h) (by kernel_rfl) hS0 (fun a' ha' => ?_)
      simp only [Act.put, List.getElem_toArray, List.getElem_cons_succ, List.getElem_cons_zero, List.setIfInBounds_toArray, List.set_cons_succ, List.set_cons_zero] at ha'
      subst ha'
      refine wpAnyH_next (i := 11) (v := .bool false) rfl (by kernel_rfl) (by kernel_rfl) (by kernel_rfl) (fun _ _ _ h => h) (by kernel_rfl) (fun W1 hW1 => by go_simp; done) hS0 (fun a' ha' => ?_)
      simp only [Act.put, List.getElem_toArray, List.getElem_cons_succ, List.getElem_cons_zero, List.setIfInBounds_toArray, List.set_cons_succ, List.set_cons_zero] at ha'
      subst ha'
      refine wpAnyH_fin (by kernel_rfl) ?_ _
      have hBz := hBq.trans (hS0.mono hBq.size)
      have hrz := HROW.out.below hS0
      have hbz := hbx.below hS0
      have HE := Lib.hid (show putE cmpX l x = l.take l.length ++ [x] ++ [] by
        have h := put_at (x := x) HR.out (Nat.le_refl _) HALL.out (.inl rfl)
        rwa [List.drop_length] at h)
      clear hS0
      generalize wq.drew = wz at *
      have htk := hrz.is.take (k := l.length) (by omega)
      have hlt1 : (l.take l.length).length ≤ 1000 := by simp; omega
      
      clear hBq hbx
      go_wp2_with (first
        | (at_builtin; refine wpList_append_es eltDot rfl (.tmp 35) (.tmp 38) rfl wz.heap.size _ [] rfl (RowE.nil _ _) _ (l.take l.length) rfl htk (by simp; omega) (Nat.le_refl _) ?_; intro v4 w4 hown4 hg4 _; have h4 : Below wz.heap.size wz w4 := (Kept.of_grown hg4).below (fun j _ e => by have e' : (none : Option Nat) = some j := e; cases e') (Nat.le_refl _); have hb4 := hbz.below h4; rw [List.nil_append] at hown4; clear hg4)
        | (refine eltDot.wpLoad rfl (.tmp 3) rfl rfl hb4 ?_)
        | (refine wpList_one_e eltDot (by decide) rfl (.tmp 41) rfl rfl ?_; have one := Es.one_e (E := eDot) w4 x 38; have h5 := h4.alloc h4.size (.cells (eDot.enc x).toArray 38); have hown5 := hown4.below ((Below.refl _ w4).alloc (Nat.le_refl _) (.cells (eDot.enc x).toArray 38)); clear hb4 hown4 h4; generalize w4.alloc (.cells (eDot.enc x).toArray 38) = w5 at *; generalize w4.heap.size = g4 at *)
        | (at_builtin; refine wpList_append_es eltDot rfl (.tmp 40) (.tmp 42) rfl wz.heap.size _ _ rfl hown5 _ [x] rfl one (by simp; omega) h5.size ?_; intro v6 w6 hown6 hg6 _; have h6 : Below wz.heap.size wz w6 := h5.trans ((Kept.of_grown hg6).below (fun j _ e => (hown5.lt j e).1) h5.size); clear hg6 one hown5 h5)
        | (at_builtin; refine wpList_append_es eltDot rfl (.tmp 44) (.tmp 47) rfl wz.heap.size _ _ rfl hown6 _ ([]) rfl (Es.empty _ _ _) (by simp; omega) h6.size ?_; intro v7 w7 hown7 hg7 _; have h7 : Below wz.heap.size wz w7 := h6.trans ((Kept.of_grown hg7).below (fun j _ e => (hown6.lt j e).1) h6.size); clear hg7))
      all_goals
        go_ret
        have hnz : n ≤ wz.heap.size := by have := HN.out; have := hBz.size; omega
        exact ⟨_, rfl, by rw [HE.out]; exact RowE.base (by simpa using hown7) hnz, hBz.trans (h7.mono hBz.size)⟩
end Go.Proofs.Ytcclifnhbncfcaa
