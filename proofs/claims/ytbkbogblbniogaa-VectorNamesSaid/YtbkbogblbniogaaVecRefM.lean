/- Merge and Meet of vectors: the reference's (tools/genvec4.py). -/
import Derived.Test.YtbkbogblbniogaaVecMerge
namespace Go.Proofs.Ytbkbogblbniogaa
open Go.RowKit
set_option maxRecDepth 100000

theorem upTo_skip (op : UInt32 → UInt32 → UInt32) (a b : Vc) {k : Nat} (h : k < 16) (he : op (atV a k) (atV b k) = atV a k) : upTo op a b (k + 1) = upTo op a b k := by
  rw [← upTo_next op a b h, he]
  funext i
  unfold setV upTo
  by_cases e : i.val = k
  · have hi : i = ⟨k, h⟩ := Fin.ext e
    subst hi
    rw [if_pos rfl, if_neg (by simp)]
    unfold atV
    rw [dif_pos h]
  · rw [if_neg e]
theorem opJ_skip {x y : UInt32} (h : ¬ x.toNat < y.toNat) : opJ x y = x := if_neg h
theorem opJ_take {x y : UInt32} (h : x.toNat < y.toNat) : opJ x y = y := if_pos h
theorem opM_skip {x y : UInt32} (h : ¬ y.toNat < x.toNat) : opM x y = x := if_neg h
theorem opM_take {x y : UInt32} (h : y.toNat < x.toNat) : opM x y = y := if_pos h

theorem keptN {T : Nat → Prop} {a w : World} (h : Kept T a w) (n : Nat) : Kept T a (w.drewN n) := ⟨h.os, h.tape, h.output, h.size, h.block⟩
def foldJ (l : List Vc) (k : Nat) : Vc := (l.take k).foldl joinV zeroV
theorem foldJ_next (l : List Vc) {k : Nat} {y : Vc} (_ : 0 ≤ k) (h : l[k]? = some y) : foldJ l (k + 1) = opV opJ (foldJ l k) y := by
  unfold foldJ
  rw [List.take_add_one, h]
  simp [opV_join]
theorem foldJ_all (l : List Vc) : foldJ l l.length = joinL l := by
  unfold foldJ
  rw [List.take_length, joinL_fold]
def foldM (l : List Vc) (k : Nat) : Vc := meetL (l.take k)
theorem foldM_next (l : List Vc) {k : Nat} {y : Vc} (h1 : 1 ≤ k) (h : l[k]? = some y) : foldM l (k + 1) = opV opM (foldM l k) y := by
  unfold foldM
  rw [List.take_add_one, h]
  cases l with
  | nil => simp at h
  | cons x l =>
    cases k with
    | zero => omega
    | succ k => simp [meetL, opV_meet]
theorem foldM_all (l : List Vc) : foldM l l.length = meetL l := by
  unfold foldM
  rw [List.take_length]

theorem es_plain {w : World} {A : Option Addr} {n c : Nat} {l : List Vc} (hs : Es eVec w (.slice A n c) l) (h0 : 0 < l.length) : ∃ b off, A = some ⟨b, off, none⟩ ∧ n = l.length ∧ l.length ≤ c ∧ ∀ (i : Nat) (x : Vc), l[i]? = some x → VecAt w b (off + i * 16) x := by
  obtain ⟨b, off, c', he, hc, hat⟩ := hs.full h0
  injection he with e1 e2 e3
  subst e1 e2 e3
  exact ⟨b, off, rfl, rfl, hc, hat⟩

set_option maxHeartbeats 2000000 in
theorem r6Merge_form (w : World) (A : Option Addr) (c : Nat) (l : List Vc) (hs : Es eVec w (.slice A l.length c) l) (hl : l.length ≤ 1000000) (Z : Vc) (hZ : Z = foldJ l l.length) :
    Calls Try.prog 17 #[.slice A l.length c] w fun e W' => e = .returned (VecV Z) ∧ Below w.heap.size w W' := by
  have HZ := Lib.hid hZ
  clear hZ
  have b0 := BoxV.new w zeroV
  have hB0 : Below w.heap.size w (w.alloc (.cells (encC zeroV).toArray 24)) := (Below.refl _ w).alloc (Nat.le_refl _) _
  have b0' : BoxV ((w.alloc (.cells (encC zeroV).toArray 24)).alloc (.cells (encC zeroV).toArray 24)) w.heap.size zeroV := b0.below ((Below.refl _ _).alloc (Nat.le_refl _) _)
  have hB1 : Below w.heap.size w ((w.alloc (.cells (encC zeroV).toArray 24)).alloc (.cells (encC zeroV).toArray 24)) := hB0.alloc hB0.size _
  by_cases h0 : 0 < l.length
  case neg =>
    obtain rfl : l = [] := List.eq_nil_of_length_eq_zero (by omega)
    obtain rfl : Z = zeroV := HZ.out
    clear hs HZ h0 hl
    go_enter Try.func17, Try.ntmps17
    go_wp2_with (first
      | (refine wpList_alloc_vec rfl rfl ?_)
      | (refine wpList_build_vec rfl rfl ?_)
      | (refine wpList_store_vec rfl (.tmp 3) (.tmp 6) rfl rfl (BoxV.new _ zeroV) rfl ?_; intro w9 b9 k9; rw [World.size_alloc] at b9 k9))
    go_loopw [4] (fun i wr => i = .int .i64 0 ∧ wr = w9) (fun _ _ => 0)
    case atStart => exact ⟨rfl, rfl⟩
    case round =>
      obtain ⟨rfl, rfl⟩ := hrel
      go_wp2_with (first
        | (refine wpList_load_vec rfl (.tmp 3) rfl rfl b9.at ?_)
        | (refine wpList_store_vec rfl (.tmp 2) (.tmp 35) rfl rfl (b0'.kept k9 (fun h => Nat.ne_of_lt (Nat.lt_succ_self _) h)) rfl ?_; intro wa ba ka))
      refine bodyPost_ret (results_vec1 rfl _ rfl ba) rfl ?_
      have hB2 := hB1.trans (k9.below (B := w.heap.size) (fun j _ e => by subst e; exact Nat.le_succ _) hB1.size)
      exact ⟨rfl, hB2.trans (ka.below (fun j _ e => by subst e; exact Nat.le_refl _) hB2.size)⟩
  case pos =>
    obtain ⟨b, off, rfl, _, hc, hat⟩ := es_plain hs h0
    have HAT := Lib.hid hat
    clear hat hs h0
    go_enter Try.func17, Try.ntmps17
    go_wp2_with (first
      | (refine wpList_alloc_vec rfl rfl ?_)
      | (refine wpList_build_vec rfl rfl ?_)
      | (refine wpList_store_vec rfl (.tmp 3) (.tmp 6) rfl rfl (BoxV.new _ zeroV) rfl ?_; intro w9 b9 k9; rw [World.size_alloc] at b9 k9))
    have hB2 := hB1.trans (k9.below (B := w.heap.size) (fun j _ e => by subst e; exact Nat.le_succ _) hB1.size)
    have b0'' := b0'.kept k9 (fun h => Nat.ne_of_lt (Nat.lt_succ_self _) h)
    have hs9 : w.heap.size + 2 ≤ w9.heap.size := by have := k9.size; simp [World.size_alloc] at this; omega
    have HAT9 := Lib.hid (show ∀ (i : Nat) (y : Vc), l[i]? = some y → VecAt w9 b (off + i * 16) y ∧ b < w.heap.size by
      intro i y hy
      have h1 := HAT.out i y hy
      have hb : b < w.heap.size := World.block_lt_of_cell? _ _ (VecAt.cell h1 (n := 0) (by omega))
      exact ⟨(h1.below hB1).kept k9 (fun h => by have : b = w.heap.size + 1 := h; omega), hb⟩)
    clear HAT b0 b0' k9 hB0 hB1
    go_loopw [4] (fun i wr => ∃ k : Nat, 0 ≤ k ∧ k ≤ l.length ∧ i = .int .i64 k ∧ BoxV wr (w.heap.size + 1) (foldJ l k) ∧ Kept (· = w.heap.size + 1) w9 wr) (fun i _ => l.length - (intOf i).toNat)
    case atStart => exact ⟨0, Nat.le_refl _, by omega, rfl, by exact b9, Kept.refl _ _⟩
    case round =>
      obtain ⟨k, hk0, hk, rfl, hb, hK⟩ := hrel
      by_cases hkl : k < l.length
      case neg =>
        obtain rfl : k = l.length := by omega
        have hz : BoxV wr (w.heap.size + 1) Z := by rw [HZ.out]; exact hb
        have hb0 := b0''.kept hK (fun h => Nat.ne_of_lt (Nat.lt_succ_self _) h)
        have hB3 := hB2.trans (hK.below (B := w.heap.size) (fun j _ e => by subst e; exact Nat.le_succ _) hB2.size)
        clear hb HZ
        go_wp2_with (first
          | (refine wpList_load_vec rfl (.tmp 3) rfl rfl hz.at ?_)
          | (refine wpList_store_vec rfl (.tmp 2) (.tmp 35) rfl rfl hb0 rfl ?_; intro wa ba ka))
        refine bodyPost_ret (results_vec1 rfl _ rfl ba) rfl ?_
        exact ⟨rfl, hB3.trans (ka.below (fun j _ e => by subst e; exact Nat.le_refl _) hB3.size)⟩
      case pos =>
        obtain ⟨y, hy⟩ : ∃ y, l[k]? = some y := ⟨_, List.getElem?_eq_getElem hkl⟩
        obtain ⟨haty, hblt⟩ := HAT9.out k y hy
        have HY := Lib.hid (haty.kept hK (fun h => by have : b = w.heap.size + 1 := h; omega))
        have HN := Lib.hid (foldJ_next l hk0 hy)
        have HBL := Lib.hid hblt
        clear haty hy hblt
        obtain ⟨a, ha⟩ : ∃ a, a = foldJ l k := ⟨_, rfl⟩
        rw [← ha] at hb HN
        clear ha
        obtain ⟨w10, hw10⟩ : ∃ x, x = wr := ⟨_, rfl⟩
        have HS := Lib.hid (show w9.heap.size ≤ w10.heap.size by rw [hw10]; exact hK.size)
        rw [← hw10] at hb hK HY
        have hhi : (k : Int) < (l.length : Int) := by omega
        go_wp2_with fail
        rw [← hw10]
        clear hw10
        go_loopw [5] (fun i w11 => ∃ j : Nat, j ≤ 16 ∧ i = .int .i64 j ∧ BoxV w11 (w.heap.size + 1) (upTo opJ a y j) ∧ Kept (· = w.heap.size + 1) w10 w11) (fun i _ => 16 - (intOf i).toNat)
        case atStart => exact ⟨0, by omega, rfl, by rw [upTo_zero]; exact hb, Kept.refl _ _⟩
        case round =>
          obtain ⟨j, hj, rfl, hbj, hKj⟩ := hrel
          by_cases hj16 : j < 16
          case neg =>
            obtain rfl : j = 16 := by omega
            rw [upTo_all, ← HN.out] at hbj
            have hKn := hK.same hKj
            clear HN
            go_wp2_with fail
            go_roundw
            case rel => exact ⟨k + 1, by omega, by omega, by go_num, hbj, hKn⟩
            case measure => simp [intOf]; omega
          case pos =>
            have c1 := hbj.cell hj16
            rw [upTo_at opJ a y hj16] at c1
            have f1 := hbj.frozen j
            have c2 := VecAt.cell (HY.out.kept hKj (fun h => by have : b = w.heap.size + 1 := h; have := HBL.out; omega)) hj16
            have hput := hbj.put (k := j) (opJ (atV a j) (atV y j))
            rw [upTo_next opJ a y hj16] at hput
            have hj' : (j : Int) < 16 := by omega
            have hj0 : (0 : Int) ≤ (j : Int) := by omega
            by_cases hlt : (atV a j).toNat < (atV y j).toNat
            case pos =>
              have hlt' : ((atV a j).toNat : Int) < ((atV y j).toNat : Int) := by omega
              rw [opJ_take hlt] at hput
              clear hbj hlt
              go_wp2_with fail
              go_quiet (fail)
              replace c1 : (wr.drewN nq).cell? ⟨w.heap.size + 1, j, none⟩ = some (W32 (atV a j)) := c1
              replace c2 : (wr.drewN nq).cell? ⟨b, off + k * 16 + j, none⟩ = some (W32 (atV y j)) := c2
              replace f1 : (wr.drewN nq).frozen? ⟨w.heap.size + 1, j, none⟩ = false := f1
              have hkd : Kept (· = w.heap.size + 1) w10 (wr.drewN nq) := keptN hKj nq
              replace hput : BoxV ((wr.drewN nq).setCell ⟨w.heap.size + 1, j, none⟩ (W32 (atV y j))) (w.heap.size + 1) (upTo opJ a y (j + 1)) := hput
              generalize wr.drewN nq = w12 at *
              go_wp2_with fail
              go_roundw
              case rel => exact ⟨j + 1, by omega, by go_num, hput, hkd.setCell (p := ⟨w.heap.size + 1, j, none⟩) (fun _ => rfl) _⟩
              case measure => simp [intOf]; omega
            case neg =>
              have hlt' : ¬ ((atV a j).toNat : Int) < ((atV y j).toNat : Int) := by omega
              have hs : BoxV wr (w.heap.size + 1) (upTo opJ a y (j + 1)) := by rw [upTo_skip opJ a y hj16 (opJ_skip hlt)]; exact hbj
              clear hbj hlt hput
              go_wp2_with fail
              go_quiet (fail)
              go_wp2_with fail
              go_roundw
              case rel => exact ⟨j + 1, by omega, by go_num, hs, keptN hKj nq⟩
              case measure => simp [intOf]; omega
theorem r6Merge_any (w : World) (v : Value) (l : List Vc) (hs : Es eVec w v l) (hl : l.length ≤ 1000000) :
    Calls Try.prog 17 #[v] w fun e W' => e = .returned (VecV (joinL l)) ∧ Below w.heap.size w W' := by
  obtain ⟨A, c, rfl, _⟩ := hs.form
  rw [← foldJ_all]
  exact r6Merge_form w A c l hs hl _ rfl

set_option maxHeartbeats 2000000 in
theorem r6Meet_form (w : World) (A : Option Addr) (c : Nat) (l : List Vc) (hs : Es eVec w (.slice A l.length c) l) (hl : l.length ≤ 1000000) (Z : Vc) (hZ : Z = foldM l l.length) :
    Calls Try.prog 18 #[.slice A l.length c] w fun e W' => e = .returned (VecV Z) ∧ Below w.heap.size w W' := by
  have HZ := Lib.hid hZ
  clear hZ
  have b0 := BoxV.new w zeroV
  have hB0 : Below w.heap.size w (w.alloc (.cells (encC zeroV).toArray 24)) := (Below.refl _ w).alloc (Nat.le_refl _) _
  have b0' : BoxV ((w.alloc (.cells (encC zeroV).toArray 24)).alloc (.cells (encC zeroV).toArray 24)) w.heap.size zeroV := b0.below ((Below.refl _ _).alloc (Nat.le_refl _) _)
  have hB1 : Below w.heap.size w ((w.alloc (.cells (encC zeroV).toArray 24)).alloc (.cells (encC zeroV).toArray 24)) := hB0.alloc hB0.size _
  by_cases h0 : 0 < l.length
  case neg =>
    obtain rfl : l = [] := List.eq_nil_of_length_eq_zero (by omega)
    obtain rfl : Z = zeroV := HZ.out
    clear hs HZ h0 hl
    go_enter Try.func18, Try.ntmps18
    go_wp2_with (first
      | (refine wpList_alloc_vec rfl rfl ?_)
      | (refine wpList_build_vec rfl rfl ?_)
      | (refine wpList_store_vec rfl (.tmp 2) (.tmp 9) rfl rfl b0 rfl ?_; intro w9 b9 k9))
    refine bodyPost_ret (results_vec1 rfl _ rfl b9) rfl ?_
    exact ⟨rfl, hB0.trans (k9.below (fun j _ e => by subst e; exact Nat.le_refl _) hB0.size)⟩
  case pos =>
    obtain ⟨b, off, rfl, _, hc, hat⟩ := es_plain hs h0
    have HAT := Lib.hid hat
    obtain ⟨x0, hx0⟩ : ∃ x, l[0]? = some x := ⟨_, List.getElem?_eq_getElem h0⟩
    have hat0 : VecAt (w.alloc (.cells (encC zeroV).toArray 24)) b off x0 := by have := (hat 0 x0 hx0).below hB0; rwa [Nat.zero_mul, Nat.add_zero] at this
    have HF := Lib.hid (show foldM l 1 = x0 by
      cases l with
      | nil => simp at h0
      | cons z l => simp at hx0; subst hx0; rfl)
    have h0' : (l.length : Int) ≠ 0 := by omega
    have h0i : (0 : Int) < (l.length : Int) := by omega
    clear hat hs hx0
    go_enter Try.func18, Try.ntmps18
    go_wp2_with (first
      | (refine wpList_alloc_vec rfl rfl ?_)
      | (refine wpList_load_vec rfl (.tmp 11) rfl rfl hat0 ?_)
      | (refine wpList_store_vec rfl (.tmp 3) (.tmp 12) rfl rfl (BoxV.new _ zeroV) rfl ?_; intro w9 b9 k9; rw [World.size_alloc] at b9 k9))
    have hB2 := hB1.trans (k9.below (B := w.heap.size) (fun j _ e => by subst e; exact Nat.le_succ _) hB1.size)
    have b0'' := b0'.kept k9 (fun h => Nat.ne_of_lt (Nat.lt_succ_self _) h)
    have hs9 : w.heap.size + 2 ≤ w9.heap.size := by have := k9.size; simp [World.size_alloc] at this; omega
    have HAT9 := Lib.hid (show ∀ (i : Nat) (y : Vc), l[i]? = some y → VecAt w9 b (off + i * 16) y ∧ b < w.heap.size by
      intro i y hy
      have h1 := HAT.out i y hy
      have hb : b < w.heap.size := World.block_lt_of_cell? _ _ (VecAt.cell h1 (n := 0) (by omega))
      exact ⟨(h1.below hB1).kept k9 (fun h => by have : b = w.heap.size + 1 := h; omega), hb⟩)
    rw [← HF.out] at b9
    clear HAT b0 b0' k9 hB0 hB1 HF hat0
    go_loopw [4] (fun i wr => ∃ k : Nat, 1 ≤ k ∧ k ≤ l.length ∧ i = .int .i64 k ∧ BoxV wr (w.heap.size + 1) (foldM l k) ∧ Kept (· = w.heap.size + 1) w9 wr) (fun i _ => l.length - (intOf i).toNat)
    case atStart => exact ⟨1, Nat.le_refl _, by omega, rfl, by exact b9, Kept.refl _ _⟩
    case round =>
      obtain ⟨k, hk0, hk, rfl, hb, hK⟩ := hrel
      by_cases hkl : k < l.length
      case neg =>
        obtain rfl : k = l.length := by omega
        have hz : BoxV wr (w.heap.size + 1) Z := by rw [HZ.out]; exact hb
        have hb0 := b0''.kept hK (fun h => Nat.ne_of_lt (Nat.lt_succ_self _) h)
        have hB3 := hB2.trans (hK.below (B := w.heap.size) (fun j _ e => by subst e; exact Nat.le_succ _) hB2.size)
        clear hb HZ
        go_wp2_with (first
          | (refine wpList_load_vec rfl (.tmp 3) rfl rfl hz.at ?_)
          | (refine wpList_store_vec rfl (.tmp 2) (.tmp 41) rfl rfl hb0 rfl ?_; intro wa ba ka))
        refine bodyPost_ret (results_vec1 rfl _ rfl ba) rfl ?_
        exact ⟨rfl, hB3.trans (ka.below (fun j _ e => by subst e; exact Nat.le_refl _) hB3.size)⟩
      case pos =>
        obtain ⟨y, hy⟩ : ∃ y, l[k]? = some y := ⟨_, List.getElem?_eq_getElem hkl⟩
        obtain ⟨haty, hblt⟩ := HAT9.out k y hy
        have HY := Lib.hid (haty.kept hK (fun h => by have : b = w.heap.size + 1 := h; omega))
        have HN := Lib.hid (foldM_next l hk0 hy)
        have HBL := Lib.hid hblt
        clear haty hy hblt
        obtain ⟨a, ha⟩ : ∃ a, a = foldM l k := ⟨_, rfl⟩
        rw [← ha] at hb HN
        clear ha
        obtain ⟨w10, hw10⟩ : ∃ x, x = wr := ⟨_, rfl⟩
        have HS := Lib.hid (show w9.heap.size ≤ w10.heap.size by rw [hw10]; exact hK.size)
        rw [← hw10] at hb hK HY
        have hhi : (k : Int) < (l.length : Int) := by omega
        go_wp2_with fail
        rw [← hw10]
        clear hw10
        go_loopw [5] (fun i w11 => ∃ j : Nat, j ≤ 16 ∧ i = .int .i64 j ∧ BoxV w11 (w.heap.size + 1) (upTo opM a y j) ∧ Kept (· = w.heap.size + 1) w10 w11) (fun i _ => 16 - (intOf i).toNat)
        case atStart => exact ⟨0, by omega, rfl, by rw [upTo_zero]; exact hb, Kept.refl _ _⟩
        case round =>
          obtain ⟨j, hj, rfl, hbj, hKj⟩ := hrel
          by_cases hj16 : j < 16
          case neg =>
            obtain rfl : j = 16 := by omega
            rw [upTo_all, ← HN.out] at hbj
            have hKn := hK.same hKj
            clear HN
            go_wp2_with fail
            go_roundw
            case rel => exact ⟨k + 1, by omega, by omega, by go_num, hbj, hKn⟩
            case measure => simp [intOf]; omega
          case pos =>
            have c1 := hbj.cell hj16
            rw [upTo_at opM a y hj16] at c1
            have f1 := hbj.frozen j
            have c2 := VecAt.cell (HY.out.kept hKj (fun h => by have : b = w.heap.size + 1 := h; have := HBL.out; omega)) hj16
            have hput := hbj.put (k := j) (opM (atV a j) (atV y j))
            rw [upTo_next opM a y hj16] at hput
            have hj' : (j : Int) < 16 := by omega
            have hj0 : (0 : Int) ≤ (j : Int) := by omega
            by_cases hlt : (atV y j).toNat < (atV a j).toNat
            case pos =>
              have hlt' : ((atV y j).toNat : Int) < ((atV a j).toNat : Int) := by omega
              rw [opM_take hlt] at hput
              clear hbj hlt
              go_wp2_with fail
              go_quiet (fail)
              replace c1 : (wr.drewN nq).cell? ⟨w.heap.size + 1, j, none⟩ = some (W32 (atV a j)) := c1
              replace c2 : (wr.drewN nq).cell? ⟨b, off + k * 16 + j, none⟩ = some (W32 (atV y j)) := c2
              replace f1 : (wr.drewN nq).frozen? ⟨w.heap.size + 1, j, none⟩ = false := f1
              have hkd : Kept (· = w.heap.size + 1) w10 (wr.drewN nq) := keptN hKj nq
              replace hput : BoxV ((wr.drewN nq).setCell ⟨w.heap.size + 1, j, none⟩ (W32 (atV y j))) (w.heap.size + 1) (upTo opM a y (j + 1)) := hput
              generalize wr.drewN nq = w12 at *
              go_wp2_with fail
              go_roundw
              case rel => exact ⟨j + 1, by omega, by go_num, hput, hkd.setCell (p := ⟨w.heap.size + 1, j, none⟩) (fun _ => rfl) _⟩
              case measure => simp [intOf]; omega
            case neg =>
              have hlt' : ¬ ((atV y j).toNat : Int) < ((atV a j).toNat : Int) := by omega
              have hs : BoxV wr (w.heap.size + 1) (upTo opM a y (j + 1)) := by rw [upTo_skip opM a y hj16 (opM_skip hlt)]; exact hbj
              clear hbj hlt hput
              go_wp2_with fail
              go_quiet (fail)
              go_wp2_with fail
              go_roundw
              case rel => exact ⟨j + 1, by omega, by go_num, hs, keptN hKj nq⟩
              case measure => simp [intOf]; omega
theorem r6Meet_any (w : World) (v : Value) (l : List Vc) (hs : Es eVec w v l) (hl : l.length ≤ 1000000) :
    Calls Try.prog 18 #[v] w fun e W' => e = .returned (VecV (meetL l)) ∧ Below w.heap.size w W' := by
  obtain ⟨A, c, rfl, _⟩ := hs.form
  rw [← foldM_all]
  exact r6Meet_form w A c l hs hl _ rfl
end Go.Proofs.Ytbkbogblbniogaa
