/- Merge and Meet of vectors: the program's. -/
import Derived.Test.YtbkbogblbniogaaVecAdd
import Derived.StillTailTactics
namespace Go.Proofs.Ytbkbogblbniogaa
open Go.RowKit
set_option maxRecDepth 100000

def opJ (x y : UInt32) : UInt32 := if x.toNat < y.toNat then y else x
def opM (x y : UInt32) : UInt32 := if y.toNat < x.toNat then y else x
theorem pVMerge1_any (w : World) (x y : UInt32) :
    Calls Try.prog 48 #[W32 x, W32 y] w fun e W' => e = .returned (W32 (opJ x y)) ∧ w = W' := by
  unfold opJ
  by_cases h : x.toNat < y.toNat
  · rw [if_pos h]
    have h' : (x.toNat : Int) < (y.toNat : Int) := by omega
    go_enter Try.func48, Try.ntmps48
    go_wp2_with fail
    go_ret
    refine ⟨?_, rfl⟩
    show Ending.returned (.int .u32 (max (x.toNat : Int) (y.toNat : Int))) = _
    rw [show max (x.toNat : Int) (y.toNat : Int) = (y.toNat : Int) by omega]
  · rw [if_neg h]
    have h' : ¬ (x.toNat : Int) < (y.toNat : Int) := by omega
    go_enter Try.func48, Try.ntmps48
    go_wp2_with fail
    go_ret
    refine ⟨?_, rfl⟩
    show Ending.returned (.int .u32 (max (x.toNat : Int) (y.toNat : Int))) = _
    rw [show max (x.toNat : Int) (y.toNat : Int) = (x.toNat : Int) by omega]
theorem pVMeet1_any (w : World) (x y : UInt32) :
    Calls Try.prog 49 #[W32 x, W32 y] w fun e W' => e = .returned (W32 (opM x y)) ∧ w = W' := by
  unfold opM
  by_cases h : y.toNat < x.toNat
  · rw [if_pos h]
    have h' : (y.toNat : Int) < (x.toNat : Int) := by omega
    go_enter Try.func49, Try.ntmps49
    go_wp2_with fail
    go_ret
    refine ⟨?_, rfl⟩
    show Ending.returned (.int .u32 (min (x.toNat : Int) (y.toNat : Int))) = _
    rw [show min (x.toNat : Int) (y.toNat : Int) = (y.toNat : Int) by omega]
  · rw [if_neg h]
    have h' : ¬ (y.toNat : Int) < (x.toNat : Int) := by omega
    go_enter Try.func49, Try.ntmps49
    go_wp2_with fail
    go_ret
    refine ⟨?_, rfl⟩
    show Ending.returned (.int .u32 (min (x.toNat : Int) (y.toNat : Int))) = _
    rw [show min (x.toNat : Int) (y.toNat : Int) = (x.toNat : Int) by omega]

def opV (op : UInt32 → UInt32 → UInt32) (a b : Vc) : Vc := fun i => op (a i) (b i)
theorem opV_join (a b : Vc) : opV opJ a b = joinV a b := rfl
theorem opV_meet (a b : Vc) : opV opM a b = meetV a b := rfl
theorem atV_op (op : UInt32 → UInt32 → UInt32) (a b : Vc) {n : Nat} (h : n < 16) : atV (opV op a b) n = op (atV a n) (atV b n) := by
  unfold atV opV
  rw [dif_pos h, dif_pos h, dif_pos h]
/-- Taken up to a site. -/
def upTo (op : UInt32 → UInt32 → UInt32) (a b : Vc) (k : Nat) : Vc := fun i => if i.val < k then op (a i) (b i) else a i
theorem upTo_zero (op : UInt32 → UInt32 → UInt32) (a b : Vc) : upTo op a b 0 = a := by funext i; simp [upTo]
theorem upTo_all (op : UInt32 → UInt32 → UInt32) (a b : Vc) : upTo op a b 16 = opV op a b := by funext i; simp [upTo, opV]
theorem upTo_at (op : UInt32 → UInt32 → UInt32) (a b : Vc) {k : Nat} (h : k < 16) : atV (upTo op a b k) k = atV a k := by
  unfold atV upTo
  rw [dif_pos h, dif_pos h, if_neg (by simp)]
theorem upTo_next (op : UInt32 → UInt32 → UInt32) (a b : Vc) {k : Nat} (h : k < 16) : setV (upTo op a b k) k (op (atV a k) (atV b k)) = upTo op a b (k + 1) := by
  funext i
  unfold setV upTo
  by_cases e : i.val = k
  · have hi : i = ⟨k, h⟩ := Fin.ext e
    rw [if_pos e, if_pos (by omega), hi]
    unfold atV
    rw [dif_pos h, dif_pos h]
  · rw [if_neg e]
    by_cases h1 : i.val < k
    · rw [if_pos h1, if_pos (by omega)]
    · rw [if_neg h1, if_neg (by omega)]
def foldV (op : UInt32 → UInt32 → UInt32) : List Vc → Vc
  | [] => zeroV
  | x :: l => l.foldl (opV op) x
theorem foldV_join (l : List Vc) : foldV opJ l = joinL l := by cases l <;> rfl
theorem foldV_meet (l : List Vc) : foldV opM l = meetL l := by cases l <;> rfl

set_option maxHeartbeats 2000000 in
theorem together_form (w : World) (A : Option Addr) (c : Nat) (l : List Vc) (hs : Es eVec w (.slice A l.length c) l) (hl : l.length ≤ 1000000) (f : Nat) (op : UInt32 → UInt32 → UInt32) (hf : ∀ W x y, Calls Try.prog f #[W32 x, W32 y] W fun e W' => e = .returned (W32 (op x y)) ∧ W = W') (hcf : ∀ args W, (callFunc f args).run Try.prog W = .ok (.enter f args) W) (Z : Vc) (hZ : Z = foldV op l) :
    Calls Try.prog 47 #[.slice A l.length c, .func (.func f) #[] #[]] w fun e W' => e = .returned (VecV Z) ∧ Below w.heap.size w W' := by
  have HZ := Lib.hid hZ
  clear hZ
  have b0 := BoxV.new w zeroV
  have hB0 : Below w.heap.size w (w.alloc (.cells (encC zeroV).toArray 24)) := (Below.refl _ w).alloc (Nat.le_refl _) _
  cases l with
  | nil =>
    obtain rfl : Z = zeroV := HZ.out
    clear hs HZ
    go_enter Try.func47, Try.ntmps47
    go_wp2_with (first
      | (refine wpList_alloc_vec rfl rfl ?_)
      | (refine wpList_build_vec rfl rfl ?_)
      | (refine wpList_store_vec rfl (.tmp 4) (.tmp 12) rfl rfl b0 rfl ?_; intro w9 b9 k9))
    refine bodyPost_ret (results_vec1 rfl _ rfl b9) rfl ?_
    exact ⟨rfl, hB0.trans (k9.below (fun j _ e => by subst e; exact Nat.le_refl _) hB0.size)⟩
  | cons x l =>
    obtain ⟨b, off, c', he, hc, hat⟩ := hs.full (by simp)
    injection he with e1 e2 e3
    subst e1 e3
    have HAT := Lib.hid hat
    have hat0 : VecAt (w.alloc (.cells (encC zeroV).toArray 24)) b off x := by have := (hat 0 x rfl).below hB0; rwa [Nat.zero_mul, Nat.add_zero] at this
    have hlen : (x :: l).length = l.length + 1 := rfl
    rw [hlen] at hc hl ⊢
    clear hlen hat hs e2
    have b1 : BoxV ((w.alloc (.cells (encC zeroV).toArray 24)).alloc (.cells (encC zeroV).toArray 24)) (w.heap.size + 1) zeroV := by have := BoxV.new (w.alloc (.cells (encC zeroV).toArray 24)) zeroV; rwa [World.size_alloc] at this
    have b0' : BoxV ((w.alloc (.cells (encC zeroV).toArray 24)).alloc (.cells (encC zeroV).toArray 24)) w.heap.size zeroV := b0.below ((Below.refl _ _).alloc (Nat.le_refl _) _)
    have hB1 : Below w.heap.size w ((w.alloc (.cells (encC zeroV).toArray 24)).alloc (.cells (encC zeroV).toArray 24)) := hB0.alloc hB0.size _
    by_cases hc1 : c = 1
    case pos =>
      obtain rfl : l = [] := List.eq_nil_of_length_eq_zero (by omega)
      subst hc1
      clear hl hc HAT
      go_enter Try.func47, Try.ntmps47
      go_wp2_with (first
        | (refine wpList_alloc_vec rfl rfl ?_)
        | (refine wpList_load_vec rfl (.tmp 14) rfl rfl hat0 ?_)
        | (refine wpList_store_vec rfl (.tmp 5) (.tmp 15) rfl rfl (BoxV.new _ zeroV) rfl ?_; intro w9 b9 k9; rw [World.size_alloc] at b9 k9)
        | (refine wpList_load_vec rfl (.tmp 5) rfl rfl b9.at ?_)
        | (refine wpList_store_vec rfl (.tmp 4) (.tmp 38) rfl rfl (b0'.kept k9 (fun h => Nat.ne_of_lt (Nat.lt_succ_self _) h)) rfl ?_; intro wa ba ka))
      go_loopw [19] (fun i wr => i = .int .i64 0 ∧ wr = w9) (fun _ _ => 0)
      case atStart => exact ⟨rfl, rfl⟩
      case round =>
        obtain ⟨rfl, rfl⟩ := hrel
        go_wp2_with (first
          | (refine wpList_load_vec rfl (.tmp 5) rfl rfl b9.at ?_)
          | (refine wpList_store_vec rfl (.tmp 4) (.tmp 38) rfl rfl (b0'.kept k9 (fun h => Nat.ne_of_lt (Nat.lt_succ_self _) h)) rfl ?_; intro wa ba ka))
        refine bodyPost_ret (results_vec1 rfl _ rfl ba) rfl ?_
        have hB2 := hB1.trans (k9.below (B := w.heap.size) (fun j _ e => by subst e; exact Nat.le_succ _) hB1.size)
        exact ⟨by rw [HZ.out]; rfl, hB2.trans (ka.below (fun j _ e => by subst e; exact Nat.le_refl _) hB2.size)⟩
    case neg =>
      go_enter Try.func47, Try.ntmps47
      go_wp2_with (first
        | (refine wpList_alloc_vec rfl rfl ?_)
        | (refine wpList_load_vec rfl (.tmp 14) rfl rfl hat0 ?_)
        | (refine wpList_store_vec rfl (.tmp 5) (.tmp 15) rfl rfl (BoxV.new _ zeroV) rfl ?_; intro w9 b9 k9; rw [World.size_alloc] at b9 k9))
      have hB2 := hB1.trans (k9.below (B := w.heap.size) (fun j _ e => by subst e; exact Nat.le_succ _) hB1.size)
      have b0'' := b0'.kept k9 (fun h => Nat.ne_of_lt (Nat.lt_succ_self _) h)
      have hs9 : w.heap.size + 2 ≤ w9.heap.size := by have := k9.size; simp [World.size_alloc] at this; omega
      have HAT9 := Lib.hid (show ∀ (i : Nat) (y : Vc), l[i]? = some y → VecAt w9 b (off + 16 + i * 16) y ∧ b < w.heap.size by
        intro i y hy
        have h1 := HAT.out (i + 1) y (by simpa using hy)
        have hb : b < w.heap.size := World.block_lt_of_cell? _ _ (VecAt.cell h1 (n := 0) (by omega))
        have h2 := (h1.below hB1).kept k9 (fun h => by have : b = w.heap.size + 1 := h; omega)
        refine ⟨?_, hb⟩
        have : off + (i + 1) * eVec.k = off + 16 + i * 16 := by show off + (i + 1) * 16 = _; omega
        rw [this] at h2
        exact h2)
      clear HAT hat0 b0 b1 b0' k9 hB0 hB1
      have hc2 : l.length ≤ c - 1 := by omega
      go_loopw [19] (fun i wr => ∃ k : Nat, k ≤ l.length ∧ i = .int .i64 k ∧ BoxV wr (w.heap.size + 1) ((l.take k).foldl (opV op) x) ∧ Kept (· = w.heap.size + 1) w9 wr) (fun i _ => l.length - (intOf i).toNat)
      case atStart => exact ⟨0, by omega, rfl, by simpa using b9, Kept.refl _ _⟩
      case round =>
        obtain ⟨k, hk, rfl, hb, hK⟩ := hrel
        by_cases hkl : k < l.length
        case neg =>
          obtain rfl : k = l.length := by omega
          rw [List.take_length] at hb
          have hz : BoxV wr (w.heap.size + 1) Z := by rw [HZ.out]; exact hb
          have hb0 := b0''.kept hK (fun h => Nat.ne_of_lt (Nat.lt_succ_self _) h)
          have hB3 := hB2.trans (hK.below (B := w.heap.size) (fun j _ e => by subst e; exact Nat.le_succ _) hB2.size)
          clear hb HZ
          go_wp2_with (first
            | (refine wpList_load_vec rfl (.tmp 5) rfl rfl hz.at ?_)
            | (refine wpList_store_vec rfl (.tmp 4) (.tmp 38) rfl rfl hb0 rfl ?_; intro wa ba ka))
          refine bodyPost_ret (results_vec1 rfl _ rfl ba) rfl ?_
          exact ⟨rfl, hB3.trans (ka.below (fun j _ e => by subst e; exact Nat.le_refl _) hB3.size)⟩
        case pos =>
          obtain ⟨y, hy⟩ : ∃ y, l[k]? = some y := ⟨_, List.getElem?_eq_getElem hkl⟩
          obtain ⟨haty, hblt⟩ := HAT9.out k y hy
          have hatr := haty.kept hK (fun h => by have : b = w.heap.size + 1 := h; omega)
          have HN := Lib.hid (show (l.take (k + 1)).foldl (opV op) x = opV op ((l.take k).foldl (opV op) x) y by rw [List.take_add_one, hy]; simp)
          have hsr : w9.heap.size ≤ wr.heap.size := hK.size
          clear haty hy
          generalize (l.take k).foldl (opV op) x = a at hb HN
          go_wp2_with (first
            | (refine wpList_load_vec rfl (.tmp 21) rfl rfl hatr ?_)
            | (refine wpList_alloc_vec rfl rfl ?_)
            | (refine wpList_store_vec rfl (.tmp 7) (.tmp 22) rfl rfl (BoxV.new _ zeroV) rfl ?_; intro w10 b10 k10))
          have hne : w.heap.size + 1 ≠ wr.heap.size := by omega
          have ba10 := (hb.below ((Below.refl _ wr).alloc (Nat.le_refl _) (.cells (encC zeroV).toArray 24))).kept k10 (fun h => hne h)
          have hK10 : Kept (· = w.heap.size + 1) w9 w10 := (hK.alloc (.cells (encC zeroV).toArray 24)).trans k10 (fun j hj h => by have : j = wr.heap.size := h; omega)
          have hs10 : wr.heap.size < w10.heap.size := b10.lt
          clear hb hatr k10 hK
          go_loopw [23] (fun i w11 => ∃ j : Nat, j ≤ 16 ∧ i = .int .i64 j ∧ BoxV w11 (w.heap.size + 1) (upTo op a y j) ∧ Kept (· = w.heap.size + 1) w10 w11) (fun i _ => 16 - (intOf i).toNat)
          case atStart => exact ⟨0, by omega, rfl, by rw [upTo_zero]; exact ba10, Kept.refl _ _⟩
          case round =>
            obtain ⟨j, hj, rfl, hbj, hKj⟩ := hrel
            by_cases hj16 : j < 16
            case neg =>
              obtain rfl : j = 16 := by omega
              rw [upTo_all, ← HN.out] at hbj
              have hKn := hK10.same hKj
              clear HN
              go_wp2_with fail
              go_roundw
              case rel => exact ⟨k + 1, by omega, by go_num, hbj, hKn⟩
              case measure => simp [intOf]; omega
            case pos =>
              have c1 := hbj.cell hj16
              rw [upTo_at op a y hj16] at c1
              have f1 := hbj.frozen j
              have c2 := (b10.kept hKj (fun h => hne h.symm)).cell hj16
              have hput := hbj.put (k := j) (op (atV a j) (atV y j))
              rw [upTo_next op a y hj16] at hput
              have hj' : (j : Int) < 16 := by omega
              have hj0 : (0 : Int) ≤ (j : Int) := by omega
              have HF := Lib.hid (fun W => (hf W (atV a j) (atV y j)).mono fun e W' h => (⟨h.1, h.2.symm⟩ : e = .returned (W32 (op (atV a j) (atV y j))) ∧ W' = W))
              clear hbj hf
              go_wp2_with fail
              go_still_tail 9, (by kernel_rfl)
              still_call (HF.out _)
              refine wpStill_nil ?_
              change wpList _ _ _ _ _ wr.drew
              replace c1 : wr.drew.cell? ⟨w.heap.size + 1, j, none⟩ = some (W32 (atV a j)) := c1
              replace f1 : wr.drew.frozen? ⟨w.heap.size + 1, j, none⟩ = false := f1
              have hkd : Kept (· = w.heap.size + 1) w10 wr.drew := hKj.drew
              replace hput : BoxV (wr.drew.setCell ⟨w.heap.size + 1, j, none⟩ (W32 (op (atV a j) (atV y j)))) (w.heap.size + 1) (upTo op a y (j + 1)) := hput
              generalize wr.drew = w12 at *
              go_wp2_with fail
              go_roundw
              case rel => exact ⟨j + 1, by omega, by go_num, hput, hkd.setCell (p := ⟨w.heap.size + 1, j, none⟩) (fun _ => rfl) _⟩
              case measure => simp [intOf]; omega
theorem pVTogether_any (w : World) (v : Value) (l : List Vc) (hs : Es eVec w v l) (hl : l.length ≤ 1000000) (f : Nat) (op : UInt32 → UInt32 → UInt32) (hf : ∀ W x y, Calls Try.prog f #[W32 x, W32 y] W fun e W' => e = .returned (W32 (op x y)) ∧ W = W') (hcf : ∀ args W, (callFunc f args).run Try.prog W = .ok (.enter f args) W) :
    Calls Try.prog 47 #[v, .func (.func f) #[] #[]] w fun e W' => e = .returned (VecV (foldV op l)) ∧ Below w.heap.size w W' := by
  obtain ⟨A, c, rfl, _⟩ := hs.form
  exact together_form w A c l hs hl f op hf hcf _ rfl
theorem callFunc_merge (args : Array Value) (W : World) : (callFunc 48 args).run Try.prog W = .ok (.enter 48 args) W := by
  have h := Try.func48
  go_simp
theorem callFunc_meet (args : Array Value) (W : World) : (callFunc 49 args).run Try.prog W = .ok (.enter 49 args) W := by
  have h := Try.func49
  go_simp
theorem pVMerge_any (w : World) (v : Value) (l : List Vc) (hs : Es eVec w v l) (hl : l.length ≤ 1000000) :
    Calls Try.prog 15 #[v] w fun e W' => e = .returned (VecV (joinL l)) ∧ Below w.heap.size w W' := by
  have b0 := BoxV.new w zeroV
  have hB0 : Below w.heap.size w (w.alloc (.cells (encC zeroV).toArray 24)) := (Below.refl _ w).alloc (Nat.le_refl _) _
  have hc := Lib.hid (pVTogether_any _ v l (hs.below hB0) hl 48 opJ pVMerge1_any callFunc_merge)
  rw [foldV_join] at hc
  clear hs
  obtain ⟨Z, hZ⟩ : ∃ Z, Z = joinL l := ⟨_, rfl⟩
  rw [← hZ] at hc ⊢
  clear hZ
  go_enter Try.func15, Try.ntmps15
  go_wp2_with (refine wpList_alloc_vec rfl rfl ?_)
  refine hc.out.mono ?_
  rintro e w1 ⟨rfl, hb1⟩
  replace b0 := b0.below hb1
  have hB1 := hB0.trans (hb1.mono hB0.size)
  go_wp2_with (refine wpList_store_vec rfl (.tmp 2) (.tmp 4) rfl rfl b0 rfl ?_; intro wa ba ka)
  refine bodyPost_ret (results_vec1 rfl _ rfl ba) rfl ?_
  exact ⟨rfl, hB1.trans (ka.below (fun j _ e => by subst e; exact Nat.le_refl _) hB1.size)⟩
theorem pVMeet_any (w : World) (v : Value) (l : List Vc) (hs : Es eVec w v l) (hl : l.length ≤ 1000000) :
    Calls Try.prog 16 #[v] w fun e W' => e = .returned (VecV (meetL l)) ∧ Below w.heap.size w W' := by
  have b0 := BoxV.new w zeroV
  have hB0 : Below w.heap.size w (w.alloc (.cells (encC zeroV).toArray 24)) := (Below.refl _ w).alloc (Nat.le_refl _) _
  have hc := Lib.hid (pVTogether_any _ v l (hs.below hB0) hl 49 opM pVMeet1_any callFunc_meet)
  rw [foldV_meet] at hc
  clear hs
  obtain ⟨Z, hZ⟩ : ∃ Z, Z = meetL l := ⟨_, rfl⟩
  rw [← hZ] at hc ⊢
  clear hZ
  go_enter Try.func16, Try.ntmps16
  go_wp2_with (refine wpList_alloc_vec rfl rfl ?_)
  refine hc.out.mono ?_
  rintro e w1 ⟨rfl, hb1⟩
  replace b0 := b0.below hb1
  have hB1 := hB0.trans (hb1.mono hB0.size)
  go_wp2_with (refine wpList_store_vec rfl (.tmp 2) (.tmp 4) rfl rfl b0 rfl ?_; intro wa ba ka)
  refine bodyPost_ret (results_vec1 rfl _ rfl ba) rfl ?_
  exact ⟨rfl, hB1.trans (ka.below (fun j _ e => by subst e; exact Nat.le_refl _) hB1.size)⟩
end Go.Proofs.Ytbkbogblbniogaa
