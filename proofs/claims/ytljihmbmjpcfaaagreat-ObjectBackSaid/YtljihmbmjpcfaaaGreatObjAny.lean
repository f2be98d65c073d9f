/- strings.ContainsAny at the two bytes that no entry's name has. -/
import Derived.Test.YtljihmbmjpcfaaaGreatOneE
import Derived.Test.YtljihmbmjpcfaaaGreatUtf8
import Derived.Test.YtljihmbmjpcfaaaGreatHashIx
import Derived.Test.YtljihmbmjpcfaaaGreatDrawnV
import Derived.Test.YtljihmbmjpcfaaaGreatShelf
import Derived.WalkMore
namespace Go.Proofs.YtljihmbmjpcfaaaGreat
open Go.RowKit Go.Shelf Go.Great
set_option maxRecDepth 100000
/-- One of the two bytes that no entry's name has. -/
def barred (x : List UInt8) : Bool := x.any fun b => b == 47 || b == 0
theorem uValidRune_any (w : World) (r : Nat) (_h128 : 128 ≤ r) (hv : Utf8.valid r = true) : Calls Tryz.prog 241 #[.int .i32 r] w fun e W' => e = .returned (.bool true) ∧ W' = w := by
  simp only [Utf8.valid, Bool.or_eq_true, Bool.and_eq_true, decide_eq_true_eq] at hv
  rcases hv with ⟨h1, h2⟩ | ⟨h1, h2⟩
  · go_enter Tryz.func241, Tryz.ntmps241
    go_wp2_with fail
    go_ret
    exact ⟨rfl, rfl⟩
  · have h3 : (0 : Int) ≤ (r : Int) := by omega
    have h4 : ¬ (r : Int) < 55296 := by omega
    have h5 : (57343 : Int) < (r : Int) := by omega
    go_enter Tryz.func241, Tryz.ntmps241
    go_wp2_with fail
    go_ret
    exact ⟨rfl, rfl⟩
theorem sIndexByte_below (s : List UInt8) (c : UInt8) (w : World) (h : Lib.indexByte s c = -1 := by rfl) : Calls Tryz.prog 240 #[Str s, B8 c] w fun e W' => e = .returned (.int .i64 (-1)) ∧ Below w.heap.size w W' :=
  (sIndexByte_any s c w).mono fun e W' ⟨h1, h2⟩ => ⟨by rw [h1, h], h2 ▸ Below.refl _ _⟩
set_option maxHeartbeats 4000000 in
theorem sIndexRune_hi (w : World) (r : Nat) (h128 : 128 ≤ r) (hv : Utf8.valid r = true) (hlt : r < 2147483648) (hne : ¬ r = 65533) : Calls Tryz.prog 235 #[.string ⟨#[47, 0]⟩, .int .i32 r] w fun e W' => e = .returned (.int .i64 (-1)) ∧ Below w.heap.size w W' := by
  obtain ⟨xs, hxs, hl2, hl4, hnz⟩ := encode_hi r h128 hv
  have hge : ¬ (r : Int) < 128 := by omega
  have hne' : ((r : Int) == 65533) = false := by simp; omega
  have hv' := uValidRune_any w r h128 hv
  have hcv : ∀ W, (convert 21 9 (.int .i32 r)).run Tryz.prog W = .ok (Str xs) W := fun W => by
    simp [convert, run_underlying Tryz.underlying9, run_underlying Tryz.underlying21, Conv.intToString, hxs]
  have HNZ := Lib.hid hnz
  clear hnz hxs hv h128
  by_cases h2 : xs.length = 2
  case neg =>
    have hl3 : (3 : Int) ≤ (xs.length : Int) := by omega
    have hl1 : ((xs.length : Int) - 1) = ((xs.length - 1 : Nat) : Int) := by omega
    have hw1 : IntKind.i64.wrap ((xs.length : Int) - 1) = (xs.length : Int) - 1 := IntWalk.i64_in _ (by omega)
    have hge2 : ¬ ((xs.length : Int) - 1) < 2 := by omega
    go_enter Tryz.func235, Tryz.ntmps235
    go_wp2_with fail
    refine hv'.mono ?_
    rintro e w2 ⟨rfl, rfl⟩
    go_wp2_with fail
    go_step3
    go_wp2_with fail
    go_loopw [9] (fun i wr => i = .int .i64 ((xs.length - 1 : Nat) : Int) ∧ wr = w2) (fun _ _ => 0)
    case atStart => exact ⟨rfl, rfl⟩
    case round =>
      obtain ⟨rfl, rfl⟩ := hrel
      have hge3 : ¬ ((xs.length - 1 : Nat) : Int) < 2 := by omega
      go_wp2_with fail
      go_ret
      exact ⟨rfl, Below.refl _ _⟩
  case pos =>
    obtain ⟨a, b, rfl⟩ : ∃ a b, xs = [a, b] := by
      match xs, h2 with
      | [a, b], _ => exact ⟨a, b, rfl⟩
    have hb0 : b ≠ 0 := HNZ.out b (by simp)
    go_enter Tryz.func235, Tryz.ntmps235
    go_wp2_with fail
    refine hv'.mono ?_
    rintro e w2 ⟨rfl, rfl⟩
    go_wp2_with fail
    go_step3
    go_wp2_with fail
    go_loopw [9] (fun i wr => i = .int .i64 1 ∧ wr = w2) (fun _ _ => 0)
    case atStart => exact ⟨rfl, rfl⟩
    case round =>
      obtain ⟨rfl, rfl⟩ := hrel
      have hbn : ((0 : Int) != (b.toNat : Int)) = true := by
        simp only [bne_iff_ne, ne_eq]
        intro h
        apply hb0
        apply UInt8.toNat_inj.1
        simp
        omega
      clear hv' hcv
      go_wp2_with fail
      -- BEGIN
      go_step3
      go_wp2_with fail
      refine wp_held (fun W1 => Below wr.heap.size wr W1) (by kernel_rfl) ?_
      have hS0 : Below wr.heap.size wr wr.drew := (Below.refl _ wr).drew
      refine wpAnyH_next (i := 0) (v := Str [47, 0]) rfl (by kernel_rfl) (by kernel_rfl) (by kernel_rfl) (fun _ _ _ h => h) (by kernel_rfl) (fun W1 hW1 => by go_simp; done) hS0 (fun a' ha' => ?_)
      simp only [Act.put, List.getElem_toArray, List.getElem_cons_zero, List.setIfInBounds_toArray, List.set_cons_succ, List.set_cons_zero] at ha'
      subst ha'
      refine wpAnyH_next (i := 1) (v := .int .i64 1) rfl (by kernel_rfl) (by kernel_rfl) (by kernel_rfl) (fun _ _ _ h => h) (by kernel_rfl) (fun W1 hW1 => by go_simp; done) hS0 (fun a' ha' => ?_)
      simp only [Act.put, List.getElem_toArray, List.getElem_cons_succ, List.getElem_cons_zero, List.setIfInBounds_toArray, List.set_cons_succ, List.set_cons_zero] at ha'
      subst ha'
      refine wpAnyH_next (i := 2) (v := B8 0) rfl (by kernel_rfl) (by kernel_rfl) (by kernel_rfl) (fun _ _ _ h => h) (by kernel_rfl) (fun W1 hW1 => by first | (go_simp; done) | (go_simp; rfl)) hS0 (fun a' ha' => ?_)
      simp only [Act.put, List.getElem_toArray, List.getElem_cons_succ, List.getElem_cons_zero, List.setIfInBounds_toArray, List.set_cons_succ, List.set_cons_zero] at ha'
      subst ha'
      refine wpAnyH_next (i := 3) (v := Str [a, b]) rfl (by kernel_rfl) (by kernel_rfl) (by kernel_rfl) (fun _ _ _ h => h) (by kernel_rfl) (fun W1 hW1 => by go_simp; done) hS0 (fun a' ha' => ?_)
      simp only [Act.put, List.getElem_toArray, List.getElem_cons_succ, List.getElem_cons_zero, List.setIfInBounds_toArray, List.set_cons_succ, List.set_cons_zero] at ha'
      subst ha'
      refine wpAnyH_next (i := 4) (v := .int .i64 1) rfl (by kernel_rfl) (by kernel_rfl) (by kernel_rfl) (fun _ _ _ h => h) (by kernel_rfl) (fun W1 hW1 => by go_simp; done) hS0 (fun a' ha' => ?_)
      simp only [Act.put, List.getElem_toArray, List.getElem_cons_succ, List.getElem_cons_zero, List.setIfInBounds_toArray, List.set_cons_succ, List.set_cons_zero] at ha'
      subst ha'
      refine wpAnyH_next (i := 5) (v := B8 b) rfl (by kernel_rfl) (by kernel_rfl) (by kernel_rfl) (fun _ _ _ h => h) (by kernel_rfl) (fun W1 hW1 => by first | (go_simp; done) | (go_simp; rfl)) hS0 (fun a' ha' => ?_)
      simp only [Act.put, List.getElem_toArray, List.getElem_cons_succ, List.getElem_cons_zero, List.setIfInBounds_toArray, List.set_cons_succ, List.set_cons_zero] at ha'
      subst ha'
      refine wpAnyH_next (i := 6) (v := .bool true) rfl (by kernel_rfl) (by kernel_rfl) (by kernel_rfl) (fun _ _ _ h => h) (by kernel_rfl) (fun W1 hW1 => by first | (go_simp; done) | (go_simp; exact hbn)) hS0 (fun a' ha' => ?_)
      simp only [Act.put, List.getElem_toArray, List.getElem_cons_succ, List.getElem_cons_zero, List.setIfInBounds_toArray, List.set_cons_succ, List.set_cons_zero] at ha'
      subst ha'
      refine wpAnyH_fin (by kernel_rfl) ?_ _
      go_wp2_with fail
      refine wp_held (fun W1 => Below wr.heap.size wr W1) (by kernel_rfl) ?_
      have hS0 : Below wr.heap.size wr wr.drew.drew := (Below.refl _ wr).drew.drew
      refine wpAnyH_next (i := 0) (v := Str [47, 0]) rfl (by kernel_rfl) (by kernel_rfl) (by kernel_rfl) (fun _ _ _ h => h) (by kernel_rfl) (fun W1 hW1 => by go_simp; done) hS0 (fun a' ha' => ?_)
      simp only [Act.put, List.getElem_toArray, List.getElem_cons_zero, List.setIfInBounds_toArray, List.set_cons_succ, List.set_cons_zero] at ha'
      subst ha'
      refine wpAnyH_next (i := 1) (v := .int .i64 1) rfl (by kernel_rfl) (by kernel_rfl) (by kernel_rfl) (fun _ _ _ h => h) (by kernel_rfl) (fun W1 hW1 => by go_simp; done) hS0 (fun a' ha' => ?_)
      simp only [Act.put, List.getElem_toArray, List.getElem_cons_succ, List.getElem_cons_zero, List.setIfInBounds_toArray, List.set_cons_succ, List.set_cons_zero] at ha'
      subst ha'
      refine wpAnyH_next (i := 2) (v := .int .i64 2) rfl (by kernel_rfl) (by kernel_rfl) (by kernel_rfl) (fun _ _ _ h => h) (by kernel_rfl) (fun W1 hW1 => by first | (go_simp; done) | (go_simp; rfl)) hS0 (fun a' ha' => ?_)
      simp only [Act.put, List.getElem_toArray, List.getElem_cons_succ, List.getElem_cons_zero, List.setIfInBounds_toArray, List.set_cons_succ, List.set_cons_zero] at ha'
      subst ha'
      refine wpAnyH_next (i := 3) (v := Str []) rfl (by kernel_rfl) (by kernel_rfl) (by kernel_rfl) (fun _ _ _ h => h) (by kernel_rfl) (fun W1 hW1 => by first | (go_simp; done) | (go_simp; rfl)) hS0 (fun a' ha' => ?_)
      simp only [Act.put, List.getElem_toArray, List.getElem_cons_succ, List.getElem_cons_zero, List.setIfInBounds_toArray, List.set_cons_succ, List.set_cons_zero] at ha'
      subst ha'
      refine wpAnyH_next (i := 4) (v := Str [a, b]) rfl (by kernel_rfl) (by kernel_rfl) (by kernel_rfl) (fun _ _ _ h => h) (by kernel_rfl) (fun W1 hW1 => by go_simp; done) hS0 (fun a' ha' => ?_)
      simp only [Act.put, List.getElem_toArray, List.getElem_cons_succ, List.getElem_cons_zero, List.setIfInBounds_toArray, List.set_cons_succ, List.set_cons_zero] at ha'
      subst ha'
      refine wpAnyH_next (i := 5) (v := .int .i64 1) rfl (by kernel_rfl) (by kernel_rfl) (by kernel_rfl) (fun _ _ _ h => h) (by kernel_rfl) (fun W1 hW1 => by go_simp; done) hS0 (fun a' ha' => ?_)
      simp only [Act.put, List.getElem_toArray, List.getElem_cons_succ, List.getElem_cons_zero, List.setIfInBounds_toArray, List.set_cons_succ, List.set_cons_zero] at ha'
      subst ha'
      refine wpAnyH_next (i := 6) (v := B8 b) rfl (by kernel_rfl) (by kernel_rfl) (by kernel_rfl) (fun _ _ _ h => h) (by kernel_rfl) (fun W1 hW1 => by first | (go_simp; done) | (go_simp; rfl)) hS0 (fun a' ha' => ?_)
      simp only [Act.put, List.getElem_toArray, List.getElem_cons_succ, List.getElem_cons_zero, List.setIfInBounds_toArray, List.set_cons_succ, List.set_cons_zero] at ha'
      subst ha'
      refine wpAnyH_want (i := 7) (by kernel_rfl) rfl (by kernel_rfl) (fun K hK => ?_)
      unfold Oper.wp
      go_simp
      refine (sIndexByte_below [] b _).mono ?_
      rintro e b1 ⟨rfl, hb1⟩
      have hSb1 : Below wr.heap.size wr b1 := hS0.trans (hb1.mono hS0.size)
      clear hb1
      refine hK _ _ hSb1 ?_
      clear hK K
      refine wpAnyH_next (i := 8) (v := .int .i64 (-1)) rfl (by kernel_rfl) (by kernel_rfl) (by kernel_rfl) (fun _ _ _ h => h) (by kernel_rfl) (fun W1 hW1 => by go_simp; done) hSb1 (fun a' ha' => ?_)
      simp only [Act.put, List.getElem_toArray, List.getElem_cons_succ, List.getElem_cons_zero, List.setIfInBounds_toArray, List.set_cons_succ, List.set_cons_zero] at ha'
      subst ha'
      refine wpAnyH_fin (by kernel_rfl) ?_ _
      go_wp2_with fail
      simp +zetaDelta only [Exit.noGoto_ret, Exit.inBlock, Exit.then]
      go_ret
      exact ⟨rfl, hSb1⟩
      -- END
/-- The iterator over a string, in its block. -/
def IterAt (W : World) (k : Nat) (s : ByteArray) (pos : Nat) : Prop := W.heap[k]? = some (.stringIter s pos)
theorem IterAt.lt {W : World} {k : Nat} {s : ByteArray} {pos : Nat} (h : IterAt W k s pos) : k < W.heap.size := (Array.getElem?_eq_some_iff.1 h).1
theorem IterAt.below {w W : World} {k : Nat} {s : ByteArray} {pos : Nat} (h : IterAt w k s pos) (hb : Below w.heap.size w W) : IterAt W k s pos := (hb.block k h.lt).trans h
set_option maxHeartbeats 4000000 in
theorem sIndexRune_err (w : World) : Calls Tryz.prog 235 #[.string ⟨#[47, 0]⟩, .int .i32 65533] w fun e W' => e = .returned (.int .i64 (-1)) ∧ Below w.heap.size w W' := by
  have hit : IterAt (w.alloc (.stringIter ⟨#[47, 0]⟩ 0)) w.heap.size ⟨#[47, 0]⟩ 0 := heap_alloc_new w _
  have hB : Below w.heap.size w (w.alloc (.stringIter ⟨#[47, 0]⟩ 0)) := (Below.refl _ w).alloc (Nat.le_refl _) _
  go_enter Tryz.func235, Tryz.ntmps235
  go_wp2_with fail
  go_loopw [5] (fun _ wr => ∃ k : Nat, k ≤ 2 ∧ IterAt wr w.heap.size ⟨#[47, 0]⟩ k ∧ Below w.heap.size w wr) (fun _ wr => match wr.heap[w.heap.size]? with | some (.stringIter _ p) => 3 - p | _ => 0)
  case atStart => exact ⟨0, by omega, hit, hB⟩
  case round =>
    obtain ⟨k, hk, hit, hB⟩ := hrel
    by_cases h2 : k < 2
    case neg =>
      have hnx := fun ty => Lib.run_next_end_at (P := Tryz.prog) wr w.heap.size ⟨#[47, 0]⟩ k ty hit (by show ¬ k < 2; exact h2)
      go_wp2_with fail
      go_ret
      exact ⟨rfl, hB⟩
    case pos =>
      have hnx := fun ty => Lib.run_next_any_at (P := Tryz.prog) wr w.heap.size ⟨#[47, 0]⟩ k ty hit (by show k < 2; exact h2)
      have hit2 := Lib.iterAt_heap wr w.heap.size ⟨#[47, 0]⟩ k (k + 1) hit
      have hB2 := Lib.below_iterAt hB (Nat.le_refl _) ⟨#[47, 0]⟩ (k + 1)
      have hm : (match wr.heap[w.heap.size]? with | some (.stringIter _ p) => 3 - p | _ => 0) = 3 - k := by rw [show wr.heap[w.heap.size]? = some (.stringIter ⟨#[47, 0]⟩ k) from hit]
      have hm2 : (match (wr.iterAt w.heap.size ⟨#[47, 0]⟩ (k + 1)).heap[w.heap.size]? with | some (.stringIter _ p) => 3 - p | _ => 0) = 3 - (k + 1) := by rw [hit2]
      have hkk : k = 0 ∨ k = 1 := by omega
      rcases hkk with rfl | rfl
      · rw [show Utf8.decode ⟨#[47, 0]⟩ 0 = (47, 1) by decide +kernel] at hnx
        go_wp2_with fail
        go_roundw
        case rel => exact ⟨1, by omega, hit2, hB2⟩
        case measure => rw [hm, hm2]; omega
      · rw [show Utf8.decode ⟨#[47, 0]⟩ 1 = (0, 1) by decide +kernel] at hnx
        go_wp2_with fail
        go_roundw
        case rel => exact ⟨2, by omega, hit2, hB2⟩
        case measure => rw [hm, hm2]; omega
theorem sShouldASCII_any (w : World) (n : Int) : Calls Tryz.prog 236 #[.int .i64 n] w fun e W' => e = .returned (.bool (decide (8 < n))) ∧ W' = w := by
  by_cases h : 8 < n
  · have HE := Lib.hid (decide_eq_true h)
    go_enter Tryz.func236, Tryz.ntmps236
    go_wp2_with fail
    go_ret
    exact ⟨by rw [HE.out]; rfl, rfl⟩
  · have HE := Lib.hid (decide_eq_false h)
    go_enter Tryz.func236, Tryz.ntmps236
    go_wp2_with fail
    go_ret
    exact ⟨by rw [HE.out]; rfl, rfl⟩
/-- None of the two bytes among the first ones. -/
def NoBar (x : List UInt8) (i : Nat) : Prop := ∀ j b, j < i → x[j]? = some b → ¬ (b = 47 ∨ b = 0)
theorem barred_none {x : List UInt8} (h : NoBar x x.length) : barred x = false := by
  unfold barred
  rw [List.any_eq_false]
  intro b hb
  obtain ⟨j, hj, rfl⟩ := List.mem_iff_getElem.1 hb
  have := h j x[j] hj (List.getElem?_eq_getElem hj)
  simpa using this
theorem barred_some {x : List UInt8} {i : Nat} {b : UInt8} (h : x[i]? = some b) (hb : b = 47 ∨ b = 0) : barred x = true := by
  unfold barred
  rw [List.any_eq_true]
  exact ⟨b, List.mem_of_getElem? h, by simpa using hb⟩
theorem str_get (x : List UInt8) (i : Nat) (b : UInt8) (h : x[i]? = some b) : (ByteArray.mk x.toArray).get! i = b := by
  obtain ⟨h1, h2⟩ := List.getElem?_eq_some_iff.1 h
  show x.toArray[i]! = b
  simp [h1, h2]
theorem str_sz (x : List UInt8) : (ByteArray.mk x.toArray).size = x.length := by show x.toArray.size = _; simp
theorem byteIn (b : UInt8) : Lib.indexByte [47, 0] b = (if b = 47 then 0 else if b = 0 then 1 else -1) := by
  by_cases h1 : b = 47
  · subst h1; rfl
  · by_cases h2 : b = 0
    · subst h2; rfl
    · have e1 : ((47 : UInt8) == b) = false := by simpa using fun h => h1 h.symm
      have e2 : ((0 : UInt8) == b) = false := by simpa using fun h => h2 h.symm
      simp [Lib.indexByte, e1, e2, h1, h2]
/-- strings.IndexRune at what decoding gives. -/
theorem sIndexRune_dec (w : World) (x : List UInt8) (i : Nat) (b : UInt8) (hb : x[i]? = some b) :
    ∃ r n : Nat, Utf8.decode ⟨x.toArray⟩ i = (r, n) ∧ 1 ≤ n ∧ i + n ≤ x.length ∧
      ((∃ k : Int, (b = 47 ∨ b = 0) ∧ 0 ≤ k ∧ Calls Tryz.prog 235 #[.string ⟨#[47, 0]⟩, .int .i32 r] w fun e W' => e = .returned (.int .i64 k) ∧ Below w.heap.size w W') ∨
       ((∀ j c, i ≤ j → j < i + n → x[j]? = some c → ¬ (c = 47 ∨ c = 0)) ∧ Calls Tryz.prog 235 #[.string ⟨#[47, 0]⟩, .int .i32 r] w fun e W' => e = .returned (.int .i64 (-1)) ∧ Below w.heap.size w W')) := by
  have hlt : i < x.length := (List.getElem?_eq_some_iff.1 hb).1
  have hg := str_get x i b hb
  have hsz := str_sz x
  by_cases h128 : b.toNat < 128
  · refine ⟨b.toNat, 1, ?_, by omega, by omega, ?_⟩
    · unfold Utf8.decode
      dsimp only [Nat.add_zero]
      rw [if_pos (by rw [hg]; exact h128), hg]
    · have hc := Tryz.strings_IndexRune_ascii ⟨#[47, 0]⟩ (b.toNat : Int) w (by omega) (by omega)
      have he : ((b.toNat : Int)).toNat.toUInt8 = b := by simp
      rw [he] at hc
      have hl : (ByteArray.mk #[47, 0]).data.toList = [47, 0] := rfl
      rw [hl, byteIn] at hc
      by_cases hbar : b = 47 ∨ b = 0
      · refine .inl ⟨_, hbar, ?_, hc.mono fun e W' ⟨h1, h2⟩ => ⟨h1, h2 ▸ Below.refl _ _⟩⟩
        rcases hbar with rfl | rfl <;> decide
      · refine .inr ⟨fun j c h1 h2 hj => ?_, ?_⟩
        · obtain rfl : j = i := by omega
          rw [hb] at hj
          cases hj
          exact hbar
        · rw [if_neg (fun h => hbar (.inl h)), if_neg (fun h => hbar (.inr h))] at hc
          exact hc.mono fun e W' ⟨h1, h2⟩ => ⟨h1, h2 ▸ Below.refl _ _⟩
  · have hd := decode_hi ⟨x.toArray⟩ i (by rw [hsz]; exact hlt) (by rw [hg]; omega)
    obtain ⟨r, n, hrn⟩ : ∃ r n, Utf8.decode ⟨x.toArray⟩ i = (r, n) := ⟨_, _, rfl⟩
    rw [hrn] at hd
    obtain ⟨h1, h2, h3, h4, h5, h6⟩ := hd
    dsimp only at h1 h2 h3 h4 h5 h6
    rw [hsz] at h5
    refine ⟨r, n, hrn, h4, h5, .inr ⟨fun j c hj1 hj2 hj hc => ?_, ?_⟩⟩
    · have := h6 j hj1 hj2
      rw [str_get x j c hj] at this
      rcases hc with rfl | rfl <;> simp at this
    · by_cases he : r = 65533
      · subst he
        exact sIndexRune_err w
      · rcases h2 with h2 | h2
        · exact absurd h2 he
        · exact sIndexRune_hi w r h1 h2 h3 he
set_option maxHeartbeats 4000000 in
theorem sIndexAny_short (w : World) (x : List UInt8) (h8 : x.length ≤ 8) : Calls Tryz.prog 232 #[Str x, .string ⟨#[47, 0]⟩] w fun e W' => ∃ k : Int, e = .returned (.int .i64 k) ∧ decide (0 ≤ k) = barred x ∧ Below w.heap.size w W' := by
  have hsz := str_sz x
  have hit : IterAt (w.alloc (.stringIter ⟨x.toArray⟩ 0)) w.heap.size ⟨x.toArray⟩ 0 := heap_alloc_new w _
  have hB : Below w.heap.size w (w.alloc (.stringIter ⟨x.toArray⟩ 0)) := (Below.refl _ w).alloc (Nat.le_refl _) _
  have h8' : decide ((8 : Int) < (x.length : Int)) = false := decide_eq_false (by omega)
  go_enter Tryz.func232, Tryz.ntmps232
  go_wp2_with fail
  refine (sShouldASCII_any _ _).mono ?_
  rintro e w2 ⟨rfl, rfl⟩
  rw [h8']
  clear h8'
  go_wp2_with fail
  go_loopw [9, 10] (fun _ _ wr => ∃ i : Nat, i ≤ x.length ∧ IterAt wr w2.heap.size ⟨x.toArray⟩ i ∧ NoBar x i ∧ Below w2.heap.size w2 wr) (fun _ _ wr => match wr.heap[w2.heap.size]? with | some (.stringIter _ p) => x.length + 1 - p | _ => 0)
  case atStart => exact ⟨0, by omega, hit, fun j b hj => by omega, hB⟩
  case round =>
    obtain ⟨i, hi, hit, hno, hB⟩ := hrel
    have HN := Lib.hid hno
    clear hno
    by_cases hlt : i < x.length
    case neg =>
      obtain rfl : i = x.length := by omega
      have hnx := fun ty => Lib.run_next_end_at (P := Tryz.prog) wr w2.heap.size ⟨x.toArray⟩ x.length ty hit (by rw [hsz]; exact hlt)
      have HE := Lib.hid (barred_none HN.out)
      go_wp2_with fail
      go_ret
      exact ⟨-1, rfl, by rw [HE.out]; rfl, hB⟩
    case pos =>
      obtain ⟨b, hb⟩ : ∃ b, x[i]? = some b := ⟨_, List.getElem?_eq_getElem hlt⟩
      obtain ⟨r, n, hdec, hn1, hn2, hcall⟩ := sIndexRune_dec (wr.iterAt w2.heap.size ⟨x.toArray⟩ (i + (Utf8.decode ⟨x.toArray⟩ i).2)) x i b hb
      have hnx := fun ty => Lib.run_next_any_at (P := Tryz.prog) wr w2.heap.size ⟨x.toArray⟩ i ty hit (by rw [hsz]; exact hlt)
      rw [hdec] at hnx hcall
      dsimp only at hnx hcall
      have hit2 : IterAt (wr.iterAt w2.heap.size ⟨x.toArray⟩ (i + n)) w2.heap.size ⟨x.toArray⟩ (i + n) := Lib.iterAt_heap wr w2.heap.size ⟨x.toArray⟩ i (i + n) hit
      have hB2 := Lib.below_iterAt hB (Nat.le_refl _) ⟨x.toArray⟩ (i + n)
      have hm : (match wr.heap[w2.heap.size]? with | some (.stringIter _ p) => x.length + 1 - p | _ => 0) = x.length + 1 - i := by rw [show wr.heap[w2.heap.size]? = some (.stringIter ⟨x.toArray⟩ i) from hit]
      have HM := Lib.hid hm
      have HB := Lib.hid hb
      clear hdec hm hb
      generalize wr.iterAt w2.heap.size ⟨x.toArray⟩ (i + n) = w3 at *
      rcases hcall with ⟨k, hbar, hk, hcall⟩ | ⟨hnone, hcall⟩
      · have HE := Lib.hid (barred_some HB.out hbar)
        clear hbar
        go_wp2_with fail
        refine hcall.mono ?_
        rintro e w4 ⟨rfl, h4⟩
        go_wp2_with fail
        go_ret
        exact ⟨i, rfl, by rw [HE.out]; exact decide_eq_true (by omega), hB2.trans (h4.mono hB2.size)⟩
      · have HNO := Lib.hid hnone
        clear hnone
        go_wp2_with fail
        refine hcall.mono ?_
        rintro e w4 ⟨rfl, h4⟩
        have hit4 := hit2.below h4
        have hm4 : (match w4.heap[w2.heap.size]? with | some (.stringIter _ p) => x.length + 1 - p | _ => 0) = x.length + 1 - (i + n) := by rw [show w4.heap[w2.heap.size]? = some (.stringIter ⟨x.toArray⟩ (i + n)) from hit4]
        have HM4 := Lib.hid hm4
        clear hm4
        go_wp2_with fail
        go_roundw
        case rel =>
          refine ⟨i + n, hn2, hit4, fun j c hj hc => ?_, hB2.trans (h4.mono hB2.size)⟩
          by_cases hji : j < i
          · exact HN.out j c hji hc
          · exact HNO.out j c (by omega) hj hc
        case measure => rw [HM.out, HM4.out]; omega
theorem any_iff : ∀ x : List UInt8, decide (0 ≤ Lib.indexAny x [47, 0]) = barred x := by
  intro x
  induction x with
  | nil => rfl
  | cons b l ih =>
    have hge := Lib.indexAny_ge [47, 0] l
    unfold Lib.indexAny barred
    rw [List.any_cons]
    by_cases h : ([47, 0] : List UInt8).contains b = true
    · rw [if_pos h]
      have : (b == 47 || b == 0) = true := by simpa [List.contains_cons] using h
      rw [this]
      rfl
    · rw [if_neg h]
      have : (b == 47 || b == 0) = false := by simpa [List.contains_cons] using h
      rw [this, Bool.false_or]
      have ih' : decide (0 ≤ Lib.indexAny l [47, 0]) = l.any fun b => b == 47 || b == 0 := ih
      rw [← ih']
      by_cases h1 : Lib.indexAny l [47, 0] = -1
      · simp [h1]
      · have : (Lib.indexAny l [47, 0] == -1) = false := by simpa using h1
        rw [this]
        simp only [Bool.false_eq_true, if_false, decide_eq_decide]
        omega
theorem infoASet : (Tryz.prog.info? 318).map (fun i => (i.zero, i.size)) = some (some (.agg (Array.replicate 256 (.bool false))), 256) := by kernel_rfl
theorem sIndexAny_any (w : World) (x : List UInt8) (hx : x.length ≤ 1000000) : Calls Tryz.prog 232 #[Str x, .string ⟨#[47, 0]⟩] w fun e W' => ∃ k : Int, e = .returned (.int .i64 k) ∧ decide (0 ≤ k) = barred x ∧ Below w.heap.size w W' := by
  by_cases h8 : x.length ≤ 8
  · exact sIndexAny_short w x h8
  · have hsz := str_sz x
    have hz : ∀ w, (zeroValue 318).run Tryz.prog w = .ok (.agg (Array.replicate 256 (.bool false))) w := fun w => by
      obtain ⟨i, hi, he⟩ := Option.map_eq_some_iff.1 infoASet
      injection he with e1 e2
      simp [zeroValue, typeInfo, hi, e1]
    have h := Tryz.strings_IndexAny_long hz ⟨x.toArray⟩ ⟨#[47, 0]⟩ w (by decide) (by rw [hsz]; omega) (by rw [hsz]; omega) (by decide) (fun j b hj => by
      have hj' : ([47, 0] : List UInt8)[j]? = some b := hj
      match j, hj' with
      | 0, hj' => cases hj'; decide
      | 1, hj' => cases hj'; decide)
    refine h.mono fun e W' ⟨h1, h2⟩ => ⟨_, h1, ?_, ?_⟩
    · have : (ByteArray.mk x.toArray).data.toList = x := by simp
      rw [this]
      exact any_iff x
    · subst h2
      exact ((Below.refl _ w).alloc (Nat.le_refl _) _).alloc (by simp) _
theorem sContainsAny_any (w : World) (x : List UInt8) (hx : x.length ≤ 1000000) : Calls Tryz.prog 227 #[Str x, .string ⟨#[47, 0]⟩] w fun e W' => e = .returned (.bool (barred x)) ∧ Below w.heap.size w W' := by
  go_enter Tryz.func227, Tryz.ntmps227
  go_wp2_with fail
  refine (sIndexAny_any w x hx).mono ?_
  rintro e w2 ⟨k, rfl, hk, h2⟩
  have HK := Lib.hid hk
  clear hk
  by_cases h0 : 0 ≤ k
  · have HB := Lib.hid (show barred x = true by rw [← HK.out]; exact decide_eq_true h0)
    go_wp2_with fail
    go_ret
    exact ⟨by rw [HB.out]; rfl, h2⟩
  · have HB := Lib.hid (show barred x = false by rw [← HK.out]; exact decide_eq_false h0)
    go_wp2_with fail
    go_ret
    exact ⟨by rw [HB.out]; show Ending.returned (.bool (decide (0 ≤ k))) = _; rw [decide_eq_false (by omega)], h2⟩
end Go.Proofs.YtljihmbmjpcfaaaGreat
