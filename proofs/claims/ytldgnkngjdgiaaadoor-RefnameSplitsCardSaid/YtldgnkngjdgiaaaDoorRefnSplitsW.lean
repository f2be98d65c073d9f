/- The walk of RefnameSplits. -/
import Derived.Test.YtldgnkngjdgiaaaDoorRefnAlive
import Derived.Test.YtldgnkngjdgiaaaDoorRefnPSplit
import Derived.Test.YtldgnkngjdgiaaaDoorRefnLaws
namespace Go.Proofs.YtldgnkngjdgiaaaDoor
open Go.RowKit Go.Great

theorem splitR_32 (s : List UInt8) : (splitR s).2.1.length = 32 := by
  unfold splitR
  cases tilde s with
  | none => dsimp only; split <;> exact zeroID_length
  | some j =>
    dsimp only
    split
    · exact parseR_len4 _
    · exact zeroID_length

set_option maxRecDepth 100000 in
set_option maxHeartbeats 2000000 in
theorem splits_arg (w : World) (s : List UInt8) (hs : s.length ≤ 9223372036854775807) (hM : Mx w) :
    Calls Tryd.prog 7 #[Str s] w fun e W' => e = .returned (.bool true) ∧ Below w.heap.size w W' := by
  have hsz := str_size s
  have HM := Lib.hid hM
  have c0 := alive4_any w hM
  clear hM
  by_cases h1 : 300 < s.length
  · have g1 : (300 : Int) < (s.length : Int) := by omega
    go_enter Tryd.func7, Tryd.ntmps7
    go_wp2_with fail
    refine c0.mono ?_
    rintro e w1 ⟨rfl, k1⟩
    go_wp2_with fail
    go_ret
    exact ⟨rfl, k1⟩
  have g1 : ¬ (300 : Int) < (s.length : Int) := by omega
  have c1 := fun W (h : Mx W) => pSplit_any W s (by omega) h
  have c2 := fun W (h : Mx W) => pBreaks_any W s (by omega) h
  have h32 := splitR_32 s
  have hag := @split_again s
  have hno := @split_none s
  have hrl : (splitR s).1.length ≤ 1000 := by
    rw [splitR_cut]
    have := cut_len s
    split
    · split
      · split
        · dsimp only; omega
        · simp
      · dsimp only; omega
    · simp
  generalize splitR s = S at *
  obtain ⟨S1, S2, S3, S4⟩ := S
  dsimp only at c1 h32 hag hno hrl
  have HAG := Lib.hid hag
  have HNO := Lib.hid hno
  clear h1 hag hno
  go_enter Tryd.func7, Tryd.ntmps7
  go_wp2_with fail
  refine c0.mono ?_
  rintro e w1 ⟨rfl, k1⟩
  clear c0
  go_wp2_with fail
  refine (c1 _ (HM.out.below k1)).mono ?_
  rintro e w2 ⟨rfl, k2⟩
  have hB2 := k1.on k2
  have n2 := BoxI.new w2 zeroID_length
  have hBa : Below w.heap.size w (w2.alloc (.cells (zeroID.map B8).toArray 30)) := hB2.alloc hB2.size _
  clear c1 k1 k2
  by_cases h4 : S4 = 0
  case neg =>
    have hne : ¬ (S4 : Int) = 0 := by omega
    have hbn := HNO.out h4
    have hbn' : ¬ ((breaksB s : Nat) : Int) = 0 := by omega
    clear HNO HAG h4 hbn
    generalize breaksB s = bs at *
    go_wp2_with (first
      | (refine wpList_alloc_id rfl rfl ?_)
      | (refine wpList_store_id rfl (.tmp 5) (.tmp 22) rfl rfl n2 h32 rfl ?_; intro w3 y3 k3))
    have hB3 := hBa.trans (k3.below (B := w.heap.size) (fun j hj e => by have := hB2.size; omega) hBa.size)
    refine (c2 _ (HM.out.below hB3)).mono ?_
    rintro e w4 ⟨rfl, k4⟩
    go_wp2_with fail
    go_ret
    exact ⟨by simp; omega, hB3.on k4⟩
  case pos =>
  subst h4
  obtain ⟨hb0, _, hsame⟩ := HAG.out rfl
  have c3 := fun W (h : Mx W) => pConflict_any W S1 S2 (by omega) h32 h
  have c4 := fun W (h : Mx W) => pCheck_any W S1 (by omega) h
  rw [show conflictR S1 S2 = (S1 ++ 126 :: textB S2, 0) by rw [conflictR, if_pos hb0]] at c3
  rw [checkN_zero.2 hb0] at c4
  dsimp only at c3
  clear HNO HAG c2 hb0
  have t1 := str_list s
  have t2 := str_list S1
  cases S3 with
  | true =>
    rw [if_pos rfl] at hsame
    rw [hsame] at c3
    clear hsame
    go_wp2_with (first
      | (refine wpList_alloc_id rfl rfl ?_)
      | (refine wpList_store_id rfl (.tmp 5) (.tmp 22) rfl rfl n2 h32 rfl ?_; intro w3 y3 k3)
      | (refine wpList_load_id rfl (.tmp 5) rfl rfl h32 y3.at ?_))
    have hB3 := hBa.trans (k3.below (B := w.heap.size) (fun j hj e => by have := hB2.size; omega) hBa.size)
    clear n2 hBa k3 y3
    refine (c3 _ (HM.out.below hB3)).mono ?_
    rintro e w4 ⟨rfl, k4⟩
    have hB4 := hB3.on k4
    clear c3 k4 hB3
    go_wp2_with fail
    refine (c4 _ (HM.out.below hB4)).mono ?_
    rintro e w5 ⟨rfl, k5⟩
    go_wp2_with fail
    go_ret
    exact ⟨by simp, hB4.on k5⟩
  | false =>
    rw [if_neg (by decide)] at hsame
    subst hsame
    clear c3
    go_wp2_with (first
      | (refine wpList_alloc_id rfl rfl ?_)
      | (refine wpList_store_id rfl (.tmp 5) (.tmp 22) rfl rfl n2 h32 rfl ?_; intro w3 y3 k3))
    have hB3 := hBa.trans (k3.below (B := w.heap.size) (fun j hj e => by have := hB2.size; omega) hBa.size)
    refine (c4 _ (HM.out.below hB3)).mono ?_
    rintro e w5 ⟨rfl, k5⟩
    go_wp2_with fail
    go_ret
    exact ⟨by simp, hB3.on k5⟩
end Go.Proofs.YtldgnkngjdgiaaaDoor
