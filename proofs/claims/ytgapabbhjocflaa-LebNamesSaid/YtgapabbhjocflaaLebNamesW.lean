/- The walk of LebNames. -/
import Derived.Test.YtgapabbhjocflaaLebNamesA
namespace Go.Proofs.Ytgapabbhjocflaa
open Go.RowKit

set_option maxRecDepth 100000 in
set_option maxHeartbeats 4000000 in
theorem names_any (w : World) : Calls Try.prog 5 #[] w fun e W' => e = .returned (.bool true) ∧ Below w.heap.size w W' := by
  have hB := Below.refl w.heap.size w
  go_enter Try.func5, Try.ntmps5
  go_wp2_with fail
  refine (reads_err [100] (by decide) 99 12 rfl (by decide +kernel) _).mono ?_
  rintro e w1 ⟨rfl, h1⟩
  replace hB := hB.trans (h1.mono hB.size)
  clear h1
  go_wp2_with fail
  refine (reads_ok [99] (by decide) 99 99 [] (by decide) (by decide) (by decide +kernel) _).mono ?_
  rintro e w2 ⟨rfl, h2⟩
  replace hB := hB.trans (h2.mono hB.size)
  clear h2
  go_wp2_with fail
  refine (reads_err [128] (by decide) 18446744073709551615 10 rfl (by decide +kernel) _).mono ?_
  rintro e w3 ⟨rfl, h3⟩
  replace hB := hB.trans (h3.mono hB.size)
  clear h3
  go_wp2_with fail
  refine (reads_err [128, 0] (by decide) 18446744073709551615 11 rfl (by decide +kernel) _).mono ?_
  rintro e w4 ⟨rfl, h4⟩
  replace hB := hB.trans (h4.mono hB.size)
  clear h4
  go_wp2_with fail
  refine (reads_err [] (by decide) 18446744073709551615 10 rfl (by decide +kernel) _).mono ?_
  rintro e w5 ⟨rfl, h5⟩
  replace hB := hB.trans (h5.mono hB.size)
  clear h5
  go_wp2_with fail
  refine (reads_ok [0, 0] (by decide) 18446744073709551615 0 [0] (by decide) (by decide) (by decide +kernel) _).mono ?_
  rintro e w6 ⟨rfl, h6⟩
  replace hB := hB.trans (h6.mono hB.size)
  clear h6
  go_wp2_with fail
  refine (reads_ok [255, 255, 255, 255, 255, 255, 255, 255, 255, 1] (by decide) 18446744073709551615 18446744073709551615 [] (by decide) (by decide) (by decide +kernel) _).mono ?_
  rintro e w7 ⟨rfl, h7⟩
  replace hB := hB.trans (h7.mono hB.size)
  clear h7
  go_wp2_with fail
  refine (reads_err [255, 255, 255, 255, 255, 255, 255, 255, 255, 2] (by decide) 18446744073709551615 11 rfl (by decide +kernel) _).mono ?_
  rintro e w8 ⟨rfl, h8⟩
  replace hB := hB.trans (h8.mono hB.size)
  clear h8
  go_wp2_with fail
  refine (reads_err [255, 255, 255, 255, 255, 255, 255, 255, 255, 129] (by decide) 18446744073709551615 11 rfl (by decide +kernel) _).mono ?_
  rintro e w9 ⟨rfl, h9⟩
  replace hB := hB.trans (h9.mono hB.size)
  clear h9
  go_wp2_with fail
  refine (reads_err [255, 255, 255, 255, 255, 255, 255, 255, 255, 0] (by decide) 18446744073709551615 11 rfl (by decide +kernel) _).mono ?_
  rintro e w10 ⟨rfl, h10⟩
  replace hB := hB.trans (h10.mono hB.size)
  clear h10
  go_wp2_with fail
  refine (reads_err [255, 255, 255, 255, 255, 255, 255, 255, 255] (by decide) 18446744073709551615 10 rfl (by decide +kernel) _).mono ?_
  rintro e w11 ⟨rfl, h11⟩
  replace hB := hB.trans (h11.mono hB.size)
  clear h11
  go_wp2_with fail
  refine (reads_err [255, 255, 255, 255, 255, 255, 255, 255, 255, 255, 255, 255, 255, 255, 255, 255, 255, 255] (by decide) 18446744073709551615 11 rfl (by decide +kernel) _).mono ?_
  rintro e w12 ⟨rfl, h12⟩
  replace hB := hB.trans (h12.mono hB.size)
  clear h12
  go_wp2_with fail
  refine (number_at 18446744073709551615 (by decide) [255, 255, 255, 255, 255, 255, 255, 255, 255, 1] (by decide +kernel) 18446744073709551615 rfl _).mono ?_
  rintro e w13 ⟨rfl, h13⟩
  replace hB := hB.trans (h13.mono hB.size)
  clear h13
  go_wp2_with fail
  have hnine : ([255, 255, 255, 255, 255, 255, 255, 255, 255, 1] == (({ data := #[255, 255, 255, 255, 255, 255, 255, 255, 255] } : ByteArray) ++ { data := #[1] }).toList) = true := by
    rw [str_list]
    decide
  rw [hnine]
  clear hnine
  go_loopw [3, 4] (fun sz i wr => ∃ k : Nat, k ≤ 64 ∧ i = .int .i64 k ∧ sz = .bool true ∧ Below w.heap.size w wr) (fun _ i _ => 64 - (intOf i).toNat)
  case atStart => exact ⟨0, Nat.zero_le _, rfl, rfl, hB⟩
  case round =>
    clear hB
    obtain ⟨k, hk, rfl, rfl, hB⟩ := hrel
    by_cases hlt : k < 64
    · have hd : decide ((k : Int) < 64) = true := by simp; omega
      obtain ⟨N, hw, h1, h2, h3, h4⟩ := sizes_at k hlt
      have hsz : (⟨(lebB N).toArray⟩ : ByteArray).size = (lebB N).length := by simp [ByteArray.size]
      go_wp2_with fail
      refine (Size_any N h1 _).mono ?_
      rintro e w1 ⟨rfl, hb1⟩
      replace hB := hB.trans (hb1.mono hB.size)
      clear hb1
      rw [h3]
      go_wp2_with fail
      refine (Size_at (N - 1) (by omega) _ (by omega) _).mono ?_
      rintro e w2 ⟨rfl, hb2⟩
      replace hB := hB.trans (hb2.mono hB.size)
      clear hb2
      rw [h4]
      go_wp2_with fail
      all_goals
        refine (number_any N h1 _).mono ?_
        rintro e w3 ⟨rfl, hb3⟩
        replace hB := hB.trans (hb3.mono hB.size)
        clear hb3
        go_wp2_with fail
        go_roundw
        case rel => first | exact ⟨k + 1, by omega, by go_num, rfl, hB⟩ | exact ⟨1, by omega, by go_num, rfl, hB⟩
        case measure => simp [intOf]; omega
    · obtain rfl : k = 64 := by omega
      obtain ⟨w1, hcv, hbs, hb1⟩ := const_bytes wr [2, 97, 98, 99] 4 rfl #[.int .u8 2, .int .u8 97, .int .u8 98, .int .u8 99] rfl wr.heap.size rfl
      replace hB := hB.trans (hb1.mono hB.size)
      clear hb1 hlt hk
      go_wp2_with fail
      clear hcv
      refine (From_any w1 _ [2, 97, 98, 99] hbs (by decide)).mono ?_
      rintro e w2 ⟨gs, v2, rfl, hat2, hgs, _, hb2⟩
      have hgw : w.heap.size ≤ gs := Nat.le_trans hB.size hgs
      replace hB := hB.trans (hb2.mono hB.size)
      clear hb2 hbs hgs
      go_wp2_with fail
      have hc3 := SrcBytes_any w2 gs v2 [2, 97, 98, 99] hat2 (by decide) 9 (by decide)
      rw [show back [2, 97, 98, 99] (bytesRes 9 [2, 97, 98, 99]) = (0, [97, 98], [99]) by decide +kernel] at hc3
      refine hc3.mono ?_
      clear hc3
      rintro e w3 ⟨r3, rfl, hrow3, v3, hat3, hk3, _⟩
      have hr3 : ∀ j, r3.ownBlock = some j → j ≠ gs := fun j hj e => by have := (hrow3.lt j hj).1; have := hat2.box.lt; omega
      replace hB := hB.trans (hk3.below (B := w.heap.size) (fun j _ t => by omega) hB.size)
      replace hrow3 := owns_base hrow3 (Nat.zero_le _)
      obtain ⟨A3, n3, c3, rfl⟩ := owns_slice hrow3
      dsimp only at hat3 hrow3 ⊢
      clear hat2 hk3
      go_wp2_with fail
      refine (SrcLeft_any w3 gs v3 [99] hat3).mono ?_
      rintro e w3' ⟨rfl, rfl⟩
      go_wp2_with fail
      refine (SrcEnd_any w3 gs v3 [99] hat3).mono ?_
      rintro e w3' ⟨rfl, rfl⟩
      rw [if_neg (by decide)]
      go_wp2_with fail
      have hc4 := SrcRaw_any w3 gs v3 [99] hat3 (by decide) 2
      rw [show back [99] (rawRes 2 [99]) = (10, [], [99]) by decide +kernel] at hc4
      refine hc4.mono ?_
      clear hc4
      rintro e w4 ⟨r4, rfl, _, v4, hat4, hk4, _⟩
      replace hB := hB.trans (hk4.below (B := w.heap.size) (fun j _ t => by omega) hB.size)
      replace hrow3 := hk4.owns hrow3 hr3
      dsimp only at hat4 ⊢
      clear hat3 hk4
      go_wp2_with fail
      have hc5 := SrcRaw_any w4 gs v4 [99] hat4 (by decide) (-1)
      rw [show back [99] (rawRes (-1) [99]) = (2, [], [99]) by decide +kernel] at hc5
      refine hc5.mono ?_
      clear hc5
      rintro e w5 ⟨r5, rfl, _, v5, hat5, hk5, _⟩
      replace hB := hB.trans (hk5.below (B := w.heap.size) (fun j _ t => by omega) hB.size)
      replace hrow3 := hk5.owns hrow3 hr3
      dsimp only at hat5 ⊢
      clear hat4 hk5
      go_wp2_with fail
      have hc6 := SrcRaw_any w5 gs v5 [99] hat5 (by decide) 1
      rw [show back [99] (rawRes 1 [99]) = (0, [99], []) by decide +kernel] at hc6
      refine hc6.mono ?_
      clear hc6
      rintro e w6 ⟨r6, rfl, hrow6, v6, hat6, hk6, _⟩
      replace hB := hB.trans (hk6.below (B := w.heap.size) (fun j _ t => by omega) hB.size)
      replace hrow3 := hk6.owns hrow3 hr3
      obtain ⟨A6, n6, c6, rfl⟩ := owns_slice hrow6
      have hcv3 := run_string_bs (P := Try.prog) w6 24 9 5 Try.underlying24 Try.underlying5 Try.underlying9 (Bs.of_owns hrow3)
      have hcv6 := run_string_bs (P := Try.prog) w6 24 9 5 Try.underlying24 Try.underlying5 Try.underlying9 (Bs.of_owns hrow6)
      dsimp only at hat6 hcv3 hcv6 ⊢
      clear hat5 hk6 hrow3 hrow6 hr3
      go_wp2_with fail
      refine (SrcEnd_any w6 gs v6 [] hat6).mono ?_
      rintro e w6' ⟨rfl, rfl⟩
      rw [if_pos rfl]
      clear hcv3 hcv6 hat6
      obtain ⟨w7, hcv, hbs, hb7⟩ := const_bytes w6 [3, 97, 98] 3 rfl #[.int .u8 3, .int .u8 97, .int .u8 98] rfl w6.heap.size rfl
      replace hB := hB.trans (hb7.mono hB.size)
      clear hb7 hgw
      go_wp2_with fail
      clear hcv
      refine (From_any w7 _ [3, 97, 98] hbs (by decide)).mono ?_
      rintro e w8 ⟨gt, v8, rfl, hat8, hgt, _, hb8⟩
      have hgw : w.heap.size ≤ gt := Nat.le_trans hB.size hgt
      replace hB := hB.trans (hb8.mono hB.size)
      clear hb8 hbs hgt
      go_wp2_with fail
      have hc9 := SrcBytes_any w8 gt v8 [3, 97, 98] hat8 (by decide) 9 (by decide)
      rw [show back [3, 97, 98] (bytesRes 9 [3, 97, 98]) = (10, [], [3, 97, 98]) by decide +kernel] at hc9
      refine hc9.mono ?_
      clear hc9
      rintro e w9 ⟨r9, rfl, _, v9, hat9, hk9, _⟩
      replace hB := hB.trans (hk9.below (B := w.heap.size) (fun j _ t => by omega) hB.size)
      dsimp only at hat9 ⊢
      clear hat8 hk9
      go_wp2_with fail
      have hc10 := SrcBytes_any w9 gt v9 [3, 97, 98] hat9 (by decide) 2 (by decide)
      rw [show back [3, 97, 98] (bytesRes 2 [3, 97, 98]) = (12, [], [3, 97, 98]) by decide +kernel] at hc10
      refine hc10.mono ?_
      clear hc10
      rintro e w10 ⟨r10, rfl, _, v10, hat10, hk10, _⟩
      replace hB := hB.trans (hk10.below (B := w.heap.size) (fun j _ t => by omega) hB.size)
      dsimp only at hat10 ⊢
      clear hat9 hk10
      go_wp2_with fail
      have hc11 := SrcBytes_any w10 gt v10 [3, 97, 98] hat10 (by decide) (-1) (by decide)
      rw [show back [3, 97, 98] (bytesRes (-1) [3, 97, 98]) = (12, [], [3, 97, 98]) by decide +kernel] at hc11
      refine hc11.mono ?_
      clear hc11
      rintro e w11 ⟨r11, rfl, _, v11, hat11, hk11, _⟩
      replace hB := hB.trans (hk11.below (B := w.heap.size) (fun j _ t => by omega) hB.size)
      dsimp only at hat11 ⊢
      clear hat10 hk11
      go_wp2_with fail
      refine (SrcLeft_any w11 gt v11 [3, 97, 98] hat11).mono ?_
      rintro e w11' ⟨rfl, rfl⟩
      clear hat11 hgw
      have hatz : SourceAt (w11.alloc (.cells #[.slice none 0 0] 58)) w11.heap.size (.slice none 0 0) [] := ⟨Boxed.new w11 58 (.slice none 0 0), Bs.nil _, fun j hj => by simp [Value.ownBlock] at hj⟩
      have hgz : w.heap.size ≤ w11.heap.size := hB.size
      replace hB : Below w.heap.size w (w11.alloc (.cells #[.slice none 0 0] 58)) := hB.alloc hB.size _
      go_wp2_with fail
      refine (SrcNumber_none _ _).mono ?_
      rintro e w12 ⟨rfl, hb12⟩
      replace hB := hB.trans (hb12.mono hB.size)
      replace hatz := hatz.kept (T := fun _ => False) (Kept.of_below hb12 (Nat.le_refl _) _) (fun h => h) (fun _ _ h => h)
      clear hb12
      go_wp2_with fail
      refine (SrcBytes_none _ _).mono ?_
      rintro e w13 ⟨rfl, hb13⟩
      replace hB := hB.trans (hb13.mono hB.size)
      replace hatz := hatz.kept (T := fun _ => False) (Kept.of_below hb13 (Nat.le_refl _) _) (fun h => h) (fun _ _ h => h)
      clear hb13
      go_wp2_with fail
      refine (SrcRaw_none _ _).mono ?_
      rintro e w14 ⟨rfl, hb14⟩
      replace hB := hB.trans (hb14.mono hB.size)
      replace hatz := hatz.kept (T := fun _ => False) (Kept.of_below hb14 (Nat.le_refl _) _) (fun h => h) (fun _ _ h => h)
      clear hb14
      go_wp2_with fail
      have hc15 := SrcNumber_any w14 w11.heap.size (.slice none 0 0) [] hatz (by decide) 1
      rw [show back [] (numRes 1 []) = (10, 0, []) by decide +kernel] at hc15
      refine hc15.mono ?_
      clear hc15
      rintro e w15 ⟨rfl, v15, hat15, hk15, _⟩
      replace hB := hB.trans (hk15.below (B := w.heap.size) (fun j _ t => by omega) hB.size)
      dsimp only at hat15 ⊢
      clear hatz hk15
      have hatz := hat15
      clear hat15
      go_wp2_with fail
      refine (alive_any _).mono ?_
      rintro e w16 ⟨rfl, hb16⟩
      replace hB := hB.trans (hb16.mono hB.size)
      replace hatz := hatz.kept (T := fun _ => False) (Kept.of_below hb16 (Nat.le_refl _) _) (fun h => h) (fun _ _ h => h)
      clear hb16
      go_wp2_with fail
      refine (SinkNumber_none _ _).mono ?_
      rintro e w17 ⟨rfl, hb17⟩
      replace hB := hB.trans (hb17.mono hB.size)
      replace hatz := hatz.kept (T := fun _ => False) (Kept.of_below hb17 (Nat.le_refl _) _) (fun h => h) (fun _ _ h => h)
      clear hb17
      go_wp2_with fail
      refine (SinkBytes_none _ [] _ (Bs.nil _) (by decide)).mono ?_
      rintro e w18 ⟨rfl, hb18⟩
      replace hB := hB.trans (hb18.mono hB.size)
      replace hatz := hatz.kept (T := fun _ => False) (Kept.of_below hb18 (Nat.le_refl _) _) (fun h => h) (fun _ _ h => h)
      clear hb18
      go_wp2_with fail
      refine (SinkAll_none _).mono ?_
      rintro e w' ⟨rfl, rfl⟩
      go_wp2_with fail
      refine (SrcEnd_none _).mono ?_
      rintro e w' ⟨rfl, rfl⟩
      go_wp2_with fail
      refine (SrcEnd_any w18 w11.heap.size v15 [] hatz).mono ?_
      rintro e w' ⟨rfl, rfl⟩
      rw [if_pos rfl]
      go_wp2_with fail
      refine (SrcLeft_none _).mono ?_
      rintro e w' ⟨rfl, rfl⟩
      go_wp2
      go_ret
      exact ⟨rfl, hB⟩
end Go.Proofs.Ytgapabbhjocflaa
