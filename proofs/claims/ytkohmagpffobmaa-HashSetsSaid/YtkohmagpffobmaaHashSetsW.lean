/- The walk of HashSets. -/
import Derived.Test.YtkohmagpffobmaaHashSet
import Derived.Test.YtkohmagpffobmaaHashHas
namespace Go.Proofs.Ytkohmagpffobmaa
open Go.RowKit Go.Great

theorem RowI.oneMade (w : World) {x : List UInt8} (hx : x.length = 32) : RowI (w.alloc (.cells (x.map B8).toArray 23)) w.heap.size (.slice (some ⟨w.heap.size, 0, none⟩) 1 1) [x] := by
  refine ⟨by simpa using hx, ⟨by simp [flatI, hx], .inr ⟨w.heap.size, 1, (x.map B8).toArray, rfl, Nat.le_refl _, heap_alloc_new w _, Nat.le_refl _, by simp [maxLen], by simp [hx], ?_⟩⟩⟩
  rw [List.take_of_length_le (by simp [hx])]
  simp [flatI]
theorem setI_len (l : List (List UInt8)) : (setI l).length ≤ l.length := by
  have := setI_length l l.length (Nat.le_refl _)
  rwa [List.take_length] at this

set_option maxRecDepth 100000 in
set_option maxHeartbeats 4000000 in
theorem sets_some (w : World) (A B : Option Addr) (c d : Nat) (l m : List (List UInt8)) (hl : Is w (.slice A l.length c) l) (hm : Is w (.slice B m.length d) m) (id : List UInt8) (hid : id.length = 32) (hll : l.length ≤ 40) (hml : m.length ≤ 40) :
    Calls Try.prog 4 #[.slice A l.length c, .slice B m.length d, IdV id] w fun e W' => e = .returned (.bool true) ∧ Below w.heap.size w W' := by
  have hg1 : ¬ (40 : Int) < (l.length : Int) := by omega
  have hg2 : ¬ (40 : Int) < (m.length : Int) := by omega
  have hlA := hl.1
  have hmA := hm.1
  have HL := Lib.hid (setI_spec l hlA)
  have HM := Lib.hid (setI_spec m hmA)
  have hl6 : (setI l).length ≤ 1000000 := by have := setI_len l; omega
  have hl7 : (setI l).length ≤ 1000 := by have := setI_len l; omega
  have hm7 : (setI m).length ≤ 1000 := by have := setI_len m; omega
  have HSS := Lib.hid (And.intro HL.out.1 HM.out.1)
  have b5 := IdAt.box w id 23
  have hB1 : Below w.heap.size w (w.alloc (.cells (id.map B8).toArray 23)) := (Below.refl _ w).alloc (Nat.le_refl _) _
  have hrow0 := RowI.made (w.alloc (.cells (id.map B8).toArray 23))
  have hB2 := hB1.alloc hB1.size (.cells #[] 23)
  rw [World.size_alloc] at hrow0
  have hl2 := hl.below hB2
  go_enter Try.func4, Try.ntmps4
  go_wp2_with (at_builtin; refine wpList_append_is rfl (.tmp 22) (.tmp 23) rfl _ _ [] rfl hrow0 _ l rfl hl2 (by simp; omega) (by simp) ?_; intro v2 w2 hown2 hgr2 hv2)
  have hB3 : Below w.heap.size w w2 := hB2.trans ((Kept.of_grown hgr2).below (fun j _ e => by have := (hrow0.own.lt j e).1; omega) hB2.size)
  have bw2 : Below (w.alloc (.cells (id.map B8).toArray 23)).heap.size (w.alloc (.cells (id.map B8).toArray 23)) w2 := ((Below.refl _ _).alloc (Nat.le_refl _) _).trans ((Kept.of_grown hgr2).below (fun j _ e => by have := (hrow0.own.lt j e).1; simp; omega) (by simp))
  have b5' := b5.below bw2
  have ho2 := hown2.is
  rw [List.nil_append] at ho2
  have hl3 := hl.below hB3
  have hm3 := hm.below hB3
  clear hrow0 hl2 hown2 hgr2 hv2 hB1 hB2 b5 bw2 hlA hmA hl hm
  refine (hSet_any w2 v2 l ho2 (by omega)).mono ?_
  rintro e w3 ⟨va, rfl, ha, q3⟩
  go_wp2_with fail
  refine (hSet_any w3 _ m (hm3.below q3) (by omega)).mono ?_
  rintro e w4 ⟨vb, rfl, hb, q4⟩
  have q24 := q3.trans (q4.mono q3.size)
  go_wp2_with fail
  refine (rSet_any w4 _ l (hl3.below q24) (by omega)).mono ?_
  rintro e w5 ⟨vx, rfl, hx, q5⟩
  have q25 := q24.trans (q5.mono q24.size)
  go_wp2_with fail
  refine (rSet_any w5 _ m (hm3.below q25) (by omega)).mono ?_
  rintro e w6 ⟨vy, rfl, hy, q6⟩
  have q26 := q25.trans (q6.mono q25.size)
  have hx := hx.is
  have hy := hy.is
  have ha := ((ha.below q4).below q5).below q6
  have hb := (hb.below q5).below q6
  have hx := hx.below q6
  have ho2 := ho2.below q26
  have hl3 := hl3.below q26
  have hm3 := hm3.below q26
  have b5' := b5'.below q26
  have hB3 := hB3.trans (q26.mono hB3.size)
  clear q3 q4 q5 q6 q24 q25 q26
  go_wp2_with fail
  refine (rSame_any w6 va vx _ _ ha hx hl6 hl6).mono ?_
  rintro e w7 ⟨rfl, q7⟩
  rw [decide_eq_true rfl]
  have ha := ha.below q7
  have hb := hb.below q7
  have hx := hx.below q7
  have hy := hy.below q7
  have ho2 := ho2.below q7
  have hl3 := hl3.below q7
  have hm3 := hm3.below q7
  have b5' := b5'.below q7
  have hB3 := hB3.trans (q7.mono hB3.size)
  clear q7
  go_wp2_with fail
  refine (rSame_any w7 vb vy _ _ hb hy (by omega) (by omega)).mono ?_
  rintro e w8 ⟨rfl, q7⟩
  rw [decide_eq_true rfl]
  have ha := ha.below q7
  have hb := hb.below q7
  have hx := hx.below q7
  have hy := hy.below q7
  have ho2 := ho2.below q7
  have hl3 := hl3.below q7
  have hm3 := hm3.below q7
  have b5' := b5'.below q7
  have hB3 := hB3.trans (q7.mono hB3.size)
  clear q7
  go_wp2_with fail
  refine (rSame_any w8 v2 _ _ _ ho2 hl3 (by omega) (by omega)).mono ?_
  rintro e w9 ⟨rfl, q7⟩
  rw [decide_eq_true rfl]
  have ha := ha.below q7
  have hb := hb.below q7
  have hx := hx.below q7
  have hy := hy.below q7
  have hm3 := hm3.below q7
  have b5' := b5'.below q7
  have hB3 := hB3.trans (q7.mono hB3.size)
  clear q7 ho2 hl3
  have hone := RowI.oneMade w9 hid
  have B9 : Below w9.heap.size w9 (w9.alloc (.cells (id.map B8).toArray 23)) := (Below.refl _ w9).alloc (Nat.le_refl _) _
  have hm4 := hm3.below B9
  go_wp2_with (first
    | (refine wpList_load_id rfl (.tmp 5) rfl rfl hid b5' ?_)
    | (refine wpList_one_id rfl (.tmp 49) rfl hid rfl ?_)
    | (at_builtin; refine wpList_append_is rfl (.tmp 50) (.tmp 51) rfl _ _ [id] rfl hone _ m rfl hm4 (by simp; omega) (by simp) ?_; intro vq wq hownq hgrq hvq; generalize hZ : [id] ++ m = Z at hownq; have hZl : Z.length ≤ 41 := (by rw [← hZ]; simp; omega); clear hZ; obtain ⟨Aq, cq, rfl, hcq⟩ := hownq.slice))
  have Bq : Below w9.heap.size w9 wq := B9.trans ((Kept.of_grown hgrq).below (fun j _ e => (hone.own.lt j e).1) B9.size)
  have hq := hownq.is
  have ha1 := ha.below Bq
  have hb1 := hb.below Bq
  have hx1 := hx.below Bq
  have hy1 := hy.below Bq
  have hBq := hB3.trans (Bq.mono hB3.size)
  clear hownq hgrq hvq hone hm4 hm3 b5' B9 ha hb hx hy Bq hcq
  go_loopw [54] (fun i wr => ∃ k : Nat, k ≤ Z.length ∧ i = .int .i64 k ∧ Below wq.heap.size wq wr) (fun i _ => Z.length - (intOf i).toNat)
  case atStart => exact ⟨0, by omega, rfl, Below.refl _ _⟩
  case round =>
    obtain ⟨k, hk, rfl, hB⟩ := hrel
    have hBw := hBq.trans (hB.mono hBq.size)
    by_cases hlt : k < Z.length
    case pos =>
      obtain ⟨x, hxk⟩ : ∃ x, Z[k]? = some x := ⟨_, List.getElem?_eq_getElem hlt⟩
      obtain ⟨hx32, b, off, rfl, hat⟩ := hq.at hxk
      have hat1 := hat.below hB
      have n0 := BoxI.new wr zeroID_length
      have bk : (k : Int) < (Z.length : Int) := by omega
      clear hxk hat
      go_wp2_with (first
        | (refine wpList_load_id rfl (.tmp 56) rfl rfl hx32 hat1 ?_)
        | (refine wpList_alloc_id rfl rfl ?_)
        | (refine wpList_store_id rfl (.tmp 13) (.tmp 57) rfl rfl n0 hx32 rfl ?_; intro w1 y1 k1))
      have B1 : Below wr.heap.size wr w1 := ((Below.refl _ wr).alloc (Nat.le_refl _) _).trans (k1.below (fun j _ e => by omega) (by simp))
      have hB4 := hB.trans (B1.mono hB.size)
      have hx13 := y1.at
      have ha1 := ha1.below hB4
      have hx1 := hx1.below hB4
      generalize wr.heap.size = g13 at *
      clear n0 y1 k1 hat1
      refine wp_vals_put [va, (IdV x), (.bool (decide (x ∈ setI l))), vx, (IdV x), (.bool (decide (x ∈ setI l))), (.bool false)] (by kernel_rfl) (by kernel_rfl) (by kernel_rfl) rfl ?_ ?_
      case refine_1 =>
        go_light
        intro i o ho a W hdf hBW hF hD
        match i, ho with
        | 0, ho =>
          cases ho
          have r8 : a.tmps[8]?.getD undef = va := hF 8 (by kernel_rfl)
          unfold Oper.wp
          go_simp
          exact ⟨_, rfl, rfl, Below.refl _ _⟩
        | 1, ho =>
          cases ho
          have r13 : a.tmps[13]?.getD undef = (.pointer (some ⟨g13, 0, none⟩)) := hF 13 (by kernel_rfl)
          exact wp_load_idV rfl (eval_tmp r13) hx32 (hx13.below hBW) ⟨_, rfl, rfl, Below.refl _ _⟩
        | 2, ho =>
          cases ho
          have r58 : a.tmps[58]?.getD undef = va := hD 0 (by kernel_rfl)
          have r59 : a.tmps[59]?.getD undef = (IdV x) := hD 1 (by kernel_rfl)
          unfold Oper.wp
          go_simp
          refine (hHas_any W va (setI l) (ha1.below hBW) hl6 HSS.out.1 x hx32).mono ?_
          rintro e W2 ⟨rfl, hb2⟩
          exact ⟨_, rfl, rfl, hb2⟩
        | 3, ho =>
          cases ho
          have r10 : a.tmps[10]?.getD undef = vx := hF 10 (by kernel_rfl)
          unfold Oper.wp
          go_simp
          exact ⟨_, rfl, rfl, Below.refl _ _⟩
        | 4, ho =>
          cases ho
          have r13 : a.tmps[13]?.getD undef = (.pointer (some ⟨g13, 0, none⟩)) := hF 13 (by kernel_rfl)
          exact wp_load_idV rfl (eval_tmp r13) hx32 (hx13.below hBW) ⟨_, rfl, rfl, Below.refl _ _⟩
        | 5, ho =>
          cases ho
          have r61 : a.tmps[61]?.getD undef = vx := hD 3 (by kernel_rfl)
          have r62 : a.tmps[62]?.getD undef = (IdV x) := hD 4 (by kernel_rfl)
          unfold Oper.wp
          go_simp
          refine (rHas_any W vx (setI l) (hx1.below hBW) hl6 x hx32).mono ?_
          rintro e W2 ⟨rfl, hb2⟩
          exact ⟨_, rfl, rfl, hb2⟩
        | 6, ho =>
          cases ho
          have r60 : a.tmps[60]?.getD undef = (.bool (decide (x ∈ setI l))) := hD 2 (by kernel_rfl)
          have r63 : a.tmps[63]?.getD undef = (.bool (decide (x ∈ setI l))) := hD 5 (by kernel_rfl)
          unfold Oper.wp
          go_simp
          exact ⟨_, rfl, by simp, Below.refl _ _⟩
        | i + 7, ho => exact absurd (Array.getElem?_eq_some_iff.1 ho).1 (by simp)
      case refine_2 =>
        intro a' ha' W hBW
        simp only [putsL, Act.put, List.getElem_toArray, List.getElem_cons_succ, List.getElem_cons_zero, List.setIfInBounds_toArray, List.set_cons_succ, List.set_cons_zero] at ha'
        subst ha'
        have hB5 := hB4.trans (hBW.mono hB4.size)
        clear hx13 ha1 hx1
        go_wp2_with fail
        go_roundw
        case rel => exact ⟨k + 1, by omega, by go_num, hB5⟩
        case measure => simp [intOf]; omega
    case neg =>
      have ha2 := ha1.below hB
      have hb2 := hb1.below hB
      have hx2 := hx1.below hB
      have hy2 := hy1.below hB
      have bk : ¬ (k : Int) < (Z.length : Int) := by omega
      clear ha1 hb1 hx1 hy1
      go_wp2_with fail
      refine (hLess_any wr va vb _ _ ha2 hb2 hl7 hm7 HSS.out.2).mono ?_
      rintro e w1 ⟨v1, rfl, h1, q1⟩
      have hB1 := hBw.trans (q1.mono hBw.size)
      go_wp2_with fail
      refine (rLess_any w1 vx vy _ _ (hx2.below q1) (hy2.below q1) hl7 hm7).mono ?_
      rintro e w2 ⟨v2, rfl, h2, q2⟩
      have hB2 := hB1.trans (q2.mono hB1.size)
      have hle := lessI_le (setI l) (setI m)
      go_wp2_with fail
      refine (rSame_any w2 v1 v2 _ _ (h1.is.below q2) h2.is (by omega) (by omega)).mono ?_
      rintro e w3 ⟨rfl, q3⟩
      rw [decide_eq_true rfl]
      have hB3 := hB2.trans (q3.mono hB2.size)
      have ha3 := ((ha2.below q1).below q2).below q3
      have hx3 := ((hx2.below q1).below q2).below q3
      clear h1 h2 ha2 hb2 hx2 hy2 q1 q2 q3
      go_wp2_with fail
      refine (rSame_any w3 va vx _ _ ha3 hx3 hl6 hl6).mono ?_
      rintro e w4 ⟨rfl, q4⟩
      rw [decide_eq_true rfl]
      clear ha3 hx3
      go_wp2
      go_ret
      exact ⟨rfl, hB3.trans (q4.mono hB3.size)⟩

set_option maxRecDepth 100000 in
set_option maxHeartbeats 400000 in
theorem sets_great (w : World) (A B : Option Addr) (n k c d : Nat) (id : List UInt8) (hn : n ≤ 9223372036854775807) (hk : k ≤ 9223372036854775807) (h : 40 < n ∨ 40 < k) :
    Calls Try.prog 4 #[.slice A n c, .slice B k d, IdV id] w fun e W' => e = .returned (.bool true) ∧ Below w.heap.size w W' := by
  have hB1 : Below w.heap.size w (w.alloc (.cells (id.map B8).toArray 23)) := (Below.refl _ w).alloc (Nat.le_refl _) _
  go_enter Try.func4, Try.ntmps4
  by_cases h1 : 40 < n
  · have h1' : (40 : Int) < (n : Int) := by omega
    clear h
    go_wp2
    go_ret
    exact ⟨rfl, hB1⟩
  · have h1' : ¬ (40 : Int) < (n : Int) := by omega
    have h2' : (40 : Int) < (k : Int) := by omega
    clear h
    go_wp2
    go_ret
    exact ⟨rfl, hB1⟩
/-- For all arguments. -/
theorem sets_arg (w : World) (v : Value) (l : List (List UInt8)) (hl : Is w v l) (hll : l.length ≤ 9223372036854775807) (u : Value) (m : List (List UInt8)) (hm : Is w u m) (hml : m.length ≤ 9223372036854775807) (id : List UInt8) (hid : id.length = 32) :
    Calls Try.prog 4 #[v, u, IdV id] w fun e W' => e = .returned (.bool true) ∧ Below w.heap.size w W' := by
  obtain ⟨A, c, rfl, _⟩ := hl.form
  obtain ⟨B, d, rfl, _⟩ := hm.form
  by_cases h : 40 < l.length ∨ 40 < m.length
  · exact sets_great w A B _ _ c d id hll hml h
  · exact sets_some w A B c d l m hl hm id hid (by omega) (by omega)
end Go.Proofs.Ytkohmagpffobmaa
