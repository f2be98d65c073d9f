/- The walk of DotParts (tools/genparts.py). -/
import Derived.Test.YtockdekhdjmklaaDoorDotAlive
import Derived.Test.YtockdekhdjmklaaDoorDotUnion
namespace Go.Proofs.YtockdekhdjmklaaDoor
open Go.RowKit

theorem putE_lenP {α : Type} [DecidableEq α] (cf : α → α → Int) (out : List α) (x : α) : (putE cf out x).length ≤ out.length + 1 := by
  unfold putE insE
  split
  · omega
  · have := congrArg List.length (List.takeWhile_append_dropWhile (p := fun y => decide (cf y x < 0)) (l := out))
    simp only [List.length_append, List.length_singleton] at *
    omega
theorem foldE_lenP {α : Type} [DecidableEq α] (cf : α → α → Int) : ∀ (l out : List α), (l.foldl (putE cf) out).length ≤ l.length + out.length
  | [], out => by simp
  | a :: l, out => by
    have h1 := foldE_lenP cf l (putE cf out a)
    have h2 := putE_lenP cf out a
    simp only [List.foldl_cons, List.length_cons]
    omega
theorem setE_lenP {α : Type} [DecidableEq α] (cf : α → α → Int) (l : List α) : (setE cf l).length ≤ l.length := by
  have := foldE_lenP cf l []
  simpa [setE] using this
theorem lessX_len (l m : List X2) : (lessX l m).length ≤ l.length + m.length := by
  have h := merge_len _ l m (Nat.le_refl _)
  have h2 : (lessX l m).length ≤ (mergeX l m).length := lessF_len _
  omega
theorem unionX_len (l m : List X2) : (unionX l m).length ≤ l.length + m.length := by
  have h := merge_len _ l m (Nat.le_refl _)
  have h2 : (unionX l m).length ≤ (mergeX l m).length := unionF_len _
  omega
theorem pDLess_ok {l m : List X2} (h1 : isB l = true) (h2 : isB m = true) (hl : l.length ≤ 1000) (hm : m.length ≤ 1000) (w : World) (v v' : Value) (hs : Ds w v l) (hs' : Ds w v' m) :
    Calls Tryd.prog 26 #[v, v'] w fun e W' => ∃ u, e = .returned (.tuple #[u, .int .i64 0]) ∧ Ds W' u (lessX l m) ∧ Below w.heap.size w W' := by
  have h := pDLess_any w v v' l m hs hs' hl hm
  rw [h1, h2] at h
  exact h.mono fun e W' ⟨u, he, hn, hb⟩ => ⟨u, he, hn.is, hb⟩
theorem pDUnion_ok {l m : List X2} (h1 : isB l = true) (h2 : isB m = true) (hl : l.length ≤ 1000) (hm : m.length ≤ 1000) (w : World) (v v' : Value) (hs : Ds w v l) (hs' : Ds w v' m) :
    Calls Tryd.prog 25 #[v, v'] w fun e W' => ∃ u, e = .returned (.tuple #[u, .int .i64 0]) ∧ Ds W' u (unionX l m) ∧ Below w.heap.size w W' := by
  have h := pDUnion_any w v v' l m hs hs' hl hm
  rw [h1, h2] at h
  exact h.mono fun e W' ⟨u, he, hn, hb⟩ => ⟨u, he, hn.is, hb⟩

theorem set_named (l : List X2) : ∃ (S : List X2) (er : Int), ((l.all okX = true ∧ er = 0 ∧ S = setE cmpX l) ∨ (er = 50 ∧ S = [])) ∧ ∀ W v, Ds W v l → l.length ≤ 1000 →
    Calls Tryd.prog 24 #[v] W fun e W' => ∃ u, e = .returned (.tuple #[u, .int .i64 er]) ∧ Ds W' u S ∧ Below W.heap.size W W' := by
  cases ha : l.all okX with
  | true =>
    refine ⟨setE cmpX l, 0, .inl ⟨rfl, rfl, rfl⟩, fun W v h hl => ?_⟩
    have hc := pDSet_any W v l h hl
    rw [ha] at hc
    exact hc.mono fun e W' ⟨u, he, hn, hb⟩ => ⟨u, he, hn.is, hb⟩
  | false =>
    refine ⟨[], 50, .inr ⟨rfl, rfl⟩, fun W v h hl => ?_⟩
    have hc := pDSet_any W v l h hl
    rw [ha] at hc
    exact hc.mono fun e W' ⟨u, he, hn, hb⟩ => ⟨u, he, hn.is, hb⟩
set_option maxRecDepth 100000 in
set_option maxHeartbeats 4000000 in
theorem parts_arg (w : World) (Al Am : Option Addr) (cl cm : Nat) (l m : List X2) (hl : Ds w (.slice Al l.length cl) l) (hm : Ds w (.slice Am m.length cm) m) (hT : Tab w) :
    Calls Tryd.prog 6 #[.slice Al l.length cl, .slice Am m.length cm] w fun e W' => e = .returned (.bool true) ∧ Below w.heap.size w W' := by
  go_enter Tryd.func6, Tryd.ntmps6
  go_wp2_with fail
  refine (alive5_any w hT).mono ?_
  rintro e w1 ⟨rfl, hB1⟩
  have HL := Lib.hid (hl.below hB1)
  have HM := Lib.hid (hm.below hB1)
  clear hl hm hT
  by_cases hlen : 40 < l.length
  case pos =>
    have d1 : decide (40 < (l.length : Int)) = true := by simp; omega
    go_wp2_with fail
    go_ret
    exact ⟨rfl, hB1⟩
  have d1 : decide (40 < (l.length : Int)) = false := by simp; omega
  by_cases hlen' : 40 < m.length
  case pos =>
    have d2 : decide (40 < (m.length : Int)) = true := by simp; omega
    go_wp2_with fail
    go_ret
    exact ⟨rfl, hB1⟩
  have d2 : decide (40 < (m.length : Int)) = false := by simp; omega
  obtain ⟨S, er, hSe, cs1⟩ := set_named l
  obtain ⟨T, er', hTe, cs2⟩ := set_named m
  have HSE := Lib.hid hSe
  have HTE := Lib.hid hTe
  have CS1 := Lib.hid cs1
  have CS2 := Lib.hid cs2
  clear hSe hTe cs1 cs2
  go_wp2_with fail
  refine (CS1.out w1 _ HL.out (by omega)).mono ?_
  rintro e w2 ⟨va, rfl, hna, hb⟩
  have hB2 := hB1.trans (hb.mono hB1.size)
  replace HL := Lib.hid (HL.out.below hb)
  replace HM := Lib.hid (HM.out.below hb)
  have HA := Lib.hid hna
  obtain ⟨Aa, ca, rfl, _⟩ := hna.form
  clear hb hna hB1 CS1
  go_wp2_with fail
  refine (CS2.out w2 _ HM.out (by omega)).mono ?_
  rintro e w3 ⟨vb, rfl, hnb, hb⟩
  have hB3 := hB2.trans (hb.mono hB2.size)
  replace HL := Lib.hid (HL.out.below hb)
  replace HM := Lib.hid (HM.out.below hb)
  replace HA := Lib.hid (HA.out.below hb)
  have HB := Lib.hid hnb
  obtain ⟨Ab, cb, rfl, _⟩ := hnb.form
  clear hb hnb hB2 CS2
  rcases HSE.out with ⟨hal, rfl, hSs⟩ | ⟨rfl, rfl⟩
  case inr =>
    rcases HTE.out with ⟨ham, rfl, hTs⟩ | ⟨rfl, rfl⟩
    all_goals clear HSE HTE
    all_goals go_wp2_with fail
    all_goals go_ret
    all_goals exact ⟨rfl, hB3⟩
  case inl =>
    rcases HTE.out with ⟨ham, rfl, hTs⟩ | ⟨rfl, rfl⟩
    case inr =>
      clear HSE HTE
      go_wp2_with fail
      go_ret
      exact ⟨rfl, hB3⟩
    case inl =>
      clear HSE HTE
      have hS1 : S.length ≤ l.length := by rw [hSs]; exact setE_lenP cmpX l
      have hT1 : T.length ≤ m.length := by rw [hTs]; exact setE_lenP cmpX m
      have iS : isB S = true := by rw [hSs]; exact is_set hal
      have iT : isB T = true := by rw [hTs]; exact is_set ham
      have HCS := Lib.hid (show ∀ W v, Ds W v l.reverse → Calls Tryd.prog 24 #[v] W fun e W' => ∃ u, e = .returned (.tuple #[u, .int .i64 0]) ∧ Ds W' u S ∧ Below W.heap.size W W' from fun W v h => by
        have hc := pDSet_any W v l.reverse h (by simp; omega)
        rw [show l.reverse.all okX = true by rw [List.all_reverse]; exact hal, set_reverse, ← hSs] at hc
        exact hc.mono fun e W' ⟨u, he, hn, hb⟩ => ⟨u, he, hn.is, hb⟩)
      clear hSs hTs
      obtain ⟨q1, q2, q3, q4, q5⟩ := parts_laws iS iT
      have b1 := lessX_len S T
      have b2 := lessX_len S (lessX S T)
      have b3 := lessX_len T S
      have b4 := unionX_len S T
      have i1 := is_less iS iT
      have i2 := is_less iS i1
      have i3 := is_less iT iS
      have CL1 := Lib.hid (pDLess_ok iS iT (by omega) (by omega))
      have CL2 := Lib.hid (pDLess_ok iS i1 (by omega) (by omega))
      have CL3 := Lib.hid (pDLess_ok iT iS (by omega) (by omega))
      have cu1 := pDUnion_ok i1 i2 (by omega) (by omega)
      rw [q1] at cu1
      have CU1 := Lib.hid cu1
      have CU2 := Lib.hid (pDUnion_ok iS iT (by omega) (by omega))
      have cu3 := pDUnion_ok iS i3 (by omega) (by omega)
      rw [← q2] at cu3
      have CU3 := Lib.hid cu3
      clear cu1 cu3 i1 i2 i3 iS iT q1 q2 hal ham
      generalize unionX S T = U at *
      generalize hX2 : lessX S (lessX S T) = X2' at *
      generalize lessX S T = X1' at *
      generalize lessX T S = X3' at *
      clear hX2
      have e1 : IntKind.i64.wrap ((S.length : Int) + (X3'.length : Int)) = (S.length : Int) + (X3'.length : Int) := wrapE _ (by omega) (by omega)
      have e2 : IntKind.i64.wrap ((X1'.length : Int) + (X2'.length : Int)) = (X1'.length : Int) + (X2'.length : Int) := wrapE _ (by omega) (by omega)
      have e3 : ((U.length : Int) == (S.length : Int) + (X3'.length : Int)) = true := by simp; omega
      have e4 : ((X1'.length : Int) + (X2'.length : Int) == (S.length : Int)) = true := by simp; omega
      have HQ := Lib.hid q5
      have HBD := Lib.hid (show S.length ≤ 1000 ∧ T.length ≤ 1000 ∧ X2'.length ≤ 1000 ∧ U.length ≤ 1000 by omega)
      have hx2 : X2'.length ≤ 1000 := by omega
      clear q3 q4 q5 b1 b2 b3 b4 hS1 hT1
      go_wp2_with fail
      refine (CL1.out w3 _ _ HA.out HB.out).mono ?_
      rintro e w4 ⟨vx1, rfl, hn, hb⟩
      have hBw4 := hB3.trans (hb.mono hB3.size)
      replace HL := Lib.hid (HL.out.below hb)
      replace HA := Lib.hid (HA.out.below hb)
      replace HB := Lib.hid (HB.out.below hb)
      have H1 := Lib.hid hn
      obtain ⟨Ax1, cx1, rfl, _⟩ := hn.form
      clear hb hn hB3
      go_wp2_with fail
      refine (CL2.out w4 _ _ HA.out H1.out).mono ?_
      rintro e w5 ⟨vx2, rfl, hn, hb⟩
      have hBw5 := hBw4.trans (hb.mono hBw4.size)
      replace HL := Lib.hid (HL.out.below hb)
      replace HA := Lib.hid (HA.out.below hb)
      replace HB := Lib.hid (HB.out.below hb)
      replace H1 := Lib.hid (H1.out.below hb)
      have H2 := Lib.hid hn
      obtain ⟨Ax2, cx2, rfl, _⟩ := hn.form
      clear hb hn hBw4
      go_wp2_with fail
      refine (CL3.out w5 _ _ HB.out HA.out).mono ?_
      rintro e w6 ⟨vx3, rfl, hn, hb⟩
      have hBw6 := hBw5.trans (hb.mono hBw5.size)
      replace HL := Lib.hid (HL.out.below hb)
      replace HA := Lib.hid (HA.out.below hb)
      replace HB := Lib.hid (HB.out.below hb)
      replace H1 := Lib.hid (H1.out.below hb)
      replace H2 := Lib.hid (H2.out.below hb)
      have H3 := Lib.hid hn
      obtain ⟨Ax3, cx3, rfl, _⟩ := hn.form
      clear hb hn hBw5
      go_wp2_with fail
      refine (CU1.out w6 _ _ H1.out H2.out).mono ?_
      rintro e w7 ⟨vag, rfl, hn, hb⟩
      have hBw7 := hBw6.trans (hb.mono hBw6.size)
      replace HL := Lib.hid (HL.out.below hb)
      replace HA := Lib.hid (HA.out.below hb)
      replace HB := Lib.hid (HB.out.below hb)
      replace H1 := Lib.hid (H1.out.below hb)
      replace H2 := Lib.hid (H2.out.below hb)
      replace H3 := Lib.hid (H3.out.below hb)
      have H4 := Lib.hid hn
      obtain ⟨Aag, cag, rfl, _⟩ := hn.form
      clear hb hn hBw6
      go_wp2_with fail
      refine (CU2.out w7 _ _ HA.out HB.out).mono ?_
      rintro e w8 ⟨val, rfl, hn, hb⟩
      have hBw8 := hBw7.trans (hb.mono hBw7.size)
      replace HL := Lib.hid (HL.out.below hb)
      replace HA := Lib.hid (HA.out.below hb)
      replace HB := Lib.hid (HB.out.below hb)
      replace H1 := Lib.hid (H1.out.below hb)
      replace H2 := Lib.hid (H2.out.below hb)
      replace H3 := Lib.hid (H3.out.below hb)
      replace H4 := Lib.hid (H4.out.below hb)
      have H5 := Lib.hid hn
      obtain ⟨Aal, cal, rfl, _⟩ := hn.form
      clear hb hn hBw7
      go_wp2_with fail
      refine (CU3.out w8 _ _ HA.out H3.out).mono ?_
      rintro e w9 ⟨vsu, rfl, hn, hb⟩
      have hBw9 := hBw8.trans (hb.mono hBw8.size)
      replace HL := Lib.hid (HL.out.below hb)
      replace HA := Lib.hid (HA.out.below hb)
      replace HB := Lib.hid (HB.out.below hb)
      replace H1 := Lib.hid (H1.out.below hb)
      replace H2 := Lib.hid (H2.out.below hb)
      replace H3 := Lib.hid (H3.out.below hb)
      replace H4 := Lib.hid (H4.out.below hb)
      replace H5 := Lib.hid (H5.out.below hb)
      have H6 := Lib.hid hn
      obtain ⟨Asu, csu, rfl, _⟩ := hn.form
      clear hb hn hBw8
      clear CL1 CL2 CL3 CU1 CU2 CU3 H1 H3
      go_wp2_with fail
      go_loopw [22, 23] (fun bk i wr => ∃ (k : Nat) (A : Option Addr) (n c : Nat), k ≤ l.length ∧ i = .int .i64 ((k : Int) - 1) ∧ bk = .slice A n c ∧ RowD wr w9.heap.size (.slice A n c) (l.drop k).reverse ∧ Below w9.heap.size w9 wr) (fun _ i _ => (intOf i + 1).toNat)
      case atStart => exact ⟨l.length, none, 0, 0, Nat.le_refl _, by first | rfl | go_num, rfl, by rw [List.drop_length]; exact RowE.nil _ _, Below.refl _ _⟩
      case round =>
        obtain ⟨k, Ak, nk, ck, hk, rfl, rfl, hrow, hBr⟩ := hrel
        cases k with
        | succ j =>
          have hji : ((j + 1 : Nat) : Int) - 1 = (j : Int) := by omega
          rw [hji]
          obtain ⟨⟨s, d⟩, hx⟩ : ∃ x, l[j]? = some x := ⟨_, List.getElem?_eq_getElem (by omega)⟩
          obtain ⟨b, off, rfl, hat⟩ := (HL.out.below hBr).at hx
          have hat' : ElAt eDot wr b (off + j * 2) (s, d) := hat
          have hone := Es.one (E := eDot) wr (s, d) 23
          have hba : Below wr.heap.size wr (wr.alloc (.cells #[.int .i64 s, .int .i64 d] 23)) := (Below.refl _ wr).alloc (Nat.le_refl _) _
          have hrow' := hrow.below hba
          have HFL := Lib.hid (show ((l.drop (j + 1)).reverse).length + ([(s, d)] : List X2).length ≤ 1000000 by
            have h9 : ([(s, d)] : List X2).length = 1 := rfl
            rw [h9]
            simp
            omega)
          have HR := Lib.hid (show (l.drop (j + 1)).reverse ++ [(s, d)] = (l.drop j).reverse by
            obtain ⟨hj, hxx⟩ := List.getElem?_eq_some_iff.1 hx
            rw [List.drop_eq_getElem_cons hj, hxx]
            simp)
          have b5 : (j : Int) < (l.length : Int) := by omega
          have hrl := hrow
          clear hat hx hji
          go_wp2_with (first
            | (refine wpLoad_dot rfl (.tmp 123) rfl rfl hat' ?_)
            | (at_builtin; refine wpList_append_es eltDot rfl (.tmp 120) (.tmp 125) rfl w9.heap.size (.slice Ak nk ck) ((l.drop (j + 1)).reverse) rfl hrow' _ [(s, d)] rfl hone HFL.out (by have := hba.size; have := hBr.size; omega) ?_; intro u' w0 hown hg0 hv0; obtain ⟨A0, c0, rfl, _⟩ := RowE.slice hown))
          have hB0 : Below w9.heap.size w9 w0 := (hBr.trans (hba.mono hBr.size)).grown hg0 (by have := hba.size; have := hBr.size; omega) (fun q e => (World.ownsRow.lt hrl q e).1)
          rw [HR.out] at hown
          go_roundw
          case rel => exact ⟨j, _, _, _, by omega, by first | go_num | rfl, rfl, by first | exact hown | (rw [show l.length - (j + 1) + 1 = l.length - j by omega]; simpa using hown), hB0⟩
          case measure => simp [intOf]; try omega
        | zero =>
          have hrz : RowD wr w9.heap.size (.slice Ak nk ck) l.reverse := by simpa using hrow
          have HCB := HCS.out wr _ hrz.is
          have hB10 := hBw9.trans (hBr.mono hBw9.size)
          replace HL := Lib.hid (HL.out.below hBr)
          replace HA := Lib.hid (HA.out.below hBr)
          replace HB := Lib.hid (HB.out.below hBr)
          replace H2 := Lib.hid (H2.out.below hBr)
          replace H4 := Lib.hid (H4.out.below hBr)
          replace H5 := Lib.hid (H5.out.below hBr)
          replace H6 := Lib.hid (H6.out.below hBr)
          clear hrow hrz HCS hBr hBw9
          go_wp2_with fail
          refine (HCB).mono ?_
          rintro e wb ⟨vcc, rfl, hn, hb⟩
          have hBwb := hB10.trans (hb.mono hB10.size)
          replace HL := Lib.hid (HL.out.below hb)
          replace HA := Lib.hid (HA.out.below hb)
          replace HB := Lib.hid (HB.out.below hb)
          replace H2 := Lib.hid (H2.out.below hb)
          replace H4 := Lib.hid (H4.out.below hb)
          replace H5 := Lib.hid (H5.out.below hb)
          replace H6 := Lib.hid (H6.out.below hb)
          have H7 := Lib.hid hn
          obtain ⟨Acc, ccc, rfl, _⟩ := hn.form
          clear hb hn hB10
          generalize wr = wq at *
          go_wp2_with fail
          go_loopw [160] (fun i w11 => ∃ k : Nat, k ≤ X2'.length ∧ i = .int .i64 k ∧ Below wb.heap.size wb w11) (fun i _ => X2'.length - (intOf i).toNat)
          case atStart => exact ⟨0, by omega, rfl, Below.refl _ _⟩
          case round =>
            obtain ⟨k, hk, rfl, hBr⟩ := hrel
            by_cases hkl : k < X2'.length
            case pos =>
              obtain ⟨⟨s, d⟩, hx⟩ : ∃ x, X2'[k]? = some x := ⟨_, List.getElem?_eq_getElem hkl⟩
              obtain ⟨b, off, rfl, hat⟩ := (H2.out.below hBr).at hx
              have hat' : ElAt eDot wr b (off + k * 2) (s, d) := hat
              obtain ⟨hmS, hmT⟩ := HQ.out _ (List.mem_of_getElem? hx)
              have hba : Below wr.heap.size wr (wr.alloc (.cells #[.int .i64 s, .int .i64 d] 23)) := (Below.refl _ wr).alloc (Nat.le_refl _) _
              have g1 : (wr.alloc (.cells #[.int .i64 s, .int .i64 d] 23)).cell? ⟨wr.heap.size, 0, none⟩ = some (.int .i64 s) := by go_simp
              have g2 : (wr.alloc (.cells #[.int .i64 s, .int .i64 d] 23)).cell? ⟨wr.heap.size, 1, none⟩ = some (.int .i64 d) := by go_simp
              have hB12 := hBr.trans (hba.mono hBr.size)
              have ch1 : Calls Tryd.prog 28 #[.slice Aa S.length ca, DotV s d] (wr.alloc (.cells #[.int .i64 s, .int .i64 d] 23)) fun e W' => e = .returned (.bool true) ∧ Below (wr.alloc (.cells #[.int .i64 s, .int .i64 d] 23)).heap.size (wr.alloc (.cells #[.int .i64 s, .int .i64 d] 23)) W' := by
                have h := pDHas_any (wr.alloc (.cells #[.int .i64 s, .int .i64 d] 23)) _ S (s, d) (HA.out.below hB12) HBD.out.1
                rw [decide_eq_true hmS] at h
                exact h
              have HB12 := Lib.hid (HB.out.below hB12)
              have b6 : (k : Int) < (X2'.length : Int) := by omega
              clear hat hx hmS hba
              go_wp2_with (refine wpLoad_dot rfl (.tmp 162) rfl rfl hat' ?_)
              generalize wr.alloc (.cells #[.int .i64 s, .int .i64 d] 23) = W4 at *
              refine ch1.mono ?_
              rintro e w13 ⟨rfl, hb13⟩
              have hB13 := hB12.trans (hb13.mono hB12.size)
              replace g1 := cell_on hb13 g1
              replace g2 := cell_on hb13 g2
              have ch2 : Calls Tryd.prog 28 #[.slice Ab T.length cb, DotV s d] w13 fun e W' => e = .returned (.bool true) ∧ Below w13.heap.size w13 W' := by
                have h := pDHas_any w13 _ T (s, d) (HB12.out.below hb13) HBD.out.2.1
                rw [decide_eq_true hmT] at h
                exact h
              clear hb13 ch1 hB12 hmT
              go_wp2_with fail
              refine ch2.mono ?_
              rintro e w14 ⟨rfl, hb14⟩
              have hB14 := hB13.trans (hb14.mono hB13.size)
              clear hb14 ch2 hB13 g1 g2
              go_wp2_with fail
              go_roundw
              case rel => exact ⟨k + 1, by omega, by go_num, hB14⟩
              case measure => simp [intOf]; omega
            case neg =>
              obtain rfl : k = X2'.length := by omega
              have hB15 := hBwb.trans (hBr.mono hBwb.size)
              replace HA := Lib.hid (HA.out.below hBr)
              replace H4 := Lib.hid (H4.out.below hBr)
              replace H5 := Lib.hid (H5.out.below hBr)
              replace H6 := Lib.hid (H6.out.below hBr)
              replace H7 := Lib.hid (H7.out.below hBr)
              clear hBr hBwb
              generalize wr = wz at *
              have sa : ∀ W (L : List X2) v v', L.length ≤ 1000 → Ds W v L → Ds W v' L → Calls Tryd.prog 27 #[v, v'] W fun e W' => e = .returned (.bool true) ∧ Below W.heap.size W W' := fun W L v v' hL h h' => by
                have h9 := r5Same_any W v v' L L h h' hL hL
                rw [decide_eq_true rfl] at h9
                exact h9
              have SA := Lib.hid sa
              clear sa
              go_wp2_with fail
              refine (SA.out wz S _ _ HBD.out.1 H4.out HA.out).mono ?_
              rintro e w16 ⟨rfl, hb⟩
              have hB16 := hB15.trans (hb.mono hB15.size)
              replace HA := Lib.hid (HA.out.below hb)
              replace H5 := Lib.hid (H5.out.below hb)
              replace H6 := Lib.hid (H6.out.below hb)
              replace H7 := Lib.hid (H7.out.below hb)
              clear hb hB15
              go_wp2_with fail
              refine (SA.out w16 U _ _ HBD.out.2.2.2 H5.out H6.out).mono ?_
              rintro e w17 ⟨rfl, hb⟩
              have hB17 := hB16.trans (hb.mono hB16.size)
              replace HA := Lib.hid (HA.out.below hb)
              replace H7 := Lib.hid (H7.out.below hb)
              clear hb hB16
              go_wp2_with fail
              refine (SA.out w17 S _ _ HBD.out.1 H7.out HA.out).mono ?_
              rintro e w18 ⟨rfl, hb⟩
              have hB18 := hB17.trans (hb.mono hB17.size)
              clear hb hB17
              go_wp2_with fail
              go_ret
              exact ⟨rfl, hB18⟩
theorem parts_walk (W : World) (v : Value) (l : List (Int × Int)) (hl : Ds W v l) (_ : l.length ≤ 9223372036854775807) (v' : Value) (m : List (Int × Int)) (hm : Ds W v' m) (_ : m.length ≤ 9223372036854775807) (hT : Tab W) :
    Calls Tryd.prog 6 #[v, v'] W fun e W' => e = .returned (.bool true) ∧ Below W.heap.size W W' := by
  obtain ⟨A, c, rfl, _⟩ := hl.form
  obtain ⟨A', c', rfl, _⟩ := hm.form
  exact parts_arg W A A' c c' l m hl hm hT
end Go.Proofs.YtockdekhdjmklaaDoor
