/- The walk of ObjectUnlike (tools/unlike.head, genunlike.py). -/
import Derived.Test.YtljihmbmjpcfaaaGreatObEncode
import Derived.Test.YtljihmbmjpcfaaaGreatObLinksO
import Derived.Test.YtljihmbmjpcfaaaGreatObLinks
namespace Go.Proofs.YtljihmbmjpcfaaaGreat
open Go.RowKit Go.Shelf Go.Great
set_option maxRecDepth 100000

theorem oLinks_es (w : World) (o : Ob) (p : Pl) (ho : ObIs w o p) (sp : PlSmall p) :
    Calls Tryz.prog 20 #[ObV o] w fun e W' => ∃ A c, Es eLk W' (.slice A (linksB p).length c) (linksB p) ∧ e = .returned (.slice A (linksB p).length c) ∧ Below w.heap.size w W' :=
  (oLinks_any w o p ho sp).mono fun e W' ⟨v, h1, h2, h3⟩ => by
    obtain ⟨A, c, rfl, _⟩ := h2.slice
    exact ⟨A, c, h2.is, h1, h3⟩
theorem r7Lists_same (w : World) (u v : Value) (l : List Lk) (hl : Es eLk w u l) (hm : Es eLk w v l) (hll : l.length ≤ 1000000) :
    Calls Tryz.prog 19 #[u, v] w fun e W' => e = .returned (.bool true) ∧ Below w.heap.size w W' := by
  have h := r7Lists_any w u v l l hl hm hll hll
  simpa using h
theorem oSame_self (w : World) (a b : Ob) (p : Pl) (ha : ObIs w a p) (hb : ObIs w b p) (sp : PlSmall p) :
    Calls Tryz.prog 16 #[ObV a, ObV b] w fun e W' => e = .returned (.bool true) ∧ Below w.heap.size w W' := by
  have h := oSame_any w a b p p ha hb sp sp
  simpa using h
theorem oSame_not (w : World) (a b : Ob) (p q : Pl) (ha : ObIs w a p) (hb : ObIs w b q) (sp : PlSmall p) (sq : PlSmall q) (hne : ¬ p = q) :
    Calls Tryz.prog 16 #[ObV a, ObV b] w fun e W' => e = .returned (.bool false) ∧ Below w.heap.size w W' := by
  have h := oSame_any w a b p q ha hb sp sq
  rw [decide_eq_false hne] at h
  exact h
theorem linksB_length {p : Pl} (sp : PlSmall p) : (linksB p).length ≤ 1000000 := by
  have h1 := sp.es
  have h2 := sp.ps
  unfold linksB linksK
  split
  · split
    · simp; omega
    · split
      · simp; omega
      · split <;> simp
  · simp
/-- Encode, whatever the object: its bytes, or none. -/
theorem oEncode_es (w : World) (o : Ob) (p : Pl) (ho : ObIs w o p) (sp : PlSmall p) (hm : mayB p = true) :
    Calls Tryz.prog 13 #[ObV o] w fun e W' => ∃ A c, Bs W' (.slice A (encP p).length c) (encP p) ∧ e = .returned (.tuple #[.slice A (encP p).length c, .int .i64 0]) ∧ Below w.heap.size w W' :=
  (oEncode_yes w o p ho sp hm).mono fun e W' ⟨r, h1, h2, h3⟩ => by
    have hb := Bs.of_owns h2
    obtain ⟨A, c, rfl, _⟩ := hb.form
    exact ⟨A, c, hb, h1, h3⟩
set_option maxHeartbeats 8000000 in
theorem unlike_walk (w : World) (o1 : Ob) (p : Pl) (h1 : ObIs w o1 p) (o2 : Ob) (q : Pl) (h2 : ObIs w o2 q) :
    Calls Tryz.prog 4 #[ObV o1, ObV o2] w fun e W' => e = .returned (.bool true) ∧ Below w.heap.size w W' := by
  have HO1 := Lib.hid h1
  have HO2 := Lib.hid h2
  clear h1 h2
  go_enter Tryz.func4, Tryz.ntmps4
  go_wp2_with (first
    | (refine wpList_box_e (E := eOb) rfl (.tmp 0) rfl (x := o1) rfl ?_; intro w1 b1 hB1; have hn12 := b1.lt)
    | (refine wpList_box_e (E := eOb) rfl (.tmp 1) rfl (x := o2) rfl ?_; intro w2 b2 hB2))
  have hBw2 := hB1.trans (hB2.mono hB1.size)
  replace b1 : BoxOb w2 w.heap.size o1 := b1.below hB2
  clear hB1 hB2
  refine (alive7_any w2).mono ?_
  rintro e w3 ⟨rfl, h3⟩
  have hB3 := hBw2.trans (h3.mono hBw2.size)
  replace b1 : BoxOb w3 w.heap.size o1 := b1.below h3
  replace b2 : BoxOb w3 w1.heap.size o2 := b2.below h3
  clear h3 hBw2
  go_wp2_with (refine wpList_load_e (E := eOb) Tryz.underlying30 rfl sizeO rfl (.tmp 2) rfl rfl b1.at ?_)
  refine (r7Great_any w3 o1 p (HO1.out.below hB3)).mono ?_
  rintro e w4 ⟨r, rfl, hgr, h4⟩
  have hB4 := hB3.trans (h4.mono hB3.size)
  replace b1 : BoxOb w4 w.heap.size o1 := b1.below h4
  replace b2 : BoxOb w4 w1.heap.size o2 := b2.below h4
  clear h4 hB3
  rcases hgr with ⟨rfl, hfit⟩ | rfl
  case inr =>
    go_wp2_with fail
    go_ret
    exact ⟨rfl, hB4⟩
  case inl =>
    have SP := Lib.hid hfit.small
    clear hfit
    go_wp2_with (refine list_known (ObV o2) (by first | rfl | kernel_rfl) (exec_load_el (E := eOb) Tryz.underlying30 rfl sizeO rfl rfl b2.at) (fun a' ha' => ?_); subst ha')
    refine (r7Great_any w4 o2 q (HO2.out.below hB4)).mono ?_
    rintro e w5 ⟨r, rfl, hgr, h5⟩
    have hB5 := hB4.trans (h5.mono hB4.size)
    replace b1 : BoxOb w5 w.heap.size o1 := b1.below h5
    replace b2 : BoxOb w5 w1.heap.size o2 := b2.below h5
    clear h5 hB4
    rcases hgr with ⟨rfl, hfit⟩ | rfl
    case inr =>
      go_wp2_with fail
      go_ret
      exact ⟨rfl, hB5⟩
    case inl =>
      have SQ := Lib.hid hfit.small
      clear hfit
      go_wp2_with (refine wpList_load_e (E := eOb) Tryz.underlying30 rfl sizeO rfl (.tmp 2) rfl rfl b1.at ?_)
      cases hmp : mayB p with
      | false =>
        refine (oEncode_no w5 o1 p (HO1.out.below hB5) SP.out hmp).mono ?_
        rintro e w6 ⟨rfl, h6⟩
        have hB6 := hB5.trans (h6.mono hB5.size)
        replace b1 : BoxOb w6 w.heap.size o1 := b1.below h6
        replace b2 : BoxOb w6 w1.heap.size o2 := b2.below h6
        clear h6 hB5 hmp
        go_wp2_with (refine wpList_load_e (E := eOb) Tryz.underlying30 rfl sizeO rfl (.tmp 3) rfl rfl b2.at ?_)
        cases hmq : mayB q with
        | false =>
          refine (oEncode_no w6 o2 q (HO2.out.below hB6) SQ.out hmq).mono ?_
          rintro e w7 ⟨rfl, h7⟩
          have hB7 := hB6.trans (h7.mono hB6.size)
          clear h7 hB6 hmq b1 b2
          go_wp2_with fail
          go_ret
          exact ⟨rfl, hB7⟩
        | true =>
          refine (oEncode_es w6 o2 q (HO2.out.below hB6) SQ.out hmq).mono ?_
          rintro e w7 ⟨A2, c2, hb2, rfl, h7⟩
          have hB7 := hB6.trans (h7.mono hB6.size)
          clear h7 hB6 hmq b1 b2 hb2
          go_wp2_with fail
          go_ret
          exact ⟨rfl, hB7⟩
      | true =>
        refine (oEncode_es w5 o1 p (HO1.out.below hB5) SP.out hmp).mono ?_
        rintro e w6 ⟨A1, c1, hba, rfl, h6⟩
        have hB6 := hB5.trans (h6.mono hB5.size)
        replace b1 : BoxOb w6 w.heap.size o1 := b1.below h6
        replace b2 : BoxOb w6 w1.heap.size o2 := b2.below h6
        have HBA := Lib.hid hba
        have HMP := Lib.hid hmp
        clear h6 hB5 hmp hba
        go_wp2_with (refine wpList_load_e (E := eOb) Tryz.underlying30 rfl sizeO rfl (.tmp 3) rfl rfl b2.at ?_)
        cases hmq : mayB q with
        | false =>
          refine (oEncode_no w6 o2 q (HO2.out.below hB6) SQ.out hmq).mono ?_
          rintro e w7 ⟨rfl, h7⟩
          have hB7 := hB6.trans (h7.mono hB6.size)
          clear h7 hB6 hmq b1 b2
          go_wp2_with fail
          go_ret
          exact ⟨rfl, hB7⟩
        | true =>
          refine (oEncode_es w6 o2 q (HO2.out.below hB6) SQ.out hmq).mono ?_
          rintro e w7 ⟨A2, c2, hbb, rfl, h7⟩
          have hB7 := hB6.trans (h7.mono hB6.size)
          replace b1 : BoxOb w7 w.heap.size o1 := b1.below h7
          replace b2 : BoxOb w7 w1.heap.size o2 := b2.below h7
          replace HBA := Lib.hid (HBA.out.below h7)
          have HBB := Lib.hid hbb
          have HMQ := Lib.hid hmq
          clear h7 hB6 hmq hbb
          have HEQ := Lib.hid (enc_inj HMP.out HMQ.out HO1.out.ids HO2.out.ids)
          obtain ⟨S1, hS1⟩ : ∃ S, S = shaB (encP p) := ⟨_, rfl⟩
          obtain ⟨S2, hS2⟩ : ∃ S, S = shaB (encP q) := ⟨_, rfl⟩
          have hS132 : S1.length = 32 := by rw [hS1]; exact shaB_length _
          have hS232 : S2.length = 32 := by rw [hS2]; exact shaB_length _
          have I1 : ∀ W, Below w.heap.size w W → Calls Tryz.prog 15 #[ObV o1] W fun e W' => e = .returned (.tuple #[IdV S1, .int .i64 0]) ∧ Below W.heap.size W W' := fun W hW => by rw [hS1]; exact oID_yes W o1 p (HO1.out.below hW) SP.out HMP.out
          have I2 : ∀ W, Below w.heap.size w W → Calls Tryz.prog 15 #[ObV o2] W fun e W' => e = .returned (.tuple #[IdV S2, .int .i64 0]) ∧ Below W.heap.size W W' := fun W hW => by rw [hS2]; exact oID_yes W o2 q (HO2.out.below hW) SQ.out HMQ.out
          have HI1 := Lib.hid I1
          have HI2 := Lib.hid I2
          have HSS := Lib.hid (show p = q → S1 = S2 from fun e => by rw [hS1, hS2, e])
          clear I1 I2 hS1 hS2
          generalize encP p = xa at *
          generalize encP q = xb at *
          go_wp2_with (first
            | (refine list_known (ObV o1) (by first | rfl | kernel_rfl) (exec_load_el (E := eOb) Tryz.underlying30 rfl sizeO rfl rfl b1.at) (fun a' ha' => ?_); subst ha')
            | (refine list_known (ObV o2) (by first | rfl | kernel_rfl) (exec_load_el (E := eOb) Tryz.underlying30 rfl sizeO rfl rfl b2.at) (fun a' ha' => ?_); subst ha'))
          refine (oSame_any w7 o1 o2 p q (HO1.out.below hB7) (HO2.out.below hB7) SP.out SQ.out).mono ?_
          rintro e w8 ⟨rfl, h8⟩
          have hB8 := hB7.trans (h8.mono hB7.size)
          replace b1 : BoxOb w8 w.heap.size o1 := b1.below h8
          replace b2 : BoxOb w8 w1.heap.size o2 := b2.below h8
          replace HBA := Lib.hid (HBA.out.below h8)
          replace HBB := Lib.hid (HBB.out.below h8)
          clear h8 hB7
          obtain ⟨D, hD⟩ : ∃ D, D = decide (p = q) := ⟨_, rfl⟩
          rw [← hD]
          have HD := Lib.hid hD
          clear hD
          go_wp2_with (refine wpList_load_e (E := eOb) Tryz.underlying30 rfl sizeO rfl (.tmp 2) rfl rfl b1.at ?_)
          refine (HI1.out w8 hB8).mono ?_
          rintro e w9 ⟨rfl, h9⟩
          have hB9 := hB8.trans (h9.mono hB8.size)
          replace b1 : BoxOb w9 w.heap.size o1 := b1.below h9
          replace b2 : BoxOb w9 w1.heap.size o2 := b2.below h9
          replace HBA := Lib.hid (HBA.out.below h9)
          replace HBB := Lib.hid (HBB.out.below h9)
          clear h9 hB8
          go_wp2_with (first
            | (refine wpList_alloc_id rfl rfl ?_
               have i1 := BoxI.new w9 zeroID_length
               have hA := (Below.refl w9.heap.size w9).alloc (Nat.le_refl _) (.cells (zeroID.map B8).toArray 25)
               generalize w9.alloc (.cells (zeroID.map B8).toArray 25) = w10 at *)
            | (refine wpList_store_id rfl (.tmp 11) (.tmp 70) rfl rfl i1 hS132 rfl ?_
               intro w11 i11 k11
               have h11 : Below w9.heap.size w9 w11 := hA.trans (k11.below (B := w9.heap.size) (fun j _ e => by omega) hA.size)
               have hB11 := hB9.trans (h11.mono hB9.size)
               replace b1 : BoxOb w11 w.heap.size o1 := b1.below h11
               replace b2 : BoxOb w11 w1.heap.size o2 := b2.below h11
               replace HBA := Lib.hid (HBA.out.below h11)
               replace HBB := Lib.hid (HBB.out.below h11)
               clear h11 hB9 i1 hA k11)
            | (refine wpList_load_e (E := eOb) Tryz.underlying30 rfl sizeO rfl (.tmp 3) rfl rfl b2.at ?_))
          refine (HI2.out w11 hB11).mono ?_
          rintro e w12 ⟨rfl, h12⟩
          have hB12 := hB11.trans (h12.mono hB11.size)
          replace b1 : BoxOb w12 w.heap.size o1 := b1.below h12
          replace b2 : BoxOb w12 w1.heap.size o2 := b2.below h12
          replace HBA := Lib.hid (HBA.out.below h12)
          replace HBB := Lib.hid (HBB.out.below h12)
          replace i11 := i11.below h12
          clear h12 hB11
          go_wp2_with (first
            | (refine wpList_alloc_id rfl rfl ?_
               have i1 := BoxI.new w12 zeroID_length
               have hA := (Below.refl w12.heap.size w12).alloc (Nat.le_refl _) (.cells (zeroID.map B8).toArray 25)
               generalize w12.alloc (.cells (zeroID.map B8).toArray 25) = w13 at *)
            | (refine wpList_store_id rfl (.tmp 13) (.tmp 75) rfl rfl i1 hS232 rfl ?_
               intro w14 i14 k14
               have h14 : Below w12.heap.size w12 w14 := hA.trans (k14.below (B := w12.heap.size) (fun j _ e => by omega) hA.size)
               have hB14 := hB12.trans (h14.mono hB12.size)
               replace b1 : BoxOb w14 w.heap.size o1 := b1.below h14
               replace b2 : BoxOb w14 w1.heap.size o2 := b2.below h14
               replace HBA := Lib.hid (HBA.out.below h14)
               replace HBB := Lib.hid (HBB.out.below h14)
               replace i11 := i11.below h14
               clear h14 hB12 i1 hA k14))
          have q2 := b1.at
          have q3 := b2.at
          have q11 := i11.at
          have q13 := i14.at
          replace HO1 := Lib.hid (HO1.out.below hB14)
          replace HO2 := Lib.hid (HO2.out.below hB14)
          refine wp_held (fun W1 => Below w14.heap.size w14 W1) (by kernel_rfl) ?_
          have hS0 : Below w14.heap.size w14 w14.drew := (Below.refl _ w14).drew
          clear b1 b2 i11 i14 HI1 HI2
          by_cases hpq : p = q
          case neg =>
            obtain rfl : D = false := by rw [HD.out]; exact decide_eq_false hpq
            have HNE := Lib.hid hpq
            have hne : ¬ xa = xb := fun e => hpq (HEQ.out.1 e)
            clear hpq HD HSS
            refine wpAnyH_next (i := 0) (v := .bool true) rfl (by kernel_rfl) (by kernel_rfl) (by kernel_rfl) (fun _ _ _ h => h) (by kernel_rfl) (fun W1 hW1 => by go_simp; done) hS0 (fun a' ha' => ?_)
            simp only [Act.put, List.getElem_toArray, List.getElem_cons_zero, List.setIfInBounds_toArray, List.set_cons_succ, List.set_cons_zero] at ha'
            subst ha'
            refine wpAnyH_next (i := 1) (v := .bool true) rfl (by kernel_rfl) (by kernel_rfl) (by kernel_rfl) (fun _ _ _ h => h) (by kernel_rfl) (fun W1 hW1 => by go_simp; done) hS0 (fun a' ha' => ?_)
            simp only [Act.put, List.getElem_toArray, List.getElem_cons_succ, List.getElem_cons_zero, List.setIfInBounds_toArray, List.set_cons_succ, List.set_cons_zero] at ha'
            subst ha'
            refine wpAnyH_next (i := 2) (v := .int .i64 0) rfl (by kernel_rfl) (by kernel_rfl) (by kernel_rfl) (fun _ _ _ h => h) (by kernel_rfl) (fun W1 hW1 => by go_simp; done) hS0 (fun a' ha' => ?_)
            simp only [Act.put, List.getElem_toArray, List.getElem_cons_succ, List.getElem_cons_zero, List.setIfInBounds_toArray, List.set_cons_succ, List.set_cons_zero] at ha'
            subst ha'
            refine wpAnyH_next (i := 3) (v := .bool true) rfl (by kernel_rfl) (by kernel_rfl) (by kernel_rfl) (fun _ _ _ h => h) (by kernel_rfl) (fun W1 hW1 => by go_simp; done) hS0 (fun a' ha' => ?_)
            simp only [Act.put, List.getElem_toArray, List.getElem_cons_succ, List.getElem_cons_zero, List.setIfInBounds_toArray, List.set_cons_succ, List.set_cons_zero] at ha'
            subst ha'
            refine wpAnyH_next (i := 4) (v := .bool true) rfl (by kernel_rfl) (by kernel_rfl) (by kernel_rfl) (fun _ _ _ h => h) (by kernel_rfl) (fun W1 hW1 => by go_simp; done) hS0 (fun a' ha' => ?_)
            simp only [Act.put, List.getElem_toArray, List.getElem_cons_succ, List.getElem_cons_zero, List.setIfInBounds_toArray, List.set_cons_succ, List.set_cons_zero] at ha'
            subst ha'
            refine wpAnyH_next (i := 5) (v := .bool true) rfl (by kernel_rfl) (by kernel_rfl) (by kernel_rfl) (fun _ _ _ h => h) (by kernel_rfl) (fun W1 hW1 => by go_simp; done) hS0 (fun a' ha' => ?_)
            simp only [Act.put, List.getElem_toArray, List.getElem_cons_succ, List.getElem_cons_zero, List.setIfInBounds_toArray, List.set_cons_succ, List.set_cons_zero] at ha'
            subst ha'
            refine wpAnyH_next (i := 6) (v := .int .i64 0) rfl (by kernel_rfl) (by kernel_rfl) (by kernel_rfl) (fun _ _ _ h => h) (by kernel_rfl) (fun W1 hW1 => by go_simp; done) hS0 (fun a' ha' => ?_)
            simp only [Act.put, List.getElem_toArray, List.getElem_cons_succ, List.getElem_cons_zero, List.setIfInBounds_toArray, List.set_cons_succ, List.set_cons_zero] at ha'
            subst ha'
            refine wpAnyH_next (i := 7) (v := .bool true) rfl (by kernel_rfl) (by kernel_rfl) (by kernel_rfl) (fun _ _ _ h => h) (by kernel_rfl) (fun W1 hW1 => by go_simp; done) hS0 (fun a' ha' => ?_)
            simp only [Act.put, List.getElem_toArray, List.getElem_cons_succ, List.getElem_cons_zero, List.setIfInBounds_toArray, List.set_cons_succ, List.set_cons_zero] at ha'
            subst ha'
            refine wpAnyH_next (i := 8) (v := .bool true) rfl (by kernel_rfl) (by kernel_rfl) (by kernel_rfl) (fun _ _ _ h => h) (by kernel_rfl) (fun W1 hW1 => by go_simp; done) hS0 (fun a' ha' => ?_)
            simp only [Act.put, List.getElem_toArray, List.getElem_cons_succ, List.getElem_cons_zero, List.setIfInBounds_toArray, List.set_cons_succ, List.set_cons_zero] at ha'
            subst ha'
            refine wpAnyH_next (i := 9) (v := .bool true) rfl (by kernel_rfl) (by kernel_rfl) (by kernel_rfl) (fun _ _ _ h => h) (by kernel_rfl) (fun W1 hW1 => by go_simp; done) hS0 (fun a' ha' => ?_)
            simp only [Act.put, List.getElem_toArray, List.getElem_cons_succ, List.getElem_cons_zero, List.setIfInBounds_toArray, List.set_cons_succ, List.set_cons_zero] at ha'
            subst ha'
            refine wpAnyH_next (i := 10) (v := .bool false) rfl (by kernel_rfl) (by kernel_rfl) (by kernel_rfl) (fun _ _ _ h => h) (by kernel_rfl) (fun W1 hW1 => by go_simp; done) hS0 (fun a' ha' => ?_)
            simp only [Act.put, List.getElem_toArray, List.getElem_cons_succ, List.getElem_cons_zero, List.setIfInBounds_toArray, List.set_cons_succ, List.set_cons_zero] at ha'
            subst ha'
            refine wpAnyH_next (i := 11) (v := .slice A1 xa.length c1) rfl (by kernel_rfl) (by kernel_rfl) (by kernel_rfl) (fun _ _ _ h => h) (by kernel_rfl) (fun W1 hW1 => by go_simp; done) hS0 (fun a' ha' => ?_)
            simp only [Act.put, List.getElem_toArray, List.getElem_cons_succ, List.getElem_cons_zero, List.setIfInBounds_toArray, List.set_cons_succ, List.set_cons_zero] at ha'
            subst ha'
            refine wpAnyH_next (i := 12) (v := Str xa) rfl (by kernel_rfl) (by kernel_rfl) (by kernel_rfl) (fun _ _ _ h => h) (by kernel_rfl) (fun W1 hW1 => by have e := run_string_bs (P := Tryz.prog) W1 22 9 5 Tryz.underlying22 Tryz.underlying5 Tryz.underlying9 (HBA.out.below hW1); go_simp; done) hS0 (fun a' ha' => ?_)
            simp only [Act.put, List.getElem_toArray, List.getElem_cons_succ, List.getElem_cons_zero, List.setIfInBounds_toArray, List.set_cons_succ, List.set_cons_zero] at ha'
            subst ha'
            refine wpAnyH_next (i := 13) (v := .slice A2 xb.length c2) rfl (by kernel_rfl) (by kernel_rfl) (by kernel_rfl) (fun _ _ _ h => h) (by kernel_rfl) (fun W1 hW1 => by go_simp; done) hS0 (fun a' ha' => ?_)
            simp only [Act.put, List.getElem_toArray, List.getElem_cons_succ, List.getElem_cons_zero, List.setIfInBounds_toArray, List.set_cons_succ, List.set_cons_zero] at ha'
            subst ha'
            refine wpAnyH_next (i := 14) (v := Str xb) rfl (by kernel_rfl) (by kernel_rfl) (by kernel_rfl) (fun _ _ _ h => h) (by kernel_rfl) (fun W1 hW1 => by have e := run_string_bs (P := Tryz.prog) W1 22 9 5 Tryz.underlying22 Tryz.underlying5 Tryz.underlying9 (HBB.out.below hW1); go_simp; done) hS0 (fun a' ha' => ?_)
            simp only [Act.put, List.getElem_toArray, List.getElem_cons_succ, List.getElem_cons_zero, List.setIfInBounds_toArray, List.set_cons_succ, List.set_cons_zero] at ha'
            subst ha'
            refine wpAnyH_next (i := 15) (v := .bool false) rfl (by kernel_rfl) (by kernel_rfl) (by kernel_rfl) (fun _ _ _ h => h) (by kernel_rfl) (fun W1 hW1 => by first | (go_simp; done) | (go_simp; simp [hne]; done)) hS0 (fun a' ha' => ?_)
            simp only [Act.put, List.getElem_toArray, List.getElem_cons_succ, List.getElem_cons_zero, List.setIfInBounds_toArray, List.set_cons_succ, List.set_cons_zero] at ha'
            subst ha'
            refine wpAnyH_next (i := 16) (v := .bool true) rfl (by kernel_rfl) (by kernel_rfl) (by kernel_rfl) (fun _ _ _ h => h) (by kernel_rfl) (fun W1 hW1 => by go_simp; done) hS0 (fun a' ha' => ?_)
            simp only [Act.put, List.getElem_toArray, List.getElem_cons_succ, List.getElem_cons_zero, List.setIfInBounds_toArray, List.set_cons_succ, List.set_cons_zero] at ha'
            subst ha'
            refine wpAnyH_next (i := 17) (v := .bool true) rfl (by kernel_rfl) (by kernel_rfl) (by kernel_rfl) (fun _ _ _ h => h) (by kernel_rfl) (fun W1 hW1 => by go_simp; done) hS0 (fun a' ha' => ?_)
            simp only [Act.put, List.getElem_toArray, List.getElem_cons_succ, List.getElem_cons_zero, List.setIfInBounds_toArray, List.set_cons_succ, List.set_cons_zero] at ha'
            subst ha'
            refine wpAnyH_next (i := 18) (v := .bool true) rfl (by kernel_rfl) (by kernel_rfl) (by kernel_rfl) (fun _ _ _ h => h) (by kernel_rfl) (fun W1 hW1 => by go_simp; done) hS0 (fun a' ha' => ?_)
            simp only [Act.put, List.getElem_toArray, List.getElem_cons_succ, List.getElem_cons_zero, List.setIfInBounds_toArray, List.set_cons_succ, List.set_cons_zero] at ha'
            subst ha'
            refine wpAnyH_next (i := 19) (v := .bool false) rfl (by kernel_rfl) (by kernel_rfl) (by kernel_rfl) (fun _ _ _ h => h) (by kernel_rfl) (fun W1 hW1 => by go_simp; done) hS0 (fun a' ha' => ?_)
            simp only [Act.put, List.getElem_toArray, List.getElem_cons_succ, List.getElem_cons_zero, List.setIfInBounds_toArray, List.set_cons_succ, List.set_cons_zero] at ha'
            subst ha'
            refine wpAnyH_next (i := 20) (v := .bool true) rfl (by kernel_rfl) (by kernel_rfl) (by kernel_rfl) (fun _ _ _ h => h) (by kernel_rfl) (fun W1 hW1 => by go_simp; done) hS0 (fun a' ha' => ?_)
            simp only [Act.put, List.getElem_toArray, List.getElem_cons_succ, List.getElem_cons_zero, List.setIfInBounds_toArray, List.set_cons_succ, List.set_cons_zero] at ha'
            subst ha'
            refine wpAnyH_next (i := 21) (v := .bool true) rfl (by kernel_rfl) (by kernel_rfl) (by kernel_rfl) (fun _ _ _ h => h) (by kernel_rfl) (fun W1 hW1 => by go_simp; done) hS0 (fun a' ha' => ?_)
            simp only [Act.put, List.getElem_toArray, List.getElem_cons_succ, List.getElem_cons_zero, List.setIfInBounds_toArray, List.set_cons_succ, List.set_cons_zero] at ha'
            subst ha'
            refine wpAnyH_skip (i := 22) rfl (by kernel_rfl) (by kernel_rfl) (by kernel_rfl) (fun _ _ _ h => h) (by kernel_rfl) hS0 (fun a' ha' => ?_)
            simp only [Act.put, List.getElem_toArray, List.getElem_cons_succ, List.getElem_cons_zero, List.setIfInBounds_toArray, List.set_cons_succ, List.set_cons_zero] at ha'
            subst ha'
            refine wpAnyH_skip (i := 23) rfl (by kernel_rfl) (by kernel_rfl) (by kernel_rfl) (fun _ _ _ h => h) (by kernel_rfl) hS0 (fun a' ha' => ?_)
            simp only [Act.put, List.getElem_toArray, List.getElem_cons_succ, List.getElem_cons_zero, List.setIfInBounds_toArray, List.set_cons_succ, List.set_cons_zero] at ha'
            subst ha'
            refine wpAnyH_skip (i := 24) rfl (by kernel_rfl) (by kernel_rfl) (by kernel_rfl) (fun _ _ _ h => h) (by kernel_rfl) hS0 (fun a' ha' => ?_)
            simp only [Act.put, List.getElem_toArray, List.getElem_cons_succ, List.getElem_cons_zero, List.setIfInBounds_toArray, List.set_cons_succ, List.set_cons_zero] at ha'
            subst ha'
            refine wpAnyH_skip (i := 25) rfl (by kernel_rfl) (by kernel_rfl) (by kernel_rfl) (fun _ _ _ h => h) (by kernel_rfl) hS0 (fun a' ha' => ?_)
            simp only [Act.put, List.getElem_toArray, List.getElem_cons_succ, List.getElem_cons_zero, List.setIfInBounds_toArray, List.set_cons_succ, List.set_cons_zero] at ha'
            subst ha'
            refine wpAnyH_skip (i := 26) rfl (by kernel_rfl) (by kernel_rfl) (by kernel_rfl) (fun _ _ _ h => h) (by kernel_rfl) hS0 (fun a' ha' => ?_)
            simp only [Act.put, List.getElem_toArray, List.getElem_cons_succ, List.getElem_cons_zero, List.setIfInBounds_toArray, List.set_cons_succ, List.set_cons_zero] at ha'
            subst ha'
            refine wpAnyH_skip (i := 27) rfl (by kernel_rfl) (by kernel_rfl) (by kernel_rfl) (fun _ _ _ h => h) (by kernel_rfl) hS0 (fun a' ha' => ?_)
            simp only [Act.put, List.getElem_toArray, List.getElem_cons_succ, List.getElem_cons_zero, List.setIfInBounds_toArray, List.set_cons_succ, List.set_cons_zero] at ha'
            subst ha'
            refine wpAnyH_skip (i := 28) rfl (by kernel_rfl) (by kernel_rfl) (by kernel_rfl) (fun _ _ _ h => h) (by kernel_rfl) hS0 (fun a' ha' => ?_)
            simp only [Act.put, List.getElem_toArray, List.getElem_cons_succ, List.getElem_cons_zero, List.setIfInBounds_toArray, List.set_cons_succ, List.set_cons_zero] at ha'
            subst ha'
            refine wpAnyH_skip (i := 29) rfl (by kernel_rfl) (by kernel_rfl) (by kernel_rfl) (fun _ _ _ h => h) (by kernel_rfl) hS0 (fun a' ha' => ?_)
            simp only [Act.put, List.getElem_toArray, List.getElem_cons_succ, List.getElem_cons_zero, List.setIfInBounds_toArray, List.set_cons_succ, List.set_cons_zero] at ha'
            subst ha'
            refine wpAnyH_skip (i := 30) rfl (by kernel_rfl) (by kernel_rfl) (by kernel_rfl) (fun _ _ _ h => h) (by kernel_rfl) hS0 (fun a' ha' => ?_)
            simp only [Act.put, List.getElem_toArray, List.getElem_cons_succ, List.getElem_cons_zero, List.setIfInBounds_toArray, List.set_cons_succ, List.set_cons_zero] at ha'
            subst ha'
            refine wpAnyH_skip (i := 31) rfl (by kernel_rfl) (by kernel_rfl) (by kernel_rfl) (fun _ _ _ h => h) (by kernel_rfl) hS0 (fun a' ha' => ?_)
            simp only [Act.put, List.getElem_toArray, List.getElem_cons_succ, List.getElem_cons_zero, List.setIfInBounds_toArray, List.set_cons_succ, List.set_cons_zero] at ha'
            subst ha'
            refine wpAnyH_next (i := 32) (v := .bool true) rfl (by kernel_rfl) (by kernel_rfl) (by kernel_rfl) (fun _ _ _ h => h) (by kernel_rfl) (fun W1 hW1 => by go_simp; done) hS0 (fun a' ha' => ?_)
            simp only [Act.put, List.getElem_toArray, List.getElem_cons_succ, List.getElem_cons_zero, List.setIfInBounds_toArray, List.set_cons_succ, List.set_cons_zero] at ha'
            subst ha'
            refine wpAnyH_next (i := 33) (v := .bool true) rfl (by kernel_rfl) (by kernel_rfl) (by kernel_rfl) (fun _ _ _ h => h) (by kernel_rfl) (fun W1 hW1 => by go_simp; done) hS0 (fun a' ha' => ?_)
            simp only [Act.put, List.getElem_toArray, List.getElem_cons_succ, List.getElem_cons_zero, List.setIfInBounds_toArray, List.set_cons_succ, List.set_cons_zero] at ha'
            subst ha'
            refine wpAnyH_next (i := 34) (v := .bool true) rfl (by kernel_rfl) (by kernel_rfl) (by kernel_rfl) (fun _ _ _ h => h) (by kernel_rfl) (fun W1 hW1 => by go_simp; done) hS0 (fun a' ha' => ?_)
            simp only [Act.put, List.getElem_toArray, List.getElem_cons_succ, List.getElem_cons_zero, List.setIfInBounds_toArray, List.set_cons_succ, List.set_cons_zero] at ha'
            subst ha'
            refine wpAnyH_next (i := 35) (v := ObV o2) rfl (by kernel_rfl) (by kernel_rfl) (by kernel_rfl) (fun _ _ _ h => h) (by kernel_rfl) (fun W1 hW1 => by exact exec_load_el (E := eOb) Tryz.underlying30 rfl sizeO rfl rfl (ElAt.below q3 hW1)) hS0 (fun a' ha' => ?_)
            simp only [Act.put, List.getElem_toArray, List.getElem_cons_succ, List.getElem_cons_zero, List.setIfInBounds_toArray, List.set_cons_succ, List.set_cons_zero] at ha'
            subst ha'
            refine wpAnyH_next (i := 36) (v := ObV o1) rfl (by kernel_rfl) (by kernel_rfl) (by kernel_rfl) (fun _ _ _ h => h) (by kernel_rfl) (fun W1 hW1 => by exact exec_load_el (E := eOb) Tryz.underlying30 rfl sizeO rfl rfl (ElAt.below q2 hW1)) hS0 (fun a' ha' => ?_)
            simp only [Act.put, List.getElem_toArray, List.getElem_cons_succ, List.getElem_cons_zero, List.setIfInBounds_toArray, List.set_cons_succ, List.set_cons_zero] at ha'
            subst ha'
            refine wpAnyH_next (i := 38) (v := .bool false) rfl (by kernel_rfl) (by kernel_rfl) (by kernel_rfl) (fun _ _ _ h => h) (by kernel_rfl) (fun W1 hW1 => by go_simp; done) hS0 (fun a' ha' => ?_)
            simp only [Act.put, List.getElem_toArray, List.getElem_cons_succ, List.getElem_cons_zero, List.setIfInBounds_toArray, List.set_cons_succ, List.set_cons_zero] at ha'
            subst ha'
            refine wpAnyH_want (i := 37) (by kernel_rfl) rfl (by kernel_rfl) (fun K hK => ?_)
            unfold Oper.wp
            go_simp
            refine (oSame_not _ o2 o1 q p (HO2.out.below hS0) (HO1.out.below hS0) SQ.out SP.out (fun e => HNE.out e.symm)).mono ?_
            rintro e y1 ⟨rfl, hy1⟩
            have hSy1 : Below w14.heap.size w14 y1 := hS0.trans (hy1.mono hS0.size)
            clear hy1
            refine hK _ _ hSy1 ?_
            clear hK K
            refine wpAnyH_next (i := 39) (v := .bool true) rfl (by kernel_rfl) (by kernel_rfl) (by kernel_rfl) (fun _ _ _ h => h) (by kernel_rfl) (fun W1 hW1 => by go_simp; done) hSy1 (fun a' ha' => ?_)
            simp only [Act.put, List.getElem_toArray, List.getElem_cons_succ, List.getElem_cons_zero, List.setIfInBounds_toArray, List.set_cons_succ, List.set_cons_zero] at ha'
            subst ha'
            refine wpAnyH_next (i := 40) (v := .bool true) rfl (by kernel_rfl) (by kernel_rfl) (by kernel_rfl) (fun _ _ _ h => h) (by kernel_rfl) (fun W1 hW1 => by go_simp; done) hSy1 (fun a' ha' => ?_)
            simp only [Act.put, List.getElem_toArray, List.getElem_cons_succ, List.getElem_cons_zero, List.setIfInBounds_toArray, List.set_cons_succ, List.set_cons_zero] at ha'
            subst ha'
            refine wpAnyH_next (i := 41) (v := .bool true) rfl (by kernel_rfl) (by kernel_rfl) (by kernel_rfl) (fun _ _ _ h => h) (by kernel_rfl) (fun W1 hW1 => by go_simp; done) hSy1 (fun a' ha' => ?_)
            simp only [Act.put, List.getElem_toArray, List.getElem_cons_succ, List.getElem_cons_zero, List.setIfInBounds_toArray, List.set_cons_succ, List.set_cons_zero] at ha'
            subst ha'
            refine wpAnyH_fin (by kernel_rfl) ?_ _
            go_wp2_with fail
            go_ret
            exact ⟨rfl, hB14.trans (hSy1.mono hB14.size)⟩
          case pos =>
            obtain rfl : D = true := by rw [HD.out]; exact decide_eq_true hpq
            obtain rfl : S1 = S2 := HSS.out hpq
            obtain rfl : xa = xb := HEQ.out.2 hpq
            subst hpq
            have HLL := Lib.hid (linksB_length SP.out)
            clear HD HSS HEQ
            refine wpAnyH_next (i := 0) (v := .bool true) rfl (by kernel_rfl) (by kernel_rfl) (by kernel_rfl) (fun _ _ _ h => h) (by kernel_rfl) (fun W1 hW1 => by go_simp; done) hS0 (fun a' ha' => ?_)
            simp only [Act.put, List.getElem_toArray, List.getElem_cons_zero, List.setIfInBounds_toArray, List.set_cons_succ, List.set_cons_zero] at ha'
            subst ha'
            refine wpAnyH_next (i := 1) (v := .bool true) rfl (by kernel_rfl) (by kernel_rfl) (by kernel_rfl) (fun _ _ _ h => h) (by kernel_rfl) (fun W1 hW1 => by go_simp; done) hS0 (fun a' ha' => ?_)
            simp only [Act.put, List.getElem_toArray, List.getElem_cons_succ, List.getElem_cons_zero, List.setIfInBounds_toArray, List.set_cons_succ, List.set_cons_zero] at ha'
            subst ha'
            refine wpAnyH_next (i := 2) (v := .int .i64 0) rfl (by kernel_rfl) (by kernel_rfl) (by kernel_rfl) (fun _ _ _ h => h) (by kernel_rfl) (fun W1 hW1 => by go_simp; done) hS0 (fun a' ha' => ?_)
            simp only [Act.put, List.getElem_toArray, List.getElem_cons_succ, List.getElem_cons_zero, List.setIfInBounds_toArray, List.set_cons_succ, List.set_cons_zero] at ha'
            subst ha'
            refine wpAnyH_next (i := 3) (v := .bool true) rfl (by kernel_rfl) (by kernel_rfl) (by kernel_rfl) (fun _ _ _ h => h) (by kernel_rfl) (fun W1 hW1 => by go_simp; done) hS0 (fun a' ha' => ?_)
            simp only [Act.put, List.getElem_toArray, List.getElem_cons_succ, List.getElem_cons_zero, List.setIfInBounds_toArray, List.set_cons_succ, List.set_cons_zero] at ha'
            subst ha'
            refine wpAnyH_next (i := 4) (v := .bool true) rfl (by kernel_rfl) (by kernel_rfl) (by kernel_rfl) (fun _ _ _ h => h) (by kernel_rfl) (fun W1 hW1 => by go_simp; done) hS0 (fun a' ha' => ?_)
            simp only [Act.put, List.getElem_toArray, List.getElem_cons_succ, List.getElem_cons_zero, List.setIfInBounds_toArray, List.set_cons_succ, List.set_cons_zero] at ha'
            subst ha'
            refine wpAnyH_next (i := 5) (v := .bool true) rfl (by kernel_rfl) (by kernel_rfl) (by kernel_rfl) (fun _ _ _ h => h) (by kernel_rfl) (fun W1 hW1 => by go_simp; done) hS0 (fun a' ha' => ?_)
            simp only [Act.put, List.getElem_toArray, List.getElem_cons_succ, List.getElem_cons_zero, List.setIfInBounds_toArray, List.set_cons_succ, List.set_cons_zero] at ha'
            subst ha'
            refine wpAnyH_next (i := 6) (v := .int .i64 0) rfl (by kernel_rfl) (by kernel_rfl) (by kernel_rfl) (fun _ _ _ h => h) (by kernel_rfl) (fun W1 hW1 => by go_simp; done) hS0 (fun a' ha' => ?_)
            simp only [Act.put, List.getElem_toArray, List.getElem_cons_succ, List.getElem_cons_zero, List.setIfInBounds_toArray, List.set_cons_succ, List.set_cons_zero] at ha'
            subst ha'
            refine wpAnyH_next (i := 7) (v := .bool true) rfl (by kernel_rfl) (by kernel_rfl) (by kernel_rfl) (fun _ _ _ h => h) (by kernel_rfl) (fun W1 hW1 => by go_simp; done) hS0 (fun a' ha' => ?_)
            simp only [Act.put, List.getElem_toArray, List.getElem_cons_succ, List.getElem_cons_zero, List.setIfInBounds_toArray, List.set_cons_succ, List.set_cons_zero] at ha'
            subst ha'
            refine wpAnyH_next (i := 8) (v := .bool true) rfl (by kernel_rfl) (by kernel_rfl) (by kernel_rfl) (fun _ _ _ h => h) (by kernel_rfl) (fun W1 hW1 => by go_simp; done) hS0 (fun a' ha' => ?_)
            simp only [Act.put, List.getElem_toArray, List.getElem_cons_succ, List.getElem_cons_zero, List.setIfInBounds_toArray, List.set_cons_succ, List.set_cons_zero] at ha'
            subst ha'
            refine wpAnyH_next (i := 9) (v := .bool true) rfl (by kernel_rfl) (by kernel_rfl) (by kernel_rfl) (fun _ _ _ h => h) (by kernel_rfl) (fun W1 hW1 => by go_simp; done) hS0 (fun a' ha' => ?_)
            simp only [Act.put, List.getElem_toArray, List.getElem_cons_succ, List.getElem_cons_zero, List.setIfInBounds_toArray, List.set_cons_succ, List.set_cons_zero] at ha'
            subst ha'
            refine wpAnyH_next (i := 10) (v := .bool true) rfl (by kernel_rfl) (by kernel_rfl) (by kernel_rfl) (fun _ _ _ h => h) (by kernel_rfl) (fun W1 hW1 => by go_simp; done) hS0 (fun a' ha' => ?_)
            simp only [Act.put, List.getElem_toArray, List.getElem_cons_succ, List.getElem_cons_zero, List.setIfInBounds_toArray, List.set_cons_succ, List.set_cons_zero] at ha'
            subst ha'
            refine wpAnyH_next (i := 11) (v := .slice A1 xa.length c1) rfl (by kernel_rfl) (by kernel_rfl) (by kernel_rfl) (fun _ _ _ h => h) (by kernel_rfl) (fun W1 hW1 => by go_simp; done) hS0 (fun a' ha' => ?_)
            simp only [Act.put, List.getElem_toArray, List.getElem_cons_succ, List.getElem_cons_zero, List.setIfInBounds_toArray, List.set_cons_succ, List.set_cons_zero] at ha'
            subst ha'
            refine wpAnyH_next (i := 12) (v := Str xa) rfl (by kernel_rfl) (by kernel_rfl) (by kernel_rfl) (fun _ _ _ h => h) (by kernel_rfl) (fun W1 hW1 => by have e := run_string_bs (P := Tryz.prog) W1 22 9 5 Tryz.underlying22 Tryz.underlying5 Tryz.underlying9 (HBA.out.below hW1); go_simp; done) hS0 (fun a' ha' => ?_)
            simp only [Act.put, List.getElem_toArray, List.getElem_cons_succ, List.getElem_cons_zero, List.setIfInBounds_toArray, List.set_cons_succ, List.set_cons_zero] at ha'
            subst ha'
            refine wpAnyH_next (i := 13) (v := .slice A2 xa.length c2) rfl (by kernel_rfl) (by kernel_rfl) (by kernel_rfl) (fun _ _ _ h => h) (by kernel_rfl) (fun W1 hW1 => by go_simp; done) hS0 (fun a' ha' => ?_)
            simp only [Act.put, List.getElem_toArray, List.getElem_cons_succ, List.getElem_cons_zero, List.setIfInBounds_toArray, List.set_cons_succ, List.set_cons_zero] at ha'
            subst ha'
            refine wpAnyH_next (i := 14) (v := Str xa) rfl (by kernel_rfl) (by kernel_rfl) (by kernel_rfl) (fun _ _ _ h => h) (by kernel_rfl) (fun W1 hW1 => by have e := run_string_bs (P := Tryz.prog) W1 22 9 5 Tryz.underlying22 Tryz.underlying5 Tryz.underlying9 (HBB.out.below hW1); go_simp; done) hS0 (fun a' ha' => ?_)
            simp only [Act.put, List.getElem_toArray, List.getElem_cons_succ, List.getElem_cons_zero, List.setIfInBounds_toArray, List.set_cons_succ, List.set_cons_zero] at ha'
            subst ha'
            refine wpAnyH_next (i := 15) (v := .bool true) rfl (by kernel_rfl) (by kernel_rfl) (by kernel_rfl) (fun _ _ _ h => h) (by kernel_rfl) (fun W1 hW1 => by go_simp; done) hS0 (fun a' ha' => ?_)
            simp only [Act.put, List.getElem_toArray, List.getElem_cons_succ, List.getElem_cons_zero, List.setIfInBounds_toArray, List.set_cons_succ, List.set_cons_zero] at ha'
            subst ha'
            refine wpAnyH_next (i := 16) (v := .bool true) rfl (by kernel_rfl) (by kernel_rfl) (by kernel_rfl) (fun _ _ _ h => h) (by kernel_rfl) (fun W1 hW1 => by go_simp; done) hS0 (fun a' ha' => ?_)
            simp only [Act.put, List.getElem_toArray, List.getElem_cons_succ, List.getElem_cons_zero, List.setIfInBounds_toArray, List.set_cons_succ, List.set_cons_zero] at ha'
            subst ha'
            refine wpAnyH_next (i := 17) (v := .bool true) rfl (by kernel_rfl) (by kernel_rfl) (by kernel_rfl) (fun _ _ _ h => h) (by kernel_rfl) (fun W1 hW1 => by go_simp; done) hS0 (fun a' ha' => ?_)
            simp only [Act.put, List.getElem_toArray, List.getElem_cons_succ, List.getElem_cons_zero, List.setIfInBounds_toArray, List.set_cons_succ, List.set_cons_zero] at ha'
            subst ha'
            refine wpAnyH_next (i := 18) (v := .bool true) rfl (by kernel_rfl) (by kernel_rfl) (by kernel_rfl) (fun _ _ _ h => h) (by kernel_rfl) (fun W1 hW1 => by go_simp; done) hS0 (fun a' ha' => ?_)
            simp only [Act.put, List.getElem_toArray, List.getElem_cons_succ, List.getElem_cons_zero, List.setIfInBounds_toArray, List.set_cons_succ, List.set_cons_zero] at ha'
            subst ha'
            refine wpAnyH_next (i := 19) (v := .bool true) rfl (by kernel_rfl) (by kernel_rfl) (by kernel_rfl) (fun _ _ _ h => h) (by kernel_rfl) (fun W1 hW1 => by go_simp; done) hS0 (fun a' ha' => ?_)
            simp only [Act.put, List.getElem_toArray, List.getElem_cons_succ, List.getElem_cons_zero, List.setIfInBounds_toArray, List.set_cons_succ, List.set_cons_zero] at ha'
            subst ha'
            refine wpAnyH_next (i := 20) (v := .bool false) rfl (by kernel_rfl) (by kernel_rfl) (by kernel_rfl) (fun _ _ _ h => h) (by kernel_rfl) (fun W1 hW1 => by go_simp; done) hS0 (fun a' ha' => ?_)
            simp only [Act.put, List.getElem_toArray, List.getElem_cons_succ, List.getElem_cons_zero, List.setIfInBounds_toArray, List.set_cons_succ, List.set_cons_zero] at ha'
            subst ha'
            refine wpAnyH_next (i := 21) (v := .bool false) rfl (by kernel_rfl) (by kernel_rfl) (by kernel_rfl) (fun _ _ _ h => h) (by kernel_rfl) (fun W1 hW1 => by go_simp; done) hS0 (fun a' ha' => ?_)
            simp only [Act.put, List.getElem_toArray, List.getElem_cons_succ, List.getElem_cons_zero, List.setIfInBounds_toArray, List.set_cons_succ, List.set_cons_zero] at ha'
            subst ha'
            refine wpAnyH_next (i := 22) (v := IdV S1) rfl (by kernel_rfl) (by kernel_rfl) (by kernel_rfl) (fun _ _ _ h => h) (by kernel_rfl) (fun W1 hW1 => by exact exec_load_id rfl rfl hS132 (IdAt.below q11 hW1)) hS0 (fun a' ha' => ?_)
            simp only [Act.put, List.getElem_toArray, List.getElem_cons_succ, List.getElem_cons_zero, List.setIfInBounds_toArray, List.set_cons_succ, List.set_cons_zero] at ha'
            subst ha'
            refine wpAnyH_next (i := 23) (v := IdV S1) rfl (by kernel_rfl) (by kernel_rfl) (by kernel_rfl) (fun _ _ _ h => h) (by kernel_rfl) (fun W1 hW1 => by exact exec_load_id rfl rfl hS132 (IdAt.below q13 hW1)) hS0 (fun a' ha' => ?_)
            simp only [Act.put, List.getElem_toArray, List.getElem_cons_succ, List.getElem_cons_zero, List.setIfInBounds_toArray, List.set_cons_succ, List.set_cons_zero] at ha'
            subst ha'
            refine wpAnyH_next (i := 24) (v := .bool true) rfl (by kernel_rfl) (by kernel_rfl) (by kernel_rfl) (fun _ _ _ h => h) (by kernel_rfl) (fun W1 hW1 => by exact (exec_eqlI rfl rfl rfl hS132 hS132).trans (by simp)) hS0 (fun a' ha' => ?_)
            simp only [Act.put, List.getElem_toArray, List.getElem_cons_succ, List.getElem_cons_zero, List.setIfInBounds_toArray, List.set_cons_succ, List.set_cons_zero] at ha'
            subst ha'
            refine wpAnyH_next (i := 25) (v := .bool true) rfl (by kernel_rfl) (by kernel_rfl) (by kernel_rfl) (fun _ _ _ h => h) (by kernel_rfl) (fun W1 hW1 => by go_simp; done) hS0 (fun a' ha' => ?_)
            simp only [Act.put, List.getElem_toArray, List.getElem_cons_succ, List.getElem_cons_zero, List.setIfInBounds_toArray, List.set_cons_succ, List.set_cons_zero] at ha'
            subst ha'
            refine wpAnyH_next (i := 26) (v := ObV o1) rfl (by kernel_rfl) (by kernel_rfl) (by kernel_rfl) (fun _ _ _ h => h) (by kernel_rfl) (fun W1 hW1 => by exact exec_load_el (E := eOb) Tryz.underlying30 rfl sizeO rfl rfl (ElAt.below q2 hW1)) hS0 (fun a' ha' => ?_)
            simp only [Act.put, List.getElem_toArray, List.getElem_cons_succ, List.getElem_cons_zero, List.setIfInBounds_toArray, List.set_cons_succ, List.set_cons_zero] at ha'
            subst ha'
            refine wpAnyH_next (i := 28) (v := ObV o2) rfl (by kernel_rfl) (by kernel_rfl) (by kernel_rfl) (fun _ _ _ h => h) (by kernel_rfl) (fun W1 hW1 => by exact exec_load_el (E := eOb) Tryz.underlying30 rfl sizeO rfl rfl (ElAt.below q3 hW1)) hS0 (fun a' ha' => ?_)
            simp only [Act.put, List.getElem_toArray, List.getElem_cons_succ, List.getElem_cons_zero, List.setIfInBounds_toArray, List.set_cons_succ, List.set_cons_zero] at ha'
            subst ha'
            refine wpAnyH_want (i := 27) (by kernel_rfl) rfl (by kernel_rfl) (fun K hK => ?_)
            unfold Oper.wp
            go_simp
            refine (oLinks_es _ o1 p (HO1.out.below hS0) SP.out).mono ?_
            rintro e y1 ⟨Al1, cl1, hes1, rfl, hy1⟩
            have hSy1 : Below w14.heap.size w14 y1 := hS0.trans (hy1.mono hS0.size)
            clear hy1
            refine hK _ _ hSy1 ?_
            clear hK K
            refine wpAnyH_want (i := 29) (by kernel_rfl) rfl (by kernel_rfl) (fun K hK => ?_)
            unfold Oper.wp
            go_simp
            refine (oLinks_es _ o2 p (HO2.out.below hSy1) SP.out).mono ?_
            rintro e y2 ⟨Al2, cl2, hes2, rfl, hy2⟩
            have hSy2 : Below w14.heap.size w14 y2 := hSy1.trans (hy2.mono hSy1.size)
            replace hes1 := hes1.below hy2
            clear hy2
            refine hK _ _ hSy2 ?_
            clear hK K
            refine wpAnyH_want (i := 30) (by kernel_rfl) rfl (by kernel_rfl) (fun K hK => ?_)
            unfold Oper.wp
            go_simp
            refine (r7Lists_same _ _ _ _ hes1 hes2 HLL.out).mono ?_
            rintro e y3 ⟨rfl, hy3⟩
            have hSy3 : Below w14.heap.size w14 y3 := hSy2.trans (hy3.mono hSy2.size)
            replace hes1 := hes1.below hy3
            replace hes2 := hes2.below hy3
            clear hy3
            refine hK _ _ hSy3 ?_
            clear hK K
            refine wpAnyH_next (i := 31) (v := .bool true) rfl (by kernel_rfl) (by kernel_rfl) (by kernel_rfl) (fun _ _ _ h => h) (by kernel_rfl) (fun W1 hW1 => by go_simp; done) hSy3 (fun a' ha' => ?_)
            simp only [Act.put, List.getElem_toArray, List.getElem_cons_succ, List.getElem_cons_zero, List.setIfInBounds_toArray, List.set_cons_succ, List.set_cons_zero] at ha'
            subst ha'
            refine wpAnyH_next (i := 32) (v := .bool true) rfl (by kernel_rfl) (by kernel_rfl) (by kernel_rfl) (fun _ _ _ h => h) (by kernel_rfl) (fun W1 hW1 => by go_simp; done) hSy3 (fun a' ha' => ?_)
            simp only [Act.put, List.getElem_toArray, List.getElem_cons_succ, List.getElem_cons_zero, List.setIfInBounds_toArray, List.set_cons_succ, List.set_cons_zero] at ha'
            subst ha'
            refine wpAnyH_next (i := 33) (v := .bool true) rfl (by kernel_rfl) (by kernel_rfl) (by kernel_rfl) (fun _ _ _ h => h) (by kernel_rfl) (fun W1 hW1 => by go_simp; done) hSy3 (fun a' ha' => ?_)
            simp only [Act.put, List.getElem_toArray, List.getElem_cons_succ, List.getElem_cons_zero, List.setIfInBounds_toArray, List.set_cons_succ, List.set_cons_zero] at ha'
            subst ha'
            refine wpAnyH_next (i := 34) (v := .bool true) rfl (by kernel_rfl) (by kernel_rfl) (by kernel_rfl) (fun _ _ _ h => h) (by kernel_rfl) (fun W1 hW1 => by go_simp; done) hSy3 (fun a' ha' => ?_)
            simp only [Act.put, List.getElem_toArray, List.getElem_cons_succ, List.getElem_cons_zero, List.setIfInBounds_toArray, List.set_cons_succ, List.set_cons_zero] at ha'
            subst ha'
            refine wpAnyH_next (i := 35) (v := ObV o2) rfl (by kernel_rfl) (by kernel_rfl) (by kernel_rfl) (fun _ _ _ h => h) (by kernel_rfl) (fun W1 hW1 => by exact exec_load_el (E := eOb) Tryz.underlying30 rfl sizeO rfl rfl (ElAt.below q3 hW1)) hSy3 (fun a' ha' => ?_)
            simp only [Act.put, List.getElem_toArray, List.getElem_cons_succ, List.getElem_cons_zero, List.setIfInBounds_toArray, List.set_cons_succ, List.set_cons_zero] at ha'
            subst ha'
            refine wpAnyH_next (i := 36) (v := ObV o1) rfl (by kernel_rfl) (by kernel_rfl) (by kernel_rfl) (fun _ _ _ h => h) (by kernel_rfl) (fun W1 hW1 => by exact exec_load_el (E := eOb) Tryz.underlying30 rfl sizeO rfl rfl (ElAt.below q2 hW1)) hSy3 (fun a' ha' => ?_)
            simp only [Act.put, List.getElem_toArray, List.getElem_cons_succ, List.getElem_cons_zero, List.setIfInBounds_toArray, List.set_cons_succ, List.set_cons_zero] at ha'
            subst ha'
            refine wpAnyH_next (i := 38) (v := .bool true) rfl (by kernel_rfl) (by kernel_rfl) (by kernel_rfl) (fun _ _ _ h => h) (by kernel_rfl) (fun W1 hW1 => by go_simp; done) hSy3 (fun a' ha' => ?_)
            simp only [Act.put, List.getElem_toArray, List.getElem_cons_succ, List.getElem_cons_zero, List.setIfInBounds_toArray, List.set_cons_succ, List.set_cons_zero] at ha'
            subst ha'
            refine wpAnyH_want (i := 37) (by kernel_rfl) rfl (by kernel_rfl) (fun K hK => ?_)
            unfold Oper.wp
            go_simp
            refine (oSame_self _ o2 o1 p (HO2.out.below hSy3) (HO1.out.below hSy3) SP.out).mono ?_
            rintro e y4 ⟨rfl, hy4⟩
            have hSy4 : Below w14.heap.size w14 y4 := hSy3.trans (hy4.mono hSy3.size)
            replace hes1 := hes1.below hy4
            replace hes2 := hes2.below hy4
            clear hy4
            refine hK _ _ hSy4 ?_
            clear hK K
            refine wpAnyH_next (i := 39) (v := .bool true) rfl (by kernel_rfl) (by kernel_rfl) (by kernel_rfl) (fun _ _ _ h => h) (by kernel_rfl) (fun W1 hW1 => by go_simp; done) hSy4 (fun a' ha' => ?_)
            simp only [Act.put, List.getElem_toArray, List.getElem_cons_succ, List.getElem_cons_zero, List.setIfInBounds_toArray, List.set_cons_succ, List.set_cons_zero] at ha'
            subst ha'
            refine wpAnyH_next (i := 40) (v := .bool true) rfl (by kernel_rfl) (by kernel_rfl) (by kernel_rfl) (fun _ _ _ h => h) (by kernel_rfl) (fun W1 hW1 => by go_simp; done) hSy4 (fun a' ha' => ?_)
            simp only [Act.put, List.getElem_toArray, List.getElem_cons_succ, List.getElem_cons_zero, List.setIfInBounds_toArray, List.set_cons_succ, List.set_cons_zero] at ha'
            subst ha'
            refine wpAnyH_next (i := 41) (v := .bool true) rfl (by kernel_rfl) (by kernel_rfl) (by kernel_rfl) (fun _ _ _ h => h) (by kernel_rfl) (fun W1 hW1 => by go_simp; done) hSy4 (fun a' ha' => ?_)
            simp only [Act.put, List.getElem_toArray, List.getElem_cons_succ, List.getElem_cons_zero, List.setIfInBounds_toArray, List.set_cons_succ, List.set_cons_zero] at ha'
            subst ha'
            refine wpAnyH_fin (by kernel_rfl) ?_ _
            go_wp2_with fail
            go_ret
            exact ⟨rfl, hB14.trans (hSy4.mono hB14.size)⟩
end Go.Proofs.YtljihmbmjpcfaaaGreat
