/- The chapter's examples, as stage 7's laws ask them. alive, as stage 7's laws ask it; Check. -/
import Derived.Test.YtljihmbmjpcfaaaGreatObParse1
import Derived.Test.YtljihmbmjpcfaaaGreatObBody
import Derived.Test.YtljihmbmjpcfaaaGreatObWrite
import Derived.Test.YtljihmbmjpcfaaaGreatObLinksO
namespace Go.Proofs.YtljihmbmjpcfaaaGreat
open Go.RowKit Go.Shelf Go.Great
set_option maxRecDepth 100000

set_option maxHeartbeats 1000000 in
theorem oOfKind_tree (w : World) (o : Ob) (h2 : o.kd = 2) :
    Calls Tryz.prog 51 #[ObV o] w fun e W' => ∃ g, e = .returned (.iface 163 (.pointer (some ⟨g, 0, none⟩))) ∧ w.heap.size < g ∧ BoxTree W' g o.ev ∧ Below w.heap.size w W' := by
  have b1 : BoxE eOb 30 (w.alloc (.cells (encO o).toArray 30)) w.heap.size o := BoxE.new w o
  have hB1 : Below w.heap.size w (w.alloc (.cells (encO o).toArray 30)) := (Below.refl _ w).alloc (Nat.le_refl _) _
  have c0 := ObAt.kd b1.at
  have c2 := ObAt.ev b1.at
  simp only [Nat.zero_add] at c0 c2
  go_enter Tryz.func51, Tryz.ntmps51
  go_wp2_with fail
  go_ret
  refine ⟨_, rfl, Nat.lt_succ_self _, ?_, hB1.alloc hB1.size _⟩
  have := Boxed.new (w.alloc (.cells (encO o).toArray 30)) 165 o.ev.v
  rwa [World.size_alloc] at this
set_option maxHeartbeats 1000000 in
theorem oParse_21 (w : World) (sv : Value) (hs : Bs w sv [2, 1]) :
    Calls Tryz.prog 14 #[sv] w fun e W' => e = .returned (.tuple #[ObV zeroOb, .int .i64 70]) ∧ Below w.heap.size w W' := by
  have b0 := BoxE.new (E := eOb) (t := 30) w zeroOb
  have hB0 : Below w.heap.size w (w.alloc (.cells (eOb.enc zeroOb).toArray 30)) := (Below.refl _ w).alloc (Nat.le_refl _) _
  have hs0 := hs.below hB0
  obtain ⟨A, c, rfl, _⟩ := hs.form
  go_enter Tryz.func14, Tryz.ntmps14
  go_wp2_with (refine wpList_alloc_e (E := eOb) (z := zeroOb) zeroOb_run rfl rfl ?_)
  have hw1s : (w.alloc (.cells (eOb.enc zeroOb).toArray 30)).heap.size = w.heap.size + 1 := World.size_alloc _ _
  generalize w.alloc (.cells (eOb.enc zeroOb).toArray 30) = w1 at *
  refine (From_any w1 _ [2, 1] hs0 (by simp)).mono ?_
  rintro e w2 ⟨gs, v, rfl, hsrc, hgs, hvb, h2⟩
  replace b0 := b0.below h2
  have hB2 := hB0.trans (h2.mono hB0.size)
  clear hs hs0
  go_wp2_with fail
  have hlt := hsrc.box.lt
  have hBr : Below w2.heap.size w2 (w2.alloc (.cells #[.pointer (some ⟨gs, 0, none⟩), .bool false] 104)) := (Below.refl _ w2).alloc (Nat.le_refl _) _
  have hat : RdAt (w2.alloc (.cells #[.pointer (some ⟨gs, 0, none⟩), .bool false] 104)) w2.heap.size gs v [2, 1] false :=
    ⟨hsrc.kept (Kept.of_below hBr (Nat.le_refl _) (fun _ => False)) (fun h => h) (fun _ _ h => h), heap_alloc_new w2 _, by omega, fun j hj => by have := (hsrc.row j hj).1; omega⟩
  have b0r : BoxOb _ w.heap.size zeroOb := b0.below hBr
  have hb0 := b0.lt
  have hB3 := hB2.trans (hBr.mono hB2.size)
  generalize w2.alloc (.cells #[.pointer (some ⟨gs, 0, none⟩), .bool false] 104) = w3 at *
  have VB := Lib.hid hvb
  have hw1 := h2.size
  clear hvb hsrc b0 h2 hBr
  refine (rKind_any w3 w2.heap.size gs v [2, 1] false hat (by simp)).mono ?_
  rintro e w4 ⟨rfl, hout⟩
  rw [show rdNum 4 [2, 1] false = (2, [1], false) by decide +kernel] at hout ⊢
  dsimp only at hout ⊢
  obtain ⟨v4, hat4, hk4, hv4⟩ := hout
  have b04 : BoxOb w4 w.heap.size zeroOb := b0r.kept hk4 (by omega)
  have hB4 : Below w.heap.size w w4 := hB3.trans (hk4.below (fun j _ h => by
    rcases h with h | h
    · omega
    · omega) hB3.size)
  have V4 := Lib.hid (show ∀ j, v4.ownBlock = some j → w1.heap.size ≤ j from fun j hj => VB.out j (hv4 ▸ hj))
  clear hk4 hv4 hat b0r hB3 VB
  have HW1 := Lib.hid hw1s
  clear hw1s
  have htr := hat4.src.box.lt
  go_wp2_with (refine wpList_build_of rfl _ _ rfl #[(0, .int .i64 2)] (by go_simp; done) _ (build_kd _ 2) ?_)
  refine (oOfKind_tree w4 { zeroOb with kd := 2 } rfl).mono ?_
  rintro e w5 ⟨g, rfl, hg, hb, h5⟩
  have n1 : g ≠ w2.heap.size := by have := hat4.lt; omega
  have n2 : g ≠ gs := by omega
  have n3 : ∀ j, v4.ownBlock = some j → j ≠ g := fun j hj => by have := (hat4.src.row j hj).1; omega
  have hgw : w.heap.size < g := by have := b04.lt; omega
  replace hat4 := hat4.below h5
  replace b04 : BoxOb w5 w.heap.size zeroOb := b04.below h5
  replace hB4 := hB4.trans (h5.mono hB4.size)
  clear h5
  go_wp2_with fail
  refine (treeRead_one w5 w2.heap.size gs g v4 _ hat4 hb n1 n2 n3).mono ?_
  rintro e w6 ⟨rfl, ⟨v6, hat6⟩, hk6⟩
  have hc6 := hat6.c1
  have b06 : BoxOb w6 w.heap.size zeroOb := b04.kept hk6 (by have := HW1.out; omega)
  have hB6 : Below w.heap.size w w6 := hB4.trans (hk6.below (fun j _ h => by have := HW1.out; omega) hB4.size)
  clear hk6 hat4 b04 hat6 hb
  go_wp2_with (first
    | (refine wpList_build_of rfl _ _ rfl #[] (by go_simp; done) _ (build_ob0 _) ?_)
    | (refine wpList_store_e (E := eOb) sizeO rfl (.tmp 2) (.tmp 30) rfl rfl b06 rfl ?_; intro w7 b7 k7))
  refine bodyPost_ret (results_e2 (E := eOb) Tryz.underlying30 rfl sizeO rfl _ rfl b7) rfl ?_
  exact ⟨rfl, hB6.trans (k7.below (fun j _ e => by subst e; exact Nat.le_refl _) hB6.size)⟩
set_option maxHeartbeats 1000000 in
/-- The bytes of a blob that may be. -/
theorem oEncode_blob (w : World) (o : Ob) (p : Pl) (ho : ObIs w o p) (sp : PlSmall p) (hm : mayB p = true) (hk : p.kd = 1) :
    Calls Tryz.prog 13 #[ObV o] w fun e W' => ∃ r, e = .returned (.tuple #[r, .int .i64 0]) ∧ W'.ownsRow w.heap.size 5 1 r ([1] ++ (lebB p.d.length ++ p.d)).length (([1] ++ (lebB p.d.length ++ p.d)).map B8) ∧ Below w.heap.size w W' := by
  have HO := Lib.hid ho
  have HM := Lib.hid hm
  have HK := Lib.hid hk
  clear ho hm hk
  go_enter Tryz.func13, Tryz.ntmps13
  go_wp2_with (first
    | (refine wpList_box_e (E := eOb) rfl (.tmp 0) rfl (x := o) rfl ?_; intro w1 b1 hB1)
    | (refine wpList_load_e (E := eOb) Tryz.underlying30 rfl sizeO rfl (.tmp 1) rfl rfl b1.at ?_))
  refine (oBodyOf_any _ o p (HO.out.below hB1) sp).mono ?_
  rintro e w2 ⟨v, rfl, hout, h2⟩
  have hB2 : Below w.heap.size w w2 := hB1.trans (h2.mono hB1.size)
  replace HO := Lib.hid (HO.out.below hB2)
  replace b1 : BoxOb w2 w.heap.size o := b1.below h2
  clear h2
  rcases hout with ⟨_, hbody⟩ | ⟨hm, _⟩
  · cases hbody with
    | blob g hk hb =>
      have c0 := b1.obc.kd
      rw [hk] at c0
      clear hk
      have hB3 : Below w2.heap.size w2 (w2.alloc (.cells #[.slice none 0 0] 96)) := (Below.refl _ w2).alloc (Nat.le_refl _) _
      have c0' := cellB hB3 c0
      have hat : WrSinkAt (w2.alloc (.cells #[.slice none 0 0] 96)) w2.heap.size w2.heap.size (.slice none 0 0) [] := ⟨Boxed.new w2 _ _, World.ownsRow_nil _ _ _ _⟩
      have hsz : (w2.alloc (.cells #[.slice none 0 0] 96)).heap.size = w2.heap.size + 1 := World.size_alloc _ _
      have hgb := hb.lt
      have HSZ := Lib.hid hsz
      clear hsz c0 b1
      go_wp2_with fail
      generalize w2.alloc (.cells #[.slice none 0 0] 96) = w3 at *
      refine (wKind_any w3 w2.heap.size w2.heap.size _ [] (by have := HSZ.out; omega) hat 1 (by decide) (by simp)).mono ?_
      rintro e w4 ⟨rfl, v4, hat4, hk4, hv4⟩
      rw [show ([] : List UInt8) ++ lebB 1 = [1] by decide] at hat4
      have hk4' : Kept (fun j => j = w2.heap.size) w3 w4 := hk4.mono (fun j _ h => by rcases h with h | h; exact h; cases h)
      have hb4 : BoxBlob w4 g o.dv := hk4'.boxed (boxedB hb hB3) (by omega)
      have hs4 : Bs w4 o.dv.v p.d := hk4'.bs1 (HO.out.d.below hB3) (fun hx j hj e => by have := HO.out.d.lt hx j hj; omega)
      have HV4 := Lib.hid (show ∀ j, v4.ownBlock = some j → w2.heap.size < j from fun j hj => by
        rcases hv4 with h | h
        · rw [h] at hj; cases hj
        · have := h j hj; have := HSZ.out; omega)
      have hB4 : Below w.heap.size w w4 := (hB2.trans (hB3.mono hB2.size)).trans (hk4'.below (fun j _ e => by subst e; exact hB2.size) (by have := hB2.size; have := hB3.size; omega))
      have hsz4 := hk4'.size
      clear hk4 hv4 hat hk4'
      go_wp2_with fail
      refine (blobWrite_any w4 w2.heap.size w2.heap.size g v4 [1] (by have := HSZ.out; omega) hat4 o.dv p.d hb4 hs4 (fun hx j hj => ⟨by have := HO.out.d.lt hx j hj; omega, fun e => by have := HV4.out j e; have := HO.out.d.lt hx j hj; omega⟩) (by have := sp.d; simp; omega)).mono ?_
      rintro e w5 ⟨rfl, v5, hat5, hk5, hv5⟩
      have hB5 : Below w.heap.size w w5 := hB4.trans (hk5.below (fun j _ h => by
        rcases h with h | h
        · subst h; exact hB2.size
        · have := HV4.out j h
          have := hB2.size
          omega) hB4.size)
      clear hk5 hv5 hat4 hb4 hs4 hB4 hsz4
      go_wp2_with fail
      refine (WrSinkAll_any w2.heap.size w5 v5 _ _ hat5 (by have := sp.d; have := lebB_u64 (n := p.d.length) (by omega); simp; omega)).mono ?_
      rintro e w6 ⟨r, rfl, hrow, h6⟩
      obtain ⟨A, n, c, rfl⟩ := owns_slice hrow
      have HR := Lib.hid hrow
      clear hrow hat5
      go_wp2_with fail
      go_ret2
      exact ⟨_, rfl, owns_base HR.out hB5.size, hB5.trans (h6.mono hB5.size)⟩
    | tree g hk hb => have := HO.out.kd; have := HK.out; omega
    | commit g hk hb => have := HO.out.kd; have := HK.out; omega
    | tag g hk hb => have := HO.out.kd; have := HK.out; omega
    | none hk => have := HO.out.kd; have := HK.out; omega
  · rw [HM.out] at hm
    cases hm
set_option maxHeartbeats 1000000 in
/-- The bytes of the tree without entries. -/
theorem oEncode_tree0 (w : World) (o : Ob) (p : Pl) (ho : ObIs w o p) (sp : PlSmall p) (hm : mayB p = true) (hk : p.kd = 2) (he : p.es = []) :
    Calls Tryz.prog 13 #[ObV o] w fun e W' => ∃ r, e = .returned (.tuple #[r, .int .i64 0]) ∧ W'.ownsRow w.heap.size 5 1 r ([2, 0] : List UInt8).length (([2, 0] : List UInt8).map B8) ∧ Below w.heap.size w W' := by
  have HO := Lib.hid ho
  have HM := Lib.hid hm
  have HK := Lib.hid hk
  have HE := Lib.hid he
  clear ho hm hk he
  go_enter Tryz.func13, Tryz.ntmps13
  go_wp2_with (first
    | (refine wpList_box_e (E := eOb) rfl (.tmp 0) rfl (x := o) rfl ?_; intro w1 b1 hB1)
    | (refine wpList_load_e (E := eOb) Tryz.underlying30 rfl sizeO rfl (.tmp 1) rfl rfl b1.at ?_))
  refine (oBodyOf_any _ o p (HO.out.below hB1) sp).mono ?_
  rintro e w2 ⟨v, rfl, hout, h2⟩
  have hB2 : Below w.heap.size w w2 := hB1.trans (h2.mono hB1.size)
  replace HO := Lib.hid (HO.out.below hB2)
  replace b1 : BoxOb w2 w.heap.size o := b1.below h2
  clear h2
  rcases hout with ⟨_, hbody⟩ | ⟨hm, _⟩
  · cases hbody with
    | tree g hk hb =>
      have c0 := b1.obc.kd
      rw [hk] at c0
      clear hk
      have hB3 : Below w2.heap.size w2 (w2.alloc (.cells #[.slice none 0 0] 96)) := (Below.refl _ w2).alloc (Nat.le_refl _) _
      have c0' := cellB hB3 c0
      have hat : WrSinkAt (w2.alloc (.cells #[.slice none 0 0] 96)) w2.heap.size w2.heap.size (.slice none 0 0) [] := ⟨Boxed.new w2 _ _, World.ownsRow_nil _ _ _ _⟩
      have hsz : (w2.alloc (.cells #[.slice none 0 0] 96)).heap.size = w2.heap.size + 1 := World.size_alloc _ _
      have hgb := hb.lt
      obtain ⟨Ae, ce, hev⟩ : ∃ A c, o.ev.v = .slice A 0 c := by
        obtain ⟨A, c, h, _⟩ := HO.out.es.form
        rw [HE.out] at h
        exact ⟨A, c, h⟩
      unfold BoxTree at hb
      rw [hev] at hb
      clear hev
      have HSZ := Lib.hid hsz
      clear hsz c0 b1
      go_wp2_with fail
      generalize w2.alloc (.cells #[.slice none 0 0] 96) = w3 at *
      refine (wKind_any w3 w2.heap.size w2.heap.size _ [] (by have := HSZ.out; omega) hat 2 (by decide) (by simp)).mono ?_
      rintro e w4 ⟨rfl, v4, hat4, hk4, hv4⟩
      rw [show ([] : List UInt8) ++ lebB 2 = [2] by decide] at hat4
      have hk4' : Kept (fun j => j = w2.heap.size) w3 w4 := hk4.mono (fun j _ h => by rcases h with h | h; exact h; cases h)
      have hb4 : Boxed w4 g 165 (.slice Ae 0 ce) := hk4'.boxed (boxedB hb hB3) (by omega)
      have HV4 := Lib.hid (show ∀ j, v4.ownBlock = some j → w2.heap.size < j from fun j hj => by
        rcases hv4 with h | h
        · rw [h] at hj; cases hj
        · have := h j hj; have := HSZ.out; omega)
      have hB4 : Below w.heap.size w w4 := (hB2.trans (hB3.mono hB2.size)).trans (hk4'.below (fun j _ e => by subst e; exact hB2.size) (by have := hB2.size; have := hB3.size; omega))
      have hsz4 := hk4'.size
      clear hk4 hv4 hat hk4'
      go_wp2_with fail
      refine (treeWrite_none w4 w2.heap.size w2.heap.size g v4 [2] (by have := HSZ.out; omega) hat4 Ae ce hb4 (by simp)).mono ?_
      rintro e w5 ⟨rfl, v5, hat5, hk5, hv5⟩
      have hB5 : Below w.heap.size w w5 := hB4.trans (hk5.below (fun j _ h => by
        rcases h with h | h
        · subst h; exact hB2.size
        · have := HV4.out j h
          have := hB2.size
          omega) hB4.size)
      clear hk5 hv5 hat4 hb4 hB4 hsz4
      go_wp2_with fail
      refine (WrSinkAll_any w2.heap.size w5 v5 _ _ hat5 (by simp)).mono ?_
      rintro e w6 ⟨r, rfl, hrow, h6⟩
      obtain ⟨A, n, c, rfl⟩ := owns_slice hrow
      have HR := Lib.hid hrow
      clear hrow hat5
      go_wp2_with fail
      go_ret2
      exact ⟨_, rfl, owns_base HR.out hB5.size, hB5.trans (h6.mono hB5.size)⟩
    | blob g hk hb => have := HO.out.kd; have := HK.out; omega
    | commit g hk hb => have := HO.out.kd; have := HK.out; omega
    | tag g hk hb => have := HO.out.kd; have := HK.out; omega
    | none hk => have := HO.out.kd; have := HK.out; omega
  · rw [HM.out] at hm
    cases hm
end Go.Proofs.YtljihmbmjpcfaaaGreat
namespace Go.Proofs.YtljihmbmjpcfaaaGreat
open Go.RowKit Go.Shelf Go.Great
set_option maxRecDepth 100000

def plAB : Pl := ⟨1, [97, 98], [], zeroID, [], zeroLk, []⟩
def plT0 : Pl := ⟨2, [], [], zeroID, [], zeroLk, []⟩
theorem mayAB : mayB plAB = true := by decide +kernel
theorem mayT0 : mayB plT0 = true := by decide +kernel
theorem bs_two (w : World) (a b : UInt8) (t : TypeId) : Bs (w.alloc (.cells #[B8 a, B8 b] t)) (.slice (some ⟨w.heap.size, 0, none⟩) 2 2) [a, b] := by
  refine .inr ⟨⟨w.heap.size, 0, none⟩, 2, rfl, Nat.le_refl _, fun i y hi => ?_⟩
  rw [add_plain]
  match i, hi with
  | 0, hi => simp at hi; subst hi; simp
  | 1, hi => simp at hi; subst hi; simp
theorem encode_ab (w : World) (s : Sl) (hs : Bs w s.v [97, 98]) : Calls Tryz.prog 13 #[ObV (blobOb s)] w fun e W' => ∃ A c, e = .returned (.tuple #[.slice A 4 c, .int .i64 0]) ∧ Bs W' (.slice A 4 c) [1, 2, 97, 98] ∧ Below w.heap.size w W' :=
  (oEncode_blob w (blobOb s) plAB (obIs_blob hs) ⟨by decide, by decide, by decide⟩ mayAB rfl).mono fun e W' ⟨r, h1, h2, h3⟩ => by
    have hb := Bs.of_owns h2
    rw [show ([1] ++ (lebB plAB.d.length ++ plAB.d) : List UInt8) = [1, 2, 97, 98] by decide +kernel] at hb
    obtain ⟨A, c, rfl, _⟩ := hb.form
    exact ⟨A, c, h1, hb, h3⟩
theorem encode_t0 (w : World) : Calls Tryz.prog 13 #[ObV { zeroOb with kd := 2 }] w fun e W' => ∃ A c, e = .returned (.tuple #[.slice A 2 c, .int .i64 0]) ∧ Bs W' (.slice A 2 c) [2, 0] ∧ Below w.heap.size w W' :=
  (oEncode_tree0 w { zeroOb with kd := 2 } plT0 ⟨rfl, Bs.nil w, Es.nil w, rfl, Is.nil w, rfl, rfl⟩ ⟨by decide, by decide, by decide⟩ mayT0 rfl rfl).mono fun e W' ⟨r, h1, h2, h3⟩ => by
    have hb := Bs.of_owns h2
    obtain ⟨A, c, rfl, _⟩ := hb.form
    exact ⟨A, c, h1, hb, h3⟩
set_option maxHeartbeats 2000000 in
theorem alive7_any (w : World) : Calls Tryz.prog 11 #[] w fun e W' => e = .returned (.bool true) ∧ Below w.heap.size w W' := by
  obtain ⟨w1, hcc, s1, hB1⟩ := const_bytes w [97, 98] 2 rfl #[.int .u8 97, .int .u8 98] rfl w.heap.size rfl
  go_enter Tryz.func11, Tryz.ntmps11
  go_wp2_with (refine wpList_build_of rfl _ _ rfl #[(0, .int .i64 1), (1, (⟨some ⟨w.heap.size, 0, none⟩, 2, 2⟩ : Sl).v)] (by go_simp; done) _ (build_blobO _ 1 ⟨some ⟨w.heap.size, 0, none⟩, 2, 2⟩) ?_)
  refine (encode_ab _ ⟨some ⟨w.heap.size, 0, none⟩, 2, 2⟩ s1).mono ?_
  rintro e w2 ⟨A1, c1, rfl, hb1, h2⟩
  have hB2 := hB1.trans (h2.mono hB1.size)
  clear h2 s1 hB1
  go_wp2_with (refine wpList_build_of rfl _ _ rfl #[(0, .int .i64 2)] (by go_simp; done) _ (build_kd _ 2) ?_)
  refine (encode_t0 w2).mono ?_
  rintro e w3 ⟨A2, c2, rfl, hb2, h3⟩
  have hB3 := hB2.trans (h3.mono hB2.size)
  replace hb1 := hb1.below h3
  clear h3 hB2
  have s3 : Bs (w3.alloc (.cells #[.int .u8 2, .int .u8 1] 5)) (.slice (some ⟨w3.heap.size, 0, none⟩) 2 2) [2, 1] := bs_two w3 2 1 5
  have hB4' : Below w3.heap.size w3 (w3.alloc (.cells #[.int .u8 2, .int .u8 1] 5)) := (Below.refl _ w3).alloc (Nat.le_refl _) _
  go_wp2_with fail
  refine (oParse_21 _ _ s3).mono ?_
  rintro e w4 ⟨rfl, h4⟩
  have hB4 := hB3.trans ((hB4'.trans (h4.mono hB4'.size)).mono hB3.size)
  replace hb1 := (hb1.below hB4').below h4
  replace hb2 := (hb2.below hB4').below h4
  clear h4 hB4' s3 hB3
  go_wp2_with (first
    | (refine wpList_alloc_e (E := eOb) (z := zeroOb) zeroOb_run rfl rfl ?_)
    | (refine wpList_store_e (E := eOb) sizeO rfl (.tmp 5) (.tmp 22) rfl rfl (BoxE.new (E := eOb) _ _) rfl ?_; intro w5 b5 k5; have h5 : Below w4.heap.size w4 w5 := (((Kept.refl (· = w4.heap.size) w4).alloc _).same k5).below (fun j _ e => by subst e; exact Nat.le_refl _) (Nat.le_refl _); have q1 := run_string_bs (P := Tryz.prog) w5 22 9 5 Tryz.underlying22 Tryz.underlying5 Tryz.underlying9 (hb1.below h5); have q2 := run_string_bs (P := Tryz.prog) w5 22 9 5 Tryz.underlying22 Tryz.underlying5 Tryz.underlying9 (hb2.below h5)))
  go_ret
  exact ⟨rfl, hB4.trans (h5.mono hB4.size)⟩
end Go.Proofs.YtljihmbmjpcfaaaGreat
