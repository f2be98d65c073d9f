/- The chapter's examples, as stage 7's laws ask them. alive, as stage 7's laws ask it; Check. Parse of any bytes, and Kind (tools/genobparse.py). -/
import Derived.Test.YtljihmbmjpcfaaaGreatObRdId
import Derived.Test.YtljihmbmjpcfaaaGreatObBody
import Derived.Test.YtljihmbmjpcfaaaGreatObWrite
import Derived.Test.YtljihmbmjpcfaaaGreatObLinksO
import Derived.Test.YtljihmbmjpcfaaaGreatObRdBody
namespace Go.Proofs.YtljihmbmjpcfaaaGreat
open Go.RowKit Go.Shelf Go.Great
set_option maxRecDepth 100000

set_option maxHeartbeats 1000000 in
theorem oOfKind_tree (w : World) (o : Ob) (h2 : o.kd = 2) :
    Calls Tryz.prog 51 #[ObV o] w fun e W' => ∃ g, e = .returned (.iface 163 (.pointer (some ⟨g, 0, none⟩))) ∧ w.heap.size < g ∧ BoxTree W' g o.ev ∧ Below w.heap.size w W' := by
  have b1 : BoxE eOb 30 (w.alloc (.cells (encO o).toArray 30)) w.heap.size o := BoxE.new w o
  have hB1 : Below w.heap.size w (w.alloc (.cells (encO o).toArray 30)) := (Below.refl _ w).alloc (Nat.le_refl _) _
  have c0 := ObAt.kd b1.at
  have c2 := ObAt.ev b1.at
  simp only [Nat.zero_add] at c0 c2
  go_enter Tryz.func51, Tryz.ntmps51
  go_wp2_with fail
  go_ret
  refine ⟨_, rfl, Nat.lt_succ_self _, ?_, hB1.alloc hB1.size _⟩
  have := Boxed.new (w.alloc (.cells (encO o).toArray 30)) 165 o.ev.v
  rwa [World.size_alloc] at this
set_option maxHeartbeats 1000000 in
theorem oParse_21 (w : World) (sv : Value) (hs : Bs w sv [2, 1]) :
    Calls Tryz.prog 14 #[sv] w fun e W' => e = .returned (.tuple #[ObV zeroOb, .int .i64 70]) ∧ Below w.heap.size w W' := by
  have b0 := BoxE.new (E := eOb) (t := 30) w zeroOb
  have hB0 : Below w.heap.size w (w.alloc (.cells (eOb.enc zeroOb).toArray 30)) := (Below.refl _ w).alloc (Nat.le_refl _) _
  have hs0 := hs.below hB0
  obtain ⟨A, c, rfl, _⟩ := hs.form
  go_enter Tryz.func14, Tryz.ntmps14
  go_wp2_with (refine wpList_alloc_e (E := eOb) (z := zeroOb) zeroOb_run rfl rfl ?_)
  have hw1s : (w.alloc (.cells (eOb.enc zeroOb).toArray 30)).heap.size = w.heap.size + 1 := World.size_alloc _ _
  generalize w.alloc (.cells (eOb.enc zeroOb).toArray 30) = w1 at *
  refine (From_any w1 _ [2, 1] hs0 (by simp)).mono ?_
  rintro e w2 ⟨gs, v, rfl, hsrc, hgs, hvb, h2⟩
  replace b0 := b0.below h2
  have hB2 := hB0.trans (h2.mono hB0.size)
  clear hs hs0
  go_wp2_with fail
  have hlt := hsrc.box.lt
  have hBr : Below w2.heap.size w2 (w2.alloc (.cells #[.pointer (some ⟨gs, 0, none⟩), .bool false] 104)) := (Below.refl _ w2).alloc (Nat.le_refl _) _
  have hat : RdAt (w2.alloc (.cells #[.pointer (some ⟨gs, 0, none⟩), .bool false] 104)) w2.heap.size gs v [2, 1] false :=
    ⟨hsrc.kept (Kept.of_below hBr (Nat.le_refl _) (fun _ => False)) (fun h => h) (fun _ _ h => h), heap_alloc_new w2 _, by omega, fun j hj => by have := (hsrc.row j hj).1; omega⟩
  have b0r : BoxOb _ w.heap.size zeroOb := b0.below hBr
  have hb0 := b0.lt
  have hB3 := hB2.trans (hBr.mono hB2.size)
  generalize w2.alloc (.cells #[.pointer (some ⟨gs, 0, none⟩), .bool false] 104) = w3 at *
  have VB := Lib.hid hvb
  have hw1 := h2.size
  clear hvb hsrc b0 h2 hBr
  refine (rKind_any w3 w2.heap.size gs v [2, 1] false hat (by simp)).mono ?_
  rintro e w4 ⟨rfl, hout⟩
  rw [show rdNum 4 [2, 1] false = (2, [1], false) by decide +kernel] at hout ⊢
  dsimp only at hout ⊢
  obtain ⟨v4, hat4, hk4, hv4⟩ := hout
  have b04 : BoxOb w4 w.heap.size zeroOb := b0r.kept hk4 (by omega)
  have hB4 : Below w.heap.size w w4 := hB3.trans (hk4.below (fun j _ h => by
    rcases h with h | h
    · omega
    · omega) hB3.size)
  have V4 := Lib.hid (show ∀ j, v4.ownBlock = some j → w1.heap.size ≤ j from fun j hj => VB.out j (hv4 ▸ hj))
  clear hk4 hv4 hat b0r hB3 VB
  have HW1 := Lib.hid hw1s
  clear hw1s
  have htr := hat4.src.box.lt
  go_wp2_with (refine wpList_build_of rfl _ _ rfl #[(0, .int .i64 2)] (by go_simp; done) _ (build_kd _ 2) ?_)
  refine (oOfKind_tree w4 { zeroOb with kd := 2 } rfl).mono ?_
  rintro e w5 ⟨g, rfl, hg, hb, h5⟩
  have n1 : g ≠ w2.heap.size := by have := hat4.lt; omega
  have n2 : g ≠ gs := by omega
  have n3 : ∀ j, v4.ownBlock = some j → j ≠ g := fun j hj => by have := (hat4.src.row j hj).1; omega
  have hgw : w.heap.size < g := by have := b04.lt; omega
  replace hat4 := hat4.below h5
  replace b04 : BoxOb w5 w.heap.size zeroOb := b04.below h5
  replace hB4 := hB4.trans (h5.mono hB4.size)
  clear h5
  go_wp2_with fail
  refine (treeRead_one w5 w2.heap.size gs g v4 _ hat4 hb n1 n2 n3).mono ?_
  rintro e w6 ⟨rfl, ⟨v6, hat6⟩, hk6⟩
  have hc6 := hat6.c1
  have b06 : BoxOb w6 w.heap.size zeroOb := b04.kept hk6 (by have := HW1.out; omega)
  have hB6 : Below w.heap.size w w6 := hB4.trans (hk6.below (fun j _ h => by have := HW1.out; omega) hB4.size)
  clear hk6 hat4 b04 hat6 hb
  go_wp2_with (first
    | (refine wpList_build_of rfl _ _ rfl #[] (by go_simp; done) _ (build_ob0 _) ?_)
    | (refine wpList_store_e (E := eOb) sizeO rfl (.tmp 2) (.tmp 30) rfl rfl b06 rfl ?_; intro w7 b7 k7))
  refine bodyPost_ret (results_e2 (E := eOb) Tryz.underlying30 rfl sizeO rfl _ rfl b7) rfl ?_
  exact ⟨rfl, hB6.trans (k7.below (fun j _ e => by subst e; exact Nat.le_refl _) hB6.size)⟩
set_option maxHeartbeats 1000000 in
/-- The bytes of a blob that may be. -/
theorem oEncode_blob (w : World) (o : Ob) (p : Pl) (ho : ObIs w o p) (sp : PlSmall p) (hm : mayB p = true) (hk : p.kd = 1) :
    Calls Tryz.prog 13 #[ObV o] w fun e W' => ∃ r, e = .returned (.tuple #[r, .int .i64 0]) ∧ W'.ownsRow w.heap.size 5 1 r ([1] ++ (lebB p.d.length ++ p.d)).length (([1] ++ (lebB p.d.length ++ p.d)).map B8) ∧ Below w.heap.size w W' := by
  have HO := Lib.hid ho
  have HM := Lib.hid hm
  have HK := Lib.hid hk
  clear ho hm hk
  go_enter Tryz.func13, Tryz.ntmps13
  go_wp2_with (first
    | (refine wpList_box_e (E := eOb) rfl (.tmp 0) rfl (x := o) rfl ?_; intro w1 b1 hB1)
    | (refine wpList_load_e (E := eOb) Tryz.underlying30 rfl sizeO rfl (.tmp 1) rfl rfl b1.at ?_))
  refine (oBodyOf_any _ o p (HO.out.below hB1) sp).mono ?_
  rintro e w2 ⟨v, rfl, hout, h2⟩
  have hB2 : Below w.heap.size w w2 := hB1.trans (h2.mono hB1.size)
  replace HO := Lib.hid (HO.out.below hB2)
  replace b1 : BoxOb w2 w.heap.size o := b1.below h2
  clear h2
  rcases hout with ⟨_, hbody⟩ | ⟨hm, _⟩
  · cases hbody with
    | blob g hk hb =>
      have c0 := b1.obc.kd
      rw [hk] at c0
      clear hk
      have hB3 : Below w2.heap.size w2 (w2.alloc (.cells #[.slice none 0 0] 96)) := (Below.refl _ w2).alloc (Nat.le_refl _) _
      have c0' := cellB hB3 c0
      have hat : WrSinkAt (w2.alloc (.cells #[.slice none 0 0] 96)) w2.heap.size w2.heap.size (.slice none 0 0) [] := ⟨Boxed.new w2 _ _, World.ownsRow_nil _ _ _ _⟩
      have hsz : (w2.alloc (.cells #[.slice none 0 0] 96)).heap.size = w2.heap.size + 1 := World.size_alloc _ _
      have hgb := hb.lt
      have HSZ := Lib.hid hsz
      clear hsz c0 b1
      go_wp2_with fail
      generalize w2.alloc (.cells #[.slice none 0 0] 96) = w3 at *
      refine (wKind_any w3 w2.heap.size w2.heap.size _ [] (by have := HSZ.out; omega) hat 1 (by decide) (by simp)).mono ?_
      rintro e w4 ⟨rfl, v4, hat4, hk4, hv4⟩
      rw [show ([] : List UInt8) ++ lebB 1 = [1] by decide] at hat4
      have hk4' : Kept (fun j => j = w2.heap.size) w3 w4 := hk4.mono (fun j _ h => by rcases h with h | h; exact h; cases h)
      have hb4 : BoxBlob w4 g o.dv := hk4'.boxed (boxedB hb hB3) (by omega)
      have hs4 : Bs w4 o.dv.v p.d := hk4'.bs1 (HO.out.d.below hB3) (fun hx j hj e => by have := HO.out.d.lt hx j hj; omega)
      have HV4 := Lib.hid (show ∀ j, v4.ownBlock = some j → w2.heap.size < j from fun j hj => by
        rcases hv4 with h | h
        · rw [h] at hj; cases hj
        · have := h j hj; have := HSZ.out; omega)
      have hB4 : Below w.heap.size w w4 := (hB2.trans (hB3.mono hB2.size)).trans (hk4'.below (fun j _ e => by subst e; exact hB2.size) (by have := hB2.size; have := hB3.size; omega))
      have hsz4 := hk4'.size
      clear hk4 hv4 hat hk4'
      go_wp2_with fail
      refine (blobWrite_any w4 w2.heap.size w2.heap.size g v4 [1] (by have := HSZ.out; omega) hat4 o.dv p.d hb4 hs4 (fun hx j hj => ⟨by have := HO.out.d.lt hx j hj; omega, fun e => by have := HV4.out j e; have := HO.out.d.lt hx j hj; omega⟩) (by have := sp.d; simp; omega)).mono ?_
      rintro e w5 ⟨rfl, v5, hat5, hk5, hv5⟩
      have hB5 : Below w.heap.size w w5 := hB4.trans (hk5.below (fun j _ h => by
        rcases h with h | h
        · subst h; exact hB2.size
        · have := HV4.out j h
          have := hB2.size
          omega) hB4.size)
      clear hk5 hv5 hat4 hb4 hs4 hB4 hsz4
      go_wp2_with fail
      refine (WrSinkAll_any w2.heap.size w5 v5 _ _ hat5 (by have := sp.d; have := lebB_u64 (n := p.d.length) (by omega); simp; omega)).mono ?_
      rintro e w6 ⟨r, rfl, hrow, h6⟩
      obtain ⟨A, n, c, rfl⟩ := owns_slice hrow
      have HR := Lib.hid hrow
      clear hrow hat5
      go_wp2_with fail
      go_ret2
      exact ⟨_, rfl, owns_base HR.out hB5.size, hB5.trans (h6.mono hB5.size)⟩
    | tree g hk hb => have := HO.out.kd; have := HK.out; omega
    | commit g hk hb => have := HO.out.kd; have := HK.out; omega
    | tag g hk hb => have := HO.out.kd; have := HK.out; omega
    | none hk => have := HO.out.kd; have := HK.out; omega
  · rw [HM.out] at hm
    cases hm
set_option maxHeartbeats 1000000 in
/-- The bytes of the tree without entries. -/
theorem oEncode_tree0 (w : World) (o : Ob) (p : Pl) (ho : ObIs w o p) (sp : PlSmall p) (hm : mayB p = true) (hk : p.kd = 2) (he : p.es = []) :
    Calls Tryz.prog 13 #[ObV o] w fun e W' => ∃ r, e = .returned (.tuple #[r, .int .i64 0]) ∧ W'.ownsRow w.heap.size 5 1 r ([2, 0] : List UInt8).length (([2, 0] : List UInt8).map B8) ∧ Below w.heap.size w W' := by
  have HO := Lib.hid ho
  have HM := Lib.hid hm
  have HK := Lib.hid hk
  have HE := Lib.hid he
  clear ho hm hk he
  go_enter Tryz.func13, Tryz.ntmps13
  go_wp2_with (first
    | (refine wpList_box_e (E := eOb) rfl (.tmp 0) rfl (x := o) rfl ?_; intro w1 b1 hB1)
    | (refine wpList_load_e (E := eOb) Tryz.underlying30 rfl sizeO rfl (.tmp 1) rfl rfl b1.at ?_))
  refine (oBodyOf_any _ o p (HO.out.below hB1) sp).mono ?_
  rintro e w2 ⟨v, rfl, hout, h2⟩
  have hB2 : Below w.heap.size w w2 := hB1.trans (h2.mono hB1.size)
  replace HO := Lib.hid (HO.out.below hB2)
  replace b1 : BoxOb w2 w.heap.size o := b1.below h2
  clear h2
  rcases hout with ⟨_, hbody⟩ | ⟨hm, _⟩
  · cases hbody with
    | tree g hk hb =>
      have c0 := b1.obc.kd
      rw [hk] at c0
      clear hk
      have hB3 : Below w2.heap.size w2 (w2.alloc (.cells #[.slice none 0 0] 96)) := (Below.refl _ w2).alloc (Nat.le_refl _) _
      have c0' := cellB hB3 c0
      have hat : WrSinkAt (w2.alloc (.cells #[.slice none 0 0] 96)) w2.heap.size w2.heap.size (.slice none 0 0) [] := ⟨Boxed.new w2 _ _, World.ownsRow_nil _ _ _ _⟩
      have hsz : (w2.alloc (.cells #[.slice none 0 0] 96)).heap.size = w2.heap.size + 1 := World.size_alloc _ _
      have hgb := hb.lt
      obtain ⟨Ae, ce, hev⟩ : ∃ A c, o.ev.v = .slice A 0 c := by
        obtain ⟨A, c, h, _⟩ := HO.out.es.form
        rw [HE.out] at h
        exact ⟨A, c, h⟩
      unfold BoxTree at hb
      rw [hev] at hb
      clear hev
      have HSZ := Lib.hid hsz
      clear hsz c0 b1
      go_wp2_with fail
      generalize w2.alloc (.cells #[.slice none 0 0] 96) = w3 at *
      refine (wKind_any w3 w2.heap.size w2.heap.size _ [] (by have := HSZ.out; omega) hat 2 (by decide) (by simp)).mono ?_
      rintro e w4 ⟨rfl, v4, hat4, hk4, hv4⟩
      rw [show ([] : List UInt8) ++ lebB 2 = [2] by decide] at hat4
      have hk4' : Kept (fun j => j = w2.heap.size) w3 w4 := hk4.mono (fun j _ h => by rcases h with h | h; exact h; cases h)
      have hb4 : Boxed w4 g 165 (.slice Ae 0 ce) := hk4'.boxed (boxedB hb hB3) (by omega)
      have HV4 := Lib.hid (show ∀ j, v4.ownBlock = some j → w2.heap.size < j from fun j hj => by
        rcases hv4 with h | h
        · rw [h] at hj; cases hj
        · have := h j hj; have := HSZ.out; omega)
      have hB4 : Below w.heap.size w w4 := (hB2.trans (hB3.mono hB2.size)).trans (hk4'.below (fun j _ e => by subst e; exact hB2.size) (by have := hB2.size; have := hB3.size; omega))
      have hsz4 := hk4'.size
      clear hk4 hv4 hat hk4'
      go_wp2_with fail
      refine (treeWrite_none w4 w2.heap.size w2.heap.size g v4 [2] (by have := HSZ.out; omega) hat4 Ae ce hb4 (by simp)).mono ?_
      rintro e w5 ⟨rfl, v5, hat5, hk5, hv5⟩
      have hB5 : Below w.heap.size w w5 := hB4.trans (hk5.below (fun j _ h => by
        rcases h with h | h
        · subst h; exact hB2.size
        · have := HV4.out j h
          have := hB2.size
          omega) hB4.size)
      clear hk5 hv5 hat4 hb4 hB4 hsz4
      go_wp2_with fail
      refine (WrSinkAll_any w2.heap.size w5 v5 _ _ hat5 (by simp)).mono ?_
      rintro e w6 ⟨r, rfl, hrow, h6⟩
      obtain ⟨A, n, c, rfl⟩ := owns_slice hrow
      have HR := Lib.hid hrow
      clear hrow hat5
      go_wp2_with fail
      go_ret2
      exact ⟨_, rfl, owns_base HR.out hB5.size, hB5.trans (h6.mono hB5.size)⟩
    | blob g hk hb => have := HO.out.kd; have := HK.out; omega
    | commit g hk hb => have := HO.out.kd; have := HK.out; omega
    | tag g hk hb => have := HO.out.kd; have := HK.out; omega
    | none hk => have := HO.out.kd; have := HK.out; omega
  · rw [HM.out] at hm
    cases hm
end Go.Proofs.YtljihmbmjpcfaaaGreat
namespace Go.Proofs.YtljihmbmjpcfaaaGreat
open Go.RowKit Go.Shelf Go.Great
set_option maxRecDepth 100000

def plAB : Pl := ⟨1, [97, 98], [], zeroID, [], zeroLk, []⟩
def plT0 : Pl := ⟨2, [], [], zeroID, [], zeroLk, []⟩
theorem mayAB : mayB plAB = true := by decide +kernel
theorem mayT0 : mayB plT0 = true := by decide +kernel
theorem bs_two (w : World) (a b : UInt8) (t : TypeId) : Bs (w.alloc (.cells #[B8 a, B8 b] t)) (.slice (some ⟨w.heap.size, 0, none⟩) 2 2) [a, b] := by
  refine .inr ⟨⟨w.heap.size, 0, none⟩, 2, rfl, Nat.le_refl _, fun i y hi => ?_⟩
  rw [add_plain]
  match i, hi with
  | 0, hi => simp at hi; subst hi; simp
  | 1, hi => simp at hi; subst hi; simp
theorem encode_ab (w : World) (s : Sl) (hs : Bs w s.v [97, 98]) : Calls Tryz.prog 13 #[ObV (blobOb s)] w fun e W' => ∃ A c, e = .returned (.tuple #[.slice A 4 c, .int .i64 0]) ∧ Bs W' (.slice A 4 c) [1, 2, 97, 98] ∧ Below w.heap.size w W' :=
  (oEncode_blob w (blobOb s) plAB (obIs_blob hs) ⟨by decide, by decide, by decide⟩ mayAB rfl).mono fun e W' ⟨r, h1, h2, h3⟩ => by
    have hb := Bs.of_owns h2
    rw [show ([1] ++ (lebB plAB.d.length ++ plAB.d) : List UInt8) = [1, 2, 97, 98] by decide +kernel] at hb
    obtain ⟨A, c, rfl, _⟩ := hb.form
    exact ⟨A, c, h1, hb, h3⟩
theorem encode_t0 (w : World) : Calls Tryz.prog 13 #[ObV { zeroOb with kd := 2 }] w fun e W' => ∃ A c, e = .returned (.tuple #[.slice A 2 c, .int .i64 0]) ∧ Bs W' (.slice A 2 c) [2, 0] ∧ Below w.heap.size w W' :=
  (oEncode_tree0 w { zeroOb with kd := 2 } plT0 ⟨rfl, Bs.nil w, Es.nil w, rfl, Is.nil w, rfl, rfl⟩ ⟨by decide, by decide, by decide⟩ mayT0 rfl rfl).mono fun e W' ⟨r, h1, h2, h3⟩ => by
    have hb := Bs.of_owns h2
    obtain ⟨A, c, rfl, _⟩ := hb.form
    exact ⟨A, c, h1, hb, h3⟩
set_option maxHeartbeats 2000000 in
theorem alive7_any (w : World) : Calls Tryz.prog 11 #[] w fun e W' => e = .returned (.bool true) ∧ Below w.heap.size w W' := by
  obtain ⟨w1, hcc, s1, hB1⟩ := const_bytes w [97, 98] 2 rfl #[.int .u8 97, .int .u8 98] rfl w.heap.size rfl
  go_enter Tryz.func11, Tryz.ntmps11
  go_wp2_with (refine wpList_build_of rfl _ _ rfl #[(0, .int .i64 1), (1, (⟨some ⟨w.heap.size, 0, none⟩, 2, 2⟩ : Sl).v)] (by go_simp; done) _ (build_blobO _ 1 ⟨some ⟨w.heap.size, 0, none⟩, 2, 2⟩) ?_)
  refine (encode_ab _ ⟨some ⟨w.heap.size, 0, none⟩, 2, 2⟩ s1).mono ?_
  rintro e w2 ⟨A1, c1, rfl, hb1, h2⟩
  have hB2 := hB1.trans (h2.mono hB1.size)
  clear h2 s1 hB1
  go_wp2_with (refine wpList_build_of rfl _ _ rfl #[(0, .int .i64 2)] (by go_simp; done) _ (build_kd _ 2) ?_)
  refine (encode_t0 w2).mono ?_
  rintro e w3 ⟨A2, c2, rfl, hb2, h3⟩
  have hB3 := hB2.trans (h3.mono hB2.size)
  replace hb1 := hb1.below h3
  clear h3 hB2
  have s3 : Bs (w3.alloc (.cells #[.int .u8 2, .int .u8 1] 5)) (.slice (some ⟨w3.heap.size, 0, none⟩) 2 2) [2, 1] := bs_two w3 2 1 5
  have hB4' : Below w3.heap.size w3 (w3.alloc (.cells #[.int .u8 2, .int .u8 1] 5)) := (Below.refl _ w3).alloc (Nat.le_refl _) _
  go_wp2_with fail
  refine (oParse_21 _ _ s3).mono ?_
  rintro e w4 ⟨rfl, h4⟩
  have hB4 := hB3.trans ((hB4'.trans (h4.mono hB4'.size)).mono hB3.size)
  replace hb1 := (hb1.below hB4').below h4
  replace hb2 := (hb2.below hB4').below h4
  clear h4 hB4' s3 hB3
  go_wp2_with (first
    | (refine wpList_alloc_e (E := eOb) (z := zeroOb) zeroOb_run rfl rfl ?_)
    | (refine wpList_store_e (E := eOb) sizeO rfl (.tmp 5) (.tmp 22) rfl rfl (BoxE.new (E := eOb) _ _) rfl ?_; intro w5 b5 k5; have h5 : Below w4.heap.size w4 w5 := (((Kept.refl (· = w4.heap.size) w4).alloc _).same k5).below (fun j _ e => by subst e; exact Nat.le_refl _) (Nat.le_refl _); have q1 := run_string_bs (P := Tryz.prog) w5 22 9 5 Tryz.underlying22 Tryz.underlying5 Tryz.underlying9 (hb1.below h5); have q2 := run_string_bs (P := Tryz.prog) w5 22 9 5 Tryz.underlying22 Tryz.underlying5 Tryz.underlying9 (hb2.below h5)))
  go_ret
  exact ⟨rfl, hB4.trans (h5.mono hB4.size)⟩
end Go.Proofs.YtljihmbmjpcfaaaGreat
namespace Go.Proofs.YtljihmbmjpcfaaaGreat
open Go.RowKit Go.Shelf Go.Great
set_option maxRecDepth 100000

/-- An object in new memory. -/
structure ObNew (W : World) (n : Nat) (o : Ob) (p : Pl) : Prop where
  kd : o.kd = p.kd
  d : W.ownsRow n 5 1 o.dv.v p.d.length (p.d.map B8)
  es : RowE eEn 70 W n o.ev.v p.es
  tree : o.tree = p.tree
  ps : RowI W n o.pv.v p.ps
  tg : o.tg = p.tg
  msg : o.msg = p.msg
theorem ObNew.is {W : World} {n : Nat} {o : Ob} {p : Pl} (h : ObNew W n o p) : ObIs W o p := ⟨h.kd, Bs.of_owns h.d, h.es.is, h.tree, h.ps.is, h.tg, h.msg⟩
theorem ObNew.below {w w' : World} {n : Nat} {o : Ob} {p : Pl} (h : ObNew w n o p) (hb : Below w.heap.size w w') : ObNew w' n o p :=
  ⟨h.kd, owns_below h.d hb, h.es.below hb, h.tree, h.ps.below hb, h.tg, h.msg⟩
theorem ObNew.base {w : World} {n n' : Nat} {o : Ob} {p : Pl} (h : ObNew w n o p) (hn : n' ≤ n) : ObNew w n' o p :=
  ⟨h.kd, owns_base h.d hn, h.es.base hn, h.tree, h.ps.base hn, h.tg, h.msg⟩
theorem bodyR_shape1 (xs : List UInt8) (b : Bool) : ∃ d, (bodyR 1 xs b).1 = ⟨1, d, [], zeroID, [], zeroLk, []⟩ := by
  unfold bodyR
  rw [if_pos rfl]
  exact ⟨_, rfl⟩
theorem bodyR_shape2 (xs : List UInt8) (b : Bool) : ∃ es, (bodyR 2 xs b).1 = ⟨2, [], es, zeroID, [], zeroLk, []⟩ := by
  unfold bodyR
  rw [if_neg (by decide), if_pos rfl]
  exact ⟨_, rfl⟩
theorem bodyR_shape3 (xs : List UInt8) (b : Bool) : ∃ t ps m, (bodyR 3 xs b).1 = ⟨3, [], [], t, ps, zeroLk, m⟩ ∧ ps.length ≤ 1000 := by
  unfold bodyR
  rw [if_neg (by decide), if_neg (by decide), if_pos rfl]
  refine ⟨_, _, _, rfl, ?_⟩
  rw [rdSevP_length]
  exact Nat.le_trans (rdNum_le _ _ _) (by decide)
theorem bodyR_shape4 (xs : List UInt8) (b : Bool) : ∃ tg m, (bodyR 4 xs b).1 = ⟨4, [], [], zeroID, [], tg, m⟩ := by
  unfold bodyR
  rw [if_neg (by decide), if_neg (by decide), if_neg (by decide)]
  exact ⟨_, _, rfl⟩
theorem blobRead_body (w : World) (gr gs gb : Nat) (v x : Value) (xs : List UInt8) (b : Bool) (hat : RdAt w gr gs v xs b) (hlen : xs.length ≤ 1000000) (hb : Boxed w gb 162 x) (h1 : gb ≠ gr) (h2 : gb ≠ gs) (h3 : ∀ j, v.ownBlock = some j → j ≠ gb) :
    Calls Tryz.prog 204 #[.pointer (some ⟨gb, 0, none⟩), .pointer (some ⟨gr, 0, none⟩)] w fun e W' => e = .returned (.tuple #[]) ∧ ∃ s : Sl, BoxBlob W' gb s ∧ W'.ownsRow w.heap.size 5 1 s.v (bodyR 1 xs b).1.d.length ((bodyR 1 xs b).1.d.map B8) ∧ RdG w gr gs gb v (bodyR 1 xs b).2.1 (bodyR 1 xs b).2.2 W' := by
  have h := blobRead_any w gr gs gb v x xs b hat hlen hb h1 h2 h3
  unfold bodyR
  rw [if_pos rfl]
  exact h
theorem parse_of {xs r0 rest : List UInt8} {k : Nat} {b0 wr : Bool} {p : Pl} (hk : rdNum 4 xs false = (k, r0, b0)) (h0 : k ≠ 0) (hb : bodyR k r0 b0 = (p, rest, wr)) : parseP xs = if wr = false ∧ rest = [] ∧ bodyB p = true then some p else none := by
  unfold parseP
  dsimp only
  rw [hk]
  dsimp only
  rw [if_neg h0, hb]
theorem parse_zero {xs r0 : List UInt8} {b0 : Bool} (hk : rdNum 4 xs false = (0, r0, b0)) : parseP xs = none := by
  unfold parseP
  dsimp only
  rw [hk]
  rfl
theorem SrcEnd_yes (w : World) (g : Nat) (v : Value) (xs : List UInt8) (hat : SourceAt w g v xs) (h : xs = []) : Calls Tryz.prog 53 #[.pointer (some ⟨g, 0, none⟩)] w fun e W' => e = .returned (.int .i64 0) ∧ w = W' := by
  have := SrcEnd_any w g v xs hat
  rwa [if_pos h] at this
theorem SrcEnd_no (w : World) (g : Nat) (v : Value) (xs : List UInt8) (hat : SourceAt w g v xs) (h : ¬ xs = []) : Calls Tryz.prog 53 #[.pointer (some ⟨g, 0, none⟩)] w fun e W' => e = .returned (.int .i64 13) ∧ w = W' := by
  have := SrcEnd_any w g v xs hat
  rwa [if_neg h] at this
set_option maxHeartbeats 1000000 in
theorem oOfKind_blob (w : World) (o : Ob) (h1 : o.kd = 1) :
    Calls Tryz.prog 51 #[ObV o] w fun e W' => ∃ g, e = .returned (.iface 160 (.pointer (some ⟨g, 0, none⟩))) ∧ w.heap.size < g ∧ BoxBlob W' g o.dv ∧ Below w.heap.size w W' := by
  have b1 : BoxE eOb 30 (w.alloc (.cells (encO o).toArray 30)) w.heap.size o := BoxE.new w o
  have hB1 : Below w.heap.size w (w.alloc (.cells (encO o).toArray 30)) := (Below.refl _ w).alloc (Nat.le_refl _) _
  have c0 := ObAt.kd b1.at
  have c2 := ObAt.dv b1.at
  simp only [Nat.zero_add] at c0 c2
  go_enter Tryz.func51, Tryz.ntmps51
  go_wp2_with fail
  go_ret
  refine ⟨_, rfl, Nat.lt_succ_self _, ?_, hB1.alloc hB1.size _⟩
  have := Boxed.new (w.alloc (.cells (encO o).toArray 30)) 162 o.dv.v
  rwa [World.size_alloc] at this
set_option maxHeartbeats 1000000 in
theorem oOfKind_commit (w : World) (o : Ob) (h3 : o.kd = 3) :
    Calls Tryz.prog 51 #[ObV o] w fun e W' => ∃ g, e = .returned (.iface 166 (.pointer (some ⟨g, 0, none⟩))) ∧ w.heap.size < g ∧ BoxCo W' g o.co ∧ Below w.heap.size w W' := by
  have b1 : BoxE eOb 30 (w.alloc (.cells (encO o).toArray 30)) w.heap.size o := BoxE.new w o
  have hB1 : Below w.heap.size w (w.alloc (.cells (encO o).toArray 30)) := (Below.refl _ w).alloc (Nat.le_refl _) _
  have c0 := ObAt.kd b1.at
  have c3 := ObAt.tree b1.at
  have c4 := ObAt.pv b1.at
  have c6 := ObAt.msg b1.at
  simp only [Nat.zero_add] at c0 c3 c4 c6
  have hh := o.h
  go_enter Tryz.func51, Tryz.ntmps51
  go_wp2_with (first
    | (refine wpList_load_id rfl (.tmp 21) rfl rfl hh c3 ?_)
    | (refine wpList_build_co rfl (.tmp 22) (.tmp 24) (.tmp 26) rfl o.co rfl rfl rfl ?_))
  go_ret
  refine ⟨_, rfl, Nat.lt_succ_self _, ?_, hB1.alloc hB1.size _⟩
  have : BoxCo _ _ o.co := BoxE.new (w.alloc (.cells (encO o).toArray 30)) o.co
  rwa [World.size_alloc] at this
set_option maxHeartbeats 1000000 in
theorem oOfKind_tag (w : World) (o : Ob) (h4 : o.kd = 4) :
    Calls Tryz.prog 51 #[ObV o] w fun e W' => ∃ g, e = .returned (.iface 169 (.pointer (some ⟨g, 0, none⟩))) ∧ w.heap.size < g ∧ BoxTg W' g o.tag ∧ Below w.heap.size w W' := by
  have b1 : BoxE eOb 30 (w.alloc (.cells (encO o).toArray 30)) w.heap.size o := BoxE.new w o
  have hB1 : Below w.heap.size w (w.alloc (.cells (encO o).toArray 30)) := (Below.refl _ w).alloc (Nat.le_refl _) _
  have c0 := ObAt.kd b1.at
  have c5 := ObAt.tg b1.at
  have c6 := ObAt.msg b1.at
  simp only [Nat.zero_add] at c0 c5 c6
  go_enter Tryz.func51, Tryz.ntmps51
  go_wp2_with (first
    | (refine elLk.wpLoad rfl (.tmp 32) rfl rfl c5 ?_)
    | (refine wpList_build_tg rfl (.tmp 33) (.tmp 35) rfl o.tag rfl rfl ?_))
  go_ret
  refine ⟨_, rfl, Nat.lt_succ_self _, ?_, hB1.alloc hB1.size _⟩
  have : BoxTg _ _ o.tag := BoxE.new (w.alloc (.cells (encO o).toArray 30)) o.tag
  rwa [World.size_alloc] at this
theorem oOfKind_nil (w : World) (o : Ob) (h0 : o.kd = 0) :
    Calls Tryz.prog 51 #[ObV o] w fun e W' => e = .returned .nilIface ∧ Below w.heap.size w W' :=
  (oOfKind_any w o).mono fun e W' ⟨v, h1, h2, h3⟩ => by
    cases h2 with
    | blob g hk _ => omega
    | tree g hk _ => omega
    | commit g hk _ => omega
    | tag g hk _ => omega
    | none _ => exact ⟨h1, h3⟩
/-- What Parse comes to. -/
def ParseOut (w : World) (xs : List UInt8) (e : Ending) (W' : World) : Prop :=
  ((∃ o p, parseP xs = some p ∧ e = .returned (.tuple #[ObV o, .int .i64 0]) ∧ ObNew W' w.heap.size o p) ∨ (parseP xs = none ∧ e = .returned (.tuple #[ObV zeroOb, .int .i64 70]))) ∧ Below w.heap.size w W'
set_option maxHeartbeats 8000000 in
theorem oParse_any (w : World) (sv : Value) (xs : List UInt8) (hs : Bs w sv xs) (hlen : xs.length ≤ 1000000) :
    Calls Tryz.prog 14 #[sv] w (ParseOut w xs) := by
  have hl1 := rdNum_left 4 xs false
  have hle := rdNum_le 4 xs false
  obtain ⟨k, r0, wr0, hk⟩ : ∃ k r0 wr0, rdNum 4 xs false = (k, r0, wr0) := ⟨_, _, _, rfl⟩
  rw [hk] at hl1 hle
  dsimp only at hl1 hle
  have HK := Lib.hid hk
  have HL0 := Lib.hid (show r0.length ≤ 1000000 by omega)
  clear hk hl1
  have b0 := BoxE.new (E := eOb) (t := 30) w zeroOb
  have hB0 : Below w.heap.size w (w.alloc (.cells (eOb.enc zeroOb).toArray 30)) := (Below.refl _ w).alloc (Nat.le_refl _) _
  have hs0 := hs.below hB0
  obtain ⟨A, c, rfl, _⟩ := hs.form
  go_enter Tryz.func14, Tryz.ntmps14
  go_wp2_with (refine wpList_alloc_e (E := eOb) (z := zeroOb) zeroOb_run rfl rfl ?_)
  have hw1s : (w.alloc (.cells (eOb.enc zeroOb).toArray 30)).heap.size = w.heap.size + 1 := World.size_alloc _ _
  generalize w.alloc (.cells (eOb.enc zeroOb).toArray 30) = w1 at *
  refine (From_any w1 _ xs hs0 (by omega)).mono ?_
  rintro e w2 ⟨gs, v, rfl, hsrc, hgs, hvb, h2⟩
  replace b0 := b0.below h2
  have hB2 := hB0.trans (h2.mono hB0.size)
  clear hs hs0
  go_wp2_with fail
  have hlt := hsrc.box.lt
  have hBr : Below w2.heap.size w2 (w2.alloc (.cells #[.pointer (some ⟨gs, 0, none⟩), .bool false] 104)) := (Below.refl _ w2).alloc (Nat.le_refl _) _
  have hat : RdAt (w2.alloc (.cells #[.pointer (some ⟨gs, 0, none⟩), .bool false] 104)) w2.heap.size gs v xs false :=
    ⟨hsrc.kept (Kept.of_below hBr (Nat.le_refl _) (fun _ => False)) (fun h => h) (fun _ _ h => h), heap_alloc_new w2 _, by omega, fun j hj => by have := (hsrc.row j hj).1; omega⟩
  have b0r : BoxOb _ w.heap.size zeroOb := b0.below hBr
  have hb0 := b0.lt
  have hB3 := hB2.trans (hBr.mono hB2.size)
  generalize w2.alloc (.cells #[.pointer (some ⟨gs, 0, none⟩), .bool false] 104) = w3 at *
  have VB := Lib.hid hvb
  have hw1 := h2.size
  clear hvb hsrc b0 h2 hBr
  refine (rKind_any w3 w2.heap.size gs v xs false hat (by omega)).mono ?_
  rintro e w4 ⟨rfl, hout⟩
  rw [HK.out] at hout ⊢
  dsimp only at hout ⊢
  obtain ⟨v4, hat4, hk4, hv4⟩ := hout
  have b04 : BoxOb w4 w.heap.size zeroOb := b0r.kept hk4 (by omega)
  have hB4 : Below w.heap.size w w4 := hB3.trans (hk4.below (fun j _ h => by
    rcases h with h | h
    · omega
    · omega) hB3.size)
  have V4 := Lib.hid (show ∀ j, v4.ownBlock = some j → w1.heap.size ≤ j from fun j hj => VB.out j (hv4 ▸ hj))
  clear hk4 hv4 hat b0r hB3 VB
  have HW1 := Lib.hid hw1s
  clear hw1s
  have htr := hat4.src.box.lt
  go_wp2_with (refine wpList_build_of rfl _ _ rfl #[(0, .int .i64 (k : Int))] (by go_simp; done) _ (build_kd _ (k : Int)) ?_)
  have hcase : k = 0 ∨ k = 1 ∨ k = 2 ∨ k = 3 ∨ k = 4 := by omega
  rcases hcase with hk1 | hk1 | hk1 | hk1 | hk1
  · refine (oOfKind_nil w4 { zeroOb with kd := (k : Int) } (by show (k : Int) = 0; omega)).mono ?_
    rintro e w5 ⟨rfl, h5⟩
    have hpn := parse_zero (xs := xs) (r0 := r0) (b0 := wr0) (by rw [HK.out, hk1])
    have HPN := Lib.hid hpn
    replace b04 : BoxOb w5 w.heap.size zeroOb := b04.below h5
    replace hB4 := hB4.trans (h5.mono hB4.size)
    clear h5 hpn hat4
    go_wp2_with (first
      | (refine wpList_build_of rfl _ _ rfl #[] (by go_simp; done) _ (build_ob0 _) ?_)
      | (refine wpList_store_e (E := eOb) sizeO rfl (.tmp 2) (.tmp 14) rfl rfl b04 rfl ?_; intro w99 b99 k99))
    refine bodyPost_ret (results_e2 (E := eOb) Tryz.underlying30 rfl sizeO rfl _ rfl b99) rfl ?_
    exact ⟨.inr ⟨HPN.out, rfl⟩, hB4.trans (k99.below (fun j _ e => by subst e; exact Nat.le_refl _) hB4.size)⟩
  · -- blob
    refine (oOfKind_blob w4 { zeroOb with kd := (k : Int) } (by show (k : Int) = 1; omega)).mono ?_
    rintro e w5 ⟨g, rfl, hg, hb, h5⟩
    have n1 : g ≠ w2.heap.size := by have := hat4.lt; omega
    have n2 : g ≠ gs := by omega
    have n3 : ∀ j, v4.ownBlock = some j → j ≠ g := fun j hj => by have := (hat4.src.row j hj).1; omega
    have hgw : w.heap.size < g := by have := b04.lt; omega
    replace hat4 := hat4.below h5
    replace b04 : BoxOb w5 w.heap.size zeroOb := b04.below h5
    replace hB4 := hB4.trans (h5.mono hB4.size)
    have hB4s := hB4.size
    have hlt5 := b04.lt
    clear h5
    go_wp2_with fail
    obtain ⟨P, r1, wr1, hP⟩ : ∃ P r1 wr1, bodyR 1 r0 wr0 = (P, r1, wr1) := ⟨_, _, _, rfl⟩
    have hsh := bodyR_shape1 r0 wr0
    have hcall := blobRead_body w5 w2.heap.size gs g v4 _ r0 wr0 hat4 HL0.out hb n1 n2 n3
    have hpo := parse_of (k := 1) (by rw [HK.out, hk1]) (by decide) hP
    rw [hP] at hsh hcall
    dsimp only at hsh hcall
    have HPO := Lib.hid hpo
    clear hpo hP
    refine hcall.mono ?_
    rintro e w6 ⟨rfl, s, hbs, hrow, hG⟩
    obtain ⟨v6, hat6, hk6, hv6⟩ := hG
    have b06 : BoxOb w6 w.heap.size zeroOb := b04.kept hk6 (by have := HW1.out; omega)
    have hB6 : Below w.heap.size w w6 := hB4.trans (hk6.below (fun j _ h => by have := HW1.out; omega) hB4.size)
    have hc6 := hat6.c1
    have hc60 := hat6.c0
    have hsz6 := hk6.size
    have HAT6 := Lib.hid hat6
    obtain ⟨d, rfl⟩ := hsh
    dsimp only at *
    clear hcall hk6 hv6 hat4 b04 hb hat6
    cases wr1 with
    | true =>
      go_wp2_with (first
        | (refine wpList_build_of rfl _ _ rfl #[] (by go_simp; done) _ (build_ob0 _) ?_)
        | (refine wpList_store_e (E := eOb) sizeO rfl (.tmp 2) (.tmp 30) rfl rfl b06 rfl ?_; intro w99 b99 k99))
      refine bodyPost_ret (results_e2 (E := eOb) Tryz.underlying30 rfl sizeO rfl _ rfl b99) rfl ?_
      exact ⟨.inr ⟨HPO.out.trans (if_neg (by rintro ⟨q, _⟩; cases q)), rfl⟩, hB6.trans (k99.below (fun j _ e => by subst e; exact Nat.le_refl _) hB6.size)⟩
    | false =>
      go_wp2_with fail
      by_cases hr : r1 = []
      case neg =>
        refine (SrcEnd_no _ gs v6 r1 HAT6.out.src hr).mono ?_
        rintro e w7 ⟨rfl, rfl⟩
        go_wp2_with (first
          | (refine wpList_build_of rfl _ _ rfl #[] (by go_simp; done) _ (build_ob0 _) ?_)
          | (refine wpList_store_e (E := eOb) sizeO rfl (.tmp 2) (.tmp 30) rfl rfl b06 rfl ?_; intro w99 b99 k99))
        refine bodyPost_ret (results_e2 (E := eOb) Tryz.underlying30 rfl sizeO rfl _ rfl b99) rfl ?_
        exact ⟨.inr ⟨HPO.out.trans (if_neg (by rintro ⟨_, q, _⟩; exact hr q)), rfl⟩, hB6.trans (k99.below (fun j _ e => by subst e; exact Nat.le_refl _) hB6.size)⟩
      case pos =>
        refine (SrcEnd_yes _ gs v6 r1 HAT6.out.src hr).mono ?_
        rintro e w7 ⟨rfl, rfl⟩
        go_wp2_with fail
        refine (blobMay_any w6 g s d hbs (Bs.of_owns hrow)).mono ?_
        rintro e w8 ⟨rfl, h8⟩
        obtain ⟨M, hM⟩ : ∃ M, bodyB ⟨1, d, [], zeroID, [], zeroLk, []⟩ = M := ⟨_, rfl⟩
        have hM2 := hM
        rw [show bodyB ⟨1, d, [], zeroID, [], zeroLk, []⟩ = decide (d.length ≤ 1024) from rfl] at hM2
        rw [hM2]
        clear hM2
        replace b06 : BoxOb w8 w.heap.size zeroOb := b06.below h8
        have hB8 := hB6.trans (h8.mono hB6.size)
        cases M with
        | false =>
          go_wp2_with (first
            | (refine wpList_build_of rfl _ _ rfl #[] (by go_simp; done) _ (build_ob0 _) ?_)
            | (refine wpList_store_e (E := eOb) sizeO rfl (.tmp 2) (.tmp 30) rfl rfl b06 rfl ?_; intro w99 b99 k99))
          refine bodyPost_ret (results_e2 (E := eOb) Tryz.underlying30 rfl sizeO rfl _ rfl b99) rfl ?_
          exact ⟨.inr ⟨HPO.out.trans (if_neg (by rintro ⟨_, _, q⟩; rw [hM] at q; cases q)), rfl⟩, hB8.trans (k99.below (fun j _ e => by subst e; exact Nat.le_refl _) hB8.size)⟩
        | true =>
          go_wp2_with fail
          refine (blobObject_any w8 g s (boxedB hbs h8)).mono ?_
          rintro e w9 ⟨rfl, h9⟩
          replace b06 : BoxOb w9 w.heap.size zeroOb := b06.below h9
          have hB9 := hB8.trans (h9.mono hB8.size)
          go_wp2_with (refine wpList_store_e (E := eOb) sizeO rfl (.tmp 2) (.tmp 32) rfl rfl b06 rfl ?_; intro w10 b10 k10)
          refine bodyPost_ret (results_e2 (E := eOb) Tryz.underlying30 rfl sizeO rfl _ rfl b10) rfl ?_
          exact ⟨.inl ⟨_, _, HPO.out.trans (if_pos ⟨by simp, hr, hM⟩), rfl, ⟨rfl, k10.owns (owns_base (owns_below (owns_below hrow h8) h9) hB4s) (fun j hj e => by have := (World.ownsRow.lt hrow j hj).1; omega), RowE.nil _ _, rfl, RowI.nil _ _, rfl, rfl⟩⟩, hB9.trans (k10.below (fun j _ e => by subst e; exact Nat.le_refl _) hB9.size)⟩
  · -- tree
    refine (oOfKind_tree w4 { zeroOb with kd := (k : Int) } (by show (k : Int) = 2; omega)).mono ?_
    rintro e w5 ⟨g, rfl, hg, hb, h5⟩
    have n1 : g ≠ w2.heap.size := by have := hat4.lt; omega
    have n2 : g ≠ gs := by omega
    have n3 : ∀ j, v4.ownBlock = some j → j ≠ g := fun j hj => by have := (hat4.src.row j hj).1; omega
    have hgw : w.heap.size < g := by have := b04.lt; omega
    replace hat4 := hat4.below h5
    replace b04 : BoxOb w5 w.heap.size zeroOb := b04.below h5
    replace hB4 := hB4.trans (h5.mono hB4.size)
    have hB4s := hB4.size
    have hlt5 := b04.lt
    clear h5
    go_wp2_with fail
    obtain ⟨P, r1, wr1, hP⟩ : ∃ P r1 wr1, bodyR 2 r0 wr0 = (P, r1, wr1) := ⟨_, _, _, rfl⟩
    have hsh := bodyR_shape2 r0 wr0
    have hcall := treeRead_any w5 w2.heap.size gs g v4 _ r0 wr0 hat4 HL0.out hb n1 n2 n3
    have hpo := parse_of (k := 2) (by rw [HK.out, hk1]) (by decide) hP
    rw [hP] at hsh hcall
    dsimp only at hsh hcall
    have HPO := Lib.hid hpo
    clear hpo hP
    refine hcall.mono ?_
    rintro e w6 ⟨rfl, s, hbs, hrow, hG⟩
    obtain ⟨v6, hat6, hk6, hv6⟩ := hG
    have b06 : BoxOb w6 w.heap.size zeroOb := b04.kept hk6 (by have := HW1.out; omega)
    have hB6 : Below w.heap.size w w6 := hB4.trans (hk6.below (fun j _ h => by have := HW1.out; omega) hB4.size)
    have hc6 := hat6.c1
    have hc60 := hat6.c0
    have hsz6 := hk6.size
    have HAT6 := Lib.hid hat6
    obtain ⟨es, rfl⟩ := hsh
    dsimp only at *
    clear hcall hk6 hv6 hat4 b04 hb hat6
    cases wr1 with
    | true =>
      go_wp2_with (first
        | (refine wpList_build_of rfl _ _ rfl #[] (by go_simp; done) _ (build_ob0 _) ?_)
        | (refine wpList_store_e (E := eOb) sizeO rfl (.tmp 2) (.tmp 30) rfl rfl b06 rfl ?_; intro w99 b99 k99))
      refine bodyPost_ret (results_e2 (E := eOb) Tryz.underlying30 rfl sizeO rfl _ rfl b99) rfl ?_
      exact ⟨.inr ⟨HPO.out.trans (if_neg (by rintro ⟨q, _⟩; cases q)), rfl⟩, hB6.trans (k99.below (fun j _ e => by subst e; exact Nat.le_refl _) hB6.size)⟩
    | false =>
      go_wp2_with fail
      by_cases hr : r1 = []
      case neg =>
        refine (SrcEnd_no _ gs v6 r1 HAT6.out.src hr).mono ?_
        rintro e w7 ⟨rfl, rfl⟩
        go_wp2_with (first
          | (refine wpList_build_of rfl _ _ rfl #[] (by go_simp; done) _ (build_ob0 _) ?_)
          | (refine wpList_store_e (E := eOb) sizeO rfl (.tmp 2) (.tmp 30) rfl rfl b06 rfl ?_; intro w99 b99 k99))
        refine bodyPost_ret (results_e2 (E := eOb) Tryz.underlying30 rfl sizeO rfl _ rfl b99) rfl ?_
        exact ⟨.inr ⟨HPO.out.trans (if_neg (by rintro ⟨_, q, _⟩; exact hr q)), rfl⟩, hB6.trans (k99.below (fun j _ e => by subst e; exact Nat.le_refl _) hB6.size)⟩
      case pos =>
        refine (SrcEnd_yes _ gs v6 r1 HAT6.out.src hr).mono ?_
        rintro e w7 ⟨rfl, rfl⟩
        go_wp2_with fail
        refine (treeMay_any w6 g s es hbs hrow.is).mono ?_
        rintro e w8 ⟨rfl, h8⟩
        obtain ⟨M, hM⟩ : ∃ M, bodyB ⟨2, [], es, zeroID, [], zeroLk, []⟩ = M := ⟨_, rfl⟩
        have hM2 := hM
        rw [show bodyB ⟨2, [], es, zeroID, [], zeroLk, []⟩ = treeB es from rfl] at hM2
        rw [hM2]
        clear hM2
        replace b06 : BoxOb w8 w.heap.size zeroOb := b06.below h8
        have hB8 := hB6.trans (h8.mono hB6.size)
        cases M with
        | false =>
          go_wp2_with (first
            | (refine wpList_build_of rfl _ _ rfl #[] (by go_simp; done) _ (build_ob0 _) ?_)
            | (refine wpList_store_e (E := eOb) sizeO rfl (.tmp 2) (.tmp 30) rfl rfl b06 rfl ?_; intro w99 b99 k99))
          refine bodyPost_ret (results_e2 (E := eOb) Tryz.underlying30 rfl sizeO rfl _ rfl b99) rfl ?_
          exact ⟨.inr ⟨HPO.out.trans (if_neg (by rintro ⟨_, _, q⟩; rw [hM] at q; cases q)), rfl⟩, hB8.trans (k99.below (fun j _ e => by subst e; exact Nat.le_refl _) hB8.size)⟩
        | true =>
          go_wp2_with fail
          refine (treeObject_any w8 g s (boxedB hbs h8)).mono ?_
          rintro e w9 ⟨rfl, h9⟩
          replace b06 : BoxOb w9 w.heap.size zeroOb := b06.below h9
          have hB9 := hB8.trans (h9.mono hB8.size)
          go_wp2_with (refine wpList_store_e (E := eOb) sizeO rfl (.tmp 2) (.tmp 32) rfl rfl b06 rfl ?_; intro w10 b10 k10)
          refine bodyPost_ret (results_e2 (E := eOb) Tryz.underlying30 rfl sizeO rfl _ rfl b10) rfl ?_
          exact ⟨.inl ⟨_, _, HPO.out.trans (if_pos ⟨by simp, hr, hM⟩), rfl, ⟨rfl, World.ownsRow_nil _ _ _ _, k10.owns (owns_base (owns_below (owns_below hrow h8) h9) hB4s) (fun j hj e => by have := (World.ownsRow.lt hrow j hj).1; omega), rfl, RowI.nil _ _, rfl, rfl⟩⟩, hB9.trans (k10.below (fun j _ e => by subst e; exact Nat.le_refl _) hB9.size)⟩
  · -- commit
    refine (oOfKind_commit w4 { zeroOb with kd := (k : Int) } (by show (k : Int) = 3; omega)).mono ?_
    rintro e w5 ⟨g, rfl, hg, hb, h5⟩
    have n1 : g ≠ w2.heap.size := by have := hat4.lt; omega
    have n2 : g ≠ gs := by omega
    have n3 : ∀ j, v4.ownBlock = some j → j ≠ g := fun j hj => by have := (hat4.src.row j hj).1; omega
    have hgw : w.heap.size < g := by have := b04.lt; omega
    replace hat4 := hat4.below h5
    replace b04 : BoxOb w5 w.heap.size zeroOb := b04.below h5
    replace hB4 := hB4.trans (h5.mono hB4.size)
    have hB4s := hB4.size
    have hlt5 := b04.lt
    clear h5
    go_wp2_with fail
    obtain ⟨P, r1, wr1, hP⟩ : ∃ P r1 wr1, bodyR 3 r0 wr0 = (P, r1, wr1) := ⟨_, _, _, rfl⟩
    have hsh := bodyR_shape3 r0 wr0
    have hcall := commitRead_any w5 w2.heap.size gs g v4 _ r0 wr0 hat4 HL0.out hb n1 n2 n3
    have hpo := parse_of (k := 3) (by rw [HK.out, hk1]) (by decide) hP
    rw [hP] at hsh hcall
    dsimp only at hsh hcall
    have HPO := Lib.hid hpo
    clear hpo hP
    refine hcall.mono ?_
    rintro e w6 ⟨rfl, x, hbs, hxt, hxm, hrow, hG⟩
    obtain ⟨v6, hat6, hk6, hv6⟩ := hG
    have b06 : BoxOb w6 w.heap.size zeroOb := b04.kept hk6 (by have := HW1.out; omega)
    have hB6 : Below w.heap.size w w6 := hB4.trans (hk6.below (fun j _ h => by have := HW1.out; omega) hB4.size)
    have hc6 := hat6.c1
    have hc60 := hat6.c0
    have hsz6 := hk6.size
    have HAT6 := Lib.hid hat6
    obtain ⟨t, ps, m, rfl, hpl⟩ := hsh
    dsimp only at *
    clear hcall hk6 hv6 hat4 b04 hb hat6
    cases wr1 with
    | true =>
      go_wp2_with (first
        | (refine wpList_build_of rfl _ _ rfl #[] (by go_simp; done) _ (build_ob0 _) ?_)
        | (refine wpList_store_e (E := eOb) sizeO rfl (.tmp 2) (.tmp 30) rfl rfl b06 rfl ?_; intro w99 b99 k99))
      refine bodyPost_ret (results_e2 (E := eOb) Tryz.underlying30 rfl sizeO rfl _ rfl b99) rfl ?_
      exact ⟨.inr ⟨HPO.out.trans (if_neg (by rintro ⟨q, _⟩; cases q)), rfl⟩, hB6.trans (k99.below (fun j _ e => by subst e; exact Nat.le_refl _) hB6.size)⟩
    | false =>
      go_wp2_with fail
      by_cases hr : r1 = []
      case neg =>
        refine (SrcEnd_no _ gs v6 r1 HAT6.out.src hr).mono ?_
        rintro e w7 ⟨rfl, rfl⟩
        go_wp2_with (first
          | (refine wpList_build_of rfl _ _ rfl #[] (by go_simp; done) _ (build_ob0 _) ?_)
          | (refine wpList_store_e (E := eOb) sizeO rfl (.tmp 2) (.tmp 30) rfl rfl b06 rfl ?_; intro w99 b99 k99))
        refine bodyPost_ret (results_e2 (E := eOb) Tryz.underlying30 rfl sizeO rfl _ rfl b99) rfl ?_
        exact ⟨.inr ⟨HPO.out.trans (if_neg (by rintro ⟨_, q, _⟩; exact hr q)), rfl⟩, hB6.trans (k99.below (fun j _ e => by subst e; exact Nat.le_refl _) hB6.size)⟩
      case pos =>
        refine (SrcEnd_yes _ gs v6 r1 HAT6.out.src hr).mono ?_
        rintro e w7 ⟨rfl, rfl⟩
        go_wp2_with fail
        refine (commitMay_any w6 g x ps hbs hrow.is hpl).mono ?_
        rintro e w8 ⟨rfl, h8⟩
        obtain ⟨M, hM⟩ : ∃ M, bodyB ⟨3, [], [], t, ps, zeroLk, m⟩ = M := ⟨_, rfl⟩
        have hM2 := hM
        rw [show bodyB ⟨3, [], [], t, ps, zeroLk, m⟩ = commitB ps m from rfl] at hM2
        rw [hxm, hM2]
        clear hM2
        replace b06 : BoxOb w8 w.heap.size zeroOb := b06.below h8
        have hB8 := hB6.trans (h8.mono hB6.size)
        cases M with
        | false =>
          go_wp2_with (first
            | (refine wpList_build_of rfl _ _ rfl #[] (by go_simp; done) _ (build_ob0 _) ?_)
            | (refine wpList_store_e (E := eOb) sizeO rfl (.tmp 2) (.tmp 30) rfl rfl b06 rfl ?_; intro w99 b99 k99))
          refine bodyPost_ret (results_e2 (E := eOb) Tryz.underlying30 rfl sizeO rfl _ rfl b99) rfl ?_
          exact ⟨.inr ⟨HPO.out.trans (if_neg (by rintro ⟨_, _, q⟩; rw [hM] at q; cases q)), rfl⟩, hB8.trans (k99.below (fun j _ e => by subst e; exact Nat.le_refl _) hB8.size)⟩
        | true =>
          go_wp2_with fail
          refine (commitObject_any w8 g x (BoxE.below hbs h8)).mono ?_
          rintro e w9 ⟨rfl, h9⟩
          replace b06 : BoxOb w9 w.heap.size zeroOb := b06.below h9
          have hB9 := hB8.trans (h9.mono hB8.size)
          go_wp2_with (refine wpList_store_e (E := eOb) sizeO rfl (.tmp 2) (.tmp 32) rfl rfl b06 rfl ?_; intro w10 b10 k10)
          refine bodyPost_ret (results_e2 (E := eOb) Tryz.underlying30 rfl sizeO rfl _ rfl b10) rfl ?_
          exact ⟨.inl ⟨_, _, HPO.out.trans (if_pos ⟨by simp, hr, hM⟩), rfl, ⟨rfl, World.ownsRow_nil _ _ _ _, RowE.nil _ _, hxt, ⟨hrow.sized, k10.owns (owns_base (owns_below (owns_below hrow.own h8) h9) hB4s) (fun j hj e => by have := (World.ownsRow.lt hrow.own j hj).1; omega)⟩, rfl, hxm⟩⟩, hB9.trans (k10.below (fun j _ e => by subst e; exact Nat.le_refl _) hB9.size)⟩
  · -- tag
    refine (oOfKind_tag w4 { zeroOb with kd := (k : Int) } (by show (k : Int) = 4; omega)).mono ?_
    rintro e w5 ⟨g, rfl, hg, hb, h5⟩
    have n1 : g ≠ w2.heap.size := by have := hat4.lt; omega
    have n2 : g ≠ gs := by omega
    have n3 : ∀ j, v4.ownBlock = some j → j ≠ g := fun j hj => by have := (hat4.src.row j hj).1; omega
    have hgw : w.heap.size < g := by have := b04.lt; omega
    replace hat4 := hat4.below h5
    replace b04 : BoxOb w5 w.heap.size zeroOb := b04.below h5
    replace hB4 := hB4.trans (h5.mono hB4.size)
    have hB4s := hB4.size
    have hlt5 := b04.lt
    clear h5
    go_wp2_with fail
    obtain ⟨P, r1, wr1, hP⟩ : ∃ P r1 wr1, bodyR 4 r0 wr0 = (P, r1, wr1) := ⟨_, _, _, rfl⟩
    have hsh := bodyR_shape4 r0 wr0
    have hcall := tagRead_any w5 w2.heap.size gs g v4 _ r0 wr0 hat4 HL0.out hb n1 n2 n3
    have hpo := parse_of (k := 4) (by rw [HK.out, hk1]) (by decide) hP
    rw [hP] at hsh hcall
    dsimp only at hsh hcall
    have HPO := Lib.hid hpo
    clear hpo hP
    refine hcall.mono ?_
    rintro e w6 ⟨rfl, x, hbs, hxt, hxm, hG⟩
    obtain ⟨v6, hat6, hk6, hv6⟩ := hG
    have b06 : BoxOb w6 w.heap.size zeroOb := b04.kept hk6 (by have := HW1.out; omega)
    have hB6 : Below w.heap.size w w6 := hB4.trans (hk6.below (fun j _ h => by have := HW1.out; omega) hB4.size)
    have hc6 := hat6.c1
    have hc60 := hat6.c0
    have hsz6 := hk6.size
    have HAT6 := Lib.hid hat6
    obtain ⟨tg, m, rfl⟩ := hsh
    dsimp only at *
    clear hcall hk6 hv6 hat4 b04 hb hat6
    cases wr1 with
    | true =>
      go_wp2_with (first
        | (refine wpList_build_of rfl _ _ rfl #[] (by go_simp; done) _ (build_ob0 _) ?_)
        | (refine wpList_store_e (E := eOb) sizeO rfl (.tmp 2) (.tmp 30) rfl rfl b06 rfl ?_; intro w99 b99 k99))
      refine bodyPost_ret (results_e2 (E := eOb) Tryz.underlying30 rfl sizeO rfl _ rfl b99) rfl ?_
      exact ⟨.inr ⟨HPO.out.trans (if_neg (by rintro ⟨q, _⟩; cases q)), rfl⟩, hB6.trans (k99.below (fun j _ e => by subst e; exact Nat.le_refl _) hB6.size)⟩
    | false =>
      go_wp2_with fail
      by_cases hr : r1 = []
      case neg =>
        refine (SrcEnd_no _ gs v6 r1 HAT6.out.src hr).mono ?_
        rintro e w7 ⟨rfl, rfl⟩
        go_wp2_with (first
          | (refine wpList_build_of rfl _ _ rfl #[] (by go_simp; done) _ (build_ob0 _) ?_)
          | (refine wpList_store_e (E := eOb) sizeO rfl (.tmp 2) (.tmp 30) rfl rfl b06 rfl ?_; intro w99 b99 k99))
        refine bodyPost_ret (results_e2 (E := eOb) Tryz.underlying30 rfl sizeO rfl _ rfl b99) rfl ?_
        exact ⟨.inr ⟨HPO.out.trans (if_neg (by rintro ⟨_, q, _⟩; exact hr q)), rfl⟩, hB6.trans (k99.below (fun j _ e => by subst e; exact Nat.le_refl _) hB6.size)⟩
      case pos =>
        refine (SrcEnd_yes _ gs v6 r1 HAT6.out.src hr).mono ?_
        rintro e w7 ⟨rfl, rfl⟩
        go_wp2_with fail
        refine (tagMay_any w6 g x hbs).mono ?_
        rintro e w8 ⟨rfl, h8⟩
        obtain ⟨M, hM⟩ : ∃ M, bodyB ⟨4, [], [], zeroID, [], tg, m⟩ = M := ⟨_, rfl⟩
        have hM2 := hM
        rw [show bodyB ⟨4, [], [], zeroID, [], tg, m⟩ = tagB tg.kd m from rfl] at hM2
        rw [hxt, hxm, hM2]
        clear hM2
        replace b06 : BoxOb w8 w.heap.size zeroOb := b06.below h8
        have hB8 := hB6.trans (h8.mono hB6.size)
        cases M with
        | false =>
          go_wp2_with (first
            | (refine wpList_build_of rfl _ _ rfl #[] (by go_simp; done) _ (build_ob0 _) ?_)
            | (refine wpList_store_e (E := eOb) sizeO rfl (.tmp 2) (.tmp 30) rfl rfl b06 rfl ?_; intro w99 b99 k99))
          refine bodyPost_ret (results_e2 (E := eOb) Tryz.underlying30 rfl sizeO rfl _ rfl b99) rfl ?_
          exact ⟨.inr ⟨HPO.out.trans (if_neg (by rintro ⟨_, _, q⟩; rw [hM] at q; cases q)), rfl⟩, hB8.trans (k99.below (fun j _ e => by subst e; exact Nat.le_refl _) hB8.size)⟩
        | true =>
          go_wp2_with fail
          refine (tagObject_any w8 g x (BoxE.below hbs h8)).mono ?_
          rintro e w9 ⟨rfl, h9⟩
          replace b06 : BoxOb w9 w.heap.size zeroOb := b06.below h9
          have hB9 := hB8.trans (h9.mono hB8.size)
          go_wp2_with (refine wpList_store_e (E := eOb) sizeO rfl (.tmp 2) (.tmp 32) rfl rfl b06 rfl ?_; intro w10 b10 k10)
          refine bodyPost_ret (results_e2 (E := eOb) Tryz.underlying30 rfl sizeO rfl _ rfl b10) rfl ?_
          exact ⟨.inl ⟨_, _, HPO.out.trans (if_pos ⟨by simp, hr, hM⟩), rfl, ⟨rfl, World.ownsRow_nil _ _ _ _, RowE.nil _ _, rfl, RowI.nil _ _, hxt, hxm⟩⟩, hB9.trans (k10.below (fun j _ e => by subst e; exact Nat.le_refl _) hB9.size)⟩
end Go.Proofs.YtljihmbmjpcfaaaGreat
