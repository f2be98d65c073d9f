/- Encode of every object, and its id (tools/genobencode.py). -/
import Derived.Test.YtljihmbmjpcfaaaGreatObWriteAll2
import Derived.Test.YtljihmbmjpcfaaaGreatObAlive2
import Derived.Test.YtljihmbmjpcfaaaGreatHashOf
namespace Go.Proofs.YtljihmbmjpcfaaaGreat
open Go.RowKit Go.Shelf Go.Great
set_option maxRecDepth 100000

set_option maxHeartbeats 4000000 in
/-- The bytes of an object that may be. -/
theorem oEncode_yes (w : World) (o : Ob) (p : Pl) (ho : ObIs w o p) (sp : PlSmall p) (hm : mayB p = true) :
    Calls Tryz.prog 13 #[ObV o] w fun e W' => ∃ r, e = .returned (.tuple #[r, .int .i64 0]) ∧ W'.ownsRow w.heap.size 5 1 r (encP p).length ((encP p).map B8) ∧ Below w.heap.size w W' := by
  have HLEN := Lib.hid (enc_length (bodyB_fine (mayB_body hm).1) ho.ids)
  have HO := Lib.hid ho
  have HM := Lib.hid hm
  clear ho hm
  go_enter Tryz.func13, Tryz.ntmps13
  go_wp2_with (first
    | (refine wpList_box_e (E := eOb) rfl (.tmp 0) rfl (x := o) rfl ?_; intro w1 b1 hB1)
    | (refine wpList_load_e (E := eOb) Tryz.underlying30 rfl sizeO rfl (.tmp 1) rfl rfl b1.at ?_))
  refine (oBodyOf_any _ o p (HO.out.below hB1) sp).mono ?_
  rintro e w2 ⟨v, rfl, hout, h2⟩
  have hB2 : Below w.heap.size w w2 := hB1.trans (h2.mono hB1.size)
  replace HO := Lib.hid (HO.out.below hB2)
  replace b1 : BoxOb w2 w.heap.size o := b1.below h2
  clear h2
  rcases hout with ⟨hm, hbody⟩ | ⟨hm, _⟩
  · cases hbody with
    | blob g hk hb =>
      have c0 := b1.obc.kd
      rw [hk] at c0
      have hkp := HO.out.kd
      have hfine := bodyB_fine (mayB_body hm).1
      have hpk : p.kd = 1 := by omega
      have HDL := Lib.hid (hfine.d hpk)
      have HEN := Lib.hid (show [1] ++ (lebB p.d.length ++ p.d) = encP p by
        unfold encP
        rw [if_pos hpk]
        rw [show lebB 1 = [1] by decide])
      clear hk hkp hfine hm
      have hB3 : Below w2.heap.size w2 (w2.alloc (.cells #[.slice none 0 0] 96)) := (Below.refl _ w2).alloc (Nat.le_refl _) _
      have c0' := cellB hB3 c0
      have hat : WrSinkAt (w2.alloc (.cells #[.slice none 0 0] 96)) w2.heap.size w2.heap.size (.slice none 0 0) [] := ⟨Boxed.new w2 _ _, World.ownsRow_nil _ _ _ _⟩
      have hsz : (w2.alloc (.cells #[.slice none 0 0] 96)).heap.size = w2.heap.size + 1 := World.size_alloc _ _
      have hgb := hb.lt
      have HSZ := Lib.hid hsz
      clear hsz c0 b1
      go_wp2_with fail
      generalize w2.alloc (.cells #[.slice none 0 0] 96) = w3 at *
      refine (wKind_any w3 w2.heap.size w2.heap.size _ [] (by have := HSZ.out; omega) hat 1 (by decide) (by simp)).mono ?_
      rintro e w4 ⟨rfl, v4, hat4, hk4, hv4⟩
      rw [show ([] : List UInt8) ++ lebB 1 = [1] by decide] at hat4
      have hk4' : Kept (fun j => j = w2.heap.size) w3 w4 := hk4.mono (fun j _ h => by rcases h with h | h; exact h; cases h)
      have hb4 : BoxBlob w4 g o.dv := hk4'.boxed (boxedB hb hB3) (by omega)
      have hs4 : Bs w4 o.dv.v p.d := hk4'.bs1 (HO.out.d.below hB3) (fun hx j hj e => by have := HO.out.d.lt hx j hj; omega)
      have hlt4 := HO.out.d.lt
      have HV4 := Lib.hid (show ∀ j, v4.ownBlock = some j → w2.heap.size < j from fun j hj => by
        rcases hv4 with h | h
        · rw [h] at hj; cases hj
        · have := h j hj; have := HSZ.out; omega)
      have hB4 : Below w.heap.size w w4 := (hB2.trans (hB3.mono hB2.size)).trans (hk4'.below (fun j _ e => by subst e; exact hB2.size) (by have := hB2.size; have := hB3.size; omega))
      have hsz4 := hk4'.size
      clear hk4 hv4 hat hk4'
      go_wp2_with fail
      refine (blobWrite_any w4 w2.heap.size w2.heap.size g v4 [1] (by have := HSZ.out; omega) hat4 o.dv p.d hb4 hs4 (fun hx j hj => ⟨by have := hlt4 hx j hj; omega, fun e => by have := HV4.out j e; have := hlt4 hx j hj; omega⟩) (by have := HDL.out; simp; omega)).mono ?_
      rintro e w5 ⟨rfl, v5, hat5, hk5, hv5⟩
      have hB5 : Below w.heap.size w w5 := hB4.trans (hk5.below (fun j _ h => by
        rcases h with h | h
        · subst h; exact hB2.size
        · have := HV4.out j h
          have := hB2.size
          omega) hB4.size)
      rw [HEN.out] at hat5
      clear hk5 hv5 hat4 hb4 hs4 hlt4 hB4 hsz4
      go_wp2_with fail
      refine (WrSinkAll_any w2.heap.size w5 v5 _ _ hat5 (by have := HLEN.out; omega)).mono ?_
      rintro e w6 ⟨r, rfl, hrow, h6⟩
      obtain ⟨A, n, c, rfl⟩ := owns_slice hrow
      have HR := Lib.hid hrow
      clear hrow hat5
      go_wp2_with fail
      go_ret2
      exact ⟨_, rfl, owns_base HR.out hB5.size, hB5.trans (h6.mono hB5.size)⟩
    | tree g hk hb =>
      have c0 := b1.obc.kd
      rw [hk] at c0
      have hkp := HO.out.kd
      have hfine := bodyB_fine (mayB_body hm).1
      have hpk : p.kd = 2 := by omega
      have HEL := Lib.hid (hfine.el hpk)
      have HES := Lib.hid (hfine.es hpk)
      have HEN := Lib.hid (show [2] ++ (lebB p.es.length ++ p.es.flatMap encEnB) = encP p by
        unfold encP
        rw [if_neg (by omega), if_pos hpk]
        rw [show lebB 2 = [2] by decide])
      clear hk hkp hfine hm
      have hB3 : Below w2.heap.size w2 (w2.alloc (.cells #[.slice none 0 0] 96)) := (Below.refl _ w2).alloc (Nat.le_refl _) _
      have c0' := cellB hB3 c0
      have hat : WrSinkAt (w2.alloc (.cells #[.slice none 0 0] 96)) w2.heap.size w2.heap.size (.slice none 0 0) [] := ⟨Boxed.new w2 _ _, World.ownsRow_nil _ _ _ _⟩
      have hsz : (w2.alloc (.cells #[.slice none 0 0] 96)).heap.size = w2.heap.size + 1 := World.size_alloc _ _
      have hgb := hb.lt
      have HSZ := Lib.hid hsz
      clear hsz c0 b1
      go_wp2_with fail
      generalize w2.alloc (.cells #[.slice none 0 0] 96) = w3 at *
      refine (wKind_any w3 w2.heap.size w2.heap.size _ [] (by have := HSZ.out; omega) hat 2 (by decide) (by simp)).mono ?_
      rintro e w4 ⟨rfl, v4, hat4, hk4, hv4⟩
      rw [show ([] : List UInt8) ++ lebB 2 = [2] by decide] at hat4
      have hk4' : Kept (fun j => j = w2.heap.size) w3 w4 := hk4.mono (fun j _ h => by rcases h with h | h; exact h; cases h)
      have hb4 : BoxTree w4 g o.ev := hk4'.boxed (boxedB hb hB3) (by omega)
      have hs4 : Es eEn w4 o.ev.v p.es := (HO.out.es.below hB3).kept1 hk4' (fun hx j hj e => by have := HO.out.es.lt1 hx j hj; omega)
      have hlt4 := HO.out.es.lt1
      have HV4 := Lib.hid (show ∀ j, v4.ownBlock = some j → w2.heap.size < j from fun j hj => by
        rcases hv4 with h | h
        · rw [h] at hj; cases hj
        · have := h j hj; have := HSZ.out; omega)
      have hB4 : Below w.heap.size w w4 := (hB2.trans (hB3.mono hB2.size)).trans (hk4'.below (fun j _ e => by subst e; exact hB2.size) (by have := hB2.size; have := hB3.size; omega))
      have hsz4 := hk4'.size
      clear hk4 hv4 hat hk4'
      go_wp2_with fail
      refine (treeWrite_any w4 w2.heap.size w2.heap.size g v4 [2] (by have := HSZ.out; omega) hat4 o.ev p.es hb4 hs4 (fun hx j hj => ⟨by have := hlt4 hx j hj; omega, fun e => by have := HV4.out j e; have := hlt4 hx j hj; omega⟩) HEL.out HES.out (by simp)).mono ?_
      rintro e w5 ⟨rfl, v5, hat5, hk5, hv5⟩
      have hB5 : Below w.heap.size w w5 := hB4.trans (hk5.below (fun j _ h => by
        rcases h with h | h
        · subst h; exact hB2.size
        · have := HV4.out j h
          have := hB2.size
          omega) hB4.size)
      rw [HEN.out] at hat5
      clear hk5 hv5 hat4 hb4 hs4 hlt4 hB4 hsz4
      go_wp2_with fail
      refine (WrSinkAll_any w2.heap.size w5 v5 _ _ hat5 (by have := HLEN.out; omega)).mono ?_
      rintro e w6 ⟨r, rfl, hrow, h6⟩
      obtain ⟨A, n, c, rfl⟩ := owns_slice hrow
      have HR := Lib.hid hrow
      clear hrow hat5
      go_wp2_with fail
      go_ret2
      exact ⟨_, rfl, owns_base HR.out hB5.size, hB5.trans (h6.mono hB5.size)⟩
    | commit g hk hb =>
      have c0 := b1.obc.kd
      rw [hk] at c0
      have hkp := HO.out.kd
      have hfine := bodyB_fine (mayB_body hm).1
      have hpk : p.kd = 3 := by omega
      have HPL := Lib.hid (hfine.pl hpk)
      have HML := Lib.hid (hfine.msg (.inl hpk))
      have HT := Lib.hid HO.out.tree
      have HM := Lib.hid HO.out.msg
      have HEN := Lib.hid (show [3] ++ (p.tree ++ ((lebB p.ps.length ++ p.ps.flatten) ++ (lebB p.msg.length ++ p.msg))) = encP p by
        unfold encP
        rw [if_neg (by omega), if_neg (by omega), if_pos hpk]
        rw [show lebB 3 = [3] by decide])
      clear hk hkp hfine hm
      have hB3 : Below w2.heap.size w2 (w2.alloc (.cells #[.slice none 0 0] 96)) := (Below.refl _ w2).alloc (Nat.le_refl _) _
      have c0' := cellB hB3 c0
      have hat : WrSinkAt (w2.alloc (.cells #[.slice none 0 0] 96)) w2.heap.size w2.heap.size (.slice none 0 0) [] := ⟨Boxed.new w2 _ _, World.ownsRow_nil _ _ _ _⟩
      have hsz : (w2.alloc (.cells #[.slice none 0 0] 96)).heap.size = w2.heap.size + 1 := World.size_alloc _ _
      have hgb := hb.lt
      have HSZ := Lib.hid hsz
      clear hsz c0 b1
      go_wp2_with fail
      generalize w2.alloc (.cells #[.slice none 0 0] 96) = w3 at *
      refine (wKind_any w3 w2.heap.size w2.heap.size _ [] (by have := HSZ.out; omega) hat 3 (by decide) (by simp)).mono ?_
      rintro e w4 ⟨rfl, v4, hat4, hk4, hv4⟩
      rw [show ([] : List UInt8) ++ lebB 3 = [3] by decide] at hat4
      have hk4' : Kept (fun j => j = w2.heap.size) w3 w4 := hk4.mono (fun j _ h => by rcases h with h | h; exact h; cases h)
      have hb4 : BoxCo w4 g o.co := (BoxE.below hb hB3).kept hk4' (by omega)
      have hs4 : Is w4 o.co.pv.v p.ps := (HO.out.ps.below hB3).kept1 hk4' (fun hx j hj e => by have := HO.out.ps.lt1 hx j hj; omega)
      have hlt4 := HO.out.ps.lt1
      have HV4 := Lib.hid (show ∀ j, v4.ownBlock = some j → w2.heap.size < j from fun j hj => by
        rcases hv4 with h | h
        · rw [h] at hj; cases hj
        · have := h j hj; have := HSZ.out; omega)
      have hB4 : Below w.heap.size w w4 := (hB2.trans (hB3.mono hB2.size)).trans (hk4'.below (fun j _ e => by subst e; exact hB2.size) (by have := hB2.size; have := hB3.size; omega))
      have hsz4 := hk4'.size
      have hcall := commitWrite_any w4 w2.heap.size w2.heap.size g v4 [3] (by have := HSZ.out; omega) hat4 o.co p.ps hb4 hs4 ⟨by omega, fun e => by have := HV4.out g e; omega⟩ (fun hx j hj => ⟨by have := hlt4 hx j hj; omega, fun e => by have := HV4.out j e; have := hlt4 hx j hj; omega⟩) (by have := HPL.out; omega) (by show o.msg.length ≤ 10000; rw [HM.out]; have := HML.out; omega) (by simp)
      rw [show o.co.tree = p.tree from HT.out, show o.co.msg = p.msg from HM.out] at hcall
      clear hk4 hv4 hat hk4'
      go_wp2_with fail
      refine (hcall).mono ?_
      rintro e w5 ⟨rfl, v5, hat5, hk5, hv5⟩
      have hB5 : Below w.heap.size w w5 := hB4.trans (hk5.below (fun j _ h => by
        rcases h with h | h
        · subst h; exact hB2.size
        · have := HV4.out j h
          have := hB2.size
          omega) hB4.size)
      rw [HEN.out] at hat5
      clear hk5 hv5 hat4 hb4 hs4 hlt4 hcall hB4 hsz4
      go_wp2_with fail
      refine (WrSinkAll_any w2.heap.size w5 v5 _ _ hat5 (by have := HLEN.out; omega)).mono ?_
      rintro e w6 ⟨r, rfl, hrow, h6⟩
      obtain ⟨A, n, c, rfl⟩ := owns_slice hrow
      have HR := Lib.hid hrow
      clear hrow hat5
      go_wp2_with fail
      go_ret2
      exact ⟨_, rfl, owns_base HR.out hB5.size, hB5.trans (h6.mono hB5.size)⟩
    | tag g hk hb =>
      have c0 := b1.obc.kd
      rw [hk] at c0
      have hkp := HO.out.kd
      have hfine := bodyB_fine (mayB_body hm).1
      have hpk : p.kd = 4 := by omega
      have HTK := Lib.hid (hfine.tg hpk)
      have HML := Lib.hid (hfine.msg (.inr hpk))
      have HT := Lib.hid HO.out.tg
      have HM := Lib.hid HO.out.msg
      have HEN := Lib.hid (show [4] ++ (lebB p.tg.kd.toNat ++ (p.tg.id ++ (lebB p.msg.length ++ p.msg))) = encP p by
        unfold encP
        rw [if_neg (by omega), if_neg (by omega), if_neg (by omega)]
        rw [show lebB 4 = [4] by decide])
      clear hk hkp hfine hm
      have hB3 : Below w2.heap.size w2 (w2.alloc (.cells #[.slice none 0 0] 96)) := (Below.refl _ w2).alloc (Nat.le_refl _) _
      have c0' := cellB hB3 c0
      have hat : WrSinkAt (w2.alloc (.cells #[.slice none 0 0] 96)) w2.heap.size w2.heap.size (.slice none 0 0) [] := ⟨Boxed.new w2 _ _, World.ownsRow_nil _ _ _ _⟩
      have hsz : (w2.alloc (.cells #[.slice none 0 0] 96)).heap.size = w2.heap.size + 1 := World.size_alloc _ _
      have hgb := hb.lt
      have HSZ := Lib.hid hsz
      clear hsz c0 b1
      go_wp2_with fail
      generalize w2.alloc (.cells #[.slice none 0 0] 96) = w3 at *
      refine (wKind_any w3 w2.heap.size w2.heap.size _ [] (by have := HSZ.out; omega) hat 4 (by decide) (by simp)).mono ?_
      rintro e w4 ⟨rfl, v4, hat4, hk4, hv4⟩
      rw [show ([] : List UInt8) ++ lebB 4 = [4] by decide] at hat4
      have hk4' : Kept (fun j => j = w2.heap.size) w3 w4 := hk4.mono (fun j _ h => by rcases h with h | h; exact h; cases h)
      have hb4 : BoxTg w4 g o.tag := (BoxE.below hb hB3).kept hk4' (by omega)
      have HV4 := Lib.hid (show ∀ j, v4.ownBlock = some j → w2.heap.size < j from fun j hj => by
        rcases hv4 with h | h
        · rw [h] at hj; cases hj
        · have := h j hj; have := HSZ.out; omega)
      have hB4 : Below w.heap.size w w4 := (hB2.trans (hB3.mono hB2.size)).trans (hk4'.below (fun j _ e => by subst e; exact hB2.size) (by have := hB2.size; have := hB3.size; omega))
      have hsz4 := hk4'.size
      have hcall := tagWrite_any w4 w2.heap.size w2.heap.size g v4 [4] (by have := HSZ.out; omega) hat4 o.tag hb4 ⟨by omega, fun e => by have := HV4.out g e; omega⟩ (by show 1 ≤ o.tg.kd ∧ o.tg.kd ≤ 4; rw [HT.out]; exact HTK.out) (by show o.msg.length ≤ 10000; rw [HM.out]; have := HML.out; omega) (by simp)
      rw [show o.tag.tg = p.tg from HT.out, show o.tag.msg = p.msg from HM.out] at hcall
      clear hk4 hv4 hat hk4'
      go_wp2_with fail
      refine (hcall).mono ?_
      rintro e w5 ⟨rfl, v5, hat5, hk5, hv5⟩
      have hB5 : Below w.heap.size w w5 := hB4.trans (hk5.below (fun j _ h => by
        rcases h with h | h
        · subst h; exact hB2.size
        · have := HV4.out j h
          have := hB2.size
          omega) hB4.size)
      rw [HEN.out] at hat5
      clear hk5 hv5 hat4 hb4 hcall hB4 hsz4
      go_wp2_with fail
      refine (WrSinkAll_any w2.heap.size w5 v5 _ _ hat5 (by have := HLEN.out; omega)).mono ?_
      rintro e w6 ⟨r, rfl, hrow, h6⟩
      obtain ⟨A, n, c, rfl⟩ := owns_slice hrow
      have HR := Lib.hid hrow
      clear hrow hat5
      go_wp2_with fail
      go_ret2
      exact ⟨_, rfl, owns_base HR.out hB5.size, hB5.trans (h6.mono hB5.size)⟩
    | none hk =>
      have := HO.out.kd
      have := (bodyB_fine (mayB_body hm).1).kd
      omega
  · rw [HM.out] at hm
    cases hm
set_option maxHeartbeats 1000000 in
/-- An object that may not be has none. -/
theorem oEncode_no (w : World) (o : Ob) (p : Pl) (ho : ObIs w o p) (sp : PlSmall p) (hm : mayB p = false) :
    Calls Tryz.prog 13 #[ObV o] w fun e W' => e = .returned (.tuple #[.slice none 0 0, .int .i64 70]) ∧ Below w.heap.size w W' := by
  have HO := Lib.hid ho
  have HM := Lib.hid hm
  clear ho hm
  go_enter Tryz.func13, Tryz.ntmps13
  go_wp2_with (first
    | (refine wpList_box_e (E := eOb) rfl (.tmp 0) rfl (x := o) rfl ?_; intro w1 b1 hB1)
    | (refine wpList_load_e (E := eOb) Tryz.underlying30 rfl sizeO rfl (.tmp 1) rfl rfl b1.at ?_))
  refine (oBodyOf_any _ o p (HO.out.below hB1) sp).mono ?_
  rintro e w2 ⟨v, rfl, hout, h2⟩
  have hB2 : Below w.heap.size w w2 := hB1.trans (h2.mono hB1.size)
  clear h2 b1
  rcases hout with ⟨hm, _⟩ | ⟨_, rfl⟩
  · rw [HM.out] at hm
    cases hm
  · go_wp2_with fail
    go_ret2
    exact ⟨rfl, hB2⟩
theorem parts_one {w : World} {u : Value} {xs : List UInt8} (h : Bs w u xs) : Parts (w.alloc (.cells #[u] 22)) (.slice (some ⟨w.heap.size, 0, none⟩) 1 1) [xs] := by
  refine ⟨some ⟨w.heap.size, 0, none⟩, 1, rfl, fun i p hp => ?_⟩
  match i, hp with
  | 0, hp =>
    cases hp
    exact ⟨_, _, _, rfl, by go_simp, h.below ((Below.refl _ w).alloc (Nat.le_refl _) _)⟩
set_option maxHeartbeats 1000000 in
/-- The id of an object that may be: the hash of its bytes. -/
theorem oID_yes (w : World) (o : Ob) (p : Pl) (ho : ObIs w o p) (sp : PlSmall p) (hm : mayB p = true) :
    Calls Tryz.prog 15 #[ObV o] w fun e W' => e = .returned (.tuple #[IdV (shaB (encP p)), .int .i64 0]) ∧ Below w.heap.size w W' := by
  have HLEN := Lib.hid (enc_length (bodyB_fine (mayB_body hm).1) ho.ids)
  have HO := Lib.hid ho
  have HM := Lib.hid hm
  obtain ⟨S, hS⟩ : ∃ S, S = shaB (encP p) := ⟨_, rfl⟩
  have hS32 : S.length = 32 := by rw [hS]; exact shaB_length _
  have o1 : ∀ W v, Parts W v [encP p] → Calls Tryz.prog 17 #[v] W fun e W' => e = .returned (IdV S) ∧ Below W.heap.size W W' := fun W v hv => by
    rw [hS]
    have := hOf_any W v [encP p] hv (by have := HLEN.out; simp; omega) (by simp)
    simpa using this
  rw [← hS]
  have O1 := Lib.hid o1
  clear ho hm hS o1
  go_enter Tryz.func15, Tryz.ntmps15
  go_wp2_with (first
    | (refine wpList_box_e (E := eOb) rfl (.tmp 0) rfl (x := o) rfl ?_; intro w1 b1 hB1)
    | (refine wpList_alloc_id rfl rfl ?_
       have b2 := BoxI.new w1 zeroID_length
       have hA2 := (Below.refl w1.heap.size w1).alloc (Nat.le_refl _) (.cells (zeroID.map B8).toArray 25)
       have b12 := b1.below hA2
       have hB2 := hB1.trans (hA2.mono hB1.size)
       generalize w1.alloc (.cells (zeroID.map B8).toArray 25) = w2 at *)
    | (refine wpList_load_e (E := eOb) Tryz.underlying30 rfl sizeO rfl (.tmp 1) rfl rfl b12.at ?_))
  refine (oEncode_yes w2 o p (HO.out.below hB2) sp HM.out).mono ?_
  rintro e w3 ⟨r, rfl, hrow, h3⟩
  have b23 := b2.below h3
  have hB3 := hB2.trans (h3.mono hB2.size)
  have hl1 := hB1.size
  have hbs := Bs.of_owns hrow
  obtain ⟨A, n, c, rfl⟩ := owns_slice hrow
  have HP := Lib.hid (parts_one hbs)
  have hA4 := (Below.refl w3.heap.size w3).alloc (Nat.le_refl _) (.cells #[.slice A n c] 22)
  have b24 := b23.below hA4
  have hB4 := hB3.trans (hA4.mono hB3.size)
  clear hrow hbs h3 b12 b1 b2 b23 hB3 hA4 hA2
  go_wp2_with fail
  refine (O1.out _ _ HP.out).mono ?_
  rintro e w5 ⟨rfl, h5⟩
  have b25 := b24.below h5
  have hB5 := hB4.trans (h5.mono hB4.size)
  clear h5 b24 hB4
  go_wp2_with (refine wpList_store_id rfl (.tmp 2) (.tmp 17) rfl rfl b25 hS32 rfl ?_; intro w6 b26 k6)
  refine bodyPost_ret (results_id2 rfl _ rfl b26) rfl ?_
  exact ⟨rfl, hB5.trans (k6.below (B := w.heap.size) (fun j _ e => by subst e; exact hl1) hB5.size)⟩
end Go.Proofs.YtljihmbmjpcfaaaGreat
