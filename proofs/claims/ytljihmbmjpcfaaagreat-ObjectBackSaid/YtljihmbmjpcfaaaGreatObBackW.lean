/- Encode of every object, and its id (tools/genobencode.py). Encode, Links, Lists and Same as the walks of objects ask them. The walk of ObjectBack (tools/genoback.py, mkhead in it). -/
import Derived.Test.YtljihmbmjpcfaaaGreatObWriteAll2
import Derived.Test.YtljihmbmjpcfaaaGreatObParse
import Derived.Test.YtljihmbmjpcfaaaGreatHashOf
import Derived.Test.YtljihmbmjpcfaaaGreatObLinksO
import Derived.Test.YtljihmbmjpcfaaaGreatObLinks
namespace Go.Proofs.YtljihmbmjpcfaaaGreat
open Go.RowKit Go.Shelf Go.Great
set_option maxRecDepth 100000

set_option maxHeartbeats 4000000 in
/-- The bytes of an object that may be. -/
theorem oEncode_yes (w : World) (o : Ob) (p : Pl) (ho : ObIs w o p) (sp : PlSmall p) (hm : mayB p = true) :
    Calls Tryz.prog 13 #[ObV o] w fun e W' => ∃ r, e = .returned (.tuple #[r, .int .i64 0]) ∧ W'.ownsRow w.heap.size 5 1 r (encP p).length ((encP p).map B8) ∧ Below w.heap.size w W' := by
  have HLEN := Lib.hid (enc_length (bodyB_fine (mayB_body hm).1) ho.ids)
  have HO := Lib.hid ho
  have HM := Lib.hid hm
  clear ho hm
  go_enter Tryz.func13, Tryz.ntmps13
  go_wp2_with (first
    | (refine wpList_box_e (E := eOb) rfl (.tmp 0) rfl (x := o) rfl ?_; intro w1 b1 hB1)
    | (refine wpList_load_e (E := eOb) Tryz.underlying30 rfl sizeO rfl (.tmp 1) rfl rfl b1.at ?_))
  refine (oBodyOf_any _ o p (HO.out.below hB1) sp).mono ?_
  rintro e w2 ⟨v, rfl, hout, h2⟩
  have hB2 : Below w.heap.size w w2 := hB1.trans (h2.mono hB1.size)
  replace HO := Lib.hid (HO.out.below hB2)
  replace b1 : BoxOb w2 w.heap.size o := b1.below h2
  clear h2
  rcases hout with ⟨hm, hbody⟩ | ⟨hm, _⟩
  · cases hbody with
    | blob g hk hb =>
      have c0 := b1.obc.kd
      rw [hk] at c0
      have hkp := HO.out.kd
      have hfine := bodyB_fine (mayB_body hm).1
      have hpk : p.kd = 1 := by omega
      have HDL := Lib.hid (hfine.d hpk)
      have HEN := Lib.hid (show [1] ++ (lebB p.d.length ++ p.d) = encP p by
        unfold encP
        rw [if_pos hpk]
        rw [show lebB 1 = [1] by decide])
      clear hk hkp hfine hm
      have hB3 : Below w2.heap.size w2 (w2.alloc (.cells #[.slice none 0 0] 96)) := (Below.refl _ w2).alloc (Nat.le_refl _) _
      have c0' := cellB hB3 c0
      have hat : WrSinkAt (w2.alloc (.cells #[.slice none 0 0] 96)) w2.heap.size w2.heap.size (.slice none 0 0) [] := ⟨Boxed.new w2 _ _, World.ownsRow_nil _ _ _ _⟩
      have hsz : (w2.alloc (.cells #[.slice none 0 0] 96)).heap.size = w2.heap.size + 1 := World.size_alloc _ _
      have hgb := hb.lt
      have HSZ := Lib.hid hsz
      clear hsz c0 b1
      go_wp2_with fail
      generalize w2.alloc (.cells #[.slice none 0 0] 96) = w3 at *
      refine (wKind_any w3 w2.heap.size w2.heap.size _ [] (by have := HSZ.out; omega) hat 1 (by decide) (by simp)).mono ?_
      rintro e w4 ⟨rfl, v4, hat4, hk4, hv4⟩
      rw [show ([] : List UInt8) ++ lebB 1 = [1] by decide] at hat4
      have hk4' : Kept (fun j => j = w2.heap.size) w3 w4 := hk4.mono (fun j _ h => by rcases h with h | h; exact h; cases h)
      have hb4 : BoxBlob w4 g o.dv := hk4'.boxed (boxedB hb hB3) (by omega)
      have hs4 : Bs w4 o.dv.v p.d := hk4'.bs1 (HO.out.d.below hB3) (fun hx j hj e => by have := HO.out.d.lt hx j hj; omega)
      have hlt4 := HO.out.d.lt
      have HV4 := Lib.hid (show ∀ j, v4.ownBlock = some j → w2.heap.size < j from fun j hj => by
        rcases hv4 with h | h
        · rw [h] at hj; cases hj
        · have := h j hj; have := HSZ.out; omega)
      have hB4 : Below w.heap.size w w4 := (hB2.trans (hB3.mono hB2.size)).trans (hk4'.below (fun j _ e => by subst e; exact hB2.size) (by have := hB2.size; have := hB3.size; omega))
      have hsz4 := hk4'.size
      clear hk4 hv4 hat hk4'
      go_wp2_with fail
      refine (blobWrite_any w4 w2.heap.size w2.heap.size g v4 [1] (by have := HSZ.out; omega) hat4 o.dv p.d hb4 hs4 (fun hx j hj => ⟨by have := hlt4 hx j hj; omega, fun e => by have := HV4.out j e; have := hlt4 hx j hj; omega⟩) (by have := HDL.out; simp; omega)).mono ?_
      rintro e w5 ⟨rfl, v5, hat5, hk5, hv5⟩
      have hB5 : Below w.heap.size w w5 := hB4.trans (hk5.below (fun j _ h => by
        rcases h with h | h
        · subst h; exact hB2.size
        · have := HV4.out j h
          have := hB2.size
          omega) hB4.size)
      rw [HEN.out] at hat5
      clear hk5 hv5 hat4 hb4 hs4 hlt4 hB4 hsz4
      go_wp2_with fail
      refine (WrSinkAll_any w2.heap.size w5 v5 _ _ hat5 (by have := HLEN.out; omega)).mono ?_
      rintro e w6 ⟨r, rfl, hrow, h6⟩
      obtain ⟨A, n, c, rfl⟩ := owns_slice hrow
      have HR := Lib.hid hrow
      clear hrow hat5
      go_wp2_with fail
      go_ret2
      exact ⟨_, rfl, owns_base HR.out hB5.size, hB5.trans (h6.mono hB5.size)⟩
    | tree g hk hb =>
      have c0 := b1.obc.kd
      rw [hk] at c0
      have hkp := HO.out.kd
      have hfine := bodyB_fine (mayB_body hm).1
      have hpk : p.kd = 2 := by omega
      have HEL := Lib.hid (hfine.el hpk)
      have HES := Lib.hid (hfine.es hpk)
      have HEN := Lib.hid (show [2] ++ (lebB p.es.length ++ p.es.flatMap encEnB) = encP p by
        unfold encP
        rw [if_neg (by omega), if_pos hpk]
        rw [show lebB 2 = [2] by decide])
      clear hk hkp hfine hm
      have hB3 : Below w2.heap.size w2 (w2.alloc (.cells #[.slice none 0 0] 96)) := (Below.refl _ w2).alloc (Nat.le_refl _) _
      have c0' := cellB hB3 c0
      have hat : WrSinkAt (w2.alloc (.cells #[.slice none 0 0] 96)) w2.heap.size w2.heap.size (.slice none 0 0) [] := ⟨Boxed.new w2 _ _, World.ownsRow_nil _ _ _ _⟩
      have hsz : (w2.alloc (.cells #[.slice none 0 0] 96)).heap.size = w2.heap.size + 1 := World.size_alloc _ _
      have hgb := hb.lt
      have HSZ := Lib.hid hsz
      clear hsz c0 b1
      go_wp2_with fail
      generalize w2.alloc (.cells #[.slice none 0 0] 96) = w3 at *
      refine (wKind_any w3 w2.heap.size w2.heap.size _ [] (by have := HSZ.out; omega) hat 2 (by decide) (by simp)).mono ?_
      rintro e w4 ⟨rfl, v4, hat4, hk4, hv4⟩
      rw [show ([] : List UInt8) ++ lebB 2 = [2] by decide] at hat4
      have hk4' : Kept (fun j => j = w2.heap.size) w3 w4 := hk4.mono (fun j _ h => by rcases h with h | h; exact h; cases h)
      have hb4 : BoxTree w4 g o.ev := hk4'.boxed (boxedB hb hB3) (by omega)
      have hs4 : Es eEn w4 o.ev.v p.es := (HO.out.es.below hB3).kept1 hk4' (fun hx j hj e => by have := HO.out.es.lt1 hx j hj; omega)
      have hlt4 := HO.out.es.lt1
      have HV4 := Lib.hid (show ∀ j, v4.ownBlock = some j → w2.heap.size < j from fun j hj => by
        rcases hv4 with h | h
        · rw [h] at hj; cases hj
        · have := h j hj; have := HSZ.out; omega)
      have hB4 : Below w.heap.size w w4 := (hB2.trans (hB3.mono hB2.size)).trans (hk4'.below (fun j _ e => by subst e; exact hB2.size) (by have := hB2.size; have := hB3.size; omega))
      have hsz4 := hk4'.size
      clear hk4 hv4 hat hk4'
      go_wp2_with fail
      refine (treeWrite_any w4 w2.heap.size w2.heap.size g v4 [2] (by have := HSZ.out; omega) hat4 o.ev p.es hb4 hs4 (fun hx j hj => ⟨by have := hlt4 hx j hj; omega, fun e => by have := HV4.out j e; have := hlt4 hx j hj; omega⟩) HEL.out HES.out (by simp)).mono ?_
      rintro e w5 ⟨rfl, v5, hat5, hk5, hv5⟩
      have hB5 : Below w.heap.size w w5 := hB4.trans (hk5.below (fun j _ h => by
        rcases h with h | h
        · subst h; exact hB2.size
        · have := HV4.out j h
          have := hB2.size
          omega) hB4.size)
      rw [HEN.out] at hat5
      clear hk5 hv5 hat4 hb4 hs4 hlt4 hB4 hsz4
      go_wp2_with fail
      refine (WrSinkAll_any w2.heap.size w5 v5 _ _ hat5 (by have := HLEN.out; omega)).mono ?_
      rintro e w6 ⟨r, rfl, hrow, h6⟩
      obtain ⟨A, n, c, rfl⟩ := owns_slice hrow
      have HR := Lib.hid hrow
      clear hrow hat5
      go_wp2_with fail
      go_ret2
      exact ⟨_, rfl, owns_base HR.out hB5.size, hB5.trans (h6.mono hB5.size)⟩
    | commit g hk hb =>
      have c0 := b1.obc.kd
      rw [hk] at c0
      have hkp := HO.out.kd
      have hfine := bodyB_fine (mayB_body hm).1
      have hpk : p.kd = 3 := by omega
      have HPL := Lib.hid (hfine.pl hpk)
      have HML := Lib.hid (hfine.msg (.inl hpk))
      have HT := Lib.hid HO.out.tree
      have HM := Lib.hid HO.out.msg
      have HEN := Lib.hid (show [3] ++ (p.tree ++ ((lebB p.ps.length ++ p.ps.flatten) ++ (lebB p.msg.length ++ p.msg))) = encP p by
        unfold encP
        rw [if_neg (by omega), if_neg (by omega), if_pos hpk]
        rw [show lebB 3 = [3] by decide])
      clear hk hkp hfine hm
      have hB3 : Below w2.heap.size w2 (w2.alloc (.cells #[.slice none 0 0] 96)) := (Below.refl _ w2).alloc (Nat.le_refl _) _
      have c0' := cellB hB3 c0
      have hat : WrSinkAt (w2.alloc (.cells #[.slice none 0 0] 96)) w2.heap.size w2.heap.size (.slice none 0 0) [] := ⟨Boxed.new w2 _ _, World.ownsRow_nil _ _ _ _⟩
      have hsz : (w2.alloc (.cells #[.slice none 0 0] 96)).heap.size = w2.heap.size + 1 := World.size_alloc _ _
      have hgb := hb.lt
      have HSZ := Lib.hid hsz
      clear hsz c0 b1
      go_wp2_with fail
      generalize w2.alloc (.cells #[.slice none 0 0] 96) = w3 at *
      refine (wKind_any w3 w2.heap.size w2.heap.size _ [] (by have := HSZ.out; omega) hat 3 (by decide) (by simp)).mono ?_
      rintro e w4 ⟨rfl, v4, hat4, hk4, hv4⟩
      rw [show ([] : List UInt8) ++ lebB 3 = [3] by decide] at hat4
      have hk4' : Kept (fun j => j = w2.heap.size) w3 w4 := hk4.mono (fun j _ h => by rcases h with h | h; exact h; cases h)
      have hb4 : BoxCo w4 g o.co := (BoxE.below hb hB3).kept hk4' (by omega)
      have hs4 : Is w4 o.co.pv.v p.ps := (HO.out.ps.below hB3).kept1 hk4' (fun hx j hj e => by have := HO.out.ps.lt1 hx j hj; omega)
      have hlt4 := HO.out.ps.lt1
      have HV4 := Lib.hid (show ∀ j, v4.ownBlock = some j → w2.heap.size < j from fun j hj => by
        rcases hv4 with h | h
        · rw [h] at hj; cases hj
        · have := h j hj; have := HSZ.out; omega)
      have hB4 : Below w.heap.size w w4 := (hB2.trans (hB3.mono hB2.size)).trans (hk4'.below (fun j _ e => by subst e; exact hB2.size) (by have := hB2.size; have := hB3.size; omega))
      have hsz4 := hk4'.size
      have hcall := commitWrite_any w4 w2.heap.size w2.heap.size g v4 [3] (by have := HSZ.out; omega) hat4 o.co p.ps hb4 hs4 ⟨by omega, fun e => by have := HV4.out g e; omega⟩ (fun hx j hj => ⟨by have := hlt4 hx j hj; omega, fun e => by have := HV4.out j e; have := hlt4 hx j hj; omega⟩) (by have := HPL.out; omega) (by show o.msg.length ≤ 10000; rw [HM.out]; have := HML.out; omega) (by simp)
      rw [show o.co.tree = p.tree from HT.out, show o.co.msg = p.msg from HM.out] at hcall
      clear hk4 hv4 hat hk4'
      go_wp2_with fail
      refine (hcall).mono ?_
      rintro e w5 ⟨rfl, v5, hat5, hk5, hv5⟩
      have hB5 : Below w.heap.size w w5 := hB4.trans (hk5.below (fun j _ h => by
        rcases h with h | h
        · subst h; exact hB2.size
        · have := HV4.out j h
          have := hB2.size
          omega) hB4.size)
      rw [HEN.out] at hat5
      clear hk5 hv5 hat4 hb4 hs4 hlt4 hcall hB4 hsz4
      go_wp2_with fail
      refine (WrSinkAll_any w2.heap.size w5 v5 _ _ hat5 (by have := HLEN.out; omega)).mono ?_
      rintro e w6 ⟨r, rfl, hrow, h6⟩
      obtain ⟨A, n, c, rfl⟩ := owns_slice hrow
      have HR := Lib.hid hrow
      clear hrow hat5
      go_wp2_with fail
      go_ret2
      exact ⟨_, rfl, owns_base HR.out hB5.size, hB5.trans (h6.mono hB5.size)⟩
    | tag g hk hb =>
      have c0 := b1.obc.kd
      rw [hk] at c0
      have hkp := HO.out.kd
      have hfine := bodyB_fine (mayB_body hm).1
      have hpk : p.kd = 4 := by omega
      have HTK := Lib.hid (hfine.tg hpk)
      have HML := Lib.hid (hfine.msg (.inr hpk))
      have HT := Lib.hid HO.out.tg
      have HM := Lib.hid HO.out.msg
      have HEN := Lib.hid (show [4] ++ (lebB p.tg.kd.toNat ++ (p.tg.id ++ (lebB p.msg.length ++ p.msg))) = encP p by
        unfold encP
        rw [if_neg (by omega), if_neg (by omega), if_neg (by omega)]
        rw [show lebB 4 = [4] by decide])
      clear hk hkp hfine hm
      have hB3 : Below w2.heap.size w2 (w2.alloc (.cells #[.slice none 0 0] 96)) := (Below.refl _ w2).alloc (Nat.le_refl _) _
      have c0' := cellB hB3 c0
      have hat : WrSinkAt (w2.alloc (.cells #[.slice none 0 0] 96)) w2.heap.size w2.heap.size (.slice none 0 0) [] := ⟨Boxed.new w2 _ _, World.ownsRow_nil _ _ _ _⟩
      have hsz : (w2.alloc (.cells #[.slice none 0 0] 96)).heap.size = w2.heap.size + 1 := World.size_alloc _ _
      have hgb := hb.lt
      have HSZ := Lib.hid hsz
      clear hsz c0 b1
      go_wp2_with fail
      generalize w2.alloc (.cells #[.slice none 0 0] 96) = w3 at *
      refine (wKind_any w3 w2.heap.size w2.heap.size _ [] (by have := HSZ.out; omega) hat 4 (by decide) (by simp)).mono ?_
      rintro e w4 ⟨rfl, v4, hat4, hk4, hv4⟩
      rw [show ([] : List UInt8) ++ lebB 4 = [4] by decide] at hat4
      have hk4' : Kept (fun j => j = w2.heap.size) w3 w4 := hk4.mono (fun j _ h => by rcases h with h | h; exact h; cases h)
      have hb4 : BoxTg w4 g o.tag := (BoxE.below hb hB3).kept hk4' (by omega)
      have HV4 := Lib.hid (show ∀ j, v4.ownBlock = some j → w2.heap.size < j from fun j hj => by
        rcases hv4 with h | h
        · rw [h] at hj; cases hj
        · have := h j hj; have := HSZ.out; omega)
      have hB4 : Below w.heap.size w w4 := (hB2.trans (hB3.mono hB2.size)).trans (hk4'.below (fun j _ e => by subst e; exact hB2.size) (by have := hB2.size; have := hB3.size; omega))
      have hsz4 := hk4'.size
      have hcall := tagWrite_any w4 w2.heap.size w2.heap.size g v4 [4] (by have := HSZ.out; omega) hat4 o.tag hb4 ⟨by omega, fun e => by have := HV4.out g e; omega⟩ (by show 1 ≤ o.tg.kd ∧ o.tg.kd ≤ 4; rw [HT.out]; exact HTK.out) (by show o.msg.length ≤ 10000; rw [HM.out]; have := HML.out; omega) (by simp)
      rw [show o.tag.tg = p.tg from HT.out, show o.tag.msg = p.msg from HM.out] at hcall
      clear hk4 hv4 hat hk4'
      go_wp2_with fail
      refine (hcall).mono ?_
      rintro e w5 ⟨rfl, v5, hat5, hk5, hv5⟩
      have hB5 : Below w.heap.size w w5 := hB4.trans (hk5.below (fun j _ h => by
        rcases h with h | h
        · subst h; exact hB2.size
        · have := HV4.out j h
          have := hB2.size
          omega) hB4.size)
      rw [HEN.out] at hat5
      clear hk5 hv5 hat4 hb4 hcall hB4 hsz4
      go_wp2_with fail
      refine (WrSinkAll_any w2.heap.size w5 v5 _ _ hat5 (by have := HLEN.out; omega)).mono ?_
      rintro e w6 ⟨r, rfl, hrow, h6⟩
      obtain ⟨A, n, c, rfl⟩ := owns_slice hrow
      have HR := Lib.hid hrow
      clear hrow hat5
      go_wp2_with fail
      go_ret2
      exact ⟨_, rfl, owns_base HR.out hB5.size, hB5.trans (h6.mono hB5.size)⟩
    | none hk =>
      have := HO.out.kd
      have := (bodyB_fine (mayB_body hm).1).kd
      omega
  · rw [HM.out] at hm
    cases hm
set_option maxHeartbeats 1000000 in
/-- An object that may not be has none. -/
theorem oEncode_no (w : World) (o : Ob) (p : Pl) (ho : ObIs w o p) (sp : PlSmall p) (hm : mayB p = false) :
    Calls Tryz.prog 13 #[ObV o] w fun e W' => e = .returned (.tuple #[.slice none 0 0, .int .i64 70]) ∧ Below w.heap.size w W' := by
  have HO := Lib.hid ho
  have HM := Lib.hid hm
  clear ho hm
  go_enter Tryz.func13, Tryz.ntmps13
  go_wp2_with (first
    | (refine wpList_box_e (E := eOb) rfl (.tmp 0) rfl (x := o) rfl ?_; intro w1 b1 hB1)
    | (refine wpList_load_e (E := eOb) Tryz.underlying30 rfl sizeO rfl (.tmp 1) rfl rfl b1.at ?_))
  refine (oBodyOf_any _ o p (HO.out.below hB1) sp).mono ?_
  rintro e w2 ⟨v, rfl, hout, h2⟩
  have hB2 : Below w.heap.size w w2 := hB1.trans (h2.mono hB1.size)
  clear h2 b1
  rcases hout with ⟨hm, _⟩ | ⟨_, rfl⟩
  · rw [HM.out] at hm
    cases hm
  · go_wp2_with fail
    go_ret2
    exact ⟨rfl, hB2⟩
theorem parts_one {w : World} {u : Value} {xs : List UInt8} (h : Bs w u xs) : Parts (w.alloc (.cells #[u] 22)) (.slice (some ⟨w.heap.size, 0, none⟩) 1 1) [xs] := by
  refine ⟨some ⟨w.heap.size, 0, none⟩, 1, rfl, fun i p hp => ?_⟩
  match i, hp with
  | 0, hp =>
    cases hp
    exact ⟨_, _, _, rfl, by go_simp, h.below ((Below.refl _ w).alloc (Nat.le_refl _) _)⟩
set_option maxHeartbeats 1000000 in
/-- The id of an object that may be: the hash of its bytes. -/
theorem oID_yes (w : World) (o : Ob) (p : Pl) (ho : ObIs w o p) (sp : PlSmall p) (hm : mayB p = true) :
    Calls Tryz.prog 15 #[ObV o] w fun e W' => e = .returned (.tuple #[IdV (shaB (encP p)), .int .i64 0]) ∧ Below w.heap.size w W' := by
  have HLEN := Lib.hid (enc_length (bodyB_fine (mayB_body hm).1) ho.ids)
  have HO := Lib.hid ho
  have HM := Lib.hid hm
  obtain ⟨S, hS⟩ : ∃ S, S = shaB (encP p) := ⟨_, rfl⟩
  have hS32 : S.length = 32 := by rw [hS]; exact shaB_length _
  have o1 : ∀ W v, Parts W v [encP p] → Calls Tryz.prog 17 #[v] W fun e W' => e = .returned (IdV S) ∧ Below W.heap.size W W' := fun W v hv => by
    rw [hS]
    have := hOf_any W v [encP p] hv (by have := HLEN.out; simp; omega) (by simp)
    simpa using this
  rw [← hS]
  have O1 := Lib.hid o1
  clear ho hm hS o1
  go_enter Tryz.func15, Tryz.ntmps15
  go_wp2_with (first
    | (refine wpList_box_e (E := eOb) rfl (.tmp 0) rfl (x := o) rfl ?_; intro w1 b1 hB1)
    | (refine wpList_alloc_id rfl rfl ?_
       have b2 := BoxI.new w1 zeroID_length
       have hA2 := (Below.refl w1.heap.size w1).alloc (Nat.le_refl _) (.cells (zeroID.map B8).toArray 25)
       have b12 := b1.below hA2
       have hB2 := hB1.trans (hA2.mono hB1.size)
       generalize w1.alloc (.cells (zeroID.map B8).toArray 25) = w2 at *)
    | (refine wpList_load_e (E := eOb) Tryz.underlying30 rfl sizeO rfl (.tmp 1) rfl rfl b12.at ?_))
  refine (oEncode_yes w2 o p (HO.out.below hB2) sp HM.out).mono ?_
  rintro e w3 ⟨r, rfl, hrow, h3⟩
  have b23 := b2.below h3
  have hB3 := hB2.trans (h3.mono hB2.size)
  have hl1 := hB1.size
  have hbs := Bs.of_owns hrow
  obtain ⟨A, n, c, rfl⟩ := owns_slice hrow
  have HP := Lib.hid (parts_one hbs)
  have hA4 := (Below.refl w3.heap.size w3).alloc (Nat.le_refl _) (.cells #[.slice A n c] 22)
  have b24 := b23.below hA4
  have hB4 := hB3.trans (hA4.mono hB3.size)
  clear hrow hbs h3 b12 b1 b2 b23 hB3 hA4 hA2
  go_wp2_with fail
  refine (O1.out _ _ HP.out).mono ?_
  rintro e w5 ⟨rfl, h5⟩
  have b25 := b24.below h5
  have hB5 := hB4.trans (h5.mono hB4.size)
  clear h5 b24 hB4
  go_wp2_with (refine wpList_store_id rfl (.tmp 2) (.tmp 17) rfl rfl b25 hS32 rfl ?_; intro w6 b26 k6)
  refine bodyPost_ret (results_id2 rfl _ rfl b26) rfl ?_
  exact ⟨rfl, hB5.trans (k6.below (B := w.heap.size) (fun j _ e => by subst e; exact hl1) hB5.size)⟩
end Go.Proofs.YtljihmbmjpcfaaaGreat
namespace Go.Proofs.YtljihmbmjpcfaaaGreat
open Go.RowKit Go.Shelf Go.Great
set_option maxRecDepth 100000

theorem oLinks_es (w : World) (o : Ob) (p : Pl) (ho : ObIs w o p) (sp : PlSmall p) :
    Calls Tryz.prog 20 #[ObV o] w fun e W' => ∃ A c, Es eLk W' (.slice A (linksB p).length c) (linksB p) ∧ e = .returned (.slice A (linksB p).length c) ∧ Below w.heap.size w W' :=
  (oLinks_any w o p ho sp).mono fun e W' ⟨v, h1, h2, h3⟩ => by
    obtain ⟨A, c, rfl, _⟩ := h2.slice
    exact ⟨A, c, h2.is, h1, h3⟩
theorem r7Lists_same (w : World) (u v : Value) (l : List Lk) (hl : Es eLk w u l) (hm : Es eLk w v l) (hll : l.length ≤ 1000000) :
    Calls Tryz.prog 19 #[u, v] w fun e W' => e = .returned (.bool true) ∧ Below w.heap.size w W' := by
  have h := r7Lists_any w u v l l hl hm hll hll
  simpa using h
theorem oSame_self (w : World) (a b : Ob) (p : Pl) (ha : ObIs w a p) (hb : ObIs w b p) (sp : PlSmall p) :
    Calls Tryz.prog 16 #[ObV a, ObV b] w fun e W' => e = .returned (.bool true) ∧ Below w.heap.size w W' := by
  have h := oSame_any w a b p p ha hb sp sp
  simpa using h
theorem oSame_not (w : World) (a b : Ob) (p q : Pl) (ha : ObIs w a p) (hb : ObIs w b q) (sp : PlSmall p) (sq : PlSmall q) (hne : ¬ p = q) :
    Calls Tryz.prog 16 #[ObV a, ObV b] w fun e W' => e = .returned (.bool false) ∧ Below w.heap.size w W' := by
  have h := oSame_any w a b p q ha hb sp sq
  rw [decide_eq_false hne] at h
  exact h
theorem linksB_length {p : Pl} (sp : PlSmall p) : (linksB p).length ≤ 1000000 := by
  have h1 := sp.es
  have h2 := sp.ps
  unfold linksB linksK
  split
  · split
    · simp; omega
    · split
      · simp; omega
      · split <;> simp
  · simp
/-- Encode, whatever the object: its bytes, or none. -/
theorem oEncode_es (w : World) (o : Ob) (p : Pl) (ho : ObIs w o p) (sp : PlSmall p) (hm : mayB p = true) :
    Calls Tryz.prog 13 #[ObV o] w fun e W' => ∃ A c, Bs W' (.slice A (encP p).length c) (encP p) ∧ e = .returned (.tuple #[.slice A (encP p).length c, .int .i64 0]) ∧ Below w.heap.size w W' :=
  (oEncode_yes w o p ho sp hm).mono fun e W' ⟨r, h1, h2, h3⟩ => by
    have hb := Bs.of_owns h2
    obtain ⟨A, c, rfl, _⟩ := hb.form
    exact ⟨A, c, hb, h1, h3⟩
end Go.Proofs.YtljihmbmjpcfaaaGreat
namespace Go.Proofs.YtljihmbmjpcfaaaGreat
open Go.RowKit Go.Shelf Go.Great
set_option maxRecDepth 100000

theorem mayB_small {q : Pl} (h : mayB q = true) : PlSmall q := by
  obtain ⟨hb, ho⟩ := mayB_body h
  have hf := bodyB_fine hb
  rcases hf.kd with h1 | h2 | h3 | h4
  · have e : q = ⟨1, q.d, [], zeroID, [], zeroLk, []⟩ := by have := ho; unfold onlyK at this; rwa [if_pos h1] at this
    have e1 : q.es = [] := congrArg Pl.es e
    have e2 : q.ps = [] := congrArg Pl.ps e
    exact ⟨by have := hf.d h1; omega, by rw [e1]; simp, by rw [e2]; simp⟩
  · have e : q = ⟨2, [], q.es, zeroID, [], zeroLk, []⟩ := by have := ho; unfold onlyK at this; rwa [if_neg (by omega), if_pos h2] at this
    have e1 : q.d = [] := congrArg Pl.d e
    have e2 : q.ps = [] := congrArg Pl.ps e
    exact ⟨by rw [e1]; simp, by have := hf.el h2; omega, by rw [e2]; simp⟩
  · have e : q = ⟨3, [], [], q.tree, q.ps, zeroLk, q.msg⟩ := by have := ho; unfold onlyK at this; rwa [if_neg (by omega), if_neg (by omega), if_pos h3] at this
    have e1 : q.es = [] := congrArg Pl.es e
    have e2 : q.d = [] := congrArg Pl.d e
    exact ⟨by rw [e2]; simp, by rw [e1]; simp, by have := hf.pl h3; omega⟩
  · have e : q = ⟨4, [], [], zeroID, [], q.tg, q.msg⟩ := by have := ho; unfold onlyK at this; rwa [if_neg (by omega), if_neg (by omega), if_neg (by omega), if_pos h4] at this
    have e1 : q.es = [] := congrArg Pl.es e
    have e2 : q.d = [] := congrArg Pl.d e
    have e3 : q.ps = [] := congrArg Pl.ps e
    exact ⟨by rw [e2]; simp, by rw [e1]; simp, by rw [e3]; simp⟩
set_option maxHeartbeats 8000000 in
theorem back_obj (w : World) (o1 : Ob) (p : Pl) (h1 : ObIs w o1 p) (sv : Value) (bs : List UInt8) (hs : Bs w sv bs) (hm : bs.length ≤ 9223372036854775807) :
    Calls Tryz.prog 3 #[ObV o1, sv] w fun e W' => e = .returned (.bool true) ∧ Below w.heap.size w W' := by
  obtain ⟨A, c, rfl, hcap⟩ := hs.form
  have HO1 := Lib.hid h1
  have HS := Lib.hid hs
  clear h1 hs hcap
  go_enter Tryz.func3, Tryz.ntmps3
  go_wp2_with (refine wpList_box_e (E := eOb) rfl (.tmp 0) rfl (x := o1) rfl ?_; intro w1 b1 hB1)
  refine (alive7_any w1).mono ?_
  rintro e w2 ⟨rfl, h2⟩
  have hB2 := hB1.trans (h2.mono hB1.size)
  replace b1 : BoxOb w2 w.heap.size o1 := b1.below h2
  clear h2 hB1
  go_wp2_with (refine wpList_load_e (E := eOb) Tryz.underlying30 rfl sizeO rfl (.tmp 2) rfl rfl b1.at ?_)
  refine (r7Great_any w2 o1 p (HO1.out.below hB2)).mono ?_
  rintro e w3 ⟨r, rfl, hgr, h3⟩
  have hB3 := hB2.trans (h3.mono hB2.size)
  replace b1 : BoxOb w3 w.heap.size o1 := b1.below h3
  clear h3 hB2
  rcases hgr with ⟨rfl, hfit⟩ | rfl
  case inr =>
    go_wp2_with fail
    go_ret
    exact ⟨rfl, hB3⟩
  case inl =>
    have SP := Lib.hid hfit.small
    clear hfit
    by_cases h5 : 5000 < bs.length
    case pos =>
      have h5i : (5000 : Int) < (bs.length : Int) := by omega
      clear h5
      go_wp2_with fail
      go_ret
      exact ⟨rfl, hB3⟩
    case neg =>
      have h5i : ¬ (5000 : Int) < (bs.length : Int) := by omega
      go_wp2_with (refine wpList_load_e (E := eOb) Tryz.underlying30 rfl sizeO rfl (.tmp 2) rfl rfl b1.at ?_)
      cases hmp : mayB p with
      | false =>
        refine (oEncode_no w3 o1 p (HO1.out.below hB3) SP.out hmp).mono ?_
        rintro e wp ⟨rfl, h4⟩
        have hBp := hB3.trans (h4.mono hB3.size)
        clear h4 hB3 hmp b1
        go_wp2_with fail
        refine (oParse_any wp _ bs (HS.out.below hBp) (by omega)).mono ?_
        rintro e w20 ⟨hout, h20⟩
        have hB20 := hBp.trans (h20.mono hBp.size)
        have bz := BoxE.new (E := eOb) (t := 30) w20 zeroOb
        have hA := (Below.refl w20.heap.size w20).alloc (Nat.le_refl _) (.cells (eOb.enc zeroOb).toArray 30)
        rcases hout with ⟨o3, q, hq, rfl, hnew⟩ | ⟨hq, rfl⟩
        case inr =>
          have hkb : ∀ W, Below w.heap.size w W → Calls Tryz.prog 18 #[.slice A bs.length c] W fun e W' => e = .returned (.int .i64 0) ∧ Below W.heap.size W W' := fun W hW => by
            have h := oKind_any W _ bs (HS.out.below hW) (by omega)
            rwa [show kindP bs = 0 by unfold kindP; rw [hq]] at h
          clear hq h20
          go_wp2_with (first
            | (refine wpList_alloc_e (E := eOb) (z := zeroOb) zeroOb_run rfl rfl ?_)
            | (refine wpList_store_e (E := eOb) sizeO rfl (.tmp 12) (.tmp 81) rfl rfl bz rfl ?_; intro w21 b21 k21; have hB21 : Below w.heap.size w w21 := hB20.trans ((hA.trans (k21.below (B := w20.heap.size) (fun j _ e => by omega) hA.size)).mono hB20.size)))
          refine (hkb w21 hB21).mono ?_
          rintro e w22 ⟨rfl, h22⟩
          have hB22 := hB21.trans (h22.mono hB21.size)
          clear h22
          go_wp2_with fail
          go_ret
          exact ⟨rfl, hB22⟩
        case inl =>
          obtain ⟨hbq, hb1, hb2, _⟩ := enc_parse hq
          have hmq : mayB q = true := by unfold mayB; rw [hb1, decide_eq_true hb2]; rfl
          have HCQ := Lib.hid (show ∀ W, Below w20.heap.size w20 W → Calls Tryz.prog 13 #[ObV o3] W fun e W' => ∃ A c, Bs W' (.slice A bs.length c) bs ∧ e = .returned (.tuple #[.slice A bs.length c, .int .i64 0]) ∧ Below W.heap.size W W' from fun W hW => by
            have h := oEncode_es W o3 q (hnew.is.below hW) (mayB_small hmq) hmq
            rwa [← hbq] at h)
          clear hq hbq hb1 hb2 hmq hnew h20
          go_wp2_with (first
            | (refine wpList_alloc_e (E := eOb) (z := zeroOb) zeroOb_run rfl rfl ?_)
            | (refine wpList_store_e (E := eOb) sizeO rfl (.tmp 12) (.tmp 81) rfl rfl bz rfl ?_; intro w21 b21 k21; have h21 : Below w20.heap.size w20 w21 := hA.trans (k21.below (B := w20.heap.size) (fun j _ e => by omega) hA.size); have hB21 : Below w.heap.size w w21 := hB20.trans (h21.mono hB20.size))
            | (refine wpList_load_e (E := eOb) Tryz.underlying30 rfl sizeO rfl (.tmp 12) rfl rfl b21.at ?_))
          refine (HCQ.out w21 h21).mono ?_
          rintro e w22 ⟨A3, c3, hb3, rfl, h22⟩
          have hB22 := hB21.trans (h22.mono hB21.size)
          have q1 := run_string_bs (P := Tryz.prog) w22 22 9 5 Tryz.underlying22 Tryz.underlying5 Tryz.underlying9 hb3
          have q2 := run_string_bs (P := Tryz.prog) w22 22 9 5 Tryz.underlying22 Tryz.underlying5 Tryz.underlying9 (HS.out.below hB22)
          clear h22 hb3
          go_wp2_with fail
          go_ret
          exact ⟨rfl, hB22⟩
      | true =>
        refine (oEncode_es w3 o1 p (HO1.out.below hB3) SP.out hmp).mono ?_
        rintro e w4 ⟨A1, c1, hba, rfl, h4⟩
        have hB4 := hB3.trans (h4.mono hB3.size)
        replace b1 : BoxOb w4 w.heap.size o1 := b1.below h4
        have hpe := parse_enc (bodyB_fine (mayB_body hmp).1) HO1.out.ids (mayB_body hmp).1 (mayB_body hmp).2
        have hle4 := enc_length (bodyB_fine (mayB_body hmp).1) HO1.out.ids
        obtain ⟨S, hS⟩ : ∃ S, S = shaB (encP p) := ⟨_, rfl⟩
        have hS32 : S.length = 32 := by rw [hS]; exact shaB_length _
        have HI1 := Lib.hid (show ∀ W, Below w.heap.size w W → Calls Tryz.prog 15 #[ObV o1] W fun e W' => e = .returned (.tuple #[IdV S, .int .i64 0]) ∧ Below W.heap.size W W' from fun W hW => by rw [hS]; exact oID_yes W o1 p (HO1.out.below hW) SP.out hmp)
        have HOF := Lib.hid (show ∀ W v, Parts W v [encP p] → Calls Tryz.prog 17 #[v] W fun e W' => e = .returned (IdV S) ∧ Below W.heap.size W W' from fun W v hv => by
          rw [hS]
          have := hOf_any W v [encP p] hv (by simp; omega) (by simp)
          simpa using this)
        obtain ⟨kd, hkd⟩ : ∃ kd, kd = p.kd := ⟨_, rfl⟩
        have HKD := Lib.hid (show ∀ W v, Bs W v (encP p) → Calls Tryz.prog 18 #[v] W fun e W' => e = .returned (.int .i64 kd) ∧ Below W.heap.size W W' from fun W v hv => by
          have h := oKind_any W v _ hv (by omega)
          rwa [show kindP (encP p) = kd by unfold kindP; rw [hpe, hkd]] at h)
        have HPA := Lib.hid (show ∀ W v, Bs W v (encP p) → Calls Tryz.prog 14 #[v] W fun e W' => ∃ o2, ObIs W' o2 p ∧ e = .returned (.tuple #[ObV o2, .int .i64 0]) ∧ Below W.heap.size W W' from fun W v hv =>
          (oParse_any W v _ hv (by omega)).mono fun e W' ⟨hout, hB⟩ => by
            rcases hout with ⟨o2, q, hq, he, hnew⟩ | ⟨hq, _⟩
            · rw [hpe] at hq
              cases hq
              exact ⟨o2, hnew.is, he, hB⟩
            · rw [hpe] at hq
              cases hq)
        have HLE := Lib.hid (show ¬ (4000 : Int) < ((encP p).length : Int) by omega)
        have HBA := Lib.hid hba
        have HKO := Lib.hid (show o1.kd = kd by rw [hkd]; exact HO1.out.kd)
        clear h4 hB3 hmp hba hpe hle4 hS hkd
        generalize encP p = xa at *
        go_wp2_with fail
        refine (HPA.out w4 _ HBA.out).mono ?_
        rintro e w6 ⟨o2, ho2, rfl, h6⟩
        have hB6 := hB4.trans (h6.mono hB4.size)
        replace b1 : BoxOb w6 w.heap.size o1 := b1.below h6
        replace HBA := Lib.hid (HBA.out.below h6)
        have HO2 := Lib.hid ho2
        have bz := BoxE.new (E := eOb) (t := 30) w6 zeroOb
        have hA7 := (Below.refl w6.heap.size w6).alloc (Nat.le_refl _) (.cells (eOb.enc zeroOb).toArray 30)
        clear h6 hB4 ho2
        go_wp2_with (first
          | (refine wpList_alloc_e (E := eOb) (z := zeroOb) zeroOb_run rfl rfl ?_)
          | (refine wpList_store_e (E := eOb) sizeO rfl (.tmp 8) (.tmp 40) rfl rfl bz rfl ?_
             intro w8 b8 k8
             have h8 : Below w6.heap.size w6 w8 := hA7.trans (k8.below (B := w6.heap.size) (fun j _ e => by omega) hA7.size)
             have hB8 := hB6.trans (h8.mono hB6.size)
             replace b1 : BoxOb w8 w.heap.size o1 := b1.below h8
             replace HBA := Lib.hid (HBA.out.below h8)
             replace HO2 := Lib.hid (HO2.out.below h8)
             clear h8 hB6 k8 hA7 bz)
          | (refine wpList_load_e (E := eOb) Tryz.underlying30 rfl sizeO rfl (.tmp 2) rfl rfl b1.at ?_))
        refine (HI1.out w8 hB8).mono ?_
        rintro e w9 ⟨rfl, h9⟩
        have hB9 := hB8.trans (h9.mono hB8.size)
        replace b1 : BoxOb w9 w.heap.size o1 := b1.below h9
        replace b8 : BoxOb w9 w6.heap.size o2 := b8.below h9
        replace HBA := Lib.hid (HBA.out.below h9)
        replace HO2 := Lib.hid (HO2.out.below h9)
        clear h9 hB8
        go_wp2_with (first
          | (refine wpList_alloc_id rfl rfl ?_
             have i1 := BoxI.new w9 zeroID_length
             have hA := (Below.refl w9.heap.size w9).alloc (Nat.le_refl _) (.cells (zeroID.map B8).toArray 25)
             generalize w9.alloc (.cells (zeroID.map B8).toArray 25) = w10 at *)
          | (refine wpList_store_id rfl (.tmp 10) (.tmp 45) rfl rfl i1 hS32 rfl ?_
             intro w11 i11 k11
             have h11 : Below w9.heap.size w9 w11 := hA.trans (k11.below (B := w9.heap.size) (fun j _ e => by omega) hA.size)
             have hB11 := hB9.trans (h11.mono hB9.size)
             replace b1 : BoxOb w11 w.heap.size o1 := b1.below h11
             replace b8 : BoxOb w11 w6.heap.size o2 := b8.below h11
             replace HBA := Lib.hid (HBA.out.below h11)
             replace HO2 := Lib.hid (HO2.out.below h11)
             clear h11 hB9 i1 hA k11))
        have q2 := b1.at
        have q8 := b8.at
        have q10 := i11.at
        have c2 := ObAt.kd b1.at
        rw [HKO.out] at c2
        have hle4 := HLE.out
        replace HO1 := Lib.hid (HO1.out.below hB11)
        refine wp_held (fun W1 => Below w11.heap.size w11 W1) (by kernel_rfl) ?_
        have hS0 : Below w11.heap.size w11 w11.drew := (Below.refl _ w11).drew
        clear b1 b8 i11 HI1 HPA
        refine wpAnyH_next (i := 0) (v := .int .i64 0) rfl (by kernel_rfl) (by kernel_rfl) (by kernel_rfl) (fun _ _ _ h => h) (by kernel_rfl) (fun W1 hW1 => by go_simp; done) hS0 (fun a' ha' => ?_)
        simp only [Act.put, List.getElem_toArray, List.getElem_cons_succ, List.getElem_cons_zero, List.setIfInBounds_toArray, List.set_cons_succ, List.set_cons_zero] at ha'
        subst ha'
        refine wpAnyH_next (i := 1) (v := .bool false) rfl (by kernel_rfl) (by kernel_rfl) (by kernel_rfl) (fun _ _ _ h => h) (by kernel_rfl) (fun W1 hW1 => by go_simp; done) hS0 (fun a' ha' => ?_)
        simp only [Act.put, List.getElem_toArray, List.getElem_cons_succ, List.getElem_cons_zero, List.setIfInBounds_toArray, List.set_cons_succ, List.set_cons_zero] at ha'
        subst ha'
        refine wpAnyH_next (i := 2) (v := .bool false) rfl (by kernel_rfl) (by kernel_rfl) (by kernel_rfl) (fun _ _ _ h => h) (by kernel_rfl) (fun W1 hW1 => by go_simp; done) hS0 (fun a' ha' => ?_)
        simp only [Act.put, List.getElem_toArray, List.getElem_cons_succ, List.getElem_cons_zero, List.setIfInBounds_toArray, List.set_cons_succ, List.set_cons_zero] at ha'
        subst ha'
        refine wpAnyH_next (i := 3) (v := .int .i64 0) rfl (by kernel_rfl) (by kernel_rfl) (by kernel_rfl) (fun _ _ _ h => h) (by kernel_rfl) (fun W1 hW1 => by go_simp; done) hS0 (fun a' ha' => ?_)
        simp only [Act.put, List.getElem_toArray, List.getElem_cons_succ, List.getElem_cons_zero, List.setIfInBounds_toArray, List.set_cons_succ, List.set_cons_zero] at ha'
        subst ha'
        refine wpAnyH_next (i := 4) (v := .bool false) rfl (by kernel_rfl) (by kernel_rfl) (by kernel_rfl) (fun _ _ _ h => h) (by kernel_rfl) (fun W1 hW1 => by go_simp; done) hS0 (fun a' ha' => ?_)
        simp only [Act.put, List.getElem_toArray, List.getElem_cons_succ, List.getElem_cons_zero, List.setIfInBounds_toArray, List.set_cons_succ, List.set_cons_zero] at ha'
        subst ha'
        refine wpAnyH_next (i := 5) (v := .bool false) rfl (by kernel_rfl) (by kernel_rfl) (by kernel_rfl) (fun _ _ _ h => h) (by kernel_rfl) (fun W1 hW1 => by go_simp; done) hS0 (fun a' ha' => ?_)
        simp only [Act.put, List.getElem_toArray, List.getElem_cons_succ, List.getElem_cons_zero, List.setIfInBounds_toArray, List.set_cons_succ, List.set_cons_zero] at ha'
        subst ha'
        refine wpAnyH_next (i := 6) (v := .bool false) rfl (by kernel_rfl) (by kernel_rfl) (by kernel_rfl) (fun _ _ _ h => h) (by kernel_rfl) (fun W1 hW1 => by go_simp; done) hS0 (fun a' ha' => ?_)
        simp only [Act.put, List.getElem_toArray, List.getElem_cons_succ, List.getElem_cons_zero, List.setIfInBounds_toArray, List.set_cons_succ, List.set_cons_zero] at ha'
        subst ha'
        refine wpAnyH_next (i := 7) (v := ObV o2) rfl (by kernel_rfl) (by kernel_rfl) (by kernel_rfl) (fun _ _ _ h => h) (by kernel_rfl) (fun W1 hW1 => by exact exec_load_el (E := eOb) Tryz.underlying30 rfl sizeO rfl rfl (ElAt.below q8 hW1)) hS0 (fun a' ha' => ?_)
        simp only [Act.put, List.getElem_toArray, List.getElem_cons_succ, List.getElem_cons_zero, List.setIfInBounds_toArray, List.set_cons_succ, List.set_cons_zero] at ha'
        subst ha'
        refine wpAnyH_next (i := 8) (v := ObV o1) rfl (by kernel_rfl) (by kernel_rfl) (by kernel_rfl) (fun _ _ _ h => h) (by kernel_rfl) (fun W1 hW1 => by exact exec_load_el (E := eOb) Tryz.underlying30 rfl sizeO rfl rfl (ElAt.below q2 hW1)) hS0 (fun a' ha' => ?_)
        simp only [Act.put, List.getElem_toArray, List.getElem_cons_succ, List.getElem_cons_zero, List.setIfInBounds_toArray, List.set_cons_succ, List.set_cons_zero] at ha'
        subst ha'
        refine wpAnyH_want (i := 9) (by kernel_rfl) rfl (by kernel_rfl) (fun K hK => ?_)
        unfold Oper.wp
        go_simp
        refine (oSame_self _ o2 o1 p (HO2.out.below hS0) (HO1.out.below hS0) SP.out).mono ?_
        rintro e y1 ⟨rfl, hy1⟩
        have hSy1 : Below w11.heap.size w11 y1 := hS0.trans (hy1.mono hS0.size)
        clear hy1
        refine hK _ _ hSy1 ?_
        clear hK K
        refine wpAnyH_next (i := 10) (v := .bool false) rfl (by kernel_rfl) (by kernel_rfl) (by kernel_rfl) (fun _ _ _ h => h) (by kernel_rfl) (fun W1 hW1 => by go_simp; done) hSy1 (fun a' ha' => ?_)
        simp only [Act.put, List.getElem_toArray, List.getElem_cons_succ, List.getElem_cons_zero, List.setIfInBounds_toArray, List.set_cons_succ, List.set_cons_zero] at ha'
        subst ha'
        refine wpAnyH_next (i := 11) (v := .bool false) rfl (by kernel_rfl) (by kernel_rfl) (by kernel_rfl) (fun _ _ _ h => h) (by kernel_rfl) (fun W1 hW1 => by go_simp; done) hSy1 (fun a' ha' => ?_)
        simp only [Act.put, List.getElem_toArray, List.getElem_cons_succ, List.getElem_cons_zero, List.setIfInBounds_toArray, List.set_cons_succ, List.set_cons_zero] at ha'
        subst ha'
        refine wpAnyH_next (i := 12) (v := .bool false) rfl (by kernel_rfl) (by kernel_rfl) (by kernel_rfl) (fun _ _ _ h => h) (by kernel_rfl) (fun W1 hW1 => by go_simp; done) hSy1 (fun a' ha' => ?_)
        simp only [Act.put, List.getElem_toArray, List.getElem_cons_succ, List.getElem_cons_zero, List.setIfInBounds_toArray, List.set_cons_succ, List.set_cons_zero] at ha'
        subst ha'
        refine wpAnyH_next (i := 13) (v := IdV S) rfl (by kernel_rfl) (by kernel_rfl) (by kernel_rfl) (fun _ _ _ h => h) (by kernel_rfl) (fun W1 hW1 => by exact exec_load_id rfl rfl hS32 (IdAt.below q10 hW1)) hSy1 (fun a' ha' => ?_)
        simp only [Act.put, List.getElem_toArray, List.getElem_cons_succ, List.getElem_cons_zero, List.setIfInBounds_toArray, List.set_cons_succ, List.set_cons_zero] at ha'
        subst ha'
        refine wpAnyH_next (i := 14) (v := .slice A1 xa.length c1) rfl (by kernel_rfl) (by kernel_rfl) (by kernel_rfl) (fun _ _ _ h => h) (by kernel_rfl) (fun W1 hW1 => by go_simp; done) hSy1 (fun a' ha' => ?_)
        simp only [Act.put, List.getElem_toArray, List.getElem_cons_succ, List.getElem_cons_zero, List.setIfInBounds_toArray, List.set_cons_succ, List.set_cons_zero] at ha'
        subst ha'
        refine wpAnyH_want (i := 15) (by kernel_rfl) rfl (by kernel_rfl) (fun K hK => ?_)
        unfold Oper.wp
        go_simp
        have hPy2 := parts_one (w := y1) (HBA.out.below hSy1)
        have hSy2 := hSy1.alloc hSy1.size (.cells #[.slice A1 xa.length c1] 22)
        change K _ (World.alloc y1 (.cells #[.slice A1 xa.length c1] 22))
        generalize hg : World.alloc y1 (.cells #[.slice A1 xa.length c1] 22) = y2 at hPy2 hSy2 ⊢
        clear hg
        refine hK _ _ hSy2 ?_
        clear hK K
        refine wpAnyH_want (i := 16) (by kernel_rfl) rfl (by kernel_rfl) (fun K hK => ?_)
        unfold Oper.wp
        go_simp
        refine (HOF.out _ _ hPy2).mono ?_
        rintro e y3 ⟨rfl, hy3⟩
        have hSy3 : Below w11.heap.size w11 y3 := hSy2.trans (hy3.mono hSy2.size)
        clear hy3
        refine hK _ _ hSy3 ?_
        clear hK K
        refine wpAnyH_next (i := 17) (v := .bool false) rfl (by kernel_rfl) (by kernel_rfl) (by kernel_rfl) (fun _ _ _ h => h) (by kernel_rfl) (fun W1 hW1 => by exact (exec_neqI rfl rfl rfl hS32 hS32).trans (by simp)) hSy3 (fun a' ha' => ?_)
        simp only [Act.put, List.getElem_toArray, List.getElem_cons_succ, List.getElem_cons_zero, List.setIfInBounds_toArray, List.set_cons_succ, List.set_cons_zero] at ha'
        subst ha'
        refine wpAnyH_next (i := 18) (v := .bool false) rfl (by kernel_rfl) (by kernel_rfl) (by kernel_rfl) (fun _ _ _ h => h) (by kernel_rfl) (fun W1 hW1 => by go_simp; done) hSy3 (fun a' ha' => ?_)
        simp only [Act.put, List.getElem_toArray, List.getElem_cons_succ, List.getElem_cons_zero, List.setIfInBounds_toArray, List.set_cons_succ, List.set_cons_zero] at ha'
        subst ha'
        refine wpAnyH_next (i := 19) (v := .bool false) rfl (by kernel_rfl) (by kernel_rfl) (by kernel_rfl) (fun _ _ _ h => h) (by kernel_rfl) (fun W1 hW1 => by go_simp; done) hSy3 (fun a' ha' => ?_)
        simp only [Act.put, List.getElem_toArray, List.getElem_cons_succ, List.getElem_cons_zero, List.setIfInBounds_toArray, List.set_cons_succ, List.set_cons_zero] at ha'
        subst ha'
        refine wpAnyH_next (i := 20) (v := .slice A1 xa.length c1) rfl (by kernel_rfl) (by kernel_rfl) (by kernel_rfl) (fun _ _ _ h => h) (by kernel_rfl) (fun W1 hW1 => by go_simp; done) hSy3 (fun a' ha' => ?_)
        simp only [Act.put, List.getElem_toArray, List.getElem_cons_succ, List.getElem_cons_zero, List.setIfInBounds_toArray, List.set_cons_succ, List.set_cons_zero] at ha'
        subst ha'
        refine wpAnyH_next (i := 21) (v := .int .i64 (xa.length : Int)) rfl (by kernel_rfl) (by kernel_rfl) (by kernel_rfl) (fun _ _ _ h => h) (by kernel_rfl) (fun W1 hW1 => by go_simp; done) hSy3 (fun a' ha' => ?_)
        simp only [Act.put, List.getElem_toArray, List.getElem_cons_succ, List.getElem_cons_zero, List.setIfInBounds_toArray, List.set_cons_succ, List.set_cons_zero] at ha'
        subst ha'
        refine wpAnyH_next (i := 22) (v := .bool false) rfl (by kernel_rfl) (by kernel_rfl) (by kernel_rfl) (fun _ _ _ h => h) (by kernel_rfl) (fun W1 hW1 => by first | (go_simp; done) | (go_simp; omega)) hSy3 (fun a' ha' => ?_)
        simp only [Act.put, List.getElem_toArray, List.getElem_cons_succ, List.getElem_cons_zero, List.setIfInBounds_toArray, List.set_cons_succ, List.set_cons_zero] at ha'
        subst ha'
        refine wpAnyH_next (i := 23) (v := .bool false) rfl (by kernel_rfl) (by kernel_rfl) (by kernel_rfl) (fun _ _ _ h => h) (by kernel_rfl) (fun W1 hW1 => by go_simp; done) hSy3 (fun a' ha' => ?_)
        simp only [Act.put, List.getElem_toArray, List.getElem_cons_succ, List.getElem_cons_zero, List.setIfInBounds_toArray, List.set_cons_succ, List.set_cons_zero] at ha'
        subst ha'
        refine wpAnyH_next (i := 24) (v := .bool false) rfl (by kernel_rfl) (by kernel_rfl) (by kernel_rfl) (fun _ _ _ h => h) (by kernel_rfl) (fun W1 hW1 => by go_simp; done) hSy3 (fun a' ha' => ?_)
        simp only [Act.put, List.getElem_toArray, List.getElem_cons_succ, List.getElem_cons_zero, List.setIfInBounds_toArray, List.set_cons_succ, List.set_cons_zero] at ha'
        subst ha'
        refine wpAnyH_next (i := 25) (v := .slice A1 xa.length c1) rfl (by kernel_rfl) (by kernel_rfl) (by kernel_rfl) (fun _ _ _ h => h) (by kernel_rfl) (fun W1 hW1 => by go_simp; done) hSy3 (fun a' ha' => ?_)
        simp only [Act.put, List.getElem_toArray, List.getElem_cons_succ, List.getElem_cons_zero, List.setIfInBounds_toArray, List.set_cons_succ, List.set_cons_zero] at ha'
        subst ha'
        refine wpAnyH_next (i := 27) (v := .pointer (some ⟨w.heap.size, 0, none⟩)) rfl (by kernel_rfl) (by kernel_rfl) (by kernel_rfl) (fun _ _ _ h => h) (by kernel_rfl) (fun W1 hW1 => by go_simp; done) hSy3 (fun a' ha' => ?_)
        simp only [Act.put, List.getElem_toArray, List.getElem_cons_succ, List.getElem_cons_zero, List.setIfInBounds_toArray, List.set_cons_succ, List.set_cons_zero] at ha'
        subst ha'
        refine wpAnyH_next (i := 28) (v := .int .i64 kd) rfl (by kernel_rfl) (by kernel_rfl) (by kernel_rfl) (fun _ _ _ h => h) (by kernel_rfl) (fun W1 hW1 => by have e1 := cellB hW1 c2; go_simp; done) hSy3 (fun a' ha' => ?_)
        simp only [Act.put, List.getElem_toArray, List.getElem_cons_succ, List.getElem_cons_zero, List.setIfInBounds_toArray, List.set_cons_succ, List.set_cons_zero] at ha'
        subst ha'
        refine wpAnyH_want (i := 26) (by kernel_rfl) rfl (by kernel_rfl) (fun K hK => ?_)
        unfold Oper.wp
        go_simp
        refine (HKD.out _ _ (HBA.out.below hSy3)).mono ?_
        rintro e y4 ⟨rfl, hy4⟩
        have hSy4 : Below w11.heap.size w11 y4 := hSy3.trans (hy4.mono hSy3.size)
        clear hy4
        refine hK _ _ hSy4 ?_
        clear hK K
        refine wpAnyH_next (i := 29) (v := .bool false) rfl (by kernel_rfl) (by kernel_rfl) (by kernel_rfl) (fun _ _ _ h => h) (by kernel_rfl) (fun W1 hW1 => by go_simp; done) hSy4 (fun a' ha' => ?_)
        simp only [Act.put, List.getElem_toArray, List.getElem_cons_succ, List.getElem_cons_zero, List.setIfInBounds_toArray, List.set_cons_succ, List.set_cons_zero] at ha'
        subst ha'
        refine wpAnyH_next (i := 30) (v := .bool false) rfl (by kernel_rfl) (by kernel_rfl) (by kernel_rfl) (fun _ _ _ h => h) (by kernel_rfl) (fun W1 hW1 => by go_simp; done) hSy4 (fun a' ha' => ?_)
        simp only [Act.put, List.getElem_toArray, List.getElem_cons_succ, List.getElem_cons_zero, List.setIfInBounds_toArray, List.set_cons_succ, List.set_cons_zero] at ha'
        subst ha'
        refine wpAnyH_fin (by kernel_rfl) ?_ _
        have hBp := hB11.trans (hSy4.mono hB11.size)
        generalize y4 = wp at *
        go_wp2_with fail
        refine (oParse_any wp _ bs (HS.out.below hBp) (by omega)).mono ?_
        rintro e w20 ⟨hout, h20⟩
        have hB20 := hBp.trans (h20.mono hBp.size)
        have bz := BoxE.new (E := eOb) (t := 30) w20 zeroOb
        have hA := (Below.refl w20.heap.size w20).alloc (Nat.le_refl _) (.cells (eOb.enc zeroOb).toArray 30)
        rcases hout with ⟨o3, q, hq, rfl, hnew⟩ | ⟨hq, rfl⟩
        case inr =>
          have hkb : ∀ W, Below w.heap.size w W → Calls Tryz.prog 18 #[.slice A bs.length c] W fun e W' => e = .returned (.int .i64 0) ∧ Below W.heap.size W W' := fun W hW => by
            have h := oKind_any W _ bs (HS.out.below hW) (by omega)
            rwa [show kindP bs = 0 by unfold kindP; rw [hq]] at h
          clear hq h20
          go_wp2_with (first
            | (refine wpList_alloc_e (E := eOb) (z := zeroOb) zeroOb_run rfl rfl ?_)
            | (refine wpList_store_e (E := eOb) sizeO rfl (.tmp 12) (.tmp 81) rfl rfl bz rfl ?_; intro w21 b21 k21; have hB21 : Below w.heap.size w w21 := hB20.trans ((hA.trans (k21.below (B := w20.heap.size) (fun j _ e => by omega) hA.size)).mono hB20.size)))
          refine (hkb w21 hB21).mono ?_
          rintro e w22 ⟨rfl, h22⟩
          have hB22 := hB21.trans (h22.mono hB21.size)
          clear h22
          go_wp2_with fail
          go_ret
          exact ⟨rfl, hB22⟩
        case inl =>
          obtain ⟨hbq, hb1, hb2, _⟩ := enc_parse hq
          have hmq : mayB q = true := by unfold mayB; rw [hb1, decide_eq_true hb2]; rfl
          have HCQ := Lib.hid (show ∀ W, Below w20.heap.size w20 W → Calls Tryz.prog 13 #[ObV o3] W fun e W' => ∃ A c, Bs W' (.slice A bs.length c) bs ∧ e = .returned (.tuple #[.slice A bs.length c, .int .i64 0]) ∧ Below W.heap.size W W' from fun W hW => by
            have h := oEncode_es W o3 q (hnew.is.below hW) (mayB_small hmq) hmq
            rwa [← hbq] at h)
          clear hq hbq hb1 hb2 hmq hnew h20
          go_wp2_with (first
            | (refine wpList_alloc_e (E := eOb) (z := zeroOb) zeroOb_run rfl rfl ?_)
            | (refine wpList_store_e (E := eOb) sizeO rfl (.tmp 12) (.tmp 81) rfl rfl bz rfl ?_; intro w21 b21 k21; have h21 : Below w20.heap.size w20 w21 := hA.trans (k21.below (B := w20.heap.size) (fun j _ e => by omega) hA.size); have hB21 : Below w.heap.size w w21 := hB20.trans (h21.mono hB20.size))
            | (refine wpList_load_e (E := eOb) Tryz.underlying30 rfl sizeO rfl (.tmp 12) rfl rfl b21.at ?_))
          refine (HCQ.out w21 h21).mono ?_
          rintro e w22 ⟨A3, c3, hb3, rfl, h22⟩
          have hB22 := hB21.trans (h22.mono hB21.size)
          have q1 := run_string_bs (P := Tryz.prog) w22 22 9 5 Tryz.underlying22 Tryz.underlying5 Tryz.underlying9 hb3
          have q2 := run_string_bs (P := Tryz.prog) w22 22 9 5 Tryz.underlying22 Tryz.underlying5 Tryz.underlying9 (HS.out.below hB22)
          clear h22 hb3
          go_wp2_with fail
          go_ret
          exact ⟨rfl, hB22⟩
end Go.Proofs.YtljihmbmjpcfaaaGreat
