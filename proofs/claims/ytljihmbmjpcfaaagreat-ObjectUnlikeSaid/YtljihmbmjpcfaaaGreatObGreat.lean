/- What bodies refer to: the program's (tools/genlinks.py). What an object refers to: the program's Links. Is an object more than statements go through: the reference's Great. -/
import Derived.Test.YtljihmbmjpcfaaaGreatObParse1
import Derived.Test.YtljihmbmjpcfaaaGreatObBody
import Derived.Test.YtljihmbmjpcfaaaGreatLebSrc
namespace Go.Proofs.YtljihmbmjpcfaaaGreat
open Go.RowKit Go.Shelf Go.Great
set_option maxRecDepth 100000

theorem blobLinks_any (w : World) (p : Value) : Calls Tryz.prog 201 #[p] w fun e W' => ∃ v, e = .returned v ∧ RowL W' w.heap.size v [] ∧ Below w.heap.size w W' := by
  go_enter Tryz.func201, Tryz.ntmps201
  go_wp2_with fail
  go_ret
  exact ⟨_, rfl, RowE.nil _ _, Below.refl _ _⟩
set_option maxHeartbeats 1000000 in
theorem tagLinks_any (w : World) (g : Nat) (x : Tg) (hb : BoxTg w g x) :
    Calls Tryz.prog 254 #[.pointer (some ⟨g, 0, none⟩)] w fun e W' => ∃ v, e = .returned v ∧ RowL W' w.heap.size v [x.tg] ∧ Below w.heap.size w W' := by
  have c0 := TgAt.tg hb.at
  have hrow : RowL (w.alloc (.cells (eLk.enc x.tg).toArray 28)) w.heap.size (.slice (some ⟨w.heap.size, 0, none⟩) 1 1) [x.tg] := rowE_one (E := eLk) w x.tg
  go_enter Tryz.func254, Tryz.ntmps254
  go_wp2_with (first
    | (refine elLk.wpLoad rfl (.tmp 5) rfl rfl c0 ?_)
    | (refine wpList_one_e (E := eLk) elLk (by decide) rfl (.tmp 6) rfl (x := x.tg) rfl ?_))
  go_ret
  exact ⟨_, rfl, hrow, (Below.refl _ w).alloc (Nat.le_refl _) _⟩

set_option maxHeartbeats 4000000 in
theorem treeLinks_any (w : World) (g : Nat) (s : Sl) (es : List En) (hb : BoxTree w g s) (hs : Es eEn w s.v es) (hl : es.length ≤ 1000) :
    Calls Tryz.prog 217 #[.pointer (some ⟨g, 0, none⟩)] w fun e W' => ∃ v, e = .returned v ∧ RowL W' w.heap.size v (es.map lkE) ∧ Below w.heap.size w W' := by
  have hc := hb.cell
  obtain ⟨A, n, c⟩ := s
  obtain ⟨A', c', he, hcap⟩ := hs.form
  injection he with e1 e2 e3
  subst e1 e2 e3
  change w.cell? _ = some (.slice A es.length c) at hc
  change Es eEn w (.slice A es.length c) es at hs
  generalize hn : es.length = n at *
  have HN := Lib.hid hn
  have HS := Lib.hid hs
  clear hs hn hb
  go_enter Tryz.func217, Tryz.ntmps217
  go_wp2_with fail
  go_loopw [3, 11] (fun v i wr => ∃ k : Nat, k ≤ n ∧ i = .int .i64 k ∧ RowL wr w.heap.size v ((es.take k).map lkE) ∧ Below w.heap.size w wr) (fun _ i _ => n - (RowKit.intOf i).toNat)
  case atStart => exact ⟨0, by omega, rfl, RowE.nil _ _, Below.refl _ _⟩
  case round =>
    obtain ⟨k, hk, rfl, hrow, hB⟩ := hrel
    by_cases hlt : k < n
    case neg =>
      have hkn : k = n := by omega
      have HE := Lib.hid (show es.take k = es from List.take_of_length_le (by rw [HN.out]; omega))
      have hr := hrow
      rw [HE.out] at hr
      have HR := Lib.hid hr
      have hnk : ¬ (k : Int) < (n : Int) := by omega
      clear hkn hlt hrow hr
      go_wp2_with fail
      go_ret
      exact ⟨_, rfl, HR.out, hB⟩
    case pos =>
      obtain ⟨x, hxk⟩ : ∃ x, es[k]? = some x := ⟨_, List.getElem?_eq_getElem (by rw [HN.out]; exact hlt)⟩
      obtain ⟨b, off, rfl, hat⟩ := HS.out.at hxk
      have hat1 : ElAt eEn wr b (off + k * 34) x := hat.below hB
      have hklt : (k : Int) < (n : Int) := by omega
      have HT := Lib.hid (show (es.take k).map lkE ++ [lkE x] = (es.take (k + 1)).map lkE by rw [List.take_add_one, hxk, List.map_append]; rfl)
      have hlen : ((es.take k).map lkE).length ≤ 1000 := by rw [List.length_map, List.length_take]; omega
      obtain ⟨Ar, cr, rfl, hcr⟩ := hrow.slice
      have HR := Lib.hid hrow
      have HLEN := Lib.hid hlen
      generalize (es.take k).map lkE = pre at *
      clear hxk hat hlt hrow hlen hcr
      have hx32 := x.h
      go_wp2_with (first
        | (refine elEn.wpLoad rfl (.tmp 13) rfl rfl hat1 ?_)
        | (refine wpList_alloc_e (E := eEn) (z := zeroEn) zeroEn_run rfl rfl ?_)
        | (refine wpList_store_e (E := eEn) sizeEn rfl (.tmp 5) (.tmp 14) rfl rfl (BoxE.new (E := eEn) _ _) rfl ?_; intro w3 b3 k3; have hBw : Below wr.heap.size wr w3 := (((Kept.refl (· = wr.heap.size) wr).alloc _).same k3).below (fun j _ e => by subst e; exact Nat.le_refl _) (Nat.le_refl _); have c1 := EnAt.kd b3.at; have c2 := EnAt.id b3.at; simp only [Nat.zero_add] at c1 c2)
        | (refine wpList_load_id rfl (.tmp 18) rfl rfl hx32 c2 ?_)
        | (refine wpList_build_of rfl _ _ rfl #[(0, .int .i64 x.kd), (1, IdV x.id)] (by go_simp; done) _ (build_lk _ (lkE x)) ?_)
        | (refine wpList_one_e (E := eLk) elLk (by decide) rfl (.tmp 20) rfl (x := lkE x) rfl ?_; have hone := Es.one_e (E := eLk) w3 (lkE x) 28; have hB3 : Below w.heap.size w w3 := hB.trans (hBw.mono hB.size); have hrow3 : RowL (w3.alloc (.cells (eLk.enc (lkE x)).toArray 28)) w.heap.size (.slice Ar pre.length cr) pre := (HR.out.below hBw).below ((Below.refl _ _).alloc (Nat.le_refl _) _); have hB4 := hB3.alloc hB3.size (.cells (eLk.enc (lkE x)).toArray 28); generalize hg4 : w3.alloc (.cells (eLk.enc (lkE x)).toArray 28) = w4 at hone hrow3 hB4 ⊢; clear hg4)
        | (at_builtin; refine wpList_append_es elLk rfl (.tmp 15) (.tmp 21) rfl w.heap.size _ pre rfl hrow3 _ [lkE x] rfl hone (by have := HLEN.out; simp; omega) hB4.size ?_; intro v5 w5 hown5 hg5 hv5; obtain ⟨A5, c5, rfl, _⟩ := hown5.slice; have hB5 : Below w.heap.size w w5 := below_row hB4 hrow3 hg5))
      go_roundw
      case rel => exact ⟨k + 1, by omega, by go_num, by rw [← HT.out]; have h := hown5; rw [List.length_append] at h; exact h, hB5⟩
      case measure => simp [RowKit.intOf]; omega

set_option maxHeartbeats 4000000 in
theorem commitLinks_any (w : World) (g : Nat) (x : Co) (ps : List (List UInt8)) (hb : BoxCo w g x) (hs : Is w x.pv.v ps) (hl : ps.length ≤ 1000) :
    Calls Tryz.prog 246 #[.pointer (some ⟨g, 0, none⟩)] w fun e W' => ∃ v, e = .returned v ∧ RowL W' w.heap.size v (mkLk 2 x.tree :: ps.map (mkLk 3)) ∧ Below w.heap.size w W' := by
  obtain ⟨tree, ⟨A, n, c⟩, msg, h32⟩ := x
  obtain ⟨A', c', he, hcap⟩ := hs.form
  injection he with e1 e2 e3
  subst e1 e2 e3
  have c0 : IdAt w g 0 tree := CoAt.tree hb.at
  have c1 : w.cell? ⟨g, 32, none⟩ = some (.slice A ps.length c) := by have := CoAt.pv hb.at; rwa [Nat.zero_add] at this
  change Is w (.slice A ps.length c) ps at hs
  show Calls Tryz.prog 246 #[.pointer (some ⟨g, 0, none⟩)] w fun e W' => ∃ v, e = .returned v ∧ RowL W' w.heap.size v (mkLk 2 tree :: ps.map (mkLk 3)) ∧ Below w.heap.size w W'
  rw [mkLk_of h32]
  generalize hn : ps.length = n at *
  have HN := Lib.hid hn
  have HS := Lib.hid hs
  clear hs hn hb
  go_enter Tryz.func246, Tryz.ntmps246
  go_wp2_with (first
    | (refine wpList_load_id rfl (.tmp 8) rfl rfl h32 c0 ?_)
    | (refine wpList_build_of rfl _ _ rfl #[(0, .int .i64 2), (1, IdV tree)] (by go_simp; done) _ (build_lk _ ⟨2, tree, h32⟩) ?_)
    | (refine wpList_one_e (E := eLk) elLk (by decide) rfl (.tmp 10) rfl (x := ⟨2, tree, h32⟩) rfl ?_; have hrow0 := rowE_one (E := eLk) (t := 28) w ⟨2, tree, h32⟩; have hB0 := (Below.refl w.heap.size w).alloc (Nat.le_refl _) (.cells (eLk.enc ⟨2, tree, h32⟩).toArray 28); generalize hg0 : w.alloc (.cells (eLk.enc ⟨2, tree, h32⟩).toArray 28) = w0 at hrow0 hB0 ⊢; clear hg0; replace c1 := cellB hB0 c1))
  go_loopw [3, 17] (fun v i wr => ∃ k : Nat, k ≤ n ∧ i = .int .i64 k ∧ RowL wr w.heap.size v (⟨2, tree, h32⟩ :: (ps.take k).map (mkLk 3)) ∧ Below w.heap.size w wr) (fun _ i _ => n - (RowKit.intOf i).toNat)
  case atStart => exact ⟨0, by omega, rfl, hrow0, hB0⟩
  case round =>
    obtain ⟨k, hk, rfl, hrow, hB⟩ := hrel
    by_cases hlt : k < n
    case neg =>
      have hkn : k = n := by omega
      have HE := Lib.hid (show ps.take k = ps from List.take_of_length_le (by rw [HN.out]; omega))
      have hr := hrow
      rw [HE.out] at hr
      have HR := Lib.hid hr
      have hnk : ¬ (k : Int) < (n : Int) := by omega
      clear hkn hlt hrow hr hrow0
      go_wp2_with fail
      go_ret
      exact ⟨_, rfl, HR.out, hB⟩
    case pos =>
      obtain ⟨x, hxk⟩ : ∃ x, ps[k]? = some x := ⟨_, List.getElem?_eq_getElem (by rw [HN.out]; exact hlt)⟩
      obtain ⟨hx32, b, off, rfl, hat⟩ := HS.out.at hxk
      have hat1 : IdAt wr b (off + k * 32) x := hat.below hB
      have hklt : (k : Int) < (n : Int) := by omega
      have HT := Lib.hid (show (⟨2, tree, h32⟩ :: (ps.take k).map (mkLk 3)) ++ [⟨3, x, hx32⟩] = ⟨2, tree, h32⟩ :: (ps.take (k + 1)).map (mkLk 3) by rw [List.take_add_one, hxk, List.map_append, List.cons_append]; simp [mkLk_of hx32])
      have hlen : ((⟨2, tree, h32⟩ :: (ps.take k).map (mkLk 3) : List Lk)).length ≤ 1001 := by rw [List.length_cons, List.length_map, List.length_take]; omega
      obtain ⟨Ar, cr, rfl, hcr⟩ := hrow.slice
      have HR := Lib.hid hrow
      have HLEN := Lib.hid hlen
      generalize (⟨2, tree, h32⟩ :: (ps.take k).map (mkLk 3) : List Lk) = pre at *
      clear hxk hat hlt hrow hlen hcr hrow0
      go_wp2_with (first
        | (refine wpList_load_id rfl (.tmp 19) rfl rfl hx32 hat1 ?_)
        | (refine wpList_alloc_id rfl rfl ?_)
        | (refine wpList_store_id rfl (.tmp 5) (.tmp 20) rfl rfl (BoxI.new _ zeroID_length) hx32 rfl ?_; intro w3 b3 k3; have hBw : Below wr.heap.size wr w3 := (((Kept.refl (· = wr.heap.size) wr).alloc _).same k3).below (fun j _ e => by subst e; exact Nat.le_refl _) (Nat.le_refl _))
        | (refine wpList_load_id rfl (.tmp 5) rfl rfl hx32 b3.at ?_)
        | (refine wpList_build_of rfl _ _ rfl #[(0, .int .i64 3), (1, IdV x)] (by go_simp; done) _ (build_lk _ ⟨3, x, hx32⟩) ?_)
        | (refine wpList_one_e (E := eLk) elLk (by decide) rfl (.tmp 23) rfl (x := ⟨3, x, hx32⟩) rfl ?_; have hone := Es.one_e (E := eLk) w3 ⟨3, x, hx32⟩ 28; have hB3 : Below w.heap.size w w3 := hB.trans (hBw.mono hB.size); have hrow3 : RowL (w3.alloc (.cells (eLk.enc ⟨3, x, hx32⟩).toArray 28)) w.heap.size (.slice Ar pre.length cr) pre := (HR.out.below hBw).below ((Below.refl _ _).alloc (Nat.le_refl _) _); have hB4 := hB3.alloc hB3.size (.cells (eLk.enc ⟨3, x, hx32⟩).toArray 28); generalize hg4 : w3.alloc (.cells (eLk.enc ⟨3, x, hx32⟩).toArray 28) = w4 at hone hrow3 hB4 ⊢; clear hg4)
        | (at_builtin; refine wpList_append_es elLk rfl (.tmp 21) (.tmp 24) rfl w.heap.size _ pre rfl hrow3 _ [⟨3, x, hx32⟩] rfl hone (by have := HLEN.out; simp; omega) hB4.size ?_; intro v5 w5 hown5 hg5 hv5; obtain ⟨A5, c5, rfl, _⟩ := hown5.slice; have hB5 : Below w.heap.size w w5 := below_row hB4 hrow3 hg5))
      go_roundw
      case rel => exact ⟨k + 1, by omega, by go_num, by rw [← HT.out]; have h := hown5; rw [List.length_append] at h; exact h, hB5⟩
      case measure => simp [RowKit.intOf]; omega
end Go.Proofs.YtljihmbmjpcfaaaGreat
namespace Go.Proofs.YtljihmbmjpcfaaaGreat
open Go.RowKit Go.Shelf Go.Great
set_option maxRecDepth 100000

def linksB (p : Pl) : List Lk := if mayB p then linksK p else []
set_option maxHeartbeats 4000000 in
theorem oLinks_any (w : World) (o : Ob) (p : Pl) (ho : ObIs w o p) (sp : PlSmall p) :
    Calls Tryz.prog 20 #[ObV o] w fun e W' => ∃ v, e = .returned v ∧ RowL W' w.heap.size v (linksB p) ∧ Below w.heap.size w W' := by
  have HO := Lib.hid ho
  clear ho
  go_enter Tryz.func20, Tryz.ntmps20
  go_wp2_with (first
    | (refine wpList_box_e (E := eOb) rfl (.tmp 0) rfl (x := o) rfl ?_; intro w1 b1 hB1)
    | (refine wpList_load_e (E := eOb) Tryz.underlying30 rfl sizeO rfl (.tmp 1) rfl rfl b1.at ?_))
  refine (oBodyOf_any _ o p (HO.out.below hB1) sp).mono ?_
  rintro e w2 ⟨v, rfl, hout, h2⟩
  have hB2 : Below w.heap.size w w2 := hB1.trans (h2.mono hB1.size)
  replace HO := Lib.hid (HO.out.below hB2)
  clear h2 b1
  rcases hout with ⟨hm, hbody⟩ | ⟨hm, rfl⟩
  · have HM := Lib.hid (show linksB p = linksK p by unfold linksB; rw [hm]; rfl)
    have hkd := HO.out.kd
    have HMB := Lib.hid hm
    clear hm
    cases hbody with
    | none hk =>
      exfalso
      have hb : bodyB p = false := by unfold bodyB; rw [if_neg (by omega), if_neg (by omega), if_neg (by omega), if_neg (by omega)]
      have := HMB.out
      unfold mayB at this
      rw [hb] at this
      cases this
    | blob g hk hb =>
      have HL := Lib.hid (show linksK p = [] by unfold linksK; rw [if_neg (by omega), if_neg (by omega), if_neg (by omega)])
      clear hkd hk
      go_wp2_with fail
      refine (blobLinks_any w2 _).mono ?_
      rintro e w3 ⟨v, rfl, hrow, h3⟩
      obtain ⟨Ar, cr, rfl, _⟩ := hrow.slice
      go_wp2_with fail
      go_ret
      exact ⟨_, rfl, by rw [HM.out, HL.out]; exact hrow.base hB2.size, hB2.trans (h3.mono hB2.size)⟩
    | tree g hk hb =>
      have HL := Lib.hid (show linksK p = p.es.map lkE by unfold linksK; rw [if_pos (by omega)])
      clear hkd hk
      go_wp2_with fail
      refine (treeLinks_any w2 g o.ev p.es hb HO.out.es sp.es).mono ?_
      rintro e w3 ⟨v, rfl, hrow, h3⟩
      have HR := Lib.hid hrow
      clear hrow
      go_wp2_with fail
      go_ret
      exact ⟨_, rfl, by rw [HM.out, HL.out]; exact HR.out.base hB2.size, hB2.trans (h3.mono hB2.size)⟩
    | commit g hk hb =>
      have HL := Lib.hid (show linksK p = mkLk 2 o.tree :: p.ps.map (mkLk 3) by unfold linksK; rw [if_neg (by omega), if_pos (by omega), HO.out.tree])
      clear hkd hk
      go_wp2_with fail
      refine (commitLinks_any w2 g o.co p.ps hb HO.out.ps sp.ps).mono ?_
      rintro e w3 ⟨v, rfl, hrow, h3⟩
      have HR := Lib.hid hrow
      clear hrow
      go_wp2_with fail
      go_ret
      exact ⟨_, rfl, by rw [HM.out, HL.out]; exact HR.out.base hB2.size, hB2.trans (h3.mono hB2.size)⟩
    | tag g hk hb =>
      have HL := Lib.hid (show linksK p = [o.tg] by unfold linksK; rw [if_neg (by omega), if_neg (by omega), if_pos (by omega), HO.out.tg])
      clear hkd hk
      go_wp2_with fail
      refine (tagLinks_any w2 g o.tag hb).mono ?_
      rintro e w3 ⟨v, rfl, hrow, h3⟩
      have HR := Lib.hid hrow
      clear hrow
      go_wp2_with fail
      go_ret
      exact ⟨_, rfl, by rw [HM.out, HL.out]; exact HR.out.base hB2.size, hB2.trans (h3.mono hB2.size)⟩
  · have HM := Lib.hid (show linksB p = [] by unfold linksB; rw [hm]; rfl)
    clear hm
    go_wp2_with fail
    go_ret
    exact ⟨_, rfl, by rw [HM.out]; exact RowE.nil _ _, hB2⟩
end Go.Proofs.YtljihmbmjpcfaaaGreat
namespace Go.Proofs.YtljihmbmjpcfaaaGreat
open Go.RowKit Go.Shelf Go.Great
set_option maxRecDepth 100000

/-- An object that statements go through. -/
structure Fit (p : Pl) : Prop where
  d : p.d.length ≤ 1100
  es : p.es.length ≤ 40
  ps : p.ps.length ≤ 10
  msg : p.msg.length ≤ 300
  nm : ∀ x ∈ p.es, x.nm.length ≤ 100
theorem Fit.small {p : Pl} (h : Fit p) : PlSmall p := ⟨by have := h.d; omega, by have := h.es; omega, by have := h.ps; omega⟩
def GreatOut (p : Pl) (r : Int) : Prop := (r = 0 ∧ Fit p) ∨ r = 1
set_option maxHeartbeats 4000000 in
theorem r7Great_any (w : World) (o : Ob) (p : Pl) (ho : ObIs w o p) :
    Calls Tryz.prog 12 #[ObV o] w fun e W' => ∃ r, e = .returned (.int .i64 r) ∧ GreatOut p r ∧ Below w.heap.size w W' := by
  obtain ⟨A1, c1, e1, _⟩ := ho.d.form
  obtain ⟨A2, c2, e2, hc2⟩ := ho.es.form
  obtain ⟨_, A3, c3, e3, _, _⟩ := ho.ps
  have hmsg := ho.msg
  have HS := Lib.hid ho.es
  clear ho
  obtain ⟨kd, ⟨Ad, nd, cd⟩, ⟨Ae, ne, ce⟩, tree, ⟨Ap, np, cp⟩, tg, msg, h32⟩ := o
  injection e1 with a1 a2 a3
  injection e2 with a4 a5 a6
  injection e3 with a7 a8 a9
  dsimp only at hmsg
  subst a1 a2 a3 a4 a5 a6 a7 a8 a9 hmsg
  replace HS := Lib.hid (show Es eEn w (.slice Ae p.es.length ce) p.es from HS.out)
  generalize hoo : (⟨kd, ⟨Ad, p.d.length, cd⟩, ⟨Ae, p.es.length, ce⟩, tree, ⟨Ap, p.ps.length, cp⟩, tg, p.msg, h32⟩ : Ob) = o
  have f1 : o.dv = ⟨Ad, p.d.length, cd⟩ := by rw [← hoo]
  have f2 : o.ev = ⟨Ae, p.es.length, ce⟩ := by rw [← hoo]
  have f4 : o.pv = ⟨Ap, p.ps.length, cp⟩ := by rw [← hoo]
  have f6 : o.msg = p.msg := by rw [← hoo]
  clear hoo
  obtain ⟨dl, hdl⟩ : ∃ n, n = p.d.length := ⟨_, rfl⟩
  obtain ⟨el, hel⟩ : ∃ n, n = p.es.length := ⟨_, rfl⟩
  obtain ⟨pl, hpl⟩ : ∃ n, n = p.ps.length := ⟨_, rfl⟩
  rw [← hdl] at f1
  rw [← hel] at f2 hc2 HS
  rw [← hpl] at f4
  have HD := Lib.hid hdl
  have HEL := Lib.hid hel
  have HP := Lib.hid hpl
  clear hdl hel hpl
  by_cases h1 : (1100 : Int) < (dl : Int)
  · go_enter Tryz.func12, Tryz.ntmps12
    go_wp2_with (refine wpList_box_e (E := eOb) rfl (.tmp 0) rfl (x := o) rfl ?_; intro w1 b1 hB1; have g1 := b1.obc.dv; rw [f1] at g1)
    go_ret
    exact ⟨1, rfl, .inr rfl, hB1⟩
  by_cases h2 : (40 : Int) < (el : Int)
  · go_enter Tryz.func12, Tryz.ntmps12
    go_wp2_with (refine wpList_box_e (E := eOb) rfl (.tmp 0) rfl (x := o) rfl ?_; intro w1 b1 hB1; have g1 := b1.obc.dv; rw [f1] at g1; have g2 := b1.obc.ev; rw [f2] at g2)
    go_ret
    exact ⟨1, rfl, .inr rfl, hB1⟩
  by_cases h3 : (10 : Int) < (pl : Int)
  · go_enter Tryz.func12, Tryz.ntmps12
    go_wp2_with (refine wpList_box_e (E := eOb) rfl (.tmp 0) rfl (x := o) rfl ?_; intro w1 b1 hB1; have g1 := b1.obc.dv; rw [f1] at g1; have g2 := b1.obc.ev; rw [f2] at g2; have g3 := b1.obc.pv; rw [f4] at g3)
    go_ret
    exact ⟨1, rfl, .inr rfl, hB1⟩
  by_cases h4 : (300 : Int) < (p.msg.length : Int)
  · go_enter Tryz.func12, Tryz.ntmps12
    go_wp2_with (refine wpList_box_e (E := eOb) rfl (.tmp 0) rfl (x := o) rfl ?_; intro w1 b1 hB1; have g1 := b1.obc.dv; rw [f1] at g1; have g2 := b1.obc.ev; rw [f2] at g2; have g3 := b1.obc.pv; rw [f4] at g3; have g4 := b1.obc.msg; rw [f6] at g4)
    go_ret
    exact ⟨1, rfl, .inr rfl, hB1⟩
  have HF := Lib.hid (show (∀ x ∈ p.es, x.nm.length ≤ 100) → Fit p from fun h => ⟨by rw [← HD.out]; omega, by rw [← HEL.out]; omega, by rw [← HP.out]; omega, by omega, h⟩)
  clear hc2 HD HP
  go_enter Tryz.func12, Tryz.ntmps12
  go_wp2_with (refine wpList_box_e (E := eOb) rfl (.tmp 0) rfl (x := o) rfl ?_; intro w1 b1 hB1; have g1 := b1.obc.dv; rw [f1] at g1; have g2 := b1.obc.ev; rw [f2] at g2; have g3 := b1.obc.pv; rw [f4] at g3; have g4 := b1.obc.msg; rw [f6] at g4)
  clear g1 g3 g4 b1
  go_loopw [3] (fun i wr => ∃ k : Nat, k ≤ el ∧ i = .int .i64 k ∧ (∀ x ∈ p.es.take k, x.nm.length ≤ 100) ∧ Below w1.heap.size w1 wr) (fun i _ => el - (RowKit.intOf i).toNat)
  case atStart => exact ⟨0, by omega, rfl, by simp, Below.refl _ _⟩
  case round =>
    obtain ⟨k, hk, rfl, hall, hB⟩ := hrel
    have HA := Lib.hid hall
    clear hall
    have hBw := hB1.trans (hB.mono hB1.size)
    have g2' := cellB hB g2
    by_cases hlt : k < el
    case neg =>
      have hnk : ¬ (k : Int) < (el : Int) := by omega
      have HE := Lib.hid (HF.out (by
        have := HA.out
        rwa [List.take_of_length_le (by rw [← HEL.out]; omega)] at this))
      clear hlt
      go_wp2_with fail
      go_ret
      exact ⟨0, rfl, .inl ⟨rfl, HE.out⟩, hBw⟩
    case pos =>
      obtain ⟨x, hxk⟩ : ∃ x, p.es[k]? = some x := ⟨_, List.getElem?_eq_getElem (by rw [← HEL.out]; exact hlt)⟩
      obtain ⟨b, off, rfl, hat⟩ := HS.out.at hxk
      have cn := EnAt.nm (show ElAt eEn wr b (off + k * 34) x from hat.below hBw)
      have hklt : (k : Int) < (el : Int) := by omega
      have HT := Lib.hid (show x.nm.length ≤ 100 → ∀ y ∈ p.es.take (k + 1), y.nm.length ≤ 100 from fun h y hy => by
        rw [List.take_add_one, hxk] at hy
        rcases List.mem_append.1 hy with hy | hy
        · exact HA.out y hy
        · simp at hy
          subst hy
          exact h)
      clear hxk hat
      by_cases hx : (100 : Int) < (x.nm.length : Int)
      · go_wp2_with fail
        go_ret
        exact ⟨1, rfl, .inr rfl, hBw⟩
      · have HT2 := Lib.hid (HT.out (by omega))
        go_wp2_with fail
        go_roundw
        case rel => exact ⟨k + 1, by omega, by go_num, HT2.out, hB⟩
        case measure => simp [RowKit.intOf]; omega
end Go.Proofs.YtljihmbmjpcfaaaGreat
