/- What Check answers. What an object refers to: the program's Links. -/
import Derived.Test.YtljihmbmjpcfaaaGreatObBody
import Derived.Test.YtljihmbmjpcfaaaGreatObLinks
namespace Go.Proofs.YtljihmbmjpcfaaaGreat
def checkV (p : Pl) : Int := if mayB p then 0 else 70
theorem checkV_yes {p : Pl} (h : mayB p = true) : checkV p = 0 := by unfold checkV; rw [h]; rfl
theorem checkV_no {p : Pl} (h : mayB p = false) : checkV p = 70 := by unfold checkV; rw [h]; rfl
end Go.Proofs.YtljihmbmjpcfaaaGreat
namespace Go.Proofs.YtljihmbmjpcfaaaGreat
open Go.RowKit Go.Shelf Go.Great
set_option maxRecDepth 100000

def linksB (p : Pl) : List Lk := if mayB p then linksK p else []
set_option maxHeartbeats 4000000 in
theorem oLinks_any (w : World) (o : Ob) (p : Pl) (ho : ObIs w o p) (sp : PlSmall p) :
    Calls Tryz.prog 20 #[ObV o] w fun e W' => ∃ v, e = .returned v ∧ RowL W' w.heap.size v (linksB p) ∧ Below w.heap.size w W' := by
  have HO := Lib.hid ho
  clear ho
  go_enter Tryz.func20, Tryz.ntmps20
  go_wp2_with (first
    | (refine wpList_box_e (E := eOb) rfl (.tmp 0) rfl (x := o) rfl ?_; intro w1 b1 hB1)
    | (refine wpList_load_e (E := eOb) Tryz.underlying30 rfl sizeO rfl (.tmp 1) rfl rfl b1.at ?_))
  refine (oBodyOf_any _ o p (HO.out.below hB1) sp).mono ?_
  rintro e w2 ⟨v, rfl, hout, h2⟩
  have hB2 : Below w.heap.size w w2 := hB1.trans (h2.mono hB1.size)
  replace HO := Lib.hid (HO.out.below hB2)
  clear h2 b1
  rcases hout with ⟨hm, hbody⟩ | ⟨hm, rfl⟩
  · have HM := Lib.hid (show linksB p = linksK p by unfold linksB; rw [hm]; rfl)
    have hkd := HO.out.kd
    have HMB := Lib.hid hm
    clear hm
    cases hbody with
    | none hk =>
      exfalso
      have hb : bodyB p = false := by unfold bodyB; rw [if_neg (by omega), if_neg (by omega), if_neg (by omega), if_neg (by omega)]
      have := HMB.out
      unfold mayB at this
      rw [hb] at this
      cases this
    | blob g hk hb =>
      have HL := Lib.hid (show linksK p = [] by unfold linksK; rw [if_neg (by omega), if_neg (by omega), if_neg (by omega)])
      clear hkd hk
      go_wp2_with fail
      refine (blobLinks_any w2 _).mono ?_
      rintro e w3 ⟨v, rfl, hrow, h3⟩
      obtain ⟨Ar, cr, rfl, _⟩ := hrow.slice
      go_wp2_with fail
      go_ret
      exact ⟨_, rfl, by rw [HM.out, HL.out]; exact hrow.base hB2.size, hB2.trans (h3.mono hB2.size)⟩
    | tree g hk hb =>
      have HL := Lib.hid (show linksK p = p.es.map lkE by unfold linksK; rw [if_pos (by omega)])
      clear hkd hk
      go_wp2_with fail
      refine (treeLinks_any w2 g o.ev p.es hb HO.out.es sp.es).mono ?_
      rintro e w3 ⟨v, rfl, hrow, h3⟩
      have HR := Lib.hid hrow
      clear hrow
      go_wp2_with fail
      go_ret
      exact ⟨_, rfl, by rw [HM.out, HL.out]; exact HR.out.base hB2.size, hB2.trans (h3.mono hB2.size)⟩
    | commit g hk hb =>
      have HL := Lib.hid (show linksK p = mkLk 2 o.tree :: p.ps.map (mkLk 3) by unfold linksK; rw [if_neg (by omega), if_pos (by omega), HO.out.tree])
      clear hkd hk
      go_wp2_with fail
      refine (commitLinks_any w2 g o.co p.ps hb HO.out.ps sp.ps).mono ?_
      rintro e w3 ⟨v, rfl, hrow, h3⟩
      have HR := Lib.hid hrow
      clear hrow
      go_wp2_with fail
      go_ret
      exact ⟨_, rfl, by rw [HM.out, HL.out]; exact HR.out.base hB2.size, hB2.trans (h3.mono hB2.size)⟩
    | tag g hk hb =>
      have HL := Lib.hid (show linksK p = [o.tg] by unfold linksK; rw [if_neg (by omega), if_neg (by omega), if_pos (by omega), HO.out.tg])
      clear hkd hk
      go_wp2_with fail
      refine (tagLinks_any w2 g o.tag hb).mono ?_
      rintro e w3 ⟨v, rfl, hrow, h3⟩
      have HR := Lib.hid hrow
      clear hrow
      go_wp2_with fail
      go_ret
      exact ⟨_, rfl, by rw [HM.out, HL.out]; exact HR.out.base hB2.size, hB2.trans (h3.mono hB2.size)⟩
  · have HM := Lib.hid (show linksB p = [] by unfold linksB; rw [hm]; rfl)
    clear hm
    go_wp2_with fail
    go_ret
    exact ⟨_, rfl, by rw [HM.out]; exact RowE.nil _ _, hB2⟩
end Go.Proofs.YtljihmbmjpcfaaaGreat
