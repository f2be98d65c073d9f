/- What an object refers to: the program's Links. The walk of ObjectKinds (tools/genkinds.py). -/
import Derived.Test.YtfoeelhghdonbaaGreatObGreat
import Derived.Test.YtfoeelhghdonbaaGreatObBody
import Derived.Test.YtfoeelhghdonbaaGreatObAlive2
namespace Go.Proofs.YtfoeelhghdonbaaGreat
open Go.RowKit Go.Shelf Go.Great
set_option maxRecDepth 100000

def linksB (p : Pl) : List Lk := if mayB p then linksK p else []
set_option maxHeartbeats 4000000 in
theorem oLinks_any (w : World) (o : Ob) (p : Pl) (ho : ObIs w o p) (sp : PlSmall p) :
    Calls Tryz.prog 20 #[ObV o] w fun e W' => ∃ v, e = .returned v ∧ RowL W' w.heap.size v (linksB p) ∧ Below w.heap.size w W' := by
  have HO := Lib.hid ho
  clear ho
  go_enter Tryz.func20, Tryz.ntmps20
  go_wp2_with (first
    | (refine wpList_box_e (E := eOb) rfl (.tmp 0) rfl (x := o) rfl ?_; intro w1 b1 hB1)
    | (refine wpList_load_e (E := eOb) Tryz.underlying30 rfl sizeO rfl (.tmp 1) rfl rfl b1.at ?_))
  refine (oBodyOf_any _ o p (HO.out.below hB1) sp).mono ?_
  rintro e w2 ⟨v, rfl, hout, h2⟩
  have hB2 : Below w.heap.size w w2 := hB1.trans (h2.mono hB1.size)
  replace HO := Lib.hid (HO.out.below hB2)
  clear h2 b1
  rcases hout with ⟨hm, hbody⟩ | ⟨hm, rfl⟩
  · have HM := Lib.hid (show linksB p = linksK p by unfold linksB; rw [hm]; rfl)
    have hkd := HO.out.kd
    have HMB := Lib.hid hm
    clear hm
    cases hbody with
    | none hk =>
      exfalso
      have hb : bodyB p = false := by unfold bodyB; rw [if_neg (by omega), if_neg (by omega), if_neg (by omega), if_neg (by omega)]
      have := HMB.out
      unfold mayB at this
      rw [hb] at this
      cases this
    | blob g hk hb =>
      have HL := Lib.hid (show linksK p = [] by unfold linksK; rw [if_neg (by omega), if_neg (by omega), if_neg (by omega)])
      clear hkd hk
      go_wp2_with fail
      refine (blobLinks_any w2 _).mono ?_
      rintro e w3 ⟨v, rfl, hrow, h3⟩
      obtain ⟨Ar, cr, rfl, _⟩ := hrow.slice
      go_wp2_with fail
      go_ret
      exact ⟨_, rfl, by rw [HM.out, HL.out]; exact hrow.base hB2.size, hB2.trans (h3.mono hB2.size)⟩
    | tree g hk hb =>
      have HL := Lib.hid (show linksK p = p.es.map lkE by unfold linksK; rw [if_pos (by omega)])
      clear hkd hk
      go_wp2_with fail
      refine (treeLinks_any w2 g o.ev p.es hb HO.out.es sp.es).mono ?_
      rintro e w3 ⟨v, rfl, hrow, h3⟩
      have HR := Lib.hid hrow
      clear hrow
      go_wp2_with fail
      go_ret
      exact ⟨_, rfl, by rw [HM.out, HL.out]; exact HR.out.base hB2.size, hB2.trans (h3.mono hB2.size)⟩
    | commit g hk hb =>
      have HL := Lib.hid (show linksK p = mkLk 2 o.tree :: p.ps.map (mkLk 3) by unfold linksK; rw [if_neg (by omega), if_pos (by omega), HO.out.tree])
      clear hkd hk
      go_wp2_with fail
      refine (commitLinks_any w2 g o.co p.ps hb HO.out.ps sp.ps).mono ?_
      rintro e w3 ⟨v, rfl, hrow, h3⟩
      have HR := Lib.hid hrow
      clear hrow
      go_wp2_with fail
      go_ret
      exact ⟨_, rfl, by rw [HM.out, HL.out]; exact HR.out.base hB2.size, hB2.trans (h3.mono hB2.size)⟩
    | tag g hk hb =>
      have HL := Lib.hid (show linksK p = [o.tg] by unfold linksK; rw [if_neg (by omega), if_neg (by omega), if_pos (by omega), HO.out.tg])
      clear hkd hk
      go_wp2_with fail
      refine (tagLinks_any w2 g o.tag hb).mono ?_
      rintro e w3 ⟨v, rfl, hrow, h3⟩
      have HR := Lib.hid hrow
      clear hrow
      go_wp2_with fail
      go_ret
      exact ⟨_, rfl, by rw [HM.out, HL.out]; exact HR.out.base hB2.size, hB2.trans (h3.mono hB2.size)⟩
  · have HM := Lib.hid (show linksB p = [] by unfold linksB; rw [hm]; rfl)
    clear hm
    go_wp2_with fail
    go_ret
    exact ⟨_, rfl, by rw [HM.out]; exact RowE.nil _ _, hB2⟩
end Go.Proofs.YtfoeelhghdonbaaGreat
namespace Go.Proofs.YtfoeelhghdonbaaGreat
open Go.RowKit Go.Shelf Go.Great
set_option maxRecDepth 100000

/-- How many links of a kind. -/
def cntK (k : Int) (l : List Lk) : Nat := (l.filter fun x => x.kd == k).length
theorem cntK_nil (k : Int) : cntK k [] = 0 := rfl
theorem cntK_snoc (k : Int) (l : List Lk) (x : Lk) : cntK k (l ++ [x]) = cntK k l + (if x.kd = k then 1 else 0) := by
  unfold cntK
  rw [List.filter_append, List.length_append]
  rw [List.filter_cons, List.filter_nil]
  by_cases h : x.kd = k
  · rw [if_pos (by simpa using h), if_pos h]; rfl
  · rw [if_neg (by simpa using h), if_neg h]; rfl
theorem cntK_le (k : Int) (l : List Lk) : cntK k l ≤ l.length := List.length_filter_le _ _
theorem mkLk_kd (k : Int) (id : List UInt8) : (mkLk k id).kd = k := by unfold mkLk; split <;> rfl
theorem cntK_all (k : Int) (l : List Lk) (h : ∀ x ∈ l, x.kd = k) : cntK k l = l.length := by
  unfold cntK
  rw [List.filter_eq_self.2 (fun x hx => by simp [h x hx])]
theorem cntK_none (k : Int) (l : List Lk) (h : ∀ x ∈ l, ¬ x.kd = k) : cntK k l = 0 := by
  unfold cntK
  rw [List.filter_eq_nil_iff.2 (fun x hx => by simp [h x hx])]
  rfl
theorem mayB_kd {p : Pl} (h : mayB p = true) : p.kd = 1 ∨ p.kd = 2 ∨ p.kd = 3 ∨ p.kd = 4 := by
  by_cases h1 : p.kd = 1
  · exact .inl h1
  by_cases h2 : p.kd = 2
  · exact .inr (.inl h2)
  by_cases h3 : p.kd = 3
  · exact .inr (.inr (.inl h3))
  by_cases h4 : p.kd = 4
  · exact .inr (.inr (.inr h4))
  · unfold mayB bodyB at h
    rw [if_neg h1, if_neg h2, if_neg h3, if_neg h4] at h
    cases h
theorem mayB_tree {p : Pl} (h : mayB p = true) (h2 : p.kd = 2) : ∀ x ∈ p.es, ¬ x.kd = 3 := by
  unfold mayB bodyB at h
  rw [if_neg (by omega), if_pos h2] at h
  simp only [Bool.and_eq_true] at h
  have ht := h.1
  unfold treeB at ht
  simp only [Bool.and_eq_true, List.all_eq_true, List.mem_range] at ht
  intro x hx
  obtain ⟨i, hi, rfl⟩ := List.mem_iff_getElem.1 hx
  have := ht.2 i hi
  unfold entryAt at this
  rw [List.getElem?_eq_getElem hi] at this
  simp only [Bool.and_eq_true] at this
  have he := this.1
  unfold entryB at he
  simp only [Bool.and_eq_true, Bool.or_eq_true, decide_eq_true_eq] at he
  omega
/-- What the law counts, of each kind. -/
theorem kinds_tree {p : Pl} (h : mayB p = true) (h2 : p.kd = 2) : (linksK p).length = p.es.length ∧ cntK 3 (linksK p) = 0 := by
  have hl : linksK p = p.es.map lkE := by unfold linksK; rw [if_pos h2]
  rw [hl]
  exact ⟨by simp, cntK_none _ _ (fun x hx => by
    obtain ⟨e, he, rfl⟩ := List.mem_map.1 hx
    exact mayB_tree h h2 e he)⟩
theorem kinds_commit {p : Pl} (h3 : p.kd = 3) : linksK p = mkLk 2 p.tree :: p.ps.map (mkLk 3) ∧ (linksK p).length = p.ps.length + 1 ∧ cntK 2 (linksK p) = 1 ∧ cntK 3 (linksK p) = p.ps.length := by
  have hl : linksK p = mkLk 2 p.tree :: p.ps.map (mkLk 3) := by unfold linksK; rw [if_neg (by omega), if_pos h3]
  have h0 : ∀ x ∈ p.ps.map (mkLk 3), x.kd = 3 := fun x hx => by
    obtain ⟨e, _, rfl⟩ := List.mem_map.1 hx
    exact mkLk_kd 3 e
  refine ⟨hl, by rw [hl]; simp, ?_, ?_⟩
  · rw [hl]
    show ((mkLk 2 p.tree :: p.ps.map (mkLk 3)).filter fun x => x.kd == 2).length = 1
    rw [List.filter_cons, if_pos (by simp [mkLk_kd]), List.length_cons]
    have : cntK 2 (p.ps.map (mkLk 3)) = 0 := cntK_none _ _ (fun x hx => by rw [h0 x hx]; decide)
    unfold cntK at this
    omega
  · rw [hl]
    show ((mkLk 2 p.tree :: p.ps.map (mkLk 3)).filter fun x => x.kd == 3).length = p.ps.length
    rw [List.filter_cons, if_neg (by simp [mkLk_kd])]
    have := cntK_all 3 (p.ps.map (mkLk 3)) h0
    rw [List.length_map] at this
    exact this
theorem kinds_tag {p : Pl} (h4 : p.kd = 4) : linksK p = [p.tg] := by unfold linksK; rw [if_neg (by omega), if_neg (by omega), if_pos h4]
theorem kinds_blob {p : Pl} (h1 : p.kd = 1) : linksK p = [] := by unfold linksK; rw [if_neg (by omega), if_neg (by omega), if_neg (by omega)]

set_option maxHeartbeats 8000000 in
theorem kinds_walk (w : World) (o : Ob) (p : Pl) (ho : ObIs w o p) :
    Calls Tryz.prog 7 #[ObV o] w fun e W' => e = .returned (.bool true) ∧ Below w.heap.size w W' := by
  have HO := Lib.hid ho
  clear ho
  go_enter Tryz.func7, Tryz.ntmps7
  go_wp2_with (refine wpList_box_e (E := eOb) rfl (.tmp 0) rfl (x := o) rfl ?_; intro w1 b1 hB1)
  refine (alive7_any w1).mono ?_
  rintro e w2 ⟨rfl, h2⟩
  have hB2 := hB1.trans (h2.mono hB1.size)
  replace b1 : BoxOb w2 w.heap.size o := b1.below h2
  clear h2 hB1
  go_wp2_with (refine wpList_load_e (E := eOb) Tryz.underlying30 rfl sizeO rfl (.tmp 1) rfl rfl b1.at ?_)
  refine (r7Great_any w2 o p (HO.out.below hB2)).mono ?_
  rintro e w3 ⟨r, rfl, hgr, h3⟩
  have hB3 := hB2.trans (h3.mono hB2.size)
  replace b1 : BoxOb w3 w.heap.size o := b1.below h3
  clear h3 hB2
  rcases hgr with ⟨rfl, hfit⟩ | rfl
  case inr =>
    go_wp2_with fail
    go_ret
    exact ⟨rfl, hB3⟩
  case inl =>
    have SP := Lib.hid hfit.small
    have HF := Lib.hid hfit
    clear hfit
    go_wp2_with (refine wpList_load_e (E := eOb) Tryz.underlying30 rfl sizeO rfl (.tmp 1) rfl rfl b1.at ?_)
    refine (oLinks_any w3 o p (HO.out.below hB3) SP.out).mono ?_
    rintro e w4 ⟨v, rfl, hrow, h4⟩
    have hB4 := hB3.trans (h4.mono hB3.size)
    replace b1 : BoxOb w4 w.heap.size o := b1.below h4
    clear h4 hB3
    obtain ⟨A, c, rfl, _⟩ := hrow.slice
    have HR := Lib.hid hrow.is
    clear hrow
    go_wp2_with (refine wpList_load_e (E := eOb) Tryz.underlying30 rfl sizeO rfl (.tmp 1) rfl rfl b1.at ?_)
    refine (oCheck_any w4 o p (HO.out.below hB4) SP.out).mono ?_
    rintro e w5 ⟨rfl, h5⟩
    have hB5 := hB4.trans (h5.mono hB4.size)
    replace b1 : BoxOb w5 w.heap.size o := b1.below h5
    replace HR := Lib.hid (HR.out.below h5)
    replace HO := Lib.hid (HO.out.below hB5)
    clear h5 hB4
    cases hm : mayB p with
    | false =>
      have hl : linksB p = [] := by unfold linksB; rw [hm]; rfl
      have hcv : checkV p = 70 := by unfold checkV; rw [hm]; rfl
      rw [hl, hcv]
      clear hl hcv hm HR
      go_wp2_with fail
      go_ret
      exact ⟨rfl, hB5⟩
    | true =>
      have HM := Lib.hid hm
      have hl : linksB p = linksK p := by unfold linksB; rw [hm]; rfl
      have hcv : checkV p = 0 := by unfold checkV; rw [hm]; rfl
      rw [hl] at HR ⊢
      rw [hcv]
      clear hl hcv hm
      obtain ⟨l, hl⟩ : ∃ l, l = linksK p := ⟨_, rfl⟩
      rw [← hl] at HR ⊢
      have HL := Lib.hid hl
      clear hl
      obtain ⟨n, hn⟩ : ∃ n, n = l.length := ⟨_, rfl⟩
      rw [← hn] at HR ⊢
      have HN := Lib.hid hn
      have HLE := Lib.hid (show n ≤ 1000 by
        rw [hn, HL.out]
        have h1 := HF.out.es
        have h2 := HF.out.ps
        unfold linksK
        split
        · rw [List.length_map]; omega
        · split
          · rw [List.length_cons, List.length_map]; omega
          · split
            · simp
            · simp)
      clear hn
      go_wp2_with fail
      go_loopw [5, 6, 31] (fun t5 t6 i wr => ∃ k T C : Nat, k ≤ n ∧ i = .int .i64 k ∧ t5 = .int .i64 T ∧ t6 = .int .i64 C ∧ T = cntK 2 (l.take k) ∧ C = cntK 3 (l.take k) ∧ Below w5.heap.size w5 wr) (fun _ _ i _ => n - (RowKit.intOf i).toNat)
      case atStart => exact ⟨0, 0, 0, by omega, rfl, rfl, rfl, rfl, rfl, Below.refl _ _⟩
      case round =>
        obtain ⟨k, T, C, hk, rfl, rfl, rfl, hT, hC, hB⟩ := hrel
        have HT := Lib.hid hT
        have HC := Lib.hid hC
        clear hT hC
        have hBw := hB5.trans (hB.mono hB5.size)
        by_cases hlt : k < n
        case pos =>
          obtain ⟨x, hxk⟩ : ∃ x, l[k]? = some x := ⟨_, List.getElem?_eq_getElem (by rw [← HN.out]; exact hlt)⟩
          obtain ⟨b, off, rfl, hat⟩ := HR.out.at hxk
          have hat1 : ElAt eLk wr b (off + k * 33) x := hat.below hB
          have hklt : (k : Int) < (n : Int) := by omega
          have hn1000 := HLE.out
          have hTb : T ≤ 1000 := by have h1 := cntK_le 2 (l.take k); have h2 := HT.out; have h3 := HLE.out; rw [List.length_take] at h1; omega
          have hCb : C ≤ 1000 := by have h1 := cntK_le 3 (l.take k); have h2 := HC.out; have h3 := HLE.out; rw [List.length_take] at h1; omega
          have HT2 := Lib.hid (show cntK 2 (l.take (k + 1)) = T + (if x.kd = 2 then 1 else 0) by rw [List.take_add_one, hxk, HT.out]; exact cntK_snoc _ _ _)
          have HC2 := Lib.hid (show cntK 3 (l.take (k + 1)) = C + (if x.kd = 3 then 1 else 0) by rw [List.take_add_one, hxk, HC.out]; exact cntK_snoc _ _ _)
          clear hxk hat
          by_cases hx2 : x.kd = 2
          · have HT3 := Lib.hid (HT2.out.trans (by rw [if_pos hx2]))
            have HC3 := Lib.hid (HC2.out.trans (by rw [if_neg (by omega)]))
            clear HT2 HC2
            go_wp2_with (first
              | (refine elLk.wpLoad rfl (.tmp 33) rfl rfl hat1 ?_)
              | (refine wpList_alloc_e (E := eLk) (z := zeroLk) zeroLk_run rfl rfl ?_)
              | (refine wpList_store_e (E := eLk) sizeLk rfl (.tmp 8) (.tmp 34) rfl rfl (BoxE.new (E := eLk) _ _) rfl ?_; intro w7 b7 k7; have c7 := LkAt.kd b7.at))
            have h7 : Below wr.heap.size wr w7 := (((Kept.refl (· = wr.heap.size) wr).alloc _).same k7).below (fun j _ e => by subst e; exact Nat.le_refl _) (Nat.le_refl _)
            go_roundw
            case rel => exact ⟨k + 1, T + 1, C, by omega, by go_num, by go_num, by first | rfl | go_num, HT3.out.symm, HC3.out.symm, hB.trans (h7.mono hB.size)⟩
            case measure => simp [RowKit.intOf]; omega
          · by_cases hx3 : x.kd = 3
            · have HT3 := Lib.hid (HT2.out.trans (by rw [if_neg hx2]))
              have HC3 := Lib.hid (HC2.out.trans (by rw [if_pos hx3]))
              clear HT2 HC2
              go_wp2_with (first
                | (refine elLk.wpLoad rfl (.tmp 33) rfl rfl hat1 ?_)
                | (refine wpList_alloc_e (E := eLk) (z := zeroLk) zeroLk_run rfl rfl ?_)
                | (refine wpList_store_e (E := eLk) sizeLk rfl (.tmp 8) (.tmp 34) rfl rfl (BoxE.new (E := eLk) _ _) rfl ?_; intro w7 b7 k7; have c7 := LkAt.kd b7.at))
              have h7 : Below wr.heap.size wr w7 := (((Kept.refl (· = wr.heap.size) wr).alloc _).same k7).below (fun j _ e => by subst e; exact Nat.le_refl _) (Nat.le_refl _)
              go_roundw
              case rel => exact ⟨k + 1, T, C + 1, by omega, by go_num, by first | rfl | go_num, by go_num, HT3.out.symm, HC3.out.symm, hB.trans (h7.mono hB.size)⟩
              case measure => simp [RowKit.intOf]; omega
            · have HT3 := Lib.hid (HT2.out.trans (by rw [if_neg hx2]))
              have HC3 := Lib.hid (HC2.out.trans (by rw [if_neg hx3]))
              clear HT2 HC2
              go_wp2_with (first
                | (refine elLk.wpLoad rfl (.tmp 33) rfl rfl hat1 ?_)
                | (refine wpList_alloc_e (E := eLk) (z := zeroLk) zeroLk_run rfl rfl ?_)
                | (refine wpList_store_e (E := eLk) sizeLk rfl (.tmp 8) (.tmp 34) rfl rfl (BoxE.new (E := eLk) _ _) rfl ?_; intro w7 b7 k7; have c7 := LkAt.kd b7.at))
              have h7 : Below wr.heap.size wr w7 := (((Kept.refl (· = wr.heap.size) wr).alloc _).same k7).below (fun j _ e => by subst e; exact Nat.le_refl _) (Nat.le_refl _)
              go_roundw
              case rel => exact ⟨k + 1, T, C, by omega, by go_num, by first | rfl | go_num, by first | rfl | go_num, HT3.out.symm, HC3.out.symm, hB.trans (h7.mono hB.size)⟩
              case measure => simp [RowKit.intOf]; omega
        case neg =>
          obtain rfl : k = n := by omega
          have hTl : T = cntK 2 l := by rw [HT.out, List.take_of_length_le (by rw [← HN.out]; exact Nat.le_refl _)]
          have hCl : C = cntK 3 l := by rw [HC.out, List.take_of_length_le (by rw [← HN.out]; exact Nat.le_refl _)]
          have bw : BoxOb wr w.heap.size o := b1.below hB
          have HOw := HO.out.below hB
          have HRw := HR.out.below hB
          have hkd := HO.out.kd
          have q0 := bw.obc.kd
          have q2 := bw.obc.ev
          have q3 := bw.obc.tree
          have q4 := bw.obc.pv
          have q5 := bw.obc.tg
          have hev : o.ev.n = p.es.length := by obtain ⟨A', c', h, _⟩ := HO.out.es.form; injection h
          have hpv : o.pv.n = p.ps.length := by obtain ⟨A', c', h, _⟩ := HO.out.ps.form; injection h
          have htree := HO.out.tree
          have htg := HO.out.tg
          rw [HL.out] at hTl hCl
          have hN := HN.out
          rw [HL.out] at hN
          have HWR := Lib.hid HRw
          have hlt' : ¬ (k : Int) < (k : Int) := by omega
          clear HT HC HRw hlt
          rcases mayB_kd HM.out with h1 | h2 | h3 | h4
          · have hl0 := kinds_blob h1
            rw [hl0] at hTl hCl hN
            subst hTl hCl hN
            rw [hkd, h1] at q0
            clear hkd h1 hl0 q2 q3 q4 q5 hev hpv htree htg
            go_wp2_with fail
            go_ret
            exact ⟨rfl, hBw⟩
          · obtain ⟨e1, e2⟩ := kinds_tree HM.out h2
            rw [e1] at hN
            rw [e2] at hCl
            rw [hkd, h2] at q0
            rw [hev, ← hN] at q2
            subst hCl
            clear hkd h2 e1 e2 q3 q4 q5 hev hpv htree htg hTl hN
            go_wp2_with fail
            go_ret
            exact ⟨rfl, hBw⟩
          · obtain ⟨e0, e1, e2, e3⟩ := kinds_commit h3
            rw [e1] at hN
            rw [e2] at hTl
            rw [e3] at hCl
            rw [hkd, h3] at q0
            rw [hpv, ← hCl] at q4
            have hx : l[0]? = some (mkLk 2 p.tree) := by rw [HL.out, e0]; rfl
            obtain ⟨b, off, rfl, hat⟩ := HWR.out.at hx
            rw [← htree, mkLk_of o.h] at hat
            have hid : IdAt wr b (off + 1) o.tree := by have := LkAt.id hat; rwa [Nat.zero_mul, Nat.add_zero] at this
            have h32 := o.h
            rw [← hCl] at hN
            subst hTl hN
            have hC1000 := HLE.out
            clear hkd h3 e0 e1 e2 e3 q2 q5 hev hpv htree htg hCl hx hat
            go_wp2_with fail
            refine wp_held (fun W1 => Below wr.heap.size wr W1) (by kernel_rfl) ?_
            have hS0 : Below wr.heap.size wr wr.drew := (Below.refl _ wr).drew
            refine wpAnyH_next (i := 0) (v := .bool true) rfl (by kernel_rfl) (by kernel_rfl) (by kernel_rfl) (fun _ _ _ h => h) (by kernel_rfl) (fun W1 hW1 => by go_simp; done) hS0 (fun a' ha' => ?_)
            simp only [Act.put, List.getElem_toArray, List.getElem_cons_zero, List.setIfInBounds_toArray, List.set_cons_succ, List.set_cons_zero] at ha'
            subst ha'
            refine wpAnyH_next (i := 1) (v := .bool true) rfl (by kernel_rfl) (by kernel_rfl) (by kernel_rfl) (fun _ _ _ h => h) (by kernel_rfl) (fun W1 hW1 => by go_simp; done) hS0 (fun a' ha' => ?_)
            simp only [Act.put, List.getElem_toArray, List.getElem_cons_succ, List.getElem_cons_zero, List.setIfInBounds_toArray, List.set_cons_succ, List.set_cons_zero] at ha'
            subst ha'
            refine wpAnyH_next (i := 2) (v := .int .i64 ((1 : Nat) : Int)) rfl (by kernel_rfl) (by kernel_rfl) (by kernel_rfl) (fun _ _ _ h => h) (by kernel_rfl) (fun W1 hW1 => by go_simp; done) hS0 (fun a' ha' => ?_)
            simp only [Act.put, List.getElem_toArray, List.getElem_cons_succ, List.getElem_cons_zero, List.setIfInBounds_toArray, List.set_cons_succ, List.set_cons_zero] at ha'
            subst ha'
            refine wpAnyH_next (i := 3) (v := .bool true) rfl (by kernel_rfl) (by kernel_rfl) (by kernel_rfl) (fun _ _ _ h => h) (by kernel_rfl) (fun W1 hW1 => by first | (go_simp; done) | (go_simp; omega)) hS0 (fun a' ha' => ?_)
            simp only [Act.put, List.getElem_toArray, List.getElem_cons_succ, List.getElem_cons_zero, List.setIfInBounds_toArray, List.set_cons_succ, List.set_cons_zero] at ha'
            subst ha'
            refine wpAnyH_next (i := 4) (v := .bool true) rfl (by kernel_rfl) (by kernel_rfl) (by kernel_rfl) (fun _ _ _ h => h) (by kernel_rfl) (fun W1 hW1 => by go_simp; done) hS0 (fun a' ha' => ?_)
            simp only [Act.put, List.getElem_toArray, List.getElem_cons_succ, List.getElem_cons_zero, List.setIfInBounds_toArray, List.set_cons_succ, List.set_cons_zero] at ha'
            subst ha'
            refine wpAnyH_next (i := 5) (v := .bool true) rfl (by kernel_rfl) (by kernel_rfl) (by kernel_rfl) (fun _ _ _ h => h) (by kernel_rfl) (fun W1 hW1 => by go_simp; done) hS0 (fun a' ha' => ?_)
            simp only [Act.put, List.getElem_toArray, List.getElem_cons_succ, List.getElem_cons_zero, List.setIfInBounds_toArray, List.set_cons_succ, List.set_cons_zero] at ha'
            subst ha'
            refine wpAnyH_next (i := 6) (v := .int .i64 (C : Int)) rfl (by kernel_rfl) (by kernel_rfl) (by kernel_rfl) (fun _ _ _ h => h) (by kernel_rfl) (fun W1 hW1 => by go_simp; done) hS0 (fun a' ha' => ?_)
            simp only [Act.put, List.getElem_toArray, List.getElem_cons_succ, List.getElem_cons_zero, List.setIfInBounds_toArray, List.set_cons_succ, List.set_cons_zero] at ha'
            subst ha'
            refine wpAnyH_next (i := 7) (v := .pointer (some ⟨w.heap.size, 35, none⟩)) rfl (by kernel_rfl) (by kernel_rfl) (by kernel_rfl) (fun _ _ _ h => h) (by kernel_rfl) (fun W1 hW1 => by first | (go_simp; done) | (go_simp; omega)) hS0 (fun a' ha' => ?_)
            simp only [Act.put, List.getElem_toArray, List.getElem_cons_succ, List.getElem_cons_zero, List.setIfInBounds_toArray, List.set_cons_succ, List.set_cons_zero] at ha'
            subst ha'
            refine wpAnyH_next (i := 8) (v := .slice o.pv.A C o.pv.c) rfl (by kernel_rfl) (by kernel_rfl) (by kernel_rfl) (fun _ _ _ h => h) (by kernel_rfl) (fun W1 hW1 => by have e1 := cellB hW1 q4; go_simp; done) hS0 (fun a' ha' => ?_)
            simp only [Act.put, List.getElem_toArray, List.getElem_cons_succ, List.getElem_cons_zero, List.setIfInBounds_toArray, List.set_cons_succ, List.set_cons_zero] at ha'
            subst ha'
            refine wpAnyH_next (i := 9) (v := .int .i64 (C : Int)) rfl (by kernel_rfl) (by kernel_rfl) (by kernel_rfl) (fun _ _ _ h => h) (by kernel_rfl) (fun W1 hW1 => by first | (go_simp; done) | (go_simp; omega)) hS0 (fun a' ha' => ?_)
            simp only [Act.put, List.getElem_toArray, List.getElem_cons_succ, List.getElem_cons_zero, List.setIfInBounds_toArray, List.set_cons_succ, List.set_cons_zero] at ha'
            subst ha'
            refine wpAnyH_next (i := 10) (v := .bool true) rfl (by kernel_rfl) (by kernel_rfl) (by kernel_rfl) (fun _ _ _ h => h) (by kernel_rfl) (fun W1 hW1 => by first | (go_simp; done) | (go_simp; omega)) hS0 (fun a' ha' => ?_)
            simp only [Act.put, List.getElem_toArray, List.getElem_cons_succ, List.getElem_cons_zero, List.setIfInBounds_toArray, List.set_cons_succ, List.set_cons_zero] at ha'
            subst ha'
            refine wpAnyH_next (i := 11) (v := .bool true) rfl (by kernel_rfl) (by kernel_rfl) (by kernel_rfl) (fun _ _ _ h => h) (by kernel_rfl) (fun W1 hW1 => by go_simp; done) hS0 (fun a' ha' => ?_)
            simp only [Act.put, List.getElem_toArray, List.getElem_cons_succ, List.getElem_cons_zero, List.setIfInBounds_toArray, List.set_cons_succ, List.set_cons_zero] at ha'
            subst ha'
            refine wpAnyH_next (i := 12) (v := .bool true) rfl (by kernel_rfl) (by kernel_rfl) (by kernel_rfl) (fun _ _ _ h => h) (by kernel_rfl) (fun W1 hW1 => by go_simp; done) hS0 (fun a' ha' => ?_)
            simp only [Act.put, List.getElem_toArray, List.getElem_cons_succ, List.getElem_cons_zero, List.setIfInBounds_toArray, List.set_cons_succ, List.set_cons_zero] at ha'
            subst ha'
            refine wpAnyH_next (i := 13) (v := .slice (some ⟨b, off, none⟩) (C + 1) c) rfl (by kernel_rfl) (by kernel_rfl) (by kernel_rfl) (fun _ _ _ h => h) (by kernel_rfl) (fun W1 hW1 => by go_simp; done) hS0 (fun a' ha' => ?_)
            simp only [Act.put, List.getElem_toArray, List.getElem_cons_succ, List.getElem_cons_zero, List.setIfInBounds_toArray, List.set_cons_succ, List.set_cons_zero] at ha'
            subst ha'
            refine wpAnyH_next (i := 14) (v := .int .i64 ((C + 1 : Nat) : Int)) rfl (by kernel_rfl) (by kernel_rfl) (by kernel_rfl) (fun _ _ _ h => h) (by kernel_rfl) (fun W1 hW1 => by first | (go_simp; done) | (go_simp; omega)) hS0 (fun a' ha' => ?_)
            simp only [Act.put, List.getElem_toArray, List.getElem_cons_succ, List.getElem_cons_zero, List.setIfInBounds_toArray, List.set_cons_succ, List.set_cons_zero] at ha'
            subst ha'
            refine wpAnyH_next (i := 15) (v := .int .i64 (C : Int)) rfl (by kernel_rfl) (by kernel_rfl) (by kernel_rfl) (fun _ _ _ h => h) (by kernel_rfl) (fun W1 hW1 => by go_simp; done) hS0 (fun a' ha' => ?_)
            simp only [Act.put, List.getElem_toArray, List.getElem_cons_succ, List.getElem_cons_zero, List.setIfInBounds_toArray, List.set_cons_succ, List.set_cons_zero] at ha'
            subst ha'
            refine wpAnyH_next (i := 16) (v := .int .i64 ((C + 1 : Nat) : Int)) rfl (by kernel_rfl) (by kernel_rfl) (by kernel_rfl) (fun _ _ _ h => h) (by kernel_rfl) (fun W1 hW1 => by first | (go_simp; done) | (go_simp; rw [IntWalk.i64_in _ (by omega)]; omega) | (go_simp; omega)) hS0 (fun a' ha' => ?_)
            simp only [Act.put, List.getElem_toArray, List.getElem_cons_succ, List.getElem_cons_zero, List.setIfInBounds_toArray, List.set_cons_succ, List.set_cons_zero] at ha'
            subst ha'
            refine wpAnyH_next (i := 17) (v := .bool true) rfl (by kernel_rfl) (by kernel_rfl) (by kernel_rfl) (fun _ _ _ h => h) (by kernel_rfl) (fun W1 hW1 => by first | (go_simp; done) | (go_simp; omega)) hS0 (fun a' ha' => ?_)
            simp only [Act.put, List.getElem_toArray, List.getElem_cons_succ, List.getElem_cons_zero, List.setIfInBounds_toArray, List.set_cons_succ, List.set_cons_zero] at ha'
            subst ha'
            refine wpAnyH_next (i := 18) (v := .bool true) rfl (by kernel_rfl) (by kernel_rfl) (by kernel_rfl) (fun _ _ _ h => h) (by kernel_rfl) (fun W1 hW1 => by go_simp; done) hS0 (fun a' ha' => ?_)
            simp only [Act.put, List.getElem_toArray, List.getElem_cons_succ, List.getElem_cons_zero, List.setIfInBounds_toArray, List.set_cons_succ, List.set_cons_zero] at ha'
            subst ha'
            refine wpAnyH_next (i := 19) (v := .bool true) rfl (by kernel_rfl) (by kernel_rfl) (by kernel_rfl) (fun _ _ _ h => h) (by kernel_rfl) (fun W1 hW1 => by go_simp; done) hS0 (fun a' ha' => ?_)
            simp only [Act.put, List.getElem_toArray, List.getElem_cons_succ, List.getElem_cons_zero, List.setIfInBounds_toArray, List.set_cons_succ, List.set_cons_zero] at ha'
            subst ha'
            refine wpAnyH_next (i := 20) (v := .slice (some ⟨b, off, none⟩) (C + 1) c) rfl (by kernel_rfl) (by kernel_rfl) (by kernel_rfl) (fun _ _ _ h => h) (by kernel_rfl) (fun W1 hW1 => by go_simp; done) hS0 (fun a' ha' => ?_)
            simp only [Act.put, List.getElem_toArray, List.getElem_cons_succ, List.getElem_cons_zero, List.setIfInBounds_toArray, List.set_cons_succ, List.set_cons_zero] at ha'
            subst ha'
            refine wpAnyH_next (i := 21) (v := .pointer (some ⟨b, off, none⟩)) rfl (by kernel_rfl) (by kernel_rfl) (by kernel_rfl) (fun _ _ _ h => h) (by kernel_rfl) (fun W1 hW1 => by first | (go_simp; done) | (go_simp; omega)) hS0 (fun a' ha' => ?_)
            simp only [Act.put, List.getElem_toArray, List.getElem_cons_succ, List.getElem_cons_zero, List.setIfInBounds_toArray, List.set_cons_succ, List.set_cons_zero] at ha'
            subst ha'
            refine wpAnyH_next (i := 22) (v := .pointer (some ⟨b, off + 1, none⟩)) rfl (by kernel_rfl) (by kernel_rfl) (by kernel_rfl) (fun _ _ _ h => h) (by kernel_rfl) (fun W1 hW1 => by first | (go_simp; done) | (go_simp; omega)) hS0 (fun a' ha' => ?_)
            simp only [Act.put, List.getElem_toArray, List.getElem_cons_succ, List.getElem_cons_zero, List.setIfInBounds_toArray, List.set_cons_succ, List.set_cons_zero] at ha'
            subst ha'
            refine wpAnyH_next (i := 23) (v := IdV o.tree) rfl (by kernel_rfl) (by kernel_rfl) (by kernel_rfl) (fun _ _ _ h => h) (by kernel_rfl) (fun W1 hW1 => by exact exec_load_id rfl rfl h32 (IdAt.below hid hW1)) hS0 (fun a' ha' => ?_)
            simp only [Act.put, List.getElem_toArray, List.getElem_cons_succ, List.getElem_cons_zero, List.setIfInBounds_toArray, List.set_cons_succ, List.set_cons_zero] at ha'
            subst ha'
            refine wpAnyH_next (i := 24) (v := .pointer (some ⟨w.heap.size, 3, none⟩)) rfl (by kernel_rfl) (by kernel_rfl) (by kernel_rfl) (fun _ _ _ h => h) (by kernel_rfl) (fun W1 hW1 => by first | (go_simp; done) | (go_simp; omega)) hS0 (fun a' ha' => ?_)
            simp only [Act.put, List.getElem_toArray, List.getElem_cons_succ, List.getElem_cons_zero, List.setIfInBounds_toArray, List.set_cons_succ, List.set_cons_zero] at ha'
            subst ha'
            refine wpAnyH_next (i := 25) (v := IdV o.tree) rfl (by kernel_rfl) (by kernel_rfl) (by kernel_rfl) (fun _ _ _ h => h) (by kernel_rfl) (fun W1 hW1 => by exact exec_load_id rfl rfl h32 (IdAt.below q3 hW1)) hS0 (fun a' ha' => ?_)
            simp only [Act.put, List.getElem_toArray, List.getElem_cons_succ, List.getElem_cons_zero, List.setIfInBounds_toArray, List.set_cons_succ, List.set_cons_zero] at ha'
            subst ha'
            refine wpAnyH_next (i := 26) (v := .bool true) rfl (by kernel_rfl) (by kernel_rfl) (by kernel_rfl) (fun _ _ _ h => h) (by kernel_rfl) (fun W1 hW1 => by exact (exec_eqlI (x := o.tree) (y := o.tree) rfl rfl rfl h32 h32).trans (by simp)) hS0 (fun a' ha' => ?_)
            simp only [Act.put, List.getElem_toArray, List.getElem_cons_succ, List.getElem_cons_zero, List.setIfInBounds_toArray, List.set_cons_succ, List.set_cons_zero] at ha'
            subst ha'
            refine wpAnyH_next (i := 27) (v := .bool true) rfl (by kernel_rfl) (by kernel_rfl) (by kernel_rfl) (fun _ _ _ h => h) (by kernel_rfl) (fun W1 hW1 => by go_simp; done) hS0 (fun a' ha' => ?_)
            simp only [Act.put, List.getElem_toArray, List.getElem_cons_succ, List.getElem_cons_zero, List.setIfInBounds_toArray, List.set_cons_succ, List.set_cons_zero] at ha'
            subst ha'
            refine wpAnyH_next (i := 28) (v := .bool true) rfl (by kernel_rfl) (by kernel_rfl) (by kernel_rfl) (fun _ _ _ h => h) (by kernel_rfl) (fun W1 hW1 => by go_simp; done) hS0 (fun a' ha' => ?_)
            simp only [Act.put, List.getElem_toArray, List.getElem_cons_succ, List.getElem_cons_zero, List.setIfInBounds_toArray, List.set_cons_succ, List.set_cons_zero] at ha'
            subst ha'
            refine wpAnyH_fin (by kernel_rfl) ?_ _
            go_wp2_with fail
            go_ret
            exact ⟨rfl, hBw.trans (hS0.mono hBw.size)⟩
          · have e0 := kinds_tag h4
            rw [e0] at hTl hCl hN
            rw [hkd, h4] at q0
            have hx : l[0]? = some p.tg := by rw [HL.out, e0]; rfl
            obtain ⟨b, off, rfl, hat⟩ := HWR.out.at hx
            rw [← htg, Nat.zero_mul, Nat.add_zero] at hat
            subst hTl hCl hN
            clear hkd h4 e0 q2 q3 q4 hev hpv htree htg hx
            go_wp2_with fail
            refine wp_held (fun W1 => Below wr.heap.size wr W1) (by kernel_rfl) ?_
            have hS0 : Below wr.heap.size wr wr.drew := (Below.refl _ wr).drew
            refine wpAnyH_next (i := 0) (v := .bool true) rfl (by kernel_rfl) (by kernel_rfl) (by kernel_rfl) (fun _ _ _ h => h) (by kernel_rfl) (fun W1 hW1 => by go_simp; done) hS0 (fun a' ha' => ?_)
            simp only [Act.put, List.getElem_toArray, List.getElem_cons_zero, List.setIfInBounds_toArray, List.set_cons_succ, List.set_cons_zero] at ha'
            subst ha'
            refine wpAnyH_next (i := 1) (v := .bool true) rfl (by kernel_rfl) (by kernel_rfl) (by kernel_rfl) (fun _ _ _ h => h) (by kernel_rfl) (fun W1 hW1 => by go_simp; done) hS0 (fun a' ha' => ?_)
            simp only [Act.put, List.getElem_toArray, List.getElem_cons_succ, List.getElem_cons_zero, List.setIfInBounds_toArray, List.set_cons_succ, List.set_cons_zero] at ha'
            subst ha'
            refine wpAnyH_next (i := 2) (v := .slice (some ⟨b, off, none⟩) 1 c) rfl (by kernel_rfl) (by kernel_rfl) (by kernel_rfl) (fun _ _ _ h => h) (by kernel_rfl) (fun W1 hW1 => by go_simp; done) hS0 (fun a' ha' => ?_)
            simp only [Act.put, List.getElem_toArray, List.getElem_cons_succ, List.getElem_cons_zero, List.setIfInBounds_toArray, List.set_cons_succ, List.set_cons_zero] at ha'
            subst ha'
            refine wpAnyH_next (i := 3) (v := .int .i64 1) rfl (by kernel_rfl) (by kernel_rfl) (by kernel_rfl) (fun _ _ _ h => h) (by kernel_rfl) (fun W1 hW1 => by first | (go_simp; done) | (go_simp; omega)) hS0 (fun a' ha' => ?_)
            simp only [Act.put, List.getElem_toArray, List.getElem_cons_succ, List.getElem_cons_zero, List.setIfInBounds_toArray, List.set_cons_succ, List.set_cons_zero] at ha'
            subst ha'
            refine wpAnyH_next (i := 4) (v := .bool true) rfl (by kernel_rfl) (by kernel_rfl) (by kernel_rfl) (fun _ _ _ h => h) (by kernel_rfl) (fun W1 hW1 => by first | (go_simp; done) | (go_simp; omega)) hS0 (fun a' ha' => ?_)
            simp only [Act.put, List.getElem_toArray, List.getElem_cons_succ, List.getElem_cons_zero, List.setIfInBounds_toArray, List.set_cons_succ, List.set_cons_zero] at ha'
            subst ha'
            refine wpAnyH_next (i := 5) (v := .bool true) rfl (by kernel_rfl) (by kernel_rfl) (by kernel_rfl) (fun _ _ _ h => h) (by kernel_rfl) (fun W1 hW1 => by go_simp; done) hS0 (fun a' ha' => ?_)
            simp only [Act.put, List.getElem_toArray, List.getElem_cons_succ, List.getElem_cons_zero, List.setIfInBounds_toArray, List.set_cons_succ, List.set_cons_zero] at ha'
            subst ha'
            refine wpAnyH_next (i := 6) (v := .bool true) rfl (by kernel_rfl) (by kernel_rfl) (by kernel_rfl) (fun _ _ _ h => h) (by kernel_rfl) (fun W1 hW1 => by go_simp; done) hS0 (fun a' ha' => ?_)
            simp only [Act.put, List.getElem_toArray, List.getElem_cons_succ, List.getElem_cons_zero, List.setIfInBounds_toArray, List.set_cons_succ, List.set_cons_zero] at ha'
            subst ha'
            refine wpAnyH_next (i := 7) (v := .slice (some ⟨b, off, none⟩) 1 c) rfl (by kernel_rfl) (by kernel_rfl) (by kernel_rfl) (fun _ _ _ h => h) (by kernel_rfl) (fun W1 hW1 => by go_simp; done) hS0 (fun a' ha' => ?_)
            simp only [Act.put, List.getElem_toArray, List.getElem_cons_succ, List.getElem_cons_zero, List.setIfInBounds_toArray, List.set_cons_succ, List.set_cons_zero] at ha'
            subst ha'
            refine wpAnyH_next (i := 8) (v := .pointer (some ⟨b, off, none⟩)) rfl (by kernel_rfl) (by kernel_rfl) (by kernel_rfl) (fun _ _ _ h => h) (by kernel_rfl) (fun W1 hW1 => by first | (go_simp; done) | (go_simp; omega)) hS0 (fun a' ha' => ?_)
            simp only [Act.put, List.getElem_toArray, List.getElem_cons_succ, List.getElem_cons_zero, List.setIfInBounds_toArray, List.set_cons_succ, List.set_cons_zero] at ha'
            subst ha'
            refine wpAnyH_next (i := 9) (v := LkV o.tg) rfl (by kernel_rfl) (by kernel_rfl) (by kernel_rfl) (fun _ _ _ h => h) (by kernel_rfl) (fun W1 hW1 => by exact exec_load_el (E := eLk) Tryz.underlying28 rfl sizeLk rfl rfl (ElAt.below hat hW1)) hS0 (fun a' ha' => ?_)
            simp only [Act.put, List.getElem_toArray, List.getElem_cons_succ, List.getElem_cons_zero, List.setIfInBounds_toArray, List.set_cons_succ, List.set_cons_zero] at ha'
            subst ha'
            refine wpAnyH_next (i := 10) (v := .pointer (some ⟨w.heap.size, 36, none⟩)) rfl (by kernel_rfl) (by kernel_rfl) (by kernel_rfl) (fun _ _ _ h => h) (by kernel_rfl) (fun W1 hW1 => by first | (go_simp; done) | (go_simp; omega)) hS0 (fun a' ha' => ?_)
            simp only [Act.put, List.getElem_toArray, List.getElem_cons_succ, List.getElem_cons_zero, List.setIfInBounds_toArray, List.set_cons_succ, List.set_cons_zero] at ha'
            subst ha'
            refine wpAnyH_next (i := 11) (v := LkV o.tg) rfl (by kernel_rfl) (by kernel_rfl) (by kernel_rfl) (fun _ _ _ h => h) (by kernel_rfl) (fun W1 hW1 => by exact exec_load_el (E := eLk) Tryz.underlying28 rfl sizeLk rfl rfl (ElAt.below q5 hW1)) hS0 (fun a' ha' => ?_)
            simp only [Act.put, List.getElem_toArray, List.getElem_cons_succ, List.getElem_cons_zero, List.setIfInBounds_toArray, List.set_cons_succ, List.set_cons_zero] at ha'
            subst ha'
            refine wpAnyH_next (i := 12) (v := .bool true) rfl (by kernel_rfl) (by kernel_rfl) (by kernel_rfl) (fun _ _ _ h => h) (by kernel_rfl) (fun W1 hW1 => by exact (exec_eql_lk (x := o.tg) (y := o.tg) rfl rfl rfl).trans (by simp)) hS0 (fun a' ha' => ?_)
            simp only [Act.put, List.getElem_toArray, List.getElem_cons_succ, List.getElem_cons_zero, List.setIfInBounds_toArray, List.set_cons_succ, List.set_cons_zero] at ha'
            subst ha'
            refine wpAnyH_next (i := 13) (v := .bool true) rfl (by kernel_rfl) (by kernel_rfl) (by kernel_rfl) (fun _ _ _ h => h) (by kernel_rfl) (fun W1 hW1 => by go_simp; done) hS0 (fun a' ha' => ?_)
            simp only [Act.put, List.getElem_toArray, List.getElem_cons_succ, List.getElem_cons_zero, List.setIfInBounds_toArray, List.set_cons_succ, List.set_cons_zero] at ha'
            subst ha'
            refine wpAnyH_next (i := 14) (v := .bool true) rfl (by kernel_rfl) (by kernel_rfl) (by kernel_rfl) (fun _ _ _ h => h) (by kernel_rfl) (fun W1 hW1 => by go_simp; done) hS0 (fun a' ha' => ?_)
            simp only [Act.put, List.getElem_toArray, List.getElem_cons_succ, List.getElem_cons_zero, List.setIfInBounds_toArray, List.set_cons_succ, List.set_cons_zero] at ha'
            subst ha'
            refine wpAnyH_fin (by kernel_rfl) ?_ _
            go_wp2_with fail
            go_ret
            exact ⟨rfl, hBw.trans (hS0.mono hBw.size)⟩
end Go.Proofs.YtfoeelhghdonbaaGreat
